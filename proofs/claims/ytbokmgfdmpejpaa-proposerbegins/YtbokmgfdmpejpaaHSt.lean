import Derived.Test.YtbokmgfdmpejpaaHRf
namespace Go.Proofs.Ytbokmgfdmpejpaa
open Go.RowKit

/-- A region out of a function's body. -/
def findRegion (n : Nat) : Code → Option Code
  | .region i ops d => if i = n then some (.region i ops d) else none
  | .seq a b => match findRegion n a with
    | some c => some c
    | none => findRegion n b
  | .block _ c => findRegion n c
  | .scope c => findRegion n c
  | .loop c => findRegion n c
  | .cond _ a b => match findRegion n a with
    | some c => some c
    | none => findRegion n b
  | _ => none
/-- The first loop of a body. -/
def loopOf : Code → Option Code
  | .loop c => some (.loop c)
  | .seq a b => match loopOf a with
    | some c => some c
    | none => loopOf b
  | .block _ c => loopOf c
  | .scope c => loopOf c
  | .cond _ a b => match loopOf a with
    | some c => some c
    | none => loopOf b
  | _ => none
set_option maxRecDepth 10000 in
set_option maxHeartbeats 800000 in
theorem twinR_nil (w : World) : Calls Try.prog 42 #[.slice none 0 0] w fun e w' => e = .returned (.slice none 0 0) ∧ w' = w := by
  go_enter Try.func42, Try.ntmps42
  go_wp2
  refine wp_loop_rounds 1 ?_
  rw [rounds_succ]
  go_wp2
  go_ret
  exact ⟨rfl, rfl⟩
set_option maxRecDepth 10000 in
set_option maxHeartbeats 800000 in
theorem twinV_nil (w : World) : Calls Try.prog 43 #[.slice none 0 0] w fun e w' => e = .returned (.slice none 0 0) ∧ w' = w := by
  go_enter Try.func43, Try.ntmps43
  go_wp2
  refine wp_loop_rounds 1 ?_
  rw [rounds_succ]
  go_wp2
  go_ret
  exact ⟨rfl, rfl⟩
/-- The state of an idle proposer. -/
def scells (n : Nat) (m : Int) : Array Value := #[.int .i64 0, .int .u64 (n : Nat), .int .i64 m, .int .u64 0, .slice none 0 0, .slice none 0 0, .slice none 0 0, .slice none 0 0, .bool false, .int .u64 0]
/-- While State makes the state: the proposer, the state (block ps), the result's box. -/
structure SS (w : World) (p g : Nat) (c : Cf) (me : Int) (n : Nat) (m : Int) (ps : Nat) (V : World) : Prop where
  pp : PP V p g c me n m
  st : V.heap[ps]? = some (.cells (scells n m) 70 (0, 0))
  res : V.heap[w.heap.size]? = some (.cells #[.int .i64 0, .int .u64 0, .int .i64 0, .int .u64 0, .slice none 0 0, .slice none 0 0, .slice none 0 0, .slice none 0 0, .bool false, .int .u64 0] 70 (0, 0))
  bel : Below w.heap.size w V
  le : w.heap.size ≤ ps
  ne : w.heap.size ≠ ps
theorem SS.kept {w : World} {p g : Nat} {c : Cf} {me : Int} {n : Nat} {m : Int} {ps : Nat} {V V' : World} (h : SS w p g c me n m ps V) (hb : Below V.heap.size V V') : SS w p g c me n m ps V' :=
  ⟨h.pp.kept hb, (hb.block _ (block_lt h.st)).trans h.st, (hb.block _ (block_lt h.res)).trans h.res, h.bel.trans (hb.mono h.bel.size), h.le, h.ne⟩
theorem SS.drew {w : World} {p g : Nat} {c : Cf} {me : Int} {n : Nat} {m : Int} {ps : Nat} {V : World} (h : SS w p g c me n m ps V) : SS w p g c me n m ps V.drew := h.kept (Below.refl _ V).drew
/-- What is there already is written again. -/
theorem SS.same {w : World} {p g : Nat} {c : Cf} {me : Int} {n : Nat} {m : Int} {ps : Nat} {V : World} (h : SS w p g c me n m ps V) (i : Nat) {v : Value} (hi : (scells n m).setIfInBounds i v = scells n m) : SS w p g c me n m ps (V.setCell ⟨ps, i, none⟩ v) := by
  have b1 : (V.setCell ⟨ps, i, none⟩ v).heap[ps]? = some (.cells (scells n m) 70 (0, 0)) := by
    have := heap_setCell_same V ps i _ _ v h.st
    rw [hi] at this
    exact this
  have e : (V.setCell ⟨ps, i, none⟩ v).heap = V.heap := by
    apply Array.ext_getElem?
    intro j
    by_cases hj : j = ps
    · rw [hj, b1, h.st]
    · rcases Nat.lt_or_ge j V.heap.size with hl | hg
      · exact (grown_set V ps i v).block _ hl (fun e => hj (Option.some.inj e))
      · rw [Array.getElem?_eq_none hg, Array.getElem?_eq_none (by simpa using hg)]
  refine ⟨⟨by rw [e]; exact h.pp.blk, ?_⟩, b1, by rw [e]; exact h.res, h.bel.setCell (p := ⟨ps, i, none⟩) h.le v, h.le, h.ne⟩
  obtain ⟨q, e1, h2⟩ := h.pp.grp
  exact ⟨q, e1, by rw [e]; exact h2⟩
end Go.Proofs.Ytbokmgfdmpejpaa
