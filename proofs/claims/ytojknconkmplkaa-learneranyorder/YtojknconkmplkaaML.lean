import Derived.RangeFuncFrom
import Derived.RangeFuncBox
import Derived.Test.YtojknconkmplkaaBSb
import Derived.Test.YtojknconkmplkaaMB
import Derived.Test.YtojknconkmplkaaMH
namespace Go.Proofs.Ytojknconkmplkaa
open Go.RowKit Go.Shelf
attribute [local go_sem] Oper.semAt_some

def encU (x : Nat) : Value := .int .u64 (x : Int)
/-- Numbers as they lie. -/
def Us (W : World) (b off : Nat) (xs : List Nat) : Prop := ∀ (i x : Nat), xs[i]? = some x → W.cell? ⟨b, off + i, none⟩ = some (.int .u64 (x : Int))
/-- What a round keeps: all that lies below B. -/
def KpU (B : Nat) (W W' : World) : Prop := ∀ (b o : Nat) (v : Value), b < B → W.cell? ⟨b, o, none⟩ = some v → W'.cell? ⟨b, o, none⟩ = some v
theorem kpU_t {B : Nat} {A C D : World} (h : KpU B A C) (k : KpU B C D) : KpU B A D := fun b o v hb hv => k b o v hb (h b o v hb hv)
theorem kpU_b {B : Nat} {w : World} (W : World) (l : Nat) (o o' : Obj) (_ : w.heap.size ≤ l) (h : W.heap[l]? = some o) (hc : o.isCells = false) (_ : o.isWalk = false) : KpU B W (W.putObj l o') := fun _ _ _ _ hv =>
  cell_kept hv (grownBy_putObj' W l o') (fun r e => by cases e; exact ⟨o, h, hc⟩)
theorem Us.kept {B : Nat} {W W' : World} {b off : Nat} {xs : List Nat} (h : Us W b off xs) (k : KpU B W W') (hb : 0 < xs.length → b < B) : Us W' b off xs := fun i x hi =>
  k b _ _ (hb (by have := (List.getElem?_eq_some_iff.1 hi).1; omega)) (h i x hi)
theorem take_snoc {α : Type} {xs : List α} {k : Nat} {x : α} (h : xs[k]? = some x) : xs.take k ++ [x] = xs.take (k + 1) := by
  rw [List.take_add_one, h]; rfl
end Go.Proofs.Ytojknconkmplkaa
namespace Go.Proofs.Ytojknconkmplkaa
open Go.RowKit Go.Shelf
attribute [local go_sem] Oper.semAt_some

theorem infoU64 : (Try.prog.info? 22).map (fun i => (i.zero, i.size, i.bytes)) = some (some (.int .u64 0), 1, 8) := by kernel_rfl
/-- A row of cells abides what turns no cells. -/
theorem ownsRow_abides {base size k : Nat} {e : TypeId} {W W' : World} {v : Value} {xs : List Value} {row : Option Nat} (h : W.ownsRow base e size v k xs) (hg : W.grownBy W' row) (hr : ∀ r, row = some r → ∃ o : Obj, W.heap[r]? = some o ∧ o.isCells = false) : W'.ownsRow base e size v k xs := by
  refine h.kept hg ?_
  cases hv : v.ownBlock with
  | none => exact .inl rfl
  | some g =>
    refine .inr (fun e => ?_)
    obtain ⟨o, h1, h2⟩ := hr g e.symm
    rcases h.2 with ⟨rfl, _⟩ | ⟨g', cap, cur, rfl, _, hb, _⟩
    · cases hv
    · cases hv
      rw [hb] at h1
      cases h1
      cases h2
/-- While AppendSeq goes: the box, and what has come so far. -/
structure AQ (w : World) (Bs : Nat) (pre : List Nat) (W : World) : Prop where
  bx : ∃ v, W.heap[Bs]? = some (.cells #[v] 88 (0, 0)) ∧ W.ownsRow w.heap.size 22 1 v pre.length (pre.map encU)
  bel : Below w.heap.size w W
theorem AQ.grown {w : World} {Bs : Nat} {pre : List Nat} {W W' : World} {row : Option Nat} (h : AQ w Bs pre W) (hg : W.grownBy W' row) (hr : ∀ r, row = some r → w.heap.size + 1 ≤ r ∧ ∃ o : Obj, W.heap[r]? = some o ∧ o.isCells = false) : AQ w Bs pre W' := by
  obtain ⟨v, h1, h2⟩ := h.bx
  refine ⟨⟨v, (hg.block _ (block_lt h1) (fun e => ?_)).trans h1, ownsRow_abides h2 hg (fun r e => (hr r e).2)⟩, h.bel.grown hg h.bel.size (fun k e => Nat.le_trans (Nat.le_succ _) (hr k e).1)⟩
  obtain ⟨o, h3, h4⟩ := (hr Bs e.symm).2
  rw [h1] at h3
  cases h3
  cases h4
theorem row_boxU {base k : Nat} {w : World} {v : Value} {xs : List Value} {j : Nat} {X : Array Value} (h : w.ownsRow base 22 1 v k xs) (hX : w.heap[j]? = some (.cells X 88 (0, 0))) : v.ownBlock ≠ some j := fun e => by
  rcases h.2 with ⟨rfl, _⟩ | ⟨g', cap, cur, rfl, _, hb, _⟩
  · cases e
  · cases e
    rw [hb] at hX
    cases hX
end Go.Proofs.Ytojknconkmplkaa
namespace Go.Proofs.Ytojknconkmplkaa
open Go.RowKit

set_option maxRecDepth 10000 in
set_option maxHeartbeats 800000 in
theorem isNaN_any (x : Int) (w : World) : Calls Try.prog 76 #[.int .u64 x] w fun e w' => e = .returned (.bool false) ∧ w' = w := by
  go_enter Try.func76, Try.ntmps76
  go_wp2
  go_ret
  exact ⟨rfl, rfl⟩
set_option maxRecDepth 10000 in
set_option maxHeartbeats 800000 in
theorem cless_any (x y : Int) (w : World) : Calls Try.prog 65 #[.int .u64 x, .int .u64 y] w fun e w' => e = .returned (.bool (decide (x < y))) ∧ w' = w := by
  have HN := hide isNaN_any
  go_enter Try.func65, Try.ntmps65
  go_wp2_with (go_at_call 76; refine (HN.out _ _).mono ?_; rintro e w' ⟨rfl, rfl⟩)
  go_ret
  exact ⟨rfl, rfl⟩
end Go.Proofs.Ytojknconkmplkaa
