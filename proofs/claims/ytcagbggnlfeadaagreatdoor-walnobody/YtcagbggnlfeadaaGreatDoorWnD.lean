import Derived.Test.YtcagbggnlfeadaaGreatDoorWnB
import Derived.Maps.RangeWalk
import Derived.Maps.OwnSet
import Derived.Maps.Own
import Derived.Maps.Keyed
namespace Go.Proofs.YtcagbggnlfeadaaGreatDoor
open Go.RowKit Crc

/-- An element reads as itself. -/
def RVw : Value → Option (DataW Value × List MemPlace) := fun v => some (.held v, [])
theorem KDw : Maps.Keyed Tryz.prog 28 := Maps.int_keyed Tryz.underlying28
theorem k1_of : keyOf Tryz.prog 28 (.int .u64 1) = some (.int .u64 1) := Maps.keyOf_int_mk Tryz.underlying28 (by decide)
theorem zero_cont (w : World) : (zeroValue 71).run Tryz.prog w = .ok (.pointer none) w := by kernel_rfl
/-- A disk with n files; the first file is v, or there is none. -/
structure FD (lim : Nat) (W : World) (p m n : Nat) (v : Value) (b : Bool) : Prop where
  blk : W.heap[p]? = some (.cells #[.map (some m), .int .i64 (-1)] 27 (0, 0))
  map : ∃ D : DataW Value, W.ownsMap Tryz.prog 28 RVw m n D ∧ Maps.size D = n ∧ D.atKey (.int .u64 1) (.held (.pointer none)) = .held v ∧ Maps.has D (.int .u64 1) = b
  lp : lim ≤ p
  lm : lim ≤ m
theorem FD.kept {lim : Nat} {W W' : World} {p m n : Nat} {v : Value} {b : Bool} (h : FD lim W p m n v b) (hb : Below W.heap.size W W') : FD lim W' p m n v b := by
  obtain ⟨D, h1, h2⟩ := h.map
  exact ⟨(hb.block _ (block_lt h.blk)).trans h.blk, ⟨D, h1.kept (below_none hb) (by simp), h2⟩, h.lp, h.lm⟩
theorem FD.set {lim : Nat} {W : World} {p m n : Nat} {v : Value} {b : Bool} (h : FD lim W p m n v b) {q : Nat} {cs : Array Value} {t : TypeId} (hq : W.heap[q]? = some (.cells cs t (0, 0))) (ht : t ≠ 27) (i : Nat) (u : Value) : FD lim (W.setCell ⟨q, i, none⟩ u) p m n v b := by
  obtain ⟨D, h1, h2⟩ := h.map
  have e1 : p ≠ q := fun e => by have := h.blk; rw [e, hq] at this; simp at this; exact ht this.2
  have e2 : m ≠ q := fun e => by
    obtain ⟨es, k, hm, _⟩ := h1
    rw [e, hq] at hm; cases hm
  exact ⟨((grown_set W q i u).block _ (block_lt h.blk) (by simpa using e1)).trans h.blk, ⟨D, h1.kept (grown_set W q i u) (by simpa using e2), h2⟩, h.lp, h.lm⟩
theorem FD.cells {lim : Nat} {W : World} {p m n : Nat} {v : Value} {b : Bool} (h : FD lim W p m n v b) : W.cell? ⟨p, 0, none⟩ = some (.map (some m)) ∧ W.cell? ⟨p, 1, none⟩ = some (.int .i64 (-1)) ∧ p < W.heap.size := ⟨block_cell h.blk 0, block_cell h.blk 1, block_lt h.blk⟩
theorem FD.look {lim : Nat} {W : World} {p m n : Nat} {v : Value} {b : Bool} (h : FD lim W p m n v b) : (Instr.lookup 25 (.map (some m)) (.int .u64 1) true).run Tryz.prog W = .ok (.tuple #[v, .bool b]) W := by
  obtain ⟨D, h1, _, h3, h4⟩ := h.map
  obtain ⟨v', ps, hr, hv⟩ := h1.look_ok KDw Tryz.underlying25 (zero_cont W) (rfl : RVw (.pointer none) = _) k1_of
  rw [h3] at hv
  cases hv
  rw [h4] at hr
  exact hr
theorem FD.len {lim : Nat} {W : World} {p m n : Nat} {v : Value} {b : Bool} (h : FD lim W p m n v b) (ty : TypeId) : (Builtin.len_ #[25] ty #[.map (some m)]).run Tryz.prog W = .ok (.int .i64 (n : Nat)) W := by
  obtain ⟨D, h1, h2, _⟩ := h.map
  have := h1.len Tryz.underlying25 ty
  rw [h2] at this
  exact this
theorem FD.store {lim : Nat} {W : World} {p m : Nat} {v : Value} (h : FD lim W p m 0 v false) (u : Value) :
    ∃ w', (Instr.mapUpdate 25 (.map (some m)) (.int .u64 1) u).run Tryz.prog W = .ok () w' ∧ FD lim w' p m 1 u true ∧ W.grownBy w' (some m) := by
  obtain ⟨D, h1, h2, h3, h4⟩ := h.map
  have hti := h1.tidy KDw
  obtain ⟨w', hr, ho, ht⟩ := h1.store KDw Tryz.underlying25 (by unfold maxLen; omega) k1_of (rfl : RVw u = _)
  have hsz := Maps.size_put (k := .int .u64 1) hti (.held u)
  rw [h4, h2] at hsz
  have e1 : p ≠ m := fun e => by
    obtain ⟨es, k, hm, _⟩ := h1
    have := h.blk; rw [e, hm] at this; cases this
  refine ⟨w', hr, ⟨(ht.grown.block _ (block_lt h.blk) (by simpa using e1)).trans h.blk, ⟨_, ho, hsz, Maps.atKey_put_same (k := .int .u64 1) h1.isMap (show WideAt.IsKeyLit (.int .u64 1) from trivial) _ _, Maps.has_put_same h1.isMap (show WideAt.IsKeyLit (.int .u64 1) from trivial) _⟩, h.lp, h.lm⟩, ht.grown⟩
set_option maxRecDepth 10000 in
theorem newDisk0 (w : World) : Calls Tryz.prog 5 #[] w fun e w' => ∃ p m, e = .returned (.pointer (some ⟨p, 0, none⟩)) ∧ Hid (FD w.heap.size w' p m 0 (.pointer none) false ∧ Below w.heap.size w w') := by
  have hmk := fun (w : World) => run_makeMap (P := Tryz.prog) 25 w
  have FIN : Hid (∀ W, (w.alloc (.map #[] 0)).alloc (.cells #[.map (some w.heap.size), .int .i64 (-1)] 27) = W → FD w.heap.size W (w.heap.size + 1) w.heap.size 0 (.pointer none) false ∧ Below w.heap.size w W) := by
    intro W hW
    have e1 : (w.alloc (.map #[] 0)).heap.size = w.heap.size + 1 := by simp
    have b1 : Below (w.alloc (.map #[] 0)).heap.size (w.alloc (.map #[] 0)) W := by rw [← hW]; exact below_alloc1 _ _
    refine ⟨⟨by rw [← hW, ← e1]; exact alloc_atK _ _, ⟨.map [], (World.ownsMap_made w _ _ _).kept (below_none b1) (by simp), rfl, rfl, rfl⟩, by omega, Nat.le_refl _⟩, (below_alloc1 w _).trans (b1.mono (by simp))⟩
  go_enter Tryz.func5, Tryz.ntmps5
  go_wp2
  go_ret
  exact ⟨_, _, rfl, FIN.out _ rfl⟩
theorem map_someW (w : World) (r : Option Nat) : (binOp .neq 25 (.map r) (.map none)).run Tryz.prog w = .ok (.bool (!r.isNone)) w := run_neq_map_nil w _ _ _ r Tryz.underlying25
set_option maxRecDepth 10000 in
theorem madeF {lim : Nat} {W : World} {p m n : Nat} {v : Value} {b : Bool} (h : FD lim W p m n v b) : Calls Tryz.prog 24 #[.pointer (some ⟨p, 0, none⟩)] W fun e w' => e = .returned (.bool true) ∧ w' = W := by
  obtain ⟨q0, q1, ql⟩ := h.cells
  have q := map_someW
  clear h
  go_enter Tryz.func24, Tryz.ntmps24
  go_wp2
  go_ret
  exact ⟨rfl, rfl⟩
set_option maxRecDepth 10000 in
theorem aliveF {lim : Nat} {W : World} {p m n : Nat} {v : Value} {b : Bool} (h : FD lim W p m n v b) : Calls Tryz.prog 32 #[.pointer (some ⟨p, 0, none⟩)] W fun e w' => e = .returned (.int .i64 0) ∧ w' = W := by
  have HM := hide (madeF h)
  obtain ⟨q0, q1, ql⟩ := h.cells
  clear h
  go_enter Tryz.func32, Tryz.ntmps32
  go_wp2_with fail
  refine HM.out.mono ?_
  rintro e w1 ⟨rfl, rfl⟩
  go_wp2
  go_ret
  exact ⟨rfl, rfl⟩
set_option maxRecDepth 10000 in
theorem findF0 {lim : Nat} {W : World} {p m n : Nat} {v : Value} (h : FD lim W p m n v false) : Calls Tryz.prog 35 #[.pointer (some ⟨p, 0, none⟩), .int .u64 1] W fun e w' => e = .returned (.tuple #[.pointer none, .int .i64 163]) ∧ w' = W := by
  obtain ⟨q0, q1, ql⟩ := h.cells
  have hl := h.look
  clear h
  go_enter Tryz.func35, Tryz.ntmps35
  go_wp2
  go_ret2
  exact ⟨rfl, rfl⟩
set_option maxRecDepth 10000 in
theorem findF1 {lim : Nat} {W : World} {p m n : Nat} {v : Value} (h : FD lim W p m n v true) : Calls Tryz.prog 35 #[.pointer (some ⟨p, 0, none⟩), .int .u64 1] W fun e w' => e = .returned (.tuple #[v, .int .i64 0]) ∧ w' = W := by
  obtain ⟨q0, q1, ql⟩ := h.cells
  have hl := h.look
  clear h
  go_enter Tryz.func35, Tryz.ntmps35
  go_wp2
  go_ret2
  exact ⟨rfl, rfl⟩
set_option maxRecDepth 10000 in
theorem burnF {lim : Nat} {W : World} {p m n : Nat} {v : Value} {b : Bool} (h : FD lim W p m n v b) : Calls Tryz.prog 36 #[.pointer (some ⟨p, 0, none⟩)] W fun e w' => e = .returned (.tuple #[]) ∧ w' = W := by
  obtain ⟨q0, q1, ql⟩ := h.cells
  clear h
  go_enter Tryz.func36, Tryz.ntmps36
  go_wp2
  go_end0
  exact ⟨rfl, rfl⟩
set_option maxRecDepth 10000 in
theorem writableF {lim : Nat} {W : World} {p m n : Nat} {v : Value} (h : FD lim W p m n v true) : Calls Tryz.prog 37 #[.pointer (some ⟨p, 0, none⟩), .int .u64 1] W fun e w' => e = .returned (.tuple #[v, .int .i64 0]) ∧ w' = W := by
  have HM := hide (aliveF h)
  have HF := hide (findF1 h)
  clear h
  go_enter Tryz.func37, Tryz.ntmps37
  go_wp2_with fail
  refine HM.out.mono ?_
  rintro e w1 ⟨rfl, hw⟩
  rw [hw]
  go_wp2_with fail
  refine HF.out.mono ?_
  rintro e w1 ⟨rfl, rfl⟩
  go_wp2
  go_ret2
  exact ⟨rfl, rfl⟩
set_option maxRecDepth 10000 in
theorem insist0 (w : World) : Calls Tryz.prog 47 #[.int .i64 0] w fun e w' => e = .returned (.tuple #[]) ∧ w' = w := by
  go_enter Tryz.func47, Tryz.ntmps47
  go_wp2
  go_end0
  exact ⟨rfl, rfl⟩
end Go.Proofs.YtcagbggnlfeadaaGreatDoor
