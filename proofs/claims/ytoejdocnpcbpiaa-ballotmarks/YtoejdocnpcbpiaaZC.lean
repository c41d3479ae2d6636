import Derived.Test.YtoejdocnpcbpiaaZA
namespace Go.Proofs.Ytoejdocnpcbpiaa
open Go.RowKit

theorem RowF.kept {W V : World} {g cap n : Nat} {D : Nat → Nat} (h : RowF W g cap n D) (e : V.heap[g]? = W.heap[g]?) : RowF V g cap n D := by
  obtain ⟨cur, h1, h2⟩ := h
  exact ⟨cur, e.trans h1, h2⟩
/-- The numbers lie as they lay; the count of swaps lies at p. -/
structure ZP (B : Nat) (w : World) (g cap n p : Nat) (D : Nat → Nat) (W : World) : Prop where
  row : RowF W g cap n D
  sw : ∃ t : Int, W.heap[p]? = some (.cells #[.int .i64 t] 3 (0, 0))
  bel : Below B w W
theorem ZP.drewN {B : Nat} {w : World} {g cap n p : Nat} {D : Nat → Nat} {W : World} (h : ZP B w g cap n p D W) (q : Nat) : ZP B w g cap n p D (W.drewN q) := by
  refine ⟨h.row.kept (by simp), ?_, Go.below_drewN h.bel q⟩
  obtain ⟨t, ht⟩ := h.sw
  exact ⟨t, by simpa using ht⟩
theorem ZP.set {B : Nat} {w : World} {g cap n p : Nat} {D : Nat → Nat} {W : World} (h : ZP B w g cap n p D W) (hp : B ≤ p) (t : Int) : ZP B w g cap n p D (W.setCell ⟨p, 0, none⟩ (.int .i64 t)) := by
  obtain ⟨s, hs⟩ := h.sw
  have hne : g ≠ p := fun e => by
    obtain ⟨cur, h1, _⟩ := h.row
    rw [e, hs] at h1
    cases h1
  refine ⟨h.row.kept ?_, ⟨t, ?_⟩, h.bel.setCell (p := ⟨p, 0, none⟩) hp _⟩
  · exact heap_setCell_other W _ _ _ hne
  · have h := heap_setCell_same W p 0 _ _ (.int .i64 t) hs
    simpa using h
theorem ZP.trans {B : Nat} {w : World} {g cap n p : Nat} {D : Nat → Nat} {W V : World} (h : ZP B w g cap n p D W) (h' : ZP B W g cap n p D V) : ZP B w g cap n p D V := ⟨h'.row, h'.sw, h.bel.trans h'.bel⟩
set_option maxRecDepth 100000 in
set_option maxHeartbeats 1000000 in
theorem order2Z (B g cap n a b p : Nat) (D : Nat → Nat) (ha : a < n) (hb : b < n) (hpB : B ≤ p) (w : World) (hr : ZP B w g cap n p D w) :
    Calls Try.prog 40 #[.slice (some ⟨g, 0, none⟩) n cap, .int .i64 (a : Nat), .int .i64 (b : Nat), .pointer (some ⟨p, 0, none⟩)] w fun e w' => ∃ (x y : Nat), e = .returned (.tuple #[.int .i64 (x : Nat), .int .i64 (y : Nat)]) ∧ Hid (((x = a ∧ y = b) ∨ (x = b ∧ y = a)) ∧ ZP B w g cap n p D w') := by
  have HL := hide lessZ
  have HZ := hide hr
  obtain ⟨x, hx⟩ : ∃ x, D a = x := ⟨_, rfl⟩
  obtain ⟨z, hz⟩ : ∃ z, D b = z := ⟨_, rfl⟩
  have y0 : w.cell? ⟨g, a, none⟩ = some (.int .u64 (x : Int)) := by rw [← hx]; exact hr.row.cell ha
  have y1 : w.cell? ⟨g, b, none⟩ = some (.int .u64 (z : Int)) := by rw [← hz]; exact hr.row.cell hb
  have y2 : g < w.heap.size := hr.row.lt
  clear hr hx hz
  go_enter Try.func40, Try.ntmps40
  by_cases hd : z < x
  · go_upto_region 1 with fail
    go_quiet (first | (go_at_call 29; refine Calls.quiet_of_same (HL.out _ _ _)))
    have HZ2 := hide (HZ.out.drewN nq)
    obtain ⟨t, ht⟩ := HZ2.out.sw
    have c0 := block_cell ht 0
    have c1 := block_free ht 0
    have c2 := block_lt ht
    simp only [List.getElem?_toArray, List.getElem?_cons_zero] at c0
    clear y0 y1 y2 ht HZ
    generalize w.drewN nq = W3 at *
    go_wp2
    go_ret2
    exact ⟨b, a, rfl, .inr ⟨rfl, rfl⟩, HZ2.out.set hpB _⟩
  · go_upto_region 1 with fail
    go_quiet (first | (go_at_call 29; refine Calls.quiet_of_same (HL.out _ _ _)))
    have HZ2 := hide (HZ.out.drewN nq)
    clear y0 y1 y2 HZ
    generalize w.drewN nq = W3 at *
    go_wp2
    go_ret2
    exact ⟨a, b, rfl, .inl ⟨rfl, rfl⟩, HZ2.out⟩
end Go.Proofs.Ytoejdocnpcbpiaa
