import Derived.Test.YthfbimbadkmhhaaMJVa
import Derived.Test.YthfbimbadkmhhaaMEBt
namespace Go.Proofs.Ythfbimbadkmhhaa
open Go.ChangeShapes Go.WideShapes Go.ChangeAt Go.RowKit Go.Deep Crc

theorem cellsKd : Try.prog.cellsOf 42 = 1 := by kernel_rfl
theorem cellsVs : Try.prog.cellsOf 43 = 1 := by kernel_rfl
theorem cellsEr : Try.prog.cellsOf 44 = 1 := by kernel_rfl
theorem cellsBo : Try.prog.cellsOf 4 = 1 := by kernel_rfl
theorem cellsHl : Try.prog.cellsOf 47 = 1 := by kernel_rfl
theorem cellsMs : Try.prog.cellsOf 49 = 49 := by kernel_rfl
theorem list16 {α : Type} {l : List α} (h : l.length = 16) : ∃ y0 y1 y2 y3 y4 y5 y6 y7 y8 y9 y10 y11 y12 y13 y14 y15, l = [y0, y1, y2, y3, y4, y5, y6, y7, y8, y9, y10, y11, y12, y13, y14, y15] := by
  match l, h with
  | [y0, y1, y2, y3, y4, y5, y6, y7, y8, y9, y10, y11, y12, y13, y14, y15], _ => exact ⟨y0, y1, y2, y3, y4, y5, y6, y7, y8, y9, y10, y11, y12, y13, y14, y15, rfl⟩
theorem peel (L : List Value) (a c : Nat) {p : List Value} (h : (L.drop a).take c = p) : L.drop a = p ++ L.drop (a + c) := by
  rw [← h, ← List.drop_drop, List.take_append_drop]
theorem at_take {L : List Value} {a c : Nat} {p : List Value} (h : (L.drop a).take c = p) {j : Nat} (hj : j < c) : L[a + j]? = p[j]? := by
  rw [← h, List.getElem?_take, if_pos hj, List.getElem?_drop]
/-- The message that came in. -/
theorem view_msgE {H : Type} {enc : TypeId × Value → H} {W : World} {fuel : Nat} {L : List Value} {x : DataW H × List MemPlace}
    (h : DataW.trod enc Try.prog W 0 (fun _ => true) true fuel 49 L = some x) (hr : ∀ n ∈ x.1.weights Try.prog 49, n ≤ reachBytes) :
    ∃ kind num node susp, MsgC L kind num node susp ∧ ∀ v ∈ L, v.oneCell' = true := by
  obtain ⟨xs, n, _, rfl, hl, hlen, hf⟩ := DataW.trod_struct Try.underlying49 h
  clear h
  rw [cellsMs] at hl
  have hlen : xs.length = 16 := hlen
  obtain ⟨y0, y1, y2, y3, y4, y5, y6, y7, y8, y9, y10, y11, y12, y13, y14, y15, rfl⟩ := list16 hlen
  have e0 : DataW.trod enc Try.prog W 0 (fun _ => true) true n 42 ((L.drop 0).take (Try.prog.cellsOf 42)) = some y0 := hf 0 _ rfl
  rw [cellsKd] at e0
  have e1 : DataW.trod enc Try.prog W 0 (fun _ => true) true n 33 ((L.drop 1).take (Try.prog.cellsOf 33)) = some y1 := hf 1 _ rfl
  rw [cellsBl] at e1
  have e2 : DataW.trod enc Try.prog W 0 (fun _ => true) true n 22 ((L.drop 3).take (Try.prog.cellsOf 22)) = some y2 := hf 2 _ rfl
  rw [cellsU64] at e2
  have e3 : DataW.trod enc Try.prog W 0 (fun _ => true) true n 22 ((L.drop 4).take (Try.prog.cellsOf 22)) = some y3 := hf 3 _ rfl
  rw [cellsU64] at e3
  have e4 : DataW.trod enc Try.prog W 0 (fun _ => true) true n 43 ((L.drop 5).take (Try.prog.cellsOf 43)) = some y4 := hf 4 _ rfl
  rw [cellsVs] at e4
  have e5 : DataW.trod enc Try.prog W 0 (fun _ => true) true n 40 ((L.drop 6).take (Try.prog.cellsOf 40)) = some y5 := hf 5 _ rfl
  rw [cellsBt] at e5
  have e6 : DataW.trod enc Try.prog W 0 (fun _ => true) true n 22 ((L.drop 8).take (Try.prog.cellsOf 22)) = some y6 := hf 6 _ rfl
  rw [cellsU64] at e6
  have e7 : DataW.trod enc Try.prog W 0 (fun _ => true) true n 22 ((L.drop 9).take (Try.prog.cellsOf 22)) = some y7 := hf 7 _ rfl
  rw [cellsU64] at e7
  have e8 : DataW.trod enc Try.prog W 0 (fun _ => true) true n 44 ((L.drop 10).take (Try.prog.cellsOf 44)) = some y8 := hf 8 _ rfl
  rw [cellsEr] at e8
  have e9 : DataW.trod enc Try.prog W 0 (fun _ => true) true n 35 ((L.drop 11).take (Try.prog.cellsOf 35)) = some y9 := hf 9 _ rfl
  rw [cellsBs] at e9
  have e10 : DataW.trod enc Try.prog W 0 (fun _ => true) true n 35 ((L.drop 12).take (Try.prog.cellsOf 35)) = some y10 := hf 10 _ rfl
  rw [cellsBs] at e10
  have e11 : DataW.trod enc Try.prog W 0 (fun _ => true) true n 4 ((L.drop 13).take (Try.prog.cellsOf 4)) = some y11 := hf 11 _ rfl
  rw [cellsBo] at e11
  have e12 : DataW.trod enc Try.prog W 0 (fun _ => true) true n 22 ((L.drop 14).take (Try.prog.cellsOf 22)) = some y12 := hf 12 _ rfl
  rw [cellsU64] at e12
  have e13 : DataW.trod enc Try.prog W 0 (fun _ => true) true n 22 ((L.drop 15).take (Try.prog.cellsOf 22)) = some y13 := hf 13 _ rfl
  rw [cellsU64] at e13
  have e14 : DataW.trod enc Try.prog W 0 (fun _ => true) true n 46 ((L.drop 16).take (Try.prog.cellsOf 46)) = some y14 := hf 14 _ rfl
  rw [cellsHs] at e14
  have e15 : DataW.trod enc Try.prog W 0 (fun _ => true) true n 47 ((L.drop 48).take (Try.prog.cellsOf 47)) = some y15 := hf 15 _ rfl
  rw [cellsHl] at e15
  clear hf hlen
  have hr : ∀ n ∈ DataW.weightsEach Try.prog [42, 33, 22, 22, 43, 40, 22, 22, 44, 35, 35, 4, 22, 22, 46, 47] [y0.1, y1.1, y2.1, y3.1, y4.1, y5.1, y6.1, y7.1, y8.1, y9.1, y10.1, y11.1, y12.1, y13.1, y14.1, y15.1], n ≤ reachBytes := by
    intro n hn
    refine hr n ?_
    simp only [DataW.weights, Try.underlying49]
    exact hn
  obtain ⟨kind, k0, _, _⟩ := DataW.trod_int Try.underlying42 e0
  obtain ⟨num, node, k1, hnum⟩ := view_ballotL e1
  obtain ⟨s2, k2, _, w2⟩ := DataW.trod_int Try.underlying22 e2
  obtain ⟨s3, k3, _, w3⟩ := DataW.trod_int Try.underlying22 e3
  obtain ⟨vo, vn, vc, k4⟩ := view_any Try.underlying43 e4
  obtain ⟨st, ro, rc, rs, b, off, k5, hst, hR⟩ := view_batchL e5 (fun n hn => hr n (DataW.weights_mem_each (j := 5) rfl rfl n hn))
  obtain ⟨s6, k6, _, w6⟩ := DataW.trod_int Try.underlying22 e6
  obtain ⟨s7, k7, _, w7⟩ := DataW.trod_int Try.underlying22 e7
  obtain ⟨code, k8, _, w8⟩ := DataW.trod_int Try.underlying44 e8
  obtain ⟨co, cn, cc, k9⟩ := view_any Try.underlying35 e9
  obtain ⟨do_, dn, dc, k10⟩ := view_any Try.underlying35 e10
  obtain ⟨sus, k11, _⟩ := DataW.trod_bool Try.underlying4 e11
  obtain ⟨s12, k12, _, w12⟩ := DataW.trod_int Try.underlying22 e12
  obtain ⟨s13, k13, _, w13⟩ := DataW.trod_int Try.underlying22 e13
  obtain ⟨root, k14, rl, rb⟩ := view_hash e14
  obtain ⟨po, pn, pc, k15⟩ := view_any Try.underlying47 e15
  clear e0 e1 e2 e3 e4 e5 e6 e7 e8 e9 e10 e11 e12 e13 e14 e15 hr w2 w3 w6 w7 w8 w12 w13
  refine ⟨kind, num, node, sus, ⟨hl, at_take k0 (j := 0) (by decide), at_take k1 (j := 0) (by decide), at_take k1 (j := 1) (by decide), at_take k11 (j := 0) (by decide), hnum⟩, ?_⟩
  have q0 := peel L 0 1 k0
  have q1 := peel L 1 2 k1
  have q2 := peel L 3 1 k2
  have q3 := peel L 4 1 k3
  have q4 := peel L 5 1 k4
  have q5 := peel L 6 2 k5
  have q6 := peel L 8 1 k6
  have q7 := peel L 9 1 k7
  have q8 := peel L 10 1 k8
  have q9 := peel L 11 1 k9
  have q10 := peel L 12 1 k10
  have q11 := peel L 13 1 k11
  have q12 := peel L 14 1 k12
  have q13 := peel L 15 1 k13
  have q14 := peel L 16 32 k14
  have q15 := peel L 48 1 k15
  have q16 : L.drop 49 = [] := List.drop_eq_nil_of_le (by omega)
  have e2 : L = L.drop 0 := rfl
  intro v hv
  have hv' : v ∈ L := hv
  rw [e2, q0, q1, q2, q3, q4, q5, q6, q7, q8, q9, q10, q11, q12, q13, q14, q15, q16] at hv'
  simp only [List.mem_append, List.mem_cons, List.not_mem_nil, or_false] at hv'
  have hroot : ∀ v ∈ vals root, v.oneCell' = true := vals_one' root
  rcases hv' with rfl | hv'
  · rfl
  rcases hv' with hv' | hv'
  · rcases hv' with rfl | rfl <;> rfl
  rcases hv' with rfl | hv'
  · rfl
  rcases hv' with rfl | hv'
  · rfl
  rcases hv' with rfl | hv'
  · rfl
  rcases hv' with hv' | hv'
  · rcases hv' with rfl | rfl <;> rfl
  rcases hv' with rfl | hv'
  · rfl
  rcases hv' with rfl | hv'
  · rfl
  rcases hv' with rfl | hv'
  · rfl
  rcases hv' with rfl | hv'
  · rfl
  rcases hv' with rfl | hv'
  · rfl
  rcases hv' with rfl | hv'
  · rfl
  rcases hv' with rfl | hv'
  · rfl
  rcases hv' with rfl | hv'
  · rfl
  rcases hv' with hv' | rfl
  · exact hroot v hv'
  · rfl
end Go.Proofs.Ythfbimbadkmhhaa
