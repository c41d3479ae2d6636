import Derived.Test.YthfbimbadkmhhaaMIO
import Derived.Test.YthfbimbadkmhhaaMIK
namespace Go.Proofs.Ythfbimbadkmhhaa
open Go.ChangeShapes Go.WideShapes Go.ChangeAt Go.RowKit Go.Deep Crc

theorem cellsOp : Try.prog.cellsOf 51 = 57 := by kernel_rfl
theorem bytesOp : Try.prog.bytesOf 51 = 344 := by kernel_rfl
theorem cellsAdE : Try.prog.cellsOf 41 = 1 := by kernel_rfl
theorem list6E {α : Type} {l : List α} (h : l.length = 6) : ∃ a b c d e f, l = [a, b, c, d, e, f] := by
  match l, h with
  | [a, b, c, d, e, f], _ => exact ⟨a, b, c, d, e, f, rfl⟩
/-- An Op that came in. -/
theorem view_op {H : Type} {enc : TypeId × Value → H} {W : World} {fuel : Nat} {L : List Value} {x : DataW H × List MemPlace}
    (h : DataW.trod enc Try.prog W 0 (fun _ => true) true fuel 51 L = some x) (hr : ∀ n ∈ x.1.weights Try.prog 51, n ≤ reachBytes) :
    ∃ o : Oq, o.oc = L ∧ o.Ok W.heap.size W := by
  obtain ⟨xs, n, _, rfl, hl, hlen, hf⟩ := DataW.trod_struct Try.underlying51 h
  clear h
  rw [cellsOp] at hl
  have hlen : xs.length = 6 := hlen
  obtain ⟨y0, y1, y2, y3, y4, y5, rfl⟩ := list6E hlen
  have e0 : DataW.trod enc Try.prog W 0 (fun _ => true) true n 3 ((L.drop 0).take (Try.prog.cellsOf 3)) = some y0 := hf 0 _ rfl
  rw [cellsInt] at e0
  have e1 : DataW.trod enc Try.prog W 0 (fun _ => true) true n 37 ((L.drop 1).take (Try.prog.cellsOf 37)) = some y1 := hf 1 _ rfl
  rw [cellsRq] at e1
  have e2 : DataW.trod enc Try.prog W 0 (fun _ => true) true n 40 ((L.drop 4).take (Try.prog.cellsOf 40)) = some y2 := hf 2 _ rfl
  rw [cellsBt] at e2
  have e3 : DataW.trod enc Try.prog W 0 (fun _ => true) true n 41 ((L.drop 6).take (Try.prog.cellsOf 41)) = some y3 := hf 3 _ rfl
  rw [cellsAdE] at e3
  have e4 : DataW.trod enc Try.prog W 0 (fun _ => true) true n 49 ((L.drop 7).take (Try.prog.cellsOf 49)) = some y4 := hf 4 _ rfl
  rw [cellsMs] at e4
  have e5 : DataW.trod enc Try.prog W 0 (fun _ => true) true n 22 ((L.drop 56).take (Try.prog.cellsOf 22)) = some y5 := hf 5 _ rfl
  rw [cellsU64] at e5
  have hr : ∀ n ∈ DataW.weightsEach Try.prog [3, 37, 40, 41, 49, 22] [y0.1, y1.1, y2.1, y3.1, y4.1, y5.1], n ≤ reachBytes := by
    intro n hn
    refine hr n ?_
    simp only [DataW.weights, Try.underlying51]
    exact hn
  obtain ⟨kd, k0, _, _⟩ := DataW.trod_int Try.underlying3 e0
  obtain ⟨r, k1, hrq⟩ := view_request e1 (fun n hn => hr n (DataW.weights_mem_each (j := 1) rfl rfl n hn))
  obtain ⟨st, ro, rc, rs, b, off, k2, _, hRs⟩ := view_batchL e2 (fun n hn => hr n (DataW.weights_mem_each (j := 2) rfl rfl n hn))
  obtain ⟨s3, k3, _, w3⟩ := DataW.trod_int Try.underlying41 e3
  obtain ⟨kind, num, node, susp, hm, hone⟩ := view_msgE e4 (fun n hn => hr n (DataW.weights_mem_each (j := 4) rfl rfl n hn))
  obtain ⟨s5, k5, _, w5⟩ := DataW.trod_int Try.underlying22 e5
  have b3 := bounds_u64 w3
  have b5 := bounds_u64 w5
  obtain ⟨src, rfl⟩ := Int.eq_ofNat_of_zero_le b3.1
  obtain ⟨now, rfl⟩ := Int.eq_ofNat_of_zero_le b5.1
  have hmid : ∀ j, j < 49 → L[7 + j]? = ((L.drop 7).take 49)[j]? := fun j hj => by
    rw [List.getElem?_take, if_pos hj, List.getElem?_drop]
  refine ⟨⟨L, kd, r, st, ro, rc, rs, b, off, src, (L.drop 7).take 49, kind, num, node, susp, now⟩, rfl, ⟨hl, ?_, at_take k0 (j := 0) (by decide), at_take k1 (j := 0) (by decide), at_take k1 (j := 1) (by decide), at_take k1 (j := 2) (by decide), at_take k2 (j := 0) (by decide), at_take k2 (j := 1) (by decide), at_take k3 (j := 0) (by decide), hmid, at_take k5 (j := 0) (by decide), hm, by show src < _; omega, by show now < _; omega, hrq, hRs⟩⟩
  have q0 := peel L 0 1 k0
  have q1 := peel L 1 3 k1
  have q2 := peel L 4 2 k2
  have q3 := peel L 6 1 k3
  have q4 := peel L 7 49 (rfl : (L.drop 7).take 49 = _)
  have q5 := peel L 56 1 k5
  have q6 : L.drop 57 = [] := List.drop_eq_nil_of_le (by omega)
  intro v hv
  have hv' : v ∈ L.drop 0 := hv
  rw [q0, q1, q2, q3, q4, q5, q6] at hv'
  simp only [List.mem_append, List.mem_cons, List.not_mem_nil, or_false] at hv'
  rcases hv' with rfl | hv'
  · rfl
  rcases hv' with hv' | hv'
  · have : v ∈ [Value.int .u64 (r.cl : Nat), .int .u64 (r.sq : Nat), .slice r.co r.cn r.cc] := hv'
    simp only [List.mem_cons, List.not_mem_nil, or_false] at this
    rcases this with rfl | rfl | rfl <;> rfl
  rcases hv' with hv' | hv'
  · rcases hv' with rfl | rfl <;> rfl
  rcases hv' with rfl | hv'
  · rfl
  rcases hv' with hv' | rfl
  · exact hone v hv'
  · rfl
/-- A script that came in. -/
theorem view_opsR {H : Type} {enc : TypeId × Value → H} {W : World} {ao : Option Addr} {len cap : Nat} {d : DataW H} {p : List MemPlace}
    (h : DataW.Trod enc Try.prog W 0 (fun _ => true) true 23 (.slice ao len cap) d p) (hr : ∀ n ∈ d.weights Try.prog 23, n ≤ reachBytes) :
    ∃ (b off : Nat), (0 < len → ao = some ⟨b, off, none⟩) ∧ (0 < len → b < W.heap.size) ∧ len ≤ 1000000000000 ∧ ∀ i, i < len → ∃ o : Oq, W.rangeAt b (off + i * 57) o.oc ∧ o.Ok W.heap.size W := by
  obtain ⟨fuel, hf⟩ := h
  have hlt := DataW.trod_lt fuel _ _ _ hf
  rcases open_slice Try.underlying23 hf with ⟨hc, _⟩ | ⟨a, l, c, m, n, D, Pl, hc, _, hl, hm, hmm, hx, hall⟩
  · simp [Value.cells] at hc
    obtain ⟨rfl, rfl, rfl⟩ := hc
    exact ⟨0, 0, fun h => by omega, fun h => by omega, by omega, fun i hi => by omega⟩
  · simp [Value.cells] at hc
    obtain ⟨rfl, rfl, rfl⟩ := hc
    simp only [if_true] at hmm
    subst hmm
    simp only [Prod.mk.injEq, cellsOp] at hx
    obtain ⟨hd, hp⟩ := hx
    subst hd
    subst hp
    simp only [cellsOp] at hall
    simp only [DataW.weights, Try.underlying23, List.length_map, List.length_range] at hr
    have hcap := hr _ (List.mem_cons_self ..)
    simp only [reachBytes] at hcap
    have hF : ∀ i, i < len → ∃ o : Oq, o.Ok W.heap.size W ∧ ∀ j v, o.oc[j]? = some v → W.cell? (a.add (i * 57 + j)) = some v := fun i hi => by
      obtain ⟨cs, h1, h2⟩ := hall i (by omega)
      obtain ⟨o, rfl, hok⟩ := view_op h2 (fun n hn => hr n (List.mem_cons_of_mem _ (List.mem_append_left _ (weights_all hn (List.mem_map.2 ⟨i, List.mem_range.2 hi, rfl⟩)))))
      refine ⟨o, hok, fun j v hj => ?_⟩
      have hj57 : j < 57 := by
        rw [← hok.len]
        exact (List.getElem?_eq_some_iff.1 hj).1
      have h3 := (World.cells?_some h1).2.2 j hj57
      rw [add_add] at h3
      rw [h3]
      simpa using hj
    by_cases hp : 0 < len
    · obtain ⟨b, off, spot⟩ := a
      obtain ⟨o, hok, hce⟩ := hF 0 hp
      have h00 := hce 0 _ hok.c0
      have hspot : spot = none := by simpa [Addr.add] using World.cell?_spot h00
      subst hspot
      have hbW : b < W.heap.size := hlt (.cell b off) (List.mem_append_left _ (MemPlace.mem_row.2 ⟨0, by omega, by simp⟩))
      refine ⟨b, off, fun _ => rfl, fun _ => hbW, ?_, fun i hi => ?_⟩
      · rw [bytesOp] at hcap
        omega
      · obtain ⟨o, hok, hce⟩ := hF i hi
        refine ⟨o, fun j v hj => ?_, hok⟩
        have := hce j v hj
        rw [add_plain] at this
        rw [Nat.add_assoc]
        exact this
    · exact ⟨0, 0, fun h => by omega, fun h => by omega, by omega, fun i hi => by omega⟩
end Go.Proofs.Ythfbimbadkmhhaa
