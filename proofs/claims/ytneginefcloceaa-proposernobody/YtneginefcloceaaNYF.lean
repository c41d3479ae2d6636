import Derived.Test.YtneginefcloceaaJVa
import Derived.Test.YtneginefcloceaaNYE
namespace Go.Proofs.Ytneginefcloceaa
open Go.ChangeShapes Go.WideShapes Go.ChangeAt Go.RowKit Go.Deep Crc

theorem cellsKd : Try.prog.cellsOf 50 = 1 := by kernel_rfl
theorem cellsVs : Try.prog.cellsOf 28 = 1 := by kernel_rfl
theorem cellsEr : Try.prog.cellsOf 53 = 1 := by kernel_rfl
theorem cellsBo : Try.prog.cellsOf 4 = 1 := by kernel_rfl
theorem cellsHl : Try.prog.cellsOf 57 = 1 := by kernel_rfl
theorem cellsMs : Try.prog.cellsOf 59 = 49 := by kernel_rfl
theorem list16 {α : Type} {l : List α} (h : l.length = 16) : ∃ y0 y1 y2 y3 y4 y5 y6 y7 y8 y9 y10 y11 y12 y13 y14 y15, l = [y0, y1, y2, y3, y4, y5, y6, y7, y8, y9, y10, y11, y12, y13, y14, y15] := by
  match l, h with
  | [y0, y1, y2, y3, y4, y5, y6, y7, y8, y9, y10, y11, y12, y13, y14, y15], _ => exact ⟨y0, y1, y2, y3, y4, y5, y6, y7, y8, y9, y10, y11, y12, y13, y14, y15, rfl⟩
theorem peel (L : List Value) (a c : Nat) {p : List Value} (h : (L.drop a).take c = p) : L.drop a = p ++ L.drop (a + c) := by
  rw [← h, ← List.drop_drop, List.take_append_drop]
theorem at_take {L : List Value} {a c : Nat} {p : List Value} (h : (L.drop a).take c = p) {j : Nat} (hj : j < c) : L[a + j]? = p[j]? := by
  rw [← h, List.getElem?_take, if_pos hj, List.getElem?_drop]
instance : Inhabited Vq := ⟨⟨0, 0, 0, 0, none, 0, 0, [], 0, 0⟩⟩
instance : Inhabited OqN := ⟨⟨0, 0, 0, none, 0, 0, [], 0, 0, 0, ⟨[], none, 0, 0, [], 0, 0, 0, none, 0, 0, [], 0, 0, none, 0, 0, [], none, 0, 0, []⟩, 0, 0, 0, none, 0, 0, [], 0, 0⟩⟩
theorem cellsVt : Try.prog.cellsOf 110 = 5 := by kernel_rfl
theorem bytesVt : Try.prog.bytesOf 110 = 56 := by kernel_rfl
/-- A vote that came in. -/
theorem view_voteN {H : Type} {enc : TypeId × Value → H} {W : World} {fuel : Nat} {cs : List Value} {x : DataW H × List MemPlace}
    (h : DataW.trod enc Try.prog W 0 (fun _ => true) true fuel 110 cs = some x) (hr : ∀ n ∈ x.1.weights Try.prog 110, n ≤ reachBytes) :
    ∃ r : Vq, cs = r.cells.toList ∧ r.Ok W.heap.size W := by
  obtain ⟨xs, n, _, rfl, hl, hlen, hf⟩ := DataW.trod_struct Try.underlying110 h
  rw [cellsVt] at hl
  have hlen : xs.length = 3 := hlen
  obtain ⟨c0, c1, c2, c3, c4, rfl⟩ := list5 hl
  obtain ⟨y0, y1, y2, rfl⟩ := list3 hlen
  have e0 : DataW.trod enc Try.prog W 0 (fun _ => true) true n 25 (List.take (Try.prog.cellsOf 25) [c0, c1, c2, c3, c4]) = some y0 := hf 0 _ rfl
  rw [cellsU64] at e0
  have e1 : DataW.trod enc Try.prog W 0 (fun _ => true) true n 27 (List.take (Try.prog.cellsOf 27) [c1, c2, c3, c4]) = some y1 := hf 1 _ rfl
  rw [cellsBl] at e1
  have e2 : DataW.trod enc Try.prog W 0 (fun _ => true) true n 52 (List.take (Try.prog.cellsOf 52) [c3, c4]) = some y2 := hf 2 _ rfl
  rw [cellsBt] at e2
  have hr : ∀ n ∈ DataW.weightsEach Try.prog [25, 27, 52] [y0.1, y1.1, y2.1], n ≤ reachBytes := by
    intro n hn
    refine hr n ?_
    simp only [DataW.weights, Try.underlying110]
    exact hn
  obtain ⟨K, k0, _, wK⟩ := DataW.trod_int Try.underlying25 e0
  obtain ⟨num, node, k1, _⟩ := view_ballotL e1
  obtain ⟨st, ro, rc, rs, b, off, k2, _, hR⟩ := view_batchL e2 (fun n hn => hr n (DataW.weights_mem_each (j := 2) rfl rfl n hn))
  have bK := bounds_u64 wK
  simp only [List.take, List.cons.injEq, and_true] at k0 k1 k2
  obtain ⟨rfl, rfl⟩ := k1
  obtain ⟨rfl, rfl⟩ := k2
  subst k0
  have hKK : ((K.toNat : Nat) : Int) = K := by omega
  exact ⟨⟨K.toNat, num, node, st, ro, rs.length, rc, rs, b, off⟩, by simp [Vq.cells, hKK], rfl, hR⟩
/-- The votes that came in. -/
theorem view_votesN {H : Type} {enc : TypeId × Value → H} {W : World} {fuel : Nat} {cs : List Value} {x : DataW H × List MemPlace}
    (hf : DataW.trod enc Try.prog W 0 (fun _ => true) true fuel 28 cs = some x) (hr : ∀ n ∈ x.1.weights Try.prog 28, n ≤ reachBytes) :
    ∃ (ao : Option Addr) (len cap : Nat) (rs : List Vq) (b off : Nat), cs = [.slice ao len cap] ∧ len = rs.length ∧ Vqs W.heap.size W ao rs b off := by
  have hlt := DataW.trod_lt fuel _ _ _ hf
  rcases open_slice Try.underlying28 hf with ⟨rfl, _⟩ | ⟨a, len, cap, m, n, D, Pl, rfl, _, hl, hm, hmm, hx, hall⟩
  · exact ⟨none, 0, 0, [], 0, 0, rfl, rfl, fun h => by simp at h, fun h => by simp at h, by simp, by simp, by simp⟩
  · simp only [if_true] at hmm
    subst hmm
    simp only [cellsVt] at hx
    subst hx
    simp only [cellsVt] at hall
    simp only [DataW.weights, Try.underlying28, bytesVt, List.length_map, List.length_range] at hr
    have hcap := hr _ (List.mem_cons_self ..)
    simp only [reachBytes] at hcap
    obtain ⟨F, hF⟩ := choose_lt (α := Vq) (n := len) (p := fun i f => f.Ok W.heap.size W ∧ ∀ j v, f.cells[j]? = some v → W.cell? (a.add (i * 5 + j)) = some v) (fun i hi => by
      obtain ⟨cs, h1, h2⟩ := hall i (by omega)
      obtain ⟨f, rfl, hok⟩ := view_voteN h2 (fun n hn => hr n (List.mem_cons_of_mem _ (List.mem_append_left _ (weights_all hn (List.mem_map.2 ⟨i, List.mem_range.2 hi, rfl⟩)))))
      refine ⟨f, hok, fun j v hj => ?_⟩
      have hj3 : j < 5 := by
        have := (Array.getElem?_eq_some_iff.1 hj).1
        simpa [Vq.cells] using this
      have h3 := (World.cells?_some h1).2.2 j hj3
      rw [add_add] at h3
      rw [h3]
      simpa using hj)
    by_cases hp : 0 < len
    · obtain ⟨b, off, spot⟩ := a
      have h00 := (hF 0 hp).2 0 _ rfl
      have hspot : spot = none := by simpa [Addr.add] using World.cell?_spot h00
      subst hspot
      have hbW : b < W.heap.size := hlt (.cell b off) (List.mem_append_left _ (MemPlace.mem_row.2 ⟨0, by omega, by simp⟩))
      refine ⟨_, len, _, (List.range len).map F, b, off, rfl, by simp, fun _ => rfl, fun _ => hbW, by simp; omega, ?_, ?_⟩
      · intro i f hi j v hj
        have hil : i < len := by
          have := (List.getElem?_eq_some_iff.1 hi).1
          simpa using this
        rw [List.getElem?_map, List.getElem?_range hil] at hi
        cases hi
        have := (hF i hil).2 j v hj
        rw [add_plain] at this
        rw [Nat.add_assoc]
        exact this
      · intro f hf
        obtain ⟨i, hi, rfl⟩ := List.mem_map.1 hf
        exact (hF i (List.mem_range.1 hi)).1
    · obtain rfl : len = 0 := by omega
      exact ⟨_, 0, _, [], 0, 0, rfl, rfl, fun h => by simp at h, fun h => by simp at h, by simp, by simp, by simp⟩

/-- The message that came in. -/
theorem view_msgN {H : Type} {enc : TypeId × Value → H} {W : World} {fuel : Nat} {L : List Value} {x : DataW H × List MemPlace}
    (h : DataW.trod enc Try.prog W 0 (fun _ => true) true fuel 59 L = some x) (hr : ∀ n ∈ x.1.weights Try.prog 59, n ≤ reachBytes) :
    ∃ m : Mq, m.cs = L ∧ m.Ok W.heap.size W := by
  obtain ⟨xs, n, _, rfl, hl, hlen, hf⟩ := DataW.trod_struct Try.underlying59 h
  clear h
  rw [cellsMs] at hl
  have hlen : xs.length = 16 := hlen
  obtain ⟨y0, y1, y2, y3, y4, y5, y6, y7, y8, y9, y10, y11, y12, y13, y14, y15, rfl⟩ := list16 hlen
  have e0 : DataW.trod enc Try.prog W 0 (fun _ => true) true n 50 ((L.drop 0).take (Try.prog.cellsOf 50)) = some y0 := hf 0 _ rfl
  rw [cellsKd] at e0
  have e1 : DataW.trod enc Try.prog W 0 (fun _ => true) true n 27 ((L.drop 1).take (Try.prog.cellsOf 27)) = some y1 := hf 1 _ rfl
  rw [cellsBl] at e1
  have e2 : DataW.trod enc Try.prog W 0 (fun _ => true) true n 25 ((L.drop 3).take (Try.prog.cellsOf 25)) = some y2 := hf 2 _ rfl
  rw [cellsU64] at e2
  have e3 : DataW.trod enc Try.prog W 0 (fun _ => true) true n 25 ((L.drop 4).take (Try.prog.cellsOf 25)) = some y3 := hf 3 _ rfl
  rw [cellsU64] at e3
  have e4 : DataW.trod enc Try.prog W 0 (fun _ => true) true n 28 ((L.drop 5).take (Try.prog.cellsOf 28)) = some y4 := hf 4 _ rfl
  rw [cellsVs] at e4
  have e5 : DataW.trod enc Try.prog W 0 (fun _ => true) true n 52 ((L.drop 6).take (Try.prog.cellsOf 52)) = some y5 := hf 5 _ rfl
  rw [cellsBt] at e5
  have e6 : DataW.trod enc Try.prog W 0 (fun _ => true) true n 25 ((L.drop 8).take (Try.prog.cellsOf 25)) = some y6 := hf 6 _ rfl
  rw [cellsU64] at e6
  have e7 : DataW.trod enc Try.prog W 0 (fun _ => true) true n 25 ((L.drop 9).take (Try.prog.cellsOf 25)) = some y7 := hf 7 _ rfl
  rw [cellsU64] at e7
  have e8 : DataW.trod enc Try.prog W 0 (fun _ => true) true n 53 ((L.drop 10).take (Try.prog.cellsOf 53)) = some y8 := hf 8 _ rfl
  rw [cellsEr] at e8
  have e9 : DataW.trod enc Try.prog W 0 (fun _ => true) true n 54 ((L.drop 11).take (Try.prog.cellsOf 54)) = some y9 := hf 9 _ rfl
  rw [cellsBs] at e9
  have e10 : DataW.trod enc Try.prog W 0 (fun _ => true) true n 54 ((L.drop 12).take (Try.prog.cellsOf 54)) = some y10 := hf 10 _ rfl
  rw [cellsBs] at e10
  have e11 : DataW.trod enc Try.prog W 0 (fun _ => true) true n 4 ((L.drop 13).take (Try.prog.cellsOf 4)) = some y11 := hf 11 _ rfl
  rw [cellsBo] at e11
  have e12 : DataW.trod enc Try.prog W 0 (fun _ => true) true n 25 ((L.drop 14).take (Try.prog.cellsOf 25)) = some y12 := hf 12 _ rfl
  rw [cellsU64] at e12
  have e13 : DataW.trod enc Try.prog W 0 (fun _ => true) true n 25 ((L.drop 15).take (Try.prog.cellsOf 25)) = some y13 := hf 13 _ rfl
  rw [cellsU64] at e13
  have e14 : DataW.trod enc Try.prog W 0 (fun _ => true) true n 56 ((L.drop 16).take (Try.prog.cellsOf 56)) = some y14 := hf 14 _ rfl
  rw [cellsHs] at e14
  have e15 : DataW.trod enc Try.prog W 0 (fun _ => true) true n 57 ((L.drop 48).take (Try.prog.cellsOf 57)) = some y15 := hf 15 _ rfl
  rw [cellsHl] at e15
  clear hf hlen
  have hr : ∀ n ∈ DataW.weightsEach Try.prog [50, 27, 25, 25, 28, 52, 25, 25, 53, 54, 54, 4, 25, 25, 56, 57] [y0.1, y1.1, y2.1, y3.1, y4.1, y5.1, y6.1, y7.1, y8.1, y9.1, y10.1, y11.1, y12.1, y13.1, y14.1, y15.1], n ≤ reachBytes := by
    intro n hn
    refine hr n ?_
    simp only [DataW.weights, Try.underlying59]
    exact hn
  obtain ⟨kind, k0, _, _⟩ := DataW.trod_int Try.underlying50 e0
  obtain ⟨num, node, k1, hnum⟩ := view_ballotL e1
  obtain ⟨s2, k2, _, w2⟩ := DataW.trod_int Try.underlying25 e2
  obtain ⟨s3, k3, _, w3⟩ := DataW.trod_int Try.underlying25 e3
  obtain ⟨vo, vn, vc, vs, vb, voff, k4, hvl, hV⟩ := view_votesN e4 (fun n hn => hr n (DataW.weights_mem_each (j := 4) rfl rfl n hn))
  obtain ⟨st, ro, rc, rs, b, off, k5, hst, hR⟩ := view_batchL e5 (fun n hn => hr n (DataW.weights_mem_each (j := 5) rfl rfl n hn))
  obtain ⟨s6, k6, _, w6⟩ := DataW.trod_int Try.underlying25 e6
  obtain ⟨s7, k7, _, w7⟩ := DataW.trod_int Try.underlying25 e7
  obtain ⟨code, k8, _, w8⟩ := DataW.trod_int Try.underlying53 e8
  obtain ⟨co, cn, cc, C, k9, hC⟩ := view_bytes e9 (fun n hn => hr n (DataW.weights_mem_each (j := 9) rfl rfl n hn))
  obtain ⟨do_, dn, dc, D, k10, hD⟩ := view_bytes e10 (fun n hn => hr n (DataW.weights_mem_each (j := 10) rfl rfl n hn))
  obtain ⟨sus, k11, _⟩ := DataW.trod_bool Try.underlying4 e11
  obtain ⟨s12, k12, _, w12⟩ := DataW.trod_int Try.underlying25 e12
  obtain ⟨s13, k13, _, w13⟩ := DataW.trod_int Try.underlying25 e13
  obtain ⟨root, k14, rl, rb⟩ := view_hash e14
  obtain ⟨po, pn, pc, k15⟩ := view_any Try.underlying57 e15
  clear e0 e1 e2 e3 e4 e5 e6 e7 e8 e9 e10 e11 e12 e13 e14 e15 hr w2 w3 w6 w7 w8 w12 w13
  refine ⟨⟨L, vo, vn, vc, vs, vb, voff, st, ro, rs.length, rc, rs, b, off, co, cn, cc, C, do_, dn, dc, D⟩, rfl, ⟨hl, ?_, at_take k4 (j := 0) (by decide), at_take k5 (j := 0) (by decide), at_take k5 (j := 1) (by decide), at_take k9 (j := 0) (by decide), at_take k10 (j := 0) (by decide), hvl.symm, hV, rfl, hR, hC, hD⟩⟩
  have q0 := peel L 0 1 k0
  have q1 := peel L 1 2 k1
  have q2 := peel L 3 1 k2
  have q3 := peel L 4 1 k3
  have q4 := peel L 5 1 k4
  have q5 := peel L 6 2 k5
  have q6 := peel L 8 1 k6
  have q7 := peel L 9 1 k7
  have q8 := peel L 10 1 k8
  have q9 := peel L 11 1 k9
  have q10 := peel L 12 1 k10
  have q11 := peel L 13 1 k11
  have q12 := peel L 14 1 k12
  have q13 := peel L 15 1 k13
  have q14 := peel L 16 32 k14
  have q15 := peel L 48 1 k15
  have q16 : L.drop 49 = [] := List.drop_eq_nil_of_le (by omega)
  have e2 : L = L.drop 0 := rfl
  intro v hv
  have hv' : v ∈ L := hv
  rw [e2, q0, q1, q2, q3, q4, q5, q6, q7, q8, q9, q10, q11, q12, q13, q14, q15, q16] at hv'
  simp only [List.mem_append, List.mem_cons, List.not_mem_nil, or_false] at hv'
  have hroot : ∀ v ∈ vals root, v.oneCell' = true := vals_one' root
  rcases hv' with rfl | hv'
  · rfl
  rcases hv' with hv' | hv'
  · rcases hv' with rfl | rfl <;> rfl
  rcases hv' with rfl | hv'
  · rfl
  rcases hv' with rfl | hv'
  · rfl
  rcases hv' with rfl | hv'
  · rfl
  rcases hv' with hv' | hv'
  · rcases hv' with rfl | rfl <;> rfl
  rcases hv' with rfl | hv'
  · rfl
  rcases hv' with rfl | hv'
  · rfl
  rcases hv' with rfl | hv'
  · rfl
  rcases hv' with rfl | hv'
  · rfl
  rcases hv' with rfl | hv'
  · rfl
  rcases hv' with rfl | hv'
  · rfl
  rcases hv' with rfl | hv'
  · rfl
  rcases hv' with rfl | hv'
  · rfl
  rcases hv' with hv' | rfl
  · exact hroot v hv'
  · rfl
theorem cellsOpN : Try.prog.cellsOf 61 = 58 := by kernel_rfl
theorem bytesOpN : Try.prog.bytesOf 61 = 352 := by kernel_rfl
theorem cellsAdN : Try.prog.cellsOf 49 = 1 := by kernel_rfl
theorem list8N {α : Type} {l : List α} (h : l.length = 8) : ∃ a b c d e f g i, l = [a, b, c, d, e, f, g, i] := by
  match l, h with
  | [a, b, c, d, e, f, g, i], _ => exact ⟨a, b, c, d, e, f, g, i, rfl⟩
/-- An Op that came in. -/
theorem view_opN {H : Type} {enc : TypeId × Value → H} {W : World} {fuel : Nat} {L : List Value} {x : DataW H × List MemPlace}
    (h : DataW.trod enc Try.prog W 0 (fun _ => true) true fuel 61 L = some x) (hr : ∀ n ∈ x.1.weights Try.prog 61, n ≤ reachBytes) :
    ∃ o : OqN, o.cs = L ∧ o.Ok W.heap.size W := by
  obtain ⟨xs, n, _, rfl, hl, hlen, hf⟩ := DataW.trod_struct Try.underlying61 h
  clear h
  rw [cellsOpN] at hl
  have hlen : xs.length = 8 := hlen
  obtain ⟨y0, y1, y2, y3, y4, y5, y6, y7, rfl⟩ := list8N hlen
  have e0 : DataW.trod enc Try.prog W 0 (fun _ => true) true n 3 ((L.drop 0).take (Try.prog.cellsOf 3)) = some y0 := hf 0 _ rfl
  rw [cellsIn] at e0
  have e1 : DataW.trod enc Try.prog W 0 (fun _ => true) true n 27 ((L.drop 1).take (Try.prog.cellsOf 27)) = some y1 := hf 1 _ rfl
  rw [cellsBl] at e1
  have e2 : DataW.trod enc Try.prog W 0 (fun _ => true) true n 32 ((L.drop 3).take (Try.prog.cellsOf 32)) = some y2 := hf 2 _ rfl
  rw [cellsRqs] at e2
  have e3 : DataW.trod enc Try.prog W 0 (fun _ => true) true n 49 ((L.drop 4).take (Try.prog.cellsOf 49)) = some y3 := hf 3 _ rfl
  rw [cellsAdN] at e3
  have e4 : DataW.trod enc Try.prog W 0 (fun _ => true) true n 59 ((L.drop 5).take (Try.prog.cellsOf 59)) = some y4 := hf 4 _ rfl
  rw [cellsMs] at e4
  have e5 : DataW.trod enc Try.prog W 0 (fun _ => true) true n 25 ((L.drop 54).take (Try.prog.cellsOf 25)) = some y5 := hf 5 _ rfl
  rw [cellsU64] at e5
  have e6 : DataW.trod enc Try.prog W 0 (fun _ => true) true n 25 ((L.drop 55).take (Try.prog.cellsOf 25)) = some y6 := hf 6 _ rfl
  rw [cellsU64] at e6
  have e7 : DataW.trod enc Try.prog W 0 (fun _ => true) true n 52 ((L.drop 56).take (Try.prog.cellsOf 52)) = some y7 := hf 7 _ rfl
  rw [cellsBt] at e7
  have hr : ∀ n ∈ DataW.weightsEach Try.prog [3, 27, 32, 49, 59, 25, 25, 52] [y0.1, y1.1, y2.1, y3.1, y4.1, y5.1, y6.1, y7.1], n ≤ reachBytes := by
    intro n hn
    refine hr n ?_
    simp only [DataW.weights, Try.underlying61]
    exact hn
  obtain ⟨kd, k0, _, _⟩ := DataW.trod_int Try.underlying3 e0
  obtain ⟨num, node, k1, _⟩ := view_ballotL e1
  obtain ⟨ro, rn, rc, rs, rb, roff, k2, hrn, hR⟩ := view_requests e2 (fun n hn => hr n (DataW.weights_mem_each (j := 2) rfl rfl n hn))
  obtain ⟨src, k3, _, _⟩ := DataW.trod_int Try.underlying49 e3
  obtain ⟨m, k4, hm⟩ := view_msgN e4 (fun n hn => hr n (DataW.weights_mem_each (j := 4) rfl rfl n hn))
  obtain ⟨now, k5, _, _⟩ := DataW.trod_int Try.underlying25 e5
  obtain ⟨low, k6, _, _⟩ := DataW.trod_int Try.underlying25 e6
  obtain ⟨st, qo, qc, qs, qb, qoff, k7, _, hQ⟩ := view_batchL e7 (fun n hn => hr n (DataW.weights_mem_each (j := 7) rfl rfl n hn))
  refine ⟨⟨kd, num, node, ro, rn, rc, rs, rb, roff, src, m, now, low, st, qo, qs.length, qc, qs, qb, qoff⟩, ?_, ⟨hrn.symm, hR, hm, rfl, hQ⟩⟩
  have q0 := peel L 0 1 k0
  have q1 := peel L 1 2 k1
  have q2 := peel L 3 1 k2
  have q3 := peel L 4 1 k3
  have q4 := peel L 5 49 k4.symm
  have q5 := peel L 54 1 k5
  have q6 := peel L 55 1 k6
  have q7 := peel L 56 2 k7
  have q8 : L.drop 58 = [] := List.drop_eq_nil_of_le (by omega)
  have e : L = L.drop 0 := rfl
  rw [e, q0, q1, q2, q3, q4, q5, q6, q7, q8]
  simp [OqN.cs]
/-- The script that came in. -/
theorem view_opsN {H : Type} {enc : TypeId × Value → H} {W : World} {ao : Option Addr} {len cap : Nat} {d : DataW H} {p : List MemPlace}
    (h : DataW.Trod enc Try.prog W 0 (fun _ => true) true 22 (.slice ao len cap) d p) (hr : ∀ n ∈ d.weights Try.prog 22, n ≤ reachBytes) :
    ∃ (os : List OqN) (b off : Nat), os.length = len ∧ OqsN W.heap.size W ao os b off := by
  obtain ⟨fuel, hf⟩ := h
  have hlt := DataW.trod_lt fuel _ _ _ hf
  rcases open_slice Try.underlying22 hf with ⟨hc, _⟩ | ⟨a, l, c, m, n, D, Pl, hc, _, hl, hm, hmm, hx, hall⟩
  · simp [Value.cells] at hc
    obtain ⟨rfl, rfl, rfl⟩ := hc
    exact ⟨[], 0, 0, rfl, fun h => by simp at h, fun h => by simp at h, by simp, by simp, by simp⟩
  · simp [Value.cells] at hc
    obtain ⟨rfl, rfl, rfl⟩ := hc
    simp only [if_true] at hmm
    subst hmm
    simp only [Prod.mk.injEq, cellsOpN] at hx
    obtain ⟨hd, hp⟩ := hx
    subst hd
    subst hp
    simp only [cellsOpN] at hall
    simp only [DataW.weights, Try.underlying22, bytesOpN, List.length_map, List.length_range] at hr
    have hcap := hr _ (List.mem_cons_self ..)
    simp only [reachBytes] at hcap
    obtain ⟨F, hF⟩ := choose_lt (α := OqN) (n := len) (p := fun i f => f.Ok W.heap.size W ∧ ∀ j v, f.cs[j]? = some v → W.cell? (a.add (i * 58 + j)) = some v) (fun i hi => by
      obtain ⟨cs, h1, h2⟩ := hall i (by omega)
      obtain ⟨o, rfl, hok⟩ := view_opN h2 (fun n hn => hr n (List.mem_cons_of_mem _ (List.mem_append_left _ (weights_all hn (List.mem_map.2 ⟨i, List.mem_range.2 hi, rfl⟩)))))
      refine ⟨o, hok, fun j v hj => ?_⟩
      have hj58 : j < 58 := by
        rw [← OqN.len hok.hm.len]
        exact (List.getElem?_eq_some_iff.1 hj).1
      have h3 := (World.cells?_some h1).2.2 j hj58
      rw [add_add] at h3
      rw [h3]
      simpa using hj)
    by_cases hp : 0 < len
    · obtain ⟨b, off, spot⟩ := a
      have h00 := (hF 0 hp).2 0 _ rfl
      have hspot : spot = none := by simpa [Addr.add] using World.cell?_spot h00
      subst hspot
      have hbW : b < W.heap.size := hlt (.cell b off) (List.mem_append_left _ (MemPlace.mem_row.2 ⟨0, by omega, by simp⟩))
      refine ⟨(List.range len).map F, b, off, by simp, fun _ => rfl, fun _ => hbW, ?_, by simp; omega, ?_⟩
      · intro i f hi j v hj
        have hil : i < len := by
          have := (List.getElem?_eq_some_iff.1 hi).1
          simpa using this
        rw [List.getElem?_map, List.getElem?_range hil] at hi
        cases hi
        have := (hF i hil).2 j v hj
        rw [add_plain] at this
        rw [Nat.add_assoc]
        exact this
      · intro f hf
        obtain ⟨i, hi, rfl⟩ := List.mem_map.1 hf
        exact (hF i (List.mem_range.1 hi)).1
    · obtain rfl : len = 0 := by omega
      exact ⟨[], 0, 0, rfl, fun h => by simp at h, fun h => by simp at h, by simp, by simp, by simp⟩
end Go.Proofs.Ytneginefcloceaa
namespace Go.Proofs.Ytneginefcloceaa
open Go.ChangeShapes Go.WideShapes Go.ChangeAt Go.RowKit Go.Deep

set_option maxRecDepth 100000 in
theorem proposerNobody_lifted (ox : Os) (started : ox.Started) (H : Type) (enc : TypeId × Value → H) :
    ReturnsInHanded {} Try.checked ox 3 .any (Rows.proposerNobodySpec.pre6 enc Try.prog Try.f3 Rows.proposerNobodyRow.domain false) (Rows.proposerNobodySpec.post enc Try.prog Try.f3 false true false false) := by
  refine returnsInHanded_of_change_sized (C := Try.checked) own started (by kernel_rfl) Try.func3
    (ChangeSpec.witness6 (enc := enc) (C := Try.checked) false ⟨#[], #[.bool false, .slice none 0 0], []⟩ 8 (by kernel_rfl) (by kernel_rfl) (by kernel_rfl) (by kernel_rfl)) ?_
  intro W base args ds gs before hval0 hW hcnd hsz0 _
  have hval : ∀ (j : Nat) t v, Try.f3.params[j]? = some t → args[j]? = some v → Value.okWide Try.prog W .any base t v := hval0
  have hW' := hW
  obtain ⟨p, q, hA0, hV, rfl, hfz, hnd⟩ := hW
  have hA : DataW.TrodAll enc Try.prog W 0 (fun _ => true) true Try.f3.params.toList args.toList ds p := hA0
  rw [Try.params3] at hA hval hsz0
  obtain ⟨v0, vs0, d0, ds0, p0, q0, hargs, rfl, rfl, h0, r0⟩ := trodAll_cons hA
  obtain ⟨v1, vs1, d1, ds1, p1, q1, rfl, rfl, rfl, h1, r1⟩ := trodAll_cons r0
  obtain ⟨rfl, rfl, rfl⟩ := trodAll_nil r1
  obtain rfl : args = #[v0, v1] := by cases args; simp_all
  obtain ⟨rfl, rfl⟩ := trodVars_none hV
  obtain ⟨b0, rfl, rfl, rfl⟩ := open_bool Try.underlying4 (hval 0 4 v0 rfl rfl) h0
  obtain ⟨a1, len1, cap1, rfl⟩ := okWide_slice Try.underlying22 (hval 1 22 v1 rfl rfl)
  have k1 := h1
  have lt1 : ∀ x ∈ p1, x.block < W.heap.size := by obtain ⟨m, hm⟩ := k1; exact DataW.trod_lt m _ _ _ hm
  obtain ⟨os, sb, off, hn, hops⟩ := view_opsN h1 (fun n hn => by
    have := List.all_eq_true.1 hsz0 n (DataW.weights_mem_each (j := 1) (t := 22) (d := d1) rfl rfl n hn)
    simpa using this)
  clear hA0 hval0
  refine (nobody_walk b0 len1 cap1 hn hops).mono fun e W' ⟨he, bel⟩ => ?_
  subst he
  exact ⟨_, rfl, _, _, _, [], _, [], hW', trodAll_mk1 (shut_bool Try.underlying4 _), (trodAll_cons_mk (shut_bool Try.underlying4 _) (trodAll_cons_mk (Below.trod laidOut (by kernel_rfl) (of_decide_eq_true (by kernel_rfl)) k1 bel lt1) trodAll_mk0)), rfl, bel.frame _, fun h => by cases h⟩

set_option maxRecDepth 100000 in
theorem proposerNobody_over : Rows.proposerNobodyRow.holds Try.pinned (OpenSpec.ofChange Rows.proposerNobodySpec) :=
  OpenClaim.holds_of_wide 3 Try.f3 rfl rfl rfl rfl rfl rfl rfl ⟨rfl, rfl, rfl, rfl, rfl⟩ rfl rfl rfl rfl rfl (by kernel_rfl) Try.func3 (by kernel_rfl)
    (of_decide_eq_true (by kernel_rfl)) (by unfold Func.isWrapper; first | (rw [if_pos (by decide +kernel)]; kernel_rfl) | (rw [if_neg (by decide +kernel)]; exact ⟨rfl, rfl⟩))
    (fun os started H enc _ => proposerNobody_lifted os started H enc)

theorem proposerNobody_holds : Rows.ProposerNobodySaid := proposerNobody_over
end Go.Proofs.Ytneginefcloceaa
