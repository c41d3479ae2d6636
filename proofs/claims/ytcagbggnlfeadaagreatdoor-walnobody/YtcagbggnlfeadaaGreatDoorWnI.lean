import Derived.Test.YtcagbggnlfeadaaGreatDoorWVw
import Derived.Test.YtcagbggnlfeadaaGreatDoorWnH
namespace Go.Proofs.YtcagbggnlfeadaaGreatDoor
open Go.ChangeShapes Go.WideShapes Go.ChangeAt Go.RowKit Go.Deep Crc

instance : Inhabited Ow := ⟨⟨0, 0, 0, none, 0, 0, [], none, 0, 0, none, 0, 0, []⟩⟩
theorem cellsOp8 : Tryz.prog.cellsOf 40 = 6 := by kernel_rfl
theorem bytesOp8 : Tryz.prog.bytesOf 40 = 96 := by kernel_rfl
theorem cellsI8 : Tryz.prog.cellsOf 3 = 1 := by kernel_rfl
theorem cellsU8q : Tryz.prog.cellsOf 28 = 1 := by kernel_rfl
theorem cellsB8 : Tryz.prog.cellsOf 37 = 1 := by kernel_rfl
theorem cellsT8 : Tryz.prog.cellsOf 38 = 1 := by kernel_rfl
theorem cellsL8 : Tryz.prog.cellsOf 31 = 1 := by kernel_rfl
theorem list6W {α : Type} {l : List α} (h : l.length = 6) : ∃ a b c d e f, l = [a, b, c, d, e, f] := by
  match l, h with
  | [a, b, c, d, e, f], _ => exact ⟨a, b, c, d, e, f, rfl⟩
theorem peelW (L : List Value) (a c : Nat) {p : List Value} (h : (L.drop a).take c = p) : L.drop a = p ++ L.drop (a + c) := by
  rw [← h, ← List.drop_drop, List.take_append_drop]
/-- A list of bytes that came in, and how long it may be. -/
theorem view_listsN {H : Type} {enc : TypeId × Value → H} {W : World} {fuel : Nat} {cs : List Value} {x : DataW H × List MemPlace}
    (hf : DataW.trod enc Tryz.prog W 0 (fun _ => true) true fuel 31 cs = some x) (hr : ∀ n ∈ x.1.weights Tryz.prog 31, n ≤ reachBytes) :
    ∃ (ao : Option Addr) (len cap : Nat) (Ls : List (List Nat)), cs = [.slice ao len cap] ∧ ShowsL W.heap.size W ao len cap Ls ∧ len ≤ 5864062014805 := by
  obtain ⟨ao, len, cap, Ls, hcs, hs⟩ := view_lists hf hr
  refine ⟨ao, len, cap, Ls, hcs, hs, ?_⟩
  subst hcs
  rcases open_slice Tryz.underlying31 hf with ⟨hc, _⟩ | ⟨a, l, c, m, n, D, Pl, hc, _, hl, hm, hmm, hx, hall⟩
  · simp at hc
    omega
  · simp at hc
    obtain ⟨rfl, rfl, rfl⟩ := hc
    simp only [if_true] at hmm
    subst hmm
    simp only [cellsBs] at hx
    subst hx
    simp only [DataW.weights, Tryz.underlying31, bytesBs, List.length_map, List.length_range] at hr
    have hcap := hr _ (List.mem_cons_self ..)
    simp only [reachBytes] at hcap
    omega
theorem view_op8 {H : Type} {enc : TypeId × Value → H} {W : World} {fuel : Nat} {L : List Value} {x : DataW H × List MemPlace}
    (h : DataW.trod enc Tryz.prog W 0 (fun _ => true) true fuel 40 L = some x) (hr : ∀ n ∈ x.1.weights Tryz.prog 40, n ≤ reachBytes) :
    ∃ o : Ow, o.cs.toList = L ∧ o.Ok W.heap.size W := by
  obtain ⟨xs, n, _, rfl, hl, hlen, hf⟩ := DataW.trod_struct Tryz.underlying40 h
  clear h
  rw [cellsOp8] at hl
  have hlen : xs.length = 6 := hlen
  obtain ⟨y0, y1, y2, y3, y4, y5, rfl⟩ := list6W hlen
  have e0 : DataW.trod enc Tryz.prog W 0 (fun _ => true) true n 3 ((L.drop 0).take (Tryz.prog.cellsOf 3)) = some y0 := hf 0 _ rfl
  rw [cellsI8] at e0
  have e1 : DataW.trod enc Tryz.prog W 0 (fun _ => true) true n 28 ((L.drop 1).take (Tryz.prog.cellsOf 28)) = some y1 := hf 1 _ rfl
  rw [cellsU8q] at e1
  have e2 : DataW.trod enc Tryz.prog W 0 (fun _ => true) true n 3 ((L.drop 2).take (Tryz.prog.cellsOf 3)) = some y2 := hf 2 _ rfl
  rw [cellsI8] at e2
  have e3 : DataW.trod enc Tryz.prog W 0 (fun _ => true) true n 37 ((L.drop 3).take (Tryz.prog.cellsOf 37)) = some y3 := hf 3 _ rfl
  rw [cellsB8] at e3
  have e4 : DataW.trod enc Tryz.prog W 0 (fun _ => true) true n 38 ((L.drop 4).take (Tryz.prog.cellsOf 38)) = some y4 := hf 4 _ rfl
  rw [cellsT8] at e4
  have e5 : DataW.trod enc Tryz.prog W 0 (fun _ => true) true n 31 ((L.drop 5).take (Tryz.prog.cellsOf 31)) = some y5 := hf 5 _ rfl
  rw [cellsL8] at e5
  have hr : ∀ n ∈ DataW.weightsEach Tryz.prog [3, 28, 3, 37, 38, 31] [y0.1, y1.1, y2.1, y3.1, y4.1, y5.1], n ≤ reachBytes := by
    intro n hn
    refine hr n ?_
    simp only [DataW.weights, Tryz.underlying40]
    exact hn
  obtain ⟨kd, k0, _, _⟩ := DataW.trod_int Tryz.underlying3 e0
  obtain ⟨fi, k1, _, _⟩ := DataW.trod_int Tryz.underlying28 e1
  obtain ⟨nu, k2, _, _⟩ := DataW.trod_int Tryz.underlying3 e2
  obtain ⟨da, dn, dc, D, k3, hD, _⟩ := view_bytes e3 (fun n hn => hr n (DataW.weights_mem_each (j := 3) rfl rfl n hn))
  obtain ⟨ta, tn, tc, k4⟩ : ∃ ta tn tc, (L.drop 4).take 1 = [.slice ta tn tc] := by
    rcases open_slice Tryz.underlying38 e4 with ⟨hc, _⟩ | ⟨a, l, c, m, n, D, Pl, hc, _⟩
    · exact ⟨_, _, _, hc⟩
    · exact ⟨_, _, _, hc⟩
  obtain ⟨ba, bn, bc, Ls, k5, hL, hb⟩ := view_listsN e5 (fun n hn => hr n (DataW.weights_mem_each (j := 5) rfl rfl n hn))
  refine ⟨⟨kd, fi, nu, da, dn, dc, D, ta, tn, tc, ba, bn, bc, Ls⟩, ?_, ⟨hD, hL, hb⟩⟩
  have q0 := peelW L 0 1 k0
  have q1 := peelW L 1 1 k1
  have q2 := peelW L 2 1 k2
  have q3 := peelW L 3 1 k3
  have q4 := peelW L 4 1 k4
  have q5 := peelW L 5 1 k5
  have q6 : L.drop 6 = [] := List.drop_of_length_le (by omega)
  have : L = L.drop 0 := rfl
  rw [this, q0, q1, q2, q3, q4, q5, q6]
  rfl
theorem Ow.len (o : Ow) : o.cs.toList.length = 6 := rfl
theorem view_ops8 {H : Type} {enc : TypeId × Value → H} {W : World} {ao : Option Addr} {len cap : Nat} {d : DataW H} {p : List MemPlace}
    (h : DataW.Trod enc Tryz.prog W 0 (fun _ => true) true 22 (.slice ao len cap) d p) (hr : ∀ n ∈ d.weights Tryz.prog 22, n ≤ reachBytes) :
    ∃ (os : List Ow) (b off : Nat), os.length = len ∧ Ows W.heap.size W ao os b off := by
  obtain ⟨fuel, hf⟩ := h
  have hlt := DataW.trod_lt fuel _ _ _ hf
  rcases open_slice Tryz.underlying22 hf with ⟨hc, _⟩ | ⟨a, l, c, m, n, D, Pl, hc, _, hl, hm, hmm, hx, hall⟩
  · simp [Value.cells] at hc
    obtain ⟨rfl, rfl, rfl⟩ := hc
    exact ⟨[], 0, 0, rfl, fun h => by simp at h, fun h => by simp at h, by simp, by simp, by simp⟩
  · simp [Value.cells] at hc
    obtain ⟨rfl, rfl, rfl⟩ := hc
    simp only [if_true] at hmm
    subst hmm
    simp only [Prod.mk.injEq, cellsOp8] at hx
    obtain ⟨hd, hp⟩ := hx
    subst hd
    subst hp
    simp only [cellsOp8] at hall
    simp only [DataW.weights, Tryz.underlying22, bytesOp8, List.length_map, List.length_range] at hr
    have hcap := hr _ (List.mem_cons_self ..)
    simp only [reachBytes] at hcap
    obtain ⟨F, hF⟩ := choose_lt (α := Ow) (n := len) (p := fun i f => f.Ok W.heap.size W ∧ ∀ j v, f.cs[j]? = some v → W.cell? (a.add (i * 6 + j)) = some v) (fun i hi => by
      obtain ⟨cs, h1, h2⟩ := hall i (by omega)
      obtain ⟨o, rfl, hok⟩ := view_op8 h2 (fun n hn => hr n (List.mem_cons_of_mem _ (List.mem_append_left _ (weights_all hn (List.mem_map.2 ⟨i, List.mem_range.2 hi, rfl⟩)))))
      refine ⟨o, hok, fun j v hj => ?_⟩
      have hj6 : j < 6 := by
        have := (Array.getElem?_eq_some_iff.1 hj).1
        exact this
      have h3 := (World.cells?_some h1).2.2 j hj6
      rw [add_add] at h3
      rw [h3]
      simpa using hj)
    by_cases hp : 0 < len
    · obtain ⟨b, off, spot⟩ := a
      have h00 := (hF 0 hp).2 0 _ rfl
      have hspot : spot = none := by simpa [Addr.add] using World.cell?_spot h00
      subst hspot
      have hbW : b < W.heap.size := hlt (.cell b off) (List.mem_append_left _ (MemPlace.mem_row.2 ⟨0, by omega, by simp⟩))
      refine ⟨(List.range len).map F, b, off, by simp, fun _ => rfl, fun _ => hbW, ?_, by simp; omega, ?_⟩
      · intro i f hi j v hj
        have hil : i < len := by
          have := (List.getElem?_eq_some_iff.1 hi).1
          simpa using this
        rw [List.getElem?_map, List.getElem?_range hil] at hi
        cases hi
        have := (hF i hil).2 j v hj
        rw [add_plain] at this
        rw [Nat.add_assoc]
        exact this
      · intro f hf
        obtain ⟨i, hi, rfl⟩ := List.mem_map.1 hf
        exact (hF i (List.mem_range.1 hi)).1
    · obtain rfl : len = 0 := by omega
      exact ⟨[], 0, 0, rfl, fun h => by simp at h, fun h => by simp at h, by simp, by simp, by simp⟩
end Go.Proofs.YtcagbggnlfeadaaGreatDoor
