import Derived.Test.YtgeacmhofgnkfaaLNobR
import Derived.Test.YtgeacmhofgnkfaaLNobS
import Derived.Test.YtgeacmhofgnkfaaRows
import Derived.ProofKit
import Derived.OpenShut
import Derived.ChangeOld
import Derived.Below
import Derived.SizedLaws
import Derived.Deep.Slices
namespace Go.Proofs.Ytgeacmhofgnkfaa
open Go.ChangeShapes Go.WideShapes Go.ChangeAt Go.RowKit Go.Deep

theorem own : ownKnob Try.prog.godebug = none := by kernel_rfl
theorem laidOut : laidOutB Try.prog = true := by kernel_rfl
theorem cellsInt : Try.prog.cellsOf 3 = 1 := by kernel_rfl
theorem cellsU64 : Try.prog.cellsOf 24 = 1 := by kernel_rfl
theorem cellsShs : Try.prog.cellsOf 44 = 1 := by kernel_rfl
theorem cellsSh : Try.prog.cellsOf 108 = 2 := by kernel_rfl
theorem bytesSh : Try.prog.bytesOf 108 = 16 := by kernel_rfl
theorem cellsOp : Try.prog.cellsOf 46 = 6 := by kernel_rfl
theorem bytesOp : Try.prog.bytesOf 46 = 64 := by kernel_rfl

theorem weights_all {H : Type} {P : Program} {e : TypeId} {d : DataW H} {n : Nat} (hn : n ∈ d.weights P e) : ∀ {ds : List (DataW H)}, d ∈ ds → n ∈ DataW.weightsAll P e ds
  | [], h => by cases h
  | x :: r, h => by
    simp only [DataW.weightsAll, List.mem_append]
    rcases List.mem_cons.1 h with rfl | h
    · exact .inl hn
    · exact .inr (weights_all hn h)

theorem list2 {α : Type} {l : List α} (h : l.length = 2) : ∃ a b, l = [a, b] := by
  match l, h with
  | [a, b], _ => exact ⟨a, b, rfl⟩
theorem list6 {α : Type} {l : List α} (h : l.length = 6) : ∃ a b c d e f, l = [a, b, c, d, e, f] := by
  match l, h with
  | [a, b, c, d, e, f], _ => exact ⟨a, b, c, d, e, f, rfl⟩

/-- A share that came in. -/
theorem view_share {H : Type} {enc : TypeId × Value → H} {W : World} {fuel : Nat} {cs : List Value} {x : DataW H × List MemPlace}
    (h : DataW.trod enc Try.prog W 0 (fun _ => true) true fuel 108 cs = some x) : ∃ a b : Int, cs = [.int .u64 a, .int .u64 b] := by
  obtain ⟨xs, n, _, rfl, hl, hlen, hf⟩ := DataW.trod_struct Try.underlying108 h
  rw [cellsSh] at hl
  have hlen : xs.length = 2 := hlen
  obtain ⟨c0, c1, rfl⟩ := list2 hl
  obtain ⟨y0, y1, rfl⟩ := list2 hlen
  have e0 : DataW.trod enc Try.prog W 0 (fun _ => true) true n 24 (List.take (Try.prog.cellsOf 24) [c0, c1]) = some y0 := hf 0 _ rfl
  rw [cellsU64] at e0
  have e1 : DataW.trod enc Try.prog W 0 (fun _ => true) true n 24 (List.take (Try.prog.cellsOf 24) [c1]) = some y1 := hf 1 _ rfl
  rw [cellsU64] at e1
  obtain ⟨a, k0, _, _⟩ := DataW.trod_int Try.underlying24 e0
  obtain ⟨b, k1, _, _⟩ := DataW.trod_int Try.underlying24 e1
  simp only [List.take, List.cons.injEq, and_true] at k0 k1
  exact ⟨a, b, by rw [k0, k1]⟩

/-- Shares that came in. -/
theorem view_shares {H : Type} {enc : TypeId × Value → H} {W : World} {fuel : Nat} {cs : List Value} {x : DataW H × List MemPlace}
    (hf : DataW.trod enc Try.prog W 0 (fun _ => true) true fuel 44 cs = some x) (hr : ∀ n ∈ x.1.weights Try.prog 44, n ≤ reachBytes) :
    ∃ (ao : Option Addr) (len cap : Nat), cs = [.slice ao len cap] ∧ ShP W.heap.size W ao len := by
  have hlt := DataW.trod_lt fuel _ _ _ hf
  rcases open_slice Try.underlying44 hf with ⟨rfl, _⟩ | ⟨a, len, cap, m, n, D, Pl, rfl, _, hl, hm, hmm, hx, hall⟩
  · exact ⟨none, 0, 0, rfl, by omega, 0, 0, fun h => by omega, fun h => by omega, fun i hi => by omega⟩
  · simp only [if_true] at hmm
    subst hmm
    simp only [cellsSh] at hx
    subst hx
    simp only [cellsSh] at hall
    simp only [DataW.weights, Try.underlying44, bytesSh, List.length_map, List.length_range] at hr
    have hcap := hr _ (List.mem_cons_self ..)
    simp only [reachBytes] at hcap
    have hcell : ∀ i, i < len → ∃ x y : Int, W.cell? (a.add (i * 2)) = some (.int .u64 x) ∧ W.cell? (a.add (i * 2 + 1)) = some (.int .u64 y) := fun i hi => by
      obtain ⟨cs, h1, h2⟩ := hall i (by omega)
      obtain ⟨x, y, rfl⟩ := view_share h2
      have h3 := (World.cells?_some h1).2.2
      have g0 := h3 0 (by omega)
      have g1 := h3 1 (by omega)
      rw [add_add] at g0 g1
      exact ⟨x, y, by simpa using g0, by simpa using g1⟩
    by_cases hp : 0 < len
    · obtain ⟨b, off, spot⟩ := a
      obtain ⟨x0, _, h00, _⟩ := hcell 0 hp
      have hspot : spot = none := by simpa [Addr.add] using World.cell?_spot h00
      subst hspot
      have hbW : b < W.heap.size := hlt (.cell b off) (List.mem_append_left _ (MemPlace.mem_row.2 ⟨0, by omega, by simp⟩))
      refine ⟨_, len, _, rfl, by omega, b, off, fun _ => rfl, fun _ => hbW, fun i hi => ?_⟩
      obtain ⟨x, y, hx, hy⟩ := hcell i hi
      rw [add_plain] at hx hy
      exact ⟨x, y, hx, by rw [Nat.add_assoc]; exact hy⟩
    · obtain rfl : len = 0 := by omega
      exact ⟨_, 0, _, rfl, by omega, 0, 0, fun h => by omega, fun h => by omega, fun i hi => by omega⟩

/-- A step that came in. -/
theorem view_op {H : Type} {enc : TypeId × Value → H} {W : World} {fuel : Nat} {cs : List Value} {x : DataW H × List MemPlace}
    (h : DataW.trod enc Try.prog W 0 (fun _ => true) true fuel 46 cs = some x) (hr : ∀ n ∈ x.1.weights Try.prog 46, n ≤ reachBytes) :
    ∃ o : OpS, cs = o.cells.toList ∧ ShP W.heap.size W o.so o.sn := by
  obtain ⟨xs, n, _, rfl, hl, hlen, hf⟩ := DataW.trod_struct Try.underlying46 h
  rw [cellsOp] at hl
  have hlen : xs.length = 6 := hlen
  obtain ⟨c0, c1, c2, c3, c4, c5, rfl⟩ := list6 hl
  obtain ⟨y0, y1, y2, y3, y4, y5, rfl⟩ := list6 hlen
  have e0 : DataW.trod enc Try.prog W 0 (fun _ => true) true n 3 (List.take (Try.prog.cellsOf 3) [c0, c1, c2, c3, c4, c5]) = some y0 := hf 0 _ rfl
  rw [cellsInt] at e0
  have e1 : DataW.trod enc Try.prog W 0 (fun _ => true) true n 24 (List.take (Try.prog.cellsOf 24) [c1, c2, c3, c4, c5]) = some y1 := hf 1 _ rfl
  rw [cellsU64] at e1
  have e2 : DataW.trod enc Try.prog W 0 (fun _ => true) true n 24 (List.take (Try.prog.cellsOf 24) [c2, c3, c4, c5]) = some y2 := hf 2 _ rfl
  rw [cellsU64] at e2
  have e3 : DataW.trod enc Try.prog W 0 (fun _ => true) true n 24 (List.take (Try.prog.cellsOf 24) [c3, c4, c5]) = some y3 := hf 3 _ rfl
  rw [cellsU64] at e3
  have e4 : DataW.trod enc Try.prog W 0 (fun _ => true) true n 3 (List.take (Try.prog.cellsOf 3) [c4, c5]) = some y4 := hf 4 _ rfl
  rw [cellsInt] at e4
  have e5 : DataW.trod enc Try.prog W 0 (fun _ => true) true n 44 (List.take (Try.prog.cellsOf 44) [c5]) = some y5 := hf 5 _ rfl
  rw [cellsShs] at e5
  have hr : ∀ n ∈ DataW.weightsEach Try.prog [3, 24, 24, 24, 3, 44] [y0.1, y1.1, y2.1, y3.1, y4.1, y5.1], n ≤ reachBytes := by
    intro n hn
    refine hr n ?_
    simp only [DataW.weights, Try.underlying46]
    exact hn
  obtain ⟨K, k0, _, _⟩ := DataW.trod_int Try.underlying3 e0
  obtain ⟨A, k1, _, _⟩ := DataW.trod_int Try.underlying24 e1
  obtain ⟨B, k2, _, _⟩ := DataW.trod_int Try.underlying24 e2
  obtain ⟨C, k3, _, _⟩ := DataW.trod_int Try.underlying24 e3
  obtain ⟨N, k4, _, _⟩ := DataW.trod_int Try.underlying3 e4
  obtain ⟨so, sn, sc, k5, hS⟩ := view_shares e5 (fun n hn => hr n (DataW.weights_mem_each (j := 5) rfl rfl n hn))
  simp only [List.take, List.cons.injEq, and_true] at k0 k1 k2 k3 k4 k5
  subst k0 k1 k2 k3 k4 k5
  exact ⟨⟨K, A, B, C, N, so, sn, sc⟩, by simp [OpS.cells], hS⟩

/-- The script that came in. -/
theorem view_ops {H : Type} {enc : TypeId × Value → H} {W : World} {ao : Option Addr} {len cap : Nat} {d : DataW H} {p : List MemPlace}
    (h : DataW.Trod enc Try.prog W 0 (fun _ => true) true 22 (.slice ao len cap) d p) (hr : ∀ n ∈ d.weights Try.prog 22, n ≤ reachBytes) : OpsP W.heap.size W ao len := by
  obtain ⟨fuel, hf⟩ := h
  have hlt := DataW.trod_lt fuel _ _ _ hf
  rcases open_slice Try.underlying22 hf with ⟨hc, _⟩ | ⟨a, l, c, m, n, D, Pl, hc, _, hl, hm, hmm, hx, hall⟩
  · simp [Value.cells] at hc
    obtain ⟨rfl, rfl, rfl⟩ := hc
    exact ⟨by omega, 0, 0, fun h => by omega, fun h => by omega, fun i hi => by omega⟩
  · simp [Value.cells] at hc
    obtain ⟨rfl, rfl, rfl⟩ := hc
    simp only [if_true] at hmm
    subst hmm
    simp only [Prod.mk.injEq, cellsOp] at hx
    obtain ⟨hd, hp⟩ := hx
    subst hd
    subst hp
    simp only [cellsOp] at hall
    simp only [DataW.weights, Try.underlying22, bytesOp, List.length_map, List.length_range] at hr
    have hcap := hr _ (List.mem_cons_self ..)
    simp only [reachBytes] at hcap
    have hcell : ∀ i, i < len → ∃ o : OpS, (∀ j v, o.cells[j]? = some v → W.cell? (a.add (i * 6 + j)) = some v) ∧ ShP W.heap.size W o.so o.sn := fun i hi => by
      obtain ⟨cs, h1, h2⟩ := hall i (by omega)
      obtain ⟨o, rfl, hok⟩ := view_op h2 (fun n hn => hr n (List.mem_cons_of_mem _ (List.mem_append_left _ (weights_all hn (List.mem_map.2 ⟨i, List.mem_range.2 hi, rfl⟩)))))
      refine ⟨o, fun j v hj => ?_, hok⟩
      have hj6 : j < 6 := by
        have := (Array.getElem?_eq_some_iff.1 hj).1
        simpa [OpS.cells] using this
      have h3 := (World.cells?_some h1).2.2 j hj6
      rw [add_add] at h3
      rw [h3]
      simpa using hj
    by_cases hp : 0 < len
    · obtain ⟨b, off, spot⟩ := a
      obtain ⟨o0, h00, _⟩ := hcell 0 hp
      have h00 := h00 0 _ rfl
      have hspot : spot = none := by simpa [Addr.add] using World.cell?_spot h00
      subst hspot
      have hbW : b < W.heap.size := hlt (.cell b off) (List.mem_append_left _ (MemPlace.mem_row.2 ⟨0, by omega, by simp⟩))
      refine ⟨by omega, b, off, fun _ => rfl, fun _ => hbW, fun i hi => ?_⟩
      obtain ⟨o, h1, h2⟩ := hcell i hi
      refine ⟨o, fun j v hj => ?_, h2⟩
      have := h1 j v hj
      rw [add_plain] at this
      rw [Nat.add_assoc]
      exact this
    · obtain rfl : len = 0 := by omega
      exact ⟨by omega, 0, 0, fun h => by omega, fun h => by omega, fun i hi => by omega⟩
end Go.Proofs.Ytgeacmhofgnkfaa
