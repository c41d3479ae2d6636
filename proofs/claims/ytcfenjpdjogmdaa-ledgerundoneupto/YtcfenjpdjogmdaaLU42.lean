import Derived.Test.YtcfenjpdjogmdaaLU41
import Derived.Test.YtcfenjpdjogmdaaLU34
namespace Go.Proofs.Ytcfenjpdjogmdaa
open Go.ChangeShapes Go.WideShapes Go.ChangeAt Go.RowKit Go.Deep

theorem cellsInt : Try.prog.cellsOf 3 = 1 := by kernel_rfl
theorem cellsShs : Try.prog.cellsOf 28 = 1 := by kernel_rfl
theorem cellsSh : Try.prog.cellsOf 109 = 2 := by kernel_rfl
theorem bytesSh : Try.prog.bytesOf 109 = 16 := by kernel_rfl
theorem cellsOp : Try.prog.cellsOf 30 = 6 := by kernel_rfl
theorem bytesOp : Try.prog.bytesOf 30 = 64 := by kernel_rfl
instance : Inhabited Sh := ⟨⟨0, 0⟩⟩
/-- A step of a script. -/
structure OpR where
  K : Int
  (A B C : Nat)
  N : Int
  so : Option Addr
  (sn sc : Nat)
  l : List Sh
def OpR.arr (o : OpR) : Array Value := #[.int .i64 o.K, .int .u64 (o.A : Nat), .int .u64 (o.B : Nat), .int .u64 (o.C : Nat), .int .i64 o.N, .slice o.so o.sn o.sc]
structure OpR.Ok (lim : Nat) (W : World) (o : OpR) : Prop where
  (hA : o.A < 18446744073709551616) (hB : o.B < 18446744073709551616) (hC : o.C < 18446744073709551616)
  hn : o.sn = o.l.length
  le : o.sn ≤ 8796093021952
  sh : ∃ bs off, Shs W bs off o.l ∧ (0 < o.sn → o.so = some ⟨bs, off, none⟩ ∧ bs < lim)
theorem OpR.Ok.below {lim B : Nat} {W W' : World} {o : OpR} (h : o.Ok lim W) (hb : Below B W W') (hl : lim ≤ B) : o.Ok lim W' := by
  obtain ⟨bs, off, h1, h2⟩ := h.sh
  exact ⟨h.hA, h.hB, h.hC, h.hn, h.le, bs, off, h1.below hb (fun hp => by have := (h2 (by have := h.hn; omega)).2; omega), h2⟩
/-- A script as it lies. -/
def Ops (lim : Nat) (W : World) (b off n : Nat) : Prop := ∀ i, i < n → ∃ o : OpR, (∀ (j : Nat) (v : Value), o.arr[j]? = some v → W.cell? ⟨b, off + i * 6 + j, none⟩ = some v) ∧ o.Ok lim W
theorem Ops.below {lim B : Nat} {W W' : World} {b off n : Nat} (h : Ops lim W b off n) (hb : Below B W W') (hl : lim ≤ B) (hbl : 0 < n → b < lim) : Ops lim W' b off n := fun i hi => by
  obtain ⟨o, h1, h2⟩ := h i hi
  exact ⟨o, fun j v hj => (hb.cell (p := ⟨b, _, none⟩) (by have := hbl (by omega); show b < B; omega)).trans (h1 j v hj), h2.below hb hl⟩
theorem weights_all {H : Type} {P : Program} {e : TypeId} {d : DataW H} {n : Nat} (hn : n ∈ d.weights P e) : ∀ {ds : List (DataW H)}, d ∈ ds → n ∈ DataW.weightsAll P e ds
  | [], h => by cases h
  | x :: r, h => by
    simp only [DataW.weightsAll, List.mem_append]
    rcases List.mem_cons.1 h with rfl | h
    · exact .inl hn
    · exact .inr (weights_all hn h)

theorem list2 {α : Type} {l : List α} (h : l.length = 2) : ∃ a b, l = [a, b] := by
  match l, h with
  | [a, b], _ => exact ⟨a, b, rfl⟩
theorem list6 {α : Type} {l : List α} (h : l.length = 6) : ∃ a b c d e f, l = [a, b, c, d, e, f] := by
  match l, h with
  | [a, b, c, d, e, f], _ => exact ⟨a, b, c, d, e, f, rfl⟩

/-- A share that came in. -/
theorem view_share {H : Type} {enc : TypeId × Value → H} {W : World} {fuel : Nat} {cs : List Value} {x : DataW H × List MemPlace}
    (h : DataW.trod enc Try.prog W 0 (fun _ => true) true fuel 109 cs = some x) : ∃ f : Sh, cs = f.vals ∧ f.In := by
  obtain ⟨xs, n, _, rfl, hl, hlen, hf⟩ := DataW.trod_struct Try.underlying109 h
  rw [cellsSh] at hl
  have hlen : xs.length = 2 := hlen
  obtain ⟨c0, c1, rfl⟩ := list2 hl
  obtain ⟨y0, y1, rfl⟩ := list2 hlen
  have e0 : DataW.trod enc Try.prog W 0 (fun _ => true) true n 25 (List.take (Try.prog.cellsOf 25) [c0, c1]) = some y0 := hf 0 _ rfl
  rw [cellsU64] at e0
  have e1 : DataW.trod enc Try.prog W 0 (fun _ => true) true n 25 (List.take (Try.prog.cellsOf 25) [c1]) = some y1 := hf 1 _ rfl
  rw [cellsU64] at e1
  obtain ⟨a, k0, _, w0⟩ := DataW.trod_int Try.underlying25 e0
  obtain ⟨b, k1, _, w1⟩ := DataW.trod_int Try.underlying25 e1
  have b0 := bounds_u64 w0
  have b1 := bounds_u64 w1
  simp only [List.take, List.cons.injEq, and_true] at k0 k1
  subst k0 k1
  obtain ⟨n0, rfl⟩ := Int.eq_ofNat_of_zero_le b0.1
  obtain ⟨n1, rfl⟩ := Int.eq_ofNat_of_zero_le b1.1
  exact ⟨⟨n0, n1⟩, rfl, by simp only; omega, by simp only; omega⟩
/-- Shares that came in. -/
theorem view_shares {H : Type} {enc : TypeId × Value → H} {W : World} {fuel : Nat} {cs : List Value} {x : DataW H × List MemPlace}
    (hf : DataW.trod enc Try.prog W 0 (fun _ => true) true fuel 28 cs = some x) (hr : ∀ n ∈ x.1.weights Try.prog 28, n ≤ reachBytes) :
    ∃ (ao : Option Addr) (len cap : Nat) (l : List Sh), cs = [.slice ao len cap] ∧ len = l.length ∧ len ≤ 8796093021952 ∧ ∃ b off, Shs W b off l ∧ (0 < len → ao = some ⟨b, off, none⟩ ∧ b < W.heap.size) := by
  have hlt := DataW.trod_lt fuel _ _ _ hf
  rcases open_slice Try.underlying28 hf with ⟨rfl, _⟩ | ⟨a, len, cap, m, n, D, Pl, rfl, _, hl, hm, hmm, hx, hall⟩
  · exact ⟨none, 0, 0, [], rfl, rfl, by omega, 0, 0, ⟨by simp, by simp⟩, fun h => by omega⟩
  · simp only [if_true] at hmm
    subst hmm
    simp only [cellsSh] at hx
    subst hx
    simp only [cellsSh] at hall
    simp only [DataW.weights, Try.underlying28, bytesSh, List.length_map, List.length_range] at hr
    have hcap := hr _ (List.mem_cons_self ..)
    simp only [reachBytes] at hcap
    obtain ⟨F, hF⟩ := choose_lt (α := Sh) (n := len) (p := fun i f => f.In ∧ ∀ j v, f.vals[j]? = some v → W.cell? (a.add (i * 2 + j)) = some v) (fun i hi => by
      obtain ⟨cs, h1, h2⟩ := hall i (by omega)
      obtain ⟨f, rfl, hok⟩ := view_share h2
      refine ⟨f, hok, fun j v hj => ?_⟩
      have hj6 : j < 2 := by
        have := (List.getElem?_eq_some_iff.1 hj).1
        simpa [Sh.vals] using this
      have h3 := (World.cells?_some h1).2.2 j hj6
      rw [add_add] at h3
      rw [h3]
      simpa using hj)
    by_cases hp : 0 < len
    · obtain ⟨b, off, spot⟩ := a
      have h00 := (hF 0 hp).2 0 _ rfl
      have hspot : spot = none := by simpa [Addr.add] using World.cell?_spot h00
      subst hspot
      have hbW : b < W.heap.size := hlt (.cell b off) (List.mem_append_left _ (MemPlace.mem_row.2 ⟨0, by omega, by simp⟩))
      refine ⟨_, len, _, (List.range len).map F, rfl, by simp, by omega, b, off, ⟨?_, ?_⟩, fun _ => ⟨rfl, hbW⟩⟩
      · intro f hf
        obtain ⟨i, hi, rfl⟩ := List.mem_map.1 hf
        exact (hF i (List.mem_range.1 hi)).1
      · intro i f hi
        have hil : i < len := by
          have := (List.getElem?_eq_some_iff.1 hi).1
          simpa using this
        rw [List.getElem?_map, List.getElem?_range hil] at hi
        cases hi
        have g0 := (hF i hil).2 0 _ rfl
        have g1 := (hF i hil).2 1 _ rfl
        rw [add_plain] at g0 g1
        exact ⟨g0, by rw [Nat.add_assoc]; exact g1⟩
    · obtain rfl : len = 0 := by omega
      exact ⟨_, 0, _, [], rfl, rfl, by omega, 0, 0, ⟨by simp, by simp⟩, fun h => by omega⟩
/-- A step that came in. -/
theorem view_op {H : Type} {enc : TypeId × Value → H} {W : World} {fuel : Nat} {cs : List Value} {x : DataW H × List MemPlace}
    (h : DataW.trod enc Try.prog W 0 (fun _ => true) true fuel 30 cs = some x) (hr : ∀ n ∈ x.1.weights Try.prog 30, n ≤ reachBytes) :
    ∃ o : OpR, cs = o.arr.toList ∧ o.Ok W.heap.size W := by
  obtain ⟨xs, n, _, rfl, hl, hlen, hf⟩ := DataW.trod_struct Try.underlying30 h
  rw [cellsOp] at hl
  have hlen : xs.length = 6 := hlen
  obtain ⟨c0, c1, c2, c3, c4, c5, rfl⟩ := list6 hl
  obtain ⟨y0, y1, y2, y3, y4, y5, rfl⟩ := list6 hlen
  have e0 : DataW.trod enc Try.prog W 0 (fun _ => true) true n 3 (List.take (Try.prog.cellsOf 3) [c0, c1, c2, c3, c4, c5]) = some y0 := hf 0 _ rfl
  rw [cellsInt] at e0
  have e1 : DataW.trod enc Try.prog W 0 (fun _ => true) true n 25 (List.take (Try.prog.cellsOf 25) [c1, c2, c3, c4, c5]) = some y1 := hf 1 _ rfl
  rw [cellsU64] at e1
  have e2 : DataW.trod enc Try.prog W 0 (fun _ => true) true n 25 (List.take (Try.prog.cellsOf 25) [c2, c3, c4, c5]) = some y2 := hf 2 _ rfl
  rw [cellsU64] at e2
  have e3 : DataW.trod enc Try.prog W 0 (fun _ => true) true n 25 (List.take (Try.prog.cellsOf 25) [c3, c4, c5]) = some y3 := hf 3 _ rfl
  rw [cellsU64] at e3
  have e4 : DataW.trod enc Try.prog W 0 (fun _ => true) true n 3 (List.take (Try.prog.cellsOf 3) [c4, c5]) = some y4 := hf 4 _ rfl
  rw [cellsInt] at e4
  have e5 : DataW.trod enc Try.prog W 0 (fun _ => true) true n 28 (List.take (Try.prog.cellsOf 28) [c5]) = some y5 := hf 5 _ rfl
  rw [cellsShs] at e5
  have hr : ∀ n ∈ DataW.weightsEach Try.prog [3, 25, 25, 25, 3, 28] [y0.1, y1.1, y2.1, y3.1, y4.1, y5.1], n ≤ reachBytes := by
    intro n hn
    refine hr n ?_
    simp only [DataW.weights, Try.underlying30]
    exact hn
  obtain ⟨K, k0, _, _⟩ := DataW.trod_int Try.underlying3 e0
  obtain ⟨A, k1, _, w1⟩ := DataW.trod_int Try.underlying25 e1
  obtain ⟨B, k2, _, w2⟩ := DataW.trod_int Try.underlying25 e2
  obtain ⟨C, k3, _, w3⟩ := DataW.trod_int Try.underlying25 e3
  obtain ⟨N, k4, _, _⟩ := DataW.trod_int Try.underlying3 e4
  have b1 := bounds_u64 w1
  have b2 := bounds_u64 w2
  have b3 := bounds_u64 w3
  obtain ⟨so, sn, sc, l, k5, hn, hle, hS⟩ := view_shares e5 (fun n hn => hr n (DataW.weights_mem_each (j := 5) rfl rfl n hn))
  simp only [List.take, List.cons.injEq, and_true] at k0 k1 k2 k3 k4 k5
  subst k0 k1 k2 k3 k4 k5
  obtain ⟨A, rfl⟩ := Int.eq_ofNat_of_zero_le b1.1
  obtain ⟨B, rfl⟩ := Int.eq_ofNat_of_zero_le b2.1
  obtain ⟨C, rfl⟩ := Int.eq_ofNat_of_zero_le b3.1
  exact ⟨⟨K, A, B, C, N, so, sn, sc, l⟩, by simp [OpR.arr], ⟨by simp only; omega, by simp only; omega, by simp only; omega, hn, hle, hS⟩⟩

/-- The script that came in. -/
theorem view_ops {H : Type} {enc : TypeId × Value → H} {W : World} {ao : Option Addr} {len cap : Nat} {d : DataW H} {p : List MemPlace}
    (h : DataW.Trod enc Try.prog W 0 (fun _ => true) true 23 (.slice ao len cap) d p) (hr : ∀ n ∈ d.weights Try.prog 23, n ≤ reachBytes) : ∃ b off : Nat, Ops W.heap.size W b off len ∧ len ≤ 4398046510976 ∧ (0 < len → ao = some ⟨b, off, none⟩) ∧ (0 < len → b < W.heap.size) := by
  obtain ⟨fuel, hf⟩ := h
  have hlt := DataW.trod_lt fuel _ _ _ hf
  rcases open_slice Try.underlying23 hf with ⟨hc, _⟩ | ⟨a, l, c, m, n, D, Pl, hc, _, hl, hm, hmm, hx, hall⟩
  · simp [Value.cells] at hc
    obtain ⟨rfl, rfl, rfl⟩ := hc
    exact ⟨0, 0, fun i hi => by omega, by omega, fun h => by omega, fun h => by omega⟩
  · simp [Value.cells] at hc
    obtain ⟨rfl, rfl, rfl⟩ := hc
    simp only [if_true] at hmm
    subst hmm
    simp only [Prod.mk.injEq, cellsOp] at hx
    obtain ⟨hd, hp⟩ := hx
    subst hd
    subst hp
    simp only [cellsOp] at hall
    simp only [DataW.weights, Try.underlying23, bytesOp, List.length_map, List.length_range] at hr
    have hcap := hr _ (List.mem_cons_self ..)
    simp only [reachBytes] at hcap
    have hcell : ∀ i, i < len → ∃ o : OpR, (∀ j v, o.arr[j]? = some v → W.cell? (a.add (i * 6 + j)) = some v) ∧ o.Ok W.heap.size W := fun i hi => by
      obtain ⟨cs, h1, h2⟩ := hall i (by omega)
      obtain ⟨o, rfl, hok⟩ := view_op h2 (fun n hn => hr n (List.mem_cons_of_mem _ (List.mem_append_left _ (weights_all hn (List.mem_map.2 ⟨i, List.mem_range.2 hi, rfl⟩)))))
      refine ⟨o, fun j v hj => ?_, hok⟩
      have hj6 : j < 6 := by
        have := (Array.getElem?_eq_some_iff.1 hj).1
        simpa [OpR.arr] using this
      have h3 := (World.cells?_some h1).2.2 j hj6
      rw [add_add] at h3
      rw [h3]
      simpa using hj
    by_cases hp : 0 < len
    · obtain ⟨b, off, spot⟩ := a
      obtain ⟨o0, h00, _⟩ := hcell 0 hp
      have h00 := h00 0 _ rfl
      have hspot : spot = none := by simpa [Addr.add] using World.cell?_spot h00
      subst hspot
      have hbW : b < W.heap.size := hlt (.cell b off) (List.mem_append_left _ (MemPlace.mem_row.2 ⟨0, by omega, by simp⟩))
      refine ⟨b, off, fun i hi => ?_, by omega, fun _ => rfl, fun _ => hbW⟩
      obtain ⟨o, h1, h2⟩ := hcell i hi
      refine ⟨o, fun j v hj => ?_, h2⟩
      have := h1 j v hj
      rw [add_plain] at this
      rw [Nat.add_assoc]
      exact this
    · obtain rfl : len = 0 := by omega
      exact ⟨0, 0, fun i hi => by omega, by omega, fun h => by omega, fun h => by omega⟩
end Go.Proofs.Ytcfenjpdjogmdaa
