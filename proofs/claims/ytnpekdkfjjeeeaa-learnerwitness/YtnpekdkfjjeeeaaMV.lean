import Derived.Test.YtnpekdkfjjeeeaaBVw
import Derived.Test.YtnpekdkfjjeeeaaQDef
import Derived.Test.YtnpekdkfjjeeeaaJCt
namespace Go.Proofs.Ytnpekdkfjjeeeaa
open Go.ChangeShapes Go.WideShapes Go.ChangeAt Go.RowKit Go.Deep Crc

theorem bytesU8 : Try.prog.bytesOf 5 = 1 := by kernel_rfl
theorem cellsU8 : Try.prog.cellsOf 5 = 1 := by kernel_rfl
theorem cellsBs : Try.prog.cellsOf 42 = 1 := by kernel_rfl
theorem weights_all {H : Type} {P : Program} {e : TypeId} {d : DataW H} {n : Nat} (hn : n ∈ d.weights P e) : ∀ {ds : List (DataW H)}, d ∈ ds → n ∈ DataW.weightsAll P e ds
  | [], h => by cases h
  | x :: r, h => by
    simp only [DataW.weightsAll, List.mem_append]
    rcases List.mem_cons.1 h with rfl | h
    · exact .inl hn
    · exact .inr (weights_all hn h)

/-- The bytes as numbers. -/
theorem bytes_of (zs : List Int) (hwz : ∀ n ∈ zs, (Lit.int .u8 n).wf = true) : ∃ B : List Nat, zs = B.map (fun (x : Nat) => (x : Int)) ∧ ∀ x ∈ B, x < 256 := by
  induction zs with
  | nil => exact ⟨[], rfl, by simp⟩
  | cons z r ih =>
    obtain ⟨B, hB, hl⟩ := ih (fun n hn => hwz n (by simp [hn]))
    have hz := bounds_u8 (hwz z (by simp))
    refine ⟨z.toNat :: B, ?_, ?_⟩
    · simp [hB]; omega
    · intro x hx
      rcases List.mem_cons.1 hx with rfl | hx
      · omega
      · exact hl x hx

/-- Bytes that came in. -/
theorem view_bytes {H : Type} {enc : TypeId × Value → H} {W : World} {fuel : Nat} {cs : List Value} {x : DataW H × List MemPlace}
    (hf : DataW.trod enc Try.prog W 0 (fun _ => true) true fuel 42 cs = some x) (hr : ∀ n ∈ x.1.weights Try.prog 42, n ≤ reachBytes) :
    ∃ (ao : Option Addr) (len cap : Nat) (B : List Nat), cs = [.slice ao len cap] ∧ Shows W.heap.size W ao len cap B := by
  have hlt := DataW.trod_lt fuel _ _ _ hf
  rcases open_ints Try.underlying42 Try.underlying5 cellsU8 hf with ⟨rfl, _⟩ | ⟨x, len, cap, zs, rfl, _, hl, hm, hz, rfl, hcell, hwz⟩
  · exact ⟨none, 0, 0, [], rfl, rfl, by omega, by omega, by simp, 0, 0, fun h => by omega, fun h => by omega, fun i hi => by omega⟩
  · obtain ⟨B, rfl, hB⟩ := bytes_of zs hwz
    have hr := hr ((lits .u8 ((B.map (fun (x : Nat) => (x : Int))).take len)).length + (lits (H := H) .u8 ((B.map (fun (x : Nat) => (x : Int))).drop len)).length) (by
      simp only [DataW.weights, Try.underlying42, bytesU8, Nat.mul_one]
      exact List.mem_cons_self ..)
    simp only [lits, List.length_map, List.length_take, List.length_drop, reachBytes] at hr
    have hzl : B.length = cap := by simpa using hz
    by_cases hp : 0 < len
    · obtain ⟨b, off, spot⟩ := x
      have hspot : spot = none := by simpa [Addr.add] using World.cell?_spot (hcell 0 (by simp; omega))
      subst hspot
      have hbW : b < W.heap.size := hlt (.cell b off) (MemPlace.mem_row.2 ⟨0, by simp; omega, by simp⟩)
      refine ⟨_, len, cap, B.take len, rfl, by simp; omega, hl, by omega, fun x hx => hB x (List.mem_of_mem_take hx), b, off, fun _ => rfl, fun _ => hbW, fun i hi => ?_⟩
      have hci := hcell i (by simp; omega)
      rw [add_plain] at hci
      rw [hci, List.getD_eq_getElem?_getD, List.getD_eq_getElem?_getD, List.getElem?_map, List.getElem?_take, if_pos hi, List.getElem?_eq_getElem (by omega)]
      rfl
    · obtain rfl : len = 0 := by omega
      exact ⟨_, 0, cap, [], rfl, rfl, by omega, by omega, by simp, 0, 0, fun h => by omega, fun h => by omega, fun i hi => by omega⟩

theorem cellsRq : Try.prog.cellsOf 66 = 3 := by kernel_rfl
theorem bytesRq : Try.prog.bytesOf 66 = 40 := by kernel_rfl
theorem cellsRqs : Try.prog.cellsOf 38 = 1 := by kernel_rfl
theorem cellsBt : Try.prog.cellsOf 40 = 2 := by kernel_rfl
instance : Inhabited Rq := ⟨⟨0, 0, none, 0, 0, []⟩⟩
theorem pair2 {α : Type} {l : List α} (h : l.length = 2) : ∃ a b, l = [a, b] := by
  match l, h with
  | [a, b], _ => exact ⟨a, b, rfl⟩
theorem list3 {α : Type} {l : List α} (h : l.length = 3) : ∃ a b c, l = [a, b, c] := by
  match l, h with
  | [a, b, c], _ => exact ⟨a, b, c, rfl⟩

/-- Bytes that came in, with the reach's own bound. -/
theorem view_bytesB {H : Type} {enc : TypeId × Value → H} {W : World} {fuel : Nat} {cs : List Value} {x : DataW H × List MemPlace}
    (hf : DataW.trod enc Try.prog W 0 (fun _ => true) true fuel 42 cs = some x) (hr : ∀ n ∈ x.1.weights Try.prog 42, n ≤ reachBytes) :
    ∃ (ao : Option Addr) (len cap : Nat) (B : List Nat), cs = [.slice ao len cap] ∧ Shows W.heap.size W ao len cap B ∧ len ≤ 140737488351232 := by
  obtain ⟨ao, len, cap, B, rfl, hS⟩ := view_bytes hf hr
  refine ⟨ao, len, cap, B, rfl, hS, ?_⟩
  rcases open_ints Try.underlying42 Try.underlying5 cellsU8 hf with ⟨hcs, _⟩ | ⟨x, l, c, zs, hcs, _, hl, hm, hz, hx, hcell, hwz⟩
  · simp at hcs
    omega
  · simp at hcs
    obtain ⟨rfl, rfl, rfl⟩ := hcs
    subst hx
    have hr := hr ((lits .u8 (zs.take len)).length + (lits (H := H) .u8 (zs.drop len)).length) (by
      simp only [DataW.weights, Try.underlying42, bytesU8, Nat.mul_one]
      exact List.mem_cons_self ..)
    simp only [lits, List.length_map, List.length_take, List.length_drop, reachBytes] at hr
    simp only [if_true] at hz
    omega

/-- A request that came in. -/
theorem view_request {H : Type} {enc : TypeId × Value → H} {W : World} {fuel : Nat} {cs : List Value} {x : DataW H × List MemPlace}
    (h : DataW.trod enc Try.prog W 0 (fun _ => true) true fuel 66 cs = some x) (hr : ∀ n ∈ x.1.weights Try.prog 66, n ≤ reachBytes) :
    ∃ r : Rq, cs = r.cells.toList ∧ r.Ok W.heap.size W := by
  obtain ⟨xs, n, _, rfl, hl, hlen, hf⟩ := DataW.trod_struct Try.underlying66 h
  rw [cellsRq] at hl
  have hlen : xs.length = 3 := hlen
  obtain ⟨c0, c1, c2, rfl⟩ := list3 hl
  obtain ⟨y0, y1, y2, rfl⟩ := list3 hlen
  have e0 : DataW.trod enc Try.prog W 0 (fun _ => true) true n 22 (List.take (Try.prog.cellsOf 22) [c0, c1, c2]) = some y0 := hf 0 _ rfl
  rw [cellsU64] at e0
  have e1 : DataW.trod enc Try.prog W 0 (fun _ => true) true n 22 (List.take (Try.prog.cellsOf 22) [c1, c2]) = some y1 := hf 1 _ rfl
  rw [cellsU64] at e1
  have e2 : DataW.trod enc Try.prog W 0 (fun _ => true) true n 42 (List.take (Try.prog.cellsOf 42) [c2]) = some y2 := hf 2 _ rfl
  rw [cellsBs] at e2
  have hr : ∀ n ∈ DataW.weightsEach Try.prog [22, 22, 42] [y0.1, y1.1, y2.1], n ≤ reachBytes := by
    intro n hn
    refine hr n ?_
    simp only [DataW.weights, Try.underlying66]
    exact hn
  obtain ⟨K, k0, _, wK⟩ := DataW.trod_int Try.underlying22 e0
  obtain ⟨N, k1, _, wN⟩ := DataW.trod_int Try.underlying22 e1
  obtain ⟨ao, len, cap, B, k2, hB, hBn⟩ := view_bytesB e2 (fun n hn => hr n (DataW.weights_mem_each (j := 2) rfl rfl n hn))
  have bK := bounds_u64 wK
  have bN := bounds_u64 wN
  simp only [List.take, List.cons.injEq, and_true] at k0 k1 k2
  subst k0 k1 k2
  have hKK : ((K.toNat : Nat) : Int) = K := by omega
  have hNN : ((N.toNat : Nat) : Int) = N := by omega
  exact ⟨⟨K.toNat, N.toNat, ao, len, cap, B⟩, by simp [Rq.cells, hNN, hKK], by simp only; omega, by simp only; omega, hB⟩

/-- The requests that came in. -/
theorem view_requests {H : Type} {enc : TypeId × Value → H} {W : World} {fuel : Nat} {cs : List Value} {x : DataW H × List MemPlace}
    (hf : DataW.trod enc Try.prog W 0 (fun _ => true) true fuel 38 cs = some x) (hr : ∀ n ∈ x.1.weights Try.prog 38, n ≤ reachBytes) :
    ∃ (ao : Option Addr) (len cap : Nat) (rs : List Rq) (b off : Nat), cs = [.slice ao len cap] ∧ len = rs.length ∧ Rqs W.heap.size W ao rs b off := by
  have hlt := DataW.trod_lt fuel _ _ _ hf
  rcases open_slice Try.underlying38 hf with ⟨rfl, _⟩ | ⟨a, len, cap, m, n, D, Pl, rfl, _, hl, hm, hmm, hx, hall⟩
  · exact ⟨none, 0, 0, [], 0, 0, rfl, rfl, fun h => by simp at h, fun h => by simp at h, by simp, by simp, by simp⟩
  · simp only [if_true] at hmm
    subst hmm
    simp only [cellsRq] at hx
    subst hx
    simp only [cellsRq] at hall
    simp only [DataW.weights, Try.underlying38, bytesRq, List.length_map, List.length_range] at hr
    have hcap := hr _ (List.mem_cons_self ..)
    simp only [reachBytes] at hcap
    obtain ⟨F, hF⟩ := choose_lt (α := Rq) (n := len) (p := fun i f => f.Ok W.heap.size W ∧ ∀ j v, f.cells[j]? = some v → W.cell? (a.add (i * 3 + j)) = some v) (fun i hi => by
      obtain ⟨cs, h1, h2⟩ := hall i (by omega)
      obtain ⟨f, rfl, hok⟩ := view_request h2 (fun n hn => hr n (List.mem_cons_of_mem _ (List.mem_append_left _ (weights_all hn (List.mem_map.2 ⟨i, List.mem_range.2 hi, rfl⟩)))))
      refine ⟨f, hok, fun j v hj => ?_⟩
      have hj3 : j < 3 := by
        have := (Array.getElem?_eq_some_iff.1 hj).1
        simpa [Rq.cells] using this
      have h3 := (World.cells?_some h1).2.2 j hj3
      rw [add_add] at h3
      rw [h3]
      simpa using hj)
    by_cases hp : 0 < len
    · obtain ⟨b, off, spot⟩ := a
      have h00 := (hF 0 hp).2 0 _ rfl
      have hspot : spot = none := by simpa [Addr.add] using World.cell?_spot h00
      subst hspot
      have hbW : b < W.heap.size := hlt (.cell b off) (List.mem_append_left _ (MemPlace.mem_row.2 ⟨0, by omega, by simp⟩))
      refine ⟨_, len, _, (List.range len).map F, b, off, rfl, by simp, fun _ => rfl, fun _ => hbW, by simp; omega, ?_, ?_⟩
      · intro i f hi j v hj
        have hil : i < len := by
          have := (List.getElem?_eq_some_iff.1 hi).1
          simpa using this
        rw [List.getElem?_map, List.getElem?_range hil] at hi
        cases hi
        have := (hF i hil).2 j v hj
        rw [add_plain] at this
        rw [Nat.add_assoc]
        exact this
      · intro f hf
        obtain ⟨i, hi, rfl⟩ := List.mem_map.1 hf
        exact (hF i (List.mem_range.1 hi)).1
    · obtain rfl : len = 0 := by omega
      exact ⟨_, 0, _, [], 0, 0, rfl, rfl, fun h => by simp at h, fun h => by simp at h, by simp, by simp, by simp⟩

theorem cellsBl : Try.prog.cellsOf 36 = 2 := by kernel_rfl
theorem cellsIn : Try.prog.cellsOf 3 = 1 := by kernel_rfl
theorem list5 {α : Type} {l : List α} (h : l.length = 5) : ∃ a b c d e, l = [a, b, c, d, e] := by
  match l, h with
  | [a, b, c, d, e], _ => exact ⟨a, b, c, d, e, rfl⟩
theorem list7 {α : Type} {l : List α} (h : l.length = 7) : ∃ a b c d e f g, l = [a, b, c, d, e, f, g] := by
  match l, h with
  | [a, b, c, d, e, f, g], _ => exact ⟨a, b, c, d, e, f, g, rfl⟩
/-- A batch that came in. -/
theorem view_batchL {H : Type} {enc : TypeId × Value → H} {W : World} {fuel : Nat} {cs : List Value} {x : DataW H × List MemPlace}
    (h : DataW.trod enc Try.prog W 0 (fun _ => true) true fuel 40 cs = some x) (hr : ∀ n ∈ x.1.weights Try.prog 40, n ≤ reachBytes) :
    ∃ (st : Nat) (ao : Option Addr) (cap : Nat) (rs : List Rq) (b off : Nat), cs = [.int .u64 (st : Int), .slice ao rs.length cap] ∧ st < 18446744073709551616 ∧ Rqs W.heap.size W ao rs b off := by
  obtain ⟨xs, n, _, rfl, hl, hlen, hf⟩ := DataW.trod_struct Try.underlying40 h
  rw [cellsBt] at hl
  have hlen : xs.length = 2 := hlen
  obtain ⟨c0, c1, rfl⟩ := pair2 hl
  obtain ⟨y0, y1, rfl⟩ := pair2 hlen
  have e0 : DataW.trod enc Try.prog W 0 (fun _ => true) true n 22 (List.take (Try.prog.cellsOf 22) [c0, c1]) = some y0 := hf 0 _ rfl
  rw [cellsU64] at e0
  have e1 : DataW.trod enc Try.prog W 0 (fun _ => true) true n 38 (List.take (Try.prog.cellsOf 38) [c1]) = some y1 := hf 1 _ rfl
  rw [cellsRqs] at e1
  have hr : ∀ n ∈ DataW.weightsEach Try.prog [22, 38] [y0.1, y1.1], n ≤ reachBytes := by
    intro n hn
    refine hr n ?_
    simp only [DataW.weights, Try.underlying40]
    exact hn
  obtain ⟨K, k0, _, wK⟩ := DataW.trod_int Try.underlying22 e0
  obtain ⟨ao, len, cap, rs, b, off, k1, rfl, hR⟩ := view_requests e1 (fun n hn => hr n (DataW.weights_mem_each (j := 1) rfl rfl n hn))
  have bK := bounds_u64 wK
  simp only [List.take, List.cons.injEq, and_true] at k0 k1
  subst k0 k1
  have hKK : ((K.toNat : Nat) : Int) = K := by omega
  exact ⟨K.toNat, ao, cap, rs, b, off, by rw [hKK], by omega, hR⟩
/-- A ballot that came in. -/
theorem view_ballotL {H : Type} {enc : TypeId × Value → H} {W : World} {fuel : Nat} {cs : List Value} {x : DataW H × List MemPlace}
    (h : DataW.trod enc Try.prog W 0 (fun _ => true) true fuel 36 cs = some x) :
    ∃ (num : Nat) (node : Int), cs = [.int .u64 (num : Int), .int .i64 node] ∧ num < 18446744073709551616 := by
  obtain ⟨xs, n, _, rfl, hl, hlen, hf⟩ := DataW.trod_struct Try.underlying36 h
  rw [cellsBl] at hl
  have hlen : xs.length = 2 := hlen
  obtain ⟨c0, c1, rfl⟩ := pair2 hl
  obtain ⟨y0, y1, rfl⟩ := pair2 hlen
  have e0 : DataW.trod enc Try.prog W 0 (fun _ => true) true n 22 (List.take (Try.prog.cellsOf 22) [c0, c1]) = some y0 := hf 0 _ rfl
  rw [cellsU64] at e0
  have e1 : DataW.trod enc Try.prog W 0 (fun _ => true) true n 3 (List.take (Try.prog.cellsOf 3) [c1]) = some y1 := hf 1 _ rfl
  rw [cellsIn] at e1
  obtain ⟨K, k0, _, wK⟩ := DataW.trod_int Try.underlying22 e0
  obtain ⟨N, k1, _, _⟩ := DataW.trod_int Try.underlying3 e1
  have bK := bounds_u64 wK
  simp only [List.take, List.cons.injEq, and_true] at k0 k1
  subst k0 k1
  have hKK : ((K.toNat : Nat) : Int) = K := by omega
  exact ⟨K.toNat, N, by rw [hKK], by omega⟩
theorem cellsHs : Try.prog.cellsOf 44 = 32 := by kernel_rfl
theorem bytesHs : Try.prog.bytesOf 44 = 32 := by kernel_rfl
/-- A hash that came in. -/
theorem view_hash {H : Type} {enc : TypeId × Value → H} {W : World} {fuel : Nat} {cs : List Value} {x : DataW H × List MemPlace}
    (h : DataW.trod enc Try.prog W 0 (fun _ => true) true fuel 44 cs = some x) :
    ∃ t : List Nat, cs = vals t ∧ t.length = 32 ∧ ∀ y ∈ t, y < 256 := by
  have hu : Try.prog.underlying 44 = some (.array 32 5) := by kernel_rfl
  have hu8 : Try.prog.underlying 5 = some (.int .u8) := by kernel_rfl
  have hc8 : Try.prog.cellsOf 5 = 1 := by kernel_rfl
  obtain ⟨xs, n, _, _, hl, hlen, hf⟩ := DataW.trod_array hu h
  rw [cellsHs] at hl
  obtain ⟨F, hF⟩ := choose_lt (α := Nat) (n := 32) (p := fun i y => cs[i]? = some (.int .u8 (y : Int)) ∧ y < 256) (fun i hi => by
    have e := hf i hi
    rw [hc8, Nat.mul_one, List.getElem?_eq_getElem (by omega)] at e
    obtain ⟨K, k0, _, wK⟩ := DataW.trod_int hu8 e
    have bK := bounds_u8 wK
    refine ⟨K.toNat, ?_, by omega⟩
    have e2 : (cs.drop i).take 1 = [cs[i]'(by omega)] := by
      rw [List.drop_eq_getElem_cons (by omega)]
      rfl
    rw [e2] at k0
    rw [List.getElem?_eq_getElem (by omega)]
    simp only [List.cons.injEq, and_true] at k0
    rw [k0, Int.toNat_of_nonneg (by omega)])
  refine ⟨(List.range 32).map F, ?_, by simp, fun y hy => ?_⟩
  · refine List.ext_getElem? (fun i => ?_)
    by_cases hi : i < 32
    · rw [(hF i hi).1]
      simp [vals, List.getElem?_map, List.getElem?_range hi]
    · rw [List.getElem?_eq_none (by omega), List.getElem?_eq_none (by simp [vals]; omega)]
  · obtain ⟨i, hi, rfl⟩ := List.mem_map.1 hy
    exact (hF i (List.mem_range.1 hi)).2
/-- A list that came in, whatever is in it. -/
theorem view_any {H : Type} {enc : TypeId × Value → H} {W : World} {fuel : Nat} {t e : TypeId} {cs : List Value} {x : DataW H × List MemPlace} (hu : Try.prog.underlying t = some (.slice e))
    (hf : DataW.trod enc Try.prog W 0 (fun _ => true) true fuel t cs = some x) : ∃ ao l c, cs = [.slice ao l c] := by
  rcases open_slice hu hf with ⟨rfl, _⟩ | ⟨a, len, cap, m, n, D, Pl, rfl, _⟩
  · exact ⟨_, _, _, rfl⟩
  · exact ⟨_, _, _, rfl⟩
end Go.Proofs.Ytnpekdkfjjeeeaa
namespace Go.Proofs.Ytnpekdkfjjeeeaa
open Go.ChangeShapes Go.WideShapes Go.ChangeAt Go.RowKit Go.Deep Crc

theorem cellsKd : Try.prog.cellsOf 34 = 1 := by kernel_rfl
theorem cellsVs : Try.prog.cellsOf 37 = 1 := by kernel_rfl
theorem cellsEr : Try.prog.cellsOf 41 = 1 := by kernel_rfl
theorem cellsBo : Try.prog.cellsOf 4 = 1 := by kernel_rfl
theorem cellsHl : Try.prog.cellsOf 45 = 1 := by kernel_rfl
theorem cellsMs : Try.prog.cellsOf 47 = 49 := by kernel_rfl
theorem list16 {α : Type} {l : List α} (h : l.length = 16) : ∃ y0 y1 y2 y3 y4 y5 y6 y7 y8 y9 y10 y11 y12 y13 y14 y15, l = [y0, y1, y2, y3, y4, y5, y6, y7, y8, y9, y10, y11, y12, y13, y14, y15] := by
  match l, h with
  | [y0, y1, y2, y3, y4, y5, y6, y7, y8, y9, y10, y11, y12, y13, y14, y15], _ => exact ⟨y0, y1, y2, y3, y4, y5, y6, y7, y8, y9, y10, y11, y12, y13, y14, y15, rfl⟩
theorem peel (L : List Value) (a c : Nat) {p : List Value} (h : (L.drop a).take c = p) : L.drop a = p ++ L.drop (a + c) := by
  rw [← h, ← List.drop_drop, List.take_append_drop]
theorem at_take {L : List Value} {a c : Nat} {p : List Value} (h : (L.drop a).take c = p) {j : Nat} (hj : j < c) : L[a + j]? = p[j]? := by
  rw [← h, List.getElem?_take, if_pos hj, List.getElem?_drop]
/-- The message that came in. -/
theorem view_msgJ {H : Type} {enc : TypeId × Value → H} {W : World} {fuel : Nat} {L : List Value} {x : DataW H × List MemPlace}
    (h : DataW.trod enc Try.prog W 0 (fun _ => true) true fuel 47 L = some x) (hr : ∀ n ∈ x.1.weights Try.prog 47, n ≤ reachBytes) :
    ∃ m : Ms, L = m.cs ∧ m.Ok W.heap.size W := by
  obtain ⟨xs, n, _, rfl, hl, hlen, hf⟩ := DataW.trod_struct Try.underlying47 h
  clear h
  rw [cellsMs] at hl
  have hlen : xs.length = 16 := hlen
  obtain ⟨y0, y1, y2, y3, y4, y5, y6, y7, y8, y9, y10, y11, y12, y13, y14, y15, rfl⟩ := list16 hlen
  have e0 : DataW.trod enc Try.prog W 0 (fun _ => true) true n 34 ((L.drop 0).take (Try.prog.cellsOf 34)) = some y0 := hf 0 _ rfl
  rw [cellsKd] at e0
  have e1 : DataW.trod enc Try.prog W 0 (fun _ => true) true n 36 ((L.drop 1).take (Try.prog.cellsOf 36)) = some y1 := hf 1 _ rfl
  rw [cellsBl] at e1
  have e2 : DataW.trod enc Try.prog W 0 (fun _ => true) true n 22 ((L.drop 3).take (Try.prog.cellsOf 22)) = some y2 := hf 2 _ rfl
  rw [cellsU64] at e2
  have e3 : DataW.trod enc Try.prog W 0 (fun _ => true) true n 22 ((L.drop 4).take (Try.prog.cellsOf 22)) = some y3 := hf 3 _ rfl
  rw [cellsU64] at e3
  have e4 : DataW.trod enc Try.prog W 0 (fun _ => true) true n 37 ((L.drop 5).take (Try.prog.cellsOf 37)) = some y4 := hf 4 _ rfl
  rw [cellsVs] at e4
  have e5 : DataW.trod enc Try.prog W 0 (fun _ => true) true n 40 ((L.drop 6).take (Try.prog.cellsOf 40)) = some y5 := hf 5 _ rfl
  rw [cellsBt] at e5
  have e6 : DataW.trod enc Try.prog W 0 (fun _ => true) true n 22 ((L.drop 8).take (Try.prog.cellsOf 22)) = some y6 := hf 6 _ rfl
  rw [cellsU64] at e6
  have e7 : DataW.trod enc Try.prog W 0 (fun _ => true) true n 22 ((L.drop 9).take (Try.prog.cellsOf 22)) = some y7 := hf 7 _ rfl
  rw [cellsU64] at e7
  have e8 : DataW.trod enc Try.prog W 0 (fun _ => true) true n 41 ((L.drop 10).take (Try.prog.cellsOf 41)) = some y8 := hf 8 _ rfl
  rw [cellsEr] at e8
  have e9 : DataW.trod enc Try.prog W 0 (fun _ => true) true n 42 ((L.drop 11).take (Try.prog.cellsOf 42)) = some y9 := hf 9 _ rfl
  rw [cellsBs] at e9
  have e10 : DataW.trod enc Try.prog W 0 (fun _ => true) true n 42 ((L.drop 12).take (Try.prog.cellsOf 42)) = some y10 := hf 10 _ rfl
  rw [cellsBs] at e10
  have e11 : DataW.trod enc Try.prog W 0 (fun _ => true) true n 4 ((L.drop 13).take (Try.prog.cellsOf 4)) = some y11 := hf 11 _ rfl
  rw [cellsBo] at e11
  have e12 : DataW.trod enc Try.prog W 0 (fun _ => true) true n 22 ((L.drop 14).take (Try.prog.cellsOf 22)) = some y12 := hf 12 _ rfl
  rw [cellsU64] at e12
  have e13 : DataW.trod enc Try.prog W 0 (fun _ => true) true n 22 ((L.drop 15).take (Try.prog.cellsOf 22)) = some y13 := hf 13 _ rfl
  rw [cellsU64] at e13
  have e14 : DataW.trod enc Try.prog W 0 (fun _ => true) true n 44 ((L.drop 16).take (Try.prog.cellsOf 44)) = some y14 := hf 14 _ rfl
  rw [cellsHs] at e14
  have e15 : DataW.trod enc Try.prog W 0 (fun _ => true) true n 45 ((L.drop 48).take (Try.prog.cellsOf 45)) = some y15 := hf 15 _ rfl
  rw [cellsHl] at e15
  clear hf hlen
  have hr : ∀ n ∈ DataW.weightsEach Try.prog [34, 36, 22, 22, 37, 40, 22, 22, 41, 42, 42, 4, 22, 22, 44, 45] [y0.1, y1.1, y2.1, y3.1, y4.1, y5.1, y6.1, y7.1, y8.1, y9.1, y10.1, y11.1, y12.1, y13.1, y14.1, y15.1], n ≤ reachBytes := by
    intro n hn
    refine hr n ?_
    simp only [DataW.weights, Try.underlying47]
    exact hn
  obtain ⟨kind, k0, _, _⟩ := DataW.trod_int Try.underlying34 e0
  obtain ⟨num, node, k1, hnum⟩ := view_ballotL e1
  obtain ⟨s2, k2, _, w2⟩ := DataW.trod_int Try.underlying22 e2
  obtain ⟨s3, k3, _, w3⟩ := DataW.trod_int Try.underlying22 e3
  obtain ⟨vo, vn, vc, k4⟩ := view_any Try.underlying37 e4
  obtain ⟨st, ro, rc, rs, b, off, k5, hst, hR⟩ := view_batchL e5 (fun n hn => hr n (DataW.weights_mem_each (j := 5) rfl rfl n hn))
  obtain ⟨s6, k6, _, w6⟩ := DataW.trod_int Try.underlying22 e6
  obtain ⟨s7, k7, _, w7⟩ := DataW.trod_int Try.underlying22 e7
  obtain ⟨code, k8, _, w8⟩ := DataW.trod_int Try.underlying41 e8
  obtain ⟨co, cn, cc, k9⟩ := view_any Try.underlying42 e9
  obtain ⟨do_, dn, dc, k10⟩ := view_any Try.underlying42 e10
  obtain ⟨sus, k11, _⟩ := DataW.trod_bool Try.underlying4 e11
  obtain ⟨s12, k12, _, w12⟩ := DataW.trod_int Try.underlying22 e12
  obtain ⟨s13, k13, _, w13⟩ := DataW.trod_int Try.underlying22 e13
  obtain ⟨root, k14, rl, rb⟩ := view_hash e14
  obtain ⟨po, pn, pc, k15⟩ := view_any Try.underlying45 e15
  have b2 := bounds_u64 w2
  clear e0 e1 e2 e3 e4 e5 e6 e7 e8 e9 e10 e11 e12 e13 e14 e15 hr w2 w3 w6 w7 w8 w12 w13
  obtain ⟨slot, rfl⟩ := Int.eq_ofNat_of_zero_le b2.1
  refine ⟨⟨L, kind, num, node, slot, st, ro, rs.length, rc, rs, b, off⟩, rfl, ⟨hl, ?_, at_take k0 (j := 0) (by decide), at_take k1 (j := 0) (by decide), at_take k1 (j := 1) (by decide), at_take k2 (j := 0) (by decide), at_take k5 (j := 0) (by decide), at_take k5 (j := 1) (by decide), hnum, by show slot < _; omega, hst, hR, rfl⟩⟩
  have q0 := peel L 0 1 k0
  have q1 := peel L 1 2 k1
  have q2 := peel L 3 1 k2
  have q3 := peel L 4 1 k3
  have q4 := peel L 5 1 k4
  have q5 := peel L 6 2 k5
  have q6 := peel L 8 1 k6
  have q7 := peel L 9 1 k7
  have q8 := peel L 10 1 k8
  have q9 := peel L 11 1 k9
  have q10 := peel L 12 1 k10
  have q11 := peel L 13 1 k11
  have q12 := peel L 14 1 k12
  have q13 := peel L 15 1 k13
  have q14 := peel L 16 32 k14
  have q15 := peel L 48 1 k15
  have q16 : L.drop 49 = [] := List.drop_eq_nil_of_le (by omega)
  have e2 : L = L.drop 0 := rfl
  intro v hv
  have hv' : v ∈ L := hv
  rw [e2, q0, q1, q2, q3, q4, q5, q6, q7, q8, q9, q10, q11, q12, q13, q14, q15, q16] at hv'
  simp only [List.mem_append, List.mem_cons, List.not_mem_nil, or_false] at hv'
  have hroot : ∀ v ∈ vals root, v.oneCell' = true := vals_one' root
  rcases hv' with rfl | hv'
  · rfl
  rcases hv' with hv' | hv'
  · rcases hv' with rfl | rfl <;> rfl
  rcases hv' with rfl | hv'
  · rfl
  rcases hv' with rfl | hv'
  · rfl
  rcases hv' with rfl | hv'
  · rfl
  rcases hv' with hv' | hv'
  · rcases hv' with rfl | rfl <;> rfl
  rcases hv' with rfl | hv'
  · rfl
  rcases hv' with rfl | hv'
  · rfl
  rcases hv' with rfl | hv'
  · rfl
  rcases hv' with rfl | hv'
  · rfl
  rcases hv' with rfl | hv'
  · rfl
  rcases hv' with rfl | hv'
  · rfl
  rcases hv' with rfl | hv'
  · rfl
  rcases hv' with rfl | hv'
  · rfl
  rcases hv' with hv' | rfl
  · exact hroot v hv'
  · rfl
/-- A step of a script. -/
structure Wo where
  (kind : Int) (src slot : Nat) (m : Ms)
def Wo.cells (f : Wo) : List Value := .int .i64 f.kind :: .int .u64 (f.src : Nat) :: .int .u64 (f.slot : Nat) :: f.m.cs
structure Wo.Ok (lim : Nat) (w : World) (f : Wo) : Prop where
  hs : f.src < 18446744073709551616
  hl : f.slot < 18446744073709551616
  hm : f.m.Ok lim w
theorem Wo.Ok.below {lim : Nat} {w w' : World} {f : Wo} (h : f.Ok lim w) (hb : Below lim w w') : f.Ok lim w' := ⟨h.hs, h.hl, h.hm.below hb⟩
structure Wos (lim : Nat) (w : World) (ao : Option Addr) (fs : List Wo) (b off : Nat) : Prop where
  ad : 0 < fs.length → ao = some ⟨b, off, none⟩
  lt : 0 < fs.length → b < lim
  le : fs.length ≤ 517417236585
  at_ : ∀ (i : Nat) (f : Wo), fs[i]? = some f → w.rangeAt b (off + i * 52) f.cells
  ok : ∀ f ∈ fs, f.Ok lim w
theorem Wos.below {lim : Nat} {w w' : World} {ao : Option Addr} {fs : List Wo} {b off : Nat} (h : Wos lim w ao fs b off) (hb : Below lim w w') : Wos lim w' ao fs b off :=
  ⟨h.ad, h.lt, h.le, fun i f hi j v hv => (hb.cell (p := ⟨b, _, none⟩) (h.lt (by have := (List.getElem?_eq_some_iff.1 hi).1; omega))).trans (h.at_ i f hi j v hv), fun f hf => (h.ok f hf).below hb⟩
theorem cellsWo : Try.prog.cellsOf 49 = 52 := by kernel_rfl
theorem bytesWo : Try.prog.bytesOf 49 = 272 := by kernel_rfl
theorem cellsAd : Try.prog.cellsOf 33 = 1 := by kernel_rfl
theorem list4W {α : Type} {l : List α} (h : l.length = 4) : ∃ a b c d, l = [a, b, c, d] := by
  match l, h with
  | [a, b, c, d], _ => exact ⟨a, b, c, d, rfl⟩
theorem view_wo {H : Type} {enc : TypeId × Value → H} {W : World} {fuel : Nat} {L : List Value} {x : DataW H × List MemPlace}
    (h : DataW.trod enc Try.prog W 0 (fun _ => true) true fuel 49 L = some x) (hr : ∀ n ∈ x.1.weights Try.prog 49, n ≤ reachBytes) :
    ∃ f : Wo, L = f.cells ∧ f.Ok W.heap.size W := by
  obtain ⟨xs, n, _, rfl, hl, hlen, hf⟩ := DataW.trod_struct Try.underlying49 h
  clear h
  rw [cellsWo] at hl
  have hlen : xs.length = 4 := hlen
  obtain ⟨y0, y1, y2, y3, rfl⟩ := list4W hlen
  have e0 : DataW.trod enc Try.prog W 0 (fun _ => true) true n 3 ((L.drop 0).take (Try.prog.cellsOf 3)) = some y0 := hf 0 _ rfl
  rw [cellsInt] at e0
  have e1 : DataW.trod enc Try.prog W 0 (fun _ => true) true n 33 ((L.drop 1).take (Try.prog.cellsOf 33)) = some y1 := hf 1 _ rfl
  rw [cellsAd] at e1
  have e2 : DataW.trod enc Try.prog W 0 (fun _ => true) true n 22 ((L.drop 2).take (Try.prog.cellsOf 22)) = some y2 := hf 2 _ rfl
  rw [cellsU64] at e2
  have e3 : DataW.trod enc Try.prog W 0 (fun _ => true) true n 47 ((L.drop 3).take (Try.prog.cellsOf 47)) = some y3 := hf 3 _ rfl
  rw [cellsMs] at e3
  have hr : ∀ n ∈ DataW.weightsEach Try.prog [3, 33, 22, 47] [y0.1, y1.1, y2.1, y3.1], n ≤ reachBytes := by
    intro n hn
    refine hr n ?_
    simp only [DataW.weights, Try.underlying49]
    exact hn
  obtain ⟨kind, k0, _, _⟩ := DataW.trod_int Try.underlying3 e0
  obtain ⟨s1, k1, _, w1⟩ := DataW.trod_int Try.underlying33 e1
  obtain ⟨s2, k2, _, w2⟩ := DataW.trod_int Try.underlying22 e2
  obtain ⟨m, k3, hm⟩ := view_msgJ e3 (fun n hn => hr n (DataW.weights_mem_each (j := 3) rfl rfl n hn))
  have b1 := bounds_u64 w1
  have b2 := bounds_u64 w2
  obtain ⟨src, rfl⟩ := Int.eq_ofNat_of_zero_le b1.1
  obtain ⟨slot, rfl⟩ := Int.eq_ofNat_of_zero_le b2.1
  have q0 := peel L 0 1 k0
  have q1 := peel L 1 1 k1
  have q2 := peel L 2 1 k2
  have q3 : L.drop 3 = m.cs := by rw [← k3, List.take_of_length_le (by simp; omega)]
  refine ⟨⟨kind, src, slot, m⟩, ?_, ⟨by show src < _; omega, by show slot < _; omega, hm⟩⟩
  have e : L = L.drop 0 := rfl
  rw [e, q0, q1, q2, q3]
  rfl
theorem view_wos {H : Type} {enc : TypeId × Value → H} {W : World} {ao : Option Addr} {len cap : Nat} {d : DataW H} {p : List MemPlace}
    (h : DataW.Trod enc Try.prog W 0 (fun _ => true) true 25 (.slice ao len cap) d p) (hr : ∀ n ∈ d.weights Try.prog 25, n ≤ reachBytes) :
    ∃ (b off : Nat) (fs : List Wo), fs.length = len ∧ len ≤ cap ∧ Wos W.heap.size W ao fs b off := by
  obtain ⟨fuel, hf⟩ := h
  have hlt := DataW.trod_lt fuel _ _ _ hf
  rcases open_slice Try.underlying25 hf with ⟨hc, _⟩ | ⟨a, l, c, m, n, D, Pl, hc, _, hl, hm, hmm, hx, hall⟩
  · simp [Value.cells] at hc
    obtain ⟨rfl, rfl, rfl⟩ := hc
    exact ⟨0, 0, [], rfl, Nat.le_refl _, ⟨fun h => by simp at h, fun h => by simp at h, by simp, by simp, by simp⟩⟩
  · simp [Value.cells] at hc
    obtain ⟨rfl, rfl, rfl⟩ := hc
    simp only [if_true] at hmm
    subst hmm
    simp only [Prod.mk.injEq, cellsWo] at hx
    obtain ⟨hd, hp⟩ := hx
    subst hd
    subst hp
    simp only [cellsWo] at hall
    simp only [DataW.weights, Try.underlying25, bytesWo, List.length_map, List.length_range] at hr
    have hcap := hr _ (List.mem_cons_self ..)
    simp only [reachBytes] at hcap
    have hinh : Nonempty Wo := ⟨⟨0, 0, 0, ⟨[], 0, 0, 0, 0, 0, none, 0, 0, [], 0, 0⟩⟩⟩
    haveI : Inhabited Wo := ⟨⟨0, 0, 0, ⟨[], 0, 0, 0, 0, 0, none, 0, 0, [], 0, 0⟩⟩⟩
    obtain ⟨F, hF⟩ := choose_lt (α := Wo) (n := len) (p := fun i f => f.Ok W.heap.size W ∧ ∀ j v, f.cells[j]? = some v → W.cell? (a.add (i * 52 + j)) = some v) (fun i hi => by
      obtain ⟨cs, h1, h2⟩ := hall i (by omega)
      obtain ⟨f, rfl, hok⟩ := view_wo h2 (fun n hn => hr n (List.mem_cons_of_mem _ (List.mem_append_left _ (weights_all hn (List.mem_map.2 ⟨i, List.mem_range.2 hi, rfl⟩)))))
      refine ⟨f, hok, fun j v hj => ?_⟩
      have hj52 : j < 52 := by
        have := (List.getElem?_eq_some_iff.1 hj).1
        have hl := hok.hm.len
        simp only [Wo.cells, List.length_cons] at this
        omega
      have h3 := (World.cells?_some h1).2.2 j hj52
      rw [add_add] at h3
      rw [h3]
      simpa using hj)
    by_cases hp : 0 < len
    · obtain ⟨b, off, spot⟩ := a
      have h00 := (hF 0 hp).2 0 _ rfl
      have hspot : spot = none := by simpa [Addr.add] using World.cell?_spot h00
      subst hspot
      have hbW : b < W.heap.size := hlt (.cell b off) (List.mem_append_left _ (MemPlace.mem_row.2 ⟨0, by omega, by simp⟩))
      refine ⟨b, off, (List.range len).map F, by simp, hl, ⟨fun _ => rfl, fun _ => hbW, by simp; omega, ?_, ?_⟩⟩
      · intro i f hi j v hj
        have hil : i < len := by
          have := (List.getElem?_eq_some_iff.1 hi).1
          simpa using this
        rw [List.getElem?_map, List.getElem?_range hil] at hi
        cases hi
        have := (hF i hil).2 j v hj
        rw [add_plain] at this
        rw [Nat.add_assoc]
        exact this
      · intro f hf
        obtain ⟨i, hi, rfl⟩ := List.mem_map.1 hf
        exact (hF i (List.mem_range.1 hi)).1
    · obtain rfl : len = 0 := by omega
      exact ⟨0, 0, [], rfl, Nat.zero_le _, ⟨fun h => by simp at h, fun h => by simp at h, by simp, by simp, by simp⟩⟩
end Go.Proofs.Ytnpekdkfjjeeeaa
