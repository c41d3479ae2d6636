import Derived.Test.YtneginefcloceaaBVw
import Derived.Test.YtneginefcloceaaQDef
namespace Go.Proofs.Ytneginefcloceaa
open Go.ChangeShapes Go.WideShapes Go.ChangeAt Go.RowKit Go.Deep Crc

theorem bytesU8 : Try.prog.bytesOf 5 = 1 := by kernel_rfl
theorem cellsU8 : Try.prog.cellsOf 5 = 1 := by kernel_rfl
theorem cellsBs : Try.prog.cellsOf 54 = 1 := by kernel_rfl
theorem weights_all {H : Type} {P : Program} {e : TypeId} {d : DataW H} {n : Nat} (hn : n ∈ d.weights P e) : ∀ {ds : List (DataW H)}, d ∈ ds → n ∈ DataW.weightsAll P e ds
  | [], h => by cases h
  | x :: r, h => by
    simp only [DataW.weightsAll, List.mem_append]
    rcases List.mem_cons.1 h with rfl | h
    · exact .inl hn
    · exact .inr (weights_all hn h)

/-- The bytes as numbers. -/
theorem bytes_of (zs : List Int) (hwz : ∀ n ∈ zs, (Lit.int .u8 n).wf = true) : ∃ B : List Nat, zs = B.map (fun (x : Nat) => (x : Int)) ∧ ∀ x ∈ B, x < 256 := by
  induction zs with
  | nil => exact ⟨[], rfl, by simp⟩
  | cons z r ih =>
    obtain ⟨B, hB, hl⟩ := ih (fun n hn => hwz n (by simp [hn]))
    have hz := bounds_u8 (hwz z (by simp))
    refine ⟨z.toNat :: B, ?_, ?_⟩
    · simp [hB]; omega
    · intro x hx
      rcases List.mem_cons.1 hx with rfl | hx
      · omega
      · exact hl x hx

/-- Bytes that came in. -/
theorem view_bytes {H : Type} {enc : TypeId × Value → H} {W : World} {fuel : Nat} {cs : List Value} {x : DataW H × List MemPlace}
    (hf : DataW.trod enc Try.prog W 0 (fun _ => true) true fuel 54 cs = some x) (hr : ∀ n ∈ x.1.weights Try.prog 54, n ≤ reachBytes) :
    ∃ (ao : Option Addr) (len cap : Nat) (B : List Nat), cs = [.slice ao len cap] ∧ Shows W.heap.size W ao len cap B := by
  have hlt := DataW.trod_lt fuel _ _ _ hf
  rcases open_ints Try.underlying54 Try.underlying5 cellsU8 hf with ⟨rfl, _⟩ | ⟨x, len, cap, zs, rfl, _, hl, hm, hz, rfl, hcell, hwz⟩
  · exact ⟨none, 0, 0, [], rfl, rfl, by omega, by omega, by simp, 0, 0, fun h => by omega, fun h => by omega, fun i hi => by omega⟩
  · obtain ⟨B, rfl, hB⟩ := bytes_of zs hwz
    have hr := hr ((lits .u8 ((B.map (fun (x : Nat) => (x : Int))).take len)).length + (lits (H := H) .u8 ((B.map (fun (x : Nat) => (x : Int))).drop len)).length) (by
      simp only [DataW.weights, Try.underlying54, bytesU8, Nat.mul_one]
      exact List.mem_cons_self ..)
    simp only [lits, List.length_map, List.length_take, List.length_drop, reachBytes] at hr
    have hzl : B.length = cap := by simpa using hz
    by_cases hp : 0 < len
    · obtain ⟨b, off, spot⟩ := x
      have hspot : spot = none := by simpa [Addr.add] using World.cell?_spot (hcell 0 (by simp; omega))
      subst hspot
      have hbW : b < W.heap.size := hlt (.cell b off) (MemPlace.mem_row.2 ⟨0, by simp; omega, by simp⟩)
      refine ⟨_, len, cap, B.take len, rfl, by simp; omega, hl, by omega, fun x hx => hB x (List.mem_of_mem_take hx), b, off, fun _ => rfl, fun _ => hbW, fun i hi => ?_⟩
      have hci := hcell i (by simp; omega)
      rw [add_plain] at hci
      rw [hci, List.getD_eq_getElem?_getD, List.getD_eq_getElem?_getD, List.getElem?_map, List.getElem?_take, if_pos hi, List.getElem?_eq_getElem (by omega)]
      rfl
    · obtain rfl : len = 0 := by omega
      exact ⟨_, 0, cap, [], rfl, rfl, by omega, by omega, by simp, 0, 0, fun h => by omega, fun h => by omega, fun i hi => by omega⟩

theorem cellsRq : Try.prog.cellsOf 64 = 3 := by kernel_rfl
theorem bytesRq : Try.prog.bytesOf 64 = 40 := by kernel_rfl
theorem cellsRqs : Try.prog.cellsOf 32 = 1 := by kernel_rfl
theorem cellsBt : Try.prog.cellsOf 52 = 2 := by kernel_rfl
instance : Inhabited Rq := ⟨⟨0, 0, none, 0, 0, []⟩⟩
theorem pair2 {α : Type} {l : List α} (h : l.length = 2) : ∃ a b, l = [a, b] := by
  match l, h with
  | [a, b], _ => exact ⟨a, b, rfl⟩
theorem list3 {α : Type} {l : List α} (h : l.length = 3) : ∃ a b c, l = [a, b, c] := by
  match l, h with
  | [a, b, c], _ => exact ⟨a, b, c, rfl⟩

/-- Bytes that came in, with the reach's own bound. -/
theorem view_bytesB {H : Type} {enc : TypeId × Value → H} {W : World} {fuel : Nat} {cs : List Value} {x : DataW H × List MemPlace}
    (hf : DataW.trod enc Try.prog W 0 (fun _ => true) true fuel 54 cs = some x) (hr : ∀ n ∈ x.1.weights Try.prog 54, n ≤ reachBytes) :
    ∃ (ao : Option Addr) (len cap : Nat) (B : List Nat), cs = [.slice ao len cap] ∧ Shows W.heap.size W ao len cap B ∧ len ≤ 140737488351232 := by
  obtain ⟨ao, len, cap, B, rfl, hS⟩ := view_bytes hf hr
  refine ⟨ao, len, cap, B, rfl, hS, ?_⟩
  rcases open_ints Try.underlying54 Try.underlying5 cellsU8 hf with ⟨hcs, _⟩ | ⟨x, l, c, zs, hcs, _, hl, hm, hz, hx, hcell, hwz⟩
  · simp at hcs
    omega
  · simp at hcs
    obtain ⟨rfl, rfl, rfl⟩ := hcs
    subst hx
    have hr := hr ((lits .u8 (zs.take len)).length + (lits (H := H) .u8 (zs.drop len)).length) (by
      simp only [DataW.weights, Try.underlying54, bytesU8, Nat.mul_one]
      exact List.mem_cons_self ..)
    simp only [lits, List.length_map, List.length_take, List.length_drop, reachBytes] at hr
    simp only [if_true] at hz
    omega

/-- A request that came in. -/
theorem view_request {H : Type} {enc : TypeId × Value → H} {W : World} {fuel : Nat} {cs : List Value} {x : DataW H × List MemPlace}
    (h : DataW.trod enc Try.prog W 0 (fun _ => true) true fuel 64 cs = some x) (hr : ∀ n ∈ x.1.weights Try.prog 64, n ≤ reachBytes) :
    ∃ r : Rq, cs = r.cells.toList ∧ r.Ok W.heap.size W := by
  obtain ⟨xs, n, _, rfl, hl, hlen, hf⟩ := DataW.trod_struct Try.underlying64 h
  rw [cellsRq] at hl
  have hlen : xs.length = 3 := hlen
  obtain ⟨c0, c1, c2, rfl⟩ := list3 hl
  obtain ⟨y0, y1, y2, rfl⟩ := list3 hlen
  have e0 : DataW.trod enc Try.prog W 0 (fun _ => true) true n 25 (List.take (Try.prog.cellsOf 25) [c0, c1, c2]) = some y0 := hf 0 _ rfl
  rw [cellsU64] at e0
  have e1 : DataW.trod enc Try.prog W 0 (fun _ => true) true n 25 (List.take (Try.prog.cellsOf 25) [c1, c2]) = some y1 := hf 1 _ rfl
  rw [cellsU64] at e1
  have e2 : DataW.trod enc Try.prog W 0 (fun _ => true) true n 54 (List.take (Try.prog.cellsOf 54) [c2]) = some y2 := hf 2 _ rfl
  rw [cellsBs] at e2
  have hr : ∀ n ∈ DataW.weightsEach Try.prog [25, 25, 54] [y0.1, y1.1, y2.1], n ≤ reachBytes := by
    intro n hn
    refine hr n ?_
    simp only [DataW.weights, Try.underlying64]
    exact hn
  obtain ⟨K, k0, _, wK⟩ := DataW.trod_int Try.underlying25 e0
  obtain ⟨N, k1, _, wN⟩ := DataW.trod_int Try.underlying25 e1
  obtain ⟨ao, len, cap, B, k2, hB, hBn⟩ := view_bytesB e2 (fun n hn => hr n (DataW.weights_mem_each (j := 2) rfl rfl n hn))
  have bK := bounds_u64 wK
  have bN := bounds_u64 wN
  simp only [List.take, List.cons.injEq, and_true] at k0 k1 k2
  subst k0 k1 k2
  have hKK : ((K.toNat : Nat) : Int) = K := by omega
  have hNN : ((N.toNat : Nat) : Int) = N := by omega
  exact ⟨⟨K.toNat, N.toNat, ao, len, cap, B⟩, by simp [Rq.cells, hNN, hKK], by simp only; omega, by simp only; omega, hB⟩

/-- The requests that came in. -/
theorem view_requests {H : Type} {enc : TypeId × Value → H} {W : World} {fuel : Nat} {cs : List Value} {x : DataW H × List MemPlace}
    (hf : DataW.trod enc Try.prog W 0 (fun _ => true) true fuel 32 cs = some x) (hr : ∀ n ∈ x.1.weights Try.prog 32, n ≤ reachBytes) :
    ∃ (ao : Option Addr) (len cap : Nat) (rs : List Rq) (b off : Nat), cs = [.slice ao len cap] ∧ len = rs.length ∧ Rqs W.heap.size W ao rs b off := by
  have hlt := DataW.trod_lt fuel _ _ _ hf
  rcases open_slice Try.underlying32 hf with ⟨rfl, _⟩ | ⟨a, len, cap, m, n, D, Pl, rfl, _, hl, hm, hmm, hx, hall⟩
  · exact ⟨none, 0, 0, [], 0, 0, rfl, rfl, fun h => by simp at h, fun h => by simp at h, by simp, by simp, by simp⟩
  · simp only [if_true] at hmm
    subst hmm
    simp only [cellsRq] at hx
    subst hx
    simp only [cellsRq] at hall
    simp only [DataW.weights, Try.underlying32, bytesRq, List.length_map, List.length_range] at hr
    have hcap := hr _ (List.mem_cons_self ..)
    simp only [reachBytes] at hcap
    obtain ⟨F, hF⟩ := choose_lt (α := Rq) (n := len) (p := fun i f => f.Ok W.heap.size W ∧ ∀ j v, f.cells[j]? = some v → W.cell? (a.add (i * 3 + j)) = some v) (fun i hi => by
      obtain ⟨cs, h1, h2⟩ := hall i (by omega)
      obtain ⟨f, rfl, hok⟩ := view_request h2 (fun n hn => hr n (List.mem_cons_of_mem _ (List.mem_append_left _ (weights_all hn (List.mem_map.2 ⟨i, List.mem_range.2 hi, rfl⟩)))))
      refine ⟨f, hok, fun j v hj => ?_⟩
      have hj3 : j < 3 := by
        have := (Array.getElem?_eq_some_iff.1 hj).1
        simpa [Rq.cells] using this
      have h3 := (World.cells?_some h1).2.2 j hj3
      rw [add_add] at h3
      rw [h3]
      simpa using hj)
    by_cases hp : 0 < len
    · obtain ⟨b, off, spot⟩ := a
      have h00 := (hF 0 hp).2 0 _ rfl
      have hspot : spot = none := by simpa [Addr.add] using World.cell?_spot h00
      subst hspot
      have hbW : b < W.heap.size := hlt (.cell b off) (List.mem_append_left _ (MemPlace.mem_row.2 ⟨0, by omega, by simp⟩))
      refine ⟨_, len, _, (List.range len).map F, b, off, rfl, by simp, fun _ => rfl, fun _ => hbW, by simp; omega, ?_, ?_⟩
      · intro i f hi j v hj
        have hil : i < len := by
          have := (List.getElem?_eq_some_iff.1 hi).1
          simpa using this
        rw [List.getElem?_map, List.getElem?_range hil] at hi
        cases hi
        have := (hF i hil).2 j v hj
        rw [add_plain] at this
        rw [Nat.add_assoc]
        exact this
      · intro f hf
        obtain ⟨i, hi, rfl⟩ := List.mem_map.1 hf
        exact (hF i (List.mem_range.1 hi)).1
    · obtain rfl : len = 0 := by omega
      exact ⟨_, 0, _, [], 0, 0, rfl, rfl, fun h => by simp at h, fun h => by simp at h, by simp, by simp, by simp⟩

theorem cellsBl : Try.prog.cellsOf 27 = 2 := by kernel_rfl
theorem cellsIn : Try.prog.cellsOf 3 = 1 := by kernel_rfl
theorem list5 {α : Type} {l : List α} (h : l.length = 5) : ∃ a b c d e, l = [a, b, c, d, e] := by
  match l, h with
  | [a, b, c, d, e], _ => exact ⟨a, b, c, d, e, rfl⟩
theorem list7 {α : Type} {l : List α} (h : l.length = 7) : ∃ a b c d e f g, l = [a, b, c, d, e, f, g] := by
  match l, h with
  | [a, b, c, d, e, f, g], _ => exact ⟨a, b, c, d, e, f, g, rfl⟩
/-- A batch that came in. -/
theorem view_batchL {H : Type} {enc : TypeId × Value → H} {W : World} {fuel : Nat} {cs : List Value} {x : DataW H × List MemPlace}
    (h : DataW.trod enc Try.prog W 0 (fun _ => true) true fuel 52 cs = some x) (hr : ∀ n ∈ x.1.weights Try.prog 52, n ≤ reachBytes) :
    ∃ (st : Nat) (ao : Option Addr) (cap : Nat) (rs : List Rq) (b off : Nat), cs = [.int .u64 (st : Int), .slice ao rs.length cap] ∧ st < 18446744073709551616 ∧ Rqs W.heap.size W ao rs b off := by
  obtain ⟨xs, n, _, rfl, hl, hlen, hf⟩ := DataW.trod_struct Try.underlying52 h
  rw [cellsBt] at hl
  have hlen : xs.length = 2 := hlen
  obtain ⟨c0, c1, rfl⟩ := pair2 hl
  obtain ⟨y0, y1, rfl⟩ := pair2 hlen
  have e0 : DataW.trod enc Try.prog W 0 (fun _ => true) true n 25 (List.take (Try.prog.cellsOf 25) [c0, c1]) = some y0 := hf 0 _ rfl
  rw [cellsU64] at e0
  have e1 : DataW.trod enc Try.prog W 0 (fun _ => true) true n 32 (List.take (Try.prog.cellsOf 32) [c1]) = some y1 := hf 1 _ rfl
  rw [cellsRqs] at e1
  have hr : ∀ n ∈ DataW.weightsEach Try.prog [25, 32] [y0.1, y1.1], n ≤ reachBytes := by
    intro n hn
    refine hr n ?_
    simp only [DataW.weights, Try.underlying52]
    exact hn
  obtain ⟨K, k0, _, wK⟩ := DataW.trod_int Try.underlying25 e0
  obtain ⟨ao, len, cap, rs, b, off, k1, rfl, hR⟩ := view_requests e1 (fun n hn => hr n (DataW.weights_mem_each (j := 1) rfl rfl n hn))
  have bK := bounds_u64 wK
  simp only [List.take, List.cons.injEq, and_true] at k0 k1
  subst k0 k1
  have hKK : ((K.toNat : Nat) : Int) = K := by omega
  exact ⟨K.toNat, ao, cap, rs, b, off, by rw [hKK], by omega, hR⟩
/-- A ballot that came in. -/
theorem view_ballotL {H : Type} {enc : TypeId × Value → H} {W : World} {fuel : Nat} {cs : List Value} {x : DataW H × List MemPlace}
    (h : DataW.trod enc Try.prog W 0 (fun _ => true) true fuel 27 cs = some x) :
    ∃ (num : Nat) (node : Int), cs = [.int .u64 (num : Int), .int .i64 node] ∧ num < 18446744073709551616 := by
  obtain ⟨xs, n, _, rfl, hl, hlen, hf⟩ := DataW.trod_struct Try.underlying27 h
  rw [cellsBl] at hl
  have hlen : xs.length = 2 := hlen
  obtain ⟨c0, c1, rfl⟩ := pair2 hl
  obtain ⟨y0, y1, rfl⟩ := pair2 hlen
  have e0 : DataW.trod enc Try.prog W 0 (fun _ => true) true n 25 (List.take (Try.prog.cellsOf 25) [c0, c1]) = some y0 := hf 0 _ rfl
  rw [cellsU64] at e0
  have e1 : DataW.trod enc Try.prog W 0 (fun _ => true) true n 3 (List.take (Try.prog.cellsOf 3) [c1]) = some y1 := hf 1 _ rfl
  rw [cellsIn] at e1
  obtain ⟨K, k0, _, wK⟩ := DataW.trod_int Try.underlying25 e0
  obtain ⟨N, k1, _, _⟩ := DataW.trod_int Try.underlying3 e1
  have bK := bounds_u64 wK
  simp only [List.take, List.cons.injEq, and_true] at k0 k1
  subst k0 k1
  have hKK : ((K.toNat : Nat) : Int) = K := by omega
  exact ⟨K.toNat, N, by rw [hKK], by omega⟩
theorem cellsHs : Try.prog.cellsOf 56 = 32 := by kernel_rfl
theorem bytesHs : Try.prog.bytesOf 56 = 32 := by kernel_rfl
/-- A hash that came in. -/
theorem view_hash {H : Type} {enc : TypeId × Value → H} {W : World} {fuel : Nat} {cs : List Value} {x : DataW H × List MemPlace}
    (h : DataW.trod enc Try.prog W 0 (fun _ => true) true fuel 56 cs = some x) :
    ∃ t : List Nat, cs = vals t ∧ t.length = 32 ∧ ∀ y ∈ t, y < 256 := by
  have hu : Try.prog.underlying 56 = some (.array 32 5) := by kernel_rfl
  have hu8 : Try.prog.underlying 5 = some (.int .u8) := by kernel_rfl
  have hc8 : Try.prog.cellsOf 5 = 1 := by kernel_rfl
  obtain ⟨xs, n, _, _, hl, hlen, hf⟩ := DataW.trod_array hu h
  rw [cellsHs] at hl
  obtain ⟨F, hF⟩ := choose_lt (α := Nat) (n := 32) (p := fun i y => cs[i]? = some (.int .u8 (y : Int)) ∧ y < 256) (fun i hi => by
    have e := hf i hi
    rw [hc8, Nat.mul_one, List.getElem?_eq_getElem (by omega)] at e
    obtain ⟨K, k0, _, wK⟩ := DataW.trod_int hu8 e
    have bK := bounds_u8 wK
    refine ⟨K.toNat, ?_, by omega⟩
    have e2 : (cs.drop i).take 1 = [cs[i]'(by omega)] := by
      rw [List.drop_eq_getElem_cons (by omega)]
      rfl
    rw [e2] at k0
    rw [List.getElem?_eq_getElem (by omega)]
    simp only [List.cons.injEq, and_true] at k0
    rw [k0, Int.toNat_of_nonneg (by omega)])
  refine ⟨(List.range 32).map F, ?_, by simp, fun y hy => ?_⟩
  · refine List.ext_getElem? (fun i => ?_)
    by_cases hi : i < 32
    · rw [(hF i hi).1]
      simp [vals, List.getElem?_map, List.getElem?_range hi]
    · rw [List.getElem?_eq_none (by omega), List.getElem?_eq_none (by simp [vals]; omega)]
  · obtain ⟨i, hi, rfl⟩ := List.mem_map.1 hy
    exact (hF i (List.mem_range.1 hi)).2
/-- A list that came in, whatever is in it. -/
theorem view_any {H : Type} {enc : TypeId × Value → H} {W : World} {fuel : Nat} {t e : TypeId} {cs : List Value} {x : DataW H × List MemPlace} (hu : Try.prog.underlying t = some (.slice e))
    (hf : DataW.trod enc Try.prog W 0 (fun _ => true) true fuel t cs = some x) : ∃ ao l c, cs = [.slice ao l c] := by
  rcases open_slice hu hf with ⟨rfl, _⟩ | ⟨a, len, cap, m, n, D, Pl, rfl, _⟩
  · exact ⟨_, _, _, rfl⟩
  · exact ⟨_, _, _, rfl⟩
end Go.Proofs.Ytneginefcloceaa
