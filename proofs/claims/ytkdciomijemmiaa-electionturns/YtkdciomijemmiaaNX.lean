import Derived.Test.YtkdciomijemmiaaBVw
import Derived.Test.YtkdciomijemmiaaQDef
import Derived.Test.YtkdciomijemmiaaNP
import Derived.Test.YtkdciomijemmiaaNV
namespace Go.Proofs.Ytkdciomijemmiaa
open Go.ChangeShapes Go.WideShapes Go.ChangeAt Go.RowKit Go.Deep Crc

theorem bytesU8 : Try.prog.bytesOf 5 = 1 := by kernel_rfl
theorem cellsU8 : Try.prog.cellsOf 5 = 1 := by kernel_rfl
theorem cellsBs : Try.prog.cellsOf 34 = 1 := by kernel_rfl
theorem weights_all {H : Type} {P : Program} {e : TypeId} {d : DataW H} {n : Nat} (hn : n ∈ d.weights P e) : ∀ {ds : List (DataW H)}, d ∈ ds → n ∈ DataW.weightsAll P e ds
  | [], h => by cases h
  | x :: r, h => by
    simp only [DataW.weightsAll, List.mem_append]
    rcases List.mem_cons.1 h with rfl | h
    · exact .inl hn
    · exact .inr (weights_all hn h)

/-- The bytes as numbers. -/
theorem bytes_of (zs : List Int) (hwz : ∀ n ∈ zs, (Lit.int .u8 n).wf = true) : ∃ B : List Nat, zs = B.map (fun (x : Nat) => (x : Int)) ∧ ∀ x ∈ B, x < 256 := by
  induction zs with
  | nil => exact ⟨[], rfl, by simp⟩
  | cons z r ih =>
    obtain ⟨B, hB, hl⟩ := ih (fun n hn => hwz n (by simp [hn]))
    have hz := bounds_u8 (hwz z (by simp))
    refine ⟨z.toNat :: B, ?_, ?_⟩
    · simp [hB]; omega
    · intro x hx
      rcases List.mem_cons.1 hx with rfl | hx
      · omega
      · exact hl x hx

/-- Bytes that came in. -/
theorem view_bytes {H : Type} {enc : TypeId × Value → H} {W : World} {fuel : Nat} {cs : List Value} {x : DataW H × List MemPlace}
    (hf : DataW.trod enc Try.prog W 0 (fun _ => true) true fuel 34 cs = some x) (hr : ∀ n ∈ x.1.weights Try.prog 34, n ≤ reachBytes) :
    ∃ (ao : Option Addr) (len cap : Nat) (B : List Nat), cs = [.slice ao len cap] ∧ Shows W.heap.size W ao len cap B := by
  have hlt := DataW.trod_lt fuel _ _ _ hf
  rcases open_ints Try.underlying34 Try.underlying5 cellsU8 hf with ⟨rfl, _⟩ | ⟨x, len, cap, zs, rfl, _, hl, hm, hz, rfl, hcell, hwz⟩
  · exact ⟨none, 0, 0, [], rfl, rfl, by omega, by omega, by simp, 0, 0, fun h => by omega, fun h => by omega, fun i hi => by omega⟩
  · obtain ⟨B, rfl, hB⟩ := bytes_of zs hwz
    have hr := hr ((lits .u8 ((B.map (fun (x : Nat) => (x : Int))).take len)).length + (lits (H := H) .u8 ((B.map (fun (x : Nat) => (x : Int))).drop len)).length) (by
      simp only [DataW.weights, Try.underlying34, bytesU8, Nat.mul_one]
      exact List.mem_cons_self ..)
    simp only [lits, List.length_map, List.length_take, List.length_drop, reachBytes] at hr
    have hzl : B.length = cap := by simpa using hz
    by_cases hp : 0 < len
    · obtain ⟨b, off, spot⟩ := x
      have hspot : spot = none := by simpa [Addr.add] using World.cell?_spot (hcell 0 (by simp; omega))
      subst hspot
      have hbW : b < W.heap.size := hlt (.cell b off) (MemPlace.mem_row.2 ⟨0, by simp; omega, by simp⟩)
      refine ⟨_, len, cap, B.take len, rfl, by simp; omega, hl, by omega, fun x hx => hB x (List.mem_of_mem_take hx), b, off, fun _ => rfl, fun _ => hbW, fun i hi => ?_⟩
      have hci := hcell i (by simp; omega)
      rw [add_plain] at hci
      rw [hci, List.getD_eq_getElem?_getD, List.getD_eq_getElem?_getD, List.getElem?_map, List.getElem?_take, if_pos hi, List.getElem?_eq_getElem (by omega)]
      rfl
    · obtain rfl : len = 0 := by omega
      exact ⟨_, 0, cap, [], rfl, rfl, by omega, by omega, by simp, 0, 0, fun h => by omega, fun h => by omega, fun i hi => by omega⟩

theorem cellsRq : Try.prog.cellsOf 36 = 3 := by kernel_rfl
theorem bytesRq : Try.prog.bytesOf 36 = 40 := by kernel_rfl
theorem cellsRqs : Try.prog.cellsOf 23 = 1 := by kernel_rfl
theorem cellsBt : Try.prog.cellsOf 40 = 2 := by kernel_rfl
instance : Inhabited Rq := ⟨⟨0, 0, none, 0, 0, []⟩⟩
theorem pair2 {α : Type} {l : List α} (h : l.length = 2) : ∃ a b, l = [a, b] := by
  match l, h with
  | [a, b], _ => exact ⟨a, b, rfl⟩
theorem list3 {α : Type} {l : List α} (h : l.length = 3) : ∃ a b c, l = [a, b, c] := by
  match l, h with
  | [a, b, c], _ => exact ⟨a, b, c, rfl⟩

/-- Bytes that came in, with the reach's own bound. -/
theorem view_bytesB {H : Type} {enc : TypeId × Value → H} {W : World} {fuel : Nat} {cs : List Value} {x : DataW H × List MemPlace}
    (hf : DataW.trod enc Try.prog W 0 (fun _ => true) true fuel 34 cs = some x) (hr : ∀ n ∈ x.1.weights Try.prog 34, n ≤ reachBytes) :
    ∃ (ao : Option Addr) (len cap : Nat) (B : List Nat), cs = [.slice ao len cap] ∧ Shows W.heap.size W ao len cap B ∧ len ≤ 140737488351232 := by
  obtain ⟨ao, len, cap, B, rfl, hS⟩ := view_bytes hf hr
  refine ⟨ao, len, cap, B, rfl, hS, ?_⟩
  rcases open_ints Try.underlying34 Try.underlying5 cellsU8 hf with ⟨hcs, _⟩ | ⟨x, l, c, zs, hcs, _, hl, hm, hz, hx, hcell, hwz⟩
  · simp at hcs
    omega
  · simp at hcs
    obtain ⟨rfl, rfl, rfl⟩ := hcs
    subst hx
    have hr := hr ((lits .u8 (zs.take len)).length + (lits (H := H) .u8 (zs.drop len)).length) (by
      simp only [DataW.weights, Try.underlying34, bytesU8, Nat.mul_one]
      exact List.mem_cons_self ..)
    simp only [lits, List.length_map, List.length_take, List.length_drop, reachBytes] at hr
    simp only [if_true] at hz
    omega

/-- A request that came in. -/
theorem view_request {H : Type} {enc : TypeId × Value → H} {W : World} {fuel : Nat} {cs : List Value} {x : DataW H × List MemPlace}
    (h : DataW.trod enc Try.prog W 0 (fun _ => true) true fuel 36 cs = some x) (hr : ∀ n ∈ x.1.weights Try.prog 36, n ≤ reachBytes) :
    ∃ r : Rq, cs = r.cells.toList ∧ r.Ok W.heap.size W := by
  obtain ⟨xs, n, _, rfl, hl, hlen, hf⟩ := DataW.trod_struct Try.underlying36 h
  rw [cellsRq] at hl
  have hlen : xs.length = 3 := hlen
  obtain ⟨c0, c1, c2, rfl⟩ := list3 hl
  obtain ⟨y0, y1, y2, rfl⟩ := list3 hlen
  have e0 : DataW.trod enc Try.prog W 0 (fun _ => true) true n 22 (List.take (Try.prog.cellsOf 22) [c0, c1, c2]) = some y0 := hf 0 _ rfl
  rw [cellsU64] at e0
  have e1 : DataW.trod enc Try.prog W 0 (fun _ => true) true n 22 (List.take (Try.prog.cellsOf 22) [c1, c2]) = some y1 := hf 1 _ rfl
  rw [cellsU64] at e1
  have e2 : DataW.trod enc Try.prog W 0 (fun _ => true) true n 34 (List.take (Try.prog.cellsOf 34) [c2]) = some y2 := hf 2 _ rfl
  rw [cellsBs] at e2
  have hr : ∀ n ∈ DataW.weightsEach Try.prog [22, 22, 34] [y0.1, y1.1, y2.1], n ≤ reachBytes := by
    intro n hn
    refine hr n ?_
    simp only [DataW.weights, Try.underlying36]
    exact hn
  obtain ⟨K, k0, _, wK⟩ := DataW.trod_int Try.underlying22 e0
  obtain ⟨N, k1, _, wN⟩ := DataW.trod_int Try.underlying22 e1
  obtain ⟨ao, len, cap, B, k2, hB, hBn⟩ := view_bytesB e2 (fun n hn => hr n (DataW.weights_mem_each (j := 2) rfl rfl n hn))
  have bK := bounds_u64 wK
  have bN := bounds_u64 wN
  simp only [List.take, List.cons.injEq, and_true] at k0 k1 k2
  subst k0 k1 k2
  have hKK : ((K.toNat : Nat) : Int) = K := by omega
  have hNN : ((N.toNat : Nat) : Int) = N := by omega
  exact ⟨⟨K.toNat, N.toNat, ao, len, cap, B⟩, by simp [Rq.cells, hNN, hKK], by simp only; omega, by simp only; omega, hB⟩

/-- The requests that came in. -/
theorem view_requests {H : Type} {enc : TypeId × Value → H} {W : World} {fuel : Nat} {cs : List Value} {x : DataW H × List MemPlace}
    (hf : DataW.trod enc Try.prog W 0 (fun _ => true) true fuel 23 cs = some x) (hr : ∀ n ∈ x.1.weights Try.prog 23, n ≤ reachBytes) :
    ∃ (ao : Option Addr) (len cap : Nat) (rs : List Rq) (b off : Nat), cs = [.slice ao len cap] ∧ len = rs.length ∧ Rqs W.heap.size W ao rs b off := by
  have hlt := DataW.trod_lt fuel _ _ _ hf
  rcases open_slice Try.underlying23 hf with ⟨rfl, _⟩ | ⟨a, len, cap, m, n, D, Pl, rfl, _, hl, hm, hmm, hx, hall⟩
  · exact ⟨none, 0, 0, [], 0, 0, rfl, rfl, fun h => by simp at h, fun h => by simp at h, by simp, by simp, by simp⟩
  · simp only [if_true] at hmm
    subst hmm
    simp only [cellsRq] at hx
    subst hx
    simp only [cellsRq] at hall
    simp only [DataW.weights, Try.underlying23, bytesRq, List.length_map, List.length_range] at hr
    have hcap := hr _ (List.mem_cons_self ..)
    simp only [reachBytes] at hcap
    obtain ⟨F, hF⟩ := choose_lt (α := Rq) (n := len) (p := fun i f => f.Ok W.heap.size W ∧ ∀ j v, f.cells[j]? = some v → W.cell? (a.add (i * 3 + j)) = some v) (fun i hi => by
      obtain ⟨cs, h1, h2⟩ := hall i (by omega)
      obtain ⟨f, rfl, hok⟩ := view_request h2 (fun n hn => hr n (List.mem_cons_of_mem _ (List.mem_append_left _ (weights_all hn (List.mem_map.2 ⟨i, List.mem_range.2 hi, rfl⟩)))))
      refine ⟨f, hok, fun j v hj => ?_⟩
      have hj3 : j < 3 := by
        have := (Array.getElem?_eq_some_iff.1 hj).1
        simpa [Rq.cells] using this
      have h3 := (World.cells?_some h1).2.2 j hj3
      rw [add_add] at h3
      rw [h3]
      simpa using hj)
    by_cases hp : 0 < len
    · obtain ⟨b, off, spot⟩ := a
      have h00 := (hF 0 hp).2 0 _ rfl
      have hspot : spot = none := by simpa [Addr.add] using World.cell?_spot h00
      subst hspot
      have hbW : b < W.heap.size := hlt (.cell b off) (List.mem_append_left _ (MemPlace.mem_row.2 ⟨0, by omega, by simp⟩))
      refine ⟨_, len, _, (List.range len).map F, b, off, rfl, by simp, fun _ => rfl, fun _ => hbW, by simp; omega, ?_, ?_⟩
      · intro i f hi j v hj
        have hil : i < len := by
          have := (List.getElem?_eq_some_iff.1 hi).1
          simpa using this
        rw [List.getElem?_map, List.getElem?_range hil] at hi
        cases hi
        have := (hF i hil).2 j v hj
        rw [add_plain] at this
        rw [Nat.add_assoc]
        exact this
      · intro f hf
        obtain ⟨i, hi, rfl⟩ := List.mem_map.1 hf
        exact (hF i (List.mem_range.1 hi)).1
    · obtain rfl : len = 0 := by omega
      exact ⟨_, 0, _, [], 0, 0, rfl, rfl, fun h => by simp at h, fun h => by simp at h, by simp, by simp, by simp⟩

theorem cellsBl : Try.prog.cellsOf 45 = 2 := by kernel_rfl
theorem cellsIn : Try.prog.cellsOf 3 = 1 := by kernel_rfl
theorem list5 {α : Type} {l : List α} (h : l.length = 5) : ∃ a b c d e, l = [a, b, c, d, e] := by
  match l, h with
  | [a, b, c, d, e], _ => exact ⟨a, b, c, d, e, rfl⟩
theorem list7 {α : Type} {l : List α} (h : l.length = 7) : ∃ a b c d e f g, l = [a, b, c, d, e, f, g] := by
  match l, h with
  | [a, b, c, d, e, f, g], _ => exact ⟨a, b, c, d, e, f, g, rfl⟩
/-- A batch that came in. -/
theorem view_batchL {H : Type} {enc : TypeId × Value → H} {W : World} {fuel : Nat} {cs : List Value} {x : DataW H × List MemPlace}
    (h : DataW.trod enc Try.prog W 0 (fun _ => true) true fuel 40 cs = some x) (hr : ∀ n ∈ x.1.weights Try.prog 40, n ≤ reachBytes) :
    ∃ (st : Nat) (ao : Option Addr) (cap : Nat) (rs : List Rq) (b off : Nat), cs = [.int .u64 (st : Int), .slice ao rs.length cap] ∧ st < 18446744073709551616 ∧ Rqs W.heap.size W ao rs b off := by
  obtain ⟨xs, n, _, rfl, hl, hlen, hf⟩ := DataW.trod_struct Try.underlying40 h
  rw [cellsBt] at hl
  have hlen : xs.length = 2 := hlen
  obtain ⟨c0, c1, rfl⟩ := pair2 hl
  obtain ⟨y0, y1, rfl⟩ := pair2 hlen
  have e0 : DataW.trod enc Try.prog W 0 (fun _ => true) true n 22 (List.take (Try.prog.cellsOf 22) [c0, c1]) = some y0 := hf 0 _ rfl
  rw [cellsU64] at e0
  have e1 : DataW.trod enc Try.prog W 0 (fun _ => true) true n 23 (List.take (Try.prog.cellsOf 23) [c1]) = some y1 := hf 1 _ rfl
  rw [cellsRqs] at e1
  have hr : ∀ n ∈ DataW.weightsEach Try.prog [22, 23] [y0.1, y1.1], n ≤ reachBytes := by
    intro n hn
    refine hr n ?_
    simp only [DataW.weights, Try.underlying40]
    exact hn
  obtain ⟨K, k0, _, wK⟩ := DataW.trod_int Try.underlying22 e0
  obtain ⟨ao, len, cap, rs, b, off, k1, rfl, hR⟩ := view_requests e1 (fun n hn => hr n (DataW.weights_mem_each (j := 1) rfl rfl n hn))
  have bK := bounds_u64 wK
  simp only [List.take, List.cons.injEq, and_true] at k0 k1
  subst k0 k1
  have hKK : ((K.toNat : Nat) : Int) = K := by omega
  exact ⟨K.toNat, ao, cap, rs, b, off, by rw [hKK], by omega, hR⟩
/-- A ballot that came in. -/
theorem view_ballotL {H : Type} {enc : TypeId × Value → H} {W : World} {fuel : Nat} {cs : List Value} {x : DataW H × List MemPlace}
    (h : DataW.trod enc Try.prog W 0 (fun _ => true) true fuel 45 cs = some x) :
    ∃ (num : Nat) (node : Int), cs = [.int .u64 (num : Int), .int .i64 node] ∧ num < 18446744073709551616 := by
  obtain ⟨xs, n, _, rfl, hl, hlen, hf⟩ := DataW.trod_struct Try.underlying45 h
  rw [cellsBl] at hl
  have hlen : xs.length = 2 := hlen
  obtain ⟨c0, c1, rfl⟩ := pair2 hl
  obtain ⟨y0, y1, rfl⟩ := pair2 hlen
  have e0 : DataW.trod enc Try.prog W 0 (fun _ => true) true n 22 (List.take (Try.prog.cellsOf 22) [c0, c1]) = some y0 := hf 0 _ rfl
  rw [cellsU64] at e0
  have e1 : DataW.trod enc Try.prog W 0 (fun _ => true) true n 3 (List.take (Try.prog.cellsOf 3) [c1]) = some y1 := hf 1 _ rfl
  rw [cellsIn] at e1
  obtain ⟨K, k0, _, wK⟩ := DataW.trod_int Try.underlying22 e0
  obtain ⟨N, k1, _, _⟩ := DataW.trod_int Try.underlying3 e1
  have bK := bounds_u64 wK
  simp only [List.take, List.cons.injEq, and_true] at k0 k1
  subst k0 k1
  have hKK : ((K.toNat : Nat) : Int) = K := by omega
  exact ⟨K.toNat, N, by rw [hKK], by omega⟩
theorem cellsHs : Try.prog.cellsOf 59 = 32 := by kernel_rfl
theorem bytesHs : Try.prog.bytesOf 59 = 32 := by kernel_rfl
/-- A hash that came in. -/
theorem view_hash {H : Type} {enc : TypeId × Value → H} {W : World} {fuel : Nat} {cs : List Value} {x : DataW H × List MemPlace}
    (h : DataW.trod enc Try.prog W 0 (fun _ => true) true fuel 59 cs = some x) :
    ∃ t : List Nat, cs = vals t ∧ t.length = 32 ∧ ∀ y ∈ t, y < 256 := by
  have hu : Try.prog.underlying 59 = some (.array 32 5) := by kernel_rfl
  have hu8 : Try.prog.underlying 5 = some (.int .u8) := by kernel_rfl
  have hc8 : Try.prog.cellsOf 5 = 1 := by kernel_rfl
  obtain ⟨xs, n, _, _, hl, hlen, hf⟩ := DataW.trod_array hu h
  rw [cellsHs] at hl
  obtain ⟨F, hF⟩ := choose_lt (α := Nat) (n := 32) (p := fun i y => cs[i]? = some (.int .u8 (y : Int)) ∧ y < 256) (fun i hi => by
    have e := hf i hi
    rw [hc8, Nat.mul_one, List.getElem?_eq_getElem (by omega)] at e
    obtain ⟨K, k0, _, wK⟩ := DataW.trod_int hu8 e
    have bK := bounds_u8 wK
    refine ⟨K.toNat, ?_, by omega⟩
    have e2 : (cs.drop i).take 1 = [cs[i]'(by omega)] := by
      rw [List.drop_eq_getElem_cons (by omega)]
      rfl
    rw [e2] at k0
    rw [List.getElem?_eq_getElem (by omega)]
    simp only [List.cons.injEq, and_true] at k0
    rw [k0, Int.toNat_of_nonneg (by omega)])
  refine ⟨(List.range 32).map F, ?_, by simp, fun y hy => ?_⟩
  · refine List.ext_getElem? (fun i => ?_)
    by_cases hi : i < 32
    · rw [(hF i hi).1]
      simp [vals, List.getElem?_map, List.getElem?_range hi]
    · rw [List.getElem?_eq_none (by omega), List.getElem?_eq_none (by simp [vals]; omega)]
  · obtain ⟨i, hi, rfl⟩ := List.mem_map.1 hy
    exact (hF i (List.mem_range.1 hi)).2
/-- A list that came in, whatever is in it. -/
theorem view_any {H : Type} {enc : TypeId × Value → H} {W : World} {fuel : Nat} {t e : TypeId} {cs : List Value} {x : DataW H × List MemPlace} (hu : Try.prog.underlying t = some (.slice e))
    (hf : DataW.trod enc Try.prog W 0 (fun _ => true) true fuel t cs = some x) : ∃ ao l c, cs = [.slice ao l c] := by
  rcases open_slice hu hf with ⟨rfl, _⟩ | ⟨a, len, cap, m, n, D, Pl, rfl, _⟩
  · exact ⟨_, _, _, rfl⟩
  · exact ⟨_, _, _, rfl⟩
end Go.Proofs.Ytkdciomijemmiaa
namespace Go.Proofs.Ytkdciomijemmiaa
open Go.ChangeShapes Go.WideShapes Go.ChangeAt Go.RowKit Go.Deep Crc

theorem cellsKd : Try.prog.cellsOf 55 = 1 := by kernel_rfl
theorem cellsVs : Try.prog.cellsOf 56 = 1 := by kernel_rfl
theorem cellsEr : Try.prog.cellsOf 57 = 1 := by kernel_rfl
theorem cellsBo : Try.prog.cellsOf 4 = 1 := by kernel_rfl
theorem cellsHl : Try.prog.cellsOf 60 = 1 := by kernel_rfl
theorem cellsMs : Try.prog.cellsOf 62 = 49 := by kernel_rfl
theorem list16 {α : Type} {l : List α} (h : l.length = 16) : ∃ y0 y1 y2 y3 y4 y5 y6 y7 y8 y9 y10 y11 y12 y13 y14 y15, l = [y0, y1, y2, y3, y4, y5, y6, y7, y8, y9, y10, y11, y12, y13, y14, y15] := by
  match l, h with
  | [y0, y1, y2, y3, y4, y5, y6, y7, y8, y9, y10, y11, y12, y13, y14, y15], _ => exact ⟨y0, y1, y2, y3, y4, y5, y6, y7, y8, y9, y10, y11, y12, y13, y14, y15, rfl⟩
theorem peel (L : List Value) (a c : Nat) {p : List Value} (h : (L.drop a).take c = p) : L.drop a = p ++ L.drop (a + c) := by
  rw [← h, ← List.drop_drop, List.take_append_drop]
theorem at_take {L : List Value} {a c : Nat} {p : List Value} (h : (L.drop a).take c = p) {j : Nat} (hj : j < c) : L[a + j]? = p[j]? := by
  rw [← h, List.getElem?_take, if_pos hj, List.getElem?_drop]
/-- The message that came in. -/
theorem view_msgE {H : Type} {enc : TypeId × Value → H} {W : World} {fuel : Nat} {L : List Value} {x : DataW H × List MemPlace}
    (h : DataW.trod enc Try.prog W 0 (fun _ => true) true fuel 62 L = some x) (hr : ∀ n ∈ x.1.weights Try.prog 62, n ≤ reachBytes) :
    ∃ kind num node susp, MsgC L kind num node susp ∧ ∀ v ∈ L, v.oneCell' = true := by
  obtain ⟨xs, n, _, rfl, hl, hlen, hf⟩ := DataW.trod_struct Try.underlying62 h
  clear h
  rw [cellsMs] at hl
  have hlen : xs.length = 16 := hlen
  obtain ⟨y0, y1, y2, y3, y4, y5, y6, y7, y8, y9, y10, y11, y12, y13, y14, y15, rfl⟩ := list16 hlen
  have e0 : DataW.trod enc Try.prog W 0 (fun _ => true) true n 55 ((L.drop 0).take (Try.prog.cellsOf 55)) = some y0 := hf 0 _ rfl
  rw [cellsKd] at e0
  have e1 : DataW.trod enc Try.prog W 0 (fun _ => true) true n 45 ((L.drop 1).take (Try.prog.cellsOf 45)) = some y1 := hf 1 _ rfl
  rw [cellsBl] at e1
  have e2 : DataW.trod enc Try.prog W 0 (fun _ => true) true n 22 ((L.drop 3).take (Try.prog.cellsOf 22)) = some y2 := hf 2 _ rfl
  rw [cellsU64] at e2
  have e3 : DataW.trod enc Try.prog W 0 (fun _ => true) true n 22 ((L.drop 4).take (Try.prog.cellsOf 22)) = some y3 := hf 3 _ rfl
  rw [cellsU64] at e3
  have e4 : DataW.trod enc Try.prog W 0 (fun _ => true) true n 56 ((L.drop 5).take (Try.prog.cellsOf 56)) = some y4 := hf 4 _ rfl
  rw [cellsVs] at e4
  have e5 : DataW.trod enc Try.prog W 0 (fun _ => true) true n 40 ((L.drop 6).take (Try.prog.cellsOf 40)) = some y5 := hf 5 _ rfl
  rw [cellsBt] at e5
  have e6 : DataW.trod enc Try.prog W 0 (fun _ => true) true n 22 ((L.drop 8).take (Try.prog.cellsOf 22)) = some y6 := hf 6 _ rfl
  rw [cellsU64] at e6
  have e7 : DataW.trod enc Try.prog W 0 (fun _ => true) true n 22 ((L.drop 9).take (Try.prog.cellsOf 22)) = some y7 := hf 7 _ rfl
  rw [cellsU64] at e7
  have e8 : DataW.trod enc Try.prog W 0 (fun _ => true) true n 57 ((L.drop 10).take (Try.prog.cellsOf 57)) = some y8 := hf 8 _ rfl
  rw [cellsEr] at e8
  have e9 : DataW.trod enc Try.prog W 0 (fun _ => true) true n 34 ((L.drop 11).take (Try.prog.cellsOf 34)) = some y9 := hf 9 _ rfl
  rw [cellsBs] at e9
  have e10 : DataW.trod enc Try.prog W 0 (fun _ => true) true n 34 ((L.drop 12).take (Try.prog.cellsOf 34)) = some y10 := hf 10 _ rfl
  rw [cellsBs] at e10
  have e11 : DataW.trod enc Try.prog W 0 (fun _ => true) true n 4 ((L.drop 13).take (Try.prog.cellsOf 4)) = some y11 := hf 11 _ rfl
  rw [cellsBo] at e11
  have e12 : DataW.trod enc Try.prog W 0 (fun _ => true) true n 22 ((L.drop 14).take (Try.prog.cellsOf 22)) = some y12 := hf 12 _ rfl
  rw [cellsU64] at e12
  have e13 : DataW.trod enc Try.prog W 0 (fun _ => true) true n 22 ((L.drop 15).take (Try.prog.cellsOf 22)) = some y13 := hf 13 _ rfl
  rw [cellsU64] at e13
  have e14 : DataW.trod enc Try.prog W 0 (fun _ => true) true n 59 ((L.drop 16).take (Try.prog.cellsOf 59)) = some y14 := hf 14 _ rfl
  rw [cellsHs] at e14
  have e15 : DataW.trod enc Try.prog W 0 (fun _ => true) true n 60 ((L.drop 48).take (Try.prog.cellsOf 60)) = some y15 := hf 15 _ rfl
  rw [cellsHl] at e15
  clear hf hlen
  have hr : ∀ n ∈ DataW.weightsEach Try.prog [55, 45, 22, 22, 56, 40, 22, 22, 57, 34, 34, 4, 22, 22, 59, 60] [y0.1, y1.1, y2.1, y3.1, y4.1, y5.1, y6.1, y7.1, y8.1, y9.1, y10.1, y11.1, y12.1, y13.1, y14.1, y15.1], n ≤ reachBytes := by
    intro n hn
    refine hr n ?_
    simp only [DataW.weights, Try.underlying62]
    exact hn
  obtain ⟨kind, k0, _, _⟩ := DataW.trod_int Try.underlying55 e0
  obtain ⟨num, node, k1, hnum⟩ := view_ballotL e1
  obtain ⟨s2, k2, _, w2⟩ := DataW.trod_int Try.underlying22 e2
  obtain ⟨s3, k3, _, w3⟩ := DataW.trod_int Try.underlying22 e3
  obtain ⟨vo, vn, vc, k4⟩ := view_any Try.underlying56 e4
  obtain ⟨st, ro, rc, rs, b, off, k5, hst, hR⟩ := view_batchL e5 (fun n hn => hr n (DataW.weights_mem_each (j := 5) rfl rfl n hn))
  obtain ⟨s6, k6, _, w6⟩ := DataW.trod_int Try.underlying22 e6
  obtain ⟨s7, k7, _, w7⟩ := DataW.trod_int Try.underlying22 e7
  obtain ⟨code, k8, _, w8⟩ := DataW.trod_int Try.underlying57 e8
  obtain ⟨co, cn, cc, k9⟩ := view_any Try.underlying34 e9
  obtain ⟨do_, dn, dc, k10⟩ := view_any Try.underlying34 e10
  obtain ⟨sus, k11, _⟩ := DataW.trod_bool Try.underlying4 e11
  obtain ⟨s12, k12, _, w12⟩ := DataW.trod_int Try.underlying22 e12
  obtain ⟨s13, k13, _, w13⟩ := DataW.trod_int Try.underlying22 e13
  obtain ⟨root, k14, rl, rb⟩ := view_hash e14
  obtain ⟨po, pn, pc, k15⟩ := view_any Try.underlying60 e15
  clear e0 e1 e2 e3 e4 e5 e6 e7 e8 e9 e10 e11 e12 e13 e14 e15 hr w2 w3 w6 w7 w8 w12 w13
  refine ⟨kind, num, node, sus, ⟨hl, at_take k0 (j := 0) (by decide), at_take k1 (j := 0) (by decide), at_take k1 (j := 1) (by decide), at_take k11 (j := 0) (by decide), hnum⟩, ?_⟩
  have q0 := peel L 0 1 k0
  have q1 := peel L 1 2 k1
  have q2 := peel L 3 1 k2
  have q3 := peel L 4 1 k3
  have q4 := peel L 5 1 k4
  have q5 := peel L 6 2 k5
  have q6 := peel L 8 1 k6
  have q7 := peel L 9 1 k7
  have q8 := peel L 10 1 k8
  have q9 := peel L 11 1 k9
  have q10 := peel L 12 1 k10
  have q11 := peel L 13 1 k11
  have q12 := peel L 14 1 k12
  have q13 := peel L 15 1 k13
  have q14 := peel L 16 32 k14
  have q15 := peel L 48 1 k15
  have q16 : L.drop 49 = [] := List.drop_eq_nil_of_le (by omega)
  have e2 : L = L.drop 0 := rfl
  intro v hv
  have hv' : v ∈ L := hv
  rw [e2, q0, q1, q2, q3, q4, q5, q6, q7, q8, q9, q10, q11, q12, q13, q14, q15, q16] at hv'
  simp only [List.mem_append, List.mem_cons, List.not_mem_nil, or_false] at hv'
  have hroot : ∀ v ∈ vals root, v.oneCell' = true := vals_one' root
  rcases hv' with rfl | hv'
  · rfl
  rcases hv' with hv' | hv'
  · rcases hv' with rfl | rfl <;> rfl
  rcases hv' with rfl | hv'
  · rfl
  rcases hv' with rfl | hv'
  · rfl
  rcases hv' with rfl | hv'
  · rfl
  rcases hv' with hv' | hv'
  · rcases hv' with rfl | rfl <;> rfl
  rcases hv' with rfl | hv'
  · rfl
  rcases hv' with rfl | hv'
  · rfl
  rcases hv' with rfl | hv'
  · rfl
  rcases hv' with rfl | hv'
  · rfl
  rcases hv' with rfl | hv'
  · rfl
  rcases hv' with rfl | hv'
  · rfl
  rcases hv' with rfl | hv'
  · rfl
  rcases hv' with rfl | hv'
  · rfl
  rcases hv' with hv' | rfl
  · exact hroot v hv'
  · rfl
end Go.Proofs.Ytkdciomijemmiaa
namespace Go.Proofs.Ytkdciomijemmiaa
open Go.ChangeShapes Go.WideShapes Go.ChangeAt Go.RowKit Go.Deep Crc

theorem cellsOp : Try.prog.cellsOf 64 = 57 := by kernel_rfl
theorem bytesOp : Try.prog.bytesOf 64 = 344 := by kernel_rfl
theorem cellsAdE : Try.prog.cellsOf 54 = 1 := by kernel_rfl
theorem list6E {α : Type} {l : List α} (h : l.length = 6) : ∃ a b c d e f, l = [a, b, c, d, e, f] := by
  match l, h with
  | [a, b, c, d, e, f], _ => exact ⟨a, b, c, d, e, f, rfl⟩
/-- An Op that came in. -/
theorem view_op {H : Type} {enc : TypeId × Value → H} {W : World} {fuel : Nat} {L : List Value} {x : DataW H × List MemPlace}
    (h : DataW.trod enc Try.prog W 0 (fun _ => true) true fuel 64 L = some x) (hr : ∀ n ∈ x.1.weights Try.prog 64, n ≤ reachBytes) :
    ∃ kd cs kind num node susp src now, OpK L kd cs kind num node susp src now := by
  obtain ⟨xs, n, _, rfl, hl, hlen, hf⟩ := DataW.trod_struct Try.underlying64 h
  clear h
  rw [cellsOp] at hl
  have hlen : xs.length = 6 := hlen
  obtain ⟨y0, y1, y2, y3, y4, y5, rfl⟩ := list6E hlen
  have e0 : DataW.trod enc Try.prog W 0 (fun _ => true) true n 3 ((L.drop 0).take (Try.prog.cellsOf 3)) = some y0 := hf 0 _ rfl
  rw [cellsInt] at e0
  have e1 : DataW.trod enc Try.prog W 0 (fun _ => true) true n 36 ((L.drop 1).take (Try.prog.cellsOf 36)) = some y1 := hf 1 _ rfl
  rw [cellsRq] at e1
  have e2 : DataW.trod enc Try.prog W 0 (fun _ => true) true n 40 ((L.drop 4).take (Try.prog.cellsOf 40)) = some y2 := hf 2 _ rfl
  rw [cellsBt] at e2
  have e3 : DataW.trod enc Try.prog W 0 (fun _ => true) true n 54 ((L.drop 6).take (Try.prog.cellsOf 54)) = some y3 := hf 3 _ rfl
  rw [cellsAdE] at e3
  have e4 : DataW.trod enc Try.prog W 0 (fun _ => true) true n 62 ((L.drop 7).take (Try.prog.cellsOf 62)) = some y4 := hf 4 _ rfl
  rw [cellsMs] at e4
  have e5 : DataW.trod enc Try.prog W 0 (fun _ => true) true n 22 ((L.drop 56).take (Try.prog.cellsOf 22)) = some y5 := hf 5 _ rfl
  rw [cellsU64] at e5
  have hr : ∀ n ∈ DataW.weightsEach Try.prog [3, 36, 40, 54, 62, 22] [y0.1, y1.1, y2.1, y3.1, y4.1, y5.1], n ≤ reachBytes := by
    intro n hn
    refine hr n ?_
    simp only [DataW.weights, Try.underlying64]
    exact hn
  obtain ⟨kd, k0, _, _⟩ := DataW.trod_int Try.underlying3 e0
  obtain ⟨r, k1, _⟩ := view_request e1 (fun n hn => hr n (DataW.weights_mem_each (j := 1) rfl rfl n hn))
  obtain ⟨st, ro, rc, rs, b, off, k2, _, _⟩ := view_batchL e2 (fun n hn => hr n (DataW.weights_mem_each (j := 2) rfl rfl n hn))
  obtain ⟨s3, k3, _, w3⟩ := DataW.trod_int Try.underlying54 e3
  obtain ⟨kind, num, node, susp, hm, hone⟩ := view_msgE e4 (fun n hn => hr n (DataW.weights_mem_each (j := 4) rfl rfl n hn))
  obtain ⟨s5, k5, _, w5⟩ := DataW.trod_int Try.underlying22 e5
  have b3 := bounds_u64 w3
  have b5 := bounds_u64 w5
  obtain ⟨src, rfl⟩ := Int.eq_ofNat_of_zero_le b3.1
  obtain ⟨now, rfl⟩ := Int.eq_ofNat_of_zero_le b5.1
  have hmid : ∀ j, j < 49 → L[7 + j]? = ((L.drop 7).take 49)[j]? := fun j hj => by
    rw [List.getElem?_take, if_pos hj, List.getElem?_drop]
  refine ⟨kd, (L.drop 7).take 49, kind, num, node, susp, src, now, ⟨hl, ?_, at_take k0 (j := 0) (by decide), at_take k3 (j := 0) (by decide), hmid, at_take k5 (j := 0) (by decide), hm, by omega, by omega⟩⟩
  have q0 := peel L 0 1 k0
  have q1 := peel L 1 3 k1
  have q2 := peel L 4 2 k2
  have q3 := peel L 6 1 k3
  have q4 := peel L 7 49 (rfl : (L.drop 7).take 49 = _)
  have q5 := peel L 56 1 k5
  have q6 : L.drop 57 = [] := List.drop_eq_nil_of_le (by omega)
  intro v hv
  have hv' : v ∈ L.drop 0 := hv
  rw [q0, q1, q2, q3, q4, q5, q6] at hv'
  simp only [List.mem_append, List.mem_cons, List.not_mem_nil, or_false] at hv'
  rcases hv' with rfl | hv'
  · rfl
  rcases hv' with hv' | hv'
  · have : v ∈ [Value.int .u64 (r.cl : Nat), .int .u64 (r.sq : Nat), .slice r.co r.cn r.cc] := hv'
    simp only [List.mem_cons, List.not_mem_nil, or_false] at this
    rcases this with rfl | rfl | rfl <;> rfl
  rcases hv' with hv' | hv'
  · rcases hv' with rfl | rfl <;> rfl
  rcases hv' with rfl | hv'
  · rfl
  rcases hv' with hv' | rfl
  · exact hone v hv'
  · rfl
/-- A script that came in. -/
theorem view_ops {H : Type} {enc : TypeId × Value → H} {W : World} {ao : Option Addr} {len cap : Nat} {d : DataW H} {p : List MemPlace}
    (h : DataW.Trod enc Try.prog W 0 (fun _ => true) true 52 (.slice ao len cap) d p) (hr : ∀ n ∈ d.weights Try.prog 52, n ≤ reachBytes) :
    ∃ (b off : Nat), OpsL W ao len b off := by
  obtain ⟨fuel, hf⟩ := h
  have hlt := DataW.trod_lt fuel _ _ _ hf
  rcases open_slice Try.underlying52 hf with ⟨hc, _⟩ | ⟨a, l, c, m, n, D, Pl, hc, _, hl, hm, hmm, hx, hall⟩
  · simp [Value.cells] at hc
    obtain ⟨rfl, rfl, rfl⟩ := hc
    exact ⟨0, 0, ⟨fun h => by omega, fun h => by omega, by omega, fun i hi => by omega⟩⟩
  · simp [Value.cells] at hc
    obtain ⟨rfl, rfl, rfl⟩ := hc
    simp only [if_true] at hmm
    subst hmm
    simp only [Prod.mk.injEq, cellsOp] at hx
    obtain ⟨hd, hp⟩ := hx
    subst hd
    subst hp
    simp only [cellsOp] at hall
    simp only [DataW.weights, Try.underlying52, List.length_map, List.length_range] at hr
    have hcap := hr _ (List.mem_cons_self ..)
    simp only [reachBytes] at hcap
    have hF : ∀ i, i < len → ∃ oc kd cs kind num node susp src now, OpK oc kd cs kind num node susp src now ∧ ∀ j v, oc[j]? = some v → W.cell? (a.add (i * 57 + j)) = some v := fun i hi => by
      obtain ⟨cs, h1, h2⟩ := hall i (by omega)
      obtain ⟨kd, ms, kind, num, node, susp, src, now, hok⟩ := view_op h2 (fun n hn => hr n (List.mem_cons_of_mem _ (List.mem_append_left _ (weights_all hn (List.mem_map.2 ⟨i, List.mem_range.2 hi, rfl⟩)))))
      refine ⟨_, kd, ms, kind, num, node, susp, src, now, hok, fun j v hj => ?_⟩
      have hj57 : j < 57 := by
        rw [← hok.len]
        exact (List.getElem?_eq_some_iff.1 hj).1
      have h3 := (World.cells?_some h1).2.2 j hj57
      rw [add_add] at h3
      rw [h3]
      simpa using hj
    by_cases hp : 0 < len
    · obtain ⟨b, off, spot⟩ := a
      obtain ⟨oc, kd, cs, kind, num, node, susp, src, now, hok, hce⟩ := hF 0 hp
      have h00 := hce 0 _ hok.c0
      have hspot : spot = none := by simpa [Addr.add] using World.cell?_spot h00
      subst hspot
      have hbW : b < W.heap.size := hlt (.cell b off) (List.mem_append_left _ (MemPlace.mem_row.2 ⟨0, by omega, by simp⟩))
      refine ⟨b, off, ⟨fun _ => rfl, fun _ => hbW, ?_, fun i hi => ?_⟩⟩
      · rw [bytesOp] at hcap
        omega
      · obtain ⟨oc, kd, cs, kind, num, node, susp, src, now, hok, hce⟩ := hF i hi
        refine ⟨oc, kd, cs, kind, num, node, susp, src, now, fun j v hj => ?_, hok⟩
        have := hce j v hj
        rw [add_plain] at this
        rw [Nat.add_assoc]
        exact this
    · exact ⟨0, 0, ⟨fun h => by omega, fun h => by omega, by omega, fun i hi => by omega⟩⟩
end Go.Proofs.Ytkdciomijemmiaa
namespace Go.Proofs.Ytkdciomijemmiaa
open Go.ChangeShapes Go.WideShapes Go.ChangeAt Go.RowKit Go.Deep

set_option maxRecDepth 100000 in
/-- The row of ElectionTurns, around a walk. -/
theorem electionTurns_lifted (walk : ∀ (i0 : Int) (u1 : Nat) (u2 : Nat) (sb3 off3 : Nat) (ao3 : Option Addr) (len3 cap3 : Nat) (r4 : Rq) (w : World), -9223372036854775808 ≤ i0 → i0 < 9223372036854775808 → u1 < 18446744073709551616 → u2 < 18446744073709551616 → OpsL w ao3 len3 sb3 off3 → r4.Ok w.heap.size w → Calls Try.prog 5 #[.int .i64 i0, .int .u64 (u1 : Nat), .int .u64 (u2 : Nat), .slice ao3 len3 cap3, .agg r4.cells] w fun e w' => e = .returned (.bool true) ∧ Below w.heap.size w w')
    (os : Os) (started : os.Started) (H : Type) (enc : TypeId × Value → H) :
    ReturnsInHanded {} Try.checked os 5 .any (Rows.electionTurnsSpec.pre6 enc Try.prog Try.f5 Rows.electionTurnsRow.domain false) (Rows.electionTurnsSpec.post enc Try.prog Try.f5 false true false false) := by
  refine returnsInHanded_of_change_sized (C := Try.checked) own started (by kernel_rfl) Try.func5
    (ChangeSpec.witness6 (enc := enc) (C := Try.checked) false ⟨#[], #[.int .i64 0, .int .u64 0, .int .u64 0, .slice none 0 0, .agg #[.int .u64 0, .int .u64 0, .slice none 0 0]], []⟩ 8 (by kernel_rfl) (by kernel_rfl) (by kernel_rfl) (by kernel_rfl)) ?_
  intro W base args ds gs before hval0 hW hcnd hsz0 _
  have hval : ∀ (j : Nat) t v, Try.f5.params[j]? = some t → args[j]? = some v → Value.okWide Try.prog W .any base t v := hval0
  have hW' := hW
  obtain ⟨p, q, hA0, hV, rfl, hfz, hnd⟩ := hW
  have hA : DataW.TrodAll enc Try.prog W 0 (fun _ => true) true Try.f5.params.toList args.toList ds p := hA0
  rw [Try.params5] at hA hval hsz0
  obtain ⟨v0, vs0, d0, ds0, p0, q0, hargs, rfl, rfl, h0, r0⟩ := trodAll_cons hA
  obtain ⟨v1, vs1, d1, ds1, p1, q1, rfl, rfl, rfl, h1, r1⟩ := trodAll_cons r0
  obtain ⟨v2, vs2, d2, ds2, p2, q2, rfl, rfl, rfl, h2, r2⟩ := trodAll_cons r1
  obtain ⟨v3, vs3, d3, ds3, p3, q3, rfl, rfl, rfl, h3, r3⟩ := trodAll_cons r2
  obtain ⟨v4, vs4, d4, ds4, p4, q4, rfl, rfl, rfl, h4, r4⟩ := trodAll_cons r3
  obtain ⟨rfl, rfl, rfl⟩ := trodAll_nil r4
  obtain rfl : args = #[v0, v1, v2, v3, v4] := by cases args; simp_all
  obtain ⟨rfl, rfl⟩ := trodVars_none hV
  obtain ⟨a0, rfl, rfl, rfl, w0⟩ := open_int Try.underlying3 (hval 0 3 v0 rfl rfl) h0
  have b0 := bounds_i64 w0
  obtain ⟨a1, rfl, rfl, rfl, w1⟩ := open_int Try.underlying22 (hval 1 22 v1 rfl rfl) h1
  have b1 := bounds_u64 w1
  obtain ⟨u1, rfl⟩ := Int.eq_ofNat_of_zero_le b1.1
  obtain ⟨a2, rfl, rfl, rfl, w2⟩ := open_int Try.underlying22 (hval 2 22 v2 rfl rfl) h2
  have b2 := bounds_u64 w2
  obtain ⟨u2, rfl⟩ := Int.eq_ofNat_of_zero_le b2.1
  obtain ⟨ao3, len3, cap3, rfl⟩ := okWide_slice Try.underlying52 (hval 3 52 v3 rfl rfl)
  have k3 := h3
  have lt3 : ∀ x ∈ p3, x.block < W.heap.size := by obtain ⟨m, hm⟩ := k3; exact DataW.trod_lt m _ _ _ hm
  obtain ⟨sb3, off3, hF3⟩ := view_ops h3 (fun n hn => by
    have := List.all_eq_true.1 hsz0 n (DataW.weights_mem_each (j := 3) (t := 52) (d := d3) rfl rfl n hn)
    simpa using this)
  obtain ⟨cs4, rfl, _⟩ := okWide_struct Try.underlying36 (hval 4 36 v4 rfl rfl)
  have k4 := h4
  have lt4 : ∀ x ∈ p4, x.block < W.heap.size := by obtain ⟨m, hm⟩ := k4; exact DataW.trod_lt m _ _ _ hm
  obtain ⟨fu4, hfu4⟩ := h4
  obtain ⟨r4, er4, hF4⟩ := view_request hfu4 (fun n hn => by
    have := List.all_eq_true.1 hsz0 n (DataW.weights_mem_each (j := 4) (t := 36) (d := d4) rfl rfl n hn)
    simpa using this)
  obtain rfl : cs4 = r4.cells := by simpa [Value.cells] using er4
  clear hA0 hval0
  refine (walk a0 u1 u2 sb3 off3 ao3 len3 cap3 r4 W (by omega) (by omega) (by omega) (by omega) hF3 hF4).mono fun e W' ⟨he, bel⟩ => ?_
  subst he
  exact ⟨_, rfl, _, _, _, [], _, [], hW', trodAll_mk1 (shut_bool Try.underlying4 _), (trodAll_cons_mk (shut_int Try.underlying3 w0) (trodAll_cons_mk (shut_int Try.underlying22 w1) (trodAll_cons_mk (shut_int Try.underlying22 w2) (trodAll_cons_mk (Below.trod laidOut (by kernel_rfl) (of_decide_eq_true (by kernel_rfl)) k3 bel lt3) (trodAll_cons_mk (Below.trod laidOut (by kernel_rfl) (of_decide_eq_true (by kernel_rfl)) k4 bel lt4) trodAll_mk0))))), rfl, bel.frame _, fun h => by cases h⟩

set_option maxRecDepth 100000 in
theorem electionTurns_of (walk : ∀ (i0 : Int) (u1 : Nat) (u2 : Nat) (sb3 off3 : Nat) (ao3 : Option Addr) (len3 cap3 : Nat) (r4 : Rq) (w : World), -9223372036854775808 ≤ i0 → i0 < 9223372036854775808 → u1 < 18446744073709551616 → u2 < 18446744073709551616 → OpsL w ao3 len3 sb3 off3 → r4.Ok w.heap.size w → Calls Try.prog 5 #[.int .i64 i0, .int .u64 (u1 : Nat), .int .u64 (u2 : Nat), .slice ao3 len3 cap3, .agg r4.cells] w fun e w' => e = .returned (.bool true) ∧ Below w.heap.size w w') :
    Rows.electionTurnsRow.holds Try.pinned (OpenSpec.ofChange Rows.electionTurnsSpec) :=
  OpenClaim.holds_of_wide 5 Try.f5 rfl rfl rfl rfl rfl rfl rfl ⟨rfl, rfl, rfl, rfl, rfl⟩ rfl rfl rfl rfl rfl (by kernel_rfl) Try.func5 (by kernel_rfl)
    (of_decide_eq_true (by kernel_rfl)) (by unfold Func.isWrapper; first | (rw [if_pos (by decide +kernel)]; kernel_rfl) | (rw [if_neg (by decide +kernel)]; exact ⟨rfl, rfl⟩))
    (fun os started H enc _ => electionTurns_lifted walk os started H enc)
end Go.Proofs.Ytkdciomijemmiaa
namespace Go.Proofs.Ytkdciomijemmiaa

theorem electionTurns_holds : Rows.ElectionTurnsSaid :=
  electionTurns_of (fun i0 u1 u2 sb off _ len cap r _ _ _ h1 h2 hO hr =>
    turns_walk i0 u1 u2 h1 h2 len cap sb off hO r.cl r.sq r.co r.cn r.cc r.C hr)
end Go.Proofs.Ytkdciomijemmiaa
