import Derived.Test.YtkdciomijemmiaaBVw
import Derived.Test.YtkdciomijemmiaaQDef
import Derived.RangeFuncFrom
import Derived.RangeFuncBox
import Derived.Test.YtkdciomijemmiaaBSb
import Derived.Test.YtkdciomijemmiaaBKb
import Derived.Deep.Slices
namespace Go.Proofs.Ytkdciomijemmiaa
open Go.ChangeShapes Go.WideShapes Go.ChangeAt Go.RowKit Go.Deep Crc

theorem bytesU8 : Try.prog.bytesOf 5 = 1 := by kernel_rfl
theorem cellsU8 : Try.prog.cellsOf 5 = 1 := by kernel_rfl
theorem cellsBs : Try.prog.cellsOf 34 = 1 := by kernel_rfl
theorem weights_all {H : Type} {P : Program} {e : TypeId} {d : DataW H} {n : Nat} (hn : n ∈ d.weights P e) : ∀ {ds : List (DataW H)}, d ∈ ds → n ∈ DataW.weightsAll P e ds
  | [], h => by cases h
  | x :: r, h => by
    simp only [DataW.weightsAll, List.mem_append]
    rcases List.mem_cons.1 h with rfl | h
    · exact .inl hn
    · exact .inr (weights_all hn h)

/-- The bytes as numbers. -/
theorem bytes_of (zs : List Int) (hwz : ∀ n ∈ zs, (Lit.int .u8 n).wf = true) : ∃ B : List Nat, zs = B.map (fun (x : Nat) => (x : Int)) ∧ ∀ x ∈ B, x < 256 := by
  induction zs with
  | nil => exact ⟨[], rfl, by simp⟩
  | cons z r ih =>
    obtain ⟨B, hB, hl⟩ := ih (fun n hn => hwz n (by simp [hn]))
    have hz := bounds_u8 (hwz z (by simp))
    refine ⟨z.toNat :: B, ?_, ?_⟩
    · simp [hB]; omega
    · intro x hx
      rcases List.mem_cons.1 hx with rfl | hx
      · omega
      · exact hl x hx

/-- Bytes that came in. -/
theorem view_bytes {H : Type} {enc : TypeId × Value → H} {W : World} {fuel : Nat} {cs : List Value} {x : DataW H × List MemPlace}
    (hf : DataW.trod enc Try.prog W 0 (fun _ => true) true fuel 34 cs = some x) (hr : ∀ n ∈ x.1.weights Try.prog 34, n ≤ reachBytes) :
    ∃ (ao : Option Addr) (len cap : Nat) (B : List Nat), cs = [.slice ao len cap] ∧ Shows W.heap.size W ao len cap B := by
  have hlt := DataW.trod_lt fuel _ _ _ hf
  rcases open_ints Try.underlying34 Try.underlying5 cellsU8 hf with ⟨rfl, _⟩ | ⟨x, len, cap, zs, rfl, _, hl, hm, hz, rfl, hcell, hwz⟩
  · exact ⟨none, 0, 0, [], rfl, rfl, by omega, by omega, by simp, 0, 0, fun h => by omega, fun h => by omega, fun i hi => by omega⟩
  · obtain ⟨B, rfl, hB⟩ := bytes_of zs hwz
    have hr := hr ((lits .u8 ((B.map (fun (x : Nat) => (x : Int))).take len)).length + (lits (H := H) .u8 ((B.map (fun (x : Nat) => (x : Int))).drop len)).length) (by
      simp only [DataW.weights, Try.underlying34, bytesU8, Nat.mul_one]
      exact List.mem_cons_self ..)
    simp only [lits, List.length_map, List.length_take, List.length_drop, reachBytes] at hr
    have hzl : B.length = cap := by simpa using hz
    by_cases hp : 0 < len
    · obtain ⟨b, off, spot⟩ := x
      have hspot : spot = none := by simpa [Addr.add] using World.cell?_spot (hcell 0 (by simp; omega))
      subst hspot
      have hbW : b < W.heap.size := hlt (.cell b off) (MemPlace.mem_row.2 ⟨0, by simp; omega, by simp⟩)
      refine ⟨_, len, cap, B.take len, rfl, by simp; omega, hl, by omega, fun x hx => hB x (List.mem_of_mem_take hx), b, off, fun _ => rfl, fun _ => hbW, fun i hi => ?_⟩
      have hci := hcell i (by simp; omega)
      rw [add_plain] at hci
      rw [hci, List.getD_eq_getElem?_getD, List.getD_eq_getElem?_getD, List.getElem?_map, List.getElem?_take, if_pos hi, List.getElem?_eq_getElem (by omega)]
      rfl
    · obtain rfl : len = 0 := by omega
      exact ⟨_, 0, cap, [], rfl, rfl, by omega, by omega, by simp, 0, 0, fun h => by omega, fun h => by omega, fun i hi => by omega⟩

theorem cellsRq : Try.prog.cellsOf 36 = 3 := by kernel_rfl
theorem bytesRq : Try.prog.bytesOf 36 = 40 := by kernel_rfl
theorem cellsRqs : Try.prog.cellsOf 23 = 1 := by kernel_rfl
theorem cellsBt : Try.prog.cellsOf 40 = 2 := by kernel_rfl
instance : Inhabited Rq := ⟨⟨0, 0, none, 0, 0, []⟩⟩
theorem pair2 {α : Type} {l : List α} (h : l.length = 2) : ∃ a b, l = [a, b] := by
  match l, h with
  | [a, b], _ => exact ⟨a, b, rfl⟩
theorem list3 {α : Type} {l : List α} (h : l.length = 3) : ∃ a b c, l = [a, b, c] := by
  match l, h with
  | [a, b, c], _ => exact ⟨a, b, c, rfl⟩

/-- Bytes that came in, with the reach's own bound. -/
theorem view_bytesB {H : Type} {enc : TypeId × Value → H} {W : World} {fuel : Nat} {cs : List Value} {x : DataW H × List MemPlace}
    (hf : DataW.trod enc Try.prog W 0 (fun _ => true) true fuel 34 cs = some x) (hr : ∀ n ∈ x.1.weights Try.prog 34, n ≤ reachBytes) :
    ∃ (ao : Option Addr) (len cap : Nat) (B : List Nat), cs = [.slice ao len cap] ∧ Shows W.heap.size W ao len cap B ∧ len ≤ 140737488351232 := by
  obtain ⟨ao, len, cap, B, rfl, hS⟩ := view_bytes hf hr
  refine ⟨ao, len, cap, B, rfl, hS, ?_⟩
  rcases open_ints Try.underlying34 Try.underlying5 cellsU8 hf with ⟨hcs, _⟩ | ⟨x, l, c, zs, hcs, _, hl, hm, hz, hx, hcell, hwz⟩
  · simp at hcs
    omega
  · simp at hcs
    obtain ⟨rfl, rfl, rfl⟩ := hcs
    subst hx
    have hr := hr ((lits .u8 (zs.take len)).length + (lits (H := H) .u8 (zs.drop len)).length) (by
      simp only [DataW.weights, Try.underlying34, bytesU8, Nat.mul_one]
      exact List.mem_cons_self ..)
    simp only [lits, List.length_map, List.length_take, List.length_drop, reachBytes] at hr
    simp only [if_true] at hz
    omega

/-- A request that came in. -/
theorem view_request {H : Type} {enc : TypeId × Value → H} {W : World} {fuel : Nat} {cs : List Value} {x : DataW H × List MemPlace}
    (h : DataW.trod enc Try.prog W 0 (fun _ => true) true fuel 36 cs = some x) (hr : ∀ n ∈ x.1.weights Try.prog 36, n ≤ reachBytes) :
    ∃ r : Rq, cs = r.cells.toList ∧ r.Ok W.heap.size W := by
  obtain ⟨xs, n, _, rfl, hl, hlen, hf⟩ := DataW.trod_struct Try.underlying36 h
  rw [cellsRq] at hl
  have hlen : xs.length = 3 := hlen
  obtain ⟨c0, c1, c2, rfl⟩ := list3 hl
  obtain ⟨y0, y1, y2, rfl⟩ := list3 hlen
  have e0 : DataW.trod enc Try.prog W 0 (fun _ => true) true n 22 (List.take (Try.prog.cellsOf 22) [c0, c1, c2]) = some y0 := hf 0 _ rfl
  rw [cellsU64] at e0
  have e1 : DataW.trod enc Try.prog W 0 (fun _ => true) true n 22 (List.take (Try.prog.cellsOf 22) [c1, c2]) = some y1 := hf 1 _ rfl
  rw [cellsU64] at e1
  have e2 : DataW.trod enc Try.prog W 0 (fun _ => true) true n 34 (List.take (Try.prog.cellsOf 34) [c2]) = some y2 := hf 2 _ rfl
  rw [cellsBs] at e2
  have hr : ∀ n ∈ DataW.weightsEach Try.prog [22, 22, 34] [y0.1, y1.1, y2.1], n ≤ reachBytes := by
    intro n hn
    refine hr n ?_
    simp only [DataW.weights, Try.underlying36]
    exact hn
  obtain ⟨K, k0, _, wK⟩ := DataW.trod_int Try.underlying22 e0
  obtain ⟨N, k1, _, wN⟩ := DataW.trod_int Try.underlying22 e1
  obtain ⟨ao, len, cap, B, k2, hB, hBn⟩ := view_bytesB e2 (fun n hn => hr n (DataW.weights_mem_each (j := 2) rfl rfl n hn))
  have bK := bounds_u64 wK
  have bN := bounds_u64 wN
  simp only [List.take, List.cons.injEq, and_true] at k0 k1 k2
  subst k0 k1 k2
  have hKK : ((K.toNat : Nat) : Int) = K := by omega
  have hNN : ((N.toNat : Nat) : Int) = N := by omega
  exact ⟨⟨K.toNat, N.toNat, ao, len, cap, B⟩, by simp [Rq.cells, hNN, hKK], by simp only; omega, by simp only; omega, hB⟩

/-- The requests that came in. -/
theorem view_requests {H : Type} {enc : TypeId × Value → H} {W : World} {fuel : Nat} {cs : List Value} {x : DataW H × List MemPlace}
    (hf : DataW.trod enc Try.prog W 0 (fun _ => true) true fuel 23 cs = some x) (hr : ∀ n ∈ x.1.weights Try.prog 23, n ≤ reachBytes) :
    ∃ (ao : Option Addr) (len cap : Nat) (rs : List Rq) (b off : Nat), cs = [.slice ao len cap] ∧ len = rs.length ∧ Rqs W.heap.size W ao rs b off := by
  have hlt := DataW.trod_lt fuel _ _ _ hf
  rcases open_slice Try.underlying23 hf with ⟨rfl, _⟩ | ⟨a, len, cap, m, n, D, Pl, rfl, _, hl, hm, hmm, hx, hall⟩
  · exact ⟨none, 0, 0, [], 0, 0, rfl, rfl, fun h => by simp at h, fun h => by simp at h, by simp, by simp, by simp⟩
  · simp only [if_true] at hmm
    subst hmm
    simp only [cellsRq] at hx
    subst hx
    simp only [cellsRq] at hall
    simp only [DataW.weights, Try.underlying23, bytesRq, List.length_map, List.length_range] at hr
    have hcap := hr _ (List.mem_cons_self ..)
    simp only [reachBytes] at hcap
    obtain ⟨F, hF⟩ := choose_lt (α := Rq) (n := len) (p := fun i f => f.Ok W.heap.size W ∧ ∀ j v, f.cells[j]? = some v → W.cell? (a.add (i * 3 + j)) = some v) (fun i hi => by
      obtain ⟨cs, h1, h2⟩ := hall i (by omega)
      obtain ⟨f, rfl, hok⟩ := view_request h2 (fun n hn => hr n (List.mem_cons_of_mem _ (List.mem_append_left _ (weights_all hn (List.mem_map.2 ⟨i, List.mem_range.2 hi, rfl⟩)))))
      refine ⟨f, hok, fun j v hj => ?_⟩
      have hj3 : j < 3 := by
        have := (Array.getElem?_eq_some_iff.1 hj).1
        simpa [Rq.cells] using this
      have h3 := (World.cells?_some h1).2.2 j hj3
      rw [add_add] at h3
      rw [h3]
      simpa using hj)
    by_cases hp : 0 < len
    · obtain ⟨b, off, spot⟩ := a
      have h00 := (hF 0 hp).2 0 _ rfl
      have hspot : spot = none := by simpa [Addr.add] using World.cell?_spot h00
      subst hspot
      have hbW : b < W.heap.size := hlt (.cell b off) (List.mem_append_left _ (MemPlace.mem_row.2 ⟨0, by omega, by simp⟩))
      refine ⟨_, len, _, (List.range len).map F, b, off, rfl, by simp, fun _ => rfl, fun _ => hbW, by simp; omega, ?_, ?_⟩
      · intro i f hi j v hj
        have hil : i < len := by
          have := (List.getElem?_eq_some_iff.1 hi).1
          simpa using this
        rw [List.getElem?_map, List.getElem?_range hil] at hi
        cases hi
        have := (hF i hil).2 j v hj
        rw [add_plain] at this
        rw [Nat.add_assoc]
        exact this
      · intro f hf
        obtain ⟨i, hi, rfl⟩ := List.mem_map.1 hf
        exact (hF i (List.mem_range.1 hi)).1
    · obtain rfl : len = 0 := by omega
      exact ⟨_, 0, _, [], 0, 0, rfl, rfl, fun h => by simp at h, fun h => by simp at h, by simp, by simp, by simp⟩

theorem cellsBl : Try.prog.cellsOf 45 = 2 := by kernel_rfl
theorem cellsIn : Try.prog.cellsOf 3 = 1 := by kernel_rfl
theorem list5 {α : Type} {l : List α} (h : l.length = 5) : ∃ a b c d e, l = [a, b, c, d, e] := by
  match l, h with
  | [a, b, c, d, e], _ => exact ⟨a, b, c, d, e, rfl⟩
theorem list7 {α : Type} {l : List α} (h : l.length = 7) : ∃ a b c d e f g, l = [a, b, c, d, e, f, g] := by
  match l, h with
  | [a, b, c, d, e, f, g], _ => exact ⟨a, b, c, d, e, f, g, rfl⟩
/-- A batch that came in. -/
theorem view_batchL {H : Type} {enc : TypeId × Value → H} {W : World} {fuel : Nat} {cs : List Value} {x : DataW H × List MemPlace}
    (h : DataW.trod enc Try.prog W 0 (fun _ => true) true fuel 40 cs = some x) (hr : ∀ n ∈ x.1.weights Try.prog 40, n ≤ reachBytes) :
    ∃ (st : Nat) (ao : Option Addr) (cap : Nat) (rs : List Rq) (b off : Nat), cs = [.int .u64 (st : Int), .slice ao rs.length cap] ∧ st < 18446744073709551616 ∧ Rqs W.heap.size W ao rs b off := by
  obtain ⟨xs, n, _, rfl, hl, hlen, hf⟩ := DataW.trod_struct Try.underlying40 h
  rw [cellsBt] at hl
  have hlen : xs.length = 2 := hlen
  obtain ⟨c0, c1, rfl⟩ := pair2 hl
  obtain ⟨y0, y1, rfl⟩ := pair2 hlen
  have e0 : DataW.trod enc Try.prog W 0 (fun _ => true) true n 22 (List.take (Try.prog.cellsOf 22) [c0, c1]) = some y0 := hf 0 _ rfl
  rw [cellsU64] at e0
  have e1 : DataW.trod enc Try.prog W 0 (fun _ => true) true n 23 (List.take (Try.prog.cellsOf 23) [c1]) = some y1 := hf 1 _ rfl
  rw [cellsRqs] at e1
  have hr : ∀ n ∈ DataW.weightsEach Try.prog [22, 23] [y0.1, y1.1], n ≤ reachBytes := by
    intro n hn
    refine hr n ?_
    simp only [DataW.weights, Try.underlying40]
    exact hn
  obtain ⟨K, k0, _, wK⟩ := DataW.trod_int Try.underlying22 e0
  obtain ⟨ao, len, cap, rs, b, off, k1, rfl, hR⟩ := view_requests e1 (fun n hn => hr n (DataW.weights_mem_each (j := 1) rfl rfl n hn))
  have bK := bounds_u64 wK
  simp only [List.take, List.cons.injEq, and_true] at k0 k1
  subst k0 k1
  have hKK : ((K.toNat : Nat) : Int) = K := by omega
  exact ⟨K.toNat, ao, cap, rs, b, off, by rw [hKK], by omega, hR⟩
/-- A ballot that came in. -/
theorem view_ballotL {H : Type} {enc : TypeId × Value → H} {W : World} {fuel : Nat} {cs : List Value} {x : DataW H × List MemPlace}
    (h : DataW.trod enc Try.prog W 0 (fun _ => true) true fuel 45 cs = some x) :
    ∃ (num : Nat) (node : Int), cs = [.int .u64 (num : Int), .int .i64 node] ∧ num < 18446744073709551616 := by
  obtain ⟨xs, n, _, rfl, hl, hlen, hf⟩ := DataW.trod_struct Try.underlying45 h
  rw [cellsBl] at hl
  have hlen : xs.length = 2 := hlen
  obtain ⟨c0, c1, rfl⟩ := pair2 hl
  obtain ⟨y0, y1, rfl⟩ := pair2 hlen
  have e0 : DataW.trod enc Try.prog W 0 (fun _ => true) true n 22 (List.take (Try.prog.cellsOf 22) [c0, c1]) = some y0 := hf 0 _ rfl
  rw [cellsU64] at e0
  have e1 : DataW.trod enc Try.prog W 0 (fun _ => true) true n 3 (List.take (Try.prog.cellsOf 3) [c1]) = some y1 := hf 1 _ rfl
  rw [cellsIn] at e1
  obtain ⟨K, k0, _, wK⟩ := DataW.trod_int Try.underlying22 e0
  obtain ⟨N, k1, _, _⟩ := DataW.trod_int Try.underlying3 e1
  have bK := bounds_u64 wK
  simp only [List.take, List.cons.injEq, and_true] at k0 k1
  subst k0 k1
  have hKK : ((K.toNat : Nat) : Int) = K := by omega
  exact ⟨K.toNat, N, by rw [hKK], by omega⟩
theorem cellsHs : Try.prog.cellsOf 59 = 32 := by kernel_rfl
theorem bytesHs : Try.prog.bytesOf 59 = 32 := by kernel_rfl
/-- A hash that came in. -/
theorem view_hash {H : Type} {enc : TypeId × Value → H} {W : World} {fuel : Nat} {cs : List Value} {x : DataW H × List MemPlace}
    (h : DataW.trod enc Try.prog W 0 (fun _ => true) true fuel 59 cs = some x) :
    ∃ t : List Nat, cs = vals t ∧ t.length = 32 ∧ ∀ y ∈ t, y < 256 := by
  have hu : Try.prog.underlying 59 = some (.array 32 5) := by kernel_rfl
  have hu8 : Try.prog.underlying 5 = some (.int .u8) := by kernel_rfl
  have hc8 : Try.prog.cellsOf 5 = 1 := by kernel_rfl
  obtain ⟨xs, n, _, _, hl, hlen, hf⟩ := DataW.trod_array hu h
  rw [cellsHs] at hl
  obtain ⟨F, hF⟩ := choose_lt (α := Nat) (n := 32) (p := fun i y => cs[i]? = some (.int .u8 (y : Int)) ∧ y < 256) (fun i hi => by
    have e := hf i hi
    rw [hc8, Nat.mul_one, List.getElem?_eq_getElem (by omega)] at e
    obtain ⟨K, k0, _, wK⟩ := DataW.trod_int hu8 e
    have bK := bounds_u8 wK
    refine ⟨K.toNat, ?_, by omega⟩
    have e2 : (cs.drop i).take 1 = [cs[i]'(by omega)] := by
      rw [List.drop_eq_getElem_cons (by omega)]
      rfl
    rw [e2] at k0
    rw [List.getElem?_eq_getElem (by omega)]
    simp only [List.cons.injEq, and_true] at k0
    rw [k0, Int.toNat_of_nonneg (by omega)])
  refine ⟨(List.range 32).map F, ?_, by simp, fun y hy => ?_⟩
  · refine List.ext_getElem? (fun i => ?_)
    by_cases hi : i < 32
    · rw [(hF i hi).1]
      simp [vals, List.getElem?_map, List.getElem?_range hi]
    · rw [List.getElem?_eq_none (by omega), List.getElem?_eq_none (by simp [vals]; omega)]
  · obtain ⟨i, hi, rfl⟩ := List.mem_map.1 hy
    exact (hF i (List.mem_range.1 hi)).2
/-- A list that came in, whatever is in it. -/
theorem view_any {H : Type} {enc : TypeId × Value → H} {W : World} {fuel : Nat} {t e : TypeId} {cs : List Value} {x : DataW H × List MemPlace} (hu : Try.prog.underlying t = some (.slice e))
    (hf : DataW.trod enc Try.prog W 0 (fun _ => true) true fuel t cs = some x) : ∃ ao l c, cs = [.slice ao l c] := by
  rcases open_slice hu hf with ⟨rfl, _⟩ | ⟨a, len, cap, m, n, D, Pl, rfl, _⟩
  · exact ⟨_, _, _, rfl⟩
  · exact ⟨_, _, _, rfl⟩
end Go.Proofs.Ytkdciomijemmiaa
namespace Go.Proofs.Ytkdciomijemmiaa
open Go.RowKit Go.Shelf
attribute [local go_sem] Oper.semAt_some

def encU (x : Nat) : Value := .int .u64 (x : Int)
/-- Numbers as they lie. -/
def Us (W : World) (b off : Nat) (xs : List Nat) : Prop := ∀ (i x : Nat), xs[i]? = some x → W.cell? ⟨b, off + i, none⟩ = some (.int .u64 (x : Int))
/-- What a round keeps: all that lies below B. -/
def KpU (B : Nat) (W W' : World) : Prop := ∀ (b o : Nat) (v : Value), b < B → W.cell? ⟨b, o, none⟩ = some v → W'.cell? ⟨b, o, none⟩ = some v
theorem kpU_t {B : Nat} {A C D : World} (h : KpU B A C) (k : KpU B C D) : KpU B A D := fun b o v hb hv => k b o v hb (h b o v hb hv)
theorem kpU_b {B : Nat} {w : World} (W : World) (l : Nat) (o o' : Obj) (_ : w.heap.size ≤ l) (h : W.heap[l]? = some o) (hc : o.isCells = false) (_ : o.isWalk = false) : KpU B W (W.putObj l o') := fun _ _ _ _ hv =>
  cell_kept hv (grownBy_putObj' W l o') (fun r e => by cases e; exact ⟨o, h, hc⟩)
theorem Us.kept {B : Nat} {W W' : World} {b off : Nat} {xs : List Nat} (h : Us W b off xs) (k : KpU B W W') (hb : 0 < xs.length → b < B) : Us W' b off xs := fun i x hi =>
  k b _ _ (hb (by have := (List.getElem?_eq_some_iff.1 hi).1; omega)) (h i x hi)
theorem take_snoc {α : Type} {xs : List α} {k : Nat} {x : α} (h : xs[k]? = some x) : xs.take k ++ [x] = xs.take (k + 1) := by
  rw [List.take_add_one, h]; rfl
end Go.Proofs.Ytkdciomijemmiaa
namespace Go.Proofs.Ytkdciomijemmiaa
open Go.ChangeShapes Go.WideShapes Go.ChangeAt Go.RowKit Go.Deep

/-- The numbers that came in. -/
theorem view_nums {H : Type} {enc : TypeId × Value → H} {W : World} {ao : Option Addr} {len cap : Nat} {d : DataW H} {p : List MemPlace}
    (h : DataW.Trod enc Try.prog W 0 (fun _ => true) true 24 (.slice ao len cap) d p) :
    ∃ (b off : Nat) (xs : List Nat), xs.length = len ∧ Us W b off xs ∧ (0 < xs.length → ao = some ⟨b, off, none⟩) ∧ (0 < xs.length → b < W.heap.size) := by
  obtain ⟨fuel, hf⟩ := h
  have hlt := DataW.trod_lt fuel _ _ _ hf
  rcases open_slice Try.underlying24 hf with ⟨hc, _⟩ | ⟨a, l, c, m, n, D, Pl, hc, _, hl, hm, hmm, hx, hall⟩
  · simp [Value.cells] at hc
    obtain ⟨rfl, rfl, rfl⟩ := hc
    exact ⟨0, 0, [], rfl, fun i x hi => by simp at hi, fun h => by simp at h, fun h => by simp at h⟩
  · simp [Value.cells] at hc
    obtain ⟨rfl, rfl, rfl⟩ := hc
    simp only [if_true] at hmm
    subst hmm
    simp only [Prod.mk.injEq, cellsU64] at hx
    obtain ⟨hd, hp⟩ := hx
    subst hd
    subst hp
    simp only [cellsU64] at hall
    obtain ⟨F, hF⟩ := choose_lt (α := Nat) (n := len) (p := fun i x => W.cell? (a.add i) = some (.int .u64 (x : Int))) (fun i hi => by
      obtain ⟨cs, h1, h2⟩ := hall i (by omega)
      obtain ⟨B, k1, _, wB⟩ := DataW.trod_int Try.underlying22 h2
      have bB := bounds_u64 wB
      obtain ⟨nb, rfl⟩ := Int.eq_ofNat_of_zero_le bB.1
      have h3 := (World.cells?_some h1).2.2 0 (by omega)
      rw [add_add] at h3
      refine ⟨nb, ?_⟩
      rw [k1] at h3
      simpa using h3)
    by_cases hp : 0 < len
    · obtain ⟨b, off, spot⟩ := a
      have h00 := hF 0 hp
      have hspot : spot = none := by simpa [Addr.add] using World.cell?_spot h00
      subst hspot
      have hbW : b < W.heap.size := hlt (.cell b off) (List.mem_append_left _ (MemPlace.mem_row.2 ⟨0, by omega, by simp⟩))
      refine ⟨b, off, (List.range len).map F, by simp, fun i x hi => ?_, fun _ => rfl, fun _ => hbW⟩
      have hil : i < len := by
        have := (List.getElem?_eq_some_iff.1 hi).1
        simpa using this
      rw [List.getElem?_map, List.getElem?_range hil] at hi
      cases hi
      have := hF i hil
      rw [add_plain] at this
      exact this
    · obtain rfl : len = 0 := by omega
      exact ⟨0, 0, [], rfl, fun i x hi => by simp at hi, fun h => by simp at h, fun h => by simp at h⟩
end Go.Proofs.Ytkdciomijemmiaa
namespace Go.Proofs.Ytkdciomijemmiaa
open Go.ChangeShapes Go.WideShapes Go.ChangeAt Go.RowKit Go.Deep

set_option maxRecDepth 100000 in
/-- The row of ElectionQuiet, around a walk. -/
theorem electionQuiet_lifted (walk : ∀ (u0 : Nat) (sb1 off1 : Nat) (ao1 : Option Addr) (len1 cap1 : Nat) (rs1 : List Rq) (sb2 off2 : Nat) (ao2 : Option Addr) (len2 cap2 : Nat) (xs2 : List Nat) (w : World), u0 < 18446744073709551616 → rs1.length = len1 → Rqs w.heap.size w ao1 rs1 sb1 off1 → xs2.length = len2 → Us w sb2 off2 xs2 → (0 < xs2.length → ao2 = some ⟨sb2, off2, none⟩) → (0 < xs2.length → sb2 < w.heap.size) → Calls Try.prog 3 #[.int .u64 (u0 : Nat), .slice ao1 len1 cap1, .slice ao2 len2 cap2] w fun e w' => e = .returned (.bool true) ∧ Below w.heap.size w w')
    (os : Os) (started : os.Started) (H : Type) (enc : TypeId × Value → H) :
    ReturnsInHanded {} Try.checked os 3 .any (Rows.electionQuietSpec.pre6 enc Try.prog Try.f3 Rows.electionQuietRow.domain false) (Rows.electionQuietSpec.post enc Try.prog Try.f3 false true false false) := by
  refine returnsInHanded_of_change_sized (C := Try.checked) own started (by kernel_rfl) Try.func3
    (ChangeSpec.witness6 (enc := enc) (C := Try.checked) false ⟨#[], #[.int .u64 0, .slice none 0 0, .slice none 0 0], []⟩ 8 (by kernel_rfl) (by kernel_rfl) (by kernel_rfl) (by kernel_rfl)) ?_
  intro W base args ds gs before hval0 hW hcnd hsz0 _
  have hval : ∀ (j : Nat) t v, Try.f3.params[j]? = some t → args[j]? = some v → Value.okWide Try.prog W .any base t v := hval0
  have hW' := hW
  obtain ⟨p, q, hA0, hV, rfl, hfz, hnd⟩ := hW
  have hA : DataW.TrodAll enc Try.prog W 0 (fun _ => true) true Try.f3.params.toList args.toList ds p := hA0
  rw [Try.params3] at hA hval hsz0
  obtain ⟨v0, vs0, d0, ds0, p0, q0, hargs, rfl, rfl, h0, r0⟩ := trodAll_cons hA
  obtain ⟨v1, vs1, d1, ds1, p1, q1, rfl, rfl, rfl, h1, r1⟩ := trodAll_cons r0
  obtain ⟨v2, vs2, d2, ds2, p2, q2, rfl, rfl, rfl, h2, r2⟩ := trodAll_cons r1
  obtain ⟨rfl, rfl, rfl⟩ := trodAll_nil r2
  obtain rfl : args = #[v0, v1, v2] := by cases args; simp_all
  obtain ⟨rfl, rfl⟩ := trodVars_none hV
  obtain ⟨a0, rfl, rfl, rfl, w0⟩ := open_int Try.underlying22 (hval 0 22 v0 rfl rfl) h0
  have b0 := bounds_u64 w0
  obtain ⟨u0, rfl⟩ := Int.eq_ofNat_of_zero_le b0.1
  obtain ⟨ao1, len1, cap1, rfl⟩ := okWide_slice Try.underlying23 (hval 1 23 v1 rfl rfl)
  have k1 := h1
  have lt1 : ∀ x ∈ p1, x.block < W.heap.size := by obtain ⟨m, hm⟩ := k1; exact DataW.trod_lt m _ _ _ hm
  obtain ⟨fu1, hfu1⟩ := h1
  obtain ⟨aq1, lq1, cq1, rs1, sb1, off1, eq1, hn1, hF1⟩ := view_requests hfu1 (fun n hn => by
    have := List.all_eq_true.1 hsz0 n (DataW.weights_mem_each (j := 1) (t := 23) (d := d1) rfl rfl n hn)
    simpa using this)
  simp [Value.cells] at eq1
  obtain ⟨rfl, rfl, rfl⟩ := eq1
  obtain ⟨ao2, len2, cap2, rfl⟩ := okWide_slice Try.underlying24 (hval 2 24 v2 rfl rfl)
  have k2 := h2
  have lt2 : ∀ x ∈ p2, x.block < W.heap.size := by obtain ⟨m, hm⟩ := k2; exact DataW.trod_lt m _ _ _ hm
  obtain ⟨sb2, off2, xs2, hn2, hF2, ha2, hb2⟩ := view_nums h2
  clear hA0 hval0
  refine (walk u0 sb1 off1 ao1 len1 cap1 rs1 sb2 off2 ao2 len2 cap2 xs2 W (by omega) hn1.symm hF1 hn2 hF2 ha2 hb2).mono fun e W' ⟨he, bel⟩ => ?_
  subst he
  exact ⟨_, rfl, _, _, _, [], _, [], hW', trodAll_mk1 (shut_bool Try.underlying4 _), (trodAll_cons_mk (shut_int Try.underlying22 w0) (trodAll_cons_mk (Below.trod laidOut (by kernel_rfl) (of_decide_eq_true (by kernel_rfl)) k1 bel lt1) (trodAll_cons_mk (Below.trod laidOut (by kernel_rfl) (of_decide_eq_true (by kernel_rfl)) k2 bel lt2) trodAll_mk0))), rfl, bel.frame _, fun h => by cases h⟩

set_option maxRecDepth 100000 in
theorem electionQuiet_of (walk : ∀ (u0 : Nat) (sb1 off1 : Nat) (ao1 : Option Addr) (len1 cap1 : Nat) (rs1 : List Rq) (sb2 off2 : Nat) (ao2 : Option Addr) (len2 cap2 : Nat) (xs2 : List Nat) (w : World), u0 < 18446744073709551616 → rs1.length = len1 → Rqs w.heap.size w ao1 rs1 sb1 off1 → xs2.length = len2 → Us w sb2 off2 xs2 → (0 < xs2.length → ao2 = some ⟨sb2, off2, none⟩) → (0 < xs2.length → sb2 < w.heap.size) → Calls Try.prog 3 #[.int .u64 (u0 : Nat), .slice ao1 len1 cap1, .slice ao2 len2 cap2] w fun e w' => e = .returned (.bool true) ∧ Below w.heap.size w w') :
    Rows.electionQuietRow.holds Try.pinned (OpenSpec.ofChange Rows.electionQuietSpec) :=
  OpenClaim.holds_of_wide 3 Try.f3 rfl rfl rfl rfl rfl rfl rfl ⟨rfl, rfl, rfl, rfl, rfl⟩ rfl rfl rfl rfl rfl (by kernel_rfl) Try.func3 (by kernel_rfl)
    (of_decide_eq_true (by kernel_rfl)) (by unfold Func.isWrapper; first | (rw [if_pos (by decide +kernel)]; kernel_rfl) | (rw [if_neg (by decide +kernel)]; exact ⟨rfl, rfl⟩))
    (fun os started H enc _ => electionQuiet_lifted walk os started H enc)
end Go.Proofs.Ytkdciomijemmiaa
