import Derived.Test.YtmoklddfaocihaaDoorCvZ
import Derived.Test.YtmoklddfaocihaaDoorRows
import Derived.ProofKit
import Derived.OpenShut
import Derived.ChangeOld
import Derived.Below
import Derived.SizedLaws
import Derived.Deep.Slices
import Derived.Deep.DeepHandedRow
import Derived.Lib.LaidTab
namespace Go.Proofs.YtmoklddfaocihaaDoor
open Go.ChangeShapes Go.WideShapes Go.ChangeAt Go.RowKit Go.Deep

theorem own : ownKnob Tryd.prog.godebug = none := by kernel_rfl
theorem laidOut : laidOutB Tryd.prog = true := by kernel_rfl
theorem peelW (L : List Value) (a c : Nat) {p : List Value} (h : (L.drop a).take c = p) : L.drop a = p ++ L.drop (a + c) := by
  rw [← h, ← List.drop_drop, List.take_append_drop]
/-- A list that came in: where it lies, and each element as it reads. -/
theorem view_row {H : Type} {enc : TypeId × Value → H} {W : World} {fuel : Nat} {t e : TypeId} {s bt : Nat} {cs : List Value} {x : DataW H × List MemPlace} (hu : Tryd.prog.underlying t = some (.slice e)) (hc : Tryd.prog.cellsOf e = s) (hs : 0 < s) (hb : Tryd.prog.bytesOf e = bt)
    (hf : DataW.trod enc Tryd.prog W 0 (fun _ => true) true fuel t cs = some x) (hr : ∀ n ∈ x.1.weights Tryd.prog t, n ≤ reachBytes) :
    ∃ (ao : Option Addr) (len cap b off : Nat), cs = [.slice ao len cap] ∧ (0 < len → ao = some ⟨b, off, none⟩ ∧ b < W.heap.size) ∧ bt * cap ≤ 140737488351232 ∧ len ≤ cap ∧ ∀ i, i < len → ∃ (n : Nat) (ce : List Value) (y : DataW H × List MemPlace), ce.length = s ∧ (∀ j, j < s → W.cell? ⟨b, off + (i * s + j), none⟩ = ce[j]?) ∧ DataW.trod enc Tryd.prog W 0 (fun _ => true) true n e ce = some y := by
  have hlt := DataW.trod_lt fuel _ _ _ hf
  rcases open_slice hu hf with ⟨hcs, _⟩ | ⟨a, l, c, m, n, D, Pl, hcs, _, hl, hm, hmm, hx, hall⟩
  · exact ⟨none, 0, 0, 0, 0, hcs, fun h => by simp at h, by simp, by simp, fun i hi => by omega⟩
  · simp only [if_true] at hmm
    subst hmm
    subst hx
    rw [hc] at hall
    simp only [DataW.weights, hu, hb, List.length_map, List.length_range] at hr
    have hcap := hr _ (List.mem_cons_self ..)
    simp only [reachBytes] at hcap
    rw [Nat.add_sub_cancel' hl, Nat.mul_comm] at hcap
    by_cases hp : 0 < l
    · obtain ⟨b, off, spot⟩ := a
      obtain ⟨cs0, h1, h2⟩ := hall 0 (by omega)
      have h3 := (World.cells?_some h1).2.2 0 (by omega)
      have hl0 := (World.cells?_some h1).2.1
      rw [List.getElem?_eq_getElem (by omega)] at h3
      have hspot : spot = none := by simpa [Addr.add] using World.cell?_spot h3
      subst hspot
      have hbW : b < W.heap.size := hlt (.cell b off) (List.mem_append_left _ (MemPlace.mem_row.2 ⟨0, by rw [hc]; have : 0 < m * s := Nat.mul_pos (by omega) hs; omega, by simp⟩))
      refine ⟨_, l, m, b, off, hcs, fun _ => ⟨rfl, hbW⟩, by omega, hl, fun i hi => ?_⟩
      obtain ⟨ce, k1, k2⟩ := hall i (by omega)
      refine ⟨_, ce, _, (World.cells?_some k1).2.1, fun j hj => ?_, k2⟩
      have k3 := (World.cells?_some k1).2.2 j hj
      rw [add_add, add_plain] at k3
      exact k3
    · exact ⟨_, l, m, 0, 0, hcs, fun h => absurd h hp, by omega, hl, fun i hi => by omega⟩
theorem view_words {H : Type} {enc : TypeId × Value → H} {W : World} {fuel : Nat} {cs : List Value} {x : DataW H × List MemPlace}
    (hf : DataW.trod enc Tryd.prog W 0 (fun _ => true) true fuel 22 cs = some x) (hr : ∀ n ∈ x.1.weights Tryd.prog 22, n ≤ reachBytes) :
    ∃ (ao : Option Addr) (len cap b off : Nat) (f : Nat → Int), cs = [.slice ao len cap] ∧ (0 < len → ao = some ⟨b, off, none⟩ ∧ b < W.heap.size) ∧ len * 8 ≤ 140737488351232 ∧ (∀ j, j < len → W.cell? ⟨b, off + j, none⟩ = some (.int .u64 (f j))) ∧ ∀ j, j < len → 0 ≤ f j ∧ f j < 18446744073709551616 := by
  obtain ⟨ao, len, cap, b, off, h1, h2, h3, h4, h5⟩ := view_row Tryd.underlying22 (e := 42) (s := 1) (bt := 8) (by kernel_rfl) (by decide) (by kernel_rfl) hf hr
  obtain ⟨F, hF⟩ := choose_lt (α := Int) (n := len) (p := fun i y => W.cell? ⟨b, off + i, none⟩ = some (.int .u64 y) ∧ 0 ≤ y ∧ y < 18446744073709551616) (fun i hi => by
    obtain ⟨n, ce, y, k1, k2, k3⟩ := h5 i hi
    obtain ⟨B, e1, _, wf⟩ := DataW.trod_int Tryd.underlying42 k3
    have := k2 0 (by decide)
    rw [e1] at this
    exact ⟨B, by simpa using this, by simp [Lit.wf, IntKind.min, IntKind.max, IntKind.bits, IntKind.signed] at wf; omega⟩)
  exact ⟨ao, len, cap, b, off, F, h1, h2, by omega, fun j hj => (hF j hj).1, fun j hj => (hF j hj).2⟩
theorem view_ints {H : Type} {enc : TypeId × Value → H} {W : World} {fuel : Nat} {cs : List Value} {x : DataW H × List MemPlace}
    (hf : DataW.trod enc Tryd.prog W 0 (fun _ => true) true fuel 23 cs = some x) (hr : ∀ n ∈ x.1.weights Tryd.prog 23, n ≤ reachBytes) :
    ∃ (ao : Option Addr) (len cap b off : Nat) (f : Nat → Int), cs = [.slice ao len cap] ∧ (0 < len → ao = some ⟨b, off, none⟩ ∧ b < W.heap.size) ∧ len * 8 ≤ 140737488351232 ∧ ∀ j, j < len → W.cell? ⟨b, off + j, none⟩ = some (.int .i64 (f j)) := by
  obtain ⟨ao, len, cap, b, off, h1, h2, h3, h4, h5⟩ := view_row Tryd.underlying23 (e := 3) (s := 1) (bt := 8) (by kernel_rfl) (by decide) (by kernel_rfl) hf hr
  obtain ⟨F, hF⟩ := choose_lt (α := Int) (n := len) (p := fun i y => W.cell? ⟨b, off + i, none⟩ = some (.int .i64 y)) (fun i hi => by
    obtain ⟨n, ce, y, k1, k2, k3⟩ := h5 i hi
    obtain ⟨B, e1, _, _⟩ := DataW.trod_int Tryd.underlying3 k3
    have := k2 0 (by decide)
    rw [e1] at this
    exact ⟨B, by simpa using this⟩)
  exact ⟨ao, len, cap, b, off, F, h1, h2, by omega, hF⟩
theorem list2W {α : Type} {l : List α} (h : l.length = 2) : ∃ a b, l = [a, b] := by
  match l, h with
  | [a, b], _ => exact ⟨a, b, rfl⟩
theorem list4W {α : Type} {l : List α} (h : l.length = 4) : ∃ a b c d, l = [a, b, c, d] := by
  match l, h with
  | [a, b, c, d], _ => exact ⟨a, b, c, d, rfl⟩
theorem view_inss {H : Type} {enc : TypeId × Value → H} {W : World} {fuel : Nat} {cs : List Value} {x : DataW H × List MemPlace}
    (hf : DataW.trod enc Tryd.prog W 0 (fun _ => true) true fuel 25 cs = some x) (hr : ∀ n ∈ x.1.weights Tryd.prog 25, n ≤ reachBytes) :
    ∃ (ao : Option Addr) (len cap b off : Nat) (f f2 : Nat → Int), cs = [.slice ao len cap] ∧ (0 < len → ao = some ⟨b, off, none⟩ ∧ b < W.heap.size) ∧ len * 16 ≤ 140737488351232 ∧ (∀ j, j < len → W.cell? ⟨b, off + j * 2, none⟩ = some (.int .i64 (f j))) ∧ ∀ j, j < len → W.cell? ⟨b, off + j * 2 + 1, none⟩ = some (.int .i64 (f2 j)) := by
  obtain ⟨ao, len, cap, b, off, h1, h2, h3, h4, h5⟩ := view_row Tryd.underlying25 (e := 83) (s := 2) (bt := 16) (by kernel_rfl) (by decide) (by kernel_rfl) hf hr
  obtain ⟨F, hF⟩ := choose_lt (α := Int × Int) (n := len) (p := fun i y => W.cell? ⟨b, off + i * 2, none⟩ = some (.int .i64 y.1) ∧ W.cell? ⟨b, off + i * 2 + 1, none⟩ = some (.int .i64 y.2)) (fun i hi => by
    obtain ⟨n, ce, y, k1, k2, k3⟩ := h5 i hi
    obtain ⟨xs, m, _, _, hl, hlen, hff⟩ := DataW.trod_struct Tryd.underlying83 k3
    have hlen : xs.length = 2 := hlen
    obtain ⟨z0, z1, rfl⟩ := list2W hlen
    have e0 : DataW.trod enc Tryd.prog W 0 (fun _ => true) true m 81 ((ce.drop 0).take (Tryd.prog.cellsOf 81)) = some z0 := hff 0 _ rfl
    have e1 : DataW.trod enc Tryd.prog W 0 (fun _ => true) true m 3 ((ce.drop 1).take (Tryd.prog.cellsOf 3)) = some z1 := hff 1 _ rfl
    rw [show Tryd.prog.cellsOf 81 = 1 by kernel_rfl] at e0
    rw [show Tryd.prog.cellsOf 3 = 1 by kernel_rfl] at e1
    obtain ⟨A0, q0, _, _⟩ := DataW.trod_int Tryd.underlying81 e0
    obtain ⟨A1, q1, _, _⟩ := DataW.trod_int Tryd.underlying3 e1
    obtain ⟨c0, c1, rfl⟩ := list2W k1
    simp at q0 q1
    subst q0
    subst q1
    have w0 := k2 0 (by decide)
    have w1 := k2 1 (by decide)
    exact ⟨(A0, A1), by simpa using w0, by simpa [Nat.add_assoc] using w1⟩)
  exact ⟨ao, len, cap, b, off, fun j => (F j).1, fun j => (F j).2, h1, h2, by omega, fun j hj => (hF j hj).1, fun j hj => (hF j hj).2⟩
/-- Six numbers that came in. -/
theorem view_six {H : Type} {enc : TypeId × Value → H} {W : World} {fuel : Nat} {cs : List Value} {x : DataW H × List MemPlace}
    (h : DataW.trod enc Tryd.prog W 0 (fun _ => true) true fuel 24 cs = some x) : ∃ f : Nat → Int, cs = [.int .i64 (f 0), .int .i64 (f 1), .int .i64 (f 2), .int .i64 (f 3), .int .i64 (f 4), .int .i64 (f 5)] := by
  obtain ⟨xs, n, _, _, hl, hlen, hf⟩ := DataW.trod_array Tryd.underlying24 h
  rw [show Tryd.prog.cellsOf 24 = 6 by kernel_rfl] at hl
  obtain ⟨F, hF⟩ := choose_lt (α := Int) (n := 6) (p := fun i y => cs[i]? = some (.int .i64 y)) (fun i hi => by
    have e := hf i hi
    rw [show Tryd.prog.cellsOf 3 = 1 by kernel_rfl, Nat.mul_one, List.getElem?_eq_getElem (by omega)] at e
    obtain ⟨K, k0, _, _⟩ := DataW.trod_int Tryd.underlying3 e
    refine ⟨K, ?_⟩
    have e2 : (cs.drop i).take 1 = [cs[i]'(by omega)] := by
      rw [List.drop_eq_getElem_cons (by omega)]
      rfl
    rw [e2] at k0
    rw [List.getElem?_eq_getElem (by omega)]
    simpa using k0)
  refine ⟨F, List.ext_getElem? (fun i => ?_)⟩
  by_cases hi : i < 6
  · rw [hF i hi]
    match i, hi with
    | 0, _ => rfl
    | 1, _ => rfl
    | 2, _ => rfl
    | 3, _ => rfl
    | 4, _ => rfl
    | 5, _ => rfl
  · rw [List.getElem?_eq_none (by omega), List.getElem?_eq_none (by simp; omega)]
/-- A program that came in. -/
theorem view_progC {H : Type} {enc : TypeId × Value → H} {W : World} {v : Value} {d : DataW H} {pl : List MemPlace}
    (h : DataW.Trod enc Tryd.prog W 0 (fun _ => true) true 27 v d pl) (hr : ∀ n ∈ d.weights Tryd.prog 27, n ≤ reachBytes) :
    ∃ (g : Pg) (p : Pv), v.cells.toList = g.cs p ∧ g.Ok p W.heap.size W ∧ p.nc * 8 ≤ 140737488351232 ∧ p.ns * 8 ≤ 140737488351232 ∧ p.n * 16 ≤ 140737488351232 ∧ ∀ j, j < p.nc → 0 ≤ p.C j ∧ p.C j < 18446744073709551616 := by
  obtain ⟨fuel, hf0⟩ := h
  generalize v.cells.toList = L at hf0 ⊢
  obtain ⟨xs, n, _, hx, hl, hlen, hf⟩ := DataW.trod_struct Tryd.underlying27 hf0
  clear hf0
  rw [show Tryd.prog.cellsOf 27 = 9 by kernel_rfl] at hl
  have hlen : xs.length = 4 := hlen
  obtain ⟨y0, y1, y2, y3, rfl⟩ := list4W hlen
  simp only [Prod.mk.injEq] at hx
  obtain ⟨hd, _⟩ := hx
  subst hd
  have e0 : DataW.trod enc Tryd.prog W 0 (fun _ => true) true n 22 ((L.drop 0).take (Tryd.prog.cellsOf 22)) = some y0 := hf 0 _ rfl
  have e1 : DataW.trod enc Tryd.prog W 0 (fun _ => true) true n 23 ((L.drop 1).take (Tryd.prog.cellsOf 23)) = some y1 := hf 1 _ rfl
  have e2 : DataW.trod enc Tryd.prog W 0 (fun _ => true) true n 24 ((L.drop 2).take (Tryd.prog.cellsOf 24)) = some y2 := hf 2 _ rfl
  have e3 : DataW.trod enc Tryd.prog W 0 (fun _ => true) true n 25 ((L.drop 8).take (Tryd.prog.cellsOf 25)) = some y3 := hf 3 _ rfl
  rw [show Tryd.prog.cellsOf 22 = 1 by kernel_rfl] at e0
  rw [show Tryd.prog.cellsOf 23 = 1 by kernel_rfl] at e1
  rw [show Tryd.prog.cellsOf 24 = 6 by kernel_rfl] at e2
  rw [show Tryd.prog.cellsOf 25 = 1 by kernel_rfl] at e3
  have hr : ∀ n ∈ DataW.weightsEach Tryd.prog [22, 23, 24, 25] [y0.1, y1.1, y2.1, y3.1], n ≤ reachBytes := by
    intro n hn
    refine hr n ?_
    simp only [DataW.weights, Tryd.underlying27]
    exact hn
  obtain ⟨a0, n0, c0, b0, o0, f0, k0, h0, l0, v0, u0⟩ := view_words e0 (fun n hn => hr n (DataW.weights_mem_each (j := 0) rfl rfl n hn))
  obtain ⟨a1, n1, c1, b1, o1, f1, k1, h1, l1, v1⟩ := view_ints e1 (fun n hn => hr n (DataW.weights_mem_each (j := 1) rfl rfl n hn))
  obtain ⟨f2, k2⟩ := view_six e2
  obtain ⟨a3, n3, c3, b3, o3, f3, f4, k3, h3, l3, v3, v4⟩ := view_inss e3 (fun n hn => hr n (DataW.weights_mem_each (j := 3) rfl rfl n hn))
  refine ⟨⟨a0, a1, a3, c0, c1, c3, b0, o0, b1, o1, b3, o3⟩, ⟨n0, n1, n3, f0, f1, f2, f3, f4⟩, ?_, ⟨h0, h1, h3, v0, v1, v3, v4, by show n0 ≤ _; omega, by show n1 ≤ _; omega, by show n3 ≤ _; omega⟩, l0, l1, l3, u0⟩
  have q0 := peelW L 0 1 k0
  have q1 := peelW L 1 1 k1
  have q2 := peelW L 2 6 k2
  have q3 := peelW L 8 1 k3
  have q4 : L.drop 9 = [] := List.drop_of_length_le (by omega)
  have : L = L.drop 0 := rfl
  rw [this, q0, q1, q2, q3, q4]
  rfl
theorem view_prog {H : Type} {enc : TypeId × Value → H} {W : World} {v : Value} {d : DataW H} {pl : List MemPlace}
    (h : DataW.Trod enc Tryd.prog W 0 (fun _ => true) true 27 v d pl) (hr : ∀ n ∈ d.weights Tryd.prog 27, n ≤ reachBytes) :
    ∃ (g : Pg) (p : Pv), v.cells.toList = g.cs p ∧ g.Ok p W.heap.size W ∧ p.nc * 8 ≤ 140737488351232 ∧ p.ns * 8 ≤ 140737488351232 ∧ p.n * 16 ≤ 140737488351232 := by
  obtain ⟨g, p, h1, h2, h3, h4, h5, _⟩ := view_progC h hr
  exact ⟨g, p, h1, h2, h3, h4, h5⟩
end Go.Proofs.YtmoklddfaocihaaDoor
