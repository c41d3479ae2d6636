import Derived.Test.YtggpaljilpbmhaaGreatDoorZ25
import Derived.Test.YtggpaljilpbmhaaGreatDoorRows
import Derived.ProofKit
import Derived.OpenShut
import Derived.ChangeOld
import Derived.Below
import Derived.SizedLaws
import Derived.Deep.Slices
import Derived.Deep.DeepHandedRow
import Derived.Lib.LaidTab
import Derived.Deep.DeepCutAuto
namespace Go.Proofs.YtggpaljilpbmhaaGreatDoor
open Go.ChangeShapes Go.WideShapes Go.ChangeAt Go.RowKit Go.Deep

theorem own : ownKnob Tryz.prog.godebug = none := by kernel_rfl
theorem laidOut : laidOutB Tryz.prog = true := by kernel_rfl
theorem peelW (L : List Value) (a c : Nat) {p : List Value} (h : (L.drop a).take c = p) : L.drop a = p ++ L.drop (a + c) := by
 rw [← h, ← List.drop_drop, List.take_append_drop]
/-- A list that came in: where it lies, and each element as it reads. -/
theorem view_row {H : Type} {enc : TypeId × Value → H} {W : World} {fuel : Nat} {t e : TypeId} {s bt : Nat} {cs : List Value} {x : DataW H × List MemPlace} (hu : Tryz.prog.underlying t = some (.slice e)) (hc : Tryz.prog.cellsOf e = s) (hs : 0 < s) (hb : Tryz.prog.bytesOf e = bt)
  (hf : DataW.trod enc Tryz.prog W 0 (fun _ => true) true fuel t cs = some x) (hr : ∀ n ∈ x.1.weights Tryz.prog t, n ≤ reachBytes) :
  ∃ (ao : Option Addr) (len cap b off : Nat), cs = [.slice ao len cap] ∧ (0 < len → ao = some ⟨b, off, none⟩ ∧ b < W.heap.size) ∧ bt * cap ≤ 140737488351232 ∧ len ≤ cap ∧ ∀ i, i < len → ∃ (n : Nat) (ce : List Value) (y : DataW H × List MemPlace), ce.length = s ∧ (∀ j, j < s → W.cell? ⟨b, off + (i * s + j), none⟩ = ce[j]?) ∧ DataW.trod enc Tryz.prog W 0 (fun _ => true) true n e ce = some y := by
 have hlt := DataW.trod_lt fuel _ _ _ hf
 rcases open_slice hu hf with ⟨hcs, _⟩ | ⟨a, l, c, m, n, D, Pl, hcs, _, hl, hm, hmm, hx, hall⟩
 ·exact ⟨none, 0, 0, 0, 0, hcs, fun h => by simp at h, by simp, by simp, fun i hi => by omega⟩
 ·simp only [if_true] at hmm
  subst hmm
  subst hx
  rw [hc] at hall
  simp only [DataW.weights, hu, hb, List.length_map, List.length_range] at hr
  have hcap := hr _ (List.mem_cons_self ..)
  simp only [reachBytes] at hcap
  rw [Nat.add_sub_cancel' hl, Nat.mul_comm] at hcap
  by_cases hp : 0 < l
  ·obtain ⟨b, off, spot⟩ := a
   obtain ⟨cs0, h1, h2⟩ := hall 0 (by omega)
   have h3 := (World.cells?_some h1).2.2 0 (by omega)
   have hl0 := (World.cells?_some h1).2.1
   rw [List.getElem?_eq_getElem (by omega)] at h3
   have hspot : spot = none := by simpa [Addr.add] using World.cell?_spot h3
   subst hspot
   have hbW : b < W.heap.size := hlt (.cell b off) (List.mem_append_left _ (MemPlace.mem_row.2 ⟨0, by rw [hc]; have : 0 < m * s := Nat.mul_pos (by omega) hs; omega, by simp⟩))
   refine ⟨_, l, m, b, off, hcs, fun _ => ⟨rfl, hbW⟩, by omega, hl, fun i hi => ?_⟩
   obtain ⟨ce, k1, k2⟩ := hall i (by omega)
   refine ⟨_, ce, _, (World.cells?_some k1).2.1, fun j hj => ?_, k2⟩
   have k3 := (World.cells?_some k1).2.2 j hj
   rw [add_add, add_plain] at k3
   exact k3
  ·exact ⟨_, l, m, 0, 0, hcs, fun h => absurd h hp, by omega, hl, fun i hi => by omega⟩
theorem view_words {H : Type} {enc : TypeId × Value → H} {W : World} {fuel : Nat} {cs : List Value} {x : DataW H × List MemPlace}
  (hf : DataW.trod enc Tryz.prog W 0 (fun _ => true) true fuel 22 cs = some x) (hr : ∀ n ∈ x.1.weights Tryz.prog 22, n ≤ reachBytes) :
  ∃ (ao : Option Addr) (len cap b off : Nat) (f : Nat → Int), cs = [.slice ao len cap] ∧ (0 < len → ao = some ⟨b, off, none⟩ ∧ b < W.heap.size) ∧ len * 8 ≤ 140737488351232 ∧ (∀ j, j < len → W.cell? ⟨b, off + j, none⟩ = some (.int .u64 (f j))) ∧ ∀ j, j < len → 0 ≤ f j ∧ f j < 18446744073709551616 := by
 obtain ⟨ao, len, cap, b, off, h1, h2, h3, h4, h5⟩ := view_row Tryz.underlying22 (e := 28) (s := 1) (bt := 8) (by kernel_rfl) (by decide) (by kernel_rfl) hf hr
 obtain ⟨F, hF⟩ := choose_lt (α := Int) (n := len) (p := fun i y => W.cell? ⟨b, off + i, none⟩ = some (.int .u64 y) ∧ 0 ≤ y ∧ y < 18446744073709551616) (fun i hi => by
  obtain ⟨n, ce, y, k1, k2, k3⟩ := h5 i hi
  obtain ⟨B, e1, _, wf⟩ := DataW.trod_int Tryz.underlying28 k3
  have := k2 0 (by decide)
  rw [e1] at this
  exact ⟨B, by simpa using this, by simp [Lit.wf, IntKind.min, IntKind.max, IntKind.bits, IntKind.signed] at wf; omega⟩)
 exact ⟨ao, len, cap, b, off, F, h1, h2, by omega, fun j hj => (hF j hj).1, fun j hj => (hF j hj).2⟩
theorem view_ints {H : Type} {enc : TypeId × Value → H} {W : World} {fuel : Nat} {cs : List Value} {x : DataW H × List MemPlace}
  (hf : DataW.trod enc Tryz.prog W 0 (fun _ => true) true fuel 23 cs = some x) (hr : ∀ n ∈ x.1.weights Tryz.prog 23, n ≤ reachBytes) :
  ∃ (ao : Option Addr) (len cap b off : Nat) (f : Nat → Int), cs = [.slice ao len cap] ∧ (0 < len → ao = some ⟨b, off, none⟩ ∧ b < W.heap.size) ∧ len * 8 ≤ 140737488351232 ∧ ∀ j, j < len → W.cell? ⟨b, off + j, none⟩ = some (.int .i64 (f j)) := by
 obtain ⟨ao, len, cap, b, off, h1, h2, h3, h4, h5⟩ := view_row Tryz.underlying23 (e := 3) (s := 1) (bt := 8) (by kernel_rfl) (by decide) (by kernel_rfl) hf hr
 obtain ⟨F, hF⟩ := choose_lt (α := Int) (n := len) (p := fun i y => W.cell? ⟨b, off + i, none⟩ = some (.int .i64 y)) (fun i hi => by
  obtain ⟨n, ce, y, k1, k2, k3⟩ := h5 i hi
  obtain ⟨B, e1, _, _⟩ := DataW.trod_int Tryz.underlying3 k3
  have := k2 0 (by decide)
  rw [e1] at this
  exact ⟨B, by simpa using this⟩)
 exact ⟨ao, len, cap, b, off, F, h1, h2, by omega, hF⟩
theorem list2W {α : Type} {l : List α} (h : l.length = 2) : ∃ a b, l = [a, b] := by
 match l, h with
 | [a, b], _ => exact ⟨a, b, rfl⟩
theorem list4W {α : Type} {l : List α} (h : l.length = 4) : ∃ a b c d, l = [a, b, c, d] := by
 match l, h with
 | [a, b, c, d], _ => exact ⟨a, b, c, d, rfl⟩
theorem view_inss {H : Type} {enc : TypeId × Value → H} {W : World} {fuel : Nat} {cs : List Value} {x : DataW H × List MemPlace}
  (hf : DataW.trod enc Tryz.prog W 0 (fun _ => true) true fuel 25 cs = some x) (hr : ∀ n ∈ x.1.weights Tryz.prog 25, n ≤ reachBytes) :
  ∃ (ao : Option Addr) (len cap b off : Nat) (f f2 : Nat → Int), cs = [.slice ao len cap] ∧ (0 < len → ao = some ⟨b, off, none⟩ ∧ b < W.heap.size) ∧ len * 16 ≤ 140737488351232 ∧ (∀ j, j < len → W.cell? ⟨b, off + j * 2, none⟩ = some (.int .i64 (f j))) ∧ ∀ j, j < len → W.cell? ⟨b, off + j * 2 + 1, none⟩ = some (.int .i64 (f2 j)) := by
 obtain ⟨ao, len, cap, b, off, h1, h2, h3, h4, h5⟩ := view_row Tryz.underlying25 (e := 42) (s := 2) (bt := 16) (by kernel_rfl) (by decide) (by kernel_rfl) hf hr
 obtain ⟨F, hF⟩ := choose_lt (α := Int × Int) (n := len) (p := fun i y => W.cell? ⟨b, off + i * 2, none⟩ = some (.int .i64 y.1) ∧ W.cell? ⟨b, off + i * 2 + 1, none⟩ = some (.int .i64 y.2)) (fun i hi => by
  obtain ⟨n, ce, y, k1, k2, k3⟩ := h5 i hi
  obtain ⟨xs, m, _, _, hl, hlen, hff⟩ := DataW.trod_struct Tryz.underlying42 k3
  have hlen : xs.length = 2 := hlen
  obtain ⟨z0, z1, rfl⟩ := list2W hlen
  have e0 : DataW.trod enc Tryz.prog W 0 (fun _ => true) true m 40 ((ce.drop 0).take (Tryz.prog.cellsOf 40)) = some z0 := hff 0 _ rfl
  have e1 : DataW.trod enc Tryz.prog W 0 (fun _ => true) true m 3 ((ce.drop 1).take (Tryz.prog.cellsOf 3)) = some z1 := hff 1 _ rfl
  rw [show Tryz.prog.cellsOf 40 = 1 by kernel_rfl] at e0
  rw [show Tryz.prog.cellsOf 3 = 1 by kernel_rfl] at e1
  obtain ⟨A0, q0, _, _⟩ := DataW.trod_int Tryz.underlying40 e0
  obtain ⟨A1, q1, _, _⟩ := DataW.trod_int Tryz.underlying3 e1
  obtain ⟨c0, c1, rfl⟩ := list2W k1
  simp at q0 q1
  subst q0
  subst q1
  have w0 := k2 0 (by decide)
  have w1 := k2 1 (by decide)
  exact ⟨(A0, A1), by simpa using w0, by simpa [Nat.add_assoc] using w1⟩)
 exact ⟨ao, len, cap, b, off, fun j => (F j).1, fun j => (F j).2, h1, h2, by omega, fun j hj => (hF j hj).1, fun j hj => (hF j hj).2⟩
/-- Six numbers that came in. -/
theorem view_six {H : Type} {enc : TypeId × Value → H} {W : World} {fuel : Nat} {cs : List Value} {x : DataW H × List MemPlace}
  (h : DataW.trod enc Tryz.prog W 0 (fun _ => true) true fuel 24 cs = some x) : ∃ f : Nat → Int, cs = [.int .i64 (f 0), .int .i64 (f 1), .int .i64 (f 2), .int .i64 (f 3), .int .i64 (f 4), .int .i64 (f 5)] := by
 obtain ⟨xs, n, _, _, hl, hlen, hf⟩ := DataW.trod_array Tryz.underlying24 h
 rw [show Tryz.prog.cellsOf 24 = 6 by kernel_rfl] at hl
 obtain ⟨F, hF⟩ := choose_lt (α := Int) (n := 6) (p := fun i y => cs[i]? = some (.int .i64 y)) (fun i hi => by
  have e := hf i hi
  rw [show Tryz.prog.cellsOf 3 = 1 by kernel_rfl, Nat.mul_one, List.getElem?_eq_getElem (by omega)] at e
  obtain ⟨K, k0, _, _⟩ := DataW.trod_int Tryz.underlying3 e
  refine ⟨K, ?_⟩
  have e2 : (cs.drop i).take 1 = [cs[i]'(by omega)] := by
   rw [List.drop_eq_getElem_cons (by omega)]
   rfl
  rw [e2] at k0
  rw [List.getElem?_eq_getElem (by omega)]
  simpa using k0)
 refine ⟨F, List.ext_getElem? (fun i => ?_)⟩
 by_cases hi : i < 6
 ·rw [hF i hi]
  match i, hi with
  | 0, _ => rfl
  | 1, _ => rfl
  | 2, _ => rfl
  | 3, _ => rfl
  | 4, _ => rfl
  | 5, _ => rfl
 ·rw [List.getElem?_eq_none (by omega), List.getElem?_eq_none (by simp; omega)]
/-- A program that came in. -/
theorem view_progC {H : Type} {enc : TypeId × Value → H} {W : World} {v : Value} {d : DataW H} {pl : List MemPlace}
  (h : DataW.Trod enc Tryz.prog W 0 (fun _ => true) true 27 v d pl) (hr : ∀ n ∈ d.weights Tryz.prog 27, n ≤ reachBytes) :
  ∃ (g : Pg) (p : Pv), v.cells.toList = g.cs p ∧ g.Ok p W.heap.size W ∧ p.nc * 8 ≤ 140737488351232 ∧ p.ns * 8 ≤ 140737488351232 ∧ p.n * 16 ≤ 140737488351232 ∧ ∀ j, j < p.nc → 0 ≤ p.C j ∧ p.C j < 18446744073709551616 := by
 obtain ⟨fuel, hf0⟩ := h
 generalize v.cells.toList = L at hf0 ⊢
 obtain ⟨xs, n, _, hx, hl, hlen, hf⟩ := DataW.trod_struct Tryz.underlying27 hf0
 clear hf0
 rw [show Tryz.prog.cellsOf 27 = 9 by kernel_rfl] at hl
 have hlen : xs.length = 4 := hlen
 obtain ⟨y0, y1, y2, y3, rfl⟩ := list4W hlen
 simp only [Prod.mk.injEq] at hx
 obtain ⟨hd, _⟩ := hx
 subst hd
 have e0 : DataW.trod enc Tryz.prog W 0 (fun _ => true) true n 22 ((L.drop 0).take (Tryz.prog.cellsOf 22)) = some y0 := hf 0 _ rfl
 have e1 : DataW.trod enc Tryz.prog W 0 (fun _ => true) true n 23 ((L.drop 1).take (Tryz.prog.cellsOf 23)) = some y1 := hf 1 _ rfl
 have e2 : DataW.trod enc Tryz.prog W 0 (fun _ => true) true n 24 ((L.drop 2).take (Tryz.prog.cellsOf 24)) = some y2 := hf 2 _ rfl
 have e3 : DataW.trod enc Tryz.prog W 0 (fun _ => true) true n 25 ((L.drop 8).take (Tryz.prog.cellsOf 25)) = some y3 := hf 3 _ rfl
 rw [show Tryz.prog.cellsOf 22 = 1 by kernel_rfl] at e0
 rw [show Tryz.prog.cellsOf 23 = 1 by kernel_rfl] at e1
 rw [show Tryz.prog.cellsOf 24 = 6 by kernel_rfl] at e2
 rw [show Tryz.prog.cellsOf 25 = 1 by kernel_rfl] at e3
 have hr : ∀ n ∈ DataW.weightsEach Tryz.prog [22, 23, 24, 25] [y0.1, y1.1, y2.1, y3.1], n ≤ reachBytes := by
  intro n hn
  refine hr n ?_
  simp only [DataW.weights, Tryz.underlying27]
  exact hn
 obtain ⟨a0, n0, c0, b0, o0, f0, k0, h0, l0, v0, u0⟩ := view_words e0 (fun n hn => hr n (DataW.weights_mem_each (j := 0) rfl rfl n hn))
 obtain ⟨a1, n1, c1, b1, o1, f1, k1, h1, l1, v1⟩ := view_ints e1 (fun n hn => hr n (DataW.weights_mem_each (j := 1) rfl rfl n hn))
 obtain ⟨f2, k2⟩ := view_six e2
 obtain ⟨a3, n3, c3, b3, o3, f3, f4, k3, h3, l3, v3, v4⟩ := view_inss e3 (fun n hn => hr n (DataW.weights_mem_each (j := 3) rfl rfl n hn))
 refine ⟨⟨a0, a1, a3, c0, c1, c3, b0, o0, b1, o1, b3, o3⟩, ⟨n0, n1, n3, f0, f1, f2, f3, f4⟩, ?_, ⟨h0, h1, h3, v0, v1, v3, v4, by show n0 ≤ _; omega, by show n1 ≤ _; omega, by show n3 ≤ _; omega⟩, l0, l1, l3, u0⟩
 have q0 := peelW L 0 1 k0
 have q1 := peelW L 1 1 k1
 have q2 := peelW L 2 6 k2
 have q3 := peelW L 8 1 k3
 have q4 : L.drop 9 = [] := List.drop_of_length_le (by omega)
 have : L = L.drop 0 := rfl
 rw [this, q0, q1, q2, q3, q4]
 rfl
end Go.Proofs.YtggpaljilpbmhaaGreatDoor
namespace Go.Proofs.YtggpaljilpbmhaaGreatDoor
open Go.RowKit

theorem own_typ2 {w : World} {base n s : Nat} {t : TypeId} {v : Value} {xs : List Value} (h : w.ownsRow base t s v n xs) {b : Nat} (e : v.ownBlock = some b) : base ≤ b ∧ ∃ cs : Array Value, w.heap[b]? = some (.cells cs t (0, 0)) := by
 refine ⟨(h.lt b e).1, ?_⟩
 rcases h.2 with ⟨e3, _⟩ | ⟨g3, cap, cur, e3, _, hc, _⟩
 ·rw [e3] at e; cases e
 ·rw [e3] at e
  cases e
  exact ⟨_, hc⟩
theorem own_off2 {w : World} {base n s : Nat} {t t' : TypeId} {v : Value} {xs : List Value} (h : w.ownsRow base t s v n xs) (hne : t ≠ t') {b : Nat} {cs : Array Value} {z : Nat × Nat} (e : w.heap[b]? = some (.cells cs t' z)) : v.ownBlock ≠ some b := fun e2 => by
 obtain ⟨_, cs', h'⟩ := own_typ2 h e2
 rw [e] at h'
 cases h'
 exact hne rfl
theorem own_val2 {w : World} {base n s : Nat} {t : TypeId} {v : Value} {xs : List Value} (h : w.ownsRow base t s v n xs) : ∃ ao cap, v = .slice ao n cap := by
 rcases h.2 with ⟨e3, e0⟩ | ⟨g3, cap, cur, e3, _⟩
 ·exact ⟨none, 0, by rw [e3, e0]⟩
 ·exact ⟨_, cap, e3⟩
/-- The world of lend. -/
structure Ld (W : World) (g : Pg) (p : Pv) (rb cb : Nat) (va vb vc : Value) (ja jb jc : Nat) (xa xb xc : List Value) (w : World) : Prop where
 prg : w.heap[W.heap.size]? = some (.cells (g.cs p).toArray 27 (0, 0))
 res : w.heap[rb]? = some (.cells #[.slice none 0 0, .slice none 0 0, .int .i64 0, .int .i64 0, .int .i64 0, .int .i64 0, .int .i64 0, .int .i64 0, .slice none 0 0] 27 (0, 0))
 box : w.heap[cb]? = some (.cells #[va, vb, .int .i64 (p.en 0), .int .i64 (p.en 1), .int .i64 (p.en 2), .int .i64 (p.en 3), .int .i64 (p.en 4), .int .i64 (p.en 5), vc] 27 (0, 0))
 qa : w.ownsRow W.heap.size 28 1 va ja xa
 qb : w.ownsRow W.heap.size 3 1 vb jb xb
 qc : w.ownsRow W.heap.size 42 2 vc jc xc
 bel : Below W.heap.size W w
 lc : W.heap.size ≤ cb
 np : cb ≠ W.heap.size
 nr : cb ≠ rb
theorem Ld.drew {W : World} {g : Pg} {p : Pv} {rb cb : Nat} {va vb vc : Value} {ja jb jc : Nat} {xa xb xc : List Value} {w w' : World} (h : Ld W g p rb cb va vb vc ja jb jc xa xb xc w) (hb : Below w.heap.size w w') : Ld W g p rb cb va vb vc ja jb jc xa xb xc w' :=
 ⟨(hb.block _ (block_lt h.prg)).trans h.prg, (hb.block _ (block_lt h.res)).trans h.res, (hb.block _ (block_lt h.box)).trans h.box, row_quietT h.qa (grown_of_below hb none), row_quietT h.qb (grown_of_below hb none), row_quietT h.qc (grown_of_below hb none), h.bel.trans (hb.mono h.bel.size), h.lc, h.np, h.nr⟩
theorem Ld.stepA {W : World} {g : Pg} {p : Pv} {rb cb : Nat} {va vb vc : Value} {ja jb jc : Nat} {xa xb xc : List Value} {w w' : World} {o : Obj} (h : Ld W g p rb cb va vb vc ja jb jc xa xb xc w) {va' : Value} {y : Value} (ho : w'.ownsRow W.heap.size 28 1 va' (ja + 1) (xa ++ [y])) (hg : (w.alloc o).grownBy w' va.ownBlock) :
  Ld W g p rb cb va' vb vc (ja + 1) jb jc (xa ++ [y]) xb xc (w'.setCell ⟨cb, 0, none⟩ va') ∧ w'.heap[cb]? = some (.cells #[va, vb, .int .i64 (p.en 0), .int .i64 (p.en 1), .int .i64 (p.en 2), .int .i64 (p.en 3), .int .i64 (p.en 4), .int .i64 (p.en 5), vc] 27 (0, 0)) ∧ w'.heap[W.heap.size]? = some (.cells (g.cs p).toArray 27 (0, 0)) ∧ Below W.heap.size W w' := by
 have al := below_alloc1 w o
 have K : ∀ {b : Nat} {cs : Array Value} {t' : TypeId} {z : Nat × Nat}, (28 : TypeId) ≠ t' → w.heap[b]? = some (.cells cs t' z) → w'.heap[b]? = some (.cells cs t' z) := fun hne e =>
  (hg.block _ (Nat.lt_of_lt_of_le (block_lt e) al.size) (fun x => own_off2 h.qa hne e x.symm)).trans ((al.block _ (block_lt e)).trans e)
 have kw := K (by decide) h.box
 have kp := K (by decide) h.prg
 have kr := K (by decide) h.res
 have G := grown_set w' cb 0 va'
 have s1 := heap_setCell_same w' cb 0 _ _ va' kw
 refine ⟨⟨(G.block _ (block_lt kp) (by simpa using fun e => h.np e.symm)).trans kp, (G.block _ (block_lt kr) (by simpa using fun e => h.nr e.symm)).trans kr, by simpa using s1, ?_, ?_, ?_, ?_, h.lc, h.np, h.nr⟩, kw, kp, (h.bel.alloc h.bel.size o).grown hg (by have := h.bel.size; simp; omega) (fun b e => (h.qa.lt b e).1)⟩
 ·exact ho.kept G (.inr (own_off2 ho (by decide) kw))
 ·have r1 := row_quietT h.qb (World.grownBy_alloc w o none)
  have r2 : w'.ownsRow W.heap.size 3 1 vb jb xb := by
   refine r1.kept hg ?_
   cases e : vb.ownBlock with
   | none => exact .inl rfl
   | some b =>
    obtain ⟨_, cs, hc⟩ := own_typ2 h.qb e
    exact .inr (fun x => own_off2 h.qa (by decide) hc x.symm)
  exact r2.kept G (.inr (own_off2 r2 (by decide) kw))
 ·have r1 := row_quietT h.qc (World.grownBy_alloc w o none)
  have r2 : w'.ownsRow W.heap.size 42 2 vc jc xc := by
   refine r1.kept hg ?_
   cases e : vc.ownBlock with
   | none => exact .inl rfl
   | some b =>
    obtain ⟨_, cs, hc⟩ := own_typ2 h.qc e
    exact .inr (fun x => own_off2 h.qa (by decide) hc x.symm)
  exact r2.kept G (.inr (own_off2 r2 (by decide) kw))
 ·exact ((h.bel.alloc h.bel.size o).grown hg (by have := h.bel.size; simp; omega) (fun b e => (h.qa.lt b e).1)).setCell (p := ⟨cb, 0, none⟩) h.lc va'
theorem Ld.stepB {W : World} {g : Pg} {p : Pv} {rb cb : Nat} {va vb vc : Value} {ja jb jc : Nat} {xa xb xc : List Value} {w w' : World} {o : Obj} (h : Ld W g p rb cb va vb vc ja jb jc xa xb xc w) {vb' : Value} {y : Value} (ho : w'.ownsRow W.heap.size 3 1 vb' (jb + 1) (xb ++ [y])) (hg : (w.alloc o).grownBy w' vb.ownBlock) :
  Ld W g p rb cb va vb' vc ja (jb + 1) jc xa (xb ++ [y]) xc (w'.setCell ⟨cb, 1, none⟩ vb') ∧ w'.heap[cb]? = some (.cells #[va, vb, .int .i64 (p.en 0), .int .i64 (p.en 1), .int .i64 (p.en 2), .int .i64 (p.en 3), .int .i64 (p.en 4), .int .i64 (p.en 5), vc] 27 (0, 0)) ∧ w'.heap[W.heap.size]? = some (.cells (g.cs p).toArray 27 (0, 0)) ∧ Below W.heap.size W w' := by
 have al := below_alloc1 w o
 have K : ∀ {b : Nat} {cs : Array Value} {t' : TypeId} {z : Nat × Nat}, (3 : TypeId) ≠ t' → w.heap[b]? = some (.cells cs t' z) → w'.heap[b]? = some (.cells cs t' z) := fun hne e =>
  (hg.block _ (Nat.lt_of_lt_of_le (block_lt e) al.size) (fun x => own_off2 h.qb hne e x.symm)).trans ((al.block _ (block_lt e)).trans e)
 have kw := K (by decide) h.box
 have kp := K (by decide) h.prg
 have kr := K (by decide) h.res
 have G := grown_set w' cb 1 vb'
 have s1 := heap_setCell_same w' cb 1 _ _ vb' kw
 refine ⟨⟨(G.block _ (block_lt kp) (by simpa using fun e => h.np e.symm)).trans kp, (G.block _ (block_lt kr) (by simpa using fun e => h.nr e.symm)).trans kr, by simpa using s1, ?_, ?_, ?_, ?_, h.lc, h.np, h.nr⟩, kw, kp, (h.bel.alloc h.bel.size o).grown hg (by have := h.bel.size; simp; omega) (fun b e => (h.qb.lt b e).1)⟩
 ·have r1 := row_quietT h.qa (World.grownBy_alloc w o none)
  have r2 : w'.ownsRow W.heap.size 28 1 va ja xa := by
   refine r1.kept hg ?_
   cases e : va.ownBlock with
   | none => exact .inl rfl
   | some b =>
    obtain ⟨_, cs, hc⟩ := own_typ2 h.qa e
    exact .inr (fun x => own_off2 h.qb (by decide) hc x.symm)
  exact r2.kept G (.inr (own_off2 r2 (by decide) kw))
 ·exact ho.kept G (.inr (own_off2 ho (by decide) kw))
 ·have r1 := row_quietT h.qc (World.grownBy_alloc w o none)
  have r2 : w'.ownsRow W.heap.size 42 2 vc jc xc := by
   refine r1.kept hg ?_
   cases e : vc.ownBlock with
   | none => exact .inl rfl
   | some b =>
    obtain ⟨_, cs, hc⟩ := own_typ2 h.qc e
    exact .inr (fun x => own_off2 h.qb (by decide) hc x.symm)
  exact r2.kept G (.inr (own_off2 r2 (by decide) kw))
 ·exact ((h.bel.alloc h.bel.size o).grown hg (by have := h.bel.size; simp; omega) (fun b e => (h.qb.lt b e).1)).setCell (p := ⟨cb, 1, none⟩) h.lc vb'
theorem Ld.stepC {W : World} {g : Pg} {p : Pv} {rb cb : Nat} {va vb vc : Value} {ja jb jc : Nat} {xa xb xc : List Value} {w w' : World} {o : Obj} (h : Ld W g p rb cb va vb vc ja jb jc xa xb xc w) {vc' : Value} {y z : Value} (ho : w'.ownsRow W.heap.size 42 2 vc' (jc + 1) (xc ++ [y, z])) (hg : (w.alloc o).grownBy w' vc.ownBlock) :
  Ld W g p rb cb va vb vc' ja jb (jc + 1) xa xb (xc ++ [y, z]) (w'.setCell ⟨cb, 8, none⟩ vc') ∧ w'.heap[cb]? = some (.cells #[va, vb, .int .i64 (p.en 0), .int .i64 (p.en 1), .int .i64 (p.en 2), .int .i64 (p.en 3), .int .i64 (p.en 4), .int .i64 (p.en 5), vc] 27 (0, 0)) ∧ w'.heap[W.heap.size]? = some (.cells (g.cs p).toArray 27 (0, 0)) ∧ Below W.heap.size W w' := by
 have al := below_alloc1 w o
 have K : ∀ {b : Nat} {cs : Array Value} {t' : TypeId} {z : Nat × Nat}, (42 : TypeId) ≠ t' → w.heap[b]? = some (.cells cs t' z) → w'.heap[b]? = some (.cells cs t' z) := fun hne e =>
  (hg.block _ (Nat.lt_of_lt_of_le (block_lt e) al.size) (fun x => own_off2 h.qc hne e x.symm)).trans ((al.block _ (block_lt e)).trans e)
 have kw := K (by decide) h.box
 have kp := K (by decide) h.prg
 have kr := K (by decide) h.res
 have G := grown_set w' cb 8 vc'
 have s1 := heap_setCell_same w' cb 8 _ _ vc' kw
 refine ⟨⟨(G.block _ (block_lt kp) (by simpa using fun e => h.np e.symm)).trans kp, (G.block _ (block_lt kr) (by simpa using fun e => h.nr e.symm)).trans kr, by simpa using s1, ?_, ?_, ?_, ?_, h.lc, h.np, h.nr⟩, kw, kp, (h.bel.alloc h.bel.size o).grown hg (by have := h.bel.size; simp; omega) (fun b e => (h.qc.lt b e).1)⟩
 ·have r1 := row_quietT h.qa (World.grownBy_alloc w o none)
  have r2 : w'.ownsRow W.heap.size 28 1 va ja xa := by
   refine r1.kept hg ?_
   cases e : va.ownBlock with
   | none => exact .inl rfl
   | some b =>
    obtain ⟨_, cs, hc⟩ := own_typ2 h.qa e
    exact .inr (fun x => own_off2 h.qc (by decide) hc x.symm)
  exact r2.kept G (.inr (own_off2 r2 (by decide) kw))
 ·have r1 := row_quietT h.qb (World.grownBy_alloc w o none)
  have r2 : w'.ownsRow W.heap.size 3 1 vb jb xb := by
   refine r1.kept hg ?_
   cases e : vb.ownBlock with
   | none => exact .inl rfl
   | some b =>
    obtain ⟨_, cs, hc⟩ := own_typ2 h.qb e
    exact .inr (fun x => own_off2 h.qc (by decide) hc x.symm)
  exact r2.kept G (.inr (own_off2 r2 (by decide) kw))
 ·exact ho.kept G (.inr (own_off2 ho (by decide) kw))
 ·exact ((h.bel.alloc h.bel.size o).grown hg (by have := h.bel.size; simp; omega) (fun b e => (h.qc.lt b e).1)).setCell (p := ⟨cb, 8, none⟩) h.lc vc'
/-- The base of it. -/
structure Lb (W : World) (g : Pg) (p : Pv) (rb : Nat) (w : World) : Prop where
 prg : w.heap[W.heap.size]? = some (.cells (g.cs p).toArray 27 (0, 0))
 res : w.heap[rb]? = some (.cells #[.slice none 0 0, .slice none 0 0, .int .i64 0, .int .i64 0, .int .i64 0, .int .i64 0, .int .i64 0, .int .i64 0, .slice none 0 0] 27 (0, 0))
 bel : Below W.heap.size W w
theorem Lb.next {W : World} {g : Pg} {p : Pv} {rb : Nat} {w w' : World} (h : Lb W g p rb w) (hb : Below w.heap.size w w') : Lb W g p rb w' :=
 ⟨(hb.block _ (block_lt h.prg)).trans h.prg, (hb.block _ (block_lt h.res)).trans h.res, h.bel.trans (hb.mono h.bel.size)⟩
theorem below_none9 {w w' : World} (h : w.grownBy w' none) : Below w.heap.size w w' := ⟨h.os, h.tape, h.output, h.size, fun k hk => h.block k hk (by simp)⟩
def set9 (w : World) (b : Nat) (v0 v1 v2 v3 v4 v5 v6 v7 v8 : Value) : World := ((((((((w.setCell ⟨b, 0, none⟩ v0).setCell ⟨b, 1, none⟩ v1).setCell ⟨b, 2, none⟩ v2).setCell ⟨b, 3, none⟩ v3).setCell ⟨b, 4, none⟩ v4).setCell ⟨b, 5, none⟩ v5).setCell ⟨b, 6, none⟩ v6).setCell ⟨b, 7, none⟩ v7).setCell ⟨b, 8, none⟩ v8
theorem set9_grown (w : World) (b : Nat) (v0 v1 v2 v3 v4 v5 v6 v7 v8 : Value) : w.grownBy (set9 w b v0 v1 v2 v3 v4 v5 v6 v7 v8) (some b) :=
 grown_tr (grown_tr (grown_tr (grown_tr (grown_tr (grown_tr (grown_tr (grown_tr (grown_set _ b 0 _) (grown_set _ b 1 _)) (grown_set _ b 2 _)) (grown_set _ b 3 _)) (grown_set _ b 4 _)) (grown_set _ b 5 _)) (grown_set _ b 6 _)) (grown_set _ b 7 _)) (grown_set _ b 8 _)
theorem set9_at {w : World} {b : Nat} {x0 x1 x2 x3 x4 x5 x6 x7 x8 : Value} {t : TypeId} (h : w.heap[b]? = some (.cells #[x0, x1, x2, x3, x4, x5, x6, x7, x8] t (0, 0))) (v0 v1 v2 v3 v4 v5 v6 v7 v8 : Value) :
  (set9 w b v0 v1 v2 v3 v4 v5 v6 v7 v8).heap[b]? = some (.cells #[v0, v1, v2, v3, v4, v5, v6, v7, v8] t (0, 0)) := by
 have s0 := heap_setCell_same _ b 0 _ _ v0 h
 have s1 := heap_setCell_same _ b 1 _ _ v1 s0
 have s2 := heap_setCell_same _ b 2 _ _ v2 s1
 have s3 := heap_setCell_same _ b 3 _ _ v3 s2
 have s4 := heap_setCell_same _ b 4 _ _ v4 s3
 have s5 := heap_setCell_same _ b 5 _ _ v5 s4
 have s6 := heap_setCell_same _ b 6 _ _ v6 s5
 have s7 := heap_setCell_same _ b 7 _ _ v7 s6
 have s8 := heap_setCell_same _ b 8 _ _ v8 s7
 unfold set9
 simpa using s8
/-- The lent program's box is filled. -/
theorem ld_fill {W : World} {g : Pg} {p : Pv} {rb cb : Nat} {va vb vc : Value} {w : World} (h : Lb W g p rb w) (hc : w.heap[cb]? = some (.cells #[.slice none 0 0, .slice none 0 0, .int .i64 0, .int .i64 0, .int .i64 0, .int .i64 0, .int .i64 0, .int .i64 0, .slice none 0 0] 27 (0, 0))) (ra : w.ownsRow W.heap.size 28 1 va 0 []) (rB : w.ownsRow W.heap.size 3 1 vb 0 []) (rC : w.ownsRow W.heap.size 42 2 vc 0 []) (lc : W.heap.size ≤ cb) (np : cb ≠ W.heap.size) (nr : cb ≠ rb) :
  Ld W g p rb cb va vb vc 0 0 0 [] [] [] (set9 w cb va vb (.int .i64 (p.en 0)) (.int .i64 (p.en 1)) (.int .i64 (p.en 2)) (.int .i64 (p.en 3)) (.int .i64 (p.en 4)) (.int .i64 (p.en 5)) vc) := by
 have G := set9_grown w cb va vb (.int .i64 (p.en 0)) (.int .i64 (p.en 1)) (.int .i64 (p.en 2)) (.int .i64 (p.en 3)) (.int .i64 (p.en 4)) (.int .i64 (p.en 5)) vc
 exact ⟨(G.block _ (block_lt h.prg) (by simpa using fun e => np e.symm)).trans h.prg, (G.block _ (block_lt h.res) (by simpa using fun e => nr e.symm)).trans h.res, set9_at hc _ _ _ _ _ _ _ _ _, ra.kept G (.inr (own_off2 ra (by decide) hc)), rB.kept G (.inr (own_off2 rB (by decide) hc)), rC.kept G (.inr (own_off2 rC (by decide) hc)), h.bel.trans (below_of_grown G lc h.bel.size), lc, np, nr⟩
end Go.Proofs.YtggpaljilpbmhaaGreatDoor
namespace Go.Proofs.YtggpaljilpbmhaaGreatDoor
open Go.RowKit

def rowA (p : Pv) (j : Nat) : List Value := (List.range j).map (fun k => .int .u64 (p.C k))
def rowB (p : Pv) (j : Nat) : List Value := (List.range j).map (fun k => .int .i64 (p.S k))
def rowC (p : Pv) : Nat → List Value
 | 0 => []
 | j + 1 => rowC p j ++ [.int .i64 (p.op j), .int .i64 (p.arg j)]
theorem rowA_succ (p : Pv) (j : Nat) : rowA p (j + 1) = rowA p j ++ [.int .u64 (p.C j)] := by unfold rowA; rw [List.range_succ, List.map_append]; rfl
theorem rowB_succ (p : Pv) (j : Nat) : rowB p (j + 1) = rowB p j ++ [.int .i64 (p.S j)] := by unfold rowB; rw [List.range_succ, List.map_append]; rfl
theorem rowC_succ (p : Pv) (j : Nat) : rowC p (j + 1) = rowC p j ++ [.int .i64 (p.op j), .int .i64 (p.arg j)] := rfl
theorem rowC_len (p : Pv) : ∀ j, (rowC p j).length = j * 2
 | 0 => rfl
 | j + 1 => by rw [rowC_succ, List.length_append, rowC_len p j]; simp; omega
theorem rowC_at (p : Pv) : ∀ n j, j < n → (rowC p n)[j * 2]? = some (.int .i64 (p.op j)) ∧ (rowC p n)[j * 2 + 1]? = some (.int .i64 (p.arg j))
 | 0, j, h => by omega
 | n + 1, j, h => by
  rw [rowC_succ]
  have hl := rowC_len p n
  by_cases e : j < n
  ·have ih := rowC_at p n j e
   rw [List.getElem?_append_left (by omega), List.getElem?_append_left (by omega)]
   exact ih
  ·obtain rfl : j = n := by omega
   rw [List.getElem?_append_right (by omega), List.getElem?_append_right (by omega), hl]
   have : j * 2 + 1 - j * 2 = 1 := by omega
   rw [this]
   simp
theorem own_cells {w : World} {base n s : Nat} {t : TypeId} {v : Value} {xs : List Value} (h : w.ownsRow base t s v n xs) (hn : 0 < n) (hx : xs.length = n * s) : ∃ b cap, v = .slice (some ⟨b, 0, none⟩) n cap ∧ n ≤ cap ∧ base ≤ b ∧ (∃ cs : Array Value, w.heap[b]? = some (.cells cs t (0, 0))) ∧ ∀ j x, xs[j]? = some x → w.cell? ⟨b, j, none⟩ = some x := by
 rcases h.2 with ⟨_, h0⟩ | ⟨g, cap, cur, h1, hb, hc, hnc, _, hsz, htk⟩
 ·omega
 ·refine ⟨g, cap, h1, hnc, hb, ⟨_, hc⟩, fun j x hj => ?_⟩
  have hjl := (List.getElem?_eq_some_iff.1 hj).1
  rw [← htk, List.getElem?_take, if_pos (by omega)] at hj
  rw [block_cell hc j]
  simpa using hj
theorem own_far {w w' : World} {B n sz : Nat} {t t' : TypeId} {v : Value} {xs : List Value} (h : w.ownsRow B t sz v n xs) {q : Nat} {cs : Array Value} {z : Nat × Nat} (hq : w.heap[q]? = some (.cells cs t' z)) (ht : t' ≠ t) (hg : w.grownBy w' (some q)) : w'.ownsRow B t sz v n xs := by
 refine World.ownsRow.kept h hg ?_
 rcases h.2 with ⟨rfl, _⟩ | ⟨g, cap, cur, rfl, _, hc, _⟩
 ·exact .inl rfl
 ·right
  intro e
  simp [Value.ownBlock] at e
  subst e
  rw [hq] at hc
  cases hc
  exact ht rfl
/-- The rows of a lent program are its own. -/
structure Lo (B : Nat) (g' : Pg) (p : Pv) (w : World) : Prop where
 c : w.ownsRow B 28 1 (.slice g'.ca (p.nc + 1) g'.cc) (p.nc + 1) (rowA p p.nc ++ [.int .u64 71])
 s : w.ownsRow B 3 1 (.slice g'.sa (p.ns + 1) g'.sc) (p.ns + 1) (rowB p p.ns ++ [.int .i64 72])
 i : w.ownsRow B 42 2 (.slice g'.ia (p.n + 1) g'.ic) (p.n + 1) (rowC p p.n ++ [.int .i64 73, .int .i64 74])
theorem Lo.far {B : Nat} {g' : Pg} {p : Pv} {w w' : World} {q : Nat} {cs : Array Value} (h : Lo B g' p w) (hq : w.heap[q]? = some (.cells cs 27 (0, 0))) (hg : w.grownBy w' (some q)) : Lo B g' p w' :=
 ⟨own_far h.c hq (by decide) hg, own_far h.s hq (by decide) hg, own_far h.i hq (by decide) hg⟩
/-- The lent program, all laid. -/
structure Lf (W : World) (g : Pg) (p : Pv) (rb cb : Nat) (g' : Pg) (x0 x1 x8 : Value) (w : World) : Prop where
 prg : w.heap[W.heap.size]? = some (.cells (g.cs p).toArray 27 (0, 0))
 res : w.heap[rb]? = some (.cells #[.slice none 0 0, .slice none 0 0, .int .i64 0, .int .i64 0, .int .i64 0, .int .i64 0, .int .i64 0, .int .i64 0, .slice none 0 0] 27 (0, 0))
 box : w.heap[cb]? = some (.cells #[x0, x1, .int .i64 (p.en 0), .int .i64 (p.en 1), .int .i64 (p.en 2), .int .i64 (p.en 3), .int .i64 (p.en 4), .int .i64 (p.en 5), x8] 27 (0, 0))
 ok : g'.Ok p w.heap.size w
 sp : Sp g' p w.heap.size w
 bel : Below W.heap.size W w
 lc : W.heap.size ≤ cb
 lr : W.heap.size ≤ rb
 np : cb ≠ W.heap.size
 nr : cb ≠ rb
 n1 : g'.cb ≠ cb ∧ g'.cb ≠ rb
 n2 : g'.sb ≠ cb ∧ g'.sb ≠ rb
 n3 : g'.ib ≠ cb ∧ g'.ib ≠ rb
 lo : Lo W.heap.size g' p w
theorem ok_far {g : Pg} {p : Pv} {w w' : World} {q : Nat} (h : g.Ok p w.heap.size w) (hs : Sp g p w.heap.size w) (n1 : g.cb ≠ q) (n2 : g.sb ≠ q) (n3 : g.ib ≠ q) (hg : w.grownBy w' (some q)) : g.Ok p w'.heap.size w' ∧ Sp g p w'.heap.size w' := by
 have K : ∀ {b o : Nat} {x : Value}, b ≠ q → b < w.heap.size → w.cell? ⟨b, o, none⟩ = some x → w'.cell? ⟨b, o, none⟩ = some x := fun {b o x} hne hl e => by
  have := hg.block b hl (by simpa using hne)
  simp only [World.cell?, this] at e ⊢
  exact e
 refine ⟨⟨fun e => ⟨(h.hc e).1, Nat.lt_of_lt_of_le (h.hc e).2 hg.size⟩, fun e => ⟨(h.hs e).1, Nat.lt_of_lt_of_le (h.hs e).2 hg.size⟩, fun e => ⟨(h.hi e).1, Nat.lt_of_lt_of_le (h.hi e).2 hg.size⟩, fun j hj => K n1 hs.cl (h.vc j hj), fun j hj => K n2 hs.sl (h.vs j hj), fun j hj => K n3 hs.il (h.vo j hj), fun j hj => K n3 hs.il (h.va j hj), h.lc, h.ls, h.li⟩, ?_⟩
 exact ⟨hs.ca, Nat.lt_of_lt_of_le hs.cl hg.size, hs.cc, K n1 hs.cl hs.c, hs.sa, Nat.lt_of_lt_of_le hs.sl hg.size, hs.sc, K n2 hs.sl hs.s, hs.ia, Nat.lt_of_lt_of_le hs.il hg.size, hs.ic, K n3 hs.il hs.i0, K n3 hs.il hs.i1⟩
section
variable {W : World} {g g' : Pg} {p : Pv} {rb cb : Nat} {x0 x1 x8 : Value} {w : World}
theorem Lf.set0 (h : Lf W g p rb cb g' x0 x1 x8 w) (x : Value) : Lf W g p rb cb g' x x1 x8 (w.setCell ⟨cb, 0, none⟩ x) := by
 have G := grown_set w cb 0 x
 have s1 := heap_setCell_same w cb 0 _ _ x h.box
 have hk := ok_far h.ok h.sp h.n1.1 h.n2.1 h.n3.1 G
 exact ⟨(G.block _ (block_lt h.prg) (by simpa using fun e => h.np e.symm)).trans h.prg, (G.block _ (block_lt h.res) (by simpa using fun e => h.nr e.symm)).trans h.res, by simpa using s1, hk.1, hk.2, h.bel.trans (below_of_grown G h.lc h.bel.size), h.lc, h.lr, h.np, h.nr, h.n1, h.n2, h.n3, h.lo.far h.box G⟩
theorem Lf.set1 (h : Lf W g p rb cb g' x0 x1 x8 w) (x : Value) : Lf W g p rb cb g' x0 x x8 (w.setCell ⟨cb, 1, none⟩ x) := by
 have G := grown_set w cb 1 x
 have s1 := heap_setCell_same w cb 1 _ _ x h.box
 have hk := ok_far h.ok h.sp h.n1.1 h.n2.1 h.n3.1 G
 exact ⟨(G.block _ (block_lt h.prg) (by simpa using fun e => h.np e.symm)).trans h.prg, (G.block _ (block_lt h.res) (by simpa using fun e => h.nr e.symm)).trans h.res, by simpa using s1, hk.1, hk.2, h.bel.trans (below_of_grown G h.lc h.bel.size), h.lc, h.lr, h.np, h.nr, h.n1, h.n2, h.n3, h.lo.far h.box G⟩
theorem Lf.set8 (h : Lf W g p rb cb g' x0 x1 x8 w) (x : Value) : Lf W g p rb cb g' x0 x1 x (w.setCell ⟨cb, 8, none⟩ x) := by
 have G := grown_set w cb 8 x
 have s1 := heap_setCell_same w cb 8 _ _ x h.box
 have hk := ok_far h.ok h.sp h.n1.1 h.n2.1 h.n3.1 G
 exact ⟨(G.block _ (block_lt h.prg) (by simpa using fun e => h.np e.symm)).trans h.prg, (G.block _ (block_lt h.res) (by simpa using fun e => h.nr e.symm)).trans h.res, by simpa using s1, hk.1, hk.2, h.bel.trans (below_of_grown G h.lc h.bel.size), h.lc, h.lr, h.np, h.nr, h.n1, h.n2, h.n3, h.lo.far h.box G⟩
theorem Lf.fin (h : Lf W g p rb cb g' x0 x1 x8 w) (v0 v1 v2 v3 v4 v5 v6 v7 v8 : Value) : g'.Ok p (set9 w rb v0 v1 v2 v3 v4 v5 v6 v7 v8).heap.size (set9 w rb v0 v1 v2 v3 v4 v5 v6 v7 v8) ∧ Sp g' p (set9 w rb v0 v1 v2 v3 v4 v5 v6 v7 v8).heap.size (set9 w rb v0 v1 v2 v3 v4 v5 v6 v7 v8) ∧ Below W.heap.size W (set9 w rb v0 v1 v2 v3 v4 v5 v6 v7 v8) ∧ Lo W.heap.size g' p (set9 w rb v0 v1 v2 v3 v4 v5 v6 v7 v8) := by
 have G := set9_grown w rb v0 v1 v2 v3 v4 v5 v6 v7 v8
 have hk := ok_far h.ok h.sp h.n1.2 h.n2.2 h.n3.2 G
 exact ⟨hk.1, hk.2, h.bel.trans (below_of_grown G h.lr h.bel.size), h.lo.far h.res G⟩
end
theorem Ld.whole {W : World} {g : Pg} {p : Pv} {rb cb : Nat} {va vb vc : Value} {w : World} (h : Ld W g p rb cb va vb vc (p.nc + 1) (p.ns + 1) (p.n + 1) (rowA p p.nc ++ [.int .u64 71]) (rowB p p.ns ++ [.int .i64 72]) (rowC p p.n ++ [.int .i64 73, .int .i64 74]) w) (lr : W.heap.size ≤ rb) (l1 : p.nc ≤ 140737488355328) (l2 : p.ns ≤ 140737488355328) (l3 : p.n ≤ 140737488355328) :
  ∃ g' : Pg, va = .slice g'.ca (p.nc + 1) g'.cc ∧ vb = .slice g'.sa (p.ns + 1) g'.sc ∧ vc = .slice g'.ia (p.n + 1) g'.ic ∧ Lf W g p rb cb g' va vb vc w := by
 obtain ⟨b1, c1, e1, k1, _, ⟨s1, t1⟩, v1⟩ := own_cells h.qa (by omega) (by simp [rowA])
 obtain ⟨b2, c2, e2, k2, _, ⟨s2, t2⟩, v2⟩ := own_cells h.qb (by omega) (by simp [rowB])
 obtain ⟨b3, c3, e3, k3, _, ⟨s3, t3⟩, v3⟩ := own_cells h.qc (by omega) (by rw [List.length_append, rowC_len]; simp; omega)
 have hl := rowC_len p p.n
 have ne : ∀ {b : Nat} {cs cs' : Array Value} {t : TypeId} {q : Nat}, t ≠ 27 → w.heap[b]? = some (.cells cs t (0, 0)) → w.heap[q]? = some (.cells cs' 27 (0, 0)) → b ≠ q := fun hne x y e => by
  rw [e, y] at x
  cases x
  exact hne rfl
 refine ⟨⟨some ⟨b1, 0, none⟩, some ⟨b2, 0, none⟩, some ⟨b3, 0, none⟩, c1, c2, c3, b1, 0, b2, 0, b3, 0⟩, e1, e2, e3, ⟨h.prg, h.res, h.box, ⟨fun _ => ⟨rfl, block_lt t1⟩, fun _ => ⟨rfl, block_lt t2⟩, fun _ => ⟨rfl, block_lt t3⟩, fun j hj => ?_, fun j hj => ?_, fun j hj => ?_, fun j hj => ?_, l1, l2, l3⟩, ⟨rfl, block_lt t1, k1, ?_, rfl, block_lt t2, k2, ?_, rfl, block_lt t3, k3, ?_, ?_⟩, h.bel, h.lc, lr, h.np, h.nr, ⟨ne (by decide) t1 h.box, ne (by decide) t1 h.res⟩, ⟨ne (by decide) t2 h.box, ne (by decide) t2 h.res⟩, ⟨ne (by decide) t3 h.box, ne (by decide) t3 h.res⟩, ⟨by have := h.qa; rw [e1] at this; exact this, by have := h.qb; rw [e2] at this; exact this, by have := h.qc; rw [e3] at this; exact this⟩⟩⟩
 ·have := v1 j (.int .u64 (p.C j)) (by rw [List.getElem?_append_left (by simp [rowA, hj])]; simp [rowA, hj])
  simpa using this
 ·have := v2 j (.int .i64 (p.S j)) (by rw [List.getElem?_append_left (by simp [rowB, hj])]; simp [rowB, hj])
  simpa using this
 ·have := v3 (j * 2) (.int .i64 (p.op j)) (by rw [List.getElem?_append_left (by omega)]; exact (rowC_at p p.n j hj).1)
  simpa using this
 ·have := v3 (j * 2 + 1) (.int .i64 (p.arg j)) (by rw [List.getElem?_append_left (by omega)]; exact (rowC_at p p.n j hj).2)
  simpa using this
 ·have := v1 p.nc (.int .u64 71) (by rw [List.getElem?_append_right (by simp [rowA])]; simp [rowA])
  simpa using this
 ·have := v2 p.ns (.int .i64 72) (by rw [List.getElem?_append_right (by simp [rowB])]; simp [rowB])
  simpa using this
 ·have := v3 (p.n * 2) (.int .i64 73) (by rw [List.getElem?_append_right (by omega), hl]; simp)
  simpa using this
 ·have := v3 (p.n * 2 + 1) (.int .i64 74) (by rw [List.getElem?_append_right (by omega), hl]; simp)
  simpa using this
end Go.Proofs.YtggpaljilpbmhaaGreatDoor
