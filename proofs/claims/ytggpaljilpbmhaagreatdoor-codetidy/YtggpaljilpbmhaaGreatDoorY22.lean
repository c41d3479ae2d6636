import Derived.Test.YtggpaljilpbmhaaGreatDoorY21
import Derived.Test.YtggpaljilpbmhaaGreatDoorY16
namespace Go.Proofs.YtggpaljilpbmhaaGreatDoor
open Go.RowKit

/-- A program of new memory. -/
structure Po (B : Nat) (g : Pg) (p : Pv) (w : World) : Prop where
 c : w.ownsRow B 28 1 (.slice g.ca p.nc g.cc) p.nc (nums .u64 p.C p.nc)
 s : w.ownsRow B 3 1 (.slice g.sa p.ns g.sc) p.ns (nums .i64 p.S p.ns)
 i : Irow w B (.slice g.ia p.n g.ic) p.n p.op p.arg
 ok : g.Ok p w.heap.size w
theorem own_low {w : World} {B B' n sz : Nat} {t : TypeId} {v : Value} {xs : List Value} (h : w.ownsRow B' t sz v n xs) (hb : B ≤ B') : w.ownsRow B t sz v n xs := by
 refine ⟨h.1, ?_⟩
 rcases h.2 with q | ⟨g, cap, cur, q1, q2, q3⟩
 ·exact .inl q
 ·exact .inr ⟨g, cap, cur, q1, by omega, q3⟩
def blkOfA (a : Option Addr) : Nat := match a with
 | some x => x.block
 | none => 0
/-- A program out of its rows. -/
theorem po_mk {B : Nat} {p : Pv} {w : World} {vc vs vi : Value} (hc : w.ownsRow B 28 1 vc p.nc (nums .u64 p.C p.nc)) (hs : w.ownsRow B 3 1 vs p.ns (nums .i64 p.S p.ns)) (hi : Irow w B vi p.n p.op p.arg) (h1 : p.nc ≤ 256) (h2 : p.ns ≤ 128) (h3 : p.n ≤ 1024) :
  ∃ g : Pg, vc = .slice g.ca p.nc g.cc ∧ vs = .slice g.sa p.ns g.sc ∧ vi = .slice g.ia p.n g.ic ∧ Po B g p w := by
 obtain ⟨ca, cc, rfl, kc⟩ : ∃ ca cc, vc = .slice ca p.nc cc ∧ (0 < p.nc → ca = some ⟨blkOfA ca, 0, none⟩ ∧ blkOfA ca < w.heap.size) ∧ ∀ j, j < p.nc → w.cell? ⟨blkOfA ca, 0 + j, none⟩ = some (.int .u64 (p.C j)) := by
  rcases hc.2 with ⟨rfl, h0⟩ | ⟨g, cap, cur, rfl, _, hq, _⟩
  ·rw [h0]
   exact ⟨none, 0, rfl, fun h => by omega, fun j hj => by omega⟩
  ·refine ⟨_, cap, rfl, fun _ => ⟨rfl, block_lt hq⟩, fun j hj => ?_⟩
   have := hc.cellAt j (by omega)
   rw [Nat.zero_add]
   refine this.trans ?_
   simp [nums, hj]
 obtain ⟨sa, sc, rfl, ks⟩ : ∃ ca cc, vs = .slice ca p.ns cc ∧ (0 < p.ns → ca = some ⟨blkOfA ca, 0, none⟩ ∧ blkOfA ca < w.heap.size) ∧ ∀ j, j < p.ns → w.cell? ⟨blkOfA ca, 0 + j, none⟩ = some (.int .i64 (p.S j)) := by
  rcases hs.2 with ⟨rfl, h0⟩ | ⟨g, cap, cur, rfl, _, hq, _⟩
  ·rw [h0]
   exact ⟨none, 0, rfl, fun h => by omega, fun j hj => by omega⟩
  ·refine ⟨_, cap, rfl, fun _ => ⟨rfl, block_lt hq⟩, fun j hj => ?_⟩
   have := hs.cellAt j (by omega)
   rw [Nat.zero_add]
   refine this.trans ?_
   simp [nums, hj]
 obtain ⟨ia, ic, rfl, _, ki⟩ := irow_val hi
 refine ⟨⟨ca, sa, ia, cc, sc, ic, blkOfA ca, 0, blkOfA sa, 0, blkOfA ia, 0⟩, rfl, rfl, rfl, hc, hs, hi, kc.1, ks.1, fun h => ?_, kc.2, ks.2, fun j hj => ?_, fun j hj => ?_, by omega, by omega, by omega⟩
 ·obtain ⟨g, rfl, _, h2, _⟩ := ki h
  exact ⟨rfl, h2⟩
 ·obtain ⟨g, rfl, _, _, h2⟩ := ki (by omega)
  rw [Nat.zero_add]
  exact (h2 j hj).1
 ·obtain ⟨g, rfl, _, _, h2⟩ := ki (by omega)
  rw [Nat.zero_add]
  exact (h2 j hj).2.1
theorem own_keep {w w' : World} {B n sz : Nat} {t : TypeId} {v : Value} {xs : List Value} (h : w.ownsRow B t sz v n xs) (hb : Below w.heap.size w w') : w'.ownsRow B t sz v n xs :=
 World.ownsRow.kept (row := none) h ⟨hb.os, hb.tape, hb.output, hb.size, fun k hk _ => hb.block k hk⟩ (by cases hv : v.ownBlock <;> simp)
theorem own_offT {w w' : World} {B n sz : Nat} {t t' : TypeId} {v : Value} {xs : List Value} (h : w.ownsRow B t sz v n xs) {q : Nat} {cs : Array Value} {z : Nat × Nat} (hq : w.heap[q]? = some (.cells cs t' z)) (ht : t' ≠ t) (hg : w.grownBy w' (some q)) : w'.ownsRow B t sz v n xs := by
 refine World.ownsRow.kept h hg ?_
 rcases h.2 with ⟨rfl, _⟩ | ⟨g, cap, cur, rfl, _, hc, _⟩
 ·exact .inl rfl
 ·right
  intro e
  simp [Value.ownBlock] at e
  subst e
  rw [hc] at hq
  cases hq
  exact ht rfl
/-- A program that is stored whole: CwB's set9. -/
theorem set9_blk {w : World} {q : Nat} {cs : Array Value} {t : TypeId} {z : Nat × Nat} (h : w.heap[q]? = some (.cells cs t z)) (hc : cs.size = 9) (v0 v1 v2 v3 v4 v5 v6 v7 v8 : Value) : (set9 w q v0 v1 v2 v3 v4 v5 v6 v7 v8).heap[q]? = some (.cells #[v0, v1, v2, v3, v4, v5, v6, v7, v8] t z) ∧ w.grownBy (set9 w q v0 v1 v2 v3 v4 v5 v6 v7 v8) (some q) := by
 constructor
 ·obtain ⟨l⟩ := cs
  match l, hc with
  | [_, _, _, _, _, _, _, _, _], _ => simp [set9, World.setCell, Array.getElem?_modify, h]
 ·unfold set9
  exact grown_tr (grown_tr (grown_tr (grown_tr (grown_tr (grown_tr (grown_tr (grown_tr (grown_setT _ q 0 _) (grown_setT _ q 1 _)) (grown_setT _ q 2 _)) (grown_setT _ q 3 _)) (grown_setT _ q 4 _)) (grown_setT _ q 5 _)) (grown_setT _ q 6 _)) (grown_setT _ q 7 _)) (grown_setT _ q 8 _)
theorem fin_po {W w7 wf : World} {g : Pg} {p : Pv} {K : Nat → Bool} {mb m cp nca nsa : Nat} {ao vca vsa : Option Addr} (hm : cnt K p.n = m) (hw : Wf p) (hc : w7.ownsRow W.heap.size 28 1 (.slice vca p.nc nca) p.nc (nums .u64 p.C p.nc)) (hs : w7.ownsRow W.heap.size 3 1 (.slice vsa p.ns nsa) p.ns (nums .i64 p.S p.ns)) (hf : Fi W g p K 6 p.n mb (.slice ao m cp) m (fun x => p.op (sel K p.n x)) (cutF p K).arg w7)
  (hwf : set9 w7 (W.heap.size + 1) (.slice vca p.nc nca) (.slice vsa p.ns nsa) (.int .i64 ((cutF p K).en 0)) (.int .i64 ((cutF p K).en 1)) (.int .i64 ((cutF p K).en 2)) (.int .i64 ((cutF p K).en 3)) (.int .i64 ((cutF p K).en 4)) (.int .i64 ((cutF p K).en 5)) (.slice ao m cp) = wf) :
  wf.heap[W.heap.size + 1]? = some (.cells #[.slice vca p.nc nca, .slice vsa p.ns nsa, .int .i64 ((cutF p K).en 0), .int .i64 ((cutF p K).en 1), .int .i64 ((cutF p K).en 2), .int .i64 ((cutF p K).en 3), .int .i64 ((cutF p K).en 4), .int .i64 ((cutF p K).en 5), .slice ao m cp] 27 (0, 0)) ∧ ∃ g' : Pg, g'.cs (cutF p K) = [.slice vca p.nc nca, .slice vsa p.ns nsa, .int .i64 ((cutF p K).en 0), .int .i64 ((cutF p K).en 1), .int .i64 ((cutF p K).en 2), .int .i64 ((cutF p K).en 3), .int .i64 ((cutF p K).en 4), .int .i64 ((cutF p K).en 5), .slice ao m cp] ∧ Po W.heap.size g' (cutF p K) wf ∧ Below W.heap.size W wf := by
 subst hm
 obtain ⟨b1, b2⟩ := set9_blk hf.rb rfl (.slice vca p.nc nca) (.slice vsa p.ns nsa) (.int .i64 ((cutF p K).en 0)) (.int .i64 ((cutF p K).en 1)) (.int .i64 ((cutF p K).en 2)) (.int .i64 ((cutF p K).en 3)) (.int .i64 ((cutF p K).en 4)) (.int .i64 ((cutF p K).en 5)) (.slice ao (cnt K p.n) cp)
 rw [hwf] at b1 b2
 refine ⟨b1, ?_⟩
 have hb : Below W.heap.size W wf := hf.bel.trans ((Below.refl _ w7).grown b2 hf.bel.size (fun x hx => by cases hx; omega))
 obtain ⟨g', e1, e2, e3, e4⟩ := po_mk (B := W.heap.size) (p := cutF p K) (w := wf) (own_offT hc hf.rb (by decide) b2) (own_offT hs hf.rb (by decide) b2) (own_offT hf.ow hf.rb (by decide) b2) hw.sz.1 hw.sz.2.1 (Nat.le_trans (cnt_le K p.n) hw.sz.2.2)
 refine ⟨g', ?_, e4, hb⟩
 show [_, _, _, _, _, _, _, _, _] = _
 rw [← e1, ← e2, ← e3]
theorem fi_born {W W2 w0 : World} {g : Pg} {p : Pv} {K : Nat → Bool} (h : g.Ok p W.heap.size W) (hT : Tab W) (hW : (W.alloc (.cells (g.cs p).toArray 27)).alloc (.cells zP 27) = W2) (ho : w0.ownsRow W2.heap.size 3 1 (.slice (some ⟨W2.heap.size, 0, none⟩) p.n p.n) p.n (madeCells #[.int .i64 0] (p.n * 1)).toList) (hg : W2.grownBy w0 none) (o a : Nat → Int) : Fi W g p K 0 0 W2.heap.size (.slice none 0 0) 0 o a w0 := by
 have e1 : (W.alloc (.cells (g.cs p).toArray 27)).heap.size = W.heap.size + 1 := by simp
 have B2 : Below W.heap.size W W2 := by rw [← hW]; exact (below_alloc1 W _).alloc (by simp) _
 have s2 : W2.heap.size = W.heap.size + 2 := by rw [← hW]; simp
 have p2 : W2.heap[W.heap.size]? = some (.cells (g.cs p).toArray 27 (0, 0)) := by
  rw [← hW]
  exact ((below_alloc1 _ _).block _ (by rw [e1]; omega)).trans (alloc_atK _ _)
 have r2 : W2.heap[W.heap.size + 1]? = some (.cells zP 27 (0, 0)) := by
  rw [← hW, ← e1]
  exact alloc_atK _ _
 have b0 : Below W2.heap.size W2 w0 := ⟨hg.os, hg.tape, hg.output, hg.size, fun k hk => hg.block k hk (by simp)⟩
 have bel := B2.trans (b0.mono B2.size)
 refine ⟨?_, (b0.block _ (block_lt r2)).trans r2, ?_, by omega, World.ownsRow_nil _ _ _ _, h.kept bel (Nat.le_refl _), hT.below bel hT.z, bel, hT.z⟩
 ·rw [pE_zero]
  exact (b0.block _ (block_lt p2)).trans p2
 ·rcases ho.2 with ⟨e, _⟩ | ⟨g', cap, cur, e, _, hq, _, _, hsz, _⟩
  ·cases e
  ·cases e
   exact ⟨cur, hq, by omega, fun i hi => by omega⟩
set_option maxRecDepth 10000 in
set_option maxHeartbeats 12800000 in
theorem filtC {W : World} {g : Pg} {p : Pv} (h : g.Ok p W.heap.size W) (hT : Tab W) (hw : Wf p) (F : Nat) (cap : Value) (K : Nat → Bool) (hce : ∀ (a : Value) (w : World), (callFunc F #[a, cap]).run Tryz.prog w = .ok (.enter F #[a, cap]) w)
  (hf : ∀ (i : Nat) (w : World), i < p.n → Below W.heap.size W w → Calls Tryz.prog F #[.int .i64 (i : Nat), cap] w fun e w' => e = .returned (.bool (K i)) ∧ Below w.heap.size w w') :
  Calls Tryz.prog 54 #[.agg (g.cs p).toArray, .func (.func F) #[] #[cap]] W fun e w' => ∃ g', e = .returned (.agg (g'.cs (cutF p K)).toArray) ∧ Hid (Po W.heap.size g' (cutF p K) w' ∧ Below W.heap.size W w') := by
 obtain ⟨i0, hi, hz0, hz1, hz2⟩ := info_parts Tryz.infoI
 obtain ⟨i1, hi', hz0', hz1', hz2'⟩ := info_parts Tryz.infoIn
 have HZN := hide (And.intro hi' (And.intro hz0' (And.intro hz1' hz2')))
 clear hi' hz0' hz1' hz2'
 obtain ⟨W2, hW2⟩ : ∃ W2, (W.alloc (.cells (g.cs p).toArray 27)).alloc (.cells zP 27) = W2 := ⟨_, rfl⟩
 have HBN := hide (fun w0 => fi_born (w0 := w0) (K := K) h hT hW2)
 have hn := hw.sz.2.2
 have HWF := hide hw
 have HCF := hide hf
 have e1 : (W.alloc (.cells (g.cs p).toArray 27)).heap.size = W.heap.size + 1 := by simp
 have p2 : W2.heap[W.heap.size]? = some (.cells (g.cs p).toArray 27 (0, 0)) := by
  rw [← hW2]
  exact ((below_alloc1 _ _).block _ (by rw [e1]; omega)).trans (alloc_atK _ _)
 have y8 := block_cell p2 8
 have yl := block_lt p2
 simp [Pg.cs] at y8
 have HP2 := hide p2
 have HW2 := hide hW2
 have HCS : Hid (∀ q : Pv, g.cs q = [.slice g.ca q.nc g.cc, .slice g.sa q.ns g.sc, .int .i64 (q.en 0), .int .i64 (q.en 1), .int .i64 (q.en 2), .int .i64 (q.en 3), .int .i64 (q.en 4), .int .i64 (q.en 5), .slice g.ia q.n g.ic]) := fun _ => rfl
 rw [HCS.out p] at HW2 ⊢
 have HZ : Hid (zP = #[.slice none 0 0, .slice none 0 0, .int .i64 0, .int .i64 0, .int .i64 0, .int .i64 0, .int .i64 0, .int .i64 0, .slice none 0 0]) := rfl
 rw [HZ.out] at HW2
 clear h hT hw hf hW2 p2 e1
 go_enter Tryz.func54, Tryz.ntmps54
 go_upto_region 1 with fail
 rw [HW2.out]
 clear HW2
 go_upto_region 3 with (at_make; refine wpList_make_full _ rfl _ _ 23 rfl W2.heap.size 3 i0 _ 1 Tryz.underlying23 hi hz0 hz1 .i64 .i64 _ _ p.n rfl rfl rfl rfl (by rw [hz2]; omega) (by unfold maxLen; omega) (Nat.le_refl _) ?_; intro w0 hown0 hgrow0)
 have HF0 := hide (HBN.out w0 hown0 hgrow0 (fun x => p.op (sel K p.n x)) (fun x => p.arg (sel K p.n x)))
 clear hown0 hgrow0 HBN y8 yl HP2
 generalize W2.heap.size = mb at *
 obtain ⟨y0, y1, y8, yl⟩ := HF0.out.cells
 obtain ⟨ca, sa, ia, cc, sc, ic, cb, co, sb, so, ib, io⟩ := g
 simp only at *
 go_upto_block 0 with fail
 go_cut [5, 7] from 19 (fun v _ V => Hid (Fi W ⟨ca, sa, ia, cc, sc, ic, cb, co, sb, so, ib, io⟩ p K 0 p.n mb v (cnt K p.n) (fun x => p.op (sel K p.n x)) (fun x => p.arg (sel K p.n x)) V))
 case first =>
  clear y0 y1 y8 yl
  go_wp2
  go_loopw [5, 19] (fun v i wr => ∃ j : Nat, j ≤ p.n ∧ i = .int .i64 (j : Nat) ∧ Hid (Fi W ⟨ca, sa, ia, cc, sc, ic, cb, co, sb, so, ib, io⟩ p K 0 j mb v (cnt K j) (fun x => p.op (sel K p.n x)) (fun x => p.arg (sel K p.n x)) wr)) (fun _ i _ => p.n - (intOf i).toNat)
  case atStart => exact ⟨0, by omega, rfl, HF0.out⟩
  case round =>
   obtain ⟨j, hj, rfl, HJ⟩ := hrel
   clear HF0
   by_cases hlt : j < p.n
   ·obtain ⟨ao, cp, hu5, hcp, _⟩ := irow_val HJ.out.ow
    subst hu5
    obtain ⟨ml, _, mc⟩ := HJ.out.mcell
    obtain ⟨⟨u, mu⟩, mf⟩ := mc j hlt
    have hct : cnt K j ≤ 1024 := Nat.le_trans (cnt_le K j) (by omega)
    obtain ⟨w4, hw4⟩ : ∃ w4, wr.setCell ⟨mb, j, none⟩ (.int .i64 ((cnt K j : Nat) : Int)) = w4 := ⟨_, rfl⟩
    have H4 : Hid (Fi W ⟨ca, sa, ia, cc, sc, ic, cb, co, sb, so, ib, io⟩ p K 0 (j + 1) mb (.slice ao (cnt K j) cp) (cnt K j) (fun x => p.op (sel K p.n x)) (fun x => p.arg (sel K p.n x)) w4) := by rw [← hw4]; exact HJ.out.move hlt
    have HW4 := hide hw4
    have HCL := hide (HCF.out j w4 hlt H4.out.bel)
    clear HJ mc hw4
    obtain ⟨kj, hkj⟩ : ∃ kj, K j = kj := ⟨_, rfl⟩
    rw [hkj] at HCL
    have HKJ := hide hkj
    clear hkj
    go_upto_region 7 with fail
    rw [HW4.out]
    clear HW4 mu mf ml
    go_wp2_with fail
    refine HCL.out.mono ?_
    rintro e w5 ⟨rfl, hb5⟩
    have H5 := hide (H4.out.next hb5)
    clear hb5 HCL H4
    cases kj with
    | false =>
     have H6 : Hid (Fi W ⟨ca, sa, ia, cc, sc, ic, cb, co, sb, so, ib, io⟩ p K 0 (j + 1) mb (.slice ao (cnt K j) cp) (cnt K (j + 1)) (fun x => p.op (sel K p.n x)) (fun x => p.arg (sel K p.n x)) w5) := by
      have e : cnt K (j + 1) = cnt K j := by show cnt K j + (if K j then 1 else 0) = _; rw [HKJ.out]; rfl
      rw [e]
      exact H5.out
     clear H5
     go_wp2
     go_roundw
     case rel => exact ⟨j + 1, by omega, by go_num, H6.out⟩
     case measure => simp [intOf]; omega
    | true =>
     obtain ⟨_, _, z8, zl⟩ := H5.out.cells
     simp only at z8
     obtain ⟨hia, hil⟩ := H5.out.ok.hi (by show 0 < p.n; omega)
     have hia : ia = some ⟨ib, io, none⟩ := hia
     have hil : ib < W.heap.size := hil
     have hv : w5.cell? ⟨ib, io + j * 2, none⟩ = some (.int .i64 (p.op j)) := H5.out.ok.vo j hlt
     have hv2 : w5.cell? ⟨ib, io + j * 2 + 1, none⟩ = some (.int .i64 (p.arg j)) := H5.out.ok.va j hlt
     have hl2 : ib < w5.heap.size := Nat.lt_of_lt_of_le hil H5.out.bel.size
     have HOW : Hid (∀ ob, (w5.alloc ob).ownsRow W.heap.size 42 2 (.slice ao (cnt K j) cp) (cnt K j) (nums2 (fun x => p.op (sel K p.n x)) (fun x => p.arg (sel K p.n x)) (cnt K j))) := fun ob => (H5.out.next (below_alloc1 w5 ob)).ow
     have HSZ : Hid (∀ ob, W.heap.size ≤ (w5.alloc ob).heap.size) := fun ob => by
      have := H5.out.bel.size
      simp
      omega
     have HNX : Hid (∀ v' w6 ob, w6.ownsRow W.heap.size 42 2 v' (cnt K j + 1) (nums2 (fun x => p.op (sel K p.n x)) (fun x => p.arg (sel K p.n x)) (cnt K j) ++ [.int .i64 (p.op j), .int .i64 (p.arg j)]) → (w5.alloc ob).grownBy w6 (Value.slice ao (cnt K j) cp).ownBlock → Fi W ⟨ca, sa, ia, cc, sc, ic, cb, co, sb, so, ib, io⟩ p K 0 (j + 1) mb v' (cnt K (j + 1)) (fun x => p.op (sel K p.n x)) (fun x => p.arg (sel K p.n x)) w6) := fun v' w6 ob ho hg => by
      refine (H5.out.next (below_alloc1 w5 ob)).app hg ?_
      rw [cnt_next HKJ.out]
      unfold Irow
      rw [nums2_next, sel_cnt hlt HKJ.out]
      exact ho
     clear H5
     subst hia
     generalize p.op j = oj at *
     generalize p.arg j = aj at *
     go_wp2_with (at_builtin; refine wpList_append_own _ rfl (.tmp 30) (.tmp 36) 25 rfl W.heap.size 42 i1 _ 2 16 Tryz.underlying25 HZN.out.1 HZN.out.2.1 HZN.out.2.2.1 HZN.out.2.2.2 rfl (by decide) (.slice ao (cnt K j) cp) (cnt K j) _ rfl (HOW.out _) ⟨w5.heap.size, 0, none⟩ 1 1 [.int .i64 oj, .int .i64 aj] rfl rfl (cells_newK w5 [.int .i64 oj, .int .i64 aj] 42) (by simp [Value.oneCell']) (by unfold maxLen; omega) (by omega) (HSZ.out _) ?_; intro v' w6 ho hg _)
     have H6 := hide (HNX.out _ _ _ ho hg)
     clear ho hg HNX HOW HSZ z8 zl hv hv2 hl2
     go_wp2
     go_roundw
     case rel => exact ⟨j + 1, by omega, by go_num, H6.out⟩
     case measure => simp [intOf]; omega
   ·obtain rfl : j = p.n := by omega
    go_wp2
    go_meet
    case rel => exact HJ.out
 case rest =>
 clear HF0 y0 y1 y8 yl
 have HF0 := hide hcut.out
 clear hcut
 obtain ⟨ao, cp, hu5, hcp, _⟩ := irow_val HF0.out.ow
 subst hu5
 obtain ⟨m, hm⟩ : ∃ m, cnt K p.n = m := ⟨_, rfl⟩
 have HM := hide hm
 rw [hm] at HF0 ⊢
 have hmn : m ≤ p.n := by rw [← hm]; exact cnt_le K p.n
 rw [hm] at hcp
 clear hm
 go_upto_block 2 with fail
 go_cut [8, 9] from 41 (fun _ _ V => Hid (Fi W ⟨ca, sa, ia, cc, sc, ic, cb, co, sb, so, ib, io⟩ p K 0 p.n mb (.slice ao m cp) m (fun x => p.op (sel K p.n x)) (cutF p K).arg V))
 case first =>
  go_wp2
  go_loopw [41] (fun i wr => ∃ j : Nat, j ≤ m ∧ i = .int .i64 (j : Nat) ∧ Hid (Fi W ⟨ca, sa, ia, cc, sc, ic, cb, co, sb, so, ib, io⟩ p K 0 p.n mb (.slice ao m cp) m (fun x => p.op (sel K p.n x)) (fun x => if x < j ∧ wayP (p.op (sel K p.n x)) = true then ((cnt K (p.arg (sel K p.n x)).toNat : Nat) : Int) else p.arg (sel K p.n x)) wr)) (fun i _ => m - (intOf i).toNat)
  case atStart => exact ⟨0, by omega, rfl, HF0.out.congr (fun y _ => by rw [if_neg (fun q => by omega)])⟩
  case round =>
   obtain ⟨j, hj, rfl, HJ⟩ := hrel
   clear HF0
   by_cases hlt : j < m
   ·have hjc : j < cnt K p.n := by rw [HM.out]; exact hlt
    obtain ⟨s1, s2, s3⟩ := sel_spec hjc
    obtain ⟨_, _, hq, _, hrow⟩ := irow_val HJ.out.ow
    cases hq
    obtain ⟨gb, hao, _, hgl, hce2⟩ := hrow (by omega)
    subst hao
    have hii := HWF.out.ins _ s1
    have hop := op_nat hii
    obtain ⟨o, ho⟩ : ∃ o : Nat, p.op (sel K p.n j) = o := ⟨_, hop.2.2⟩
    have ho2 : o ≤ 32 := by omega
    obtain ⟨c0, c1, c2⟩ := hce2 j hlt
    rw [if_neg (fun q => by omega)] at c1
    rw [ho] at c0
    obtain ⟨wn, hwn⟩ : ∃ wn, wr.alloc (.cells #[.int .i64 (o : Nat), .int .i64 (p.arg (sel K p.n j))] 42) = wn := ⟨_, rfl⟩
    have hbn : Below wr.heap.size wr wn := by rw [← hwn]; exact below_alloc1 _ _
    have han : wn.heap[wr.heap.size]? = some (.cells #[.int .i64 (o : Nat), .int .i64 (p.arg (sel K p.n j))] 42 (0, 0)) := by rw [← hwn]; exact alloc_atK _ _
    have HN1 := hide (HJ.out.next hbn)
    have n0 := block_cell han 0
    have n1 := block_cell han 1
    have nl := block_lt han
    simp at n0 n1
    have HWN := hide hwn
    have HIW := hide (isWayC o ho2 HN1.out.tab)
    have HS1 := hide (And.intro s1 s2)
    have HOO := hide ho
    have HIN := hide hii
    clear hwn hbn han HJ hce2 hop hii s1 s2 s3 ho hjc hrow hcp
    go_upto_region 13 with fail
    rw [HWN.out]
    clear HWN c0 c1 c2 hgl
    obtain ⟨wy, hwy⟩ : ∃ wy, wayP ((o : Nat) : Int) = wy := ⟨_, rfl⟩
    rw [hwy] at HIW
    have HWY := hide hwy
    clear hwy
    go_wp2_with fail
    refine HIW.out.mono ?_
    rintro e w5 ⟨rfl, hw5⟩
    subst hw5
    clear HIW
    cases wy with
    | false =>
     have H6 : Hid (Fi W ⟨ca, sa, ia, cc, sc, ic, cb, co, sb, so, ib, io⟩ p K 0 p.n mb (.slice (some ⟨gb, 0, none⟩) m cp) m (fun x => p.op (sel K p.n x)) (fun x => if x < j + 1 ∧ wayP (p.op (sel K p.n x)) = true then ((cnt K (p.arg (sel K p.n x)).toNat : Nat) : Int) else p.arg (sel K p.n x)) w5) := HN1.out.congr (fun y _ => by
      by_cases q : y = j
      ·subst q
       have : ¬ wayP (p.op (sel K p.n y)) = true := by rw [HOO.out, HWY.out]; decide
       rw [if_neg (fun q => this q.2), if_neg (fun q => this q.2)]
      ·by_cases q2 : y < j
       ·by_cases q3 : wayP (p.op (sel K p.n y)) = true
        ·rw [if_pos ⟨q2, q3⟩, if_pos ⟨by omega, q3⟩]
        ·rw [if_neg (fun q => q3 q.2), if_neg (fun q => q3 q.2)]
       ·rw [if_neg (fun q => q2 q.1), if_neg (fun q => by omega)])
     clear HN1 n0 n1 nl
     go_wp2
     go_roundw
     case rel => exact ⟨j + 1, by omega, by go_num, H6.out⟩
     case measure => simp [intOf]; omega
    | true =>
     have hwp : wayP (p.op (sel K p.n j)) = true := by rw [HOO.out]; exact HWY.out
     have hpl := isPl_nat (HIN.out.way hwp)
     obtain ⟨t, ht⟩ : ∃ t : Nat, p.arg (sel K p.n j) = t := ⟨_, hpl.1⟩
     have htn : t < p.n := by have := hpl.2; rw [ht] at this; simpa using this
     rw [ht] at n1
     obtain ⟨ml, mc, _⟩ := HN1.out.mcell
     have mt := mc t htn
     obtain ⟨_, _, hq, hmc, hrow⟩ := irow_val HN1.out.ow
     cases hq
     obtain ⟨_, hq, _, hgl, hce3⟩ := hrow (by omega)
     cases hq
     obtain ⟨c0, c1, c2⟩ := hce3 j hlt
     have H6 : Hid (Fi W ⟨ca, sa, ia, cc, sc, ic, cb, co, sb, so, ib, io⟩ p K 0 p.n mb (.slice (some ⟨gb, 0, none⟩) m cp) m (fun x => p.op (sel K p.n x)) (fun x => if x < j + 1 ∧ wayP (p.op (sel K p.n x)) = true then ((cnt K (p.arg (sel K p.n x)).toNat : Nat) : Int) else p.arg (sel K p.n x)) (w5.setCell ⟨gb, j * 2 + 1, none⟩ (.int .i64 ((cnt K t : Nat) : Int)))) := (HN1.out.arg hlt).congr (fun y _ => by
      by_cases q : y = j
      ·subst q
       rw [if_pos rfl, if_pos ⟨by omega, hwp⟩, ht]
       rfl
      ·rw [if_neg q]
       by_cases q2 : y < j
       ·by_cases q3 : wayP (p.op (sel K p.n y)) = true
        ·rw [if_pos ⟨q2, q3⟩, if_pos ⟨by omega, q3⟩]
        ·rw [if_neg (fun q => q3 q.2), if_neg (fun q => q3 q.2)]
       ·rw [if_neg (fun q => q2 q.1), if_neg (fun q => by omega)])
     clear HN1 mc hrow hce3 hpl hwp ht HIN HS1 c0
     generalize cnt K t = ct at *
     go_wp2
     go_roundw
     case rel => exact ⟨j + 1, by omega, by go_num, H6.out⟩
     case measure => simp [intOf]; omega
   ·obtain rfl : j = m := by omega
    go_wp2
    go_meet
    case rel => exact HJ.out.congr (fun y hy => by
     show _ = (if wayP (p.op (sel K p.n y)) = true then _ else _)
     by_cases q : wayP (p.op (sel K p.n y)) = true
     ·rw [if_pos ⟨hy, q⟩, if_pos q]
     ·rw [if_neg (fun z => q z.2), if_neg q])
 case rest =>
 clear HF0
 have HF0 := hide hcut.out
 clear hcut
 have HEN : Hid (∀ e, e < 6 → 0 ≤ p.en e → (p.en e).toNat < p.n) := fun e he h0 => by
  rcases HWF.out.en e he with q | q
  ·omega
  ·exact (isPl_nat q).2
 have y2 := block_cell HF0.out.pb 2
 have y3 := block_cell HF0.out.pb 3
 have y4 := block_cell HF0.out.pb 4
 have y5 := block_cell HF0.out.pb 5
 have y6 := block_cell HF0.out.pb 6
 have y7 := block_cell HF0.out.pb 7
 have yl := block_lt HF0.out.pb
 rw [pE_zero] at y2 y3 y4 y5 y6 y7
 simp [Pg.cs] at y2 y3 y4 y5 y6 y7
 go_upto_block 4 with fail
 go_cut [10, 11] from 61 (fun _ _ V => Hid (Fi W ⟨ca, sa, ia, cc, sc, ic, cb, co, sb, so, ib, io⟩ p K 6 p.n mb (.slice ao m cp) m (fun x => p.op (sel K p.n x)) (cutF p K).arg V))
 case first =>
  clear y2 y3 y4 y5 y6 y7 yl
  have HIX : Hid (∀ (j : Nat) (w0 : World), j < 6 → (Instr.index 24 (.agg #[.int .i64 (p.en 0), .int .i64 (p.en 1), .int .i64 (p.en 2), .int .i64 (p.en 3), .int .i64 (p.en 4), .int .i64 (p.en 5)]) (.int .i64 (j : Nat))).run Tryz.prog w0 = .ok (.int .i64 (p.en j)) w0) := hide (fun j w0 hj => by
   match j, hj with
   | 0, _ => rfl
   | 1, _ => rfl
   | 2, _ => rfl
   | 3, _ => rfl
   | 4, _ => rfl
   | 5, _ => rfl)
  go_wp2
  go_loopw [61] (fun i wr => ∃ j : Nat, j ≤ 6 ∧ i = .int .i64 (j : Nat) ∧ Hid (Fi W ⟨ca, sa, ia, cc, sc, ic, cb, co, sb, so, ib, io⟩ p K j p.n mb (.slice ao m cp) m (fun x => p.op (sel K p.n x)) (cutF p K).arg wr)) (fun i _ => 6 - (intOf i).toNat)
  case atStart => exact ⟨0, by omega, rfl, HF0.out⟩
  case round =>
   obtain ⟨j, hj, rfl, HJ⟩ := hrel
   clear HF0
   by_cases hlt : j < 6
   ·have hix := fun w0 => HIX.out j w0 hlt
    by_cases he : 0 ≤ p.en j
    ·have H6 := hide (HJ.out.ent hlt he)
     have htn := HEN.out j hlt he
     obtain ⟨ml, mc, _⟩ := HJ.out.mcell
     have mt := mc _ htn
     obtain ⟨t, ht⟩ : ∃ t : Nat, p.en j = t := ⟨(p.en j).toNat, by omega⟩
     have ht2 : (p.en j).toNat = t := by omega
     rw [ht2] at htn mt H6
     have hbx : ∃ u, wr.cell? ⟨W.heap.size, 2 + j, none⟩ = some u := by
      rw [block_cell HJ.out.pb]
      exact ⟨_, Array.getElem?_eq_getElem (by simp [Pg.cs]; omega)⟩
     obtain ⟨u, hu⟩ := hbx
     have hfz := block_free HJ.out.pb (2 + j)
     have hpl := block_lt HJ.out.pb
     rw [ht] at hix
     clear HJ mc ht ht2 he
     generalize cnt K t = ct at *
     go_wp2
     go_roundw
     case rel => exact ⟨j + 1, by omega, by go_num, H6.out⟩
     case measure => simp [intOf]; omega
    ·have H6 := hide (HJ.out.skip he)
     clear HJ
     generalize p.en j = x at *
     go_wp2
     go_roundw
     case rel => exact ⟨j + 1, by omega, by go_num, H6.out⟩
     case measure => simp [intOf]; omega
   ·obtain rfl : j = 6 := by omega
    go_wp2
    go_meet
    case rel => exact HJ.out
 case rest =>
 clear HF0 y2 y3 y4 y5 y6 y7 yl HEN
 have HF0 : Hid (Fi W ⟨ca, sa, ia, cc, sc, ic, cb, co, sb, so, ib, io⟩ p K 6 p.n mb (.slice ao m cp) m (fun x => p.op (sel K p.n x)) (cutF p K).arg wc.drew) := (hcut.out).next (Below.drew (Below.refl _ wc))
 clear hcut
 have HV : Hid (∀ w1, Fi W ⟨ca, sa, ia, cc, sc, ic, cb, co, sb, so, ib, io⟩ p K 6 p.n mb (.slice ao m cp) m (fun x => p.op (sel K p.n x)) (cutF p K).arg w1 → w1.cell? ⟨W.heap.size, 0, none⟩ = some (.slice ca p.nc cc) ∧ w1.cell? ⟨W.heap.size, 1, none⟩ = some (.slice sa p.ns sc) ∧ w1.cell? ⟨W.heap.size, 2, none⟩ = some (.int .i64 ((cutF p K).en 0)) ∧ w1.cell? ⟨W.heap.size, 3, none⟩ = some (.int .i64 ((cutF p K).en 1)) ∧ w1.cell? ⟨W.heap.size, 4, none⟩ = some (.int .i64 ((cutF p K).en 2)) ∧ w1.cell? ⟨W.heap.size, 5, none⟩ = some (.int .i64 ((cutF p K).en 3)) ∧ w1.cell? ⟨W.heap.size, 6, none⟩ = some (.int .i64 ((cutF p K).en 4)) ∧ w1.cell? ⟨W.heap.size, 7, none⟩ = some (.int .i64 ((cutF p K).en 5)) ∧ W.heap.size < w1.heap.size) := fun w1 h1 => by
  have hp := h1.pb
  rw [pE_six] at hp
  exact ⟨block_cell hp 0, block_cell hp 1, block_cell hp 2, block_cell hp 3, block_cell hp 4, block_cell hp 5, block_cell hp 6, block_cell hp 7, block_lt hp⟩
 have HC1 : Hid (∀ w1, Fi W ⟨ca, sa, ia, cc, sc, ic, cb, co, sb, so, ib, io⟩ p K 6 p.n mb (.slice ao m cp) m (fun x => p.op (sel K p.n x)) (cutF p K).arg w1 → Calls Tryz.prog 66 #[.slice ca p.nc cc] w1 fun e w' => ∃ va vp, e = .returned (.slice va p.nc vp) ∧ Hid (w'.ownsRow W.heap.size 28 1 (.slice va p.nc vp) p.nc (nums .u64 p.C p.nc) ∧ Fi W ⟨ca, sa, ia, cc, sc, ic, cb, co, sb, so, ib, io⟩ p K 6 p.n mb (.slice ao m cp) m (fun x => p.op (sel K p.n x)) (cutF p K).arg w' ∧ Below w1.heap.size w1 w')) := fun w1 h1 => by
  refine (copied64 (fun e => ⟨(h1.ok.hc e).1, Nat.lt_of_lt_of_le (h1.ok.hc e).2 h1.bel.size⟩) h1.ok.vc (by have := HWF.out.sz; omega)).mono ?_
  rintro e w' ⟨v, rfl, q⟩
  obtain ⟨va, vp, rfl⟩ := own_val q.out.1
  exact ⟨va, vp, rfl, own_low q.out.1 h1.bel.size, h1.next q.out.2, q.out.2⟩
 have HC2 : Hid (∀ w1, Fi W ⟨ca, sa, ia, cc, sc, ic, cb, co, sb, so, ib, io⟩ p K 6 p.n mb (.slice ao m cp) m (fun x => p.op (sel K p.n x)) (cutF p K).arg w1 → Calls Tryz.prog 116 #[.slice sa p.ns sc] w1 fun e w' => ∃ va vp, e = .returned (.slice va p.ns vp) ∧ Hid (w'.ownsRow W.heap.size 3 1 (.slice va p.ns vp) p.ns (nums .i64 p.S p.ns) ∧ Fi W ⟨ca, sa, ia, cc, sc, ic, cb, co, sb, so, ib, io⟩ p K 6 p.n mb (.slice ao m cp) m (fun x => p.op (sel K p.n x)) (cutF p K).arg w' ∧ Below w1.heap.size w1 w')) := fun w1 h1 => by
  refine (copiedI (fun e => ⟨(h1.ok.hs e).1, Nat.lt_of_lt_of_le (h1.ok.hs e).2 h1.bel.size⟩) h1.ok.vs (by have := HWF.out.sz; omega)).mono ?_
  rintro e w' ⟨v, rfl, q⟩
  obtain ⟨va, vp, rfl⟩ := own_val q.out.1
  exact ⟨va, vp, rfl, own_low q.out.1 h1.bel.size, h1.next q.out.2, q.out.2⟩
 have HRB : Hid (∀ w1, Fi W ⟨ca, sa, ia, cc, sc, ic, cb, co, sb, so, ib, io⟩ p K 6 p.n mb (.slice ao m cp) m (fun x => p.op (sel K p.n x)) (cutF p K).arg w1 → ∀ i, i < 9 → (∃ u, w1.cell? ⟨W.heap.size + 1, i, none⟩ = some u) ∧ w1.frozen? ⟨W.heap.size + 1, i, none⟩ = false) := fun w1 h1 i hi => by
  refine ⟨?_, block_free h1.rb i⟩
  rw [block_cell h1.rb]
  exact ⟨_, Array.getElem?_eq_getElem (by show i < 9; omega)⟩
 have HRL : Hid (∀ w1, Fi W ⟨ca, sa, ia, cc, sc, ic, cb, co, sb, so, ib, io⟩ p K 6 p.n mb (.slice ao m cp) m (fun x => p.op (sel K p.n x)) (cutF p K).arg w1 → W.heap.size + 1 < w1.heap.size) := fun w1 h1 => block_lt h1.rb
 have HFIN : Hid (∀ (w7 wf : World) (vca vsa : Option Addr) (nca nsa : Nat), w7.ownsRow W.heap.size 28 1 (.slice vca p.nc nca) p.nc (nums .u64 p.C p.nc) → w7.ownsRow W.heap.size 3 1 (.slice vsa p.ns nsa) p.ns (nums .i64 p.S p.ns) → Fi W ⟨ca, sa, ia, cc, sc, ic, cb, co, sb, so, ib, io⟩ p K 6 p.n mb (.slice ao m cp) m (fun x => p.op (sel K p.n x)) (cutF p K).arg w7 → set9 w7 (W.heap.size + 1) (.slice vca p.nc nca) (.slice vsa p.ns nsa) (.int .i64 ((cutF p K).en 0)) (.int .i64 ((cutF p K).en 1)) (.int .i64 ((cutF p K).en 2)) (.int .i64 ((cutF p K).en 3)) (.int .i64 ((cutF p K).en 4)) (.int .i64 ((cutF p K).en 5)) (.slice ao m cp) = wf → wf.heap[W.heap.size + 1]? = some (.cells #[.slice vca p.nc nca, .slice vsa p.ns nsa, .int .i64 ((cutF p K).en 0), .int .i64 ((cutF p K).en 1), .int .i64 ((cutF p K).en 2), .int .i64 ((cutF p K).en 3), .int .i64 ((cutF p K).en 4), .int .i64 ((cutF p K).en 5), .slice ao m cp] 27 (0, 0)) ∧ ∃ g' : Pg, g'.cs (cutF p K) = [.slice vca p.nc nca, .slice vsa p.ns nsa, .int .i64 ((cutF p K).en 0), .int .i64 ((cutF p K).en 1), .int .i64 ((cutF p K).en 2), .int .i64 ((cutF p K).en 3), .int .i64 ((cutF p K).en 4), .int .i64 ((cutF p K).en 5), .slice ao m cp] ∧ Po W.heap.size g' (cutF p K) wf ∧ Below W.heap.size W wf) := fun w7 wf vca vsa nca nsa q1 q2 q3 q4 => fin_po HM.out HWF.out q1 q2 q3 q4
 generalize (cutF p K).en 0 = en0 at *
 generalize (cutF p K).en 1 = en1 at *
 generalize (cutF p K).en 2 = en2 at *
 generalize (cutF p K).en 3 = en3 at *
 generalize (cutF p K).en 4 = en4 at *
 generalize (cutF p K).en 5 = en5 at *
 obtain ⟨y0, y1, y2, y3, y4, y5, y6, y7, yl⟩ := HV.out _ HF0.out
 go_upto_region 22 with fail
 go_region_with (first
  | (go_at_call 66; first
   | (refine (HC1.out _ G6.out.2.1).mono ?_; rintro e w5 ⟨vca, vcp, rfl, G5⟩; obtain ⟨x0, x1, x2, x3, x4, x5, x6, x7, xl⟩ := HV.out _ G5.out.2.1; obtain ⟨⟨a0, b0⟩, d0⟩ := HRB.out _ G5.out.2.1 0 (by decide); obtain ⟨⟨a1, b1⟩, d1⟩ := HRB.out _ G5.out.2.1 1 (by decide); obtain ⟨⟨a2, b2⟩, d2⟩ := HRB.out _ G5.out.2.1 2 (by decide); obtain ⟨⟨a3, b3⟩, d3⟩ := HRB.out _ G5.out.2.1 3 (by decide); obtain ⟨⟨a4, b4⟩, d4⟩ := HRB.out _ G5.out.2.1 4 (by decide); obtain ⟨⟨a5, b5⟩, d5⟩ := HRB.out _ G5.out.2.1 5 (by decide); obtain ⟨⟨a6, b6⟩, d6⟩ := HRB.out _ G5.out.2.1 6 (by decide); obtain ⟨⟨a7, b7⟩, d7⟩ := HRB.out _ G5.out.2.1 7 (by decide); obtain ⟨⟨a8, b8⟩, d8⟩ := HRB.out _ G5.out.2.1 8 (by decide); have dl := HRL.out _ G5.out.2.1)
   | (refine (HC1.out _ HF0.out).mono ?_; rintro e w5 ⟨vca, vcp, rfl, G5⟩; obtain ⟨x0, x1, x2, x3, x4, x5, x6, x7, xl⟩ := HV.out _ G5.out.2.1))
  | (go_at_call 116; first
   | (refine (HC2.out _ G5.out.2.1).mono ?_; rintro e w6 ⟨vsa, vsp, rfl, G6⟩; obtain ⟨z0, z1, z2, z3, z4, z5, z6, z7, zl⟩ := HV.out _ G6.out.2.1; obtain ⟨⟨a0, b0⟩, d0⟩ := HRB.out _ G6.out.2.1 0 (by decide); obtain ⟨⟨a1, b1⟩, d1⟩ := HRB.out _ G6.out.2.1 1 (by decide); obtain ⟨⟨a2, b2⟩, d2⟩ := HRB.out _ G6.out.2.1 2 (by decide); obtain ⟨⟨a3, b3⟩, d3⟩ := HRB.out _ G6.out.2.1 3 (by decide); obtain ⟨⟨a4, b4⟩, d4⟩ := HRB.out _ G6.out.2.1 4 (by decide); obtain ⟨⟨a5, b5⟩, d5⟩ := HRB.out _ G6.out.2.1 5 (by decide); obtain ⟨⟨a6, b6⟩, d6⟩ := HRB.out _ G6.out.2.1 6 (by decide); obtain ⟨⟨a7, b7⟩, d7⟩ := HRB.out _ G6.out.2.1 7 (by decide); obtain ⟨⟨a8, b8⟩, d8⟩ := HRB.out _ G6.out.2.1 8 (by decide); have dl := HRL.out _ G6.out.2.1)
   | (refine (HC2.out _ HF0.out).mono ?_; rintro e w6 ⟨vsa, vsp, rfl, G6⟩; obtain ⟨z0, z1, z2, z3, z4, z5, z6, z7, zl⟩ := HV.out _ G6.out.2.1)))
 all_goals
  clear y0 y1 y2 y3 y4 y5 y6 y7 yl x0 x1 x2 x3 x4 x5 x6 x7 xl z0 z1 z2 z3 z4 z5 z6 z7 zl a0 b0 d0 a1 b1 d1 a2 b2 d2 a3 b3 d3 a4 b4 d4 a5 b5 d5 a6 b6 d6 a7 b7 d7 a8 b8 d8 dl
  generalize hwf : World.setCell _ ⟨W.heap.size + 1, 8, none⟩ _ = wf
  have HX : Hid (wf.heap[W.heap.size + 1]? = some (.cells #[.slice vca p.nc vcp, .slice vsa p.ns vsp, .int .i64 en0, .int .i64 en1, .int .i64 en2, .int .i64 en3, .int .i64 en4, .int .i64 en5, .slice ao m cp] 27 (0, 0)) ∧ ∃ g' : Pg, g'.cs (cutF p K) = [.slice vca p.nc vcp, .slice vsa p.ns vsp, .int .i64 en0, .int .i64 en1, .int .i64 en2, .int .i64 en3, .int .i64 en4, .int .i64 en5, .slice ao m cp] ∧ Po W.heap.size g' (cutF p K) wf ∧ Below W.heap.size W wf) := by first | exact HFIN.out _ wf vca vsa vcp vsp (own_keep G5.out.1 G6.out.2.2) G6.out.1 G6.out.2.1 hwf | exact HFIN.out _ wf vca vsa vcp vsp G5.out.1 (own_keep G6.out.1 G5.out.2.2) G5.out.2.1 hwf
  clear hwf G5 G6 HFIN HC1 HC2 HV HRB HRL HF0
  obtain ⟨hblk, g', hcs, hpo, hbel⟩ := HX.out
  have c0 := block_cell hblk 0
  have c1 := block_cell hblk 1
  have c2 := block_cell hblk 2
  have c3 := block_cell hblk 3
  have c4 := block_cell hblk 4
  have c5 := block_cell hblk 5
  have c6 := block_cell hblk 6
  have c7 := block_cell hblk 7
  have c8 := block_cell hblk 8
  simp at c0 c1 c2 c3 c4 c5 c6 c7 c8
  have HE : Hid (Po W.heap.size g' (cutF p K) wf ∧ Below W.heap.size W wf) := ⟨hpo, hbel⟩
  have HG := hide hcs
  clear hblk hcs hpo hbel HX
  go_wp2
  refine bodyPost_ret (v := .agg #[.slice vca p.nc vcp, .slice vsa p.ns vsp, .int .i64 en0, .int .i64 en1, .int .i64 en2, .int .i64 en3, .int .i64 en4, .int .i64 en5, .slice ao m cp]) (by simp [results, Tryz.results54, go_sem, c0, c1, c2, c3, c4, c5, c6, c7, c8]) rfl ?_
  exact ⟨g', by rw [HG.out], HE⟩
end Go.Proofs.YtggpaljilpbmhaaGreatDoor
