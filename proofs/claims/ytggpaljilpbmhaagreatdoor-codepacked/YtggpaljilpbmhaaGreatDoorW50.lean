import Derived.Test.YtggpaljilpbmhaaGreatDoorW49
namespace Go.Proofs.YtggpaljilpbmhaaGreatDoor
open Go.RowKit

theorem po_mkw {B : Nat} {p : Pv} {w : World} {vc vs vi : Value} (hc : w.ownsRow B 28 1 vc p.nc (nums .u64 p.C p.nc)) (hs : w.ownsRow B 3 1 vs p.ns (nums .i64 p.S p.ns)) (hi : Irow w B vi p.n p.op p.arg) (h1 : p.nc * 8 ≤ 140737488351232) (h2 : p.ns * 8 ≤ 140737488351232) (h3 : p.n * 16 ≤ 140737488351232) :
  ∃ g : Pg, vc = .slice g.ca p.nc g.cc ∧ vs = .slice g.sa p.ns g.sc ∧ vi = .slice g.ia p.n g.ic ∧ Po B g p w := by
 obtain ⟨ca, cc, rfl, kc⟩ : ∃ ca cc, vc = .slice ca p.nc cc ∧ (0 < p.nc → ca = some ⟨blkOfA ca, 0, none⟩ ∧ blkOfA ca < w.heap.size) ∧ ∀ j, j < p.nc → w.cell? ⟨blkOfA ca, 0 + j, none⟩ = some (.int .u64 (p.C j)) := by
  rcases hc.2 with ⟨rfl, h0⟩ | ⟨g, cap, cur, rfl, _, hq, _⟩
  ·rw [h0]
   exact ⟨none, 0, rfl, fun h => by omega, fun j hj => by omega⟩
  ·refine ⟨_, cap, rfl, fun _ => ⟨rfl, block_lt hq⟩, fun j hj => ?_⟩
   have := hc.cellAt j (by omega)
   rw [Nat.zero_add]
   refine this.trans ?_
   simp [nums, hj]
 obtain ⟨sa, sc, rfl, ks⟩ : ∃ ca cc, vs = .slice ca p.ns cc ∧ (0 < p.ns → ca = some ⟨blkOfA ca, 0, none⟩ ∧ blkOfA ca < w.heap.size) ∧ ∀ j, j < p.ns → w.cell? ⟨blkOfA ca, 0 + j, none⟩ = some (.int .i64 (p.S j)) := by
  rcases hs.2 with ⟨rfl, h0⟩ | ⟨g, cap, cur, rfl, _, hq, _⟩
  ·rw [h0]
   exact ⟨none, 0, rfl, fun h => by omega, fun j hj => by omega⟩
  ·refine ⟨_, cap, rfl, fun _ => ⟨rfl, block_lt hq⟩, fun j hj => ?_⟩
   have := hs.cellAt j (by omega)
   rw [Nat.zero_add]
   refine this.trans ?_
   simp [nums, hj]
 obtain ⟨ia, ic, rfl, _, ki⟩ := irow_val hi
 refine ⟨⟨ca, sa, ia, cc, sc, ic, blkOfA ca, 0, blkOfA sa, 0, blkOfA ia, 0⟩, rfl, rfl, rfl, hc, hs, hi, kc.1, ks.1, fun h => ?_, kc.2, ks.2, fun j hj => ?_, fun j hj => ?_, by omega, by omega, by omega⟩
 ·obtain ⟨g, rfl, _, h2, _⟩ := ki h
  exact ⟨rfl, h2⟩
 ·obtain ⟨g, rfl, _, _, h2⟩ := ki (by omega)
  rw [Nat.zero_add]
  exact (h2 j hj).1
 ·obtain ⟨g, rfl, _, _, h2⟩ := ki (by omega)
  rw [Nat.zero_add]
  exact (h2 j hj).2.1
set_option maxRecDepth 10000 in
set_option maxHeartbeats 1600000 in
/-- The reference's copy of any row of ints. -/
theorem copyIw {W : World} {ao : Option Addr} {n cap b off : Nat} {f : Nat → Int} (h : 0 < n → ao = some ⟨b, off, none⟩ ∧ b < W.heap.size) (hv : ∀ j, j < n → W.cell? ⟨b, off + j, none⟩ = some (.int .i64 (f j))) (hn : n * 8 ≤ 140737488351232) :
  Calls Tryz.prog 27 #[.slice ao n cap] W fun e w' => ∃ v', e = .returned v' ∧ Hid (w'.ownsRow W.heap.size 3 1 v' n (nums .i64 f n) ∧ Below W.heap.size W w') := by
 obtain ⟨i0, hi, hz0, hz1, hz2⟩ := info_parts Tryz.infoI
 have HK := hide h
 have HV := hide hv
 clear h hv
 go_enter Tryz.func27, Tryz.ntmps27
 go_upto_region 3 with fail
 go_loopw [3, 4] (fun v i wr => ∃ j : Nat, j ≤ n ∧ i = .int .i64 (j : Nat) ∧ Hid (wr.ownsRow W.heap.size 3 1 v j (nums .i64 f j) ∧ Below W.heap.size W wr)) (fun _ i _ => n - (intOf i).toNat)
 case atStart => exact ⟨0, by omega, rfl, World.ownsRow_nil _ _ _ _, Below.refl _ _⟩
 case round =>
  obtain ⟨j, hj, rfl, HJ⟩ := hrel
  by_cases hlt : j < n
  ·obtain ⟨hao, hbl⟩ := HK.out (by omega)
   have hv2 : wr.cell? ⟨b, off + j, none⟩ = some (.int .i64 (f j)) := (HJ.out.2.cell (p := ⟨b, off + j, none⟩) hbl).trans (HV.out j hlt)
   have hbl2 : b < wr.heap.size := Nat.lt_of_lt_of_le hbl HJ.out.2.size
   have HOW : Hid (∀ o, (wr.alloc o).ownsRow W.heap.size 3 1 u3 j (nums .i64 f j)) := fun o => row_quietT HJ.out.1 (World.grownBy_alloc _ _ none)
   have HSZ : Hid (∀ o, W.heap.size ≤ (wr.alloc o).heap.size) := fun o => by
    have := HJ.out.2.size
    simp
    omega
   have HNX : Hid (∀ o v' w', w'.ownsRow W.heap.size 3 1 v' (j + 1) (nums .i64 f j ++ [.int .i64 (f j)]) → (wr.alloc o).grownBy w' u3.ownBlock → w'.ownsRow W.heap.size 3 1 v' (j + 1) (nums .i64 f (j + 1)) ∧ Below W.heap.size W w') := fun o v' w' h1 h2 => by
    refine ⟨?_, ?_⟩
    ·rw [nums_next]; exact h1
    ·exact (HJ.out.2.alloc HJ.out.2.size o).grown h2 (HSZ.out o) (fun g e => (HJ.out.1.lt g e).1)
   subst hao
   clear HJ HK HV
   generalize f j = x at *
   go_wp2_with (at_builtin; refine wpList_append_own _ rfl (.tmp 11) (.tmp 16) 23 rfl W.heap.size 3 i0 (.int .i64 0) 1 8 Tryz.underlying23 hi hz0 hz1 hz2 rfl (by decide) u3 j _ rfl (HOW.out _) ⟨wr.heap.size, 0, none⟩ 1 1 [.int .i64 x] rfl rfl (cell_one_new _ _ _) (by simp [Value.oneCell']) (by unfold maxLen; omega) (by omega) (HSZ.out _) ?_; intro v' w5 ho hg _)
   have HN := hide (HNX.out _ _ _ ho hg)
   clear ho hg
   go_roundw
   case rel => exact ⟨j + 1, by omega, by go_num, HN.out⟩
   case measure => simp [intOf]; omega
  ·obtain rfl : j = n := by omega
   have HD := hide HJ.out
   clear HJ HK HV
   go_wp2
   go_ret
   exact ⟨_, rfl, HD⟩
theorem Ld.pow {W : World} {g : Pg} {p : Pv} {rb cb : Nat} {va vb vc : Value} {w : World} (h : Ld W g p rb cb va vb vc p.nc p.ns p.n (rowA p p.nc) (rowB p p.ns) (rowC p p.n) w) (hr : W.heap.size ≤ rb) (h1 : p.nc * 8 ≤ 140737488351232) (h2 : p.ns * 8 ≤ 140737488351232) (h3 : p.n * 16 ≤ 140737488351232) :
  ∃ g' : Pg, va = .slice g'.ca p.nc g'.cc ∧ vb = .slice g'.sa p.ns g'.sc ∧ vc = .slice g'.ia p.n g'.ic ∧ Po W.heap.size g' p (set9 w rb va vb (.int .i64 (p.en 0)) (.int .i64 (p.en 1)) (.int .i64 (p.en 2)) (.int .i64 (p.en 3)) (.int .i64 (p.en 4)) (.int .i64 (p.en 5)) vc) ∧ Below W.heap.size W (set9 w rb va vb (.int .i64 (p.en 0)) (.int .i64 (p.en 1)) (.int .i64 (p.en 2)) (.int .i64 (p.en 3)) (.int .i64 (p.en 4)) (.int .i64 (p.en 5)) vc) := by
 have G := set9_grown w rb va vb (.int .i64 (p.en 0)) (.int .i64 (p.en 1)) (.int .i64 (p.en 2)) (.int .i64 (p.en 3)) (.int .i64 (p.en 4)) (.int .i64 (p.en 5)) vc
 have hc := h.qc
 rw [rowC_nums] at hc
 obtain ⟨g', e1, e2, e3, e4⟩ := po_mkw (B := W.heap.size) (p := p) (own_offT h.qa h.res (by decide) G) (own_offT h.qb h.res (by decide) G) (own_offT hc h.res (by decide) G) h1 h2 h3
 exact ⟨g', e1, e2, e3, e4, h.bel.trans (below_of_grown G hr h.bel.size)⟩
set_option maxRecDepth 10000 in
set_option maxHeartbeats 12800000 in
theorem copyRw {W : World} {g : Pg} {p : Pv} (h : g.Ok p W.heap.size W) (hb1 : p.nc * 8 ≤ 140737488351232) (hb2 : p.ns * 8 ≤ 140737488351232) (hb3 : p.n * 16 ≤ 140737488351232) : Calls Tryz.prog 8 #[.agg (g.cs p).toArray] W fun e w' => ∃ g', e = .returned (.agg (g'.cs p).toArray) ∧ Po W.heap.size g' p w' ∧ Below W.heap.size W w' := by
 obtain ⟨iU, hU, hU0, hU1, hU2⟩ := info_parts Tryz.infoU
 obtain ⟨iN, hN, hN0, hN1, hN2⟩ := info_parts Tryz.infoN
 obtain ⟨W2, hW2⟩ : ∃ W2, (W.alloc (.cells (g.cs p).toArray 27)).alloc (.cells #[.slice none 0 0, .slice none 0 0, .int .i64 0, .int .i64 0, .int .i64 0, .int .i64 0, .int .i64 0, .int .i64 0, .slice none 0 0] 27) = W2 := ⟨_, rfl⟩
 have HB := hide (lb_new hW2)
 have HL0 := hide (HB.out.next (w' := W2.drew) (Below.refl _ _).drew)
 have HW2 := hide hW2
 have HOK := hide h
 have HCP : Hid (∀ w1, Lb W g p (W.heap.size + 1) w1 → Calls Tryz.prog 27 #[.slice g.sa p.ns g.sc] w1 fun e w' => ∃ sv sp, e = .returned (.slice sv p.ns sp) ∧ Hid (w'.ownsRow W.heap.size 3 1 (.slice sv p.ns sp) p.ns (rowB p p.ns) ∧ Lb W g p (W.heap.size + 1) w' ∧ Below w1.heap.size w1 w')) := fun w1 h1 => by
  refine (copyIw (f := p.S) (fun e => ⟨(h.hs e).1, Nat.lt_of_lt_of_le (h.hs e).2 h1.bel.size⟩) (fun j hj => (h1.bel.cell (p := ⟨g.sb, _, none⟩) (h.hs (by omega)).2).trans (h.vs j hj)) (by omega)).mono ?_
  rintro e w' ⟨v, rfl, q⟩
  obtain ⟨sv, sp, rfl⟩ := own_val q.out.1
  exact ⟨sv, sp, rfl, own_low q.out.1 h1.bel.size, h1.next q.out.2, q.out.2⟩
 have HCS : Hid (g.cs p = [.slice g.ca p.nc g.cc, .slice g.sa p.ns g.sc, .int .i64 (p.en 0), .int .i64 (p.en 1), .int .i64 (p.en 2), .int .i64 (p.en 3), .int .i64 (p.en 4), .int .i64 (p.en 5), .slice g.ia p.n g.ic]) := rfl
 rw [HCS.out] at HW2 ⊢
 clear h hW2
 go_enter Tryz.func8, Tryz.ntmps8
 go_upto_region 1 with fail
 rw [HW2.out]
 clear HW2
 go_cut [3] from 6 (fun v3 V => ∃ cb va vb vc, v3 = .pointer (some ⟨cb, 0, none⟩) ∧ Hid (Ld W g p (W.heap.size + 1) cb va vb vc 0 p.ns 0 [] (rowB p p.ns) [] V))
 case first =>
  refine wp_region_held_drew (S := fun w => Lb W g p (W.heap.size + 1) w) (by kernel_rfl) HL0.out (fun hH => ?_)
  refine wpAnyH_take (i := 0) (oi := ⟨some 6, .fieldAddr 27 (.tmp 1) 2, 0, "verify.go:251", #[], none⟩) (v := .pointer (some ⟨W.heap.size, 2, none⟩)) rfl (by kernel_rfl) (by kernel_rfl) (by kernel_rfl) (fun _ _ _ h => h) (Or.inl ⟨by rfl, fun w' hSw => ?_⟩) hH ?_
  ·go_simp
  simp only [Act.put, lsA, lsB, lsC]
  refine wpAnyH_take (i := 1) (oi := ⟨some 7, .load 24 (.tmp 6), 24, "verify.go:251", #[⟨0, .data⟩], none⟩) (v := .agg #[.int .i64 (p.en 0), .int .i64 (p.en 1), .int .i64 (p.en 2), .int .i64 (p.en 3), .int .i64 (p.en 4), .int .i64 (p.en 5)]) rfl (by kernel_rfl) (by kernel_rfl) (by kernel_rfl) (fun _ _ _ h => h) (Or.inl ⟨by rfl, fun w' hSw => ?_⟩) hH ?_
  ·obtain ⟨y0, y1, y2, y3, y4, y5, y6, y7, y8, yl⟩ := hSw.cells
   go_simp
  simp only [Act.put, lsA, lsB, lsC]
  refine wpAnyH_take (i := 2) (oi := ⟨some 8, .fieldAddr 27 (.tmp 1) 1, 0, "verify.go:251", #[], none⟩) (v := .pointer (some ⟨W.heap.size, 1, none⟩)) rfl (by kernel_rfl) (by kernel_rfl) (by kernel_rfl) (fun _ _ _ h => h) (Or.inl ⟨by rfl, fun w' hSw => ?_⟩) hH ?_
  ·go_simp
  simp only [Act.put, lsA, lsB, lsC]
  refine wpAnyH_take (i := 3) (oi := ⟨some 9, .load 23 (.tmp 8), 23, "verify.go:251", #[⟨2, .data⟩], none⟩) (v := .slice g.sa p.ns g.sc) rfl (by kernel_rfl) (by kernel_rfl) (by kernel_rfl) (fun _ _ _ h => h) (Or.inl ⟨by rfl, fun w' hSw => ?_⟩) hH ?_
  ·obtain ⟨y0, y1, y2, y3, y4, y5, y6, y7, y8, yl⟩ := hSw.cells
   go_simp
  simp only [Act.put, lsA, lsB, lsC]
  refine wpAnyH_ready (rs := [4, 6]) (by kernel_rfl) (by simp) ?_
  refine AllReadyH.cons rfl (fun K hK => ?_) (AllReadyH.cons rfl (fun K hK => ?_) AllReadyH.nil)
  ·go_simp
   go_wp2_with fail
   refine (HCP.out _ HL0.out).mono ?_
   rintro e w1 ⟨sv, sp, rfl, G1⟩
   go_wp2_with fail
   refine hK.out _ _ G1.out.2.1 (fun _ => ?_)
   clear hK K
   have HL1 := hide G1.out.2.1
   refine wpAnyH_take (i := 5) (oi := ⟨some 11, .build 27 #[(2, .tmp 7), (1, .tmp 10)], 27, "verify.go:251", #[⟨1, .data⟩, ⟨4, .data⟩], none⟩) (v := .agg #[.slice none 0 0, .slice sv p.ns sp, .int .i64 (p.en 0), .int .i64 (p.en 1), .int .i64 (p.en 2), .int .i64 (p.en 3), .int .i64 (p.en 4), .int .i64 (p.en 5), .slice none 0 0]) rfl (by kernel_rfl) (by kernel_rfl) (by kernel_rfl) (fun _ _ _ h => h) (Or.inl ⟨by rfl, fun w' hSw => ?_⟩) HL1.out ?_
   ·go_simp
   simp only [Act.put, lsA, lsB, lsC]
   refine wpAnyH_ready (rs := [6]) (by kernel_rfl) (by simp) ?_
   refine AllReadyH.cons rfl (fun K hK => ?_) AllReadyH.nil
   go_simp
   go_wp2_with fail
   obtain ⟨w2, hw⟩ : ∃ w2, w1.alloc (.cells #[.slice none 0 0, .slice none 0 0, .int .i64 0, .int .i64 0, .int .i64 0, .int .i64 0, .int .i64 0, .int .i64 0, .slice none 0 0] 27) = w2 := ⟨_, rfl⟩
   have HB2 : Hid (Below w1.heap.size w1 w2) := by rw [← hw]; exact below_alloc1 _ _
   have HX : Hid (w2.heap[w1.heap.size]? = some (.cells #[.slice none 0 0, .slice none 0 0, .int .i64 0, .int .i64 0, .int .i64 0, .int .i64 0, .int .i64 0, .int .i64 0, .slice none 0 0] 27 (0, 0))) := by rw [← hw]; exact alloc_atK _ _
   rw [hw]
   clear hw
   have HL2 := hide (HL1.out.next HB2.out)
   refine hK.out _ _ HL2.out (fun _ => ?_)
   clear hK K
   have HF := hide (ld_fill2 (cb := w1.heap.size) HL2.out HX.out (World.ownsRow_nil _ _ _ _) (row_quietT G1.out.1 (grown_of_below HB2.out none)) (World.ownsRow_nil _ _ _ _) HL1.out.bel.size (Nat.ne_of_gt (block_lt HL1.out.prg)) (Nat.ne_of_gt (block_lt HL1.out.res)))
   have z0 := block_cell HX.out 0
   have f0 := block_free HX.out 0
   have z1 := block_cell HX.out 1
   have f1 := block_free HX.out 1
   have z2 := block_cell HX.out 2
   have f2 := block_free HX.out 2
   have z3 := block_cell HX.out 3
   have f3 := block_free HX.out 3
   have z4 := block_cell HX.out 4
   have f4 := block_free HX.out 4
   have z5 := block_cell HX.out 5
   have f5 := block_free HX.out 5
   have z6 := block_cell HX.out 6
   have f6 := block_free HX.out 6
   have z7 := block_cell HX.out 7
   have f7 := block_free HX.out 7
   have z8 := block_cell HX.out 8
   have f8 := block_free HX.out 8
   have zl := block_lt HX.out
   simp at z0 z1 z2 z3 z4 z5 z6 z7 z8
   clear HX
   refine wpAnyH_ready (rs := [7]) (by kernel_rfl) (by simp) ?_
   refine AllReadyH.cons rfl (fun K hK => ?_) AllReadyH.nil
   go_simp
   go_wp2_with fail
   refine hK.out _ _ ⟨HF.out.prg, HF.out.res, HF.out.bel⟩ (fun _ => ?_)
   clear hK K
   refine wpAnyH_done (by kernel_rfl) ?_ _
   go_wp2
   go_meet
   case rel => exact ⟨_, _, _, _, rfl, HF.out⟩
  ·go_simp
   go_wp2_with fail
   obtain ⟨w1, hw⟩ : ∃ w1, (W2.alloc (.cells #[.slice none 0 0, .slice none 0 0, .int .i64 0, .int .i64 0, .int .i64 0, .int .i64 0, .int .i64 0, .int .i64 0, .slice none 0 0] 27)).drew = w1 := ⟨_, rfl⟩
   have HB1 : Hid (Below W2.drew.heap.size W2.drew w1) := by rw [← hw]; exact below_alloc1 W2.drew _
   have HX1 : Hid (w1.heap[W2.drew.heap.size]? = some (.cells #[.slice none 0 0, .slice none 0 0, .int .i64 0, .int .i64 0, .int .i64 0, .int .i64 0, .int .i64 0, .int .i64 0, .slice none 0 0] 27 (0, 0))) := by rw [← hw]; exact alloc_atK W2.drew _
   rw [hw]
   clear hw
   have HL1 := hide (HL0.out.next HB1.out)
   refine hK.out _ _ HL1.out (fun _ => ?_)
   clear hK K
   refine wpAnyH_ready (rs := [4]) (by kernel_rfl) (by simp) ?_
   refine AllReadyH.cons rfl (fun K hK => ?_) AllReadyH.nil
   go_simp
   go_wp2_with fail
   refine (HCP.out _ HL1.out).mono ?_
   rintro e w2 ⟨sv, sp, rfl, G2⟩
   go_wp2_with fail
   refine hK.out _ _ G2.out.2.1 (fun _ => ?_)
   clear hK K
   have HL2 := hide G2.out.2.1
   refine wpAnyH_take (i := 5) (oi := ⟨some 11, .build 27 #[(2, .tmp 7), (1, .tmp 10)], 27, "verify.go:251", #[⟨1, .data⟩, ⟨4, .data⟩], none⟩) (v := .agg #[.slice none 0 0, .slice sv p.ns sp, .int .i64 (p.en 0), .int .i64 (p.en 1), .int .i64 (p.en 2), .int .i64 (p.en 3), .int .i64 (p.en 4), .int .i64 (p.en 5), .slice none 0 0]) rfl (by kernel_rfl) (by kernel_rfl) (by kernel_rfl) (fun _ _ _ h => h) (Or.inl ⟨by rfl, fun w' hSw => ?_⟩) HL2.out ?_
   ·go_simp
   simp only [Act.put, lsA, lsB, lsC]
   have HX : Hid (w2.heap[W2.heap.size]? = some (.cells #[.slice none 0 0, .slice none 0 0, .int .i64 0, .int .i64 0, .int .i64 0, .int .i64 0, .int .i64 0, .int .i64 0, .slice none 0 0] 27 (0, 0))) := (G2.out.2.2.block _ (block_lt HX1.out)).trans HX1.out
   clear HX1
   have HF := hide (ld_fill2 (cb := W2.heap.size) HL2.out HX.out (World.ownsRow_nil _ _ _ _) G2.out.1 (World.ownsRow_nil _ _ _ _) HL0.out.bel.size (Nat.ne_of_gt (block_lt HL0.out.prg)) (Nat.ne_of_gt (block_lt HL0.out.res)))
   have z0 := block_cell HX.out 0
   have f0 := block_free HX.out 0
   have z1 := block_cell HX.out 1
   have f1 := block_free HX.out 1
   have z2 := block_cell HX.out 2
   have f2 := block_free HX.out 2
   have z3 := block_cell HX.out 3
   have f3 := block_free HX.out 3
   have z4 := block_cell HX.out 4
   have f4 := block_free HX.out 4
   have z5 := block_cell HX.out 5
   have f5 := block_free HX.out 5
   have z6 := block_cell HX.out 6
   have f6 := block_free HX.out 6
   have z7 := block_cell HX.out 7
   have f7 := block_free HX.out 7
   have z8 := block_cell HX.out 8
   have f8 := block_free HX.out 8
   have zl := block_lt HX.out
   simp at z0 z1 z2 z3 z4 z5 z6 z7 z8
   clear HX
   refine wpAnyH_ready (rs := [7]) (by kernel_rfl) (by simp) ?_
   refine AllReadyH.cons rfl (fun K hK => ?_) AllReadyH.nil
   go_simp
   go_wp2_with fail
   refine hK.out _ _ ⟨HF.out.prg, HF.out.res, HF.out.bel⟩ (fun _ => ?_)
   clear hK K
   refine wpAnyH_done (by kernel_rfl) ?_ _
   go_wp2
   go_meet
   case rel => exact ⟨_, _, _, _, rfl, HF.out⟩
 case rest =>
 obtain ⟨cb, va0, vb0, vc0, rfl, HD0⟩ := hcut
 clear HL0 HB HCP
 generalize hrb : W.heap.size + 1 = rb at *
 have HRB : Hid (W.heap.size ≤ rb) := by show _ ≤ _; omega
 clear hrb
 have HD0 : Hid (∃ va vb vc, Ld W g p rb cb va vb vc 0 p.ns 0 (rowA p 0) (rowB p p.ns) [] _) := ⟨va0, vb0, vc0, HD0.out⟩
 go_upto_region 3 with fail
 go_loopw [4] (fun i wr => ∃ j : Nat, j ≤ p.nc ∧ i = .int .i64 (j : Nat) ∧ Hid (∃ va vb vc, Ld W g p rb cb va vb vc j p.ns 0 (rowA p j) (rowB p p.ns) [] wr)) (fun i _ => p.nc - (intOf i).toNat)
 case atStart => exact ⟨0, by omega, rfl, HD0.out⟩
 case round =>
  obtain ⟨j, hj, rfl, HJ⟩ := hrel
  clear HD0
  obtain ⟨va, vb, vc, hld⟩ := HJ.out
  have HLW := hide hld
  have y := block_cell hld.prg 0
  have yl := block_lt hld.prg
  simp [Pg.cs] at y
  clear hld HJ
  by_cases hlt : j < p.nc
  ·obtain ⟨hia, hib⟩ := HOK.out.hc (by omega)
   have HIA := hide hia
   have HLD := hide (HLW.out.drew (Below.refl _ _).drew)
   have HS1 : Hid ((fun (w : World) => w.heap[cb]? = some (.cells #[va, vb, .int .i64 (p.en 0), .int .i64 (p.en 1), .int .i64 (p.en 2), .int .i64 (p.en 3), .int .i64 (p.en 4), .int .i64 (p.en 5), vc] 27 (0, 0)) ∧ w.heap[W.heap.size]? = some (.cells (g.cs p).toArray 27 (0, 0)) ∧ Below W.heap.size W w) wr.drew) := ⟨HLD.out.box, HLD.out.prg, HLD.out.bel⟩
   have HS2 : Hid (∀ o, (fun (w : World) => w.heap[cb]? = some (.cells #[va, vb, .int .i64 (p.en 0), .int .i64 (p.en 1), .int .i64 (p.en 2), .int .i64 (p.en 3), .int .i64 (p.en 4), .int .i64 (p.en 5), vc] 27 (0, 0)) ∧ w.heap[W.heap.size]? = some (.cells (g.cs p).toArray 27 (0, 0)) ∧ Below W.heap.size W w) (wr.drew.alloc o)) := fun o => by
    have hh := HLD.out.drew (below_alloc1 wr.drew o)
    exact ⟨hh.box, hh.prg, hh.bel⟩
   have HOW : Hid (∀ o, (wr.drew.alloc o).ownsRow W.heap.size 28 1 va j (rowA p j)) := fun o => row_quietT HLD.out.qa (World.grownBy_alloc _ _ none)
   have HSZ : Hid (∀ o, W.heap.size ≤ (wr.drew.alloc o).heap.size) := fun o => by
    have := HLD.out.bel.size
    simp at this ⊢
    omega
   clear hia
   go_upto_region 5 with fail
   clear y yl
   refine wp_region_L 10 (fun (w : World) => w.heap[cb]? = some (.cells #[va, vb, .int .i64 (p.en 0), .int .i64 (p.en 1), .int .i64 (p.en 2), .int .i64 (p.en 3), .int .i64 (p.en 4), .int .i64 (p.en 5), vc] 27 (0, 0)) ∧ w.heap[W.heap.size]? = some (.cells (g.cs p).toArray 27 (0, 0)) ∧ Below W.heap.size W w) (fun _ => True) (by kernel_rfl) HS1.out trivial (fun hS0 => ?_)
   refine wpAnyL_take (i := 0) (oi := ⟨some 19, .fieldAddr 27 (.tmp 3) 0, 0, "verify.go:253", #[], none⟩) (v := .pointer (some ⟨cb, 0, none⟩)) rfl (by decide) (by kernel_rfl) (by kernel_rfl) (by kernel_rfl) (fun _ _ _ h => h) (Or.inl ⟨by rfl, fun w2 hSw => ?_⟩) hS0 (fun hS1 => ?_)
   ·go_simp
   simp only [Act.put, lsA, lsB, lsC]
   clear hS0
   refine wpAnyL_take1 (i := 1) (oi := ⟨some 20, .load 22 (.tmp 19), 22, "verify.go:253", #[⟨0, .data⟩], none⟩) (v := va) rfl (by decide) (by kernel_rfl) (by kernel_rfl) (by kernel_rfl) (fun _ _ _ h => h) (Or.inl ⟨by rfl, fun w2 hSw => ?_⟩) hS1 (by kernel_rfl) rfl (by kernel_rfl) (fun hS2 => ?_)
   ·obtain ⟨hbx, hpg, hbl⟩ := hSw
    have k0 := block_cell hbx 0
    have kl := block_lt hbx
    simp at k0
    go_simp
   simp only [Act.put, lsA, lsB, lsC]
   clear hS1
   refine wpAnyL_take (i := 2) (oi := ⟨some 21, .fieldAddr 27 (.tmp 1) 0, 0, "verify.go:253", #[], none⟩) (v := .pointer (some ⟨W.heap.size, 0, none⟩)) rfl (by decide) (by kernel_rfl) (by kernel_rfl) (by kernel_rfl) (fun _ _ _ h => h) (Or.inl ⟨by rfl, fun w2 hSw => ?_⟩) hS2 (fun hS3 => ?_)
   ·go_simp
   simp only [Act.put, lsA, lsB, lsC]
   clear hS2
   refine wpAnyL_take1 (i := 3) (oi := ⟨some 22, .load 22 (.tmp 21), 22, "verify.go:253", #[⟨2, .data⟩], none⟩) (v := .slice (some ⟨g.cb, g.co, none⟩) p.nc g.cc) rfl (by decide) (by kernel_rfl) (by kernel_rfl) (by kernel_rfl) (fun _ _ _ h => h) (Or.inl ⟨by rfl, fun w2 hSw => ?_⟩) hS3 (by kernel_rfl) rfl (by kernel_rfl) (fun hS4 => ?_)
   ·obtain ⟨hbx, hpg, hbl⟩ := hSw
    have k0 := block_cell hpg 0
    have kl := block_lt hpg
    simp [Pg.cs, HIA.out] at k0
    go_simp
   simp only [Act.put, lsA, lsB, lsC]
   clear hS3
   refine wpAnyL_take (i := 4) (oi := ⟨some 23, .move (.tmp 4), 3, "verify.go:253", #[], none⟩) (v := .int .i64 (j : Nat)) rfl (by decide) (by kernel_rfl) (by kernel_rfl) (by kernel_rfl) (fun _ _ _ h => h) (Or.inl ⟨by rfl, fun w2 hSw => ?_⟩) hS4 (fun hS5 => ?_)
   ·go_simp
   simp only [Act.put, lsA, lsB, lsC]
   clear hS4
   refine wpAnyL_take (i := 5) (oi := ⟨some 24, .indexAddr 22 (.tmp 22) (.tmp 23), 0, "verify.go:253", #[⟨3, .data⟩, ⟨4, .data⟩], none⟩) (v := .pointer (some ⟨g.cb, g.co + j, none⟩)) rfl (by decide) (by kernel_rfl) (by kernel_rfl) (by kernel_rfl) (fun _ _ _ h => h) (Or.inl ⟨by rfl, fun w2 hSw => ?_⟩) hS5 (fun hS6 => ?_)
   ·go_simp
   simp only [Act.put, lsA, lsB, lsC]
   clear hS5
   refine wpAnyL_take1 (i := 6) (oi := ⟨some 25, .load 28 (.tmp 24), 28, "verify.go:253", #[⟨5, .data⟩], none⟩) (v := .int .u64 (p.C j)) rfl (by decide) (by kernel_rfl) (by kernel_rfl) (by kernel_rfl) (fun _ _ _ h => h) (Or.inl ⟨by rfl, fun w2 hSw => ?_⟩) hS6 (by kernel_rfl) rfl (by kernel_rfl) (fun hS7 => ?_)
   ·obtain ⟨hbx, hpg, hbl⟩ := hSw
    have e0 := (hbl.cell (p := ⟨g.cb, _, none⟩) hib).trans (HOK.out.vc j hlt)
    have kl : g.cb < w2.heap.size := Nat.lt_of_lt_of_le hib hbl.size
    go_simp
   simp only [Act.put, lsA, lsB, lsC]
   clear hS6
   clear hS7
   refine wpAnyL_one (i := 7) (o := ⟨some 26, .buildSlice 22 1 #[(0, .tmp 25)], 22, "verify.go:253", #[⟨6, .data⟩], none⟩) (by kernel_rfl) rfl (fun K hK => ?_)
   go_simp
   go_wp2_with fail
   refine hK.out _ _ ⟨fun _ => HS2.out _, trivial⟩ ?_
   clear hK K
   obtain ⟨v8, w8, hrun, ho8, hg8, _⟩ := run_append_own (P := Tryz.prog) (wr.drew.alloc (.cells #[.int .u64 (p.C j)] 28)) W.heap.size 22 22 28 iU (.int .u64 0) 1 8 Tryz.underlying22 hU hU0 hU1 hU2 rfl (by decide) va j _ (HOW.out _) ⟨wr.drew.heap.size, 0, none⟩ 1 1 [.int .u64 (p.C j)] rfl (cell_one_new _ _ _) (by simp [Value.oneCell']) (by unfold maxLen; omega) (by omega) (HSZ.out _)
   have hst := HLD.out.stepA ho8 hg8
   obtain ⟨ao8, cap8, hv8⟩ := own_val2 ho8
   have z0 := block_cell hst.2.1 0
   have zf := block_free hst.2.1 0
   have zl := block_lt hst.2.1
   simp at z0
   have HST := hide hst
   clear hst ho8 hg8
   refine wpAnyL_one (i := 8) (o := ⟨some 27, .call { callee := Callee.builtin .append, args := #[.tmp 20, .tmp 26], argTypes := #[22, 22] }, 22, "verify.go:253", #[⟨1, .data⟩, ⟨7, .data⟩], none⟩) (by kernel_rfl) rfl (fun K hK => ?_)
   rw [if_pos (by kernel_rfl)]
   refine wp_append1 (.tmp 20) (.tmp 26) 22 rfl (v := va) (v' := v8) (w' := w8) rfl rfl hrun ?_
   simp only [Act.put, List.setIfInBounds_toArray]
   refine hK.out _ _ ⟨fun _ => ⟨HST.out.2.1, HST.out.2.2.1, HST.out.2.2.2⟩, trivial⟩ ?_
   clear hK K hrun
   subst hv8
   have hS9 : SSg 10 (fun (w : World) => w.heap[cb]? = some (.cells #[va, vb, .int .i64 (p.en 0), .int .i64 (p.en 1), .int .i64 (p.en 2), .int .i64 (p.en 3), .int .i64 (p.en 4), .int .i64 (p.en 5), vc] 27 (0, 0)) ∧ w.heap[W.heap.size]? = some (.cells (g.cs p).toArray 27 (0, 0)) ∧ Below W.heap.size W w) (fun _ => True) #[true, true, true, true, true, true, true, true, true, false, false] w8 := ⟨fun _ => ⟨HST.out.2.1, HST.out.2.2.1, HST.out.2.2.2⟩, trivial⟩
   refine wpAnyL_take (i := 9) (oi := ⟨some 28, .fieldAddr 27 (.tmp 3) 0, 0, "verify.go:253", #[⟨0, .phase⟩, ⟨1, .phase⟩, ⟨2, .phase⟩, ⟨3, .phase⟩, ⟨4, .phase⟩, ⟨5, .phase⟩, ⟨6, .phase⟩, ⟨7, .phase⟩, ⟨8, .phase⟩], none⟩) (v := .pointer (some ⟨cb, 0, none⟩)) rfl (by decide) (by kernel_rfl) (by kernel_rfl) (by kernel_rfl) (fun _ _ _ h => h) (Or.inl ⟨by rfl, fun w2 hSw => ?_⟩) hS9 (fun hS10 => ?_)
   ·go_simp
   simp only [Act.put, lsA, lsB, lsC]
   clear hS9
   clear hS10
   refine wpAnyL_one (i := 10) (o := ⟨none, .store 22 (.tmp 28) (.tmp 27), 0, "verify.go:253", #[⟨9, .data⟩, ⟨8, .data⟩, ⟨8, .chain⟩, ⟨0, .phase⟩, ⟨1, .phase⟩, ⟨2, .phase⟩, ⟨3, .phase⟩, ⟨4, .phase⟩, ⟨5, .phase⟩, ⟨6, .phase⟩, ⟨7, .phase⟩, ⟨8, .phase⟩], none⟩) (by kernel_rfl) rfl (fun K hK => ?_)
   go_simp
   go_wp2_with fail
   refine hK.out _ _ ⟨fun h => (by cases (show true = false from h)), trivial⟩ ?_
   clear hK K
   refine wpAnyL_done (by kernel_rfl) ?_ _
   have HNX : Hid (∃ va vb vc, Ld W g p rb cb va vb vc (j + 1) p.ns 0 (rowA p (j + 1)) (rowB p p.ns) [] (w8.setCell ⟨cb, 0, none⟩ (.slice ao8 (j + 1) cap8))) := by
    refine ⟨.slice ao8 (j + 1) cap8, vb, vc, ?_⟩
    rw [rowA_succ]
    exact HST.out.1
   clear HST z0 zf zl
   go_wp2
   go_roundw
   case rel => exact ⟨j + 1, by omega, by go_num, HNX.out⟩
   case measure => simp [intOf]; omega
  ·obtain rfl : j = p.nc := by omega
   have HD1 : Hid (∃ va vb vc, Ld W g p rb cb va vb vc p.nc p.ns 0 (rowA p p.nc) (rowB p p.ns) (rowC p 0) wr) := ⟨va, vb, vc, HLW.out⟩
   clear HLW
   go_upto_region 7 with fail
   go_loopw [5] (fun i wr => ∃ j : Nat, j ≤ p.n ∧ i = .int .i64 (j : Nat) ∧ Hid (∃ va vb vc, Ld W g p rb cb va vb vc p.nc p.ns j (rowA p p.nc) (rowB p p.ns) (rowC p j) wr)) (fun i _ => p.n - (intOf i).toNat)
   case atStart => exact ⟨0, by omega, rfl, HD1.out⟩
   case round =>
    obtain ⟨j, hj, rfl, HJ⟩ := hrel
    clear HD1
    obtain ⟨va, vb, vc, hld⟩ := HJ.out
    have HLW := hide hld
    have y := block_cell hld.prg 8
    have yl := block_lt hld.prg
    simp [Pg.cs] at y
    clear hld HJ
    by_cases hlt : j < p.n
    ·obtain ⟨hia, hib⟩ := HOK.out.hi (by omega)
     have HIA := hide hia
     have HLD := hide (HLW.out.drew (Below.refl _ _).drew)
     have HS1 : Hid ((fun (w : World) => w.heap[cb]? = some (.cells #[va, vb, .int .i64 (p.en 0), .int .i64 (p.en 1), .int .i64 (p.en 2), .int .i64 (p.en 3), .int .i64 (p.en 4), .int .i64 (p.en 5), vc] 27 (0, 0)) ∧ w.heap[W.heap.size]? = some (.cells (g.cs p).toArray 27 (0, 0)) ∧ Below W.heap.size W w) wr.drew) := ⟨HLD.out.box, HLD.out.prg, HLD.out.bel⟩
     have HS2 : Hid (∀ o, (fun (w : World) => w.heap[cb]? = some (.cells #[va, vb, .int .i64 (p.en 0), .int .i64 (p.en 1), .int .i64 (p.en 2), .int .i64 (p.en 3), .int .i64 (p.en 4), .int .i64 (p.en 5), vc] 27 (0, 0)) ∧ w.heap[W.heap.size]? = some (.cells (g.cs p).toArray 27 (0, 0)) ∧ Below W.heap.size W w) (wr.drew.alloc o)) := fun o => by
      have hh := HLD.out.drew (below_alloc1 wr.drew o)
      exact ⟨hh.box, hh.prg, hh.bel⟩
     have HOW : Hid (∀ o, (wr.drew.alloc o).ownsRow W.heap.size 42 2 vc j (rowC p j)) := fun o => row_quietT HLD.out.qc (World.grownBy_alloc _ _ none)
     have HSZ : Hid (∀ o, W.heap.size ≤ (wr.drew.alloc o).heap.size) := fun o => by
      have := HLD.out.bel.size
      simp at this ⊢
      omega
     clear hia
     go_upto_region 9 with fail
     clear y yl
     refine wp_region_L 10 (fun (w : World) => w.heap[cb]? = some (.cells #[va, vb, .int .i64 (p.en 0), .int .i64 (p.en 1), .int .i64 (p.en 2), .int .i64 (p.en 3), .int .i64 (p.en 4), .int .i64 (p.en 5), vc] 27 (0, 0)) ∧ w.heap[W.heap.size]? = some (.cells (g.cs p).toArray 27 (0, 0)) ∧ Below W.heap.size W w) (fun _ => True) (by kernel_rfl) HS1.out trivial (fun hS0 => ?_)
     refine wpAnyL_take (i := 0) (oi := ⟨some 36, .fieldAddr 27 (.tmp 3) 3, 0, "verify.go:256", #[], none⟩) (v := .pointer (some ⟨cb, 8, none⟩)) rfl (by decide) (by kernel_rfl) (by kernel_rfl) (by kernel_rfl) (fun _ _ _ h => h) (Or.inl ⟨by rfl, fun w2 hSw => ?_⟩) hS0 (fun hS1 => ?_)
     ·go_simp
     simp only [Act.put, lsA, lsB, lsC]
     clear hS0
     refine wpAnyL_take1 (i := 1) (oi := ⟨some 37, .load 25 (.tmp 36), 25, "verify.go:256", #[⟨0, .data⟩], none⟩) (v := vc) rfl (by decide) (by kernel_rfl) (by kernel_rfl) (by kernel_rfl) (fun _ _ _ h => h) (Or.inl ⟨by rfl, fun w2 hSw => ?_⟩) hS1 (by kernel_rfl) rfl (by kernel_rfl) (fun hS2 => ?_)
     ·obtain ⟨hbx, hpg, hbl⟩ := hSw
      have k0 := block_cell hbx 8
      have kl := block_lt hbx
      simp at k0
      go_simp
     simp only [Act.put, lsA, lsB, lsC]
     clear hS1
     refine wpAnyL_take (i := 2) (oi := ⟨some 38, .fieldAddr 27 (.tmp 1) 3, 0, "verify.go:256", #[], none⟩) (v := .pointer (some ⟨W.heap.size, 8, none⟩)) rfl (by decide) (by kernel_rfl) (by kernel_rfl) (by kernel_rfl) (fun _ _ _ h => h) (Or.inl ⟨by rfl, fun w2 hSw => ?_⟩) hS2 (fun hS3 => ?_)
     ·go_simp
     simp only [Act.put, lsA, lsB, lsC]
     clear hS2
     refine wpAnyL_take1 (i := 3) (oi := ⟨some 39, .load 25 (.tmp 38), 25, "verify.go:256", #[⟨2, .data⟩], none⟩) (v := .slice (some ⟨g.ib, g.io, none⟩) p.n g.ic) rfl (by decide) (by kernel_rfl) (by kernel_rfl) (by kernel_rfl) (fun _ _ _ h => h) (Or.inl ⟨by rfl, fun w2 hSw => ?_⟩) hS3 (by kernel_rfl) rfl (by kernel_rfl) (fun hS4 => ?_)
     ·obtain ⟨hbx, hpg, hbl⟩ := hSw
      have k0 := block_cell hpg 8
      have kl := block_lt hpg
      simp [Pg.cs, HIA.out] at k0
      go_simp
     simp only [Act.put, lsA, lsB, lsC]
     clear hS3
     refine wpAnyL_take (i := 4) (oi := ⟨some 40, .move (.tmp 5), 3, "verify.go:256", #[], none⟩) (v := .int .i64 (j : Nat)) rfl (by decide) (by kernel_rfl) (by kernel_rfl) (by kernel_rfl) (fun _ _ _ h => h) (Or.inl ⟨by rfl, fun w2 hSw => ?_⟩) hS4 (fun hS5 => ?_)
     ·go_simp
     simp only [Act.put, lsA, lsB, lsC]
     clear hS4
     refine wpAnyL_take (i := 5) (oi := ⟨some 41, .indexAddr 25 (.tmp 39) (.tmp 40), 0, "verify.go:256", #[⟨3, .data⟩, ⟨4, .data⟩], none⟩) (v := .pointer (some ⟨g.ib, g.io + j * 2, none⟩)) rfl (by decide) (by kernel_rfl) (by kernel_rfl) (by kernel_rfl) (fun _ _ _ h => h) (Or.inl ⟨by rfl, fun w2 hSw => ?_⟩) hS5 (fun hS6 => ?_)
     ·go_simp
     simp only [Act.put, lsA, lsB, lsC]
     clear hS5
     refine wpAnyL_take1 (i := 6) (oi := ⟨some 42, .load 42 (.tmp 41), 42, "verify.go:256", #[⟨5, .data⟩], none⟩) (v := .agg #[.int .i64 (p.op j), .int .i64 (p.arg j)]) rfl (by decide) (by kernel_rfl) (by kernel_rfl) (by kernel_rfl) (fun _ _ _ h => h) (Or.inl ⟨by rfl, fun w2 hSw => ?_⟩) hS6 (by kernel_rfl) rfl (by kernel_rfl) (fun hS7 => ?_)
     ·obtain ⟨hbx, hpg, hbl⟩ := hSw
      have e0 := (hbl.cell (p := ⟨g.ib, _, none⟩) hib).trans (HOK.out.vo j hlt)
      have e1 := (hbl.cell (p := ⟨g.ib, _, none⟩) hib).trans (HOK.out.va j hlt)
      have kl : g.ib < w2.heap.size := Nat.lt_of_lt_of_le hib hbl.size
      go_simp
     simp only [Act.put, lsA, lsB, lsC]
     clear hS6
     clear hS7
     refine wpAnyL_one (i := 7) (o := ⟨some 43, .buildSlice 25 1 #[(0, .tmp 42)], 25, "verify.go:256", #[⟨6, .data⟩], none⟩) (by kernel_rfl) rfl (fun K hK => ?_)
     go_simp
     go_wp2_with fail
     refine hK.out _ _ ⟨fun _ => HS2.out _, trivial⟩ ?_
     clear hK K
     obtain ⟨v8, w8, hrun, ho8, hg8, _⟩ := run_append_own (P := Tryz.prog) (wr.drew.alloc (.cells #[.int .i64 (p.op j), .int .i64 (p.arg j)] 42)) W.heap.size 25 25 42 iN (.agg #[.int .i64 0, .int .i64 0]) 2 16 Tryz.underlying25 hN hN0 hN1 hN2 rfl (by decide) vc j _ (HOW.out _) ⟨wr.drew.heap.size, 0, none⟩ 1 1 [.int .i64 (p.op j), .int .i64 (p.arg j)] rfl (cell_two_new _ _ _ _) (by simp [Value.oneCell']) (by unfold maxLen; omega) (by omega) (HSZ.out _)
     have hst := HLD.out.stepC ho8 hg8
     obtain ⟨ao8, cap8, hv8⟩ := own_val2 ho8
     have z0 := block_cell hst.2.1 8
     have zf := block_free hst.2.1 8
     have zl := block_lt hst.2.1
     simp at z0
     have HST := hide hst
     clear hst ho8 hg8
     refine wpAnyL_one (i := 8) (o := ⟨some 44, .call { callee := Callee.builtin .append, args := #[.tmp 37, .tmp 43], argTypes := #[25, 25] }, 25, "verify.go:256", #[⟨1, .data⟩, ⟨7, .data⟩], none⟩) (by kernel_rfl) rfl (fun K hK => ?_)
     rw [if_pos (by kernel_rfl)]
     refine wp_append1 (.tmp 37) (.tmp 43) 25 rfl (v := vc) (v' := v8) (w' := w8) rfl rfl hrun ?_
     simp only [Act.put, List.setIfInBounds_toArray]
     refine hK.out _ _ ⟨fun _ => ⟨HST.out.2.1, HST.out.2.2.1, HST.out.2.2.2⟩, trivial⟩ ?_
     clear hK K hrun
     subst hv8
     have hS9 : SSg 10 (fun (w : World) => w.heap[cb]? = some (.cells #[va, vb, .int .i64 (p.en 0), .int .i64 (p.en 1), .int .i64 (p.en 2), .int .i64 (p.en 3), .int .i64 (p.en 4), .int .i64 (p.en 5), vc] 27 (0, 0)) ∧ w.heap[W.heap.size]? = some (.cells (g.cs p).toArray 27 (0, 0)) ∧ Below W.heap.size W w) (fun _ => True) #[true, true, true, true, true, true, true, true, true, false, false] w8 := ⟨fun _ => ⟨HST.out.2.1, HST.out.2.2.1, HST.out.2.2.2⟩, trivial⟩
     refine wpAnyL_take (i := 9) (oi := ⟨some 45, .fieldAddr 27 (.tmp 3) 3, 0, "verify.go:256", #[⟨0, .phase⟩, ⟨1, .phase⟩, ⟨2, .phase⟩, ⟨3, .phase⟩, ⟨4, .phase⟩, ⟨5, .phase⟩, ⟨6, .phase⟩, ⟨7, .phase⟩, ⟨8, .phase⟩], none⟩) (v := .pointer (some ⟨cb, 8, none⟩)) rfl (by decide) (by kernel_rfl) (by kernel_rfl) (by kernel_rfl) (fun _ _ _ h => h) (Or.inl ⟨by rfl, fun w2 hSw => ?_⟩) hS9 (fun hS10 => ?_)
     ·go_simp
     simp only [Act.put, lsA, lsB, lsC]
     clear hS9
     clear hS10
     refine wpAnyL_one (i := 10) (o := ⟨none, .store 25 (.tmp 45) (.tmp 44), 0, "verify.go:256", #[⟨9, .data⟩, ⟨8, .data⟩, ⟨8, .chain⟩, ⟨0, .phase⟩, ⟨1, .phase⟩, ⟨2, .phase⟩, ⟨3, .phase⟩, ⟨4, .phase⟩, ⟨5, .phase⟩, ⟨6, .phase⟩, ⟨7, .phase⟩, ⟨8, .phase⟩], none⟩) (by kernel_rfl) rfl (fun K hK => ?_)
     go_simp
     go_wp2_with fail
     refine hK.out _ _ ⟨fun h => (by cases (show true = false from h)), trivial⟩ ?_
     clear hK K
     refine wpAnyL_done (by kernel_rfl) ?_ _
     have HNX : Hid (∃ va vb vc, Ld W g p rb cb va vb vc p.nc p.ns (j + 1) (rowA p p.nc) (rowB p p.ns) (rowC p (j + 1)) (w8.setCell ⟨cb, 8, none⟩ (.slice ao8 (j + 1) cap8))) := by
      refine ⟨va, vb, .slice ao8 (j + 1) cap8, ?_⟩
      rw [rowC_succ]
      exact HST.out.1
     clear HST z0 zf zl
     go_wp2
     go_roundw
     case rel => exact ⟨j + 1, by omega, by go_num, HNX.out⟩
     case measure => simp [intOf]; omega
    ·obtain rfl : j = p.n := by omega
     have HD2 : Hid (∃ va vb vc, Ld W g p rb cb va vb vc p.nc p.ns p.n (rowA p p.nc) (rowB p p.ns) (rowC p p.n) wr) := ⟨va, vb, vc, HLW.out⟩
     clear HLW
     obtain ⟨va, vb, vc, hld⟩ := HD2.out
     have HL := hide hld
     clear hld HD2
     go_upto_region 10 with fail
     clear y yl
     obtain ⟨g', rfl, rfl, rfl, hf⟩ := HL.out.pow HRB.out hb1 hb2 hb3
     have HF := hide hf
     clear hf
     have z0 := block_cell HL.out.box 0
     have z1 := block_cell HL.out.box 1
     have z2 := block_cell HL.out.box 2
     have z3 := block_cell HL.out.box 3
     have z4 := block_cell HL.out.box 4
     have z5 := block_cell HL.out.box 5
     have z6 := block_cell HL.out.box 6
     have z7 := block_cell HL.out.box 7
     have z8 := block_cell HL.out.box 8
     have zl := block_lt HL.out.box
     have r0 := block_cell HL.out.res 0
     have f0 := block_free HL.out.res 0
     have r1 := block_cell HL.out.res 1
     have f1 := block_free HL.out.res 1
     have r2 := block_cell HL.out.res 2
     have f2 := block_free HL.out.res 2
     have r3 := block_cell HL.out.res 3
     have f3 := block_free HL.out.res 3
     have r4 := block_cell HL.out.res 4
     have f4 := block_free HL.out.res 4
     have r5 := block_cell HL.out.res 5
     have f5 := block_free HL.out.res 5
     have r6 := block_cell HL.out.res 6
     have f6 := block_free HL.out.res 6
     have r7 := block_cell HL.out.res 7
     have f7 := block_free HL.out.res 7
     have r8 := block_cell HL.out.res 8
     have f8 := block_free HL.out.res 8
     have rl := block_lt HL.out.res
     simp at z0 r0 z1 r1 z2 r2 z3 r3 z4 r4 z5 r5 z6 r6 z7 r7 z8 r8
     have HR9 := hide (set9_at HL.out.res (.slice g'.ca p.nc g'.cc) (.slice g'.sa p.ns g'.sc) (.int .i64 (p.en 0)) (.int .i64 (p.en 1)) (.int .i64 (p.en 2)) (.int .i64 (p.en 3)) (.int .i64 (p.en 4)) (.int .i64 (p.en 5)) (.slice g'.ia p.n g'.ic))
     clear HL
     go_wp2
     have hr9 := HR9.out
     have q0 := block_cell hr9 0
     have q1 := block_cell hr9 1
     have q2 := block_cell hr9 2
     have q3 := block_cell hr9 3
     have q4 := block_cell hr9 4
     have q5 := block_cell hr9 5
     have q6 := block_cell hr9 6
     have q7 := block_cell hr9 7
     have q8 := block_cell hr9 8
     unfold set9 at q0 q1 q2 q3 q4 q5 q6 q7 q8
     refine bodyPost_ret (v := .agg (g'.cs p).toArray) (by simp [results, Tryz.results8, go_sem, q0, q1, q2, q3, q4, q5, q6, q7, q8, Pg.cs]) rfl ?_
     exact ⟨g', rfl, HF.out⟩
end Go.Proofs.YtggpaljilpbmhaaGreatDoor
