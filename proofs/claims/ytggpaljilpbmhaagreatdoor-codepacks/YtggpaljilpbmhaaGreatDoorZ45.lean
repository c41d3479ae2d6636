import Derived.Test.YtggpaljilpbmhaaGreatDoorZ50
import Derived.Test.YtggpaljilpbmhaaGreatDoorZ23
import Derived.Test.YtggpaljilpbmhaaGreatDoorZ25
import Derived.Deep.DeepCutAuto
namespace Go.Proofs.YtggpaljilpbmhaaGreatDoor
open Go.RowKit

set_option maxRecDepth 10000 in
set_option maxHeartbeats 25600000 in
theorem unpackQ {W : World} {l0 : Nat} {ao : Option Addr} {n cap : Nat} {B : List Nat} (h : Shows l0 W ao n cap B) (hl : l0 ≤ W.heap.size) :
  Calls Tryz.prog 49 #[.slice ao n cap] W (UpQ W B) := by
 obtain ⟨iN, hN, hN0, hN1, hN2⟩ := info_parts Tryz.infoN
 have HIN := hide (And.intro hN (And.intro hN0 (And.intro hN1 hN2)))
 clear hN hN0 hN1 hN2
 obtain ⟨W2, hW2⟩ : ∃ W2, (W.alloc (.cells zP 27)).alloc (.cells #[.slice none 0 0, .int .i64 0] 54) = W2 := ⟨_, rfl⟩
 obtain ⟨q0, q1, b2⟩ := two_box2L W _ _ _ _ hW2
 obtain ⟨b0, hrb⟩ : ∃ rb, W.heap.size = rb := ⟨_, rfl⟩
 have HBX : Hid (Bx W b0 W2) := ⟨b2, by rw [← hrb]; exact q0, by rw [← hrb]; exact q1, by omega⟩
 have HNW := hide (refNew_any (h.kept (row := none) (grown_belowU b2) (fun g e => by cases e)) (Nat.le_trans hl b2.size))
 have HBB : Hid (∀ x ∈ B, x < 256) := h.2.2.2.1
 have HN := hide h.1
 have HB0 := hide hrb
 have HW2 := hide hW2
 clear h hl hW2 q0 q1 b2
 unfold zP at HW2
 go_enter Tryz.func49, Tryz.ntmps49
 go_upto_region 1 with fail
 rw [HW2.out]
 clear HW2 hrb
 by_cases h8 : 8192 < n
 ·have HNO : Hid (upF B = .error (fzO 8192 80)) := upF_long (by rw [← HN.out]; exact h8)
  have HRF := hide (refuseN 80 8192 W2)
  unfold FvN at HRF
  go_wp2_with fail
  refine HRF.out.mono ?_
  rintro x w3 ⟨aF, cF, rfl, G⟩
  obtain ⟨bF, oF, _, f3, bl3⟩ := G.out
  have HB3 := hide (HBX.out.next bl3)
  have HF3 := hide f3
  clear G f3 bl3 HBX HRF HNW
  have x0 := block_cell HB3.out.a0 0
  have f0 := block_free HB3.out.a0 0
  have x1 := block_cell HB3.out.a0 1
  have f1 := block_free HB3.out.a0 1
  have x2 := block_cell HB3.out.a0 2
  have f2 := block_free HB3.out.a0 2
  have x3 := block_cell HB3.out.a0 3
  have f3 := block_free HB3.out.a0 3
  have x4 := block_cell HB3.out.a0 4
  have f4 := block_free HB3.out.a0 4
  have x5 := block_cell HB3.out.a0 5
  have f5 := block_free HB3.out.a0 5
  have x6 := block_cell HB3.out.a0 6
  have f6 := block_free HB3.out.a0 6
  have x7 := block_cell HB3.out.a0 7
  have f7 := block_free HB3.out.a0 7
  have x8 := block_cell HB3.out.a0 8
  have f8 := block_free HB3.out.a0 8
  have xl := block_lt HB3.out.a0
  simp [zP] at x0 x1 x2 x3 x4 x5 x6 x7 x8
  have y0 := block_cell HB3.out.a1 0
  have y1 := block_cell HB3.out.a1 1
  have g0 := block_free HB3.out.a1 0
  have g1 := block_free HB3.out.a1 1
  have gl := block_lt HB3.out.a1
  simp at y0 y1
  clear h8
  go_wp2
  obtain ⟨w91, hw91⟩ : ∃ w91, set9 w3 b0 (.slice none 0 0) (.slice none 0 0) (.int .i64 0) (.int .i64 0) (.int .i64 0) (.int .i64 0) (.int .i64 0) (.int .i64 0) (.slice none 0 0) = w91 := ⟨_, rfl⟩
  obtain ⟨w92, hw92⟩ : ∃ w92, (w91.setCell ⟨b0 + 1, 0, none⟩ (.slice aF 1 cF)).setCell ⟨b0 + 1, 1, none⟩ (.int .i64 80) = w92 := ⟨_, rfl⟩
  obtain ⟨s1, s2, gA, k1, k2, gB, kb⟩ := HB3.out.fin hw91 hw92
  unfold set9 at hw91
  rw [hw91, hw92]
  have HEX : Hid (Below W.heap.size W w92 ∧ upF B = .error (fzO 8192 80) ∧ (fzO 8192 80).2 ≠ 0 ∧ ∃ b off, FV w92.heap.size w92 aF (fzO 8192 80).1 b off) := ⟨kb, HNO.out, (by decide), _, _, (HF3.out.grownX gA HB3.out.a0 zP_noS).grownX gB s2 (flt_noS _ _ _ _)⟩
  clear hw91 hw92 s1 s2 gA gB kb HB3 HF3 HNO x0 x1 x2 x3 x4 x5 x6 x7 x8 f0 f1 f2 f3 f4 f5 f6 f7 f8 xl y0 y1 g0 g1 gl
  have c0 := block_cell k1 0
  have c1 := block_cell k1 1
  have c2 := block_cell k1 2
  have c3 := block_cell k1 3
  have c4 := block_cell k1 4
  have c5 := block_cell k1 5
  have c6 := block_cell k1 6
  have c7 := block_cell k1 7
  have c8 := block_cell k1 8
  have d0 := block_cell k2 0
  have d1 := block_cell k2 1
  simp at c0 c1 c2 c3 c4 c5 c6 c7 c8 d0 d1
  refine bodyPost_ret (v := .tuple #[.agg #[.slice none 0 0, .slice none 0 0, .int .i64 0, .int .i64 0, .int .i64 0, .int .i64 0, .int .i64 0, .int .i64 0, .slice none 0 0], .agg #[.slice aF 1 cF, .int .i64 80]]) (by simp [results, Tryz.results49, go_sem, c0, c1, c2, c3, c4, c5, c6, c7, c8, d0, d1]) rfl ?_
  exact .inl ⟨fzO 8192 80, aF, cF, rfl, HEX⟩
 ·have HL8 : Hid (¬ 8192 < B.length) := by
   have e := HN.out
   have : ¬ 8192 < B.length := by omega
   exact this
  go_upto_region 3 with fail
  go_wp2_with fail
  refine HNW.out.mono ?_
  rintro x w3 ⟨rp, d, rfl, r1, r2, r3, hR3, bl3⟩
  obtain ⟨w4, hw4⟩ : ∃ w4, w3.alloc (.cells #[.pointer (some ⟨rp, 0, none⟩), .slice none 0 0, .int .i64 0] 171) = w4 := ⟨_, rfl⟩
  have b4 : Below w3.heap.size w3 w4 := by rw [← hw4]; exact below_alloc1 _ _
  have A4 : w4.heap[w3.heap.size]? = some (.cells #[.pointer (some ⟨rp, 0, none⟩), .slice none 0 0, .int .i64 0] 171 (0, 0)) := by rw [← hw4]; exact alloc_atK _ _
  have hs4 : w4.heap.size = w3.heap.size + 1 := by rw [← hw4]; simp
  obtain ⟨ub, hub⟩ : ∃ ub, w3.heap.size = ub := ⟨_, rfl⟩
  have hrpl : rp < w3.heap.size := by
   obtain ⟨_, _, hb⟩ := hR3.blk
   exact block_lt hb
  have HBX4 := hide ((HBX.out.next bl3).next b4)
  have hW2s : b0 + 1 < W2.heap.size := block_lt HBX.out.a1
  have HLT : Hid (ub ≠ b0 ∧ ub ≠ b0 + 1 ∧ b0 + 1 < ub ∧ b0 + 1 < rp ∧ rp ≠ ub) := by
   have := bl3.size
   exact hide ⟨by omega, by omega, by omega, by omega, by omega⟩
  have HNE : Hid (ub ≠ rp ∧ ub ≠ d) := ⟨by omega, by omega⟩
  have HUS : Hid (Us d rp ub 0 B (.ok 0) w4) := ⟨HNE.out, by rw [← hub]; exact A4, hR3.below b4⟩
  have HLO : Hid (d < w4.heap.size ∧ rp < w4.heap.size ∧ ub < w4.heap.size) := ⟨by omega, by omega, by omega⟩
  have HW4 := hide hw4
  have HWS : Hid (W.heap.size ≤ w4.heap.size) := Nat.le_trans HBX.out.bel.size (Nat.le_trans bl3.size b4.size)
  have HHQ := hide (headQ HUS.out HLO.out HBB.out)
  clear HBX HNW r1 r2 r3 hR3 bl3 b4 A4 hs4 hrpl hw4 hW2s h8
  go_upto_region 4 with fail
  rw [HW4.out]
  clear HW4
  try rw [hub]
  clear hub
  go_wp2_with fail
  refine HHQ.out.mono ?_
  intro x w5 hh
  obtain ⟨q, nc, ns, aa, ca, ab, cb, r, rfl, G⟩ := hh
  obtain ⟨hf5, hu5, hsg⟩ := G.out
  obtain ⟨w6, hw6⟩ : ∃ w6, w5.alloc (.cells #[.slice aa nc ca, .slice ab ns cb, .int .i64 (q.en 0), .int .i64 (q.en 1), .int .i64 (q.en 2), .int .i64 (q.en 3), .int .i64 (q.en 4), .int .i64 (q.en 5), .slice none 0 0] 27) = w6 := ⟨_, rfl⟩
  have b6 : Below w5.heap.size w5 w6 := by rw [← hw6]; exact below_alloc1 _ _
  have A6 : w6.heap[w5.heap.size]? = some (.cells #[.slice aa nc ca, .slice ab ns cb, .int .i64 (q.en 0), .int .i64 (q.en 1), .int .i64 (q.en 2), .int .i64 (q.en 3), .int .i64 (q.en 4), .int .i64 (q.en 5), .slice none 0 0] 27 (0, 0)) := by rw [← hw6]; exact alloc_atK _ _
  have hs6 : w6.heap.size = w5.heap.size + 1 := by rw [← hw6]; simp
  have HBX6 := hide ((HBX4.out.two hf5 HLT.out.2.2.1 HLT.out.2.2.2.1).next b6)
  have HU6 := hide (hu5.next b6)
  obtain ⟨pb, hpb⟩ : ∃ pb, w5.heap.size = pb := ⟨_, rfl⟩
  have HLT6 : Hid (b0 + 1 < ub ∧ b0 + 1 < rp ∧ b0 + 1 < pb) := by
   have := hf5.size
   have := HLO.out
   exact hide ⟨HLT.out.2.2.1, HLT.out.2.2.2.1, by have := HLT.out; omega⟩
  have HSG := hide hsg
  have HA6 := hide A6
  have HB6 := hide b6
  have HS6 := hide (And.intro hs6 (And.intro hpb hf5.size))
  have HW6 := hide hw6
  clear HHQ G hf5 hu5 hsg hw6 b6 A6 hs6 HBX4
  rw [hpb] at HA6
  go_upto_region 5 with fail
  rw [HW6.out]
  clear HW6
  try rw [hpb]
  clear hpb
  have HBD := hide (badU HU6.out (Nat.zero_le _))
  go_wp2_with fail
  refine HBD.out.mono ?_
  rintro x w7 ⟨rfl, G⟩
  clear HBD
  have hrs := HSG.out
  rcases hrs with ⟨z, rfl, hz⟩ | ⟨pos, rfl, hx, rfl, rfl, ho1, ho2⟩
  ·have HZ : Hid (upF B = .error z) := upF_bad HL8.out hz
   have HUF : Hid (UF d rp ub 0 z w7) := G.out.1
   have HBX := hide (HBX6.out.two G.out.2 HLT6.out.1 HLT6.out.2.1)
   clear hz HSG HU6 G HBX6 HA6
   have hE : isE (.error z) = true := rfl
   rw [hE]
   clear hE
   obtain ⟨_, hy0, s9, aF, cF, bF, oF, hm9, _, hu9, hf9, hr9⟩ := HUF.out
   obtain ⟨nz, hnz⟩ : ∃ nz, z.1.length = nz := ⟨_, rfl⟩
   obtain ⟨yz, hyz⟩ : ∃ yz, z.2 = yz := ⟨_, rfl⟩
   rw [hnz, hyz] at hu9
   have HF9 := hide hf9
   have HU9 := hide hu9
   have HNY := hide (And.intro hnz (And.intro hyz hy0))
   clear hnz hyz hu9 hf9 hr9 hm9 hy0 HUF
   go_upto_region 6 with fail
   refine wp_region_held_drew (S := fun (w : World) => w.heap[ub]? = some (.cells #[.pointer (some ⟨rp, 0, none⟩), .slice aF nz cF, .int .i64 yz] 171 (0, 0))) (by kernel_rfl) HU9.out (fun hH => ?_)
   obtain ⟨wz, hwz⟩ : ∃ wz, w7.drew = wz := ⟨_, rfl⟩
   rw [hwz] at hH ⊢
   have HBd : Hid (Bx W b0 wz) := by rw [← hwz]; exact HBX.out.next (Below.refl _ w7).drew
   have HFz : Hid (FV wz.heap.size wz aF z.1 bF oF) := by rw [← hwz]; exact HF9.out.next (Below.refl _ w7).drew
   clear hwz
   refine wpAnyH_take (i := 0) (oi := ⟨some 25, .build 27 #[], 27, "verify.go:444", #[], none⟩) (v := .agg #[.slice none 0 0, .slice none 0 0, .int .i64 0, .int .i64 0, .int .i64 0, .int .i64 0, .int .i64 0, .int .i64 0, .slice none 0 0]) rfl (by kernel_rfl) (by kernel_rfl) (by kernel_rfl) (fun _ _ _ h => h) (Or.inl ⟨by rfl, fun w' hSw => ?_⟩) hH ?_
   ·go_simp
   simp only [Act.put, lsA, lsB, lsC]
   refine wpAnyH_take (i := 1) (oi := ⟨some 26, .move (.tmp 4), 167, "verify.go:444", #[⟨5, .gcOnly .lateStores⟩], none⟩) (v := .pointer (some ⟨ub, 0, none⟩)) rfl (by kernel_rfl) (by kernel_rfl) (by kernel_rfl) (fun _ _ _ h => h) (Or.inl ⟨by rfl, fun w' hSw => ?_⟩) hH ?_
   ·go_simp
   simp only [Act.put, lsA, lsB, lsC]
   refine wpAnyH_take (i := 2) (oi := ⟨some 27, .nilCheck (.tmp 26), 0, "verify.go:444", #[⟨1, .data⟩, ⟨5, .gcOnly .lateStores⟩], none⟩) (v := .pointer (some ⟨ub, 0, none⟩)) rfl (by kernel_rfl) (by kernel_rfl) (by kernel_rfl) (fun _ _ _ h => h) (Or.inl ⟨by rfl, fun w' hSw => ?_⟩) hH ?_
   ·go_simp
   simp only [Act.put, lsA, lsB, lsC]
   refine wpAnyH_take (i := 3) (oi := ⟨some 28, .fieldAddr 171 (.tmp 27) 1, 0, "verify.go:444", #[⟨2, .data⟩, ⟨5, .gcOnly .lateStores⟩], none⟩) (v := .pointer (some ⟨ub, 1, none⟩)) rfl (by kernel_rfl) (by kernel_rfl) (by kernel_rfl) (fun _ _ _ h => h) (Or.inl ⟨by rfl, fun w' hSw => ?_⟩) hH ?_
   ·go_simp
   simp only [Act.put, lsA, lsB, lsC]
   refine wpAnyH_take (i := 4) (oi := ⟨some 29, .load 54 (.tmp 28), 54, "verify.go:444", #[⟨3, .data⟩, ⟨5, .gcOnly .lateStores⟩], none⟩) (v := .agg #[.slice aF nz cF, .int .i64 yz]) rfl (by kernel_rfl) (by kernel_rfl) (by kernel_rfl) (fun _ _ _ h => h) (Or.inl ⟨by rfl, fun w' hSw => ?_⟩) hH ?_
   ·have k1 := block_cell hSw 1
    have k2 := block_cell hSw 2
    have kl := block_lt hSw
    simp at k1 k2
    go_simp
   simp only [Act.put, lsA, lsB, lsC]
   have x0 := block_cell HBd.out.a0 0
   have f0 := block_free HBd.out.a0 0
   have x1 := block_cell HBd.out.a0 1
   have f1 := block_free HBd.out.a0 1
   have x2 := block_cell HBd.out.a0 2
   have f2 := block_free HBd.out.a0 2
   have x3 := block_cell HBd.out.a0 3
   have f3 := block_free HBd.out.a0 3
   have x4 := block_cell HBd.out.a0 4
   have f4 := block_free HBd.out.a0 4
   have x5 := block_cell HBd.out.a0 5
   have f5 := block_free HBd.out.a0 5
   have x6 := block_cell HBd.out.a0 6
   have f6 := block_free HBd.out.a0 6
   have x7 := block_cell HBd.out.a0 7
   have f7 := block_free HBd.out.a0 7
   have x8 := block_cell HBd.out.a0 8
   have f8 := block_free HBd.out.a0 8
   have xl := block_lt HBd.out.a0
   simp [zP] at x0 x1 x2 x3 x4 x5 x6 x7 x8
   refine wpAnyH_ready (rs := [5]) (by kernel_rfl) (by simp) ?_
   refine AllReadyH.cons rfl (fun K hK => ?_) AllReadyH.nil
   go_simp
   go_wp2_with fail
   obtain ⟨w91, hw91⟩ : ∃ w91, set9 wz b0 (.slice none 0 0) (.slice none 0 0) (.int .i64 0) (.int .i64 0) (.int .i64 0) (.int .i64 0) (.int .i64 0) (.int .i64 0) (.slice none 0 0) = w91 := ⟨_, rfl⟩
   obtain ⟨w92, hw92⟩ : ∃ w92, (w91.setCell ⟨b0 + 1, 0, none⟩ (.slice aF nz cF)).setCell ⟨b0 + 1, 1, none⟩ (.int .i64 yz) = w92 := ⟨_, rfl⟩
   obtain ⟨s1, s2, gA, k1, k2, gB, kb⟩ := HBd.out.fin hw91 hw92
   unfold set9 at hw91
   rw [hw91]
   have HS1 : Hid ((fun (w : World) => w.heap[ub]? = some (.cells #[.pointer (some ⟨rp, 0, none⟩), .slice aF nz cF, .int .i64 yz] 171 (0, 0))) w91) := (gA.block _ (block_lt hH) (by simpa using HLT.out.1)).trans hH
   have HS2 : Hid ((fun (w : World) => w.heap[ub]? = some (.cells #[.pointer (some ⟨rp, 0, none⟩), .slice aF nz cF, .int .i64 yz] 171 (0, 0))) w92) := (gB.block _ (block_lt HS1.out) (by simpa using HLT.out.2.1)).trans HS1.out
   have HFX : Hid (FV w92.heap.size w92 aF z.1 bF oF) := (HFz.out.grownX gA HBd.out.a0 zP_noS).grownX gB s2 (flt_noS _ _ _ _)
   have HK1 := hide k1
   have HK2 := hide k2
   have HKB := hide kb
   have HW92 := hide hw92
   have HS22 := hide s2
   clear hw91 hw92 s1 s2 gA k1 k2 gB kb HBd x0 x1 x2 x3 x4 x5 x6 x7 x8 f0 f1 f2 f3 f4 f5 f6 f7 f8 xl
   refine hK.out _ _ HS1.out (fun _ => ?_)
   clear hK K
   have y0 := block_cell HS22.out 0
   have y1 := block_cell HS22.out 1
   have g0 := block_free HS22.out 0
   have g1 := block_free HS22.out 1
   have gl := block_lt HS22.out
   simp at y0 y1
   refine wpAnyH_ready (rs := [6]) (by kernel_rfl) (by simp) ?_
   refine AllReadyH.cons rfl (fun K hK => ?_) AllReadyH.nil
   go_simp
   go_wp2_with fail
   rw [HW92.out]
   refine hK.out _ _ HS2.out (fun _ => ?_)
   clear hK K y0 y1 g0 g1 gl HW92 HS22
   refine wpAnyH_done (by kernel_rfl) ?_ _
   have k1 := HK1.out
   have k2 := HK2.out
   have HEX : Hid (Below W.heap.size W w92 ∧ upF B = .error z ∧ z.2 ≠ 0 ∧ ∃ b off, FV w92.heap.size w92 aF z.1 b off) := ⟨HKB.out, HZ.out, HNY.out.2.2, _, _, HFX.out⟩
   clear HK1 HK2 HKB HFX HS1 HS2
   go_wp2
   have c0 := block_cell k1 0
   have c1 := block_cell k1 1
   have c2 := block_cell k1 2
   have c3 := block_cell k1 3
   have c4 := block_cell k1 4
   have c5 := block_cell k1 5
   have c6 := block_cell k1 6
   have c7 := block_cell k1 7
   have c8 := block_cell k1 8
   have d0 := block_cell k2 0
   have d1 := block_cell k2 1
   simp at c0 c1 c2 c3 c4 c5 c6 c7 c8 d0 d1
   refine bodyPost_ret (v := .tuple #[.agg #[.slice none 0 0, .slice none 0 0, .int .i64 0, .int .i64 0, .int .i64 0, .int .i64 0, .int .i64 0, .int .i64 0, .slice none 0 0], .agg #[.slice aF nz cF, .int .i64 yz]]) (by simp [results, Tryz.results49, go_sem, c0, c1, c2, c3, c4, c5, c6, c7, c8, d0, d1]) rfl ?_
   exact .inl ⟨z, aF, cF, by rw [HNY.out.1, HNY.out.2.1]; rfl, HEX⟩
  ·obtain ⟨nc, hnc⟩ : ∃ nc, q.nc = nc := ⟨_, rfl⟩
   obtain ⟨ns, hns⟩ : ∃ ns, q.ns = ns := ⟨_, rfl⟩
   rw [hnc] at ho1 HA6 ⊢
   rw [hns] at ho2 HA6 ⊢
   have HX := hide hx
   have HV6 : Hid (Vh w6 w4.heap.size w4.heap.size w6.heap.size d rp ub pb 0 B (.ok pos) (.slice aa nc ca) (.slice ab ns cb) (.slice none 0 0) nc ns 0 (nums .u64 (q).C nc) (nums .i64 (q).S ns) (nums2 (q).op (q).arg 0) (q).en w6) := by
    obtain ⟨e1, e2, e3⟩ := HS6.out
    have := HLO.out
    refine ⟨HA6.out, HU6.out, row_quietT ho1 (grown_belowU HB6.out), row_quietT ho2 (grown_belowU HB6.out), World.ownsRow_nil _ _ _ _, Fr3.refl _ _ _ _, ⟨by omega, by omega, by omega, by omega⟩, ⟨by omega, by omega, by omega⟩, ⟨by omega, by omega, Nat.le_refl _⟩⟩
   have HV7 := hide (HV6.out.read G.out.2 G.out.1.us)
   have HQN := hide (And.intro hnc hns)
   clear hx ho1 ho2 HSG HU6 G HA6 hnc hns HV6
   have hE : isE (.ok pos : Except Fz Nat) = false := rfl
   rw [hE]
   clear hE
   have k0 := HV7.out.us.ucell
   have kl := block_lt_of_cell k0
   have HCN := hide (countQ HV7.out.us 1024 (by decide) (by decide))
   go_upto_region 7 with fail
   go_wp2_with fail
   refine HCN.out.mono ?_
   rintro x w8 ⟨m, rfl, G⟩
   obtain ⟨_, hm, hu, hf⟩ := G.out
   have HV8 := hide (HV7.out.read hf hu)
   have HS8 := hide (cnt4_math HBB.out HX.out (hm pos rfl))
   obtain ⟨r8, hr8⟩ : ∃ r, rdR B (fun L => (countAt L 1024).2.1) (fun L => (countAt L 1024).2.2) (.ok pos) = r := ⟨_, rfl⟩
   rw [hr8] at HV8 HS8
   clear hr8 G hu hf HCN HV7 HX hm k0 kl
   go_upto_region 9 with fail
   go_loopw [7] (fun i wr => ∃ (j : Nat) (vc : Value) (q : Pv) (r : Except Fz Nat), j ≤ m ∧ i = .int .i64 (j : Nat) ∧ Hid (q.nc = nc ∧ q.ns = ns ∧ q.n = m ∧ Sg (fun p => X4 B q j p) B r) ∧ Hid (Vh w6 w4.heap.size w4.heap.size w6.heap.size d rp ub pb 0 B r (.slice aa nc ca) (.slice ab ns cb) vc nc ns j (nums .u64 (q).C nc) (nums .i64 (q).S ns) (nums2 (q).op (q).arg j) (q).en wr)) (fun i _ => m - (intOf i).toNat)
   case atStart => exact ⟨0, _, setN q m, r8, Nat.zero_le _, rfl, hide ⟨HQN.out.1, HQN.out.2, rfl, HS8.out⟩, HV8⟩
   case round =>
    obtain ⟨j, vc, q, r, hj, rfl, HSJ, HVJ⟩ := hrel
    clear HS8 HV8 HQN
    have hrs := HSJ.out.2.2.2
    by_cases hlt : j < m
    ·have t1 : decide (j < m) = true := by simpa using hlt
     have t2 : decide (((j : Nat) : Int) < (m : Int)) = true := by simp; omega
     rcases hrs with ⟨z, rfl, hz⟩ | ⟨pos, rfl, hx⟩
     ·have HZR := hide hz
      clear hz HSJ
      go_upto_region 9 with fail
      have HBD := hide (badU HVJ.out.us (Nat.zero_le _))
      go_wp2_with fail
      refine HBD.out.mono ?_
      rintro x wa ⟨rfl, G⟩
      have HVa := hide (HVJ.out.read G.out.2 G.out.1.us)
      clear G HBD HVJ
      have hE : isE (.error z) = true := rfl
      rw [hE]
      clear hE
      clear t1 t2
      go_upto_region 18 with fail
      have HBD := hide (badU HVa.out.us (Nat.zero_le _))
      go_wp2_with fail
      refine HBD.out.mono ?_
      rintro x wp ⟨rfl, G⟩
      have HVp := hide (HVa.out.read G.out.2 G.out.1.us)
      clear G HBD HVa
      have hE : isE (.error z) = true := rfl
      rw [hE]
      clear hE
      go_upto_region 20 with fail
      have HBD := hide (badU HVp.out.us (Nat.zero_le _))
      go_wp2_with fail
      refine HBD.out.mono ?_
      rintro x wr2 ⟨rfl, G⟩
      have HVq := hide (HVp.out.read G.out.2 G.out.1.us)
      have HUF : Hid (UF d rp ub 0 z wr2) := G.out.1
      clear G HBD HVp
      have hE : isE (.error z) = true := rfl
      rw [hE]
      clear hE
      have HBX := hide (HBX6.out.three HVq.out.fr HLT6.out.1 HLT6.out.2.1 HLT6.out.2.2)
      have HZ : Hid (upF B = .error z) := upF_bad HL8.out HZR.out
      clear HVq HBX6
      obtain ⟨_, hy0, s9, aF, cF, bF, oF, hm9, _, hu9, hf9, hr9⟩ := HUF.out
      obtain ⟨nz, hnz⟩ : ∃ nz, z.1.length = nz := ⟨_, rfl⟩
      obtain ⟨yz, hyz⟩ : ∃ yz, z.2 = yz := ⟨_, rfl⟩
      rw [hnz, hyz] at hu9
      have HF9 := hide hf9
      have HU9 := hide hu9
      have HNY := hide (And.intro hnz (And.intro hyz hy0))
      clear hnz hyz hu9 hf9 hr9 hm9 hy0 HUF
      go_upto_region 21 with fail
      refine wp_region_held_drew (S := fun (w : World) => w.heap[ub]? = some (.cells #[.pointer (some ⟨rp, 0, none⟩), .slice aF nz cF, .int .i64 yz] 171 (0, 0))) (by kernel_rfl) HU9.out (fun hH => ?_)
      obtain ⟨wz, hwz⟩ : ∃ wz, wr2.drew = wz := ⟨_, rfl⟩
      rw [hwz] at hH ⊢
      have HBd : Hid (Bx W b0 wz) := by rw [← hwz]; exact HBX.out.next (Below.refl _ wr2).drew
      have HFz : Hid (FV wz.heap.size wz aF z.1 bF oF) := by rw [← hwz]; exact HF9.out.next (Below.refl _ wr2).drew
      clear hwz
      refine wpAnyH_take (i := 0) (oi := ⟨some 117, .build 27 #[], 27, "verify.go:461", #[], none⟩) (v := .agg #[.slice none 0 0, .slice none 0 0, .int .i64 0, .int .i64 0, .int .i64 0, .int .i64 0, .int .i64 0, .int .i64 0, .slice none 0 0]) rfl (by kernel_rfl) (by kernel_rfl) (by kernel_rfl) (fun _ _ _ h => h) (Or.inl ⟨by rfl, fun w' hSw => ?_⟩) hH ?_
      ·go_simp
      simp only [Act.put, lsA, lsB, lsC]
      refine wpAnyH_take (i := 1) (oi := ⟨some 118, .move (.tmp 4), 167, "verify.go:461", #[⟨5, .gcOnly .lateStores⟩], none⟩) (v := .pointer (some ⟨ub, 0, none⟩)) rfl (by kernel_rfl) (by kernel_rfl) (by kernel_rfl) (fun _ _ _ h => h) (Or.inl ⟨by rfl, fun w' hSw => ?_⟩) hH ?_
      ·go_simp
      simp only [Act.put, lsA, lsB, lsC]
      refine wpAnyH_take (i := 2) (oi := ⟨some 119, .nilCheck (.tmp 118), 0, "verify.go:461", #[⟨1, .data⟩, ⟨5, .gcOnly .lateStores⟩], none⟩) (v := .pointer (some ⟨ub, 0, none⟩)) rfl (by kernel_rfl) (by kernel_rfl) (by kernel_rfl) (fun _ _ _ h => h) (Or.inl ⟨by rfl, fun w' hSw => ?_⟩) hH ?_
      ·go_simp
      simp only [Act.put, lsA, lsB, lsC]
      refine wpAnyH_take (i := 3) (oi := ⟨some 120, .fieldAddr 171 (.tmp 119) 1, 0, "verify.go:461", #[⟨2, .data⟩, ⟨5, .gcOnly .lateStores⟩], none⟩) (v := .pointer (some ⟨ub, 1, none⟩)) rfl (by kernel_rfl) (by kernel_rfl) (by kernel_rfl) (fun _ _ _ h => h) (Or.inl ⟨by rfl, fun w' hSw => ?_⟩) hH ?_
      ·go_simp
      simp only [Act.put, lsA, lsB, lsC]
      refine wpAnyH_take (i := 4) (oi := ⟨some 121, .load 54 (.tmp 120), 54, "verify.go:461", #[⟨3, .data⟩, ⟨5, .gcOnly .lateStores⟩], none⟩) (v := .agg #[.slice aF nz cF, .int .i64 yz]) rfl (by kernel_rfl) (by kernel_rfl) (by kernel_rfl) (fun _ _ _ h => h) (Or.inl ⟨by rfl, fun w' hSw => ?_⟩) hH ?_
      ·have k1 := block_cell hSw 1
       have k2 := block_cell hSw 2
       have kl := block_lt hSw
       simp at k1 k2
       go_simp
      simp only [Act.put, lsA, lsB, lsC]
      have x0 := block_cell HBd.out.a0 0
      have f0 := block_free HBd.out.a0 0
      have x1 := block_cell HBd.out.a0 1
      have f1 := block_free HBd.out.a0 1
      have x2 := block_cell HBd.out.a0 2
      have f2 := block_free HBd.out.a0 2
      have x3 := block_cell HBd.out.a0 3
      have f3 := block_free HBd.out.a0 3
      have x4 := block_cell HBd.out.a0 4
      have f4 := block_free HBd.out.a0 4
      have x5 := block_cell HBd.out.a0 5
      have f5 := block_free HBd.out.a0 5
      have x6 := block_cell HBd.out.a0 6
      have f6 := block_free HBd.out.a0 6
      have x7 := block_cell HBd.out.a0 7
      have f7 := block_free HBd.out.a0 7
      have x8 := block_cell HBd.out.a0 8
      have f8 := block_free HBd.out.a0 8
      have xl := block_lt HBd.out.a0
      simp [zP] at x0 x1 x2 x3 x4 x5 x6 x7 x8
      refine wpAnyH_ready (rs := [5]) (by kernel_rfl) (by simp) ?_
      refine AllReadyH.cons rfl (fun K hK => ?_) AllReadyH.nil
      go_simp
      go_wp2_with fail
      obtain ⟨w91, hw91⟩ : ∃ w91, set9 wz b0 (.slice none 0 0) (.slice none 0 0) (.int .i64 0) (.int .i64 0) (.int .i64 0) (.int .i64 0) (.int .i64 0) (.int .i64 0) (.slice none 0 0) = w91 := ⟨_, rfl⟩
      obtain ⟨w92, hw92⟩ : ∃ w92, (w91.setCell ⟨b0 + 1, 0, none⟩ (.slice aF nz cF)).setCell ⟨b0 + 1, 1, none⟩ (.int .i64 yz) = w92 := ⟨_, rfl⟩
      obtain ⟨s1, s2, gA, k1, k2, gB, kb⟩ := HBd.out.fin hw91 hw92
      unfold set9 at hw91
      rw [hw91]
      have HS1 : Hid ((fun (w : World) => w.heap[ub]? = some (.cells #[.pointer (some ⟨rp, 0, none⟩), .slice aF nz cF, .int .i64 yz] 171 (0, 0))) w91) := (gA.block _ (block_lt hH) (by simpa using HLT.out.1)).trans hH
      have HS2 : Hid ((fun (w : World) => w.heap[ub]? = some (.cells #[.pointer (some ⟨rp, 0, none⟩), .slice aF nz cF, .int .i64 yz] 171 (0, 0))) w92) := (gB.block _ (block_lt HS1.out) (by simpa using HLT.out.2.1)).trans HS1.out
      have HFX : Hid (FV w92.heap.size w92 aF z.1 bF oF) := (HFz.out.grownX gA HBd.out.a0 zP_noS).grownX gB s2 (flt_noS _ _ _ _)
      have HK1 := hide k1
      have HK2 := hide k2
      have HKB := hide kb
      have HW92 := hide hw92
      have HS22 := hide s2
      clear hw91 hw92 s1 s2 gA k1 k2 gB kb HBd x0 x1 x2 x3 x4 x5 x6 x7 x8 f0 f1 f2 f3 f4 f5 f6 f7 f8 xl
      refine hK.out _ _ HS1.out (fun _ => ?_)
      clear hK K
      have y0 := block_cell HS22.out 0
      have y1 := block_cell HS22.out 1
      have g0 := block_free HS22.out 0
      have g1 := block_free HS22.out 1
      have gl := block_lt HS22.out
      simp at y0 y1
      refine wpAnyH_ready (rs := [6]) (by kernel_rfl) (by simp) ?_
      refine AllReadyH.cons rfl (fun K hK => ?_) AllReadyH.nil
      go_simp
      go_wp2_with fail
      rw [HW92.out]
      refine hK.out _ _ HS2.out (fun _ => ?_)
      clear hK K y0 y1 g0 g1 gl HW92 HS22
      refine wpAnyH_done (by kernel_rfl) ?_ _
      have k1 := HK1.out
      have k2 := HK2.out
      have HEX : Hid (Below W.heap.size W w92 ∧ upF B = .error z ∧ z.2 ≠ 0 ∧ ∃ b off, FV w92.heap.size w92 aF z.1 b off) := ⟨HKB.out, HZ.out, HNY.out.2.2, _, _, HFX.out⟩
      clear HK1 HK2 HKB HFX HS1 HS2
      go_wp2
      have c0 := block_cell k1 0
      have c1 := block_cell k1 1
      have c2 := block_cell k1 2
      have c3 := block_cell k1 3
      have c4 := block_cell k1 4
      have c5 := block_cell k1 5
      have c6 := block_cell k1 6
      have c7 := block_cell k1 7
      have c8 := block_cell k1 8
      have d0 := block_cell k2 0
      have d1 := block_cell k2 1
      simp at c0 c1 c2 c3 c4 c5 c6 c7 c8 d0 d1
      refine bodyPost_ret (v := .tuple #[.agg #[.slice none 0 0, .slice none 0 0, .int .i64 0, .int .i64 0, .int .i64 0, .int .i64 0, .int .i64 0, .int .i64 0, .slice none 0 0], .agg #[.slice aF nz cF, .int .i64 yz]]) (by simp [results, Tryz.results49, go_sem, c0, c1, c2, c3, c4, c5, c6, c7, c8, d0, d1]) rfl ?_
      exact .inl ⟨z, aF, cF, by rw [HNY.out.1, HNY.out.2.1]; rfl, HEX⟩
     ·have HX := hide hx
      have HNC := hide (And.intro HSJ.out.1 (And.intro HSJ.out.2.1 HSJ.out.2.2.1))
      clear hx HSJ
      go_upto_region 9 with fail
      have HBD := hide (badU HVJ.out.us (Nat.zero_le _))
      go_wp2_with fail
      refine HBD.out.mono ?_
      rintro x wa ⟨rfl, G⟩
      have HVa := hide (HVJ.out.read G.out.2 G.out.1.us)
      clear G HBD HVJ
      have hE : isE (.ok pos : Except Fz Nat) = false := rfl
      rw [hE]
      clear hE
      clear t1 t2
      have HVL : Hid (∀ g, vc.ownBlock = some g → g < wa.heap.size) := fun g e => (HVa.out.qc.lt g e).2
      have hnm : m ≤ 1024 := by have := HX.out.r.n; have := HNC.out; omega
      have hcs := HVa.out.fr.size
      have HVA0 := hide (HVa.out.relim (lim' := wa.heap.size))
      clear HVa
      obtain ⟨wl, hwl⟩ : ∃ n, wa.heap.size = n := ⟨_, rfl⟩
      have HWL : Hid (w6.heap.size ≤ wl) := by rw [← hwl]; exact hide hcs
      clear hcs
      obtain ⟨bR, aR, nR, cR, ps, yR, zR, hrR, hpR⟩ := HVA0.out.us.rpos
      obtain rfl := hpR pos rfl
      have k0 := HVA0.out.us.ucell
      have kl := block_lt_of_cell k0
      have r2 := block_cell hrR 2
      have rl := block_lt hrR
      simp at r2
      clear hrR hpR
      have HFX := hide (fixedU HVA0.out.us 1 1 rfl (by decide) (by decide))
      go_upto_region 12 with fail
      go_wp2_with fail
      refine HFX.out.mono ?_
      rintro x wb ⟨o, rfl, G⟩
      obtain ⟨hvL, hv, hu, hf⟩ := G.out
      have HVB := hide (HVA0.out.read hf hu)
      have ho6 : o < 256 := by
       obtain ⟨L, hL, hLb⟩ := hvL
       rw [hL]
       have := hi_take_lt (k := 1) hLb
       simpa using this
      have hov := hv pos rfl
      have HOP := hide (fun (c : Bool) (hc : c = isO (o : Nat)) => op4_math HX.out (by have := HNC.out; omega) hov hc)
      have HOV := hide hov
      have hwz : wl ≤ wb.heap.size := by rw [← hwl]; exact hf.size
      have HWB := hide hwz
      have HWT := hide (fun (c : Bool) => wantU HVB.out.us (lim := wa.heap.size) (by rw [hwl]; exact HWB.out) c 83 (pos : Int) (by decide))
      have HVL2 : Hid (∀ g, vc.ownBlock = some g → g < wl) := by rw [← hwl]; exact HVL
      clear HVL
      have HVL := HVL2
      rw [hwl] at HVB HWT
      clear hwl hwz hov hvL hv hu hf G HFX HVA0 k0 kl r2 rl HVL2
      have hcu : IntKind.i64.wrap ((o : Nat) : Int) = ((o : Nat) : Int) := wrap64_nat (by omega)
      obtain ⟨c, hc⟩ : ∃ c, isO ((o : Nat) : Int) = c := ⟨_, rfl⟩
      have HOP2 := hide (HOP.out c hc.symm)
      have HWC := hide (HWT.out c)
      have HC := hide hc
      obtain ⟨r3, hr3⟩ : ∃ r, wantR c 83 pos (rdR B (fun _ => 1) (fun L => aheadW L 1) (.ok pos)) = r := ⟨_, rfl⟩
      rw [hr3] at HOP2 HWC
      clear hr3 HOP HWT
      go_upto_region 13 with fail
      clear hcu
      have HRR0 := hide trivial
      by_cases hc1 : 1 ≤ o
      ·by_cases hc2 : o ≤ 32
       ·have e1 : decide (1 ≤ o) = true := by simpa using hc1
        have e2 : decide ((1 : Int) ≤ (o : Nat)) = true := by simp; omega
        have e3 : decide (o ≤ 32) = true := by simpa using hc2
        have e4 : decide (((o : Nat) : Int) ≤ 32) = true := by simp; omega
        have e5 : decide (((o : Nat) : Int) ≥ 1) = true := by simp; omega
        obtain rfl : c = true := by rw [← HC.out]; simp [isO]; omega
        go_wp2_with fail
        clear e1 e2 e3 e4 e5
        refine HWC.out.mono ?_
        rintro x wc1 ⟨rfl, G⟩
        have HVC := hide (HVB.out.read G.out.2 G.out.1.us)
        have HWB2 : Hid (wl ≤ wc1.heap.size) := Nat.le_trans HWB.out G.out.2.size
        clear G HWC HVB
        obtain ⟨ib, hib⟩ : ∃ ib, wc1.heap.size = ib := ⟨_, rfl⟩
        go_upto_region 15 with fail
        obtain ⟨wd, hwd⟩ : ∃ wd, wc1.alloc (.cells #[.int .i64 (o : Nat), .int .i64 0] 42) = wd := ⟨_, rfl⟩
        have bd : Below wc1.heap.size wc1 wd := by rw [← hwd]; exact below_alloc1 _ _
        have HID0 : Hid (wd.heap[ib]? = some (.cells #[.int .i64 (o : Nat), .int .i64 0] 42 (0, 0))) := by rw [← hwd, ← hib]; exact alloc_atK _ _
        rw [hwd]
        try rw [hib]
        have HVD := hide (HVC.out.next bd)
        have HIL : Hid (wl ≤ ib ∧ wl ≤ wd.heap.size) := ⟨by rw [← hib]; exact HWB2.out, Nat.le_trans HWB2.out bd.size⟩
        clear hwd bd HVC hib HWB2 HWB
        have HBD := hide (badU HVD.out.us HIL.out.2)
        go_wp2_with fail
        refine HBD.out.mono ?_
        rintro x we ⟨rfl, G⟩
        have HVE := hide (HVD.out.read G.out.2 G.out.1.us)
        have HIB : Hid (we.heap[ib]? = some (.cells #[.int .i64 (o : Nat), .int .i64 0] 42 (0, 0))) := by
         obtain ⟨_, _, _, _, hub9⟩ := HVD.out.us.ublk
         obtain ⟨_, _, _, _, _, _, _, hrp9, _⟩ := HVD.out.us.rpos
         refine (G.out.2.block ib (block_lt HID0.out) (fun e => ?_) (fun e => ?_)).trans HID0.out
         ·have := HID0.out; rw [e, hub9] at this; cases this
         ·have := HID0.out; rw [e, hrp9] at this; cases this
        have HIL2 : Hid (wl ≤ ib ∧ wl ≤ we.heap.size) := ⟨HIL.out.1, Nat.le_trans HIL.out.2 G.out.2.size⟩
        clear G HBD HVD HID0 HIL
        have hop := HOP2.out
        rcases hop with ⟨z, rfl, hz⟩ | ⟨rfl, hw0, hio⟩
        ·have HZR := hide hz
         clear hz HOP2
         have hE : isE (.error z) = true := rfl
         rw [hE]
         clear hE
         have HOW : Hid (∀ ob, (we.alloc ob).ownsRow w6.heap.size 42 2 vc j (nums2 q.op q.arg j)) := fun ob => (HVE.out.next (below_alloc1 we ob)).qc
         have HSZ : Hid (∀ ob, w6.heap.size ≤ (we.alloc ob).heap.size) := fun ob => by
          have := HVE.out.fr.size
          simp
          omega
         have HST := hide (fun v' (w6' : World) ob (ho : w6'.ownsRow w6.heap.size 42 2 v' (j + 1) ((nums2 q.op q.arg j) ++ [.int .i64 (o : Nat), .int .i64 (0 : Nat)])) hg => HVE.out.stepC (o := ob) (Nat.le_refl _) HVL.out ho hg)
         have k1 := block_cell HVE.out.pc 8
         have kl := block_lt HVE.out.pc
         have i0 := block_cell HIB.out 0
         have i1 := block_cell HIB.out 1
         have il := block_lt HIB.out
         simp at k1 i0 i1
         clear HVE
         go_upto_region 17 with fail
         go_wp2_with (at_builtin; refine wpList_append_own _ rfl (.tmp 80) (.tmp 82) 25 rfl w6.heap.size 42 iN (.agg #[.int .i64 0, .int .i64 0]) 2 16 Tryz.underlying25 HIN.out.1 HIN.out.2.1 HIN.out.2.2.1 HIN.out.2.2.2 rfl (by decide) vc j _ rfl (HOW.out _) ⟨we.heap.size, 0, none⟩ 1 1 [.int .i64 (o : Nat), .int .i64 (0 : Nat)] rfl rfl (cells_newK we [.int .i64 (o : Nat), .int .i64 (0 : Nat)] 42) (by simp [Value.oneCell']) (by unfold maxLen; omega) (by omega) (HSZ.out _) ?_; intro v8 w8' ho hg _; have hst := HST.out v8 w8' _ ho hg; obtain ⟨ao8, cap8, hv8⟩ := own_val2 ho; subst hv8; have y0 := block_cell hst.2 8; have yf := block_free hst.2 8; have yl := block_lt hst.2; simp at y0; have HVY := hide hst.1; clear hst ho hg HOW HSZ HST k1 kl i0 i1 il)
         have HVZ : Hid (Vh w6 w4.heap.size w4.heap.size w6.heap.size d rp ub pb 0 B (.error z) (.slice aa nc ca) (.slice ab ns cb) (.slice ao8 (j + 1) cap8) nc ns (j + 1) (nums .u64 ((setI q j (o : Nat) (0 : Nat))).C nc) (nums .i64 ((setI q j (o : Nat) (0 : Nat))).S ns) (nums2 ((setI q j (o : Nat) (0 : Nat))).op ((setI q j (o : Nat) (0 : Nat))).arg (j + 1)) ((setI q j (o : Nat) (0 : Nat))).en (w8'.setCell ⟨pb, 8, none⟩ (.slice ao8 (j + 1) cap8))) := by
          rw [show nums2 ((setI q j (o : Nat) (0 : Nat))).op ((setI q j (o : Nat) (0 : Nat))).arg (j + 1) = _ from nums2_set q.op q.arg j (o : Nat) (0 : Nat)]
          exact HVY.out.low (Nat.zero_le _)
         clear HVY y0 yf yl HVL HIB
         go_wp2
         go_roundw
         case rel => exact ⟨j + 1, _, (setI q j (o : Nat) (0 : Nat)), (.error z), by omega, by go_num, hide ⟨HNC.out.1, HNC.out.2.1, HNC.out.2.2, .inl ⟨z, rfl, HZR.out⟩⟩, HVZ⟩
         case measure => simp [intOf]; omega
        ·have hE : isE (.ok (pos + 1) : Except Fz Nat) = false := rfl
         rw [hE]
         clear hE
         have HIO := hide (And.intro hw0 hio)
         have ho32 : 1 ≤ o ∧ o ≤ 32 := by
          simp [isO] at hio
          omega
         clear hw0 hio HOP2
         have HHA := hide (HasArgC o ho32.1 ho32.2 we)
         by_cases hfa : fArg o = 0
         ·have e : decide (fArg o ≠ 0) = false := by simpa using hfa
          rw [e] at HHA
          have HFA := hide hfa
          clear e hfa ho32
          go_wp2_with fail
          refine HHA.out.mono ?_
          rintro x we2 ⟨rfl, rfl⟩
          clear HHA
          have HOW : Hid (∀ ob, (we2.alloc ob).ownsRow w6.heap.size 42 2 vc j (nums2 q.op q.arg j)) := fun ob => (HVE.out.next (below_alloc1 we2 ob)).qc
          have HSZ : Hid (∀ ob, w6.heap.size ≤ (we2.alloc ob).heap.size) := fun ob => by
           have := HVE.out.fr.size
           simp
           omega
          have HST := hide (fun v' (w6' : World) ob (ho : w6'.ownsRow w6.heap.size 42 2 v' (j + 1) ((nums2 q.op q.arg j) ++ [.int .i64 (o : Nat), .int .i64 (0 : Nat)])) hg => HVE.out.stepC (o := ob) (Nat.le_refl _) HVL.out ho hg)
          have k1 := block_cell HVE.out.pc 8
          have kl := block_lt HVE.out.pc
          have i0 := block_cell HIB.out 0
          have i1 := block_cell HIB.out 1
          have il := block_lt HIB.out
          simp at k1 i0 i1
          clear HVE
          go_upto_region 17 with fail
          go_wp2_with (at_builtin; refine wpList_append_own _ rfl (.tmp 80) (.tmp 82) 25 rfl w6.heap.size 42 iN (.agg #[.int .i64 0, .int .i64 0]) 2 16 Tryz.underlying25 HIN.out.1 HIN.out.2.1 HIN.out.2.2.1 HIN.out.2.2.2 rfl (by decide) vc j _ rfl (HOW.out _) ⟨we2.heap.size, 0, none⟩ 1 1 [.int .i64 (o : Nat), .int .i64 (0 : Nat)] rfl rfl (cells_newK we2 [.int .i64 (o : Nat), .int .i64 (0 : Nat)] 42) (by simp [Value.oneCell']) (by unfold maxLen; omega) (by omega) (HSZ.out _) ?_; intro v8 w8' ho hg _; have hst := HST.out v8 w8' _ ho hg; obtain ⟨ao8, cap8, hv8⟩ := own_val2 ho; subst hv8; have y0 := block_cell hst.2 8; have yf := block_free hst.2 8; have yl := block_lt hst.2; simp at y0; have HVY := hide hst.1; clear hst ho hg HOW HSZ HST k1 kl i0 i1 il)
          have HVZ : Hid (Vh w6 w4.heap.size w4.heap.size w6.heap.size d rp ub pb 0 B (.ok (pos + 1)) (.slice aa nc ca) (.slice ab ns cb) (.slice ao8 (j + 1) cap8) nc ns (j + 1) (nums .u64 ((setI q j (o : Nat) (0 : Nat))).C nc) (nums .i64 ((setI q j (o : Nat) (0 : Nat))).S ns) (nums2 ((setI q j (o : Nat) (0 : Nat))).op ((setI q j (o : Nat) (0 : Nat))).arg (j + 1)) ((setI q j (o : Nat) (0 : Nat))).en (w8'.setCell ⟨pb, 8, none⟩ (.slice ao8 (j + 1) cap8))) := by
           rw [show nums2 ((setI q j (o : Nat) (0 : Nat))).op ((setI q j (o : Nat) (0 : Nat))).arg (j + 1) = _ from nums2_set q.op q.arg j (o : Nat) (0 : Nat)]
           exact HVY.out.low (Nat.zero_le _)
          clear HVY y0 yf yl HVL HIB
          go_wp2
          go_roundw
          case rel => exact ⟨j + 1, _, (setI q j (o : Nat) (0 : Nat)), (.ok (pos + 1)), by omega, by go_num, hide ⟨HNC.out.1, HNC.out.2.1, HNC.out.2.2, .inr ⟨_, rfl, ins4_plain HBB.out HX.out (by have := HNC.out; omega) HOV.out HIO.out.1 HIO.out.2 HFA.out⟩⟩, HVZ⟩
          case measure => simp [intOf]; omega
         ·have e : decide (fArg o ≠ 0) = true := by simpa using hfa
          rw [e] at HHA
          have HFA := hide hfa
          clear e hfa ho32
          go_wp2_with fail
          refine HHA.out.mono ?_
          rintro x we2 ⟨rfl, rfl⟩
          clear HHA
          have HMS : Hid (Calls Tryz.prog 95 #[.pointer (some ⟨ub, 0, none⟩), .int .u64 1023, .int .i64 84] we2 fun e w' => ∃ x : Nat, e = .returned (.int .i64 (x : Int)) ∧ Hid (x ≤ 1023 ∧ (∀ p, (.ok (pos + 1) : Except Fz Nat) = .ok p → plW 1023 (numAt (B.drop p)) = 0 → x = (numAt (B.drop p)).1) ∧ Ub d rp ub wl B (mostR 1023 84 B (.ok (pos + 1))) w' ∧ Fr2 ub rp we2 w')) := mostU HVE.out.us HIL2.out.2 1023 (by decide) 84 (by decide)
          go_upto_region 16 with fail
          go_wp2_with fail
          refine HMS.out.mono ?_
          rintro x wf ⟨v, rfl, G⟩
          obtain ⟨hv1, hv2, hu, hf⟩ := G.out
          have HVF := hide (HVE.out.read hf hu.us)
          have HRS := hide (ins4_arg HBB.out HX.out (by have := HNC.out; omega) HOV.out HIO.out.1 HIO.out.2 HFA.out hv2)
          have HIF : Hid (wf.heap[ib]? = some (.cells #[.int .i64 (o : Nat), .int .i64 0] 42 (0, 0))) := by
           obtain ⟨_, _, _, _, hub9⟩ := HVE.out.us.ublk
           obtain ⟨_, _, _, _, _, _, _, hrp9, _⟩ := HVE.out.us.rpos
           refine (hf.block ib (block_lt HIB.out) (fun e => ?_) (fun e => ?_)).trans HIB.out
           ·have := HIB.out; rw [e, hub9] at this; cases this
           ·have := HIB.out; rw [e, hrp9] at this; cases this
          obtain ⟨r4, hr4⟩ : ∃ r, mostR 1023 84 B (.ok (pos + 1)) = r := ⟨_, rfl⟩
          rw [hr4] at HVF HRS
          clear hr4 G hv1 hv2 hu hf HMS HVE HIB HX
          have i0 := block_cell HIF.out 0
          have i1 := block_cell HIF.out 1
          have j1 := block_free HIF.out 1
          have il := block_lt HIF.out
          simp at i0 i1
          go_upto_region 17 with fail
          generalize hwg : World.setCell _ _ _ = wg
          have HGI : Hid (wf.grownBy wg (some ib)) := by rw [← hwg]; exact grown_set _ _ _ _
          have HIB : Hid (wg.heap[ib]? = some (.cells #[.int .i64 (o : Nat), .int .i64 (v : Nat)] 42 (0, 0))) := by
           rw [← hwg]
           have := heap_setCell_same wf ib 1 _ _ (.int .i64 (v : Nat)) HIF.out
           exact hide (by simpa using this)
          have HVG := hide (HVF.out.box HGI.out HIF.out (two_noS _ _) (Nat.le_trans HWL.out HIL2.out.1) (own_off2 HVF.out.qa (by decide) HIF.out) (own_off2 HVF.out.qb (by decide) HIF.out) (fun e => by have := HVL.out ib e; have := HIL2.out.1; omega))
          clear hwg i0 i1 j1 il HVF HGI HIF
          have HOW : Hid (∀ ob, (wg.alloc ob).ownsRow w6.heap.size 42 2 vc j (nums2 q.op q.arg j)) := fun ob => (HVG.out.next (below_alloc1 wg ob)).qc
          have HSZ : Hid (∀ ob, w6.heap.size ≤ (wg.alloc ob).heap.size) := fun ob => by
           have := HVG.out.fr.size
           simp
           omega
          have HST := hide (fun v' (w6' : World) ob (ho : w6'.ownsRow w6.heap.size 42 2 v' (j + 1) ((nums2 q.op q.arg j) ++ [.int .i64 (o : Nat), .int .i64 (v : Nat)])) hg => HVG.out.stepC (o := ob) (Nat.le_refl _) HVL.out ho hg)
          have k1 := block_cell HVG.out.pc 8
          have kl := block_lt HVG.out.pc
          have i0 := block_cell HIB.out 0
          have i1 := block_cell HIB.out 1
          have il := block_lt HIB.out
          simp at k1 i0 i1
          clear HVG
          go_upto_region 17 with fail
          go_wp2_with (at_builtin; refine wpList_append_own _ rfl (.tmp 80) (.tmp 82) 25 rfl w6.heap.size 42 iN (.agg #[.int .i64 0, .int .i64 0]) 2 16 Tryz.underlying25 HIN.out.1 HIN.out.2.1 HIN.out.2.2.1 HIN.out.2.2.2 rfl (by decide) vc j _ rfl (HOW.out _) ⟨wg.heap.size, 0, none⟩ 1 1 [.int .i64 (o : Nat), .int .i64 (v : Nat)] rfl rfl (cells_newK wg [.int .i64 (o : Nat), .int .i64 (v : Nat)] 42) (by simp [Value.oneCell']) (by unfold maxLen; omega) (by omega) (HSZ.out _) ?_; intro v8 w8' ho hg _; have hst := HST.out v8 w8' _ ho hg; obtain ⟨ao8, cap8, hv8⟩ := own_val2 ho; subst hv8; have y0 := block_cell hst.2 8; have yf := block_free hst.2 8; have yl := block_lt hst.2; simp at y0; have HVY := hide hst.1; clear hst ho hg HOW HSZ HST k1 kl i0 i1 il)
          have HVZ : Hid (Vh w6 w4.heap.size w4.heap.size w6.heap.size d rp ub pb 0 B r4 (.slice aa nc ca) (.slice ab ns cb) (.slice ao8 (j + 1) cap8) nc ns (j + 1) (nums .u64 ((setI q j (o : Nat) (v : Nat))).C nc) (nums .i64 ((setI q j (o : Nat) (v : Nat))).S ns) (nums2 ((setI q j (o : Nat) (v : Nat))).op ((setI q j (o : Nat) (v : Nat))).arg (j + 1)) ((setI q j (o : Nat) (v : Nat))).en (w8'.setCell ⟨pb, 8, none⟩ (.slice ao8 (j + 1) cap8))) := by
           rw [show nums2 ((setI q j (o : Nat) (v : Nat))).op ((setI q j (o : Nat) (v : Nat))).arg (j + 1) = _ from nums2_set q.op q.arg j (o : Nat) (v : Nat)]
           exact HVY.out.low (Nat.zero_le _)
          clear HVY y0 yf yl HVL HIB
          go_wp2
          go_roundw
          case rel => exact ⟨j + 1, _, (setI q j (o : Nat) (v : Nat)), r4, by omega, by go_num, hide ⟨HNC.out.1, HNC.out.2.1, HNC.out.2.2, HRS.out⟩, HVZ⟩
          case measure => simp [intOf]; omega
       ·have e1 : decide (1 ≤ o) = true := by simpa using hc1
        have e2 : decide ((1 : Int) ≤ (o : Nat)) = true := by simp; omega
        have e3 : decide (o ≤ 32) = false := by simpa using hc2
        have e4 : decide (((o : Nat) : Int) ≤ 32) = false := by simp; omega
        have e5 : decide (((o : Nat) : Int) ≥ 1) = true := by simp; omega
        obtain rfl : c = false := by rw [← HC.out]; simp [isO]; omega
        go_wp2_with fail
        clear e1 e2 e3 e4 e5
        refine HWC.out.mono ?_
        rintro x wc1 ⟨rfl, G⟩
        have HVC := hide (HVB.out.read G.out.2 G.out.1.us)
        have HWB2 : Hid (wl ≤ wc1.heap.size) := Nat.le_trans HWB.out G.out.2.size
        clear G HWC HVB
        obtain ⟨ib, hib⟩ : ∃ ib, wc1.heap.size = ib := ⟨_, rfl⟩
        go_upto_region 15 with fail
        obtain ⟨wd, hwd⟩ : ∃ wd, wc1.alloc (.cells #[.int .i64 (o : Nat), .int .i64 0] 42) = wd := ⟨_, rfl⟩
        have bd : Below wc1.heap.size wc1 wd := by rw [← hwd]; exact below_alloc1 _ _
        have HID0 : Hid (wd.heap[ib]? = some (.cells #[.int .i64 (o : Nat), .int .i64 0] 42 (0, 0))) := by rw [← hwd, ← hib]; exact alloc_atK _ _
        rw [hwd]
        try rw [hib]
        have HVD := hide (HVC.out.next bd)
        have HIL : Hid (wl ≤ ib ∧ wl ≤ wd.heap.size) := ⟨by rw [← hib]; exact HWB2.out, Nat.le_trans HWB2.out bd.size⟩
        clear hwd bd HVC hib HWB2 HWB
        have HBD := hide (badU HVD.out.us HIL.out.2)
        go_wp2_with fail
        refine HBD.out.mono ?_
        rintro x we ⟨rfl, G⟩
        have HVE := hide (HVD.out.read G.out.2 G.out.1.us)
        have HIB : Hid (we.heap[ib]? = some (.cells #[.int .i64 (o : Nat), .int .i64 0] 42 (0, 0))) := by
         obtain ⟨_, _, _, _, hub9⟩ := HVD.out.us.ublk
         obtain ⟨_, _, _, _, _, _, _, hrp9, _⟩ := HVD.out.us.rpos
         refine (G.out.2.block ib (block_lt HID0.out) (fun e => ?_) (fun e => ?_)).trans HID0.out
         ·have := HID0.out; rw [e, hub9] at this; cases this
         ·have := HID0.out; rw [e, hrp9] at this; cases this
        have HIL2 : Hid (wl ≤ ib ∧ wl ≤ we.heap.size) := ⟨HIL.out.1, Nat.le_trans HIL.out.2 G.out.2.size⟩
        clear G HBD HVD HID0 HIL
        have hop := HOP2.out
        rcases hop with ⟨z, rfl, hz⟩ | ⟨rfl, hw0, hio⟩
        ·have HZR := hide hz
         clear hz HOP2
         have hE : isE (.error z) = true := rfl
         rw [hE]
         clear hE
         have HOW : Hid (∀ ob, (we.alloc ob).ownsRow w6.heap.size 42 2 vc j (nums2 q.op q.arg j)) := fun ob => (HVE.out.next (below_alloc1 we ob)).qc
         have HSZ : Hid (∀ ob, w6.heap.size ≤ (we.alloc ob).heap.size) := fun ob => by
          have := HVE.out.fr.size
          simp
          omega
         have HST := hide (fun v' (w6' : World) ob (ho : w6'.ownsRow w6.heap.size 42 2 v' (j + 1) ((nums2 q.op q.arg j) ++ [.int .i64 (o : Nat), .int .i64 (0 : Nat)])) hg => HVE.out.stepC (o := ob) (Nat.le_refl _) HVL.out ho hg)
         have k1 := block_cell HVE.out.pc 8
         have kl := block_lt HVE.out.pc
         have i0 := block_cell HIB.out 0
         have i1 := block_cell HIB.out 1
         have il := block_lt HIB.out
         simp at k1 i0 i1
         clear HVE
         go_upto_region 17 with fail
         go_wp2_with (at_builtin; refine wpList_append_own _ rfl (.tmp 80) (.tmp 82) 25 rfl w6.heap.size 42 iN (.agg #[.int .i64 0, .int .i64 0]) 2 16 Tryz.underlying25 HIN.out.1 HIN.out.2.1 HIN.out.2.2.1 HIN.out.2.2.2 rfl (by decide) vc j _ rfl (HOW.out _) ⟨we.heap.size, 0, none⟩ 1 1 [.int .i64 (o : Nat), .int .i64 (0 : Nat)] rfl rfl (cells_newK we [.int .i64 (o : Nat), .int .i64 (0 : Nat)] 42) (by simp [Value.oneCell']) (by unfold maxLen; omega) (by omega) (HSZ.out _) ?_; intro v8 w8' ho hg _; have hst := HST.out v8 w8' _ ho hg; obtain ⟨ao8, cap8, hv8⟩ := own_val2 ho; subst hv8; have y0 := block_cell hst.2 8; have yf := block_free hst.2 8; have yl := block_lt hst.2; simp at y0; have HVY := hide hst.1; clear hst ho hg HOW HSZ HST k1 kl i0 i1 il)
         have HVZ : Hid (Vh w6 w4.heap.size w4.heap.size w6.heap.size d rp ub pb 0 B (.error z) (.slice aa nc ca) (.slice ab ns cb) (.slice ao8 (j + 1) cap8) nc ns (j + 1) (nums .u64 ((setI q j (o : Nat) (0 : Nat))).C nc) (nums .i64 ((setI q j (o : Nat) (0 : Nat))).S ns) (nums2 ((setI q j (o : Nat) (0 : Nat))).op ((setI q j (o : Nat) (0 : Nat))).arg (j + 1)) ((setI q j (o : Nat) (0 : Nat))).en (w8'.setCell ⟨pb, 8, none⟩ (.slice ao8 (j + 1) cap8))) := by
          rw [show nums2 ((setI q j (o : Nat) (0 : Nat))).op ((setI q j (o : Nat) (0 : Nat))).arg (j + 1) = _ from nums2_set q.op q.arg j (o : Nat) (0 : Nat)]
          exact HVY.out.low (Nat.zero_le _)
         clear HVY y0 yf yl HVL HIB
         go_wp2
         go_roundw
         case rel => exact ⟨j + 1, _, (setI q j (o : Nat) (0 : Nat)), (.error z), by omega, by go_num, hide ⟨HNC.out.1, HNC.out.2.1, HNC.out.2.2, .inl ⟨z, rfl, HZR.out⟩⟩, HVZ⟩
         case measure => simp [intOf]; omega
        ·have hE : isE (.ok (pos + 1) : Except Fz Nat) = false := rfl
         rw [hE]
         clear hE
         have HIO := hide (And.intro hw0 hio)
         have ho32 : 1 ≤ o ∧ o ≤ 32 := by
          simp [isO] at hio
          omega
         clear hw0 hio HOP2
         have HHA := hide (HasArgC o ho32.1 ho32.2 we)
         by_cases hfa : fArg o = 0
         ·have e : decide (fArg o ≠ 0) = false := by simpa using hfa
          rw [e] at HHA
          have HFA := hide hfa
          clear e hfa ho32
          go_wp2_with fail
          refine HHA.out.mono ?_
          rintro x we2 ⟨rfl, rfl⟩
          clear HHA
          have HOW : Hid (∀ ob, (we2.alloc ob).ownsRow w6.heap.size 42 2 vc j (nums2 q.op q.arg j)) := fun ob => (HVE.out.next (below_alloc1 we2 ob)).qc
          have HSZ : Hid (∀ ob, w6.heap.size ≤ (we2.alloc ob).heap.size) := fun ob => by
           have := HVE.out.fr.size
           simp
           omega
          have HST := hide (fun v' (w6' : World) ob (ho : w6'.ownsRow w6.heap.size 42 2 v' (j + 1) ((nums2 q.op q.arg j) ++ [.int .i64 (o : Nat), .int .i64 (0 : Nat)])) hg => HVE.out.stepC (o := ob) (Nat.le_refl _) HVL.out ho hg)
          have k1 := block_cell HVE.out.pc 8
          have kl := block_lt HVE.out.pc
          have i0 := block_cell HIB.out 0
          have i1 := block_cell HIB.out 1
          have il := block_lt HIB.out
          simp at k1 i0 i1
          clear HVE
          go_upto_region 17 with fail
          go_wp2_with (at_builtin; refine wpList_append_own _ rfl (.tmp 80) (.tmp 82) 25 rfl w6.heap.size 42 iN (.agg #[.int .i64 0, .int .i64 0]) 2 16 Tryz.underlying25 HIN.out.1 HIN.out.2.1 HIN.out.2.2.1 HIN.out.2.2.2 rfl (by decide) vc j _ rfl (HOW.out _) ⟨we2.heap.size, 0, none⟩ 1 1 [.int .i64 (o : Nat), .int .i64 (0 : Nat)] rfl rfl (cells_newK we2 [.int .i64 (o : Nat), .int .i64 (0 : Nat)] 42) (by simp [Value.oneCell']) (by unfold maxLen; omega) (by omega) (HSZ.out _) ?_; intro v8 w8' ho hg _; have hst := HST.out v8 w8' _ ho hg; obtain ⟨ao8, cap8, hv8⟩ := own_val2 ho; subst hv8; have y0 := block_cell hst.2 8; have yf := block_free hst.2 8; have yl := block_lt hst.2; simp at y0; have HVY := hide hst.1; clear hst ho hg HOW HSZ HST k1 kl i0 i1 il)
          have HVZ : Hid (Vh w6 w4.heap.size w4.heap.size w6.heap.size d rp ub pb 0 B (.ok (pos + 1)) (.slice aa nc ca) (.slice ab ns cb) (.slice ao8 (j + 1) cap8) nc ns (j + 1) (nums .u64 ((setI q j (o : Nat) (0 : Nat))).C nc) (nums .i64 ((setI q j (o : Nat) (0 : Nat))).S ns) (nums2 ((setI q j (o : Nat) (0 : Nat))).op ((setI q j (o : Nat) (0 : Nat))).arg (j + 1)) ((setI q j (o : Nat) (0 : Nat))).en (w8'.setCell ⟨pb, 8, none⟩ (.slice ao8 (j + 1) cap8))) := by
           rw [show nums2 ((setI q j (o : Nat) (0 : Nat))).op ((setI q j (o : Nat) (0 : Nat))).arg (j + 1) = _ from nums2_set q.op q.arg j (o : Nat) (0 : Nat)]
           exact HVY.out.low (Nat.zero_le _)
          clear HVY y0 yf yl HVL HIB
          go_wp2
          go_roundw
          case rel => exact ⟨j + 1, _, (setI q j (o : Nat) (0 : Nat)), (.ok (pos + 1)), by omega, by go_num, hide ⟨HNC.out.1, HNC.out.2.1, HNC.out.2.2, .inr ⟨_, rfl, ins4_plain HBB.out HX.out (by have := HNC.out; omega) HOV.out HIO.out.1 HIO.out.2 HFA.out⟩⟩, HVZ⟩
          case measure => simp [intOf]; omega
         ·have e : decide (fArg o ≠ 0) = true := by simpa using hfa
          rw [e] at HHA
          have HFA := hide hfa
          clear e hfa ho32
          go_wp2_with fail
          refine HHA.out.mono ?_
          rintro x we2 ⟨rfl, rfl⟩
          clear HHA
          have HMS : Hid (Calls Tryz.prog 95 #[.pointer (some ⟨ub, 0, none⟩), .int .u64 1023, .int .i64 84] we2 fun e w' => ∃ x : Nat, e = .returned (.int .i64 (x : Int)) ∧ Hid (x ≤ 1023 ∧ (∀ p, (.ok (pos + 1) : Except Fz Nat) = .ok p → plW 1023 (numAt (B.drop p)) = 0 → x = (numAt (B.drop p)).1) ∧ Ub d rp ub wl B (mostR 1023 84 B (.ok (pos + 1))) w' ∧ Fr2 ub rp we2 w')) := mostU HVE.out.us HIL2.out.2 1023 (by decide) 84 (by decide)
          go_upto_region 16 with fail
          go_wp2_with fail
          refine HMS.out.mono ?_
          rintro x wf ⟨v, rfl, G⟩
          obtain ⟨hv1, hv2, hu, hf⟩ := G.out
          have HVF := hide (HVE.out.read hf hu.us)
          have HRS := hide (ins4_arg HBB.out HX.out (by have := HNC.out; omega) HOV.out HIO.out.1 HIO.out.2 HFA.out hv2)
          have HIF : Hid (wf.heap[ib]? = some (.cells #[.int .i64 (o : Nat), .int .i64 0] 42 (0, 0))) := by
           obtain ⟨_, _, _, _, hub9⟩ := HVE.out.us.ublk
           obtain ⟨_, _, _, _, _, _, _, hrp9, _⟩ := HVE.out.us.rpos
           refine (hf.block ib (block_lt HIB.out) (fun e => ?_) (fun e => ?_)).trans HIB.out
           ·have := HIB.out; rw [e, hub9] at this; cases this
           ·have := HIB.out; rw [e, hrp9] at this; cases this
          obtain ⟨r4, hr4⟩ : ∃ r, mostR 1023 84 B (.ok (pos + 1)) = r := ⟨_, rfl⟩
          rw [hr4] at HVF HRS
          clear hr4 G hv1 hv2 hu hf HMS HVE HIB HX
          have i0 := block_cell HIF.out 0
          have i1 := block_cell HIF.out 1
          have j1 := block_free HIF.out 1
          have il := block_lt HIF.out
          simp at i0 i1
          go_upto_region 17 with fail
          generalize hwg : World.setCell _ _ _ = wg
          have HGI : Hid (wf.grownBy wg (some ib)) := by rw [← hwg]; exact grown_set _ _ _ _
          have HIB : Hid (wg.heap[ib]? = some (.cells #[.int .i64 (o : Nat), .int .i64 (v : Nat)] 42 (0, 0))) := by
           rw [← hwg]
           have := heap_setCell_same wf ib 1 _ _ (.int .i64 (v : Nat)) HIF.out
           exact hide (by simpa using this)
          have HVG := hide (HVF.out.box HGI.out HIF.out (two_noS _ _) (Nat.le_trans HWL.out HIL2.out.1) (own_off2 HVF.out.qa (by decide) HIF.out) (own_off2 HVF.out.qb (by decide) HIF.out) (fun e => by have := HVL.out ib e; have := HIL2.out.1; omega))
          clear hwg i0 i1 j1 il HVF HGI HIF
          have HOW : Hid (∀ ob, (wg.alloc ob).ownsRow w6.heap.size 42 2 vc j (nums2 q.op q.arg j)) := fun ob => (HVG.out.next (below_alloc1 wg ob)).qc
          have HSZ : Hid (∀ ob, w6.heap.size ≤ (wg.alloc ob).heap.size) := fun ob => by
           have := HVG.out.fr.size
           simp
           omega
          have HST := hide (fun v' (w6' : World) ob (ho : w6'.ownsRow w6.heap.size 42 2 v' (j + 1) ((nums2 q.op q.arg j) ++ [.int .i64 (o : Nat), .int .i64 (v : Nat)])) hg => HVG.out.stepC (o := ob) (Nat.le_refl _) HVL.out ho hg)
          have k1 := block_cell HVG.out.pc 8
          have kl := block_lt HVG.out.pc
          have i0 := block_cell HIB.out 0
          have i1 := block_cell HIB.out 1
          have il := block_lt HIB.out
          simp at k1 i0 i1
          clear HVG
          go_upto_region 17 with fail
          go_wp2_with (at_builtin; refine wpList_append_own _ rfl (.tmp 80) (.tmp 82) 25 rfl w6.heap.size 42 iN (.agg #[.int .i64 0, .int .i64 0]) 2 16 Tryz.underlying25 HIN.out.1 HIN.out.2.1 HIN.out.2.2.1 HIN.out.2.2.2 rfl (by decide) vc j _ rfl (HOW.out _) ⟨wg.heap.size, 0, none⟩ 1 1 [.int .i64 (o : Nat), .int .i64 (v : Nat)] rfl rfl (cells_newK wg [.int .i64 (o : Nat), .int .i64 (v : Nat)] 42) (by simp [Value.oneCell']) (by unfold maxLen; omega) (by omega) (HSZ.out _) ?_; intro v8 w8' ho hg _; have hst := HST.out v8 w8' _ ho hg; obtain ⟨ao8, cap8, hv8⟩ := own_val2 ho; subst hv8; have y0 := block_cell hst.2 8; have yf := block_free hst.2 8; have yl := block_lt hst.2; simp at y0; have HVY := hide hst.1; clear hst ho hg HOW HSZ HST k1 kl i0 i1 il)
          have HVZ : Hid (Vh w6 w4.heap.size w4.heap.size w6.heap.size d rp ub pb 0 B r4 (.slice aa nc ca) (.slice ab ns cb) (.slice ao8 (j + 1) cap8) nc ns (j + 1) (nums .u64 ((setI q j (o : Nat) (v : Nat))).C nc) (nums .i64 ((setI q j (o : Nat) (v : Nat))).S ns) (nums2 ((setI q j (o : Nat) (v : Nat))).op ((setI q j (o : Nat) (v : Nat))).arg (j + 1)) ((setI q j (o : Nat) (v : Nat))).en (w8'.setCell ⟨pb, 8, none⟩ (.slice ao8 (j + 1) cap8))) := by
           rw [show nums2 ((setI q j (o : Nat) (v : Nat))).op ((setI q j (o : Nat) (v : Nat))).arg (j + 1) = _ from nums2_set q.op q.arg j (o : Nat) (v : Nat)]
           exact HVY.out.low (Nat.zero_le _)
          clear HVY y0 yf yl HVL HIB
          go_wp2
          go_roundw
          case rel => exact ⟨j + 1, _, (setI q j (o : Nat) (v : Nat)), r4, by omega, by go_num, hide ⟨HNC.out.1, HNC.out.2.1, HNC.out.2.2, HRS.out⟩, HVZ⟩
          case measure => simp [intOf]; omega
      ·have e1 : decide (1 ≤ o) = false := by simpa using hc1
       have e2 : decide ((1 : Int) ≤ (o : Nat)) = false := by simp; omega
       have e5 : decide (((o : Nat) : Int) ≥ 1) = false := by simp; omega
       obtain rfl : c = false := by rw [← HC.out]; simp [isO]; omega
       go_wp2_with fail
       clear e1 e2 e5
       refine HWC.out.mono ?_
       rintro x wc1 ⟨rfl, G⟩
       have HVC := hide (HVB.out.read G.out.2 G.out.1.us)
       have HWB2 : Hid (wl ≤ wc1.heap.size) := Nat.le_trans HWB.out G.out.2.size
       clear G HWC HVB
       obtain ⟨ib, hib⟩ : ∃ ib, wc1.heap.size = ib := ⟨_, rfl⟩
       go_upto_region 15 with fail
       obtain ⟨wd, hwd⟩ : ∃ wd, wc1.alloc (.cells #[.int .i64 (o : Nat), .int .i64 0] 42) = wd := ⟨_, rfl⟩
       have bd : Below wc1.heap.size wc1 wd := by rw [← hwd]; exact below_alloc1 _ _
       have HID0 : Hid (wd.heap[ib]? = some (.cells #[.int .i64 (o : Nat), .int .i64 0] 42 (0, 0))) := by rw [← hwd, ← hib]; exact alloc_atK _ _
       rw [hwd]
       try rw [hib]
       have HVD := hide (HVC.out.next bd)
       have HIL : Hid (wl ≤ ib ∧ wl ≤ wd.heap.size) := ⟨by rw [← hib]; exact HWB2.out, Nat.le_trans HWB2.out bd.size⟩
       clear hwd bd HVC hib HWB2 HWB
       have HBD := hide (badU HVD.out.us HIL.out.2)
       go_wp2_with fail
       refine HBD.out.mono ?_
       rintro x we ⟨rfl, G⟩
       have HVE := hide (HVD.out.read G.out.2 G.out.1.us)
       have HIB : Hid (we.heap[ib]? = some (.cells #[.int .i64 (o : Nat), .int .i64 0] 42 (0, 0))) := by
        obtain ⟨_, _, _, _, hub9⟩ := HVD.out.us.ublk
        obtain ⟨_, _, _, _, _, _, _, hrp9, _⟩ := HVD.out.us.rpos
        refine (G.out.2.block ib (block_lt HID0.out) (fun e => ?_) (fun e => ?_)).trans HID0.out
        ·have := HID0.out; rw [e, hub9] at this; cases this
        ·have := HID0.out; rw [e, hrp9] at this; cases this
       have HIL2 : Hid (wl ≤ ib ∧ wl ≤ we.heap.size) := ⟨HIL.out.1, Nat.le_trans HIL.out.2 G.out.2.size⟩
       clear G HBD HVD HID0 HIL
       have hop := HOP2.out
       rcases hop with ⟨z, rfl, hz⟩ | ⟨rfl, hw0, hio⟩
       ·have HZR := hide hz
        clear hz HOP2
        have hE : isE (.error z) = true := rfl
        rw [hE]
        clear hE
        have HOW : Hid (∀ ob, (we.alloc ob).ownsRow w6.heap.size 42 2 vc j (nums2 q.op q.arg j)) := fun ob => (HVE.out.next (below_alloc1 we ob)).qc
        have HSZ : Hid (∀ ob, w6.heap.size ≤ (we.alloc ob).heap.size) := fun ob => by
         have := HVE.out.fr.size
         simp
         omega
        have HST := hide (fun v' (w6' : World) ob (ho : w6'.ownsRow w6.heap.size 42 2 v' (j + 1) ((nums2 q.op q.arg j) ++ [.int .i64 (o : Nat), .int .i64 (0 : Nat)])) hg => HVE.out.stepC (o := ob) (Nat.le_refl _) HVL.out ho hg)
        have k1 := block_cell HVE.out.pc 8
        have kl := block_lt HVE.out.pc
        have i0 := block_cell HIB.out 0
        have i1 := block_cell HIB.out 1
        have il := block_lt HIB.out
        simp at k1 i0 i1
        clear HVE
        go_upto_region 17 with fail
        go_wp2_with (at_builtin; refine wpList_append_own _ rfl (.tmp 80) (.tmp 82) 25 rfl w6.heap.size 42 iN (.agg #[.int .i64 0, .int .i64 0]) 2 16 Tryz.underlying25 HIN.out.1 HIN.out.2.1 HIN.out.2.2.1 HIN.out.2.2.2 rfl (by decide) vc j _ rfl (HOW.out _) ⟨we.heap.size, 0, none⟩ 1 1 [.int .i64 (o : Nat), .int .i64 (0 : Nat)] rfl rfl (cells_newK we [.int .i64 (o : Nat), .int .i64 (0 : Nat)] 42) (by simp [Value.oneCell']) (by unfold maxLen; omega) (by omega) (HSZ.out _) ?_; intro v8 w8' ho hg _; have hst := HST.out v8 w8' _ ho hg; obtain ⟨ao8, cap8, hv8⟩ := own_val2 ho; subst hv8; have y0 := block_cell hst.2 8; have yf := block_free hst.2 8; have yl := block_lt hst.2; simp at y0; have HVY := hide hst.1; clear hst ho hg HOW HSZ HST k1 kl i0 i1 il)
        have HVZ : Hid (Vh w6 w4.heap.size w4.heap.size w6.heap.size d rp ub pb 0 B (.error z) (.slice aa nc ca) (.slice ab ns cb) (.slice ao8 (j + 1) cap8) nc ns (j + 1) (nums .u64 ((setI q j (o : Nat) (0 : Nat))).C nc) (nums .i64 ((setI q j (o : Nat) (0 : Nat))).S ns) (nums2 ((setI q j (o : Nat) (0 : Nat))).op ((setI q j (o : Nat) (0 : Nat))).arg (j + 1)) ((setI q j (o : Nat) (0 : Nat))).en (w8'.setCell ⟨pb, 8, none⟩ (.slice ao8 (j + 1) cap8))) := by
         rw [show nums2 ((setI q j (o : Nat) (0 : Nat))).op ((setI q j (o : Nat) (0 : Nat))).arg (j + 1) = _ from nums2_set q.op q.arg j (o : Nat) (0 : Nat)]
         exact HVY.out.low (Nat.zero_le _)
        clear HVY y0 yf yl HVL HIB
        go_wp2
        go_roundw
        case rel => exact ⟨j + 1, _, (setI q j (o : Nat) (0 : Nat)), (.error z), by omega, by go_num, hide ⟨HNC.out.1, HNC.out.2.1, HNC.out.2.2, .inl ⟨z, rfl, HZR.out⟩⟩, HVZ⟩
        case measure => simp [intOf]; omega
       ·have hE : isE (.ok (pos + 1) : Except Fz Nat) = false := rfl
        rw [hE]
        clear hE
        have HIO := hide (And.intro hw0 hio)
        have ho32 : 1 ≤ o ∧ o ≤ 32 := by
         simp [isO] at hio
         omega
        clear hw0 hio HOP2
        have HHA := hide (HasArgC o ho32.1 ho32.2 we)
        by_cases hfa : fArg o = 0
        ·have e : decide (fArg o ≠ 0) = false := by simpa using hfa
         rw [e] at HHA
         have HFA := hide hfa
         clear e hfa ho32
         go_wp2_with fail
         refine HHA.out.mono ?_
         rintro x we2 ⟨rfl, rfl⟩
         clear HHA
         have HOW : Hid (∀ ob, (we2.alloc ob).ownsRow w6.heap.size 42 2 vc j (nums2 q.op q.arg j)) := fun ob => (HVE.out.next (below_alloc1 we2 ob)).qc
         have HSZ : Hid (∀ ob, w6.heap.size ≤ (we2.alloc ob).heap.size) := fun ob => by
          have := HVE.out.fr.size
          simp
          omega
         have HST := hide (fun v' (w6' : World) ob (ho : w6'.ownsRow w6.heap.size 42 2 v' (j + 1) ((nums2 q.op q.arg j) ++ [.int .i64 (o : Nat), .int .i64 (0 : Nat)])) hg => HVE.out.stepC (o := ob) (Nat.le_refl _) HVL.out ho hg)
         have k1 := block_cell HVE.out.pc 8
         have kl := block_lt HVE.out.pc
         have i0 := block_cell HIB.out 0
         have i1 := block_cell HIB.out 1
         have il := block_lt HIB.out
         simp at k1 i0 i1
         clear HVE
         go_upto_region 17 with fail
         go_wp2_with (at_builtin; refine wpList_append_own _ rfl (.tmp 80) (.tmp 82) 25 rfl w6.heap.size 42 iN (.agg #[.int .i64 0, .int .i64 0]) 2 16 Tryz.underlying25 HIN.out.1 HIN.out.2.1 HIN.out.2.2.1 HIN.out.2.2.2 rfl (by decide) vc j _ rfl (HOW.out _) ⟨we2.heap.size, 0, none⟩ 1 1 [.int .i64 (o : Nat), .int .i64 (0 : Nat)] rfl rfl (cells_newK we2 [.int .i64 (o : Nat), .int .i64 (0 : Nat)] 42) (by simp [Value.oneCell']) (by unfold maxLen; omega) (by omega) (HSZ.out _) ?_; intro v8 w8' ho hg _; have hst := HST.out v8 w8' _ ho hg; obtain ⟨ao8, cap8, hv8⟩ := own_val2 ho; subst hv8; have y0 := block_cell hst.2 8; have yf := block_free hst.2 8; have yl := block_lt hst.2; simp at y0; have HVY := hide hst.1; clear hst ho hg HOW HSZ HST k1 kl i0 i1 il)
         have HVZ : Hid (Vh w6 w4.heap.size w4.heap.size w6.heap.size d rp ub pb 0 B (.ok (pos + 1)) (.slice aa nc ca) (.slice ab ns cb) (.slice ao8 (j + 1) cap8) nc ns (j + 1) (nums .u64 ((setI q j (o : Nat) (0 : Nat))).C nc) (nums .i64 ((setI q j (o : Nat) (0 : Nat))).S ns) (nums2 ((setI q j (o : Nat) (0 : Nat))).op ((setI q j (o : Nat) (0 : Nat))).arg (j + 1)) ((setI q j (o : Nat) (0 : Nat))).en (w8'.setCell ⟨pb, 8, none⟩ (.slice ao8 (j + 1) cap8))) := by
          rw [show nums2 ((setI q j (o : Nat) (0 : Nat))).op ((setI q j (o : Nat) (0 : Nat))).arg (j + 1) = _ from nums2_set q.op q.arg j (o : Nat) (0 : Nat)]
          exact HVY.out.low (Nat.zero_le _)
         clear HVY y0 yf yl HVL HIB
         go_wp2
         go_roundw
         case rel => exact ⟨j + 1, _, (setI q j (o : Nat) (0 : Nat)), (.ok (pos + 1)), by omega, by go_num, hide ⟨HNC.out.1, HNC.out.2.1, HNC.out.2.2, .inr ⟨_, rfl, ins4_plain HBB.out HX.out (by have := HNC.out; omega) HOV.out HIO.out.1 HIO.out.2 HFA.out⟩⟩, HVZ⟩
         case measure => simp [intOf]; omega
        ·have e : decide (fArg o ≠ 0) = true := by simpa using hfa
         rw [e] at HHA
         have HFA := hide hfa
         clear e hfa ho32
         go_wp2_with fail
         refine HHA.out.mono ?_
         rintro x we2 ⟨rfl, rfl⟩
         clear HHA
         have HMS : Hid (Calls Tryz.prog 95 #[.pointer (some ⟨ub, 0, none⟩), .int .u64 1023, .int .i64 84] we2 fun e w' => ∃ x : Nat, e = .returned (.int .i64 (x : Int)) ∧ Hid (x ≤ 1023 ∧ (∀ p, (.ok (pos + 1) : Except Fz Nat) = .ok p → plW 1023 (numAt (B.drop p)) = 0 → x = (numAt (B.drop p)).1) ∧ Ub d rp ub wl B (mostR 1023 84 B (.ok (pos + 1))) w' ∧ Fr2 ub rp we2 w')) := mostU HVE.out.us HIL2.out.2 1023 (by decide) 84 (by decide)
         go_upto_region 16 with fail
         go_wp2_with fail
         refine HMS.out.mono ?_
         rintro x wf ⟨v, rfl, G⟩
         obtain ⟨hv1, hv2, hu, hf⟩ := G.out
         have HVF := hide (HVE.out.read hf hu.us)
         have HRS := hide (ins4_arg HBB.out HX.out (by have := HNC.out; omega) HOV.out HIO.out.1 HIO.out.2 HFA.out hv2)
         have HIF : Hid (wf.heap[ib]? = some (.cells #[.int .i64 (o : Nat), .int .i64 0] 42 (0, 0))) := by
          obtain ⟨_, _, _, _, hub9⟩ := HVE.out.us.ublk
          obtain ⟨_, _, _, _, _, _, _, hrp9, _⟩ := HVE.out.us.rpos
          refine (hf.block ib (block_lt HIB.out) (fun e => ?_) (fun e => ?_)).trans HIB.out
          ·have := HIB.out; rw [e, hub9] at this; cases this
          ·have := HIB.out; rw [e, hrp9] at this; cases this
         obtain ⟨r4, hr4⟩ : ∃ r, mostR 1023 84 B (.ok (pos + 1)) = r := ⟨_, rfl⟩
         rw [hr4] at HVF HRS
         clear hr4 G hv1 hv2 hu hf HMS HVE HIB HX
         have i0 := block_cell HIF.out 0
         have i1 := block_cell HIF.out 1
         have j1 := block_free HIF.out 1
         have il := block_lt HIF.out
         simp at i0 i1
         go_upto_region 17 with fail
         generalize hwg : World.setCell _ _ _ = wg
         have HGI : Hid (wf.grownBy wg (some ib)) := by rw [← hwg]; exact grown_set _ _ _ _
         have HIB : Hid (wg.heap[ib]? = some (.cells #[.int .i64 (o : Nat), .int .i64 (v : Nat)] 42 (0, 0))) := by
          rw [← hwg]
          have := heap_setCell_same wf ib 1 _ _ (.int .i64 (v : Nat)) HIF.out
          exact hide (by simpa using this)
         have HVG := hide (HVF.out.box HGI.out HIF.out (two_noS _ _) (Nat.le_trans HWL.out HIL2.out.1) (own_off2 HVF.out.qa (by decide) HIF.out) (own_off2 HVF.out.qb (by decide) HIF.out) (fun e => by have := HVL.out ib e; have := HIL2.out.1; omega))
         clear hwg i0 i1 j1 il HVF HGI HIF
         have HOW : Hid (∀ ob, (wg.alloc ob).ownsRow w6.heap.size 42 2 vc j (nums2 q.op q.arg j)) := fun ob => (HVG.out.next (below_alloc1 wg ob)).qc
         have HSZ : Hid (∀ ob, w6.heap.size ≤ (wg.alloc ob).heap.size) := fun ob => by
          have := HVG.out.fr.size
          simp
          omega
         have HST := hide (fun v' (w6' : World) ob (ho : w6'.ownsRow w6.heap.size 42 2 v' (j + 1) ((nums2 q.op q.arg j) ++ [.int .i64 (o : Nat), .int .i64 (v : Nat)])) hg => HVG.out.stepC (o := ob) (Nat.le_refl _) HVL.out ho hg)
         have k1 := block_cell HVG.out.pc 8
         have kl := block_lt HVG.out.pc
         have i0 := block_cell HIB.out 0
         have i1 := block_cell HIB.out 1
         have il := block_lt HIB.out
         simp at k1 i0 i1
         clear HVG
         go_upto_region 17 with fail
         go_wp2_with (at_builtin; refine wpList_append_own _ rfl (.tmp 80) (.tmp 82) 25 rfl w6.heap.size 42 iN (.agg #[.int .i64 0, .int .i64 0]) 2 16 Tryz.underlying25 HIN.out.1 HIN.out.2.1 HIN.out.2.2.1 HIN.out.2.2.2 rfl (by decide) vc j _ rfl (HOW.out _) ⟨wg.heap.size, 0, none⟩ 1 1 [.int .i64 (o : Nat), .int .i64 (v : Nat)] rfl rfl (cells_newK wg [.int .i64 (o : Nat), .int .i64 (v : Nat)] 42) (by simp [Value.oneCell']) (by unfold maxLen; omega) (by omega) (HSZ.out _) ?_; intro v8 w8' ho hg _; have hst := HST.out v8 w8' _ ho hg; obtain ⟨ao8, cap8, hv8⟩ := own_val2 ho; subst hv8; have y0 := block_cell hst.2 8; have yf := block_free hst.2 8; have yl := block_lt hst.2; simp at y0; have HVY := hide hst.1; clear hst ho hg HOW HSZ HST k1 kl i0 i1 il)
         have HVZ : Hid (Vh w6 w4.heap.size w4.heap.size w6.heap.size d rp ub pb 0 B r4 (.slice aa nc ca) (.slice ab ns cb) (.slice ao8 (j + 1) cap8) nc ns (j + 1) (nums .u64 ((setI q j (o : Nat) (v : Nat))).C nc) (nums .i64 ((setI q j (o : Nat) (v : Nat))).S ns) (nums2 ((setI q j (o : Nat) (v : Nat))).op ((setI q j (o : Nat) (v : Nat))).arg (j + 1)) ((setI q j (o : Nat) (v : Nat))).en (w8'.setCell ⟨pb, 8, none⟩ (.slice ao8 (j + 1) cap8))) := by
          rw [show nums2 ((setI q j (o : Nat) (v : Nat))).op ((setI q j (o : Nat) (v : Nat))).arg (j + 1) = _ from nums2_set q.op q.arg j (o : Nat) (v : Nat)]
          exact HVY.out.low (Nat.zero_le _)
         clear HVY y0 yf yl HVL HIB
         go_wp2
         go_roundw
         case rel => exact ⟨j + 1, _, (setI q j (o : Nat) (v : Nat)), r4, by omega, by go_num, hide ⟨HNC.out.1, HNC.out.2.1, HNC.out.2.2, HRS.out⟩, HVZ⟩
         case measure => simp [intOf]; omega
    ·obtain rfl : m = j := by omega
     have t1 : decide (m < m) = false := by simp
     have t2 : decide (((m : Nat) : Int) < (m : Int)) = false := by simp
     rcases hrs with ⟨z, rfl, hz⟩ | ⟨pos, rfl, hx⟩
     ·have HZR := hide hz
      clear hz HSJ
      go_upto_region 18 with fail
      clear t1 t2
      have HBD := hide (badU HVJ.out.us (Nat.zero_le _))
      go_wp2_with fail
      refine HBD.out.mono ?_
      rintro x wp ⟨rfl, G⟩
      have HVp := hide (HVJ.out.read G.out.2 G.out.1.us)
      clear G HBD HVJ
      have hE : isE (.error z) = true := rfl
      rw [hE]
      clear hE
      go_upto_region 20 with fail
      have HBD := hide (badU HVp.out.us (Nat.zero_le _))
      go_wp2_with fail
      refine HBD.out.mono ?_
      rintro x wr2 ⟨rfl, G⟩
      have HVq := hide (HVp.out.read G.out.2 G.out.1.us)
      have HUF : Hid (UF d rp ub 0 z wr2) := G.out.1
      clear G HBD HVp
      have hE : isE (.error z) = true := rfl
      rw [hE]
      clear hE
      have HBX := hide (HBX6.out.three HVq.out.fr HLT6.out.1 HLT6.out.2.1 HLT6.out.2.2)
      have HZ : Hid (upF B = .error z) := upF_bad HL8.out HZR.out
      clear HVq HBX6
      obtain ⟨_, hy0, s9, aF, cF, bF, oF, hm9, _, hu9, hf9, hr9⟩ := HUF.out
      obtain ⟨nz, hnz⟩ : ∃ nz, z.1.length = nz := ⟨_, rfl⟩
      obtain ⟨yz, hyz⟩ : ∃ yz, z.2 = yz := ⟨_, rfl⟩
      rw [hnz, hyz] at hu9
      have HF9 := hide hf9
      have HU9 := hide hu9
      have HNY := hide (And.intro hnz (And.intro hyz hy0))
      clear hnz hyz hu9 hf9 hr9 hm9 hy0 HUF
      go_upto_region 21 with fail
      refine wp_region_held_drew (S := fun (w : World) => w.heap[ub]? = some (.cells #[.pointer (some ⟨rp, 0, none⟩), .slice aF nz cF, .int .i64 yz] 171 (0, 0))) (by kernel_rfl) HU9.out (fun hH => ?_)
      obtain ⟨wz, hwz⟩ : ∃ wz, wr2.drew = wz := ⟨_, rfl⟩
      rw [hwz] at hH ⊢
      have HBd : Hid (Bx W b0 wz) := by rw [← hwz]; exact HBX.out.next (Below.refl _ wr2).drew
      have HFz : Hid (FV wz.heap.size wz aF z.1 bF oF) := by rw [← hwz]; exact HF9.out.next (Below.refl _ wr2).drew
      clear hwz
      refine wpAnyH_take (i := 0) (oi := ⟨some 117, .build 27 #[], 27, "verify.go:461", #[], none⟩) (v := .agg #[.slice none 0 0, .slice none 0 0, .int .i64 0, .int .i64 0, .int .i64 0, .int .i64 0, .int .i64 0, .int .i64 0, .slice none 0 0]) rfl (by kernel_rfl) (by kernel_rfl) (by kernel_rfl) (fun _ _ _ h => h) (Or.inl ⟨by rfl, fun w' hSw => ?_⟩) hH ?_
      ·go_simp
      simp only [Act.put, lsA, lsB, lsC]
      refine wpAnyH_take (i := 1) (oi := ⟨some 118, .move (.tmp 4), 167, "verify.go:461", #[⟨5, .gcOnly .lateStores⟩], none⟩) (v := .pointer (some ⟨ub, 0, none⟩)) rfl (by kernel_rfl) (by kernel_rfl) (by kernel_rfl) (fun _ _ _ h => h) (Or.inl ⟨by rfl, fun w' hSw => ?_⟩) hH ?_
      ·go_simp
      simp only [Act.put, lsA, lsB, lsC]
      refine wpAnyH_take (i := 2) (oi := ⟨some 119, .nilCheck (.tmp 118), 0, "verify.go:461", #[⟨1, .data⟩, ⟨5, .gcOnly .lateStores⟩], none⟩) (v := .pointer (some ⟨ub, 0, none⟩)) rfl (by kernel_rfl) (by kernel_rfl) (by kernel_rfl) (fun _ _ _ h => h) (Or.inl ⟨by rfl, fun w' hSw => ?_⟩) hH ?_
      ·go_simp
      simp only [Act.put, lsA, lsB, lsC]
      refine wpAnyH_take (i := 3) (oi := ⟨some 120, .fieldAddr 171 (.tmp 119) 1, 0, "verify.go:461", #[⟨2, .data⟩, ⟨5, .gcOnly .lateStores⟩], none⟩) (v := .pointer (some ⟨ub, 1, none⟩)) rfl (by kernel_rfl) (by kernel_rfl) (by kernel_rfl) (fun _ _ _ h => h) (Or.inl ⟨by rfl, fun w' hSw => ?_⟩) hH ?_
      ·go_simp
      simp only [Act.put, lsA, lsB, lsC]
      refine wpAnyH_take (i := 4) (oi := ⟨some 121, .load 54 (.tmp 120), 54, "verify.go:461", #[⟨3, .data⟩, ⟨5, .gcOnly .lateStores⟩], none⟩) (v := .agg #[.slice aF nz cF, .int .i64 yz]) rfl (by kernel_rfl) (by kernel_rfl) (by kernel_rfl) (fun _ _ _ h => h) (Or.inl ⟨by rfl, fun w' hSw => ?_⟩) hH ?_
      ·have k1 := block_cell hSw 1
       have k2 := block_cell hSw 2
       have kl := block_lt hSw
       simp at k1 k2
       go_simp
      simp only [Act.put, lsA, lsB, lsC]
      have x0 := block_cell HBd.out.a0 0
      have f0 := block_free HBd.out.a0 0
      have x1 := block_cell HBd.out.a0 1
      have f1 := block_free HBd.out.a0 1
      have x2 := block_cell HBd.out.a0 2
      have f2 := block_free HBd.out.a0 2
      have x3 := block_cell HBd.out.a0 3
      have f3 := block_free HBd.out.a0 3
      have x4 := block_cell HBd.out.a0 4
      have f4 := block_free HBd.out.a0 4
      have x5 := block_cell HBd.out.a0 5
      have f5 := block_free HBd.out.a0 5
      have x6 := block_cell HBd.out.a0 6
      have f6 := block_free HBd.out.a0 6
      have x7 := block_cell HBd.out.a0 7
      have f7 := block_free HBd.out.a0 7
      have x8 := block_cell HBd.out.a0 8
      have f8 := block_free HBd.out.a0 8
      have xl := block_lt HBd.out.a0
      simp [zP] at x0 x1 x2 x3 x4 x5 x6 x7 x8
      refine wpAnyH_ready (rs := [5]) (by kernel_rfl) (by simp) ?_
      refine AllReadyH.cons rfl (fun K hK => ?_) AllReadyH.nil
      go_simp
      go_wp2_with fail
      obtain ⟨w91, hw91⟩ : ∃ w91, set9 wz b0 (.slice none 0 0) (.slice none 0 0) (.int .i64 0) (.int .i64 0) (.int .i64 0) (.int .i64 0) (.int .i64 0) (.int .i64 0) (.slice none 0 0) = w91 := ⟨_, rfl⟩
      obtain ⟨w92, hw92⟩ : ∃ w92, (w91.setCell ⟨b0 + 1, 0, none⟩ (.slice aF nz cF)).setCell ⟨b0 + 1, 1, none⟩ (.int .i64 yz) = w92 := ⟨_, rfl⟩
      obtain ⟨s1, s2, gA, k1, k2, gB, kb⟩ := HBd.out.fin hw91 hw92
      unfold set9 at hw91
      rw [hw91]
      have HS1 : Hid ((fun (w : World) => w.heap[ub]? = some (.cells #[.pointer (some ⟨rp, 0, none⟩), .slice aF nz cF, .int .i64 yz] 171 (0, 0))) w91) := (gA.block _ (block_lt hH) (by simpa using HLT.out.1)).trans hH
      have HS2 : Hid ((fun (w : World) => w.heap[ub]? = some (.cells #[.pointer (some ⟨rp, 0, none⟩), .slice aF nz cF, .int .i64 yz] 171 (0, 0))) w92) := (gB.block _ (block_lt HS1.out) (by simpa using HLT.out.2.1)).trans HS1.out
      have HFX : Hid (FV w92.heap.size w92 aF z.1 bF oF) := (HFz.out.grownX gA HBd.out.a0 zP_noS).grownX gB s2 (flt_noS _ _ _ _)
      have HK1 := hide k1
      have HK2 := hide k2
      have HKB := hide kb
      have HW92 := hide hw92
      have HS22 := hide s2
      clear hw91 hw92 s1 s2 gA k1 k2 gB kb HBd x0 x1 x2 x3 x4 x5 x6 x7 x8 f0 f1 f2 f3 f4 f5 f6 f7 f8 xl
      refine hK.out _ _ HS1.out (fun _ => ?_)
      clear hK K
      have y0 := block_cell HS22.out 0
      have y1 := block_cell HS22.out 1
      have g0 := block_free HS22.out 0
      have g1 := block_free HS22.out 1
      have gl := block_lt HS22.out
      simp at y0 y1
      refine wpAnyH_ready (rs := [6]) (by kernel_rfl) (by simp) ?_
      refine AllReadyH.cons rfl (fun K hK => ?_) AllReadyH.nil
      go_simp
      go_wp2_with fail
      rw [HW92.out]
      refine hK.out _ _ HS2.out (fun _ => ?_)
      clear hK K y0 y1 g0 g1 gl HW92 HS22
      refine wpAnyH_done (by kernel_rfl) ?_ _
      have k1 := HK1.out
      have k2 := HK2.out
      have HEX : Hid (Below W.heap.size W w92 ∧ upF B = .error z ∧ z.2 ≠ 0 ∧ ∃ b off, FV w92.heap.size w92 aF z.1 b off) := ⟨HKB.out, HZ.out, HNY.out.2.2, _, _, HFX.out⟩
      clear HK1 HK2 HKB HFX HS1 HS2
      go_wp2
      have c0 := block_cell k1 0
      have c1 := block_cell k1 1
      have c2 := block_cell k1 2
      have c3 := block_cell k1 3
      have c4 := block_cell k1 4
      have c5 := block_cell k1 5
      have c6 := block_cell k1 6
      have c7 := block_cell k1 7
      have c8 := block_cell k1 8
      have d0 := block_cell k2 0
      have d1 := block_cell k2 1
      simp at c0 c1 c2 c3 c4 c5 c6 c7 c8 d0 d1
      refine bodyPost_ret (v := .tuple #[.agg #[.slice none 0 0, .slice none 0 0, .int .i64 0, .int .i64 0, .int .i64 0, .int .i64 0, .int .i64 0, .int .i64 0, .slice none 0 0], .agg #[.slice aF nz cF, .int .i64 yz]]) (by simp [results, Tryz.results49, go_sem, c0, c1, c2, c3, c4, c5, c6, c7, c8, d0, d1]) rfl ?_
      exact .inl ⟨z, aF, cF, by rw [HNY.out.1, HNY.out.2.1]; rfl, HEX⟩
     ·have HX : Hid (X4 B q q.n pos) := by rw [HSJ.out.2.2.1]; exact hx
      have HQE := hide (And.intro HSJ.out.1 (And.intro HSJ.out.2.1 HSJ.out.2.2.1))
      have hle : pos ≤ B.length := by
       have := HX.out.r.pr.length_le
       have := HX.out.r.ps
       omega
      clear hx HSJ
      go_upto_region 18 with fail
      clear t1 t2
      have HBD := hide (badU HVJ.out.us (Nat.zero_le _))
      go_wp2_with fail
      refine HBD.out.mono ?_
      rintro x wp ⟨rfl, G⟩
      have HVp := hide (HVJ.out.read G.out.2 G.out.1.us)
      clear G HBD HVJ
      have hE : isE (.ok pos : Except Fz Nat) = false := rfl
      rw [hE]
      clear hE
      have hU : UN d rp ub B pos wp := HVp.out.us
      obtain ⟨aR, cR, hrR⟩ := hU.2.2.blk
      have HUU : Hid (wp.heap[ub]? = some (.cells #[.pointer (some ⟨rp, 0, none⟩), .slice none 0 0, .int .i64 0] 171 (0, 0))) := hU.2.1
      have HRR : Hid (RefS d wp rp (rsU B pos)) := hU.2.2
      have HLF := hide (refLeft_any d rp (rsU B pos) wp hU.2.2 (fun e => by cases e))
      obtain ⟨nB, hnB⟩ : ∃ nB, (rsU B pos).B.length = nB := ⟨_, rfl⟩
      obtain ⟨ps, hps⟩ : ∃ ps, ((rsU B pos).pos : Int) = ps := ⟨_, rfl⟩
      rw [hnB, hps] at hrR
      have HUR : Hid (wp.heap[rp]? = some (.cells #[.bool true, .slice aR nB cR, .int .i64 ps, .int .i64 0, .int .i64 0] 175 (0, 0))) := hrR
      have HPS : Hid (ps = (pos : Int)) := hps.symm
      have k0 := (block_cell hU.2.1 0).trans rfl
      have kl := block_lt_of_cell k0
      clear hU hnB hps hrR
      by_cases he : pos < B.length
      ·have e0 : ((rsU B pos).B.length - (rsU B pos).pos : Nat) = B.length - pos := rfl
       rw [e0] at HLF
       obtain ⟨lf, hlf⟩ : ∃ lf, B.length - pos = lf := ⟨_, rfl⟩
       rw [hlf] at HLF
       have t1 : decide (0 < lf) = true := by simp; omega
       have t2 : decide (((lf : Nat) : Int) > 0) = true := by simp; omega
       have t3 : decide ((0 : Int) < ((lf : Nat) : Int)) = true := by simp; omega
       have HE := hide he
       clear e0 hlf he
       go_wp2_with fail
       refine HLF.out.mono ?_
       rintro x wl ⟨rfl, nq, hwq⟩
       have bq : Below wp.heap.size wp wl := by rw [hwq]; exact Go.below_drewN (Below.refl _ wp) nq
       have HVl := hide (HVp.out.next bq)
       have HUU2 := HUU
       have HUR2 := HUR
       have HRR2 := HRR
       clear HUU HUR HRR
       have HUU := hide ((bq.block _ (block_lt HUU2.out)).trans HUU2.out)
       have HUR := hide ((bq.block _ (block_lt HUR2.out)).trans HUR2.out)
       have HRR := hide (HRR2.out.below bq)
       clear hwq bq HVp HLF HUU2 HUR2 HRR2 k0 kl
       go_upto_region 19 with fail
       refine wp_region_held_drew (S := fun (w : World) => w.cell? ⟨ub, 0, none⟩ = some (.pointer (some ⟨rp, 0, none⟩)) ∧ w.heap[rp]? = some (.cells #[.bool true, .slice aR nB cR, .int .i64 ps, .int .i64 0, .int .i64 0] 175 (0, 0))) (by kernel_rfl) ⟨(block_cell HUU.out 0).trans rfl, HUR.out⟩ (fun hH => ?_)
       refine wpAnyH_take (i := 0) (oi := ⟨some 96, .move (.tmp 4), 167, "verify.go:458", #[], none⟩) (v := .pointer (some ⟨ub, 0, none⟩)) rfl (by kernel_rfl) (by kernel_rfl) (by kernel_rfl) (fun _ _ _ h => h) (Or.inl ⟨by rfl, fun w' hSw => ?_⟩) hH ?_
       ·go_simp
       simp only [Act.put, lsA, lsB, lsC]
       refine wpAnyH_take (i := 1) (oi := ⟨some 97, .move (.tmp 4), 167, "verify.go:458", #[], none⟩) (v := .pointer (some ⟨ub, 0, none⟩)) rfl (by kernel_rfl) (by kernel_rfl) (by kernel_rfl) (fun _ _ _ h => h) (Or.inl ⟨by rfl, fun w' hSw => ?_⟩) hH ?_
       ·go_simp
       simp only [Act.put, lsA, lsB, lsC]
       refine wpAnyH_take (i := 2) (oi := ⟨some 98, .nilCheck (.tmp 97), 0, "verify.go:458", #[⟨1, .data⟩], none⟩) (v := .pointer (some ⟨ub, 0, none⟩)) rfl (by kernel_rfl) (by kernel_rfl) (by kernel_rfl) (fun _ _ _ h => h) (Or.inl ⟨by rfl, fun w' hSw => ?_⟩) hH ?_
       ·go_simp
       simp only [Act.put, lsA, lsB, lsC]
       refine wpAnyH_take (i := 3) (oi := ⟨some 99, .fieldAddr 171 (.tmp 98) 0, 0, "verify.go:458", #[⟨2, .data⟩], none⟩) (v := .pointer (some ⟨ub, 0, none⟩)) rfl (by kernel_rfl) (by kernel_rfl) (by kernel_rfl) (fun _ _ _ h => h) (Or.inl ⟨by rfl, fun w' hSw => ?_⟩) hH ?_
       ·go_simp
       simp only [Act.put, lsA, lsB, lsC]
       refine wpAnyH_take (i := 4) (oi := ⟨some 100, .load 168 (.tmp 99), 168, "verify.go:458", #[⟨3, .data⟩], none⟩) (v := .pointer (some ⟨rp, 0, none⟩)) rfl (by kernel_rfl) (by kernel_rfl) (by kernel_rfl) (fun _ _ _ h => h) (Or.inl ⟨by rfl, fun w' hSw => ?_⟩) hH ?_
       ·obtain ⟨k0, _⟩ := hSw
        have kl := block_lt_of_cell k0
        go_simp
       simp only [Act.put, lsA, lsB, lsC]
       refine wpAnyH_take (i := 5) (oi := ⟨some 101, .nilCheck (.tmp 100), 0, "verify.go:458", #[⟨4, .data⟩], none⟩) (v := .pointer (some ⟨rp, 0, none⟩)) rfl (by kernel_rfl) (by kernel_rfl) (by kernel_rfl) (fun _ _ _ h => h) (Or.inl ⟨by rfl, fun w' hSw => ?_⟩) hH ?_
       ·go_simp
       simp only [Act.put, lsA, lsB, lsC]
       refine wpAnyH_take (i := 6) (oi := ⟨some 102, .fieldAddr 175 (.tmp 101) 2, 0, "verify.go:458", #[⟨5, .data⟩], none⟩) (v := .pointer (some ⟨rp, 2, none⟩)) rfl (by kernel_rfl) (by kernel_rfl) (by kernel_rfl) (fun _ _ _ h => h) (Or.inl ⟨by rfl, fun w' hSw => ?_⟩) hH ?_
       ·go_simp
       simp only [Act.put, lsA, lsB, lsC]
       refine wpAnyH_take (i := 7) (oi := ⟨some 103, .load 3 (.tmp 102), 3, "verify.go:458", #[⟨6, .data⟩], none⟩) (v := .int .i64 ps) rfl (by kernel_rfl) (by kernel_rfl) (by kernel_rfl) (fun _ _ _ h => h) (Or.inl ⟨by rfl, fun w' hSw => ?_⟩) hH ?_
       ·obtain ⟨_, hrb⟩ := hSw
        have k0 := block_cell hrb 2
        have kl := block_lt hrb
        simp at k0
        go_simp
       simp only [Act.put, lsA, lsB, lsC]
       refine wpAnyH_take (i := 8) (oi := ⟨some 104, .move (.tmp 4), 167, "verify.go:458", #[], none⟩) (v := .pointer (some ⟨ub, 0, none⟩)) rfl (by kernel_rfl) (by kernel_rfl) (by kernel_rfl) (fun _ _ _ h => h) (Or.inl ⟨by rfl, fun w' hSw => ?_⟩) hH ?_
       ·go_simp
       simp only [Act.put, lsA, lsB, lsC]
       refine wpAnyH_take (i := 9) (oi := ⟨some 105, .nilCheck (.tmp 104), 0, "verify.go:458", #[⟨8, .data⟩], none⟩) (v := .pointer (some ⟨ub, 0, none⟩)) rfl (by kernel_rfl) (by kernel_rfl) (by kernel_rfl) (fun _ _ _ h => h) (Or.inl ⟨by rfl, fun w' hSw => ?_⟩) hH ?_
       ·go_simp
       simp only [Act.put, lsA, lsB, lsC]
       refine wpAnyH_take (i := 10) (oi := ⟨some 106, .fieldAddr 171 (.tmp 105) 0, 0, "verify.go:458", #[⟨9, .data⟩], none⟩) (v := .pointer (some ⟨ub, 0, none⟩)) rfl (by kernel_rfl) (by kernel_rfl) (by kernel_rfl) (fun _ _ _ h => h) (Or.inl ⟨by rfl, fun w' hSw => ?_⟩) hH ?_
       ·go_simp
       simp only [Act.put, lsA, lsB, lsC]
       refine wpAnyH_take (i := 11) (oi := ⟨some 107, .load 168 (.tmp 106), 168, "verify.go:458", #[⟨10, .data⟩], none⟩) (v := .pointer (some ⟨rp, 0, none⟩)) rfl (by kernel_rfl) (by kernel_rfl) (by kernel_rfl) (fun _ _ _ h => h) (Or.inl ⟨by rfl, fun w' hSw => ?_⟩) hH ?_
       ·obtain ⟨k0, _⟩ := hSw
        have kl := block_lt_of_cell k0
        go_simp
       simp only [Act.put, lsA, lsB, lsC]
       refine wpAnyH_take (i := 12) (oi := ⟨some 108, .nilCheck (.tmp 107), 0, "verify.go:458", #[⟨11, .data⟩], none⟩) (v := .pointer (some ⟨rp, 0, none⟩)) rfl (by kernel_rfl) (by kernel_rfl) (by kernel_rfl) (fun _ _ _ h => h) (Or.inl ⟨by rfl, fun w' hSw => ?_⟩) hH ?_
       ·go_simp
       simp only [Act.put, lsA, lsB, lsC]
       refine wpAnyH_take (i := 13) (oi := ⟨some 109, .fieldAddr 175 (.tmp 108) 2, 0, "verify.go:458", #[⟨12, .data⟩], none⟩) (v := .pointer (some ⟨rp, 2, none⟩)) rfl (by kernel_rfl) (by kernel_rfl) (by kernel_rfl) (fun _ _ _ h => h) (Or.inl ⟨by rfl, fun w' hSw => ?_⟩) hH ?_
       ·go_simp
       simp only [Act.put, lsA, lsB, lsC]
       refine wpAnyH_take (i := 14) (oi := ⟨some 110, .load 3 (.tmp 109), 3, "verify.go:458", #[⟨13, .data⟩], none⟩) (v := .int .i64 ps) rfl (by kernel_rfl) (by kernel_rfl) (by kernel_rfl) (fun _ _ _ h => h) (Or.inl ⟨by rfl, fun w' hSw => ?_⟩) hH ?_
       ·obtain ⟨_, hrb⟩ := hSw
        have k0 := block_cell hrb 2
        have kl := block_lt hrb
        simp at k0
        go_simp
       simp only [Act.put, lsA, lsB, lsC]
       refine wpAnyH_ready (rs := [15]) (by kernel_rfl) (by simp) ?_
       refine AllReadyH.cons rfl (fun K hK => ?_) AllReadyH.nil
       go_simp
       go_wp2_with fail
       refine (newN ⟨#[119, 105, 114, 101]⟩ ps 28 _).mono ?_
       rintro x wn1 ⟨a1, c1, rfl, G1⟩
       obtain ⟨bb1, o1, _, f1, bl1⟩ := G1.out
       have HU1 := hide ((bl1.block _ (by exact block_lt HUU.out)).trans HUU.out)
       have HS1 : Hid ((fun (w : World) => w.cell? ⟨ub, 0, none⟩ = some (.pointer (some ⟨rp, 0, none⟩)) ∧ w.heap[rp]? = some (.cells #[.bool true, .slice aR nB cR, .int .i64 ps, .int .i64 0, .int .i64 0] 175 (0, 0))) wn1) := ⟨(block_cell HU1.out 0).trans rfl, (bl1.block _ (by exact block_lt HUR.out)).trans HUR.out⟩
       have HB1 : Hid (Below wl.heap.size wl wn1) := (Below.refl _ wl).drew.trans bl1
       have HWR := hide (wrapN ⟨#[99, 111, 100, 101]⟩ ps 28 1 c1 rfl (by decide) wn1 f1)
       unfold FvN at HWR
       clear G1 f1 bl1
       refine hK.out _ _ HS1.out (fun _ => ?_)
       clear hK K
       refine wpAnyH_ready (rs := [16]) (by kernel_rfl) (by simp) ?_
       refine AllReadyH.cons rfl (fun K hK => ?_) AllReadyH.nil
       go_simp
       go_wp2_with fail
       refine HWR.out.mono ?_
       rintro x wn2 ⟨a2, c2, rfl, G2⟩
       obtain ⟨bb2, o2, _, f2, bl2⟩ := G2.out
       have HU2 := hide ((bl2.block _ (block_lt HU1.out)).trans HU1.out)
       have HS2 : Hid ((fun (w : World) => w.cell? ⟨ub, 0, none⟩ = some (.pointer (some ⟨rp, 0, none⟩)) ∧ w.heap[rp]? = some (.cells #[.bool true, .slice aR nB cR, .int .i64 ps, .int .i64 0, .int .i64 0] 175 (0, 0))) wn2) := ⟨(block_cell HU2.out 0).trans rfl, (bl2.block _ (block_lt HS1.out.2)).trans HS1.out.2⟩
       have HB2 : Hid (Below wl.heap.size wl wn2) := HB1.out.trans (bl2.mono HB1.out.size)
       have HF2 : Hid (FV wn2.heap.size wn2 a2 (fzW ps 28).1 bb2 o2) := f2
       clear G2 f2 bl2 HWR HS1 HB1 HU1
       refine hK.out _ _ HS2.out (fun _ => ?_)
       clear hK K
       refine wpAnyH_take (i := 17) (oi := ⟨some 113, .nilCheck (.tmp 96), 0, "verify.go:458", #[⟨0, .data⟩, ⟨0, .phase⟩, ⟨1, .phase⟩, ⟨2, .phase⟩, ⟨3, .phase⟩, ⟨4, .phase⟩, ⟨5, .phase⟩, ⟨6, .phase⟩, ⟨7, .phase⟩, ⟨8, .phase⟩, ⟨9, .phase⟩, ⟨10, .phase⟩, ⟨11, .phase⟩, ⟨12, .phase⟩, ⟨13, .phase⟩, ⟨14, .phase⟩, ⟨15, .phase⟩, ⟨16, .phase⟩], none⟩) (v := .pointer (some ⟨ub, 0, none⟩)) rfl (by kernel_rfl) (by kernel_rfl) (by kernel_rfl) (fun _ _ _ h => h) (Or.inl ⟨by rfl, fun w' hSw => ?_⟩) HS2.out ?_
       ·go_simp
       simp only [Act.put, lsA, lsB, lsC]
       refine wpAnyH_take (i := 18) (oi := ⟨some 114, .fieldAddr 171 (.tmp 113) 1, 0, "verify.go:458", #[⟨17, .data⟩, ⟨0, .phase⟩, ⟨1, .phase⟩, ⟨2, .phase⟩, ⟨3, .phase⟩, ⟨4, .phase⟩, ⟨5, .phase⟩, ⟨6, .phase⟩, ⟨7, .phase⟩, ⟨8, .phase⟩, ⟨9, .phase⟩, ⟨10, .phase⟩, ⟨11, .phase⟩, ⟨12, .phase⟩, ⟨13, .phase⟩, ⟨14, .phase⟩, ⟨15, .phase⟩, ⟨16, .phase⟩], none⟩) (v := .pointer (some ⟨ub, 1, none⟩)) rfl (by kernel_rfl) (by kernel_rfl) (by kernel_rfl) (fun _ _ _ h => h) (Or.inl ⟨by rfl, fun w' hSw => ?_⟩) HS2.out ?_
       ·go_simp
       simp only [Act.put, lsA, lsB, lsC]
       have y0 := block_cell HU2.out 0
       have y1 := block_cell HU2.out 1
       have y2 := block_cell HU2.out 2
       have g1 := block_free HU2.out 1
       have g2 := block_free HU2.out 2
       have yl := block_lt HU2.out
       simp at y0 y1 y2
       refine wpAnyH_ready (rs := [19]) (by kernel_rfl) (by simp) ?_
       refine AllReadyH.cons rfl (fun K hK => ?_) AllReadyH.nil
       go_simp
       go_wp2_with fail
       generalize hwf : World.setCell _ _ _ = wg
       obtain ⟨k1, k2, k3⟩ := ub_set (z := fzW ps 28) HU2.out HF2.out hwf
       have HFR : Hid (Fr2 ub rp wl wg) := (Fr2.below HB2.out).trans (Fr2.gu k3)
       have HUQ : Hid (UF d rp ub 0 (fzW ps 28) wg) := ⟨HNE.out, (show (28 : Int) ≠ 0 by decide), rsU B pos, a2, c2, bb2, o2, rfl, Nat.zero_le _, k1, k2, (HRR.out.below HB2.out).offU k3 HNE.out.1 HNE.out.2⟩
       have HSG : Hid ((fun (w : World) => w.cell? ⟨ub, 0, none⟩ = some (.pointer (some ⟨rp, 0, none⟩)) ∧ w.heap[rp]? = some (.cells #[.bool true, .slice aR nB cR, .int .i64 ps, .int .i64 0, .int .i64 0] 175 (0, 0))) wg) := ⟨(block_cell k1 0).trans rfl, (k3.block _ (block_lt HS2.out.2) (by simpa using fun e => HNE.out.1 e.symm)).trans HS2.out.2⟩
       clear hwf k1 k2 k3 HS2 HB2 HF2 HU2 y0 y1 y2 g1 g2 yl
       refine hK.out _ _ HSG.out (fun _ => ?_)
       clear hK K
       refine wpAnyH_done (by kernel_rfl) ?_ _
       clear t1 t2 t3
       have HVg := hide (HVl.out.read HFR.out (show Us d rp ub 0 B (.error (fzW ps 28)) wg from .inr HUQ.out))
       clear HVl HFR HUQ HSG HUU HUR HRR
       obtain ⟨z, hzz⟩ : ∃ z, fzW ps 28 = z := ⟨_, rfl⟩
       rw [hzz] at HVg
       have HZR : Hid (upR B = .error z) := by rw [← hzz, HPS.out]; exact HX.out.more HE.out
       clear hzz
       go_upto_region 20 with fail
       have HBD := hide (badU HVg.out.us (Nat.zero_le _))
       go_wp2_with fail
       refine HBD.out.mono ?_
       rintro x wr2 ⟨rfl, G⟩
       have HVq := hide (HVg.out.read G.out.2 G.out.1.us)
       have HUF : Hid (UF d rp ub 0 z wr2) := G.out.1
       clear G HBD HVg
       have hE : isE (.error z) = true := rfl
       rw [hE]
       clear hE
       have HBX := hide (HBX6.out.three HVq.out.fr HLT6.out.1 HLT6.out.2.1 HLT6.out.2.2)
       have HZ : Hid (upF B = .error z) := upF_bad HL8.out HZR.out
       clear HVq HBX6
       obtain ⟨_, hy0, s9, aF, cF, bF, oF, hm9, _, hu9, hf9, hr9⟩ := HUF.out
       obtain ⟨nz, hnz⟩ : ∃ nz, z.1.length = nz := ⟨_, rfl⟩
       obtain ⟨yz, hyz⟩ : ∃ yz, z.2 = yz := ⟨_, rfl⟩
       rw [hnz, hyz] at hu9
       have HF9 := hide hf9
       have HU9 := hide hu9
       have HNY := hide (And.intro hnz (And.intro hyz hy0))
       clear hnz hyz hu9 hf9 hr9 hm9 hy0 HUF
       go_upto_region 21 with fail
       refine wp_region_held_drew (S := fun (w : World) => w.heap[ub]? = some (.cells #[.pointer (some ⟨rp, 0, none⟩), .slice aF nz cF, .int .i64 yz] 171 (0, 0))) (by kernel_rfl) HU9.out (fun hH => ?_)
       obtain ⟨wz, hwz⟩ : ∃ wz, wr2.drew = wz := ⟨_, rfl⟩
       rw [hwz] at hH ⊢
       have HBd : Hid (Bx W b0 wz) := by rw [← hwz]; exact HBX.out.next (Below.refl _ wr2).drew
       have HFz : Hid (FV wz.heap.size wz aF z.1 bF oF) := by rw [← hwz]; exact HF9.out.next (Below.refl _ wr2).drew
       clear hwz
       refine wpAnyH_take (i := 0) (oi := ⟨some 117, .build 27 #[], 27, "verify.go:461", #[], none⟩) (v := .agg #[.slice none 0 0, .slice none 0 0, .int .i64 0, .int .i64 0, .int .i64 0, .int .i64 0, .int .i64 0, .int .i64 0, .slice none 0 0]) rfl (by kernel_rfl) (by kernel_rfl) (by kernel_rfl) (fun _ _ _ h => h) (Or.inl ⟨by rfl, fun w' hSw => ?_⟩) hH ?_
       ·go_simp
       simp only [Act.put, lsA, lsB, lsC]
       refine wpAnyH_take (i := 1) (oi := ⟨some 118, .move (.tmp 4), 167, "verify.go:461", #[⟨5, .gcOnly .lateStores⟩], none⟩) (v := .pointer (some ⟨ub, 0, none⟩)) rfl (by kernel_rfl) (by kernel_rfl) (by kernel_rfl) (fun _ _ _ h => h) (Or.inl ⟨by rfl, fun w' hSw => ?_⟩) hH ?_
       ·go_simp
       simp only [Act.put, lsA, lsB, lsC]
       refine wpAnyH_take (i := 2) (oi := ⟨some 119, .nilCheck (.tmp 118), 0, "verify.go:461", #[⟨1, .data⟩, ⟨5, .gcOnly .lateStores⟩], none⟩) (v := .pointer (some ⟨ub, 0, none⟩)) rfl (by kernel_rfl) (by kernel_rfl) (by kernel_rfl) (fun _ _ _ h => h) (Or.inl ⟨by rfl, fun w' hSw => ?_⟩) hH ?_
       ·go_simp
       simp only [Act.put, lsA, lsB, lsC]
       refine wpAnyH_take (i := 3) (oi := ⟨some 120, .fieldAddr 171 (.tmp 119) 1, 0, "verify.go:461", #[⟨2, .data⟩, ⟨5, .gcOnly .lateStores⟩], none⟩) (v := .pointer (some ⟨ub, 1, none⟩)) rfl (by kernel_rfl) (by kernel_rfl) (by kernel_rfl) (fun _ _ _ h => h) (Or.inl ⟨by rfl, fun w' hSw => ?_⟩) hH ?_
       ·go_simp
       simp only [Act.put, lsA, lsB, lsC]
       refine wpAnyH_take (i := 4) (oi := ⟨some 121, .load 54 (.tmp 120), 54, "verify.go:461", #[⟨3, .data⟩, ⟨5, .gcOnly .lateStores⟩], none⟩) (v := .agg #[.slice aF nz cF, .int .i64 yz]) rfl (by kernel_rfl) (by kernel_rfl) (by kernel_rfl) (fun _ _ _ h => h) (Or.inl ⟨by rfl, fun w' hSw => ?_⟩) hH ?_
       ·have k1 := block_cell hSw 1
        have k2 := block_cell hSw 2
        have kl := block_lt hSw
        simp at k1 k2
        go_simp
       simp only [Act.put, lsA, lsB, lsC]
       have x0 := block_cell HBd.out.a0 0
       have f0 := block_free HBd.out.a0 0
       have x1 := block_cell HBd.out.a0 1
       have f1 := block_free HBd.out.a0 1
       have x2 := block_cell HBd.out.a0 2
       have f2 := block_free HBd.out.a0 2
       have x3 := block_cell HBd.out.a0 3
       have f3 := block_free HBd.out.a0 3
       have x4 := block_cell HBd.out.a0 4
       have f4 := block_free HBd.out.a0 4
       have x5 := block_cell HBd.out.a0 5
       have f5 := block_free HBd.out.a0 5
       have x6 := block_cell HBd.out.a0 6
       have f6 := block_free HBd.out.a0 6
       have x7 := block_cell HBd.out.a0 7
       have f7 := block_free HBd.out.a0 7
       have x8 := block_cell HBd.out.a0 8
       have f8 := block_free HBd.out.a0 8
       have xl := block_lt HBd.out.a0
       simp [zP] at x0 x1 x2 x3 x4 x5 x6 x7 x8
       refine wpAnyH_ready (rs := [5]) (by kernel_rfl) (by simp) ?_
       refine AllReadyH.cons rfl (fun K hK => ?_) AllReadyH.nil
       go_simp
       go_wp2_with fail
       obtain ⟨w91, hw91⟩ : ∃ w91, set9 wz b0 (.slice none 0 0) (.slice none 0 0) (.int .i64 0) (.int .i64 0) (.int .i64 0) (.int .i64 0) (.int .i64 0) (.int .i64 0) (.slice none 0 0) = w91 := ⟨_, rfl⟩
       obtain ⟨w92, hw92⟩ : ∃ w92, (w91.setCell ⟨b0 + 1, 0, none⟩ (.slice aF nz cF)).setCell ⟨b0 + 1, 1, none⟩ (.int .i64 yz) = w92 := ⟨_, rfl⟩
       obtain ⟨s1, s2, gA, k1, k2, gB, kb⟩ := HBd.out.fin hw91 hw92
       unfold set9 at hw91
       rw [hw91]
       have HS1 : Hid ((fun (w : World) => w.heap[ub]? = some (.cells #[.pointer (some ⟨rp, 0, none⟩), .slice aF nz cF, .int .i64 yz] 171 (0, 0))) w91) := (gA.block _ (block_lt hH) (by simpa using HLT.out.1)).trans hH
       have HS2 : Hid ((fun (w : World) => w.heap[ub]? = some (.cells #[.pointer (some ⟨rp, 0, none⟩), .slice aF nz cF, .int .i64 yz] 171 (0, 0))) w92) := (gB.block _ (block_lt HS1.out) (by simpa using HLT.out.2.1)).trans HS1.out
       have HFX : Hid (FV w92.heap.size w92 aF z.1 bF oF) := (HFz.out.grownX gA HBd.out.a0 zP_noS).grownX gB s2 (flt_noS _ _ _ _)
       have HK1 := hide k1
       have HK2 := hide k2
       have HKB := hide kb
       have HW92 := hide hw92
       have HS22 := hide s2
       clear hw91 hw92 s1 s2 gA k1 k2 gB kb HBd x0 x1 x2 x3 x4 x5 x6 x7 x8 f0 f1 f2 f3 f4 f5 f6 f7 f8 xl
       refine hK.out _ _ HS1.out (fun _ => ?_)
       clear hK K
       have y0 := block_cell HS22.out 0
       have y1 := block_cell HS22.out 1
       have g0 := block_free HS22.out 0
       have g1 := block_free HS22.out 1
       have gl := block_lt HS22.out
       simp at y0 y1
       refine wpAnyH_ready (rs := [6]) (by kernel_rfl) (by simp) ?_
       refine AllReadyH.cons rfl (fun K hK => ?_) AllReadyH.nil
       go_simp
       go_wp2_with fail
       rw [HW92.out]
       refine hK.out _ _ HS2.out (fun _ => ?_)
       clear hK K y0 y1 g0 g1 gl HW92 HS22
       refine wpAnyH_done (by kernel_rfl) ?_ _
       have k1 := HK1.out
       have k2 := HK2.out
       have HEX : Hid (Below W.heap.size W w92 ∧ upF B = .error z ∧ z.2 ≠ 0 ∧ ∃ b off, FV w92.heap.size w92 aF z.1 b off) := ⟨HKB.out, HZ.out, HNY.out.2.2, _, _, HFX.out⟩
       clear HK1 HK2 HKB HFX HS1 HS2
       go_wp2
       have c0 := block_cell k1 0
       have c1 := block_cell k1 1
       have c2 := block_cell k1 2
       have c3 := block_cell k1 3
       have c4 := block_cell k1 4
       have c5 := block_cell k1 5
       have c6 := block_cell k1 6
       have c7 := block_cell k1 7
       have c8 := block_cell k1 8
       have d0 := block_cell k2 0
       have d1 := block_cell k2 1
       simp at c0 c1 c2 c3 c4 c5 c6 c7 c8 d0 d1
       refine bodyPost_ret (v := .tuple #[.agg #[.slice none 0 0, .slice none 0 0, .int .i64 0, .int .i64 0, .int .i64 0, .int .i64 0, .int .i64 0, .int .i64 0, .slice none 0 0], .agg #[.slice aF nz cF, .int .i64 yz]]) (by simp [results, Tryz.results49, go_sem, c0, c1, c2, c3, c4, c5, c6, c7, c8, d0, d1]) rfl ?_
       exact .inl ⟨z, aF, cF, by rw [HNY.out.1, HNY.out.2.1]; rfl, HEX⟩
      ·have e0 : ((rsU B pos).B.length - (rsU B pos).pos : Nat) = 0 := by
        show B.length - pos = 0
        omega
       rw [e0] at HLF
       have HDN := hide (HX.out.done he (by omega))
       clear e0 he HUU HUR HRR HPS
       go_wp2_with fail
       refine HLF.out.mono ?_
       rintro x wl ⟨rfl, nq, hwq⟩
       have bq : Below wp.heap.size wp wl := by rw [hwq]; exact Go.below_drewN (Below.refl _ wp) nq
       have HVl := hide (HVp.out.next bq)
       clear hwq bq HVp HLF k0 kl
       go_upto_region 20 with fail
       have HBD := hide (badU HVl.out.us (Nat.zero_le _))
       go_wp2_with fail
       refine HBD.out.mono ?_
       rintro x ws ⟨rfl, G⟩
       have HVs := hide (HVl.out.read G.out.2 G.out.1.us)
       clear G HBD HVl
       have hE : isE (.ok pos : Except Fz Nat) = false := rfl
       rw [hE]
       clear hE
       have HBX := hide (HBX6.out.three HVs.out.fr HLT6.out.1 HLT6.out.2.1 HLT6.out.2.2)
       obtain ⟨ac, cc, rfl⟩ := own_val2 HVs.out.qc
       obtain ⟨hq1, hq2, hq3⟩ := HQE.out
       have hpk := HDN.out.2
       obtain ⟨gq, e1, e2, e3, hpo⟩ := po_mk (p := q) (B := W.heap.size) (by rw [hq1]; exact own_low HVs.out.qa HWS.out) (by rw [hq2]; exact own_low HVs.out.qb HWS.out) (by rw [hq3]; exact own_low HVs.out.qc (by have := HS6.out; have := HWS.out; omega)) hpk.nc hpk.ns hpk.n
       have PC := HVs.out.pc
       have HCS : Hid ((gq.cs q).toArray = #[.slice aa nc ca, .slice ab ns cb, .int .i64 (q.en 0), .int .i64 (q.en 1), .int .i64 (q.en 2), .int .i64 (q.en 3), .int .i64 (q.en 4), .int .i64 (q.en 5), .slice ac m cc]) := by
        have : (gq.cs q).toArray = #[.slice aa nc ca, .slice ab ns cb, .int .i64 (q.en 0), .int .i64 (q.en 1), .int .i64 (q.en 2), .int .i64 (q.en 3), .int .i64 (q.en 4), .int .i64 (q.en 5), .slice ac m cc] := by
         rw [e1, e2, e3]
         rfl
        exact this
       have HPO := hide hpo
       have HVF := hide (verifyR hpo.ok)
       rw [HCS.out] at HVF
       have HPC := hide PC
       have p0 := block_cell PC 0
       have p1 := block_cell PC 1
       have p2 := block_cell PC 2
       have p3 := block_cell PC 3
       have p4 := block_cell PC 4
       have p5 := block_cell PC 5
       have p6 := block_cell PC 6
       have p7 := block_cell PC 7
       have p8 := block_cell PC 8
       have pl := block_lt PC
       simp at p0 p1 p2 p3 p4 p5 p6 p7 p8
       clear HVs HBX6 hq1 hq2 hq3 e1 e2 e3 hpo hpk PC HQE HX
       go_upto_region 22 with fail
       go_wp2_with fail
       refine HVF.out.mono ?_
       intro x wt hh
       clear HVF p0 p1 p2 p3 p4 p5 p6 p7 p8 pl
       cases hv : verF q with
       | error zz =>
        obtain ⟨ay, yz⟩ := zz
        rw [hv] at hh
        obtain ⟨aF, cF, rfl, G⟩ := hh
        obtain ⟨bF, oF, hfF, hbF⟩ := G.out
        have hy0 : yz ≠ 0 := ver_ne hv
        obtain ⟨wu, hwu⟩ : ∃ wu, wt.alloc (.cells #[.slice aF 1 cF, .int .i64 yz] 54) = wu := ⟨_, rfl⟩
        have bu : Below wt.heap.size wt wu := by rw [← hwu]; exact below_alloc1 _ _
        have HFB : Hid (wu.heap[wt.heap.size]? = some (.cells #[.slice aF 1 cF, .int .i64 yz] 54 (0, 0))) := by rw [← hwu]; exact alloc_atK _ _
        obtain ⟨fb, hfb⟩ : ∃ fb, wt.heap.size = fb := ⟨_, rfl⟩
        rw [hfb] at HFB
        have hlb : b0 + 1 < fb := by
         have := block_lt HBX.out.a1
         have := hbF.size
         omega
        obtain ⟨z, hzz⟩ : ∃ z, fzO ay yz = z := ⟨_, rfl⟩
        have HZ : Hid (upF B = .error z) := by rw [← hzz]; exact upF_ver HL8.out HDN.out.1 hv
        have HFU : Hid (FV wu.heap.size wu aF z.1 bF oF) := by rw [← hzz]; exact hfF.next bu
        have HNY0 : Hid (z.1.length = 1 ∧ z.2 = yz ∧ z.2 ≠ 0) := by rw [← hzz]; exact hide ⟨rfl, rfl, hy0⟩
        have HBXu := hide ((HBX.out.next hbF).next bu)
        have HLF : Hid (fb ≠ b0 ∧ fb ≠ b0 + 1) := ⟨by omega, by omega⟩
        have HWU := hide hwu
        have HAY := hide (fun w => anyYes aF 1 cF yz hy0 w)
        clear hwu bu hfF hbF G hlb hzz hv hy0 HBX HPO HPC HCS HDN
        go_upto_region 23 with fail
        rw [HWU.out]
        clear HWU
        try rw [hfb]
        clear hfb
        have u0 := block_cell HFB.out 0
        have u1 := block_cell HFB.out 1
        have ul := block_lt HFB.out
        simp at u0 u1
        go_wp2_with fail
        refine (HAY.out wu).mono ?_
        rintro x wv ⟨rfl, G⟩
        have HBX := hide (HBXu.out.next G.out)
        obtain ⟨nz, hnz⟩ : ∃ nz : Nat, 1 = nz := ⟨_, rfl⟩
        have HU9 : Hid (wv.heap[fb]? = some (.cells #[.slice aF nz cF, .int .i64 yz] 54 (0, 0))) := by rw [← hnz]; exact (G.out.block _ (block_lt HFB.out)).trans HFB.out
        have HF9 := hide (HFU.out.next G.out)
        have HNY : Hid (z.1.length = nz ∧ z.2 = yz ∧ z.2 ≠ 0) := by rw [← hnz]; exact HNY0
        clear G HBXu HFB HFU HNY0 HAY u0 u1 ul hnz
        go_upto_region 24 with fail
        refine wp_region_held_drew (S := fun (w : World) => w.heap[fb]? = some (.cells #[.slice aF nz cF, .int .i64 yz] 54 (0, 0))) (by kernel_rfl) HU9.out (fun hH => ?_)
        obtain ⟨wz, hwz⟩ : ∃ wz, wv.drew = wz := ⟨_, rfl⟩
        rw [hwz] at hH ⊢
        have HBd : Hid (Bx W b0 wz) := by rw [← hwz]; exact HBX.out.next (Below.refl _ wv).drew
        have HFz : Hid (FV wz.heap.size wz aF z.1 bF oF) := by rw [← hwz]; exact HF9.out.next (Below.refl _ wv).drew
        clear hwz
        refine wpAnyH_take (i := 0) (oi := ⟨some 126, .build 27 #[], 27, "verify.go:465", #[], none⟩) (v := .agg #[.slice none 0 0, .slice none 0 0, .int .i64 0, .int .i64 0, .int .i64 0, .int .i64 0, .int .i64 0, .int .i64 0, .slice none 0 0]) rfl (by kernel_rfl) (by kernel_rfl) (by kernel_rfl) (fun _ _ _ h => h) (Or.inl ⟨by rfl, fun w' hSw => ?_⟩) hH ?_
        ·go_simp
        simp only [Act.put, lsA, lsB, lsC]
        refine wpAnyH_take (i := 1) (oi := ⟨some 127, .load 54 (.tmp 11), 54, "verify.go:465", #[⟨2, .gcOnly .lateStores⟩], none⟩) (v := .agg #[.slice aF nz cF, .int .i64 yz]) rfl (by kernel_rfl) (by kernel_rfl) (by kernel_rfl) (fun _ _ _ h => h) (Or.inl ⟨by rfl, fun w' hSw => ?_⟩) hH ?_
        ·have k1 := block_cell hSw 0
         have k2 := block_cell hSw 1
         have kl := block_lt hSw
         simp at k1 k2
         go_simp
        simp only [Act.put, lsA, lsB, lsC]
        have x0 := block_cell HBd.out.a0 0
        have f0 := block_free HBd.out.a0 0
        have x1 := block_cell HBd.out.a0 1
        have f1 := block_free HBd.out.a0 1
        have x2 := block_cell HBd.out.a0 2
        have f2 := block_free HBd.out.a0 2
        have x3 := block_cell HBd.out.a0 3
        have f3 := block_free HBd.out.a0 3
        have x4 := block_cell HBd.out.a0 4
        have f4 := block_free HBd.out.a0 4
        have x5 := block_cell HBd.out.a0 5
        have f5 := block_free HBd.out.a0 5
        have x6 := block_cell HBd.out.a0 6
        have f6 := block_free HBd.out.a0 6
        have x7 := block_cell HBd.out.a0 7
        have f7 := block_free HBd.out.a0 7
        have x8 := block_cell HBd.out.a0 8
        have f8 := block_free HBd.out.a0 8
        have xl := block_lt HBd.out.a0
        simp [zP] at x0 x1 x2 x3 x4 x5 x6 x7 x8
        refine wpAnyH_ready (rs := [2]) (by kernel_rfl) (by simp) ?_
        refine AllReadyH.cons rfl (fun K hK => ?_) AllReadyH.nil
        go_simp
        go_wp2_with fail
        obtain ⟨w91, hw91⟩ : ∃ w91, set9 wz b0 (.slice none 0 0) (.slice none 0 0) (.int .i64 0) (.int .i64 0) (.int .i64 0) (.int .i64 0) (.int .i64 0) (.int .i64 0) (.slice none 0 0) = w91 := ⟨_, rfl⟩
        obtain ⟨w92, hw92⟩ : ∃ w92, (w91.setCell ⟨b0 + 1, 0, none⟩ (.slice aF nz cF)).setCell ⟨b0 + 1, 1, none⟩ (.int .i64 yz) = w92 := ⟨_, rfl⟩
        obtain ⟨s1, s2, gA, k1, k2, gB, kb⟩ := HBd.out.fin hw91 hw92
        unfold set9 at hw91
        rw [hw91]
        have HS1 : Hid ((fun (w : World) => w.heap[fb]? = some (.cells #[.slice aF nz cF, .int .i64 yz] 54 (0, 0))) w91) := (gA.block _ (block_lt hH) (by simpa using HLF.out.1)).trans hH
        have HS2 : Hid ((fun (w : World) => w.heap[fb]? = some (.cells #[.slice aF nz cF, .int .i64 yz] 54 (0, 0))) w92) := (gB.block _ (block_lt HS1.out) (by simpa using HLF.out.2)).trans HS1.out
        have HFX : Hid (FV w92.heap.size w92 aF z.1 bF oF) := (HFz.out.grownX gA HBd.out.a0 zP_noS).grownX gB s2 (flt_noS _ _ _ _)
        have HK1 := hide k1
        have HK2 := hide k2
        have HKB := hide kb
        have HW92 := hide hw92
        have HS22 := hide s2
        clear hw91 hw92 s1 s2 gA k1 k2 gB kb HBd x0 x1 x2 x3 x4 x5 x6 x7 x8 f0 f1 f2 f3 f4 f5 f6 f7 f8 xl
        refine hK.out _ _ HS1.out (fun _ => ?_)
        clear hK K
        have y0 := block_cell HS22.out 0
        have y1 := block_cell HS22.out 1
        have g0 := block_free HS22.out 0
        have g1 := block_free HS22.out 1
        have gl := block_lt HS22.out
        simp at y0 y1
        refine wpAnyH_ready (rs := [3]) (by kernel_rfl) (by simp) ?_
        refine AllReadyH.cons rfl (fun K hK => ?_) AllReadyH.nil
        go_simp
        go_wp2_with fail
        rw [HW92.out]
        refine hK.out _ _ HS2.out (fun _ => ?_)
        clear hK K y0 y1 g0 g1 gl HW92 HS22
        refine wpAnyH_done (by kernel_rfl) ?_ _
        have k1 := HK1.out
        have k2 := HK2.out
        have HEX : Hid (Below W.heap.size W w92 ∧ upF B = .error z ∧ z.2 ≠ 0 ∧ ∃ b off, FV w92.heap.size w92 aF z.1 b off) := ⟨HKB.out, HZ.out, HNY.out.2.2, _, _, HFX.out⟩
        clear HK1 HK2 HKB HFX HS1 HS2
        go_wp2
        have c0 := block_cell k1 0
        have c1 := block_cell k1 1
        have c2 := block_cell k1 2
        have c3 := block_cell k1 3
        have c4 := block_cell k1 4
        have c5 := block_cell k1 5
        have c6 := block_cell k1 6
        have c7 := block_cell k1 7
        have c8 := block_cell k1 8
        have d0 := block_cell k2 0
        have d1 := block_cell k2 1
        simp at c0 c1 c2 c3 c4 c5 c6 c7 c8 d0 d1
        refine bodyPost_ret (v := .tuple #[.agg #[.slice none 0 0, .slice none 0 0, .int .i64 0, .int .i64 0, .int .i64 0, .int .i64 0, .int .i64 0, .int .i64 0, .slice none 0 0], .agg #[.slice aF nz cF, .int .i64 yz]]) (by simp [results, Tryz.results49, go_sem, c0, c1, c2, c3, c4, c5, c6, c7, c8, d0, d1]) rfl ?_
        exact .inl ⟨z, aF, cF, by rw [HNY.out.1, HNY.out.2.1]; rfl, HEX⟩
       | ok k =>
        rw [hv] at hh
        obtain ⟨rfl, G⟩ := hh
        obtain ⟨wu, hwu⟩ : ∃ wu, wt.alloc (.cells #[.slice none 0 0, .int .i64 0] 54) = wu := ⟨_, rfl⟩
        have bu : Below wt.heap.size wt wu := by rw [← hwu]; exact below_alloc1 _ _
        have HFB : Hid (wu.heap[wt.heap.size]? = some (.cells #[.slice none 0 0, .int .i64 0] 54 (0, 0))) := by rw [← hwu]; exact alloc_atK _ _
        obtain ⟨fb, hfb⟩ : ∃ fb, wt.heap.size = fb := ⟨_, rfl⟩
        rw [hfb] at HFB
        have HBXu := hide ((HBX.out.next G.out).next bu)
        have HPOu := hide ((HPO.out.next G.out).next bu)
        have HPCu := hide ((bu.block _ (Nat.lt_of_lt_of_le (block_lt HPC.out) G.out.size)).trans ((G.out.block _ (block_lt HPC.out)).trans HPC.out))
        have HZ : Hid (upF B = .ok q) := upF_ok HL8.out HDN.out.1 hv
        have HWU := hide hwu
        have HPK := hide HDN.out.2
        clear hwu bu G hv HBX HPO HPC HDN
        go_upto_region 23 with fail
        rw [HWU.out]
        clear HWU
        try rw [hfb]
        clear hfb
        have u0 := block_cell HFB.out 0
        have u1 := block_cell HFB.out 1
        have ul := block_lt HFB.out
        simp at u0 u1
        go_wp2_with fail
        refine (anyNo wu).mono ?_
        rintro x wv ⟨rfl, G⟩
        have HBX := hide (HBXu.out.next G.out)
        have HPO := hide (HPOu.out.next G.out)
        have PC := (G.out.block _ (block_lt HPCu.out)).trans HPCu.out
        clear G HBXu HPOu HPCu HFB u0 u1 ul
        have p0 := block_cell PC 0
        have p1 := block_cell PC 1
        have p2 := block_cell PC 2
        have p3 := block_cell PC 3
        have p4 := block_cell PC 4
        have p5 := block_cell PC 5
        have p6 := block_cell PC 6
        have p7 := block_cell PC 7
        have p8 := block_cell PC 8
        have pl := block_lt PC
        simp at p0 p1 p2 p3 p4 p5 p6 p7 p8
        clear PC
        have x0 := block_cell HBX.out.a0 0
        have f0 := block_free HBX.out.a0 0
        have x1 := block_cell HBX.out.a0 1
        have f1 := block_free HBX.out.a0 1
        have x2 := block_cell HBX.out.a0 2
        have f2 := block_free HBX.out.a0 2
        have x3 := block_cell HBX.out.a0 3
        have f3 := block_free HBX.out.a0 3
        have x4 := block_cell HBX.out.a0 4
        have f4 := block_free HBX.out.a0 4
        have x5 := block_cell HBX.out.a0 5
        have f5 := block_free HBX.out.a0 5
        have x6 := block_cell HBX.out.a0 6
        have f6 := block_free HBX.out.a0 6
        have x7 := block_cell HBX.out.a0 7
        have f7 := block_free HBX.out.a0 7
        have x8 := block_cell HBX.out.a0 8
        have f8 := block_free HBX.out.a0 8
        have xl := block_lt HBX.out.a0
        simp [zP] at x0 x1 x2 x3 x4 x5 x6 x7 x8
        have y0 := block_cell HBX.out.a1 0
        have y1 := block_cell HBX.out.a1 1
        have g0 := block_free HBX.out.a1 0
        have g1 := block_free HBX.out.a1 1
        have gl := block_lt HBX.out.a1
        simp at y0 y1
        go_wp2
        obtain ⟨w91, hw91⟩ : ∃ w91, set9 wv b0 (.slice aa nc ca) (.slice ab ns cb) (.int .i64 (q.en 0)) (.int .i64 (q.en 1)) (.int .i64 (q.en 2)) (.int .i64 (q.en 3)) (.int .i64 (q.en 4)) (.int .i64 (q.en 5)) (.slice ac m cc) = w91 := ⟨_, rfl⟩
        obtain ⟨w92, hw92⟩ : ∃ w92, (w91.setCell ⟨b0 + 1, 0, none⟩ (.slice none 0 0)).setCell ⟨b0 + 1, 1, none⟩ (.int .i64 0) = w92 := ⟨_, rfl⟩
        obtain ⟨s1, s2, gA, k1, k2, gB, kb⟩ := HBX.out.fin hw91 hw92
        unfold set9 at hw91
        rw [hw91, hw92]
        have hpf := (HPO.out.off HBX.out.a0 (by decide) (by decide) (by decide) gA).off s2 (by decide) (by decide) (by decide) gB
        have HEX : Hid (Below W.heap.size W w92 ∧ Po W.heap.size gq q w92 ∧ Pkw q ∧ upF B = .ok q) := ⟨kb, hpf, HPK.out, HZ.out⟩
        clear hw91 hw92 s1 s2 gA gB kb hpf HBX HPO HPK HZ x0 x1 x2 x3 x4 x5 x6 x7 x8 f0 f1 f2 f3 f4 f5 f6 f7 f8 xl y0 y1 g0 g1 gl p0 p1 p2 p3 p4 p5 p6 p7 p8 pl
        have c0 := block_cell k1 0
        have c1 := block_cell k1 1
        have c2 := block_cell k1 2
        have c3 := block_cell k1 3
        have c4 := block_cell k1 4
        have c5 := block_cell k1 5
        have c6 := block_cell k1 6
        have c7 := block_cell k1 7
        have c8 := block_cell k1 8
        have d0 := block_cell k2 0
        have d1 := block_cell k2 1
        simp at c0 c1 c2 c3 c4 c5 c6 c7 c8 d0 d1
        refine bodyPost_ret (v := .tuple #[.agg #[.slice aa nc ca, .slice ab ns cb, .int .i64 (q.en 0), .int .i64 (q.en 1), .int .i64 (q.en 2), .int .i64 (q.en 3), .int .i64 (q.en 4), .int .i64 (q.en 5), .slice ac m cc], .agg #[.slice none 0 0, .int .i64 0]]) (by simp [results, Tryz.results49, go_sem, c0, c1, c2, c3, c4, c5, c6, c7, c8, d0, d1]) rfl ?_
        exact .inr ⟨q, gq, by rw [HCS.out], HEX⟩
end Go.Proofs.YtggpaljilpbmhaaGreatDoor
