import Derived.Test.YtmoklddfaocihaaDoorV50
import Derived.Test.YtmoklddfaocihaaDoorV32
import Derived.Deep.DeepCutAuto
namespace Go.Proofs.YtmoklddfaocihaaDoor
open Go.RowKit

set_option maxRecDepth 10000 in
set_option maxHeartbeats 12800000 in
theorem steps_walk {W : World} {g : Pg} {p : Pv} (ev : Int) (e : En) (fuel md evr : Int) (h0 : ∀ w, Below W.heap.size W w → Ch0 W g p ev e.cs.toArray fuel w) (hn : ∀ w (pm : Value) (vb : Nat), Below W.heap.size W w → w.heap[vb]? = some (.cells zR.toArray 67 (0, 0)) → (pm = .pointer none ∨ ∃ mb, pm = .pointer (some ⟨mb, 0, none⟩) ∧ w.heap[mb]? = some (.cells zM.toArray 61 (0, 0))) → ∃ J s, Dv W pm (.pointer (some ⟨vb, 0, none⟩)) J ∧ J s w) :
  Calls Tryd.prog 5 #[.agg (g.cs p).toArray, .int .i64 ev, .agg e.cs.toArray, .int .u64 fuel, .int .i64 md, .int .i64 evr] W fun x w' => x = .returned (.bool true) ∧ Below W.heap.size W w' := by
 obtain ⟨W1, hW1⟩ : ∃ W1, (W.alloc (.cells (g.cs p).toArray 27)).alloc (.cells e.cs.toArray 44) = W1 := ⟨_, rfl⟩
 obtain ⟨A1, A2, B1⟩ := two_box2 W _ _ _ _ hW1
 obtain ⟨W2, hW2⟩ : ∃ W2, W1.alloc (.cells zM.toArray 61) = W2 := ⟨_, rfl⟩
 have B2 : Below W1.heap.size W1 W2 := by rw [← hW2]; exact below_alloc1 _ _
 have M2 : W2.heap[W1.heap.size]? = some (.cells zM.toArray 61 (0, 0)) := by rw [← hW2]; exact alloc_atK _ _
 obtain ⟨W3, hW3⟩ : ∃ W3, W2.alloc (.cells zR.toArray 67) = W3 := ⟨_, rfl⟩
 have B3 : Below W2.heap.size W2 W3 := by rw [← hW3]; exact below_alloc1 _ _
 have V3 : W3.heap[W2.heap.size]? = some (.cells zR.toArray 67 (0, 0)) := by rw [← hW3]; exact alloc_atK _ _
 have B13 : Below W1.heap.size W1 W3 := B2.trans (B3.mono B2.size)
 have BW : Below W.heap.size W W3 := B1.trans (B13.mono B1.size)
 have HP := hide ((B13.block _ (block_lt A1)).trans A1)
 have HE := hide ((B13.block _ (block_lt A2)).trans A2)
 have H0 := hide (h0 W3 BW)
 have HN : Hid (∀ pm : Value, (pm = .pointer none ∨ pm = .pointer (some ⟨W1.heap.size, 0, none⟩)) → ∃ J s, Dv W pm (.pointer (some ⟨W2.heap.size, 0, none⟩)) J ∧ J s W3) := fun pm hpm => hn W3 pm _ BW V3 (hpm.imp id fun q => ⟨_, q, (B3.block _ (block_lt M2)).trans M2⟩)
 have HBM := hide build_zm
 have HBR := hide build_zr
 have HW1 := hide hW1
 have HW2 := hide hW2
 have HW3 := hide hW3
 generalize zM = zm at *
 generalize zR = zr at *
 have HCS : Hid (∀ (g : Pg), (g.cs p).toArray = #[.slice g.ca p.nc g.cc, .slice g.sa p.ns g.sc, .int .i64 (p.en 0), .int .i64 (p.en 1), .int .i64 (p.en 2), .int .i64 (p.en 3), .int .i64 (p.en 4), .int .i64 (p.en 5), .slice g.ia p.n g.ic]) := fun _ => rfl
 have HEC : Hid (e.cs.toArray = #[.int .u64 e.x0, .int .u64 e.x1, .int .u64 e.x2, .int .u64 e.x3, .int .u64 e.x4, .int .u64 e.x5, .int .u64 e.x6, .bool e.x7]) := rfl
 clear h0 hn A1 A2 B1 B2 M2 B3 V3 B13 BW hW1 hW2 hW3
 rw [HCS.out g, HEC.out] at HW1 ⊢
 go_enter Tryd.func5, Tryd.ntmps5
 go_upto_region 1 with fail
 rw [HW1.out]
 clear HW1
 go_step
 refine wpList_pure rfl (exec_build (t := 61) (parts := #[]) rfl (by have h := HBM.out; simpa [Act.eval] using h _)) ?_
 simp only [Act.put, lsA, lsB, lsC]
 go_upto_region 2 with fail
 rw [HW2.out]
 clear HW2
 go_step
 refine wpList_pure rfl (exec_build (t := 67) (parts := #[]) rfl (by have h := HBR.out; simpa [Act.eval] using h _)) ?_
 simp only [Act.put, lsA, lsB, lsC]
 go_upto_region 3 with fail
 rw [HW3.out]
 clear HW3 HBM HBR
 generalize W1.heap.size = mb0 at *
 generalize W2.heap.size = vb0 at *
 go_upto_if 35 with fail
 go_cut [13, 14] from 15 (fun pm pv V => Hid (∃ J s, Dv W pm pv J ∧ J s V))
 case first =>
  by_cases hm0 : md = 0
  ·have hmb : (md == 0) = true := by simpa using hm0
   clear hm0
   have HC0 := hide (H0.out)
   clear H0 HN
   have y0 := block_cell HP.out 0
   have y1 := block_cell HP.out 1
   have y2 := block_cell HP.out 2
   have y3 := block_cell HP.out 3
   have y4 := block_cell HP.out 4
   have y5 := block_cell HP.out 5
   have y6 := block_cell HP.out 6
   have y7 := block_cell HP.out 7
   have y8 := block_cell HP.out 8
   have yl := block_lt HP.out
   have e0 := block_cell HE.out 0
   have e1 := block_cell HE.out 1
   have e2 := block_cell HE.out 2
   have e3 := block_cell HE.out 3
   have e4 := block_cell HE.out 4
   have e5 := block_cell HE.out 5
   have e6 := block_cell HE.out 6
   have e7 := block_cell HE.out 7
   have el := block_lt HE.out
   simp [Pg.cs] at y0 y1 y2 y3 y4 y5 y6 y7 y8
   simp [En.cs] at e0 e1 e2 e3 e4 e5 e6 e7
   unfold Ch0 at HC0
   rw [HCS.out g, HEC.out] at HC0
   go_upto_region 4 with fail
   go_wp2_with fail
   refine HC0.out.mono ?_
   rintro x w4 ⟨pv, ao, n, cap, y, rfl, G4⟩
   clear HC0 y0 y1 y2 y3 y4 y5 y6 y7 y8 yl e0 e1 e2 e3 e4 e5 e6 e7 el
   obtain ⟨w5, hw5⟩ : ∃ w5, w4.alloc (.cells #[.slice ao n cap, .int .i64 y] 30) = w5 := ⟨_, rfl⟩
   have b5 : Below w4.heap.size w4 w5 := by rw [← hw5]; exact below_alloc1 _ _
   have a5 : w5.heap[w4.heap.size]? = some (.cells #[.slice ao n cap, .int .i64 y] 30 (0, 0)) := by rw [← hw5]; exact alloc_atK _ _
   have B35 := G4.out.1.trans (b5.mono G4.out.1.size)
   have HP5 := hide ((B35.block _ (block_lt HP.out)).trans HP.out)
   have HE5 := hide ((B35.block _ (block_lt HE.out)).trans HE.out)
   have HF5 := hide a5
   have HLN := hide G4.out.2
   rw [hw5] at HLN
   unfold ChLn at HLN
   rw [HCS.out g] at HLN
   have HW5 := hide hw5
   clear hw5 b5 a5 B35 HP HE G4
   go_upto_region 5 with fail
   rw [HW5.out]
   clear HW5
   generalize w4.heap.size = fb at *
   have y0 := block_cell HP5.out 0
   have y1 := block_cell HP5.out 1
   have y2 := block_cell HP5.out 2
   have y3 := block_cell HP5.out 3
   have y4 := block_cell HP5.out 4
   have y5 := block_cell HP5.out 5
   have y6 := block_cell HP5.out 6
   have y7 := block_cell HP5.out 7
   have y8 := block_cell HP5.out 8
   have yl := block_lt HP5.out
   simp [Pg.cs] at y0 y1 y2 y3 y4 y5 y6 y7 y8
   go_wp2_with fail
   refine HLN.out.mono ?_
   rintro x w6 ⟨g', rfl, G6⟩
   clear HLN y0 y1 y2 y3 y4 y5 y6 y7 y8 yl
   have G6' : Hid (Below w5.heap.size w5 w6 ∧ ChLd W (g'.cs p).toArray pv ev #[.int .u64 e.x0, .int .u64 e.x1, .int .u64 e.x2, .int .u64 e.x3, .int .u64 e.x4, .int .u64 e.x5, .int .u64 e.x6, .bool e.x7] fuel (.agg #[.slice ao n cap, .int .i64 y]) (w6.alloc (.cells (g'.cs p).toArray 27))) := G6.out
   clear G6
   rw [HCS.out g'] at G6'
   rw [HCS.out g']
   obtain ⟨w7, hw7⟩ : ∃ w7, w6.alloc (.cells #[.slice g'.ca p.nc g'.cc, .slice g'.sa p.ns g'.sc, .int .i64 (p.en 0), .int .i64 (p.en 1), .int .i64 (p.en 2), .int .i64 (p.en 3), .int .i64 (p.en 4), .int .i64 (p.en 5), .slice g'.ia p.n g'.ic] 27) = w7 := ⟨_, rfl⟩
   have b7 : Below w6.heap.size w6 w7 := by rw [← hw7]; exact below_alloc1 _ _
   have a7 : w7.heap[w6.heap.size]? = some (.cells #[.slice g'.ca p.nc g'.cc, .slice g'.sa p.ns g'.sc, .int .i64 (p.en 0), .int .i64 (p.en 1), .int .i64 (p.en 2), .int .i64 (p.en 3), .int .i64 (p.en 4), .int .i64 (p.en 5), .slice g'.ia p.n g'.ic] 27 (0, 0)) := by rw [← hw7]; exact alloc_atK _ _
   have B57 := G6'.out.1.trans (b7.mono G6'.out.1.size)
   have HE7 := hide ((B57.block _ (block_lt HE5.out)).trans HE5.out)
   have HF7 := hide ((B57.block _ (block_lt HF5.out)).trans HF5.out)
   have HC7 := hide a7
   have HLD := hide G6'.out.2
   rw [hw7] at HLD
   unfold ChLd at HLD
   have HW7 := hide hw7
   clear hw7 b7 a7 B57 HP5 HE5 HF5 G6'
   go_upto_region 6 with fail
   rw [HW7.out]
   clear HW7
   generalize w6.heap.size = cb at *
   have c0 := block_cell HC7.out 0
   have c1 := block_cell HC7.out 1
   have c2 := block_cell HC7.out 2
   have c3 := block_cell HC7.out 3
   have c4 := block_cell HC7.out 4
   have c5 := block_cell HC7.out 5
   have c6 := block_cell HC7.out 6
   have c7 := block_cell HC7.out 7
   have c8 := block_cell HC7.out 8
   have cl := block_lt HC7.out
   have e0 := block_cell HE7.out 0
   have e1 := block_cell HE7.out 1
   have e2 := block_cell HE7.out 2
   have e3 := block_cell HE7.out 3
   have e4 := block_cell HE7.out 4
   have e5 := block_cell HE7.out 5
   have e6 := block_cell HE7.out 6
   have e7 := block_cell HE7.out 7
   have el := block_lt HE7.out
   simp at c0 c1 c2 c3 c4 c5 c6 c7 c8
   simp [En.cs] at e0 e1 e2 e3 e4 e5 e6 e7
   go_wp2_with fail
   refine HLD.out.mono ?_
   rintro x w8 hh
   clear HLD HE7 c0 c1 c2 c3 c4 c5 c6 c7 c8 cl e0 e1 e2 e3 e4 e5 e6 e7 el
   rcases hh with ⟨v, rfl, G8⟩ | ⟨mb, v, rfl, G8⟩
   ·have HF8 := hide ((G8.out.1.block _ (block_lt HF7.out)).trans HF7.out)
    have HC8 := hide ((G8.out.1.block _ (block_lt HC7.out)).trans HC7.out)
    have HIS := hide G8.out.2
    unfold ChIs at HIS
    clear HF7 HC7 G8
    go_upto_region 7 with fail
    have f0 := block_cell HF8.out 0
    have f1 := block_cell HF8.out 1
    have fl := block_lt HF8.out
    simp at f0 f1
    go_wp2_with fail
    refine HIS.out.mono ?_
    rintro x w9 ⟨rfl, G9⟩
    have HF9 := hide ((G9.out.1.block _ (block_lt HF8.out)).trans HF8.out)
    have HC9 := hide ((G9.out.1.block _ (block_lt HC8.out)).trans HC8.out)
    have HAN := hide G9.out.2
    unfold ChA1 at HAN
    clear HF8 HC8 G9 HIS f0 f1 fl
    have f0 := block_cell HF9.out 0
    have f1 := block_cell HF9.out 1
    have fl := block_lt HF9.out
    simp at f0 f1
    go_wp2_with fail
    refine HAN.out.mono ?_
    rintro x w10 ⟨rfl, G10⟩
    clear HAN f0 f1 fl HF9 HC9
    go_wp2
    go_ret
    exact ⟨rfl, G10.out⟩
   ·have HF8 := hide ((G8.out.1.block _ (block_lt HF7.out)).trans HF7.out)
    have HC8 := hide ((G8.out.1.block _ (block_lt HC7.out)).trans HC7.out)
    have HIS := hide G8.out.2
    unfold ChIs at HIS
    clear HF7 HC7 G8
    go_upto_region 7 with fail
    have f0 := block_cell HF8.out 0
    have f1 := block_cell HF8.out 1
    have fl := block_lt HF8.out
    simp at f0 f1
    go_wp2_with fail
    refine HIS.out.mono ?_
    rintro x w9 ⟨rfl, G9⟩
    have HF9 := hide ((G9.out.1.block _ (block_lt HF8.out)).trans HF8.out)
    have HC9 := hide ((G9.out.1.block _ (block_lt HC8.out)).trans HC8.out)
    have HAN := hide G9.out.2
    unfold ChA2 at HAN
    clear HF8 HC8 G9 HIS f0 f1 fl
    have f0 := block_cell HF9.out 0
    have f1 := block_cell HF9.out 1
    have fl := block_lt HF9.out
    simp at f0 f1
    go_wp2_with fail
    refine HAN.out.mono ?_
    rintro x w10 ⟨rfl, G10⟩
    have HC10 := hide ((G10.out.1.block _ (block_lt HC9.out)).trans HC9.out)
    have HSP := hide G10.out.2
    unfold ChSp at HSP
    clear HAN f0 f1 fl HF9 HC9 G10
    go_upto_region 11 with fail
    have c0 := block_cell HC10.out 0
    have c1 := block_cell HC10.out 1
    have c2 := block_cell HC10.out 2
    have c3 := block_cell HC10.out 3
    have c4 := block_cell HC10.out 4
    have c5 := block_cell HC10.out 5
    have c6 := block_cell HC10.out 6
    have c7 := block_cell HC10.out 7
    have c8 := block_cell HC10.out 8
    have cl := block_lt HC10.out
    simp at c0 c1 c2 c3 c4 c5 c6 c7 c8
    go_wp2_with fail
    refine HSP.out.mono ?_
    rintro x w11 ⟨rfl, G11⟩
    clear HSP HC10 c0 c1 c2 c3 c4 c5 c6 c7 c8 cl
    go_wp2
    go_meet
    case rel => exact G11.out
  ·have hmb : (md == 0) = false := by simpa using hm0
   by_cases hm1 : md = 1
   ·have hmb1 : (md == 1) = true := by simpa using hm1
    clear hm1
    have HR := hide (HN.out _ (.inl rfl))
    clear H0 HN
    go_wp2
    go_meet
    case rel => exact HR.out
   ·have hmb1 : (md == 1) = false := by simpa using hm1
    have HR := hide (HN.out _ (.inr rfl))
    clear H0 HN
    go_wp2
    go_meet
    case rel => exact HR.out
 case rest =>
 clear H0 HN HP HE HCS HEC
 obtain ⟨J, s0, hdv, hj0⟩ := hcut.out
 have HDV := hide hdv
 have HJ0 : Hid (∃ s, J s wc) := ⟨s0, hj0⟩
 clear hcut hdv hj0
 go_upto_block 0 with fail
 go_cut [20] from 21 (fun _ V => Hid (∃ s, J s V))
 case first =>
  go_wp2
  go_loopw [20] (fun i wr => ∃ j : Nat, j ≤ 5000 ∧ i = .int .i64 (j : Nat) ∧ Hid (∃ s, J s wr)) (fun i _ => 5000 - (intOf i).toNat)
  case atStart => exact ⟨0, by omega, rfl, HJ0.out⟩
  case round =>
   obtain ⟨j, hj, rfl, HJX⟩ := hrel
   obtain ⟨s, hjs⟩ := HJX.out
   have HJ := hide hjs
   clear HJX hjs HJ0
   by_cases hlt : j < 5000
   ·have hltb : decide ((j : Int) < 5000) = true := by simp; omega
    have hltI : (j : Int) < 5000 := by omega
    by_cases hp : 0 < evr
    ·have hz0 : ¬ evr = 0 := by omega
     have hpb : decide (evr > 0) = true := by simpa using hp
     obtain ⟨r, hr⟩ : ∃ r, Int.tmod (j : Int) evr = r := ⟨_, rfl⟩
     by_cases hz : r = 0
     ·have hzb : (r == 0) = true := by simpa using hz
      clear hz
      obtain ⟨E0, E1, E2, E3, E4, E5, hO⟩ := outO_six s
      have HO1 := hide (HDV.out.o1 s _ HJ.out)
      have HO2 := hide (fun (w : World) (hw : J s w) => HDV.out.o2 s w hw)
      rw [hO] at HO1 HO2
      clear hO
      generalize s.ov = ov at HO1 HO2
      have HEQH := hide (eqPaidQ E2 E3 E4)
      go_upto_region 19 with fail
      go_wp2_with fail
      refine HO1.out.mono ?_
      rintro x wA ⟨rfl, G1⟩
      have HJA := hide (HDV.out.next _ _ _ HJ.out G1.out)
      clear HO1 HJ G1
      obtain ⟨wB, hwB⟩ : ∃ wB, wA.alloc (.cells #[.int .i64 E0, .int .u64 E1, .int .u64 E2, .int .u64 E3, .int .u64 E4, .int .u64 E5] 48) = wB := ⟨_, rfl⟩
      have bB : Below wA.heap.size wA wB := by rw [← hwB]; exact below_alloc1 _ _
      have aB : wB.heap[wA.heap.size]? = some (.cells #[.int .i64 E0, .int .u64 E1, .int .u64 E2, .int .u64 E3, .int .u64 E4, .int .u64 E5] 48 (0, 0)) := by rw [← hwB]; exact alloc_atK _ _
      have HJB := hide (HDV.out.next _ _ _ HJA.out bB)
      have HAB := hide aB
      have HWB := hide hwB
      clear HJA bB aB hwB
      go_upto_region 20 with fail
      rw [HWB.out]
      clear HWB
      generalize wA.heap.size = ob at *
      go_wp2_with fail
      refine (HO2.out _ HJB.out).mono ?_
      rintro x wC ⟨rfl, G2⟩
      have HJC := hide (HDV.out.next _ _ _ HJB.out G2.out)
      have HAC := hide ((G2.out.block _ (block_lt HAB.out)).trans HAB.out)
      clear HO2 HJB HAB G2
      obtain ⟨wD, hwD⟩ : ∃ wD, wC.alloc (.cells #[.int .i64 E0, .int .u64 E1, .int .u64 E2, .int .u64 E3, .int .u64 E4, .int .u64 E5] 48) = wD := ⟨_, rfl⟩
      have bD : Below wC.heap.size wC wD := by rw [← hwD]; exact below_alloc1 _ _
      have aD : wD.heap[wC.heap.size]? = some (.cells #[.int .i64 E0, .int .u64 E1, .int .u64 E2, .int .u64 E3, .int .u64 E4, .int .u64 E5] 48 (0, 0)) := by rw [← hwD]; exact alloc_atK _ _
      have HJD := hide (HDV.out.next _ _ _ HJC.out bD)
      have HAD := hide aD
      have HOD := hide ((bD.block _ (block_lt HAC.out)).trans HAC.out)
      have HWD := hide hwD
      clear HJC HAC bD aD hwD
      go_upto_region 21 with fail
      rw [HWD.out]
      clear HWD
      generalize wC.heap.size = gb at *
      have x0 := block_cell HAD.out 0
      have x1 := block_cell HAD.out 1
      have x2 := block_cell HAD.out 2
      have x3 := block_cell HAD.out 3
      have x4 := block_cell HAD.out 4
      have x5 := block_cell HAD.out 5
      have xl := block_lt HAD.out
      have o0 := block_cell HOD.out 0
      have o1 := block_cell HOD.out 1
      have o2 := block_cell HOD.out 2
      have o3 := block_cell HOD.out 3
      have o4 := block_cell HOD.out 4
      have o5 := block_cell HOD.out 5
      have ol := block_lt HOD.out
      simp at x0 x1 x2 x3 x4 x5 o0 o1 o2 o3 o4 o5
      have HEQ := HEQH.out wD
      have HST := hide (HDV.out.st s _ HJD.out)
      go_wp2_with fail
      refine HST.out.mono ?_
      rintro x wE ⟨SA, rfl, G3⟩
      have HJE := hide (HDV.out.next _ _ _ HJD.out G3.out.1)
      have HSS := hide G3.out.2
      clear HST HJD HAD HOD HEQ HEQH G3 x0 x1 x2 x3 x4 x5 o0 o1 o2 o3 o4 o5 xl ol
      go_wp2_with fail
      refine HSS.out.mono ?_
      rintro x wF ⟨rfl, G4⟩
      have HJ := hide (HDV.out.next _ _ _ HJE.out G4.out)
      clear HSS HJE G4
      have HSP := hide (HDV.out.sp s _ HJ.out)
      clear HJ
      go_upto_region 23 with fail
      go_wp2_with fail
      refine HSP.out.mono ?_
      rintro x wG ⟨b, rfl, G5⟩
      clear HSP
      go_upto_region 24 with fail
      go_wp2_with fail
      refine G5.out.mono ?_
      rintro x wH ⟨rfl, G6⟩
      clear G5
      cases b with
      | true =>
       go_wp2
       go_roundw
       case rel => exact ⟨j + 1, by omega, by go_num, G6⟩
       case measure => simp [intOf]; omega
      | false =>
       go_wp2
       go_meet
       case rel => exact G6.out
     ·have hzb : (r == 0) = false := by simpa using hz
      clear hz
      have HSP := hide (HDV.out.sp s _ HJ.out)
      clear HJ
      go_upto_region 23 with fail
      go_wp2_with fail
      refine HSP.out.mono ?_
      rintro x wG ⟨b, rfl, G5⟩
      clear HSP
      go_upto_region 24 with fail
      go_wp2_with fail
      refine G5.out.mono ?_
      rintro x wH ⟨rfl, G6⟩
      clear G5
      cases b with
      | true =>
       go_wp2
       go_roundw
       case rel => exact ⟨j + 1, by omega, by go_num, G6⟩
       case measure => simp [intOf]; omega
      | false =>
       go_wp2
       go_meet
       case rel => exact G6.out
    ·have hpb : decide (evr > 0) = false := by simpa using hp
     have HSP := hide (HDV.out.sp s _ HJ.out)
     clear HJ
     go_upto_region 23 with fail
     go_wp2_with fail
     refine HSP.out.mono ?_
     rintro x wG ⟨b, rfl, G5⟩
     clear HSP
     go_upto_region 24 with fail
     go_wp2_with fail
     refine G5.out.mono ?_
     rintro x wH ⟨rfl, G6⟩
     clear G5
     cases b with
     | true =>
      go_wp2
      go_roundw
      case rel => exact ⟨j + 1, by omega, by go_num, G6⟩
      case measure => simp [intOf]; omega
     | false =>
      go_wp2
      go_meet
      case rel => exact G6.out
   ·obtain rfl : j = 5000 := by omega
    go_wp2
    go_meet
    case rel => exact ⟨s, HJ.out⟩
 case rest =>
 clear HJ0
 obtain ⟨s, hjs⟩ := hcut.out
 have HJ := hide hjs
 clear hcut hjs
 obtain ⟨E0, E1, E2, E3, E4, E5, hO⟩ := outO_six s
 have HO1 := hide (HDV.out.o1 s _ HJ.out)
 have HO2 := hide (fun (w : World) (hw : J s w) => HDV.out.o2 s w hw)
 rw [hO] at HO1 HO2
 clear hO
 generalize s.ov = ov at HO1 HO2
 have HEQH := hide (eqPaidQ E2 E3 E4)
 go_upto_region 27 with fail
 go_wp2_with fail
 refine HO1.out.mono ?_
 rintro x wA ⟨rfl, G1⟩
 have HJA := hide (HDV.out.next _ _ _ HJ.out G1.out)
 clear HO1 HJ G1
 obtain ⟨wB, hwB⟩ : ∃ wB, wA.alloc (.cells #[.int .i64 E0, .int .u64 E1, .int .u64 E2, .int .u64 E3, .int .u64 E4, .int .u64 E5] 48) = wB := ⟨_, rfl⟩
 have bB : Below wA.heap.size wA wB := by rw [← hwB]; exact below_alloc1 _ _
 have aB : wB.heap[wA.heap.size]? = some (.cells #[.int .i64 E0, .int .u64 E1, .int .u64 E2, .int .u64 E3, .int .u64 E4, .int .u64 E5] 48 (0, 0)) := by rw [← hwB]; exact alloc_atK _ _
 have HJB := hide (HDV.out.next _ _ _ HJA.out bB)
 have HAB := hide aB
 have HWB := hide hwB
 clear HJA bB aB hwB
 go_upto_region 28 with fail
 rw [HWB.out]
 clear HWB
 generalize wA.heap.size = ob at *
 go_wp2_with fail
 refine (HO2.out _ HJB.out).mono ?_
 rintro x wC ⟨rfl, G2⟩
 have HJC := hide (HDV.out.next _ _ _ HJB.out G2.out)
 have HAC := hide ((G2.out.block _ (block_lt HAB.out)).trans HAB.out)
 clear HO2 HJB HAB G2
 obtain ⟨wD, hwD⟩ : ∃ wD, wC.alloc (.cells #[.int .i64 E0, .int .u64 E1, .int .u64 E2, .int .u64 E3, .int .u64 E4, .int .u64 E5] 48) = wD := ⟨_, rfl⟩
 have bD : Below wC.heap.size wC wD := by rw [← hwD]; exact below_alloc1 _ _
 have aD : wD.heap[wC.heap.size]? = some (.cells #[.int .i64 E0, .int .u64 E1, .int .u64 E2, .int .u64 E3, .int .u64 E4, .int .u64 E5] 48 (0, 0)) := by rw [← hwD]; exact alloc_atK _ _
 have HJD := hide (HDV.out.next _ _ _ HJC.out bD)
 have HAD := hide aD
 have HOD := hide ((bD.block _ (block_lt HAC.out)).trans HAC.out)
 have HWD := hide hwD
 clear HJC HAC bD aD hwD
 go_upto_region 29 with fail
 rw [HWD.out]
 clear HWD
 generalize wC.heap.size = gb at *
 have x0 := block_cell HAD.out 0
 have x1 := block_cell HAD.out 1
 have x2 := block_cell HAD.out 2
 have x3 := block_cell HAD.out 3
 have x4 := block_cell HAD.out 4
 have x5 := block_cell HAD.out 5
 have xl := block_lt HAD.out
 have o0 := block_cell HOD.out 0
 have o1 := block_cell HOD.out 1
 have o2 := block_cell HOD.out 2
 have o3 := block_cell HOD.out 3
 have o4 := block_cell HOD.out 4
 have o5 := block_cell HOD.out 5
 have ol := block_lt HOD.out
 simp at x0 x1 x2 x3 x4 x5 o0 o1 o2 o3 o4 o5
 have HEQ := HEQH.out wD
 have HST := hide (HDV.out.st s _ HJD.out)
 go_wp2_with fail
 refine HST.out.mono ?_
 rintro x wE ⟨SA, rfl, G3⟩
 have HJE := hide (HDV.out.next _ _ _ HJD.out G3.out.1)
 have HSS := hide G3.out.2
 clear HST HJD HAD HOD HEQ HEQH G3 x0 x1 x2 x3 x4 x5 o0 o1 o2 o3 o4 o5 xl ol
 go_wp2_with fail
 refine HSS.out.mono ?_
 rintro x wF ⟨rfl, G4⟩
 have HJ := hide (HDV.out.next _ _ _ HJE.out G4.out)
 clear HSS HJE G4
 go_wp2
 go_ret
 exact ⟨rfl, HDV.out.bel _ _ HJ.out⟩
end Go.Proofs.YtmoklddfaocihaaDoor
