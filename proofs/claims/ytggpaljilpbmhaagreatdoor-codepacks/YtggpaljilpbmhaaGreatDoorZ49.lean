import Derived.Test.YtggpaljilpbmhaaGreatDoorZ48
import Derived.Test.YtggpaljilpbmhaaGreatDoorZ43
import Derived.Test.YtggpaljilpbmhaaGreatDoorZ25
import Derived.Test.YtggpaljilpbmhaaGreatDoorZ50
import Derived.Deep.DeepCutAuto
namespace Go.Proofs.YtggpaljilpbmhaaGreatDoor
open Go.RowKit

set_option maxRecDepth 10000 in
set_option maxHeartbeats 1600000 in
/-- Pack refuses, as Verify does. -/
theorem packX {W : World} {g : Pg} {p : Pv} (h : g.Ok p W.heap.size W) (hT : Tab W) {a y : Int} (hv : verF p = .error (a, y)) :
  Calls Tryz.prog 15 #[.agg (g.cs p).toArray] W fun e w' => ∃ gf, e = .returned (.tuple #[.slice none 0 0, .iface 74 (.pointer (some ⟨gf, 0, none⟩))]) ∧ Hid (Ft w'.heap.size w' (.iface 74 (.pointer (some ⟨gf, 0, none⟩))) a y ∧ Below W.heap.size W w') := by
 obtain ⟨W1, hW1⟩ : ∃ W1, W.alloc (.cells (g.cs p).toArray 27) = W1 := ⟨_, rfl⟩
 have B1 : Below W.heap.size W W1 := by rw [← hW1]; exact below_alloc1 W _
 have A1 : W1.heap[W.heap.size]? = some (.cells (g.cs p).toArray 27 (0, 0)) := by rw [← hW1]; exact alloc_atK _ _
 have HV := hide (verifyC ((h.kept B1 (Nat.le_refl _)).wide B1.size) (hT.below B1 hT.z))
 rw [hv] at HV
 have HCS : Hid ((g.cs p).toArray = #[.slice g.ca p.nc g.cc, .slice g.sa p.ns g.sc, .int .i64 (p.en 0), .int .i64 (p.en 1), .int .i64 (p.en 2), .int .i64 (p.en 3), .int .i64 (p.en 4), .int .i64 (p.en 5), .slice g.ia p.n g.ic]) := rfl
 have HW1 := hide hW1
 have HB1 := hide B1
 clear h hT hW1 B1 hv
 have k0 := block_cell A1 0
 have k1 := block_cell A1 1
 have k2 := block_cell A1 2
 have k3 := block_cell A1 3
 have k4 := block_cell A1 4
 have k5 := block_cell A1 5
 have k6 := block_cell A1 6
 have k7 := block_cell A1 7
 have k8 := block_cell A1 8
 have kl := block_lt A1
 simp [Pg.cs] at k0 k1 k2 k3 k4 k5 k6 k7 k8
 clear A1
 rw [HCS.out] at HW1 HV ⊢
 go_enter Tryz.func15, Tryz.ntmps15
 go_upto_region 1 with fail
 rw [HW1.out]
 clear HW1
 go_wp2_with fail
 refine HV.out.mono ?_
 rintro x w2 ⟨gf, rfl, G⟩
 have HD : Hid (Ft w2.heap.size w2 (.iface 74 (.pointer (some ⟨gf, 0, none⟩))) a y ∧ Below W.heap.size W w2) := ⟨G.out.1, HB1.out.trans (G.out.2.mono HB1.out.size)⟩
 clear G HV k0 k1 k2 k3 k4 k5 k6 k7 k8 kl
 go_wp2
 go_ret2
 exact ⟨gf, rfl, HD⟩
/-- What the reference's Pack answers. -/
def PkQ (W : World) (p : Pv) (r : Except (Int × Int) Kn) (e : Ending) (w' : World) : Prop := match r with
 | .ok _ => ∃ v, e = .returned (.tuple #[v, .agg #[.slice none 0 0, .int .i64 0]]) ∧ Hid (Owns W.heap.size w' v (encP p) ∧ Below W.heap.size W w')
 | .error (a, y) => ∃ ao cap, e = .returned (.tuple #[.slice none 0 0, .agg #[.slice ao 1 cap, .int .i64 y]]) ∧ Hid (y ≠ 0 ∧ (∃ b off, FV w'.heap.size w' ao [⟨⟨#[99, 111, 100, 101]⟩, a⟩] b off) ∧ Below W.heap.size W w')
set_option maxRecDepth 10000 in
set_option maxHeartbeats 12800000 in
theorem packQ {W : World} {g : Pg} {p : Pv} (h : g.Ok p W.heap.size W) (hC : ∀ j, j < p.nc → 0 ≤ p.C j ∧ p.C j < 18446744073709551616) :
  Calls Tryz.prog 13 #[.agg (g.cs p).toArray] W (PkQ W p (verF p)) := by
 obtain ⟨W1, hW1⟩ : ∃ W1, (W.alloc (.cells (g.cs p).toArray 27)).alloc (.cells #[.slice none 0 0, .int .i64 0] 54) = W1 := ⟨_, rfl⟩
 obtain ⟨A1, A2, B1⟩ := two_box2L W _ _ _ _ hW1
 have HV := hide (verifyR ((h.kept B1 (Nat.le_refl _)).wide B1.size))
 have HCS : Hid ((g.cs p).toArray = #[.slice g.ca p.nc g.cc, .slice g.sa p.ns g.sc, .int .i64 (p.en 0), .int .i64 (p.en 1), .int .i64 (p.en 2), .int .i64 (p.en 3), .int .i64 (p.en 4), .int .i64 (p.en 5), .slice g.ia p.n g.ic]) := rfl
 obtain ⟨pb, hpb⟩ : ∃ pb, W.heap.size = pb := ⟨_, rfl⟩
 obtain ⟨fb, hfb⟩ : ∃ fb, pb + 1 = fb := ⟨_, rfl⟩
 have HW1 := hide hW1
 have HB1 := hide B1
 rw [hpb] at A1 A2
 rw [hfb] at A2
 have HA1 := hide A1
 have HA2 := hide A2
 have HOK := hide h
 have HPB := hide (And.intro hpb hfb)
 clear h hW1 B1 A2
 have k0 := block_cell A1 0
 have k1 := block_cell A1 1
 have k2 := block_cell A1 2
 have k3 := block_cell A1 3
 have k4 := block_cell A1 4
 have k5 := block_cell A1 5
 have k6 := block_cell A1 6
 have k7 := block_cell A1 7
 have k8 := block_cell A1 8
 have kl := block_lt A1
 simp [Pg.cs] at k0 k1 k2 k3 k4 k5 k6 k7 k8
 clear A1
 rw [HCS.out] at HW1 HV ⊢
 go_enter Tryz.func13, Tryz.ntmps13
 go_upto_region 1 with fail
 rw [HW1.out]
 clear HW1 hpb hfb
 go_wp2_with fail
 refine HV.out.mono ?_
 intro x w2 hh
 clear HV k0 k1 k2 k3 k4 k5 k6 k7 k8 kl
 cases hv : verF p with
 | error z =>
  obtain ⟨a, y⟩ := z
  rw [hv] at hh
  obtain ⟨aF, cF, rfl, G⟩ := hh
  obtain ⟨bF, oF, hfF, hbF⟩ := G.out
  have hy0 : y ≠ 0 := ver_ne hv
  have HVV := hide hv
  obtain ⟨w3, hw3⟩ : ∃ w3, w2.alloc (.cells #[.slice aF 1 cF, .int .i64 y] 54) = w3 := ⟨_, rfl⟩
  have b3 : Below w2.heap.size w2 w3 := by rw [← hw3]; exact below_alloc1 _ _
  have A3 : w3.heap[w2.heap.size]? = some (.cells #[.slice aF 1 cF, .int .i64 y] 54 (0, 0)) := by rw [← hw3]; exact alloc_atK _ _
  obtain ⟨vb, hvb⟩ : ∃ vb, w2.heap.size = vb := ⟨_, rfl⟩
  rw [hvb] at A3
  have hne : vb ≠ fb := by
   have := block_lt HA2.out
   have := hbF.size
   omega
  have HNE := hide hne
  have HF3 := hide (hfF.next b3)
  have HA3 := hide A3
  have HB3 := hide (HB1.out.trans ((hbF.trans (b3.mono hbF.size)).mono HB1.out.size))
  have HF0 := hide ((b3.block _ (Nat.lt_of_lt_of_le (block_lt HA2.out) hbF.size)).trans ((hbF.block _ (block_lt HA2.out)).trans HA2.out))
  have HAY := hide (fun w => anyYes aF 1 cF y hy0 w)
  have HW3 := hide hw3
  have HY0 := hide hy0
  clear hw3 b3 hfF hbF G hv hy0 HA1 HA2 HB1 HOK hne
  go_upto_region 2 with fail
  rw [HW3.out]
  clear HW3
  try rw [hvb]
  clear hvb
  have u0 := block_cell A3 0
  have u1 := block_cell A3 1
  have ul := block_lt A3
  simp at u0 u1
  clear A3
  go_wp2_with fail
  refine (HAY.out w3).mono ?_
  rintro x w4 ⟨rfl, G⟩
  have A4 := (G.out.block _ (block_lt HA3.out)).trans HA3.out
  have F4 := (G.out.block _ (block_lt HF0.out)).trans HF0.out
  have HB4 := hide (HB3.out.trans (G.out.mono HB3.out.size))
  have HF4 := hide (HF3.out.next G.out)
  have HF0' := hide F4
  clear G u0 u1 ul HAY HA3 HF0 HB3 HF3
  have u0 := block_cell A4 0
  have u1 := block_cell A4 1
  have ul := block_lt A4
  have y0 := block_cell F4 0
  have y1 := block_cell F4 1
  have g0 := block_free F4 0
  have g1 := block_free F4 1
  have gl := block_lt F4
  simp at u0 u1 y0 y1
  clear A4 F4
  have HWF : Hid (∀ wz, Below w4.heap.size w4 wz → ∀ wf, (wz.setCell ⟨fb, 0, none⟩ (.slice aF 1 cF)).setCell ⟨fb, 1, none⟩ (.int .i64 y) = wf → wf.heap[fb]? = some (.cells #[.slice aF 1 cF, .int .i64 y] 54 (0, 0)) ∧ FV wf.heap.size wf aF [⟨⟨#[99, 111, 100, 101]⟩, a⟩] bF oF ∧ Below W.heap.size W wf) := by
   intro wz hz wf e
   have F9 := (hz.block _ (block_lt HF0'.out)).trans HF0'.out
   have s1 := heap_setCell_same wz fb 0 _ _ (.slice aF 1 cF) F9
   simp only [List.setIfInBounds_toArray, List.set_cons_zero] at s1
   have s2 := heap_setCell_same _ fb 1 _ _ (.int .i64 y) s1
   have G2 := grown_trans (row := some fb) (grown_set wz fb 0 (.slice aF 1 cF)) (grown_set (wz.setCell ⟨fb, 0, none⟩ (.slice aF 1 cF)) fb 1 (.int .i64 y))
   rw [e] at s2 G2
   obtain ⟨e1, e2⟩ := HPB.out
   have B9 := HB4.out.trans (hz.mono HB4.out.size)
   exact ⟨by simpa using s2, (HF4.out.next hz).grownX G2 F9 (flt_noS _ _ _ _), B9.grown G2 B9.size (fun x e => by cases e; omega)⟩
  clear HF0' HF4 HB4
  go_upto_region 3 with fail
  go_region
  all_goals
   generalize hwf : World.setCell _ _ _ = wf
   obtain ⟨s1, s2, s3⟩ := HWF.out _ (by first | exact Below.refl _ w4 | exact (Below.refl _ w4).drew | exact (Below.refl _ w4).drew.drew | exact Go.below_drewN (Below.refl _ w4) _) wf hwf
   clear hwf HWF u0 u1 ul y0 y1 g0 g1 gl
   have d0 := block_cell s1 0
   have d1 := block_cell s1 1
   simp at d0 d1
   go_wp2
   refine bodyPost_ret (v := .tuple #[.slice none 0 0, .agg #[.slice aF 1 cF, .int .i64 y]]) (by simp [results, Tryz.results13, go_sem, d0, d1]) rfl ?_
   rw [HVV.out]
   first
    | exact ⟨aF, cF, rfl, HY0.out, ⟨_, _, s2⟩, s3⟩
    | exact ⟨aF, cF, rfl, HY0.out, ⟨_, _, s2.next (Below.refl _ wf).drew⟩, s3.drew⟩
 | ok k =>
  have hwf := ver_wf hv
  have HVV := hide hv
  rw [hv] at hh
  obtain ⟨rfl, G⟩ := hh
  obtain ⟨w3, hw3⟩ : ∃ w3, w2.alloc (.cells #[.slice none 0 0, .int .i64 0] 54) = w3 := ⟨_, rfl⟩
  have b3 : Below w2.heap.size w2 w3 := by rw [← hw3]; exact below_alloc1 _ _
  have A3 : w3.heap[w2.heap.size]? = some (.cells #[.slice none 0 0, .int .i64 0] 54 (0, 0)) := by rw [← hw3]; exact alloc_atK _ _
  have b13 := G.out.trans (b3.mono G.out.size)
  have HP3 : Hid (w3.heap[pb]? = some (.cells (g.cs p).toArray 27 (0, 0)) ∧ w3.heap[fb]? = some (.cells #[.slice none 0 0, .int .i64 0] 54 (0, 0)) ∧ Below W.heap.size W w3) := ⟨(b13.block _ (block_lt HA1.out)).trans HA1.out, (b13.block _ (block_lt HA2.out)).trans HA2.out, HB1.out.trans (b13.mono HB1.out.size)⟩
  have HW3 := hide hw3
  clear hw3 b3 b13 G hv HA1 HA2 HB1
  go_upto_region 2 with fail
  rw [HW3.out]
  clear HW3
  have u0 := block_cell A3 0
  have u1 := block_cell A3 1
  have ul := block_lt A3
  simp at u0 u1
  clear A3
  go_wp2_with fail
  refine (anyNo w3).mono ?_
  rintro x w4 ⟨rfl, G⟩
  have HP4 : Hid (w4.heap[pb]? = some (.cells (g.cs p).toArray 27 (0, 0)) ∧ w4.heap[fb]? = some (.cells #[.slice none 0 0, .int .i64 0] 54 (0, 0)) ∧ Below W.heap.size W w4) := ⟨(G.out.block _ (block_lt HP3.out.1)).trans HP3.out.1, (G.out.block _ (block_lt HP3.out.2.1)).trans HP3.out.2.1, HP3.out.2.2.trans (G.out.mono HP3.out.2.2.size)⟩
  clear G HP3 u0 u1 ul
  go_upto_region 4 with fail
  go_wp2_with fail
  refine (refNewWriterU w4).mono ?_
  rintro x w5 ⟨rfl, hw5⟩
  obtain ⟨wb, hwb⟩ : ∃ wb, w4.heap.size = wb := ⟨_, rfl⟩
  have HQ0 : Hid (Pr W g p pb fb wb wb [] w5) := by
   have b5 : Below w4.heap.size w4 w5 := by rw [hw5]; exact below_alloc1 _ _
   have a5 : w5.heap[wb]? = some (.cells #[.bool true, .int .i64 65507, .slice none 0 0, .int .i64 0, .int .i64 0] 96 (0, 0)) := by rw [hw5, ← hwb]; exact alloc_atK _ _
   obtain ⟨e1, e2⟩ := HPB.out
   have l1 := block_lt HP4.out.1
   have l2 := block_lt HP4.out.2.1
   have l5 := block_lt a5
   exact hide (Pr.mk ((b5.block _ l1).trans HP4.out.1) ((b5.block _ l2).trans HP4.out.2.1) (HOK.out.kept (HP4.out.2.2.trans (b5.mono HP4.out.2.2.size)) (Nat.le_refl _)) ⟨.slice none 0 0, a5, ⟨World.ownsRow_nil _ _ _ _, (fun x hx => by cases hx), Nat.zero_le _⟩, by simp [Value.ownBlock]⟩ (HP4.out.2.2.trans (b5.mono HP4.out.2.2.size)) (by omega) (by omega) (Nat.le_refl _) ⟨by omega, by omega⟩ (by omega))
  clear hw5 HP4 HOK
  try rw [hwb]
  clear hwb
  go_wp2_with fail
  refine (HQ0.out.fixed 20803 2 20803 2 rfl rfl (by decide) (by decide)).mono ?_
  rintro x w6 ⟨rfl, Q1⟩
  clear HQ0
  go_wp2_with fail
  refine (Q1.out.fixed 1 1 1 1 rfl rfl (by decide) (by simp [big_lenP])).mono ?_
  rintro x w7 ⟨rfl, Q2⟩
  clear Q1
  have l1 := len1 hwf (m := 0)
  have l2 := len2 hwf (m := 0)
  have hnc := hwf.sz.1
  have hu1 : IntKind.u64.wrap ((p.nc : Nat) : Int) = ((p.nc : Nat) : Int) := wrapu64_nat (by omega)
  have z0 := block_cell Q2.out.pc 0
  have zl := block_lt Q2.out.pc
  simp [Pg.cs] at z0
  go_wp2_with fail
  refine (Q2.out.num p.nc p.nc rfl (by omega) (by have e : enc1 p 0 = encH ++ numB p.nc ++ [] := rfl; rw [e] at l1; simp only [List.length_append, List.length_nil, encH] at l1 ⊢; omega)).mono ?_
  rintro x w8 ⟨rfl, Q3⟩
  have HQ3 : Hid (Pr W g p pb fb wb wb (enc1 p 0) w8) := by
   have e : enc1 p 0 = encH ++ numB p.nc := List.append_nil _
   rw [e]
   exact Q3
  clear Q2 Q3 z0 zl hu1
  go_upto_region 9 with fail
  go_loopw [6] (fun i wr => ∃ j : Nat, j ≤ p.nc ∧ i = .int .i64 (j : Nat) ∧ Hid (Pr W g p pb fb wb wb (enc1 p j) wr)) (fun i _ => p.nc - (intOf i).toNat)
  case atStart => exact ⟨0, by omega, rfl, HQ3.out⟩
  case round =>
   obtain ⟨j, hj, rfl, HQJ⟩ := hrel
   clear HQ3
   have z0 := block_cell HQJ.out.pc 0
   have zl := block_lt HQJ.out.pc
   simp [Pg.cs] at z0
   by_cases hlt : j < p.nc
   ·obtain ⟨e1, l3⟩ := HQJ.out.ok.hc (by omega)
    have v1 := HQJ.out.ok.vc j hlt
    rw [e1] at z0
    clear e1
    obtain ⟨n, hn⟩ : ∃ n : Nat, p.C j = (n : Int) := ⟨(p.C j).toNat, by have := hC j hlt; omega⟩
    have hnb := hC j hlt
    have hne : (p.C j).toNat = n := by omega
    rw [hn] at v1 hnb
    have k1 : g.cb < wr.heap.size := Nat.lt_of_lt_of_le l3 HQJ.out.bel.size
    clear l3
    go_upto_region 11 with fail
    go_wp2_with fail
    refine (HQJ.out.num n n rfl (by omega) (by have := len1 hwf (m := j); have := numB_lenP n; omega)).mono ?_
    rintro x w9 ⟨rfl, Q7⟩
    have HQ7 : Hid (Pr W g p pb fb wb wb (enc1 p (j + 1)) w9) := by rw [enc1_next, hne]; exact Q7
    clear Q7 HQJ v1 hnb hn hne k1 z0 zl
    go_wp2
    go_roundw
    case rel => exact ⟨j + 1, by omega, by go_num, HQ7.out⟩
    case measure => simp [intOf]; omega
   ·obtain rfl : j = p.nc := by omega
    have hns := hwf.sz.2.1
    have hu1 : IntKind.u64.wrap ((p.ns : Nat) : Int) = ((p.ns : Nat) : Int) := wrapu64_nat (by omega)
    have t1 := block_cell HQJ.out.pc 1
    have tl := block_lt HQJ.out.pc
    simp [Pg.cs] at t1
    go_wp2_with fail
    have e : enc2 p 0 = enc1 p p.nc ++ numB p.ns := List.append_nil _
    refine (HQJ.out.num p.ns p.ns rfl (by omega) (by rw [e, List.length_append] at l2; omega)).mono ?_
    rintro x wb2 ⟨rfl, QB⟩
    have HQB : Hid (Pr W g p pb fb wb wb (enc2 p 0) wb2) := by rw [e]; exact QB
    clear QB HQJ z0 zl t1 tl e hu1
    go_upto_region 14 with fail
    go_loopw [7] (fun i wr => ∃ j : Nat, j ≤ p.ns ∧ i = .int .i64 (j : Nat) ∧ Hid (Pr W g p pb fb wb wb (enc2 p j) wr)) (fun i _ => p.ns - (intOf i).toNat)
    case atStart => exact ⟨0, by omega, rfl, HQB.out⟩
    case round =>
     obtain ⟨j, hj, rfl, HQK⟩ := hrel
     clear HQB
     have z1 := block_cell HQK.out.pc 1
     have zl := block_lt HQK.out.pc
     simp [Pg.cs] at z1
     by_cases hlt : j < p.ns
     ·obtain ⟨e1, l3⟩ := HQK.out.ok.hs (by omega)
      have v1 := HQK.out.ok.vs j hlt
      rw [e1] at z1
      clear e1
      have hS := hwf.sl j hlt
      obtain ⟨n, hn⟩ : ∃ n : Nat, p.S j = (n : Int) := ⟨(p.S j).toNat, by omega⟩
      have hne : (p.S j).toNat = n := by omega
      have hnb : n < 256 := by omega
      rw [hn] at v1
      have hu8 : IntKind.u64.wrap (n : Int) = (n : Int) := wrapu64_nat (by omega)
      have HNX : Hid (enc2 p (j + 1) = enc2 p j ++ big n 1) := by rw [enc2_next, hne]; exact rfl
      have k1 : g.sb < wr.heap.size := Nat.lt_of_lt_of_le l3 HQK.out.bel.size
      clear l3 hS hne hn
      go_upto_region 16 with fail
      go_wp2_with fail
      refine (HQK.out.fixed n 1 n 1 rfl rfl (by decide) (by have := len2 hwf (m := j); omega)).mono ?_
      rintro x w9 ⟨rfl, Q7⟩
      rw [← HNX.out] at Q7
      have HQ7 := hide Q7.out
      clear Q7 HQK v1 hnb k1 HNX hu8 z1 zl
      go_wp2
      go_roundw
      case rel => exact ⟨j + 1, by omega, by go_num, HQ7.out⟩
      case measure => simp [intOf]; omega
     ·obtain rfl : j = p.ns := by omega
      have HQD : Hid (Pr W g p pb fb wb wb (enc3 p 0) wr) := by
       have e : enc3 p 0 = enc2 p p.ns := List.append_nil _
       rw [e]
       exact HQK
      clear HQK
      go_upto_region 18 with fail
      clear z1 zl
      go_loopw [8] (fun i wr => ∃ j : Nat, j ≤ 6 ∧ i = .int .i64 (j : Nat) ∧ Hid (Pr W g p pb fb wb wb (enc3 p j) wr)) (fun i _ => 6 - (intOf i).toNat)
      case atStart => exact ⟨0, by omega, rfl, HQD.out⟩
      case round =>
       obtain ⟨j, hj, rfl, HQE⟩ := hrel
       clear HQD
       by_cases hlt : j < 6
       ·have hen := hwf.enb hlt
        have hl3 := len3 hwf (m := j + 1) (by omega)
        rw [enc3_next, List.length_append] at hl3
        obtain ⟨n, hn⟩ : ∃ n : Nat, p.en j + 1 = (n : Int) := ⟨(p.en j + 1).toNat, by omega⟩
        have hne : (p.en j + 1).toNat = n := by omega
        have hnn : n < 18446744073709551616 := by omega
        have hu0 : IntKind.i64.wrap (p.en j + 1) = p.en j + 1 := by simp [IntKind.wrap, IntKind.bits, IntKind.signed]; omega
        have hu : IntKind.u64.wrap (p.en j + 1) = p.en j + 1 := by simp [IntKind.wrap, IntKind.bits, IntKind.signed]; omega
        have HNX : Hid (enc3 p (j + 1) = enc3 p j ++ numB n) := by rw [enc3_next, hne]; exact rfl
        have hl3' : (enc3 p j).length + (numB n).length ≤ 65507 := by rw [hne] at hl3; omega
        have HN := hide hn
        clear hl3 hne hn
        have hj6 : j = 0 ∨ j = 1 ∨ j = 2 ∨ j = 3 ∨ j = 4 ∨ j = 5 := by omega
        rcases hj6 with rfl | rfl | rfl | rfl | rfl | rfl
        all_goals
         have z2 := block_cell HQE.out.pc 2
         have z3 := block_cell HQE.out.pc 3
         have z4 := block_cell HQE.out.pc 4
         have z5 := block_cell HQE.out.pc 5
         have z6 := block_cell HQE.out.pc 6
         have z7 := block_cell HQE.out.pc 7
         have zl := block_lt HQE.out.pc
         simp [Pg.cs] at z2 z3 z4 z5 z6 z7
         go_upto_region 20 with fail
         go_wp2_with fail
         refine (HQE.out.num n _ HN.out hnn hl3').mono ?_
         rintro x w9 ⟨rfl, Q7⟩
         rw [← HNX.out] at Q7
         have HQ7 := hide Q7.out
         clear Q7 HQE HNX HN hu hu0 hen hl3' z2 z3 z4 z5 z6 z7 zl
         go_wp2
         go_roundw
         case rel => (refine ⟨_, ?_, rfl, HQ7.out⟩; decide)
         case measure => simp [intOf]
       ·obtain rfl : j = 6 := by omega
        have hn := hwf.sz.2.2
        have hl := len4 hwf (m := 0) (by omega)
        have hu1 : IntKind.u64.wrap ((p.n : Nat) : Int) = ((p.n : Nat) : Int) := wrapu64_nat (by omega)
        have z8 := block_cell HQE.out.pc 8
        have zl := block_lt HQE.out.pc
        simp [Pg.cs] at z8
        go_wp2_with fail
        have e : enc4 p 0 = enc3 p 6 ++ numB p.n := List.append_nil _
        refine (HQE.out.num p.n p.n rfl (by omega) (by rw [e, List.length_append] at hl; omega)).mono ?_
        rintro x wc ⟨rfl, QC⟩
        have HQC : Hid (Pr W g p pb fb wb wb (enc4 p 0) wc) := by rw [e]; exact QC
        clear QC HQE z8 zl hl e hu1
        go_upto_region 23 with fail
        go_loopw [9] (fun i wr => ∃ j : Nat, j ≤ p.n ∧ i = .int .i64 (j : Nat) ∧ Hid (Pr W g p pb fb wb wb (enc4 p j) wr)) (fun i _ => p.n - (intOf i).toNat)
        case atStart => exact ⟨0, by omega, rfl, HQC.out⟩
        case round =>
         obtain ⟨j, hj, rfl, HQL⟩ := hrel
         clear HQC
         have z8 := block_cell HQL.out.pc 8
         have zl := block_lt HQL.out.pc
         simp [Pg.cs] at z8
         by_cases hlt : j < p.n
         ·obtain ⟨e1, l3⟩ := HQL.out.ok.hi (by omega)
          have v1 := HQL.out.ok.vo j hlt
          have v2 := HQL.out.ok.va j hlt
          rw [e1] at z8
          have HE1 := hide e1
          have hop := op_nat (hwf.ins j hlt)
          have har := hwf.small hlt
          have hl4 := len4 hwf (m := j + 1) (by omega)
          rw [enc4_next, List.length_append, List.length_append, big_lenP] at hl4
          obtain ⟨o, ho⟩ : ∃ o : Nat, p.op j = (o : Int) := ⟨_, hop.2.2⟩
          obtain ⟨a, ha⟩ : ∃ a : Nat, p.arg j = (a : Int) := ⟨(p.arg j).toNat, by omega⟩
          have hon : (p.op j).toNat = o := by omega
          have han : (p.arg j).toNat = a := by omega
          have hnx : enc4 p (j + 1) = enc4 p j ++ big o 1 ++ (if fArg o = 0 then [] else numB a) := by rw [enc4_next]; unfold argB; rw [hon, han]
          have hl5 : (enc4 p j).length + 1 + (if fArg o = 0 then [] else numB a).length ≤ 8192 := by
           unfold argB at hl4
           rw [hon, han] at hl4
           have := hwf.sz.2.2
           omega
          rw [ho] at v1 hop
          rw [ha] at v2 har
          have ho2 : 1 ≤ o ∧ o ≤ 32 := by omega
          have ha2 : a < 65536 := by omega
          have HNX := hide hnx
          have HL5 := hide hl5
          have HOA := hide (And.intro ho ha)
          have hu8 : IntKind.u64.wrap (o : Int) = (o : Int) := wrapu64_nat (by omega)
          have HO1 : (enc4 p j).length + 1 ≤ 65507 := by omega
          clear hon han ho ha hl4 hnx hl5 hop har e1
          have k1 : g.ib < wr.heap.size := Nat.lt_of_lt_of_le l3 HQL.out.bel.size
          clear l3
          go_upto_region 25 with fail
          go_wp2_with fail
          refine (HQL.out.fixed o 1 o 1 rfl rfl (by decide) HO1).mono ?_
          rintro x w9 ⟨rfl, Q5⟩
          have y8 := block_cell Q5.out.pc 8
          have yl := block_lt Q5.out.pc
          simp [Pg.cs] at y8
          rw [HE1.out] at y8
          have q1 := Q5.out.ok.vo j hlt
          have q2 := Q5.out.ok.va j hlt
          rw [HOA.out.1] at q1
          rw [HOA.out.2] at q2
          have k2 : g.ib < w9.heap.size := Nat.lt_of_lt_of_le (Q5.out.ok.hi (by omega)).2 Q5.out.bel.size
          have HHA := hide (HasArgC o ho2.1 ho2.2 w9)
          clear HQL v1 v2 z8 zl k1 hu8
          by_cases hfa : fArg o = 0
          ·have e : decide (fArg o ≠ 0) = false := by simpa using hfa
           rw [e] at HHA
           have HQ7 : Hid (Pr W g p pb fb wb wb (enc4 p (j + 1)) w9) := by
            rw [HNX.out, if_pos hfa, List.append_nil]
            exact Q5
           clear e hfa HNX HL5 Q5
           go_wp2_with fail
           refine HHA.out.mono ?_
           rintro x w10 ⟨rfl, rfl⟩
           clear HHA y8 yl q1 q2 k2
           go_wp2
           go_roundw
           case rel => exact ⟨j + 1, by omega, by go_num, HQ7.out⟩
           case measure => simp [intOf]; omega
          ·have e : decide (fArg o ≠ 0) = true := by simpa using hfa
           rw [e] at HHA
           have hl6 := HL5.out
           rw [if_neg hfa] at hl6
           have HNX2 : Hid (enc4 p (j + 1) = enc4 p j ++ big o 1 ++ numB a) := by
            have := HNX.out
            rw [if_neg hfa] at this
            exact this
           have hfit : (enc4 p j ++ big o 1).length + (numB a).length ≤ 65507 := by rw [List.length_append, big_lenP]; omega
           have HFIT := hide hfit
           have hua : IntKind.u64.wrap (a : Int) = (a : Int) := wrapu64_nat (by omega)
           clear e hfa HNX HL5 hl6 hfit
           go_wp2_with fail
           refine HHA.out.mono ?_
           rintro x w10 ⟨rfl, rfl⟩
           clear HHA
           go_upto_region 27 with fail
           go_wp2_with fail
           refine (Q5.out.num a a rfl (by omega) HFIT.out).mono ?_
           rintro x w11 ⟨rfl, Q7⟩
           rw [← HNX2.out] at Q7
           have HQ7 := hide Q7.out
           clear Q7 Q5 y8 yl q1 q2 k2 hua HNX2 HFIT
           go_wp2
           go_roundw
           case rel => exact ⟨j + 1, by omega, by go_num, HQ7.out⟩
           case measure => simp [intOf]; omega
         ·obtain rfl : j = p.n := by omega
          obtain ⟨v, hb, hO, hvn⟩ := HQL.out.wr
          obtain ⟨ao, cap, rfl, _, _⟩ := hO.form
          have y2 := block_cell hb 2
          have yl := block_lt hb
          have f0 := block_cell HQL.out.pf 0
          have f1 := block_cell HQL.out.pf 1
          have g0 := block_free HQL.out.pf 0
          have g1 := block_free HQL.out.pf 1
          have gl := block_lt HQL.out.pf
          have hen : (wsU (enc4 p p.n)).L = encP p := rfl
          rw [hen] at y2 hO
          simp at y2 f0 f1
          obtain ⟨nL, hnL⟩ : ∃ nL, (encP p).length = nL := ⟨_, rfl⟩
          rw [hnL] at y2
          have HFN : Hid (∀ wf, (wr.setCell ⟨fb, 0, none⟩ (.slice none 0 0)).setCell ⟨fb, 1, none⟩ (.int .i64 0) = wf → wf.heap[fb]? = some (.cells #[.slice none 0 0, .int .i64 0] 54 (0, 0)) ∧ Owns W.heap.size wf (.slice ao nL cap) (encP p) ∧ Below W.heap.size W wf) := by
           intro wf e
           have s1 := heap_setCell_same wr fb 0 _ _ (.slice none 0 0) HQL.out.pf
           simp only [List.setIfInBounds_toArray, List.set_cons_zero] at s1
           have s2 := heap_setCell_same _ fb 1 _ _ (.int .i64 0) s1
           have G2 := grown_trans (row := some fb) (grown_set wr fb 0 (.slice none 0 0)) (grown_set (wr.setCell ⟨fb, 0, none⟩ (.slice none 0 0)) fb 1 (.int .i64 0))
           rw [e] at s2 G2
           obtain ⟨e1, e2⟩ := HPB.out
           have hO2 : Owns wb wf (.slice ao nL cap) (encP p) := by
            rw [← hnL]
            exact hO.kept G2 (.inr (fun q => by have := (hO.1.lt fb q).1; have := HQL.out.hx.2; omega))
           exact ⟨by simpa using s2, ⟨own_low hO2.1 HQL.out.hw, hO2.2⟩, HQL.out.bel.grown G2 HQL.out.bel.size (fun x e => by cases e; omega)⟩
          clear hb hO hvn HQL hen hnL
          go_wp2
          generalize hwf : World.setCell _ _ _ = wf
          obtain ⟨s1, s2, s3⟩ := HFN.out wf hwf
          clear hwf HFN y2 yl f0 f1 g0 g1 gl z8 zl
          have d0 := block_cell s1 0
          have d1 := block_cell s1 1
          simp at d0 d1
          refine bodyPost_ret (v := .tuple #[.slice ao nL cap, .agg #[.slice none 0 0, .int .i64 0]]) (by simp [results, Tryz.results13, go_sem, d0, d1]) rfl ?_
          rw [HVV.out]
          exact ⟨_, rfl, s2, s3⟩
end Go.Proofs.YtggpaljilpbmhaaGreatDoor
