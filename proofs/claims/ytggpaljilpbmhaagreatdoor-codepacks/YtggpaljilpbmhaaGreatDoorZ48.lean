import Derived.Test.YtggpaljilpbmhaaGreatDoorZ17
import Derived.Test.YtggpaljilpbmhaaGreatDoorZ47
import Derived.Deep.DeepCutAuto
namespace Go.Proofs.YtggpaljilpbmhaaGreatDoor
open Go.RowKit

section
variable {W : World} {g : Pg} {p : Pv} {B wb : Nat} {L : List Nat} {w : World}
/-- What is neither the writer's box nor its row stays. -/
theorem Pq.u8x (h : Pq W g p B wb L w) (v : Nat) (vi : Int) (hvi : vi = (v : Int)) (hv : v < 256) (hfit : L.length + 1 ≤ 8192) {nb : Nat} {o : Obj} (hn : w.heap[nb]? = some o) (hne : nb ≠ wb) (hrow : ∀ u, w.cell? ⟨wb, 4, none⟩ = some u → u.ownBlock ≠ some nb) : Calls Tryz.prog 43 #[.pointer (some ⟨wb, 0, none⟩), .int .u8 vi] w fun e w' => e = .returned (.tuple #[]) ∧ Hid (Pq W g p B wb (L ++ big v 1) w' ∧ w'.heap[nb]? = some o) :=
 (wU8_goodx B B wb v vi 0 8192 L w hvi hv h.wr (by decide) (by omega) h.hs (Nat.le_refl _) h.hB).mono fun _ _ ⟨h1, h2, h3⟩ => ⟨h1, h.step h2 h3.below, (h3.touch.keep nb (block_lt hn) (fun f => by
  rcases f with q | ⟨u, q1, q2⟩
  ·exact hne q
  ·exact hrow u q1 q2)).trans hn⟩
theorem Pq.far (h : Pq W g p B wb L w) (o : Obj) : w.heap.size ≠ wb ∧ ∀ u, (w.alloc o).cell? ⟨wb, 4, none⟩ = some u → u.ownBlock ≠ some w.heap.size := by
 obtain ⟨v, hb, _⟩ := h.wr
 have hl := block_lt hb
 refine ⟨by omega, fun u hu e => ?_⟩
 have hc : (w.alloc o).cell? ⟨wb, 4, none⟩ = w.cell? ⟨wb, 4, none⟩ := (below_alloc1 w o).cell (p := ⟨wb, 4, none⟩) hl
 rw [hc] at hu
 have := (h.wr.own_lt hu e).2
 omega
end
/-- What Pack answers. -/
def Pkd (W : World) (p : Pv) (r : Except (Int × Int) Kn) (e : Ending) (w' : World) : Prop := match r with
 | .ok _ => ∃ v, e = .returned (.tuple #[v, .nilIface]) ∧ Hid (Owns W.heap.size w' v (encP p) ∧ Below W.heap.size W w')
 | .error _ => ∃ gf, e = .returned (.tuple #[.slice none 0 0, .iface 74 (.pointer (some ⟨gf, 0, none⟩))]) ∧ Hid (Below W.heap.size W w')
set_option maxRecDepth 10000 in
set_option maxHeartbeats 12800000 in
theorem packC {W : World} {g : Pg} {p : Pv} (h : g.Ok p W.heap.size W) (hT : Tab W) (hC : ∀ j, j < p.nc → 0 ≤ p.C j ∧ p.C j < 18446744073709551616) :
  Calls Tryz.prog 15 #[.agg (g.cs p).toArray] W (Pkd W p (verF p)) := by
 obtain ⟨W1, hW1⟩ : ∃ W1, W.alloc (.cells (g.cs p).toArray 27) = W1 := ⟨_, rfl⟩
 have B1 : Below W.heap.size W W1 := by rw [← hW1]; exact below_alloc1 W _
 have A1 : W1.heap[W.heap.size]? = some (.cells (g.cs p).toArray 27 (0, 0)) := by rw [← hW1]; exact alloc_atK _ _
 have HV := hide (verifyC ((h.kept B1 (Nat.le_refl _)).wide B1.size) (hT.below B1 hT.z))
 have HCS : Hid ((g.cs p).toArray = #[.slice g.ca p.nc g.cc, .slice g.sa p.ns g.sc, .int .i64 (p.en 0), .int .i64 (p.en 1), .int .i64 (p.en 2), .int .i64 (p.en 3), .int .i64 (p.en 4), .int .i64 (p.en 5), .slice g.ia p.n g.ic]) := rfl
 have HW1 := hide hW1
 have HB1 := hide B1
 have HA1 := hide A1
 have HOK := hide h
 have HTT := hide hT
 clear h hT hW1 B1
 have k0 := block_cell A1 0
 have k1 := block_cell A1 1
 have k2 := block_cell A1 2
 have k3 := block_cell A1 3
 have k4 := block_cell A1 4
 have k5 := block_cell A1 5
 have k6 := block_cell A1 6
 have k7 := block_cell A1 7
 have k8 := block_cell A1 8
 have kl := block_lt A1
 simp [Pg.cs] at k0 k1 k2 k3 k4 k5 k6 k7 k8
 clear A1
 rw [HCS.out] at HW1 HV ⊢
 obtain ⟨pb, hpb⟩ : ∃ pb, W.heap.size = pb := ⟨_, rfl⟩
 go_enter Tryz.func15, Tryz.ntmps15
 go_upto_region 1 with fail
 rw [HW1.out]
 rw [hpb] at k0 k1 k2 k3 k4 k5 k6 k7 k8 kl
 have HPB := hide hpb
 clear HW1 hpb
 go_wp2_with fail
 refine HV.out.mono ?_
 intro x w2 hh
 cases hv : verF p with
 | error z =>
  obtain ⟨a, y⟩ := z
  rw [hv] at hh
  obtain ⟨gf, rfl, G⟩ := hh
  have HD : Hid (Below W.heap.size W w2) := HB1.out.trans (G.out.2.mono HB1.out.size)
  have HVV := hide hv
  clear G HV hv
  go_wp2
  go_ret2
  rw [HVV.out]
  exact ⟨gf, rfl, HD⟩
 | ok k =>
  have hwf := ver_wf hv
  rw [hv] at hh
  obtain ⟨rfl, G⟩ := hh
  have HB2 : Hid (Below W.heap.size W w2) := HB1.out.trans (G.out.mono HB1.out.size)
  have HA2 := hide ((G.out.block _ (block_lt HA1.out)).trans HA1.out)
  have HVV := hide hv
  clear G HV hv HB1 HA1 k0 k1 k2 k3 k4 k5 k6 k7 k8 kl
  go_upto_region 4 with fail
  go_wp2_with fail
  refine (newWriterP w2).mono ?_
  rintro x w3 ⟨rfl, G3⟩
  obtain ⟨B, hB⟩ : ∃ B, w2.heap.size = B := ⟨_, rfl⟩
  rw [hB] at G3 ⊢
  have HQ : Hid (Pq W g p B B [] w3) := by
   have b3 : Below w2.heap.size w2 w3 := by rw [hB]; exact G3.out.2
   have lt2 := block_lt HA2.out
   exact hide (Pq.mk ((b3.block _ lt2).trans HA2.out) (HOK.out.kept (HB2.out.trans (b3.mono HB2.out.size)) (Nat.le_refl _)) (HTT.out.below (HB2.out.trans (b3.mono HB2.out.size)) HTT.out.z) HTT.out.z (HB2.out.trans (b3.mono HB2.out.size)) G3.out.1 (Nat.le_refl _) (by have := b3.size; omega) (by omega))
  clear G3 hB HB2 HA2 HOK HTT
  go_wp2_with fail
  refine (HQ.out.u16 20803 20803 rfl (by decide) (by decide)).mono ?_
  rintro x w4 ⟨rfl, Q4⟩
  clear HQ
  go_wp2_with fail
  refine (Q4.out.u8 1 1 rfl (by decide) (by simp [big_lenP])).mono ?_
  rintro x w5 ⟨rfl, Q5⟩
  clear Q4
  have l1 := len1 hwf (m := 0)
  have l2 := len2 hwf (m := 0)
  have z0 := block_cell Q5.out.bp 0
  have zl := block_lt Q5.out.bp
  simp [Pg.cs] at z0
  rw [HPB.out] at z0 zl
  go_wp2_with fail
  have hnc := hwf.sz.1
  refine (Q5.out.count p.nc p.nc 256 rfl (by omega) (by omega) (by have e : enc1 p 0 = encH ++ numB p.nc ++ [] := rfl; rw [e] at l1; simp only [List.length_append, List.length_nil, encH] at l1 ⊢; omega)).mono ?_
  rintro x w6 ⟨rfl, Q6⟩
  have HQ6 : Hid (Pq W g p B B (enc1 p 0) w6) := by
   have e : enc1 p 0 = encH ++ numB p.nc := List.append_nil _
   rw [e]
   exact Q6
  clear Q5 Q6 z0 zl
  have z0 := block_cell HQ6.out.bp 0
  have zl := block_lt HQ6.out.bp
  simp [Pg.cs] at z0
  rw [HPB.out] at z0 zl
  go_upto_region 9 with fail
  clear z0 zl
  go_loopw [32] (fun i wr => ∃ j : Nat, j ≤ p.nc ∧ i = .int .i64 (j : Nat) ∧ Hid (Pq W g p B B (enc1 p j) wr)) (fun i _ => p.nc - (intOf i).toNat)
  case atStart => exact ⟨0, by omega, rfl, HQ6.out⟩
  case round =>
   obtain ⟨j, hj, rfl, HQJ⟩ := hrel
   clear HQ6
   by_cases hlt : j < p.nc
   ·obtain ⟨e1, l3⟩ := HQJ.out.ok.hc (by omega)
    have v1 := HQJ.out.ok.vc j hlt
    rw [e1]
    clear e1
    obtain ⟨n, hn⟩ : ∃ n : Nat, p.C j = (n : Int) := ⟨(p.C j).toNat, by have := hC j hlt; omega⟩
    have hnb := hC j hlt
    have hne : (p.C j).toNat = n := by omega
    rw [hn] at v1 hnb
    have k1 : g.cb < wr.heap.size := Nat.lt_of_lt_of_le l3 HQJ.out.bel.size
    clear l3
    go_upto_region 11 with fail
    go_wp2_with fail
    refine (HQJ.out.num n n rfl (by omega) (by have := len1 hwf (m := j); have := numB_lenP n; omega)).mono ?_
    rintro x w7 ⟨rfl, Q7⟩
    have HQ7 : Hid (Pq W g p B B (enc1 p (j + 1)) w7) := by rw [enc1_next, hne]; exact Q7
    clear Q7 HQJ v1 hnb hn hne k1
    go_wp2
    go_roundw
    case rel => exact ⟨j + 1, by omega, by go_num, HQ7.out⟩
    case measure => simp [intOf]; omega
   ·obtain rfl : j = p.nc := by omega
    have z1 := block_cell HQJ.out.bp 1
    have zl := block_lt HQJ.out.bp
    simp [Pg.cs] at z1
    rw [HPB.out] at z1 zl
    go_wp2_with fail
    have hns := hwf.sz.2.1
    have e : enc2 p 0 = enc1 p p.nc ++ numB p.ns := List.append_nil _
    refine (HQJ.out.count p.ns p.ns 128 rfl (by omega) (by omega) (by rw [e, List.length_append] at l2; omega)).mono ?_
    rintro x wb ⟨rfl, QB⟩
    have HQB : Hid (Pq W g p B B (enc2 p 0) wb) := by rw [e]; exact QB
    clear QB HQJ z1 zl e
    have z1 := block_cell HQB.out.bp 1
    have zl := block_lt HQB.out.bp
    simp [Pg.cs] at z1
    rw [HPB.out] at z1 zl
    go_upto_region 15 with fail
    clear z1 zl
    go_loopw [48] (fun i wr => ∃ j : Nat, j ≤ p.ns ∧ i = .int .i64 (j : Nat) ∧ Hid (Pq W g p B B (enc2 p j) wr)) (fun i _ => p.ns - (intOf i).toNat)
    case atStart => exact ⟨0, by omega, rfl, HQB.out⟩
    case round =>
     obtain ⟨j, hj, rfl, HQK⟩ := hrel
     clear HQB
     by_cases hlt : j < p.ns
     ·obtain ⟨e1, l3⟩ := HQK.out.ok.hs (by omega)
      have v1 := HQK.out.ok.vs j hlt
      rw [e1]
      clear e1
      have hS := hwf.sl j hlt
      obtain ⟨n, hn⟩ : ∃ n : Nat, p.S j = (n : Int) := ⟨(p.S j).toNat, by omega⟩
      have hne : (p.S j).toNat = n := by omega
      have hnb : n < 256 := by omega
      rw [hn] at v1
      have hu8 : IntKind.u8.wrap (n : Int) = (n : Int) := by simp [IntKind.wrap, IntKind.bits, IntKind.signed]; omega
      have HNX : Hid (enc2 p (j + 1) = enc2 p j ++ big n 1) := by rw [enc2_next, hne]; exact rfl
      have k1 : g.sb < wr.heap.size := Nat.lt_of_lt_of_le l3 HQK.out.bel.size
      clear l3 hS hne hn
      go_upto_region 17 with fail
      go_wp2_with fail
      refine (HQK.out.u8 n n rfl hnb (by have := len2 hwf (m := j); omega)).mono ?_
      rintro x w7 ⟨rfl, Q7⟩
      rw [← HNX.out] at Q7
      have HQ7 := hide Q7.out
      clear Q7 HQK v1 hnb k1 HNX hu8
      go_wp2
      go_roundw
      case rel => exact ⟨j + 1, by omega, by go_num, HQ7.out⟩
      case measure => simp [intOf]; omega
     ·obtain rfl : j = p.ns := by omega
      have HQD : Hid (Pq W g p B B (enc3 p 0) wr) := by
       have e : enc3 p 0 = enc2 p p.ns := List.append_nil _
       rw [e]
       exact HQK
      clear HQK
      have z2 := block_cell HQD.out.bp 2
      have z3 := block_cell HQD.out.bp 3
      have z4 := block_cell HQD.out.bp 4
      have z5 := block_cell HQD.out.bp 5
      have z6 := block_cell HQD.out.bp 6
      have z7 := block_cell HQD.out.bp 7
      have zl := block_lt HQD.out.bp
      simp [Pg.cs] at z2 z3 z4 z5 z6 z7
      rw [HPB.out] at z2 z3 z4 z5 z6 z7 zl
      go_upto_region 20 with fail
      clear z2 z3 z4 z5 z6 z7 zl
      go_loopw [59] (fun i wr => ∃ j : Nat, j ≤ 6 ∧ i = .int .i64 (j : Nat) ∧ Hid (Pq W g p B B (enc3 p j) wr)) (fun i _ => 6 - (intOf i).toNat)
      case atStart => exact ⟨0, by omega, rfl, HQD.out⟩
      case round =>
       obtain ⟨j, hj, rfl, HQE⟩ := hrel
       clear HQD
       by_cases hlt : j < 6
       ·have hen := hwf.enb hlt
        have hl3 := len3 hwf (m := j + 1) (by omega)
        rw [enc3_next, List.length_append] at hl3
        obtain ⟨n, hn⟩ : ∃ n : Nat, p.en j + 1 = (n : Int) := ⟨(p.en j + 1).toNat, by omega⟩
        have hne : (p.en j + 1).toNat = n := by omega
        have hnn : n < 18446744073709551616 := by omega
        have hu : IntKind.u64.wrap (p.en j + 1) = p.en j + 1 := by simp [IntKind.wrap, IntKind.bits, IntKind.signed]; omega
        have HNX : Hid (enc3 p (j + 1) = enc3 p j ++ numB n) := by rw [enc3_next, hne]; exact rfl
        have hl3' : (enc3 p j).length + (numB n).length ≤ 8192 := by rw [hne] at hl3; omega
        have HN := hide hn
        clear hl3 hne hn
        have f0 := idx6_0 (p.en 0) (p.en 1) (p.en 2) (p.en 3) (p.en 4) (p.en 5) wr
        have f1 := idx6_1 (p.en 0) (p.en 1) (p.en 2) (p.en 3) (p.en 4) (p.en 5) wr
        have f2 := idx6_2 (p.en 0) (p.en 1) (p.en 2) (p.en 3) (p.en 4) (p.en 5) wr
        have f3 := idx6_3 (p.en 0) (p.en 1) (p.en 2) (p.en 3) (p.en 4) (p.en 5) wr
        have f4 := idx6_4 (p.en 0) (p.en 1) (p.en 2) (p.en 3) (p.en 4) (p.en 5) wr
        have f5 := idx6_5 (p.en 0) (p.en 1) (p.en 2) (p.en 3) (p.en 4) (p.en 5) wr
        have hj6 : j = 0 ∨ j = 1 ∨ j = 2 ∨ j = 3 ∨ j = 4 ∨ j = 5 := by omega
        rcases hj6 with rfl | rfl | rfl | rfl | rfl | rfl
        all_goals
         go_wp2_with fail
         refine (HQE.out.num n _ HN.out hnn hl3').mono ?_
         rintro x w7 ⟨rfl, Q7⟩
         rw [← HNX.out] at Q7
         have HQ7 := hide Q7.out
         clear Q7 HQE HNX HN hu hen hl3' f0 f1 f2 f3 f4 f5
         go_wp2
         go_roundw
         case rel => (refine ⟨_, ?_, rfl, HQ7.out⟩; decide)
         case measure => simp [intOf]
       ·obtain rfl : j = 6 := by omega
        have z8 := block_cell HQE.out.bp 8
        have zl := block_lt HQE.out.bp
        simp [Pg.cs] at z8
        rw [HPB.out] at z8 zl
        go_wp2_with fail
        have hn := hwf.sz.2.2
        have hl := len4 hwf (m := 0) (by omega)
        have e : enc4 p 0 = enc3 p 6 ++ numB p.n := List.append_nil _
        refine (HQE.out.count p.n p.n 1024 rfl (by omega) (by omega) (by rw [e, List.length_append] at hl; omega)).mono ?_
        rintro x wc ⟨rfl, QC⟩
        have HQC : Hid (Pq W g p B B (enc4 p 0) wc) := by rw [e]; exact QC
        clear QC HQE z8 zl hl e
        have z8 := block_cell HQC.out.bp 8
        have zl := block_lt HQC.out.bp
        simp [Pg.cs] at z8
        rw [HPB.out] at z8 zl
        go_upto_region 26 with fail
        clear z8 zl
        go_loopw [76] (fun i wr => ∃ j : Nat, j ≤ p.n ∧ i = .int .i64 (j : Nat) ∧ Hid (Pq W g p B B (enc4 p j) wr)) (fun i _ => p.n - (intOf i).toNat)
        case atStart => exact ⟨0, by omega, rfl, HQC.out⟩
        case round =>
         obtain ⟨j, hj, rfl, HQL⟩ := hrel
         clear HQC
         by_cases hlt : j < p.n
         ·obtain ⟨e1, l3⟩ := HQL.out.ok.hi (by omega)
          have v1 := HQL.out.ok.vo j hlt
          have v2 := HQL.out.ok.va j hlt
          rw [e1]
          clear e1
          have hop := op_nat (hwf.ins j hlt)
          have har := hwf.small hlt
          have hl4 := len4 hwf (m := j + 1) (by omega)
          rw [enc4_next, List.length_append, List.length_append, big_lenP] at hl4
          obtain ⟨o, ho⟩ : ∃ o : Nat, p.op j = (o : Int) := ⟨_, hop.2.2⟩
          obtain ⟨a, ha⟩ : ∃ a : Nat, p.arg j = (a : Int) := ⟨(p.arg j).toNat, by omega⟩
          have hon : (p.op j).toNat = o := by omega
          have han : (p.arg j).toNat = a := by omega
          have hnx : enc4 p (j + 1) = enc4 p j ++ big o 1 ++ (if fArg o = 0 then [] else numB a) := by rw [enc4_next]; unfold argB; rw [hon, han]
          have hl5 : (enc4 p j).length + 1 + (if fArg o = 0 then [] else numB a).length ≤ 8192 := by
           unfold argB at hl4
           rw [hon, han] at hl4
           have := hwf.sz.2.2
           omega
          rw [ho] at v1 hop
          rw [ha] at v2 har
          have ho2 : o ≤ 32 := by omega
          have HNX := hide hnx
          have HL5 := hide hl5
          clear hon han ho ha hl4 hnx hl5 hop
          have k1 : g.ib < wr.heap.size := Nat.lt_of_lt_of_le l3 HQL.out.bel.size
          clear l3
          go_upto_region 28 with fail
          obtain ⟨w4, hw⟩ : ∃ w', wr.alloc (.cells #[.int .i64 (o : Nat), .int .i64 (a : Nat)] 42) = w' := ⟨_, rfl⟩
          have HQ4 : Hid (Pq W g p B B (enc4 p j) w4) := by rw [← hw]; exact HQL.out.box _
          have hA : w4.heap[wr.heap.size]? = some (.cells #[.int .i64 (o : Nat), .int .i64 (a : Nat)] 42 (0, 0)) := by rw [← hw]; exact alloc_atK _ _
          have hfar := HQL.out.far (.cells #[.int .i64 (o : Nat), .int .i64 (a : Nat)] 42)
          rw [hw] at hfar ⊢
          clear hw v1 v2 k1 HQL
          obtain ⟨nb, hnb⟩ : ∃ b, wr.heap.size = b := ⟨_, rfl⟩
          rw [hnb] at hA hfar ⊢
          clear hnb
          have z0 := block_cell hA 0
          have z1 := block_cell hA 1
          have zl := block_lt hA
          simp at z0 z1
          have HA := hide hA
          clear hA
          have hu8 : IntKind.u8.wrap (o : Int) = (o : Int) := by simp [IntKind.wrap, IntKind.bits, IntKind.signed]; omega
          have HO1 : (enc4 p j).length + 1 ≤ 8192 := by have := HL5.out; omega
          have HFR := hide hfar
          clear hfar
          go_wp2_with fail
          refine (HQ4.out.u8x o o rfl (by omega) HO1 HA.out HFR.out.1 HFR.out.2).mono ?_
          rintro x w5 ⟨rfl, Q5⟩
          have z0 := block_cell Q5.out.2 0
          have z1 := block_cell Q5.out.2 1
          have zl := block_lt Q5.out.2
          simp at z0 z1
          have t0 := Q5.out.1.tab.a o ho2
          clear HQ4 HA HFR
          have hu64 : IntKind.u64.wrap (a : Int) = (a : Int) := by simp [IntKind.wrap, IntKind.bits, IntKind.signed]; omega
          by_cases hfa : fArg o = 0
          ·rw [hfa] at t0
           rw [if_pos hfa] at HNX
           have HQ7 : Hid (Pq W g p B B (enc4 p (j + 1)) w5) := by rw [HNX.out, List.append_nil]; exact Q5.out.1
           clear HNX HL5 Q5 HO1 hfa hu64
           go_wp2
           go_roundw
           case rel => exact ⟨j + 1, by omega, by go_num, HQ7.out⟩
           case measure => simp [intOf]; omega
          ·have hfb : ((fArg o : Int) != 0) = true := by simp; omega
           rw [if_neg hfa] at HNX HL5
           have HO2 : (enc4 p j ++ big o 1).length + (numB a).length ≤ 8192 := by have := HL5.out; simp only [List.length_append, big_lenP]; omega
           generalize fArg o = fo at t0 hfb hfa
           clear hfa
           go_wp2_with fail
           refine (Q5.out.1.num a a rfl (by omega) HO2).mono ?_
           rintro x w6 ⟨rfl, Q6⟩
           have HQ7 : Hid (Pq W g p B B (enc4 p (j + 1)) w6) := by rw [HNX.out]; exact Q6
           clear HNX HL5 Q5 Q6 HO1 HO2 hfb t0 z0 z1 zl hu64
           go_wp2
           go_roundw
           case rel => exact ⟨j + 1, by omega, by go_num, HQ7.out⟩
           case measure => simp [intOf]; omega
         ·obtain rfl : j = p.n := by omega
          have HW := HQL.out.wr
          have HBE := HQL.out.bel
          have HHS := HQL.out.hs
          go_wp2_with fail
          refine (wBytes_good B B 0 8192 (enc4 p p.n) wr HW).mono ?_
          rintro x wz ⟨v, rfl, hO, hb⟩
          have HZ : Hid (Owns W.heap.size wz v (encP p) ∧ Below W.heap.size W wz) := ⟨hO.lower HBE.size, HBE.trans (hb.mono HBE.size)⟩
          clear hO hb HW HBE HHS HQL
          go_wp2
          go_ret2
          rw [HVV.out]
          exact ⟨v, rfl, HZ⟩
end Go.Proofs.YtggpaljilpbmhaaGreatDoor
namespace Go.Proofs.YtggpaljilpbmhaaGreatDoor
open Go.RowKit

set_option maxRecDepth 10000 in
set_option maxHeartbeats 400000 in
theorem refNewWriterU (w : World) :
  Calls Tryz.prog 37 #[.int .i64 65507] w fun e w' => e = .returned (.pointer (some ⟨w.heap.size, 0, none⟩)) ∧ w' = w.alloc (.cells #[.bool true, .int .i64 65507, .slice none 0 0, .int .i64 0, .int .i64 0] 96 (0, 0)) := by
 go_enter Tryz.func37, Tryz.ntmps37
 go_wp2
 go_ret
 exact ⟨rfl, rfl⟩
/-- The reference's writer, so many bytes laid down. -/
def wsU (L : List Nat) : WS := ⟨true, 0, 0, 65507, L, KW⟩
theorem wsU_put (L F : List Nat) (h : L.length + F.length ≤ 65507) : (wsU L).put F 0 = wsU (L ++ F) := by
 have : (wsU L).takes F 0 := ⟨⟨rfl, rfl⟩, rfl, by show ((L.length + F.length : Nat) : Int) ≤ 65507; omega⟩
 rw [WS.put_takes this]
 rfl
/-- The world of the reference's packing. -/
structure Pr (W : World) (g : Pg) (p : Pv) (pb fb wb bs : Nat) (L : List Nat) (w : World) : Prop where
 pc : w.heap[pb]? = some (.cells (g.cs p).toArray 27 (0, 0))
 pf : w.heap[fb]? = some (.cells #[.slice none 0 0, .int .i64 0] 54 (0, 0))
 ok : g.Ok p W.heap.size w
 wr : RefW bs w wb (wsU L)
 bel : Below W.heap.size W w
 hp : W.heap.size ≤ pb
 hw : W.heap.size ≤ bs
 hn : bs ≤ wb
 hx : pb < bs ∧ fb < bs
 hs : bs ≤ w.heap.size
section
variable {W : World} {g : Pg} {p : Pv} {pb fb wb bs : Nat} {L : List Nat} {w w' : World}
theorem Pr.step {L' : List Nat} (h : Pr W g p pb fb wb bs L w) (hr : RefW bs w' wb (wsU L')) (ht : Tch 2 w w' wb) : Pr W g p pb fb wb bs L' w' := by
 obtain ⟨v, hb, hO, hne⟩ := h.wr
 have far : ∀ k, k < bs → ¬ Foot w wb 2 k := fun k hk f => by
  have := h.hn
  rcases f with q | ⟨u, q1, q2⟩
  ·omega
  ·have e : u = v := by
    have := block_cell hb 2
    rw [q1] at this
    simpa using this
   subst e
   have := (hO.1.lt k q2).1
   omega
 have hx := h.hx
 have hw := h.hw
 have bel : Below W.heap.size w w' := ⟨ht.os, ht.tape, ht.output, ht.size, fun k hk => ht.keep k (Nat.lt_of_lt_of_le hk h.bel.size) (far k (by omega))⟩
 exact ⟨(ht.keep pb (block_lt h.pc) (far pb hx.1)).trans h.pc, (ht.keep fb (block_lt h.pf) (far fb hx.2)).trans h.pf, h.ok.kept bel (Nat.le_refl _), hr, h.bel.trans bel, h.hp, h.hw, h.hn, h.hx, Nat.le_trans h.hs ht.size⟩
theorem wsU_inv {L : List Nat} (h : L.length ≤ 65507) : (wsU L).Inv := by
 intro _
 exact ⟨Int.le_refl _, by show ((L.length : Nat) : Int) ≤ 65507; omega⟩
theorem Pr.next (h : Pr W g p pb fb wb bs L w) (hb : Below w.heap.size w w') : Pr W g p pb fb wb bs L w' :=
 ⟨(hb.block _ (block_lt h.pc)).trans h.pc, (hb.block _ (block_lt h.pf)).trans h.pf, h.ok.kept hb h.bel.size, h.wr.below hb, h.bel.trans (hb.mono h.bel.size), h.hp, h.hw, h.hn, h.hx, Nat.le_trans h.hs hb.size⟩
theorem Pr.fixed (h : Pr W g p pb fb wb bs L w) (v k : Nat) (vi ki : Int) (hvi : vi = (v : Int)) (hki : ki = (k : Int)) (hk : k ≤ 8) (hfit : L.length + k ≤ 65507) : Calls Tryz.prog 38 #[.pointer (some ⟨wb, 0, none⟩), .int .u64 vi, .int .i64 ki] w fun e w' => e = .returned (.tuple #[]) ∧ Hid (Pr W g p pb fb wb bs (L ++ big v k) w') := by
 refine (refWFixed h.wr (wsU_inv (by omega)) h.hs v k vi ki hvi hki hk).mono ?_
 rintro e w' ⟨h1, h2⟩
 obtain ⟨h2, h3⟩ := h2.out
 rw [wsU_put _ _ (by rw [big_lenP]; omega)] at h2
 exact ⟨h1, h.step h2 h3⟩
theorem Pr.num (h : Pr W g p pb fb wb bs L w) (v : Nat) (vi : Int) (hvi : vi = (v : Int)) (hv : v < 18446744073709551616) (hfit : L.length + (numB v).length ≤ 65507) : Calls Tryz.prog 39 #[.pointer (some ⟨wb, 0, none⟩), .int .u64 vi] w fun e w' => e = .returned (.tuple #[]) ∧ Hid (Pr W g p pb fb wb bs (L ++ numB v) w') := by
 refine (refWNum h.wr (wsU_inv (by omega)) h.hs v vi hvi hv).mono ?_
 rintro e w' ⟨h1, h2⟩
 obtain ⟨h2, h3⟩ := h2.out
 rw [wsU_put _ _ hfit] at h2
 exact ⟨h1, h.step h2 h3⟩
end
end Go.Proofs.YtggpaljilpbmhaaGreatDoor
