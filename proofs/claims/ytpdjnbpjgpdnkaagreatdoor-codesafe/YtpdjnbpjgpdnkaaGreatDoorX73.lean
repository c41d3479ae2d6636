import Derived.Test.YtpdjnbpjgpdnkaaGreatDoorX72
import Derived.Deep.DeepCutAuto
namespace Go.Proofs.YtpdjnbpjgpdnkaaGreatDoor
open Go.RowKit

theorem sg_lq {W : World} {g : Pg} {p : Pv} {e : En} {k : Kn} {pb eb mb : Nat} {s0 : Ms} {w : World} (h : ∃ c, Sc p k e c ∧ Sg W g p e k c pb eb mb s0 w) : (fun (w : World) => w.heap[pb]? = some (.cells #[.slice g.ca p.nc g.cc, .slice g.sa p.ns g.sc, .int .i64 (p.en 0), .int .i64 (p.en 1), .int .i64 (p.en 2), .int .i64 (p.en 3), .int .i64 (p.en 4), .int .i64 (p.en 5), .slice g.ia p.n g.ic] 27 (0, 0)) ∧ w.heap[eb]? = some (.cells #[.int .u64 e.x0, .int .u64 e.x1, .int .u64 e.x2, .int .u64 e.x3, .int .u64 e.x4, .int .u64 e.x5, .int .u64 e.x6, .bool e.x7] 30 (0, 0)) ∧ Below W.heap.size W w) w := by
 obtain ⟨c, _, h⟩ := h
 exact ⟨h.bp, h.be, h.bel⟩
theorem sg_next {W : World} {g : Pg} {p : Pv} {e : En} {k : Kn} {pb eb mb : Nat} {s0 : Ms} {w w' : World} (h : ∃ c, Sc p k e c ∧ Sg W g p e k c pb eb mb s0 w) (hb : Below w.heap.size w w') : ∃ c, Sc p k e c ∧ Sg W g p e k c pb eb mb s0 w' := by
 obtain ⟨c, hc, h⟩ := h
 exact ⟨c, hc, h.next hb⟩
theorem fldOv (a : Int) (x1 : Option Addr) (n1 c1 : Nat) (x2 : Option Addr) (n2 c2 : Nat) (l p0 p1 p2 : Int) (b : Bool) (w : World) : (Instr.field 48 (.agg #[.int .i64 a, .slice x1 n1 c1, .slice x2 n2 c2, .int .u64 l, .int .u64 p0, .int .u64 p1, .int .u64 p2, .bool b]) 5).run Tryz.prog w = .ok (.bool b) w := by kernel_rfl
set_option maxRecDepth 10000 in
set_option maxHeartbeats 12800000 in
/-- Where the program is run. -/
theorem safeK {W : World} {g : Pg} {p : Pv} {ev : Int} {e : En} {fuel : Int} {k : Kn} {s0 : Ms} (hev0 : 0 ≤ ev) (hev5 : ev ≤ 5) (hpn : p.n ≤ 1024) (hs0 : s0.left ≤ min fuel 1000) (hlv : ∀ w, Below W.heap.size W w → Calls Tryz.prog 5 #[.int .i64 ev, .int .u64 fuel] w fun e w' => e = .returned (.bool true) ∧ Hid (Below w.heap.size w w'))
  (h1 : ∀ pb eb, W.heap.size ≤ pb → W.heap.size ≤ eb → Hid (∀ w, (fun (w : World) => w.heap[pb]? = some (.cells #[.slice g.ca p.nc g.cc, .slice g.sa p.ns g.sc, .int .i64 (p.en 0), .int .i64 (p.en 1), .int .i64 (p.en 2), .int .i64 (p.en 3), .int .i64 (p.en 4), .int .i64 (p.en 5), .slice g.ia p.n g.ic] 27 (0, 0)) ∧ w.heap[eb]? = some (.cells #[.int .u64 e.x0, .int .u64 e.x1, .int .u64 e.x2, .int .u64 e.x3, .int .u64 e.x4, .int .u64 e.x5, .int .u64 e.x6, .bool e.x7] 30 (0, 0)) ∧ Below W.heap.size W w) w → Calls Tryz.prog 7 #[.agg #[.slice g.ca p.nc g.cc, .slice g.sa p.ns g.sc, .int .i64 (p.en 0), .int .i64 (p.en 1), .int .i64 (p.en 2), .int .i64 (p.en 3), .int .i64 (p.en 4), .int .i64 (p.en 5), .slice g.ia p.n g.ic]] w fun x w1 => ∃ g1 : Pg, x = .returned (.agg (g1.cs p).toArray) ∧ Hid (Below w.heap.size w w1 ∧ Calls Tryz.prog 9 #[.agg (g1.cs p).toArray, .int .i64 ev, .agg #[.int .u64 e.x0, .int .u64 e.x1, .int .u64 e.x2, .int .u64 e.x3, .int .u64 e.x4, .int .u64 e.x5, .int .u64 e.x6, .bool e.x7], .int .u64 fuel] w1 fun x w3 => ∃ mb, x = .returned (.tuple #[.pointer (some ⟨mb, 0, none⟩), .nilIface]) ∧ Hid (∃ c, Sc p k e c ∧ Sg W g p e k c pb eb mb s0 w3)))) (h3 : ∀ pb eb, W.heap.size ≤ pb → W.heap.size ≤ eb → ∀ w, (fun (w : World) => w.heap[pb]? = some (.cells #[.slice g.ca p.nc g.cc, .slice g.sa p.ns g.sc, .int .i64 (p.en 0), .int .i64 (p.en 1), .int .i64 (p.en 2), .int .i64 (p.en 3), .int .i64 (p.en 4), .int .i64 (p.en 5), .slice g.ia p.n g.ic] 27 (0, 0)) ∧ w.heap[eb]? = some (.cells #[.int .u64 e.x0, .int .u64 e.x1, .int .u64 e.x2, .int .u64 e.x3, .int .u64 e.x4, .int .u64 e.x5, .int .u64 e.x6, .bool e.x7] 30 (0, 0)) ∧ Below W.heap.size W w) w → Calls Tryz.prog 7 #[.agg #[.slice g.ca p.nc g.cc, .slice g.sa p.ns g.sc, .int .i64 (p.en 0), .int .i64 (p.en 1), .int .i64 (p.en 2), .int .i64 (p.en 3), .int .i64 (p.en 4), .int .i64 (p.en 5), .slice g.ia p.n g.ic]] w fun x w1 => ∃ g1 : Pg, x = .returned (.agg (g1.cs p).toArray) ∧ Hid (Below w.heap.size w w1 ∧ Calls Tryz.prog 8 #[.agg (g1.cs p).toArray] w1 fun x w2 => x = .returned .nilIface ∧ Hid (Below w1.heap.size w1 w2))) :
  Calls Tryz.prog 4 #[.agg (g.cs p).toArray, .int .i64 ev, .agg e.cs.toArray, .int .u64 fuel] W fun x w' => x = .returned (.bool true) ∧ Below W.heap.size W w' := by
 obtain ⟨W1, hW1⟩ : ∃ W1, (W.alloc (.cells (g.cs p).toArray 27)).alloc (.cells e.cs.toArray 30) = W1 := ⟨_, rfl⟩
 obtain ⟨A1, A2, B1⟩ := two_box2L W _ _ _ _ hW1
 have HLV := hide (hlv W1 B1)
 have HCS : Hid (∀ (g : Pg), (g.cs p).toArray = #[.slice g.ca p.nc g.cc, .slice g.sa p.ns g.sc, .int .i64 (p.en 0), .int .i64 (p.en 1), .int .i64 (p.en 2), .int .i64 (p.en 3), .int .i64 (p.en 4), .int .i64 (p.en 5), .slice g.ia p.n g.ic]) := fun _ => rfl
 have HEC : Hid (e.cs.toArray = #[.int .u64 e.x0, .int .u64 e.x1, .int .u64 e.x2, .int .u64 e.x3, .int .u64 e.x4, .int .u64 e.x5, .int .u64 e.x6, .bool e.x7]) := rfl
 obtain ⟨pb, hpb⟩ : ∃ pb, W.heap.size = pb := ⟨_, rfl⟩
 obtain ⟨eb, heb⟩ : ∃ eb, pb + 1 = eb := ⟨_, rfl⟩
 have HCP := h1 pb eb (by omega) (by omega)
 have HC3 := hide (h3 pb eb (by omega) (by omega))
 rw [hpb, heb] at A2
 rw [hpb] at A1
 have HA1 := hide A1
 have HA2 := hide A2
 have HB1 := hide B1
 have HW1 := hide hW1
 have HPB := hide hpb
 have HEB := hide heb
 clear hlv h1 h3 A1 A2 B1 hW1
 rw [HCS.out g, HEC.out] at HW1 ⊢
 go_enter Tryz.func4, Tryz.ntmps4
 go_upto_region 1 with fail
 rw [HW1.out]
 clear hpb heb
 clear HW1
 go_wp2_with fail
 refine HLV.out.mono ?_
 rintro x w2 ⟨rfl, G2⟩
 have HLW : Hid ((fun (w : World) => w.heap[pb]? = some (.cells #[.slice g.ca p.nc g.cc, .slice g.sa p.ns g.sc, .int .i64 (p.en 0), .int .i64 (p.en 1), .int .i64 (p.en 2), .int .i64 (p.en 3), .int .i64 (p.en 4), .int .i64 (p.en 5), .slice g.ia p.n g.ic] 27 (0, 0)) ∧ w.heap[eb]? = some (.cells #[.int .u64 e.x0, .int .u64 e.x1, .int .u64 e.x2, .int .u64 e.x3, .int .u64 e.x4, .int .u64 e.x5, .int .u64 e.x6, .bool e.x7] 30 (0, 0)) ∧ Below W.heap.size W w) w2) := ⟨(G2.out.block _ (block_lt HA1.out)).trans HA1.out, (G2.out.block _ (block_lt HA2.out)).trans HA2.out, HB1.out.trans (G2.out.mono HB1.out.size)⟩
 clear HLV G2 HA1 HA2 HB1
 go_upto_region 3 with fail
 go_cut [9, 10] from 21 (fun a b V => ∃ mb, a = .pointer (some ⟨mb, 0, none⟩) ∧ b = .nilIface ∧ Hid (∃ c, Sc p k e c ∧ Sg W g p e k c pb eb mb s0 V))
 case first =>
  have HL0 : Hid ((fun (w : World) => w.heap[pb]? = some (.cells #[.slice g.ca p.nc g.cc, .slice g.sa p.ns g.sc, .int .i64 (p.en 0), .int .i64 (p.en 1), .int .i64 (p.en 2), .int .i64 (p.en 3), .int .i64 (p.en 4), .int .i64 (p.en 5), .slice g.ia p.n g.ic] 27 (0, 0)) ∧ w.heap[eb]? = some (.cells #[.int .u64 e.x0, .int .u64 e.x1, .int .u64 e.x2, .int .u64 e.x3, .int .u64 e.x4, .int .u64 e.x5, .int .u64 e.x6, .bool e.x7] 30 (0, 0)) ∧ Below W.heap.size W w) w2.drew) := ⟨HLW.out.1, HLW.out.2.1, HLW.out.2.2.drew⟩
  have HB0 : Hid (Below w2.heap.size w2 w2.drew) := (Below.refl _ _).drew
  refine wp_region_held_drew (S := fun (w : World) => w.heap[pb]? = some (.cells #[.slice g.ca p.nc g.cc, .slice g.sa p.ns g.sc, .int .i64 (p.en 0), .int .i64 (p.en 1), .int .i64 (p.en 2), .int .i64 (p.en 3), .int .i64 (p.en 4), .int .i64 (p.en 5), .slice g.ia p.n g.ic] 27 (0, 0)) ∧ w.heap[eb]? = some (.cells #[.int .u64 e.x0, .int .u64 e.x1, .int .u64 e.x2, .int .u64 e.x3, .int .u64 e.x4, .int .u64 e.x5, .int .u64 e.x6, .bool e.x7] 30 (0, 0)) ∧ Below W.heap.size W w) (by kernel_rfl) HL0.out (fun hH => ?_)
  refine wpAnyH_take (i := 0) (oi := ⟨some 22, .load 27 (.tmp 4), 27, "outright.go:94", #[], none⟩) (v := .agg #[.slice g.ca p.nc g.cc, .slice g.sa p.ns g.sc, .int .i64 (p.en 0), .int .i64 (p.en 1), .int .i64 (p.en 2), .int .i64 (p.en 3), .int .i64 (p.en 4), .int .i64 (p.en 5), .slice g.ia p.n g.ic]) rfl (by kernel_rfl) (by kernel_rfl) (by kernel_rfl) (fun _ _ _ h => h) (Or.inl ⟨by rfl, fun w' hSw => ?_⟩) hH ?_
  ·have k0 := block_cell hSw.1 0
   have k1 := block_cell hSw.1 1
   have k2 := block_cell hSw.1 2
   have k3 := block_cell hSw.1 3
   have k4 := block_cell hSw.1 4
   have k5 := block_cell hSw.1 5
   have k6 := block_cell hSw.1 6
   have k7 := block_cell hSw.1 7
   have k8 := block_cell hSw.1 8
   have kl := block_lt hSw.1
   simp at k0 k1 k2 k3 k4 k5 k6 k7 k8
   go_simp
  simp only [Act.put, lsA, lsB, lsC]
  refine wpAnyH_take (i := 2) (oi := ⟨some 24, .move (.tmp 1), 3, "outright.go:94", #[], none⟩) (v := .int .i64 ev) rfl (by kernel_rfl) (by kernel_rfl) (by kernel_rfl) (fun _ _ _ h => h) (Or.inl ⟨by rfl, fun w' hSw => ?_⟩) hH ?_
  ·go_simp
  simp only [Act.put, lsA, lsB, lsC]
  refine wpAnyH_take (i := 3) (oi := ⟨some 25, .load 30 (.tmp 6), 30, "outright.go:94", #[], none⟩) (v := .agg #[.int .u64 e.x0, .int .u64 e.x1, .int .u64 e.x2, .int .u64 e.x3, .int .u64 e.x4, .int .u64 e.x5, .int .u64 e.x6, .bool e.x7]) rfl (by kernel_rfl) (by kernel_rfl) (by kernel_rfl) (fun _ _ _ h => h) (Or.inl ⟨by rfl, fun w' hSw => ?_⟩) hH ?_
  ·have k0 := block_cell hSw.2.1 0
   have k1 := block_cell hSw.2.1 1
   have k2 := block_cell hSw.2.1 2
   have k3 := block_cell hSw.2.1 3
   have k4 := block_cell hSw.2.1 4
   have k5 := block_cell hSw.2.1 5
   have k6 := block_cell hSw.2.1 6
   have k7 := block_cell hSw.2.1 7
   have kl := block_lt hSw.2.1
   simp at k0 k1 k2 k3 k4 k5 k6 k7
   go_simp
  simp only [Act.put, lsA, lsB, lsC]
  refine wpAnyH_take (i := 4) (oi := ⟨some 26, .move (.tmp 3), 28, "outright.go:94", #[], none⟩) (v := .int .u64 fuel) rfl (by kernel_rfl) (by kernel_rfl) (by kernel_rfl) (fun _ _ _ h => h) (Or.inl ⟨by rfl, fun w' hSw => ?_⟩) hH ?_
  ·go_simp
  simp only [Act.put, lsA, lsB, lsC]
  refine wpAnyH_ready (rs := [1]) (by kernel_rfl) (by simp) ?_
  refine AllReadyH.cons rfl (fun K hK => ?_) AllReadyH.nil
  go_simp
  go_wp2_with fail
  refine (HCP.out w2.drew HL0.out).mono ?_
  rintro x wa ⟨g1, rfl, G1⟩
  rw [HCS.out g1]
  have HLwa : Hid ((fun (w : World) => w.heap[pb]? = some (.cells #[.slice g.ca p.nc g.cc, .slice g.sa p.ns g.sc, .int .i64 (p.en 0), .int .i64 (p.en 1), .int .i64 (p.en 2), .int .i64 (p.en 3), .int .i64 (p.en 4), .int .i64 (p.en 5), .slice g.ia p.n g.ic] 27 (0, 0)) ∧ w.heap[eb]? = some (.cells #[.int .u64 e.x0, .int .u64 e.x1, .int .u64 e.x2, .int .u64 e.x3, .int .u64 e.x4, .int .u64 e.x5, .int .u64 e.x6, .bool e.x7] 30 (0, 0)) ∧ Below W.heap.size W w) wa) := ⟨(G1.out.1.block _ (block_lt HL0.out.1)).trans HL0.out.1, (G1.out.1.block _ (block_lt HL0.out.2.1)).trans HL0.out.2.1, HL0.out.2.2.trans (G1.out.1.mono HL0.out.2.2.size)⟩
  have HBwa : Hid (Below w2.heap.size w2 wa) := HB0.out.trans (G1.out.1.mono HB0.out.size)
  have HRN := hide G1.out.2
  rw [HCS.out g1] at HRN
  clear G1
  refine hK.out _ _ HLwa.out (fun _ => ?_)
  clear hK K
  refine wpAnyH_ready (rs := [5]) (by kernel_rfl) (by simp) ?_
  refine AllReadyH.cons rfl (fun K hK => ?_) AllReadyH.nil
  go_simp
  go_wp2_with fail
  refine HRN.out.mono ?_
  rintro x wb ⟨mb, rfl, G2⟩
  have HLwb : Hid ((fun (w : World) => w.heap[pb]? = some (.cells #[.slice g.ca p.nc g.cc, .slice g.sa p.ns g.sc, .int .i64 (p.en 0), .int .i64 (p.en 1), .int .i64 (p.en 2), .int .i64 (p.en 3), .int .i64 (p.en 4), .int .i64 (p.en 5), .slice g.ia p.n g.ic] 27 (0, 0)) ∧ w.heap[eb]? = some (.cells #[.int .u64 e.x0, .int .u64 e.x1, .int .u64 e.x2, .int .u64 e.x3, .int .u64 e.x4, .int .u64 e.x5, .int .u64 e.x6, .bool e.x7] 30 (0, 0)) ∧ Below W.heap.size W w) wb) := (sg_lq G2.out)
  clear HRN
  refine hK.out _ _ HLwb.out (fun _ => ?_)
  clear hK K
  refine wpAnyH_take (i := 6) (oi := ⟨some 21, .move (.tmp 27), 44, "outright.go:94", #[⟨5, .data⟩], none⟩) (v := .tuple #[.pointer (some ⟨mb, 0, none⟩), .nilIface]) rfl (by kernel_rfl) (by kernel_rfl) (by kernel_rfl) (fun _ _ _ h => h) (Or.inl ⟨by rfl, fun w' hSw => ?_⟩) HLwb.out ?_
  ·go_simp
  simp only [Act.put, lsA, lsB, lsC]
  refine wpAnyH_take (i := 7) (oi := ⟨some 28, .extract (.tmp 21) 0, 43, "outright.go:94", #[⟨6, .data⟩], none⟩) (v := .pointer (some ⟨mb, 0, none⟩)) rfl (by kernel_rfl) (by kernel_rfl) (by kernel_rfl) (fun _ _ _ h => h) (Or.inl ⟨by rfl, fun w' hSw => ?_⟩) HLwb.out ?_
  ·go_simp
  simp only [Act.put, lsA, lsB, lsC]
  refine wpAnyH_take (i := 8) (oi := ⟨some 29, .extract (.tmp 21) 1, 37, "outright.go:94", #[⟨6, .data⟩, ⟨9, .gcOnly .lateStores⟩], none⟩) (v := .nilIface) rfl (by kernel_rfl) (by kernel_rfl) (by kernel_rfl) (fun _ _ _ h => h) (Or.inl ⟨by rfl, fun w' hSw => ?_⟩) HLwb.out ?_
  ·go_simp
  simp only [Act.put, lsA, lsB, lsC]
  refine wpAnyH_ready (rs := [9]) (by kernel_rfl) (by simp) ?_
  refine AllReadyH.cons rfl (fun K hK => ?_) AllReadyH.nil
  go_simp
  go_wp2_with fail
  refine hK.out _ _ HLwb.out (fun _ => ?_)
  clear hK K
  refine wpAnyH_ready (rs := [10]) (by kernel_rfl) (by simp) ?_
  refine AllReadyH.cons rfl (fun K hK => ?_) AllReadyH.nil
  go_simp
  go_wp2_with fail
  refine hK.out _ _ HLwb.out (fun _ => ?_)
  clear hK K
  refine wpAnyH_done (by kernel_rfl) ?_ _
  go_wp2
  go_meet
  case rel => exact ⟨mb, rfl, rfl, G2.out⟩
 case rest =>
 obtain ⟨mb, rfl, rfl, GA⟩ := hcut
 clear HCP HLW
 have HL9 : Hid ((fun (w : World) => w.heap[pb]? = some (.cells #[.slice g.ca p.nc g.cc, .slice g.sa p.ns g.sc, .int .i64 (p.en 0), .int .i64 (p.en 1), .int .i64 (p.en 2), .int .i64 (p.en 3), .int .i64 (p.en 4), .int .i64 (p.en 5), .slice g.ia p.n g.ic] 27 (0, 0)) ∧ w.heap[eb]? = some (.cells #[.int .u64 e.x0, .int .u64 e.x1, .int .u64 e.x2, .int .u64 e.x3, .int .u64 e.x4, .int .u64 e.x5, .int .u64 e.x6, .bool e.x7] 30 (0, 0)) ∧ Below W.heap.size W w) wc) := sg_lq GA.out
 have HVC := HC3.out wc HL9.out
 have k0 := block_cell HL9.out.1 0
 have k1 := block_cell HL9.out.1 1
 have k2 := block_cell HL9.out.1 2
 have k3 := block_cell HL9.out.1 3
 have k4 := block_cell HL9.out.1 4
 have k5 := block_cell HL9.out.1 5
 have k6 := block_cell HL9.out.1 6
 have k7 := block_cell HL9.out.1 7
 have k8 := block_cell HL9.out.1 8
 have kl := block_lt HL9.out.1
 simp at k0 k1 k2 k3 k4 k5 k6 k7 k8
 go_wp2_with fail
 refine HVC.mono ?_
 rintro x w8 ⟨g1, rfl, G8⟩
 rw [HCS.out g1] at G8 ⊢
 have HVF := hide G8.out.2
 have GA8 : Hid (∃ c, Sc p k e c ∧ Sg W g p e k c pb eb mb s0 w8) := sg_next GA.out G8.out.1
 clear G8 GA HL9 HVC HC3 k0 k1 k2 k3 k4 k5 k6 k7 k8 kl
 go_wp2_with fail
 refine HVF.out.mono ?_
 rintro x w9 ⟨rfl, G9⟩
 have GB : Hid (∃ c, Sc p k e c ∧ Sg W g p e k c pb eb mb s0 w9) := sg_next GA8.out G9.out
 clear G9 GA8 HVF
 have hlb : decide (ev < 0) = false := by simp; omega
 have hgb : decide (ev > 5) = false := by simp; omega
 obtain ⟨c, hc, hg⟩ := GB.out
 have HC := hide hc
 have HG := hide hg
 clear hc hg GB
 have x8 := block_cell HG.out.bp 8
 have xl := block_lt HG.out.bp
 simp [Pg.cs] at x8
 go_upto_region 11 with fail
 clear x8 xl hlb hgb
 go_loopw [12, 13] (fun l i wr => ∃ (j : Nat) (lf : Int) (s : Ms), l = .int .u64 lf ∧ i = .int .i64 (j : Nat) ∧ s.left ≤ lf ∧ nu p s + j ≤ 1001 * (p.n + 1) ∧ Hid (Sg W g p e k c pb eb mb s wr)) (fun _ i _ => 1001 * (p.n + 1) + 1 - (intOf i).toNat)
 case atStart => exact ⟨0, min fuel 1000, s0, rfl, rfl, hs0, (by have := nu_le HG.out.t; omega), HG.out⟩
 case round =>
  obtain ⟨j, lf, s, rfl, rfl, hlf, hnu, HS⟩ := hrel
  clear HG
  have hjm : (j : Int) ≤ 1001 * ((p.n : Int) + 1) := by omega
  by_cases h4 : j < 400
  ·have h4' : (j : Int) < 400 := by omega
   go_upto_region 14 with fail
   go_wp2_with fail
   refine (HS.out.state HC.out).mono ?_
   rintro x w3 ⟨a1, d1, a2, d2, rfl, G3⟩
   simp only [stA]
   have G31 := hide G3.out.1
   have GSL := hide G3.out.2.1
   have GFT := hide G3.out.2.2
   clear G3
   simp only [stA] at GSL GFT
   go_upto_region 15 with fail
   obtain ⟨w4, hw4⟩ : ∃ w4, w3.alloc (.cells #[.int .i64 s.pc, .slice a1 s.h d1, .slice a2 p.ns d2, .int .u64 s.left, .int .u64 (s.paid 0), .int .u64 (s.paid 1), .int .u64 (s.paid 2), .bool s.ov] 48) = w4 := ⟨_, rfl⟩
   have B4 : Below w3.heap.size w3 w4 := by rw [← hw4]; exact below_alloc1 w3 _
   have A4 : w4.heap[w3.heap.size]? = some (.cells #[.int .i64 s.pc, .slice a1 s.h d1, .slice a2 p.ns d2, .int .u64 s.left, .int .u64 (s.paid 0), .int .u64 (s.paid 1), .int .u64 (s.paid 2), .bool s.ov] 48 (0, 0)) := by rw [← hw4]; exact alloc_atK _ _
   rw [hw4]
   clear hw4
   obtain ⟨sb, hsb⟩ : ∃ sb, w3.heap.size = sb := ⟨_, rfl⟩
   have HS4 : Hid (Sg W g p e k c pb eb mb s w4) := hide ((HS.out.next G31.out).next B4)
   have HSL := hide (GSL.out w4 B4)
   have HB4 := hide B4
   rw [hsb] at A4 ⊢
   have HSB := hide hsb
   have HA4 := hide A4
   have hhd : c.hd = e.x2 := HC.out.hd
   have T0 := HS4.out.t.p0
   have T1 := HS4.out.t.p1
   have T2 := HS4.out.t.p2
   have T3 := HS4.out.t.ps
   have T4 := HC.out.me.h1
   rw [hhd] at T3 T4
   unfold two64 at T4
   have U1 : IntKind.u64.wrap (e.x2 - s.paid 0) = e.x2 - s.paid 0 := by simp [IntKind.wrap, IntKind.bits, IntKind.signed]; omega
   have U2 : IntKind.u64.wrap (e.x2 - s.paid 0 - s.paid 1) = e.x2 - s.paid 0 - s.paid 1 := by simp [IntKind.wrap, IntKind.bits, IntKind.signed]; omega
   have q0 : decide (s.left > lf) = false := by simp; omega
   have q1 : decide (s.paid 0 > e.x2) = false := by simp; omega
   have q2 : decide (s.paid 1 > e.x2 - s.paid 0) = false := by simp; omega
   have q3 : decide (s.paid 2 > e.x2 - s.paid 0 - s.paid 1) = false := by simp; omega
   have HQ := hide (And.intro U1 (And.intro U2 (And.intro q0 (And.intro q1 (And.intro q2 q3)))))
   clear U1 U2 q1 q2 q3 T0 T1 T2 T3 T4 hhd
   have z0 := block_cell HA4.out 0
   have z1 := block_cell HA4.out 1
   have z2 := block_cell HA4.out 2
   have z3 := block_cell HA4.out 3
   have z4 := block_cell HA4.out 4
   have z5 := block_cell HA4.out 5
   have z6 := block_cell HA4.out 6
   have z7 := block_cell HA4.out 7
   have zl := block_lt HA4.out
   have x0 := block_cell HS4.out.bp 0
   have x1 := block_cell HS4.out.bp 1
   have x2 := block_cell HS4.out.bp 2
   have x3 := block_cell HS4.out.bp 3
   have x4 := block_cell HS4.out.bp 4
   have x5 := block_cell HS4.out.bp 5
   have x6 := block_cell HS4.out.bp 6
   have x7 := block_cell HS4.out.bp 7
   have x8 := block_cell HS4.out.bp 8
   have xl := block_lt HS4.out.bp
   simp at z0 z1 z2 z3 z4 z5 z6 z7
   simp [Pg.cs] at x0 x1 x2 x3 x4 x5 x6 x7 x8
   clear A4 B4 hsb
   go_wp2_with fail
   refine HSL.out.mono ?_
   rintro x w5 ⟨rfl, G5⟩
   have HS5 := hide (HS4.out.next G5.out)
   have HA5 := hide ((G5.out.block _ zl).trans HA4.out)
   have HSB5 : Hid (Below w3.heap.size w3 w5) := hide (HB4.out.trans (G5.out.mono HB4.out.size))
   clear z0 z1 z2 z3 z4 z5 z6 z7 zl x0 x1 x2 x3 x4 x5 x6 x7 x8 xl G5 HSL HS4 HA4
   have z0 := block_cell HA5.out 0
   have z1 := block_cell HA5.out 1
   have z2 := block_cell HA5.out 2
   have z3 := block_cell HA5.out 3
   have z4 := block_cell HA5.out 4
   have z5 := block_cell HA5.out 5
   have z6 := block_cell HA5.out 6
   have z7 := block_cell HA5.out 7
   have zl := block_lt HA5.out
   have b2 := block_cell HS5.out.be 2
   have bl := block_lt HS5.out.be
   simp at z0 z1 z2 z3 z4 z5 z6 z7
   simp [En.cs] at b2
   obtain ⟨U1, U2, q0', q1, q2, q3⟩ := HQ.out
   clear q0'
   go_upto_region 17 with fail
   clear b2 bl U1 U2 q1 q2 q3 q0
   go_upto_region 18 with fail
   cases ho : s.ov with
   | true =>
    have HO := hide ho
    rw [ho] at z7
    clear ho
    go_upto_region 20 with fail
    clear z0 z1 z2 z3 z4 z5 z6 z7 zl
    go_wp2_with fail
    refine (stepCo HS5.out.m HO.out).mono ?_
    rintro x w6 ⟨rfl, rfl⟩
    go_wp2_with fail
    refine (outcomeC HS5.out.m).mono ?_
    rintro x w7 ⟨rfl, G7⟩
    have HT7 := hide (HS5.out.next G7.out)
    have hen : (s.en != 7) = true := by simpa using HT7.out.un HO.out
    clear G7 HS5
    have HOA : Hid (outO s = #[.int .i64 s.en, .int .u64 s.fail, .int .u64 (if s.en = 0 then s.paid 0 else 0), .int .u64 (if s.en = 0 then s.paid 1 else 0), .int .u64 (if s.en = 0 then s.paid 2 else 0), .int .u64 s.left]) := by
     have : outO s = #[.int .i64 s.en, .int .u64 s.fail, .int .u64 (if s.en = 0 then s.paid 0 else 0), .int .u64 (if s.en = 0 then s.paid 1 else 0), .int .u64 (if s.en = 0 then s.paid 2 else 0), .int .u64 s.left] := by unfold outO; rw [HO.out]; rfl
     exact this
    rw [HOA.out, HO.out]
    clear HOA
    generalize (if s.en = 0 then s.paid 0 else 0) = o2
    generalize (if s.en = 0 then s.paid 1 else 0) = o3
    generalize (if s.en = 0 then s.paid 2 else 0) = o4
    go_upto_region 22 with fail
    go_wp2_with fail
    refine (Sg.state HC.out (HT7.out.next (below_alloc1 w7 _))).mono ?_
    rintro x w9 ⟨a1, d1, a2, d2, rfl, G9⟩
    have HD : Hid (Below W.heap.size W w9) := ((HT7.out.next (below_alloc1 w7 _)).next G9.out.1).bel
    clear G9
    simp only [stA, HO.out]
    have hfl := fldOv s.pc a1 s.h d1 a2 p.ns d2 s.left (s.paid 0) (s.paid 1) (s.paid 2) true w9
    go_wp2
    go_ret
    exact ⟨rfl, HD.out⟩
   | false =>
    have HO := hide ho
    rw [ho] at z7
    have HFT := hide (GFT.out HO.out w5 HSB5.out)
    rw [ho] at HFT
    clear ho
    have x0 := block_cell HS5.out.bp 0
    have x1 := block_cell HS5.out.bp 1
    have x2 := block_cell HS5.out.bp 2
    have x3 := block_cell HS5.out.bp 3
    have x4 := block_cell HS5.out.bp 4
    have x5 := block_cell HS5.out.bp 5
    have x6 := block_cell HS5.out.bp 6
    have x7 := block_cell HS5.out.bp 7
    have x8 := block_cell HS5.out.bp 8
    have xl := block_lt HS5.out.bp
    simp [Pg.cs] at x0 x1 x2 x3 x4 x5 x6 x7 x8
    go_wp2_with fail
    refine HFT.out.mono ?_
    rintro x w6' ⟨rfl, G6'⟩
    have HS6 := hide (HS5.out.next G6'.out)
    clear z0 z1 z2 z3 z4 z5 z6 z7 zl x0 x1 x2 x3 x4 x5 x6 x7 x8 xl G6' HFT HS5
    go_upto_region 20 with fail
    go_wp2_with fail
    refine (HS6.out.step HC.out HO.out).mono ?_
    rintro x w6 ⟨rfl, G6⟩
    have hn2 := step_nu HC.out.me HS6.out.t HO.out
    have hd2 := step_down (p := p) (ek := c.ek) (ev := c.ev) (hd := c.hd) (s := s)
    go_wp2
    go_roundw
    case rel => exact ⟨j + 1, _, stepF p c.ek c.ev c.hd s, rfl, by go_num, by omega, by omega, G6.out⟩
    case measure => simp [intOf]; omega
  ·have h4' : ¬ (j : Int) < 400 := by omega
   have HT := HS
   clear HS
   cases ho : s.ov with
   | true =>
    have HO := hide ho
    clear ho
    go_upto_region 20 with fail
    go_wp2_with fail
    refine (stepCo HT.out.m HO.out).mono ?_
    rintro x w6 ⟨rfl, rfl⟩
    go_wp2_with fail
    refine (outcomeC HT.out.m).mono ?_
    rintro x w7 ⟨rfl, G7⟩
    have HT7 := hide (HT.out.next G7.out)
    have hen : (s.en != 7) = true := by simpa using HT7.out.un HO.out
    clear G7 HT
    have HOA : Hid (outO s = #[.int .i64 s.en, .int .u64 s.fail, .int .u64 (if s.en = 0 then s.paid 0 else 0), .int .u64 (if s.en = 0 then s.paid 1 else 0), .int .u64 (if s.en = 0 then s.paid 2 else 0), .int .u64 s.left]) := by
     have : outO s = #[.int .i64 s.en, .int .u64 s.fail, .int .u64 (if s.en = 0 then s.paid 0 else 0), .int .u64 (if s.en = 0 then s.paid 1 else 0), .int .u64 (if s.en = 0 then s.paid 2 else 0), .int .u64 s.left] := by unfold outO; rw [HO.out]; rfl
     exact this
    rw [HOA.out, HO.out]
    clear HOA
    generalize (if s.en = 0 then s.paid 0 else 0) = o2
    generalize (if s.en = 0 then s.paid 1 else 0) = o3
    generalize (if s.en = 0 then s.paid 2 else 0) = o4
    go_upto_region 22 with fail
    go_wp2_with fail
    refine (Sg.state HC.out (HT7.out.next (below_alloc1 w7 _))).mono ?_
    rintro x w9 ⟨a1, d1, a2, d2, rfl, G9⟩
    have HD : Hid (Below W.heap.size W w9) := ((HT7.out.next (below_alloc1 w7 _)).next G9.out.1).bel
    clear G9
    simp only [stA, HO.out]
    have hfl := fldOv s.pc a1 s.h d1 a2 p.ns d2 s.left (s.paid 0) (s.paid 1) (s.paid 2) true w9
    go_wp2
    go_ret
    exact ⟨rfl, HD.out⟩
   | false =>
    have HO := hide ho
    clear ho
    go_upto_region 20 with fail
    go_wp2_with fail
    refine (HT.out.step HC.out HO.out).mono ?_
    rintro x w6 ⟨rfl, G6⟩
    have hn2 := step_nu HC.out.me HT.out.t HO.out
    have hd2 := step_down (p := p) (ek := c.ek) (ev := c.ev) (hd := c.hd) (s := s)
    go_wp2
    go_roundw
    case rel => exact ⟨j + 1, _, stepF p c.ek c.ev c.hd s, rfl, by go_num, by omega, by omega, G6.out⟩
    case measure => simp [intOf]; omega
end Go.Proofs.YtpdjnbpjgpdnkaaGreatDoor
