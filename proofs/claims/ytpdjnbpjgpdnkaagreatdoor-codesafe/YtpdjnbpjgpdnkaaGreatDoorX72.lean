import Derived.Test.YtpdjnbpjgpdnkaaGreatDoorX71
import Derived.Test.YtpdjnbpjgpdnkaaGreatDoorX63
import Derived.Deep.DeepCutAuto
namespace Go.Proofs.YtpdjnbpjgpdnkaaGreatDoor
open Go.RowKit

set_option maxRecDepth 10000 in
set_option maxHeartbeats 12800000 in
/-- Where the program or the event is refused. -/
theorem safeR {W : World} {g : Pg} {p : Pv} {ev : Int} {e : En} {fuel : Int} (hlv : ∀ w, Below W.heap.size W w → Calls Tryz.prog 5 #[.int .i64 ev, .int .u64 fuel] w fun e w' => e = .returned (.bool true) ∧ Hid (Below w.heap.size w w'))
  (h1 : ∀ pb eb, W.heap.size ≤ pb → W.heap.size ≤ eb → Hid (∀ w, (fun (w : World) => w.heap[pb]? = some (.cells #[.slice g.ca p.nc g.cc, .slice g.sa p.ns g.sc, .int .i64 (p.en 0), .int .i64 (p.en 1), .int .i64 (p.en 2), .int .i64 (p.en 3), .int .i64 (p.en 4), .int .i64 (p.en 5), .slice g.ia p.n g.ic] 27 (0, 0)) ∧ w.heap[eb]? = some (.cells #[.int .u64 e.x0, .int .u64 e.x1, .int .u64 e.x2, .int .u64 e.x3, .int .u64 e.x4, .int .u64 e.x5, .int .u64 e.x6, .bool e.x7] 30 (0, 0)) ∧ Below W.heap.size W w) w → Calls Tryz.prog 7 #[.agg #[.slice g.ca p.nc g.cc, .slice g.sa p.ns g.sc, .int .i64 (p.en 0), .int .i64 (p.en 1), .int .i64 (p.en 2), .int .i64 (p.en 3), .int .i64 (p.en 4), .int .i64 (p.en 5), .slice g.ia p.n g.ic]] w fun x w1 => ∃ g1 : Pg, x = .returned (.agg (g1.cs p).toArray) ∧ Hid (Below w.heap.size w w1 ∧ Calls Tryz.prog 9 #[.agg (g1.cs p).toArray, .int .i64 ev, .agg #[.int .u64 e.x0, .int .u64 e.x1, .int .u64 e.x2, .int .u64 e.x3, .int .u64 e.x4, .int .u64 e.x5, .int .u64 e.x6, .bool e.x7], .int .u64 fuel] w1 fun x w3 => ∃ gf, x = .returned (.tuple #[.pointer none, .iface 68 (.pointer (some ⟨gf, 0, none⟩))]) ∧ Hid (Below w1.heap.size w1 w3)))) (h3 : ∀ pb eb, W.heap.size ≤ pb → W.heap.size ≤ eb → ∀ w, (fun (w : World) => w.heap[pb]? = some (.cells #[.slice g.ca p.nc g.cc, .slice g.sa p.ns g.sc, .int .i64 (p.en 0), .int .i64 (p.en 1), .int .i64 (p.en 2), .int .i64 (p.en 3), .int .i64 (p.en 4), .int .i64 (p.en 5), .slice g.ia p.n g.ic] 27 (0, 0)) ∧ w.heap[eb]? = some (.cells #[.int .u64 e.x0, .int .u64 e.x1, .int .u64 e.x2, .int .u64 e.x3, .int .u64 e.x4, .int .u64 e.x5, .int .u64 e.x6, .bool e.x7] 30 (0, 0)) ∧ Below W.heap.size W w) w → Calls Tryz.prog 7 #[.agg #[.slice g.ca p.nc g.cc, .slice g.sa p.ns g.sc, .int .i64 (p.en 0), .int .i64 (p.en 1), .int .i64 (p.en 2), .int .i64 (p.en 3), .int .i64 (p.en 4), .int .i64 (p.en 5), .slice g.ia p.n g.ic]] w fun x w1 => ∃ g1 : Pg, x = .returned (.agg (g1.cs p).toArray) ∧ Hid (Below w.heap.size w w1 ∧ Calls Tryz.prog 8 #[.agg (g1.cs p).toArray] w1 fun x w2 => (∃ gv, x = .returned (.iface 68 (.pointer (some ⟨gv, 0, none⟩))) ∧ Hid (Below w1.heap.size w1 w2)) ∨ (x = .returned .nilIface ∧ (ev < 0 ∨ 5 < ev) ∧ Hid (Below w1.heap.size w1 w2)))) :
  Calls Tryz.prog 4 #[.agg (g.cs p).toArray, .int .i64 ev, .agg e.cs.toArray, .int .u64 fuel] W fun x w' => x = .returned (.bool true) ∧ Below W.heap.size W w' := by
 obtain ⟨W1, hW1⟩ : ∃ W1, (W.alloc (.cells (g.cs p).toArray 27)).alloc (.cells e.cs.toArray 30) = W1 := ⟨_, rfl⟩
 obtain ⟨A1, A2, B1⟩ := two_box2L W _ _ _ _ hW1
 have HLV := hide (hlv W1 B1)
 have HCS : Hid (∀ (g : Pg), (g.cs p).toArray = #[.slice g.ca p.nc g.cc, .slice g.sa p.ns g.sc, .int .i64 (p.en 0), .int .i64 (p.en 1), .int .i64 (p.en 2), .int .i64 (p.en 3), .int .i64 (p.en 4), .int .i64 (p.en 5), .slice g.ia p.n g.ic]) := fun _ => rfl
 have HEC : Hid (e.cs.toArray = #[.int .u64 e.x0, .int .u64 e.x1, .int .u64 e.x2, .int .u64 e.x3, .int .u64 e.x4, .int .u64 e.x5, .int .u64 e.x6, .bool e.x7]) := rfl
 obtain ⟨pb, hpb⟩ : ∃ pb, W.heap.size = pb := ⟨_, rfl⟩
 obtain ⟨eb, heb⟩ : ∃ eb, pb + 1 = eb := ⟨_, rfl⟩
 have HCP := h1 pb eb (by omega) (by omega)
 have HC3 := hide (h3 pb eb (by omega) (by omega))
 rw [hpb, heb] at A2
 rw [hpb] at A1
 have HA1 := hide A1
 have HA2 := hide A2
 have HB1 := hide B1
 have HW1 := hide hW1
 have HPB := hide hpb
 have HEB := hide heb
 clear hlv h1 h3 A1 A2 B1 hW1
 rw [HCS.out g, HEC.out] at HW1 ⊢
 go_enter Tryz.func4, Tryz.ntmps4
 go_upto_region 1 with fail
 rw [HW1.out]
 clear hpb heb
 clear HW1
 go_wp2_with fail
 refine HLV.out.mono ?_
 rintro x w2 ⟨rfl, G2⟩
 have HLW : Hid ((fun (w : World) => w.heap[pb]? = some (.cells #[.slice g.ca p.nc g.cc, .slice g.sa p.ns g.sc, .int .i64 (p.en 0), .int .i64 (p.en 1), .int .i64 (p.en 2), .int .i64 (p.en 3), .int .i64 (p.en 4), .int .i64 (p.en 5), .slice g.ia p.n g.ic] 27 (0, 0)) ∧ w.heap[eb]? = some (.cells #[.int .u64 e.x0, .int .u64 e.x1, .int .u64 e.x2, .int .u64 e.x3, .int .u64 e.x4, .int .u64 e.x5, .int .u64 e.x6, .bool e.x7] 30 (0, 0)) ∧ Below W.heap.size W w) w2) := ⟨(G2.out.block _ (block_lt HA1.out)).trans HA1.out, (G2.out.block _ (block_lt HA2.out)).trans HA2.out, HB1.out.trans (G2.out.mono HB1.out.size)⟩
 clear HLV G2 HA1 HA2 HB1
 go_upto_region 3 with fail
 go_cut [9, 10] from 21 (fun a b V => ∃ gf, a = .pointer none ∧ b = .iface 68 (.pointer (some ⟨gf, 0, none⟩)) ∧ Hid (Below w2.heap.size w2 V))
 case first =>
  have HL0 : Hid ((fun (w : World) => w.heap[pb]? = some (.cells #[.slice g.ca p.nc g.cc, .slice g.sa p.ns g.sc, .int .i64 (p.en 0), .int .i64 (p.en 1), .int .i64 (p.en 2), .int .i64 (p.en 3), .int .i64 (p.en 4), .int .i64 (p.en 5), .slice g.ia p.n g.ic] 27 (0, 0)) ∧ w.heap[eb]? = some (.cells #[.int .u64 e.x0, .int .u64 e.x1, .int .u64 e.x2, .int .u64 e.x3, .int .u64 e.x4, .int .u64 e.x5, .int .u64 e.x6, .bool e.x7] 30 (0, 0)) ∧ Below W.heap.size W w) w2.drew) := ⟨HLW.out.1, HLW.out.2.1, HLW.out.2.2.drew⟩
  have HB0 : Hid (Below w2.heap.size w2 w2.drew) := (Below.refl _ _).drew
  refine wp_region_held_drew (S := fun (w : World) => w.heap[pb]? = some (.cells #[.slice g.ca p.nc g.cc, .slice g.sa p.ns g.sc, .int .i64 (p.en 0), .int .i64 (p.en 1), .int .i64 (p.en 2), .int .i64 (p.en 3), .int .i64 (p.en 4), .int .i64 (p.en 5), .slice g.ia p.n g.ic] 27 (0, 0)) ∧ w.heap[eb]? = some (.cells #[.int .u64 e.x0, .int .u64 e.x1, .int .u64 e.x2, .int .u64 e.x3, .int .u64 e.x4, .int .u64 e.x5, .int .u64 e.x6, .bool e.x7] 30 (0, 0)) ∧ Below W.heap.size W w) (by kernel_rfl) HL0.out (fun hH => ?_)
  refine wpAnyH_take (i := 0) (oi := ⟨some 22, .load 27 (.tmp 4), 27, "outright.go:94", #[], none⟩) (v := .agg #[.slice g.ca p.nc g.cc, .slice g.sa p.ns g.sc, .int .i64 (p.en 0), .int .i64 (p.en 1), .int .i64 (p.en 2), .int .i64 (p.en 3), .int .i64 (p.en 4), .int .i64 (p.en 5), .slice g.ia p.n g.ic]) rfl (by kernel_rfl) (by kernel_rfl) (by kernel_rfl) (fun _ _ _ h => h) (Or.inl ⟨by rfl, fun w' hSw => ?_⟩) hH ?_
  ·have k0 := block_cell hSw.1 0
   have k1 := block_cell hSw.1 1
   have k2 := block_cell hSw.1 2
   have k3 := block_cell hSw.1 3
   have k4 := block_cell hSw.1 4
   have k5 := block_cell hSw.1 5
   have k6 := block_cell hSw.1 6
   have k7 := block_cell hSw.1 7
   have k8 := block_cell hSw.1 8
   have kl := block_lt hSw.1
   simp at k0 k1 k2 k3 k4 k5 k6 k7 k8
   go_simp
  simp only [Act.put, lsA, lsB, lsC]
  refine wpAnyH_take (i := 2) (oi := ⟨some 24, .move (.tmp 1), 3, "outright.go:94", #[], none⟩) (v := .int .i64 ev) rfl (by kernel_rfl) (by kernel_rfl) (by kernel_rfl) (fun _ _ _ h => h) (Or.inl ⟨by rfl, fun w' hSw => ?_⟩) hH ?_
  ·go_simp
  simp only [Act.put, lsA, lsB, lsC]
  refine wpAnyH_take (i := 3) (oi := ⟨some 25, .load 30 (.tmp 6), 30, "outright.go:94", #[], none⟩) (v := .agg #[.int .u64 e.x0, .int .u64 e.x1, .int .u64 e.x2, .int .u64 e.x3, .int .u64 e.x4, .int .u64 e.x5, .int .u64 e.x6, .bool e.x7]) rfl (by kernel_rfl) (by kernel_rfl) (by kernel_rfl) (fun _ _ _ h => h) (Or.inl ⟨by rfl, fun w' hSw => ?_⟩) hH ?_
  ·have k0 := block_cell hSw.2.1 0
   have k1 := block_cell hSw.2.1 1
   have k2 := block_cell hSw.2.1 2
   have k3 := block_cell hSw.2.1 3
   have k4 := block_cell hSw.2.1 4
   have k5 := block_cell hSw.2.1 5
   have k6 := block_cell hSw.2.1 6
   have k7 := block_cell hSw.2.1 7
   have kl := block_lt hSw.2.1
   simp at k0 k1 k2 k3 k4 k5 k6 k7
   go_simp
  simp only [Act.put, lsA, lsB, lsC]
  refine wpAnyH_take (i := 4) (oi := ⟨some 26, .move (.tmp 3), 28, "outright.go:94", #[], none⟩) (v := .int .u64 fuel) rfl (by kernel_rfl) (by kernel_rfl) (by kernel_rfl) (fun _ _ _ h => h) (Or.inl ⟨by rfl, fun w' hSw => ?_⟩) hH ?_
  ·go_simp
  simp only [Act.put, lsA, lsB, lsC]
  refine wpAnyH_ready (rs := [1]) (by kernel_rfl) (by simp) ?_
  refine AllReadyH.cons rfl (fun K hK => ?_) AllReadyH.nil
  go_simp
  go_wp2_with fail
  refine (HCP.out w2.drew HL0.out).mono ?_
  rintro x wa ⟨g1, rfl, G1⟩
  rw [HCS.out g1]
  have HLwa : Hid ((fun (w : World) => w.heap[pb]? = some (.cells #[.slice g.ca p.nc g.cc, .slice g.sa p.ns g.sc, .int .i64 (p.en 0), .int .i64 (p.en 1), .int .i64 (p.en 2), .int .i64 (p.en 3), .int .i64 (p.en 4), .int .i64 (p.en 5), .slice g.ia p.n g.ic] 27 (0, 0)) ∧ w.heap[eb]? = some (.cells #[.int .u64 e.x0, .int .u64 e.x1, .int .u64 e.x2, .int .u64 e.x3, .int .u64 e.x4, .int .u64 e.x5, .int .u64 e.x6, .bool e.x7] 30 (0, 0)) ∧ Below W.heap.size W w) wa) := ⟨(G1.out.1.block _ (block_lt HL0.out.1)).trans HL0.out.1, (G1.out.1.block _ (block_lt HL0.out.2.1)).trans HL0.out.2.1, HL0.out.2.2.trans (G1.out.1.mono HL0.out.2.2.size)⟩
  have HBwa : Hid (Below w2.heap.size w2 wa) := HB0.out.trans (G1.out.1.mono HB0.out.size)
  have HRN := hide G1.out.2
  rw [HCS.out g1] at HRN
  clear G1
  refine hK.out _ _ HLwa.out (fun _ => ?_)
  clear hK K
  refine wpAnyH_ready (rs := [5]) (by kernel_rfl) (by simp) ?_
  refine AllReadyH.cons rfl (fun K hK => ?_) AllReadyH.nil
  go_simp
  go_wp2_with fail
  refine HRN.out.mono ?_
  rintro x wb ⟨gf, rfl, G2⟩
  have HLwb : Hid ((fun (w : World) => w.heap[pb]? = some (.cells #[.slice g.ca p.nc g.cc, .slice g.sa p.ns g.sc, .int .i64 (p.en 0), .int .i64 (p.en 1), .int .i64 (p.en 2), .int .i64 (p.en 3), .int .i64 (p.en 4), .int .i64 (p.en 5), .slice g.ia p.n g.ic] 27 (0, 0)) ∧ w.heap[eb]? = some (.cells #[.int .u64 e.x0, .int .u64 e.x1, .int .u64 e.x2, .int .u64 e.x3, .int .u64 e.x4, .int .u64 e.x5, .int .u64 e.x6, .bool e.x7] 30 (0, 0)) ∧ Below W.heap.size W w) wb) := ⟨(G2.out.block _ (block_lt HLwa.out.1)).trans HLwa.out.1, (G2.out.block _ (block_lt HLwa.out.2.1)).trans HLwa.out.2.1, HLwa.out.2.2.trans (G2.out.mono HLwa.out.2.2.size)⟩
  have HBwb : Hid (Below w2.heap.size w2 wb) := HBwa.out.trans (G2.out.mono HBwa.out.size)
  clear HRN
  refine hK.out _ _ HLwb.out (fun _ => ?_)
  clear hK K
  refine wpAnyH_take (i := 6) (oi := ⟨some 21, .move (.tmp 27), 44, "outright.go:94", #[⟨5, .data⟩], none⟩) (v := .tuple #[.pointer none, .iface 68 (.pointer (some ⟨gf, 0, none⟩))]) rfl (by kernel_rfl) (by kernel_rfl) (by kernel_rfl) (fun _ _ _ h => h) (Or.inl ⟨by rfl, fun w' hSw => ?_⟩) HLwb.out ?_
  ·go_simp
  simp only [Act.put, lsA, lsB, lsC]
  refine wpAnyH_take (i := 7) (oi := ⟨some 28, .extract (.tmp 21) 0, 43, "outright.go:94", #[⟨6, .data⟩], none⟩) (v := .pointer none) rfl (by kernel_rfl) (by kernel_rfl) (by kernel_rfl) (fun _ _ _ h => h) (Or.inl ⟨by rfl, fun w' hSw => ?_⟩) HLwb.out ?_
  ·go_simp
  simp only [Act.put, lsA, lsB, lsC]
  refine wpAnyH_take (i := 8) (oi := ⟨some 29, .extract (.tmp 21) 1, 37, "outright.go:94", #[⟨6, .data⟩, ⟨9, .gcOnly .lateStores⟩], none⟩) (v := .iface 68 (.pointer (some ⟨gf, 0, none⟩))) rfl (by kernel_rfl) (by kernel_rfl) (by kernel_rfl) (fun _ _ _ h => h) (Or.inl ⟨by rfl, fun w' hSw => ?_⟩) HLwb.out ?_
  ·go_simp
  simp only [Act.put, lsA, lsB, lsC]
  refine wpAnyH_ready (rs := [9]) (by kernel_rfl) (by simp) ?_
  refine AllReadyH.cons rfl (fun K hK => ?_) AllReadyH.nil
  go_simp
  go_wp2_with fail
  refine hK.out _ _ HLwb.out (fun _ => ?_)
  clear hK K
  refine wpAnyH_ready (rs := [10]) (by kernel_rfl) (by simp) ?_
  refine AllReadyH.cons rfl (fun K hK => ?_) AllReadyH.nil
  go_simp
  go_wp2_with fail
  refine hK.out _ _ HLwb.out (fun _ => ?_)
  clear hK K
  refine wpAnyH_done (by kernel_rfl) ?_ _
  go_wp2
  go_meet
  case rel => exact ⟨gf, rfl, rfl, HBwb.out⟩
 case rest =>
 obtain ⟨gf, rfl, rfl, GA⟩ := hcut
 clear HCP
 have HL9 : Hid ((fun (w : World) => w.heap[pb]? = some (.cells #[.slice g.ca p.nc g.cc, .slice g.sa p.ns g.sc, .int .i64 (p.en 0), .int .i64 (p.en 1), .int .i64 (p.en 2), .int .i64 (p.en 3), .int .i64 (p.en 4), .int .i64 (p.en 5), .slice g.ia p.n g.ic] 27 (0, 0)) ∧ w.heap[eb]? = some (.cells #[.int .u64 e.x0, .int .u64 e.x1, .int .u64 e.x2, .int .u64 e.x3, .int .u64 e.x4, .int .u64 e.x5, .int .u64 e.x6, .bool e.x7] 30 (0, 0)) ∧ Below W.heap.size W w) wc) := ⟨(GA.out.block _ (block_lt HLW.out.1)).trans HLW.out.1, (GA.out.block _ (block_lt HLW.out.2.1)).trans HLW.out.2.1, HLW.out.2.2.trans (GA.out.mono HLW.out.2.2.size)⟩
 have HBW : Hid (Below W.heap.size W wc) := HL9.out.2.2
 clear HLW GA
 have HVC := HC3.out wc HL9.out
 have k0 := block_cell HL9.out.1 0
 have k1 := block_cell HL9.out.1 1
 have k2 := block_cell HL9.out.1 2
 have k3 := block_cell HL9.out.1 3
 have k4 := block_cell HL9.out.1 4
 have k5 := block_cell HL9.out.1 5
 have k6 := block_cell HL9.out.1 6
 have k7 := block_cell HL9.out.1 7
 have k8 := block_cell HL9.out.1 8
 have kl := block_lt HL9.out.1
 simp at k0 k1 k2 k3 k4 k5 k6 k7 k8
 go_wp2_with fail
 refine HVC.mono ?_
 rintro x w8 ⟨g1, rfl, G8⟩
 rw [HCS.out g1] at G8 ⊢
 have HVF := hide G8.out.2
 have HB8 : Hid (Below W.heap.size W w8) := HBW.out.trans (G8.out.1.mono HBW.out.size)
 clear G8 HBW HL9 HVC HC3 k0 k1 k2 k3 k4 k5 k6 k7 k8 kl
 go_wp2_with fail
 refine HVF.out.mono ?_
 rintro x w9 hh
 rcases hh with ⟨gv, rfl, G9⟩ | ⟨rfl, hev, G9⟩
 ·have HD : Hid (Below W.heap.size W w9) := HB8.out.trans (G9.out.mono HB8.out.size)
  clear G9 HB8 HVF
  go_wp2
  go_ret
  exact ⟨rfl, HD.out⟩
 ·have HD : Hid (Below W.heap.size W w9) := HB8.out.trans (G9.out.mono HB8.out.size)
  clear G9 HB8 HVF
  by_cases hl : ev < 0
  ·have hlb : decide (ev < 0) = true := by simpa using hl
   go_wp2
   go_ret
   exact ⟨rfl, HD.out⟩
  ·have hlb : decide (ev < 0) = false := by simpa using hl
   have hgb : decide (ev > 5) = true := by simp; omega
   go_wp2
   go_ret
   exact ⟨rfl, HD.out⟩
end Go.Proofs.YtpdjnbpjgpdnkaaGreatDoor
