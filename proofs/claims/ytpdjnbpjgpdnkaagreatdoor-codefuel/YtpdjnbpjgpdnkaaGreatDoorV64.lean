import Derived.Test.YtpdjnbpjgpdnkaaGreatDoorV61
import Derived.Test.YtpdjnbpjgpdnkaaGreatDoorV62
import Derived.Test.YtpdjnbpjgpdnkaaGreatDoorV63
import Derived.Deep.DeepCutAuto
namespace Go.Proofs.YtpdjnbpjgpdnkaaGreatDoor
open Go.RowKit

theorem eqItemsF (xs : Array Value) (w : World) : ∀ is : List Nat, (∀ i ∈ is, ∃ x, xs[i * 1]? = some (.int .u64 x)) → (Op.eqItems 9999 28 1 xs xs is).run Tryz.prog w = .ok true w
 | [], _ => rfl
 | i :: is, h => by
  obtain ⟨x, hx⟩ := h i (by simp)
  have ih := eqItemsF xs w is (fun j hj => h j (by simp [hj]))
  have hp := run_part_plain (P := Tryz.prog) w (e := 28) (by kernel_rfl) hx
  have he : (Op.equalIn 9999 28 (.int .u64 x) (.int .u64 x)).run Tryz.prog w = .ok true w := by
   rw [show 9999 = 9998 + 1 from rfl, run_equalIn_int w 9998 28 .u64 .u64 x x Tryz.underlying28]
   simp
  simp only [Op.eqItems, Sem.run_bind, hp, Result.andThen_ok, he, Bool.not_true, Bool.false_eq_true, if_false, ih]
theorem eqPaidF (a0 a1 a2 : Int) (w : World) : (Op.equalIn 10000 33 (.agg #[.int .u64 a0, .int .u64 a1, .int .u64 a2]) (.agg #[.int .u64 a0, .int .u64 a1, .int .u64 a2])).run Tryz.prog w = .ok true w := by
 obtain ⟨i0, hi, hz0, hz1, hz2⟩ := info_parts Tryz.infoU
 have hc : Tryz.prog.cellsOf 28 = 1 := by kernel_rfl
 rw [show 10000 = 9999 + 1 from rfl, run_equalIn_array w 9999 _ _ Tryz.underlying33 hi, hc]
 refine eqItemsF _ w _ (fun i hm => ?_)
 have : i < 3 := by simpa using hm
 match i, this with
 | 0, _ => exact ⟨_, rfl⟩
 | 1, _ => exact ⟨_, rfl⟩
 | 2, _ => exact ⟨_, rfl⟩
set_option maxRecDepth 10000 in
set_option maxHeartbeats 12800000 in
theorem fuelK {W : World} {g : Pg} {p : Pv} {ev : Int} {e : En} {fuel more f gg : Int} {gz gr : Int} {E0 E1 E2 E3 E4 E5 F0 F1 F2 F3 F4 F5 : Int} (hlv : ∀ w, Below W.heap.size W w → Calls Tryz.prog 5 #[.int .i64 ev, .int .u64 fuel] w fun e w' => e = .returned (.bool true) ∧ Hid (Below w.heap.size w w'))
  (hf : Int.tmod fuel 1001 = f) (hg1 : IntKind.u64.wrap (1001 - f) = gz) (hg2 : Int.tmod more gz = gr) (hg3 : IntKind.u64.wrap (f + gr) = gg) (hgz : ¬ gz = 0)
  (h1 : ∀ pb eb, W.heap.size ≤ pb → W.heap.size ≤ eb → Hid (∀ w, (fun (w : World) => w.heap[pb]? = some (.cells #[.slice g.ca p.nc g.cc, .slice g.sa p.ns g.sc, .int .i64 (p.en 0), .int .i64 (p.en 1), .int .i64 (p.en 2), .int .i64 (p.en 3), .int .i64 (p.en 4), .int .i64 (p.en 5), .slice g.ia p.n g.ic] 27 (0, 0)) ∧ w.heap[eb]? = some (.cells #[.int .u64 e.x0, .int .u64 e.x1, .int .u64 e.x2, .int .u64 e.x3, .int .u64 e.x4, .int .u64 e.x5, .int .u64 e.x6, .bool e.x7] 30 (0, 0)) ∧ Below W.heap.size W w) w → Calls Tryz.prog 7 #[.agg #[.slice g.ca p.nc g.cc, .slice g.sa p.ns g.sc, .int .i64 (p.en 0), .int .i64 (p.en 1), .int .i64 (p.en 2), .int .i64 (p.en 3), .int .i64 (p.en 4), .int .i64 (p.en 5), .slice g.ia p.n g.ic]] w fun x w1 => ∃ g1 : Pg, x = .returned (.agg (g1.cs p).toArray) ∧ Hid (Below w.heap.size w w1 ∧ ∀ w2, Below w1.heap.size w1 w2 → Calls Tryz.prog 6 #[.agg (g1.cs p).toArray, .int .i64 ev, .agg #[.int .u64 e.x0, .int .u64 e.x1, .int .u64 e.x2, .int .u64 e.x3, .int .u64 e.x4, .int .u64 e.x5, .int .u64 e.x6, .bool e.x7], .int .u64 f] w2 fun x w3 => x = .returned (.tuple #[.agg #[.int .i64 E0, .int .u64 E1, .int .u64 E2, .int .u64 E3, .int .u64 E4, .int .u64 E5], .nilIface]) ∧ Hid (Below w2.heap.size w2 w3)))) (h2 : ∀ pb eb, W.heap.size ≤ pb → W.heap.size ≤ eb → Hid (∀ w, (fun (w : World) => w.heap[pb]? = some (.cells #[.slice g.ca p.nc g.cc, .slice g.sa p.ns g.sc, .int .i64 (p.en 0), .int .i64 (p.en 1), .int .i64 (p.en 2), .int .i64 (p.en 3), .int .i64 (p.en 4), .int .i64 (p.en 5), .slice g.ia p.n g.ic] 27 (0, 0)) ∧ w.heap[eb]? = some (.cells #[.int .u64 e.x0, .int .u64 e.x1, .int .u64 e.x2, .int .u64 e.x3, .int .u64 e.x4, .int .u64 e.x5, .int .u64 e.x6, .bool e.x7] 30 (0, 0)) ∧ Below W.heap.size W w) w → Calls Tryz.prog 7 #[.agg #[.slice g.ca p.nc g.cc, .slice g.sa p.ns g.sc, .int .i64 (p.en 0), .int .i64 (p.en 1), .int .i64 (p.en 2), .int .i64 (p.en 3), .int .i64 (p.en 4), .int .i64 (p.en 5), .slice g.ia p.n g.ic]] w fun x w1 => ∃ g1 : Pg, x = .returned (.agg (g1.cs p).toArray) ∧ Hid (Below w.heap.size w w1 ∧ ∀ w2, Below w1.heap.size w1 w2 → Calls Tryz.prog 6 #[.agg (g1.cs p).toArray, .int .i64 ev, .agg #[.int .u64 e.x0, .int .u64 e.x1, .int .u64 e.x2, .int .u64 e.x3, .int .u64 e.x4, .int .u64 e.x5, .int .u64 e.x6, .bool e.x7], .int .u64 gg] w2 fun x w3 => x = .returned (.tuple #[.agg #[.int .i64 F0, .int .u64 F1, .int .u64 F2, .int .u64 F3, .int .u64 F4, .int .u64 F5], .nilIface]) ∧ Hid (Below w2.heap.size w2 w3))))
  (hres : (E0 = 2 ∧ E5 = 0) ∨ (E0 ≠ 2 ∧ F0 = E0 ∧ F1 = E1 ∧ F2 = E2 ∧ F3 = E3 ∧ F4 = E4 ∧ IntKind.u64.wrap (IntKind.u64.wrap (E5 + gg) - f) = F5)) :
  Calls Tryz.prog 3 #[.agg (g.cs p).toArray, .int .i64 ev, .agg e.cs.toArray, .int .u64 fuel, .int .u64 more] W fun x w' => x = .returned (.bool true) ∧ Below W.heap.size W w' := by
 obtain ⟨W1, hW1⟩ : ∃ W1, (W.alloc (.cells (g.cs p).toArray 27)).alloc (.cells e.cs.toArray 30) = W1 := ⟨_, rfl⟩
 obtain ⟨A1, A2, B1⟩ := two_box2L W _ _ _ _ hW1
 have HLV := hide (hlv W1 B1)
 have HCS : Hid (∀ (g : Pg), (g.cs p).toArray = #[.slice g.ca p.nc g.cc, .slice g.sa p.ns g.sc, .int .i64 (p.en 0), .int .i64 (p.en 1), .int .i64 (p.en 2), .int .i64 (p.en 3), .int .i64 (p.en 4), .int .i64 (p.en 5), .slice g.ia p.n g.ic]) := fun _ => rfl
 have HEC : Hid (e.cs.toArray = #[.int .u64 e.x0, .int .u64 e.x1, .int .u64 e.x2, .int .u64 e.x3, .int .u64 e.x4, .int .u64 e.x5, .int .u64 e.x6, .bool e.x7]) := rfl
 obtain ⟨pb, hpb⟩ : ∃ pb, W.heap.size = pb := ⟨_, rfl⟩
 obtain ⟨eb, heb⟩ : ∃ eb, pb + 1 = eb := ⟨_, rfl⟩
 have HC1 := h1 pb eb (by omega) (by omega)
 have HC2 := h2 pb eb (by omega) (by omega)
 rw [hpb, heb] at A2
 rw [hpb] at A1
 have HA1 := hide A1
 have HA2 := hide A2
 have HB1 := hide B1
 have HW1 := hide hW1
 have HPB := hide hpb
 have HEB := hide heb
 clear hlv h1 h2 A1 A2 B1 hW1
 rw [HCS.out g, HEC.out] at HW1 ⊢
 go_enter Tryz.func3, Tryz.ntmps3
 go_upto_region 1 with fail
 rw [HW1.out]
 clear hpb heb
 clear HW1
 go_wp2_with fail
 refine HLV.out.mono ?_
 rintro x w2 ⟨rfl, G2⟩
 have HLW : Hid ((fun (w : World) => w.heap[pb]? = some (.cells #[.slice g.ca p.nc g.cc, .slice g.sa p.ns g.sc, .int .i64 (p.en 0), .int .i64 (p.en 1), .int .i64 (p.en 2), .int .i64 (p.en 3), .int .i64 (p.en 4), .int .i64 (p.en 5), .slice g.ia p.n g.ic] 27 (0, 0)) ∧ w.heap[eb]? = some (.cells #[.int .u64 e.x0, .int .u64 e.x1, .int .u64 e.x2, .int .u64 e.x3, .int .u64 e.x4, .int .u64 e.x5, .int .u64 e.x6, .bool e.x7] 30 (0, 0)) ∧ Below W.heap.size W w) w2) := ⟨(G2.out.block _ (block_lt HA1.out)).trans HA1.out, (G2.out.block _ (block_lt HA2.out)).trans HA2.out, HB1.out.trans (G2.out.mono HB1.out.size)⟩
 have HPE : Hid ((∀ o, w2.heap.size ≤ o → pb ≠ o) ∧ ∀ o, w2.heap.size ≤ o → eb ≠ o) := ⟨fun o h => by have := block_lt HLW.out.1; omega, fun o h => by have := block_lt HLW.out.2.1; omega⟩
 have HBW2 : Hid (Below W.heap.size W w2) := HB1.out.trans (G2.out.mono HB1.out.size)
 clear HLV G2 HA1 HA2 HB1
 have HCP := HC1
 clear HC1
 go_upto_region 5 with fail
 go_cut [13, 14] from 29 (fun a b V => ∃ ob , a = .pointer (some ⟨ob, 0, none⟩) ∧ b = .nilIface ∧ Hid (V.heap[ob]? = some (.cells #[.int .i64 E0, .int .u64 E1, .int .u64 E2, .int .u64 E3, .int .u64 E4, .int .u64 E5] 35 (0, 0)) ∧ Below w2.heap.size w2 V))
 case first =>
  have HL0 : Hid ((fun (w : World) => w.heap[pb]? = some (.cells #[.slice g.ca p.nc g.cc, .slice g.sa p.ns g.sc, .int .i64 (p.en 0), .int .i64 (p.en 1), .int .i64 (p.en 2), .int .i64 (p.en 3), .int .i64 (p.en 4), .int .i64 (p.en 5), .slice g.ia p.n g.ic] 27 (0, 0)) ∧ w.heap[eb]? = some (.cells #[.int .u64 e.x0, .int .u64 e.x1, .int .u64 e.x2, .int .u64 e.x3, .int .u64 e.x4, .int .u64 e.x5, .int .u64 e.x6, .bool e.x7] 30 (0, 0)) ∧ Below W.heap.size W w) w2.drew) := ⟨HLW.out.1, HLW.out.2.1, HLW.out.2.2.drew⟩
  have HB0 : Hid (Below w2.heap.size w2 w2.drew) := (Below.refl _ _).drew
  refine wp_region_held_drew (S := fun (w : World) => w.heap[pb]? = some (.cells #[.slice g.ca p.nc g.cc, .slice g.sa p.ns g.sc, .int .i64 (p.en 0), .int .i64 (p.en 1), .int .i64 (p.en 2), .int .i64 (p.en 3), .int .i64 (p.en 4), .int .i64 (p.en 5), .slice g.ia p.n g.ic] 27 (0, 0)) ∧ w.heap[eb]? = some (.cells #[.int .u64 e.x0, .int .u64 e.x1, .int .u64 e.x2, .int .u64 e.x3, .int .u64 e.x4, .int .u64 e.x5, .int .u64 e.x6, .bool e.x7] 30 (0, 0)) ∧ Below W.heap.size W w) (by kernel_rfl) HL0.out (fun hH => ?_)
  refine wpAnyH_take (i := 0) (oi := ⟨some 30, .load 27 (.tmp 5), 27, "outright.go:183", #[], none⟩) (v := .agg #[.slice g.ca p.nc g.cc, .slice g.sa p.ns g.sc, .int .i64 (p.en 0), .int .i64 (p.en 1), .int .i64 (p.en 2), .int .i64 (p.en 3), .int .i64 (p.en 4), .int .i64 (p.en 5), .slice g.ia p.n g.ic]) rfl (by kernel_rfl) (by kernel_rfl) (by kernel_rfl) (fun _ _ _ h => h) (Or.inl ⟨by rfl, fun w' hSw => ?_⟩) hH ?_
  ·have k0 := block_cell hSw.1 0
   have k1 := block_cell hSw.1 1
   have k2 := block_cell hSw.1 2
   have k3 := block_cell hSw.1 3
   have k4 := block_cell hSw.1 4
   have k5 := block_cell hSw.1 5
   have k6 := block_cell hSw.1 6
   have k7 := block_cell hSw.1 7
   have k8 := block_cell hSw.1 8
   have kl := block_lt hSw.1
   simp at k0 k1 k2 k3 k4 k5 k6 k7 k8
   go_simp
  simp only [Act.put, lsA, lsB, lsC]
  refine wpAnyH_take (i := 2) (oi := ⟨some 32, .move (.tmp 1), 3, "outright.go:183", #[], none⟩) (v := .int .i64 ev) rfl (by kernel_rfl) (by kernel_rfl) (by kernel_rfl) (fun _ _ _ h => h) (Or.inl ⟨by rfl, fun w' hSw => ?_⟩) hH ?_
  ·go_simp
  simp only [Act.put, lsA, lsB, lsC]
  refine wpAnyH_take (i := 3) (oi := ⟨some 33, .load 30 (.tmp 7), 30, "outright.go:183", #[], none⟩) (v := .agg #[.int .u64 e.x0, .int .u64 e.x1, .int .u64 e.x2, .int .u64 e.x3, .int .u64 e.x4, .int .u64 e.x5, .int .u64 e.x6, .bool e.x7]) rfl (by kernel_rfl) (by kernel_rfl) (by kernel_rfl) (fun _ _ _ h => h) (Or.inl ⟨by rfl, fun w' hSw => ?_⟩) hH ?_
  ·have k0 := block_cell hSw.2.1 0
   have k1 := block_cell hSw.2.1 1
   have k2 := block_cell hSw.2.1 2
   have k3 := block_cell hSw.2.1 3
   have k4 := block_cell hSw.2.1 4
   have k5 := block_cell hSw.2.1 5
   have k6 := block_cell hSw.2.1 6
   have k7 := block_cell hSw.2.1 7
   have kl := block_lt hSw.2.1
   simp at k0 k1 k2 k3 k4 k5 k6 k7
   go_simp
  simp only [Act.put, lsA, lsB, lsC]
  refine wpAnyH_take (i := 4) (oi := ⟨some 34, .move (.tmp 11), 28, "outright.go:183", #[], none⟩) (v := .int .u64 f) rfl (by kernel_rfl) (by kernel_rfl) (by kernel_rfl) (fun _ _ _ h => h) (Or.inl ⟨by rfl, fun w' hSw => ?_⟩) hH ?_
  ·go_simp
  simp only [Act.put, lsA, lsB, lsC]
  refine wpAnyH_ready (rs := [1, 9]) (by kernel_rfl) (by simp) ?_
  refine AllReadyH.cons rfl (fun K hK => ?_) (AllReadyH.cons rfl (fun K hK => ?_) AllReadyH.nil)
  ·go_simp
   go_wp2_with fail
   refine (HCP.out w2.drew HL0.out).mono ?_
   rintro x wa ⟨g1, rfl, G1⟩
   rw [HCS.out g1]
   have HLwa : Hid ((fun (w : World) => w.heap[pb]? = some (.cells #[.slice g.ca p.nc g.cc, .slice g.sa p.ns g.sc, .int .i64 (p.en 0), .int .i64 (p.en 1), .int .i64 (p.en 2), .int .i64 (p.en 3), .int .i64 (p.en 4), .int .i64 (p.en 5), .slice g.ia p.n g.ic] 27 (0, 0)) ∧ w.heap[eb]? = some (.cells #[.int .u64 e.x0, .int .u64 e.x1, .int .u64 e.x2, .int .u64 e.x3, .int .u64 e.x4, .int .u64 e.x5, .int .u64 e.x6, .bool e.x7] 30 (0, 0)) ∧ Below W.heap.size W w) wa) := ⟨(G1.out.1.block _ (block_lt HL0.out.1)).trans HL0.out.1, (G1.out.1.block _ (block_lt HL0.out.2.1)).trans HL0.out.2.1, HL0.out.2.2.trans (G1.out.1.mono HL0.out.2.2.size)⟩
   have HBwa : Hid (Below w2.heap.size w2 wa) := HB0.out.trans (G1.out.1.mono HB0.out.size)
   have HRN := hide G1.out.2
   rw [HCS.out g1] at HRN
   clear G1
   refine hK.out _ _ HLwa.out (fun _ => ?_)
   clear hK K
   refine wpAnyH_ready (rs := [5, 9]) (by kernel_rfl) (by simp) ?_
   refine AllReadyH.cons rfl (fun K hK => ?_) (AllReadyH.cons rfl (fun K hK => ?_) AllReadyH.nil)
   ·go_simp
    go_wp2_with fail
    refine (HRN.out wa (Below.refl _ _)).mono ?_
    rintro x wb ⟨rfl, G2⟩
    have HLwb : Hid ((fun (w : World) => w.heap[pb]? = some (.cells #[.slice g.ca p.nc g.cc, .slice g.sa p.ns g.sc, .int .i64 (p.en 0), .int .i64 (p.en 1), .int .i64 (p.en 2), .int .i64 (p.en 3), .int .i64 (p.en 4), .int .i64 (p.en 5), .slice g.ia p.n g.ic] 27 (0, 0)) ∧ w.heap[eb]? = some (.cells #[.int .u64 e.x0, .int .u64 e.x1, .int .u64 e.x2, .int .u64 e.x3, .int .u64 e.x4, .int .u64 e.x5, .int .u64 e.x6, .bool e.x7] 30 (0, 0)) ∧ Below W.heap.size W w) wb) := ⟨(G2.out.block _ (block_lt HLwa.out.1)).trans HLwa.out.1, (G2.out.block _ (block_lt HLwa.out.2.1)).trans HLwa.out.2.1, HLwa.out.2.2.trans (G2.out.mono HLwa.out.2.2.size)⟩
    have HBwb : Hid (Below w2.heap.size w2 wb) := HBwa.out.trans (G2.out.mono HBwa.out.size)
    clear HRN
    refine hK.out _ _ HLwb.out (fun _ => ?_)
    clear hK K
    refine wpAnyH_take (i := 6) (oi := ⟨some 29, .move (.tmp 35), 38, "outright.go:183", #[⟨5, .data⟩], none⟩) (v := .tuple #[.agg #[.int .i64 E0, .int .u64 E1, .int .u64 E2, .int .u64 E3, .int .u64 E4, .int .u64 E5], .nilIface]) rfl (by kernel_rfl) (by kernel_rfl) (by kernel_rfl) (fun _ _ _ h => h) (Or.inl ⟨by rfl, fun w' hSw => ?_⟩) HLwb.out ?_
    ·go_simp
    simp only [Act.put, lsA, lsB, lsC]
    refine wpAnyH_take (i := 7) (oi := ⟨some 36, .extract (.tmp 29) 0, 35, "outright.go:183", #[⟨6, .data⟩], none⟩) (v := .agg #[.int .i64 E0, .int .u64 E1, .int .u64 E2, .int .u64 E3, .int .u64 E4, .int .u64 E5]) rfl (by kernel_rfl) (by kernel_rfl) (by kernel_rfl) (fun _ _ _ h => h) (Or.inl ⟨by rfl, fun w' hSw => ?_⟩) HLwb.out ?_
    ·go_simp
    simp only [Act.put, lsA, lsB, lsC]
    refine wpAnyH_take (i := 8) (oi := ⟨some 37, .extract (.tmp 29) 1, 37, "outright.go:183", #[⟨6, .data⟩, ⟨10, .gcOnly .lateStores⟩], none⟩) (v := .nilIface) rfl (by kernel_rfl) (by kernel_rfl) (by kernel_rfl) (fun _ _ _ h => h) (Or.inl ⟨by rfl, fun w' hSw => ?_⟩) HLwb.out ?_
    ·go_simp
    simp only [Act.put, lsA, lsB, lsC]
    refine wpAnyH_ready (rs := [9]) (by kernel_rfl) (by simp) ?_
    refine AllReadyH.cons rfl (fun K hK => ?_) AllReadyH.nil
    go_simp
    go_wp2_with fail
    obtain ⟨wd, hw⟩ : ∃ w', wb.alloc (.cells #[.int .i64 0, .int .u64 0, .int .u64 0, .int .u64 0, .int .u64 0, .int .u64 0] 35) = w' := ⟨_, rfl⟩
    have bA : Below wb.heap.size wb wd := by rw [← hw]; exact below_alloc1 _ _
    have HXwd : Hid (wd.heap[wb.heap.size]? = some (.cells #[.int .i64 0, .int .u64 0, .int .u64 0, .int .u64 0, .int .u64 0, .int .u64 0] 35 (0, 0))) := by rw [← hw]; exact alloc_atK _ _
    rw [hw]
    clear hw
    have HLwd : Hid ((fun (w : World) => w.heap[pb]? = some (.cells #[.slice g.ca p.nc g.cc, .slice g.sa p.ns g.sc, .int .i64 (p.en 0), .int .i64 (p.en 1), .int .i64 (p.en 2), .int .i64 (p.en 3), .int .i64 (p.en 4), .int .i64 (p.en 5), .slice g.ia p.n g.ic] 27 (0, 0)) ∧ w.heap[eb]? = some (.cells #[.int .u64 e.x0, .int .u64 e.x1, .int .u64 e.x2, .int .u64 e.x3, .int .u64 e.x4, .int .u64 e.x5, .int .u64 e.x6, .bool e.x7] 30 (0, 0)) ∧ Below W.heap.size W w) wd) := ⟨(bA.block _ (block_lt HLwb.out.1)).trans HLwb.out.1, (bA.block _ (block_lt HLwb.out.2.1)).trans HLwb.out.2.1, HLwb.out.2.2.trans (bA.mono HLwb.out.2.2.size)⟩
    have HBwd : Hid (Below w2.heap.size w2 wd) := HBwb.out.trans (bA.mono HBwb.out.size)
    clear bA
    have HBO : Hid (w2.heap.size ≤ wb.heap.size) := HBwb.out.size
    refine hK.out _ _ HLwd.out (fun _ => ?_)
    clear hK K
    have o0 := block_cell HXwd.out 0
    have o1 := block_cell HXwd.out 1
    have o2 := block_cell HXwd.out 2
    have o3 := block_cell HXwd.out 3
    have o4 := block_cell HXwd.out 4
    have o5 := block_cell HXwd.out 5
    have p0 := block_free HXwd.out 0
    have p1 := block_free HXwd.out 1
    have p2 := block_free HXwd.out 2
    have p3 := block_free HXwd.out 3
    have p4 := block_free HXwd.out 4
    have p5 := block_free HXwd.out 5
    have ol := block_lt HXwd.out
    simp at o0 o1 o2 o3 o4 o5
    refine wpAnyH_ready (rs := [10]) (by kernel_rfl) (by simp) ?_
    refine AllReadyH.cons rfl (fun K hK => ?_) AllReadyH.nil
    go_simp
    go_wp2_with fail
    generalize hwf : World.setCell _ _ _ = wf
    have hS6 := set6 rfl HXwd.out HBwd.out (by first | exact Nat.le_refl _ | exact HBO.out) _ _ _ _ _ _ hwf
    have hne1 : pb ≠ wb.heap.size := HPE.out.1 _ (by first | exact Nat.le_refl _ | exact HBO.out)
    have hne2 : eb ≠ wb.heap.size := HPE.out.2 _ (by first | exact Nat.le_refl _ | exact HBO.out)
    have HLf : Hid ((fun (w : World) => w.heap[pb]? = some (.cells #[.slice g.ca p.nc g.cc, .slice g.sa p.ns g.sc, .int .i64 (p.en 0), .int .i64 (p.en 1), .int .i64 (p.en 2), .int .i64 (p.en 3), .int .i64 (p.en 4), .int .i64 (p.en 5), .slice g.ia p.n g.ic] 27 (0, 0)) ∧ w.heap[eb]? = some (.cells #[.int .u64 e.x0, .int .u64 e.x1, .int .u64 e.x2, .int .u64 e.x3, .int .u64 e.x4, .int .u64 e.x5, .int .u64 e.x6, .bool e.x7] 30 (0, 0)) ∧ Below W.heap.size W w) wf) := ⟨(hS6.2.2.block _ (block_lt HLwd.out.1) (by simpa using hne1)).trans HLwd.out.1, (hS6.2.2.block _ (block_lt HLwd.out.2.1) (by simpa using hne2)).trans HLwd.out.2.1, HLwd.out.2.2.grown hS6.2.2 HLwd.out.2.2.size (fun q e => by cases e; exact Nat.le_trans HLW.out.2.2.size (by first | exact Nat.le_refl _ | exact HBO.out))⟩
    have HFF : Hid (wf.heap[wb.heap.size]? = some (.cells #[.int .i64 E0, .int .u64 E1, .int .u64 E2, .int .u64 E3, .int .u64 E4, .int .u64 E5] 35 (0, 0)) ∧ Below w2.heap.size w2 wf) := ⟨hS6.1, hS6.2.1⟩
    clear hwf hS6 hne1 hne2 o0 o1 o2 o3 o4 o5 p0 p1 p2 p3 p4 p5 ol
    refine hK.out _ _ HLf.out (fun _ => ?_)
    clear hK K
    refine wpAnyH_ready (rs := [11]) (by kernel_rfl) (by simp) ?_
    refine AllReadyH.cons rfl (fun K hK => ?_) AllReadyH.nil
    go_simp
    go_wp2_with fail
    refine hK.out _ _ HLf.out (fun _ => ?_)
    clear hK K
    refine wpAnyH_done (by kernel_rfl) ?_ _
    go_wp2
    go_meet
    case rel => exact ⟨_, rfl, rfl, HFF.out⟩
   ·go_simp
    go_wp2_with fail
    obtain ⟨wb, hw⟩ : ∃ w', wa.alloc (.cells #[.int .i64 0, .int .u64 0, .int .u64 0, .int .u64 0, .int .u64 0, .int .u64 0] 35) = w' := ⟨_, rfl⟩
    have bA : Below wa.heap.size wa wb := by rw [← hw]; exact below_alloc1 _ _
    have HXwb : Hid (wb.heap[wa.heap.size]? = some (.cells #[.int .i64 0, .int .u64 0, .int .u64 0, .int .u64 0, .int .u64 0, .int .u64 0] 35 (0, 0))) := by rw [← hw]; exact alloc_atK _ _
    rw [hw]
    clear hw
    have HLwb : Hid ((fun (w : World) => w.heap[pb]? = some (.cells #[.slice g.ca p.nc g.cc, .slice g.sa p.ns g.sc, .int .i64 (p.en 0), .int .i64 (p.en 1), .int .i64 (p.en 2), .int .i64 (p.en 3), .int .i64 (p.en 4), .int .i64 (p.en 5), .slice g.ia p.n g.ic] 27 (0, 0)) ∧ w.heap[eb]? = some (.cells #[.int .u64 e.x0, .int .u64 e.x1, .int .u64 e.x2, .int .u64 e.x3, .int .u64 e.x4, .int .u64 e.x5, .int .u64 e.x6, .bool e.x7] 30 (0, 0)) ∧ Below W.heap.size W w) wb) := ⟨(bA.block _ (block_lt HLwa.out.1)).trans HLwa.out.1, (bA.block _ (block_lt HLwa.out.2.1)).trans HLwa.out.2.1, HLwa.out.2.2.trans (bA.mono HLwa.out.2.2.size)⟩
    have HBwb : Hid (Below w2.heap.size w2 wb) := HBwa.out.trans (bA.mono HBwa.out.size)
    have HBA := hide bA
    clear bA
    refine hK.out _ _ HLwb.out (fun _ => ?_)
    clear hK K
    refine wpAnyH_ready (rs := [5]) (by kernel_rfl) (by simp) ?_
    refine AllReadyH.cons rfl (fun K hK => ?_) AllReadyH.nil
    go_simp
    go_wp2_with fail
    refine (HRN.out wb HBA.out).mono ?_
    rintro x wd ⟨rfl, G2⟩
    have HLwd : Hid ((fun (w : World) => w.heap[pb]? = some (.cells #[.slice g.ca p.nc g.cc, .slice g.sa p.ns g.sc, .int .i64 (p.en 0), .int .i64 (p.en 1), .int .i64 (p.en 2), .int .i64 (p.en 3), .int .i64 (p.en 4), .int .i64 (p.en 5), .slice g.ia p.n g.ic] 27 (0, 0)) ∧ w.heap[eb]? = some (.cells #[.int .u64 e.x0, .int .u64 e.x1, .int .u64 e.x2, .int .u64 e.x3, .int .u64 e.x4, .int .u64 e.x5, .int .u64 e.x6, .bool e.x7] 30 (0, 0)) ∧ Below W.heap.size W w) wd) := ⟨(G2.out.block _ (block_lt HLwb.out.1)).trans HLwb.out.1, (G2.out.block _ (block_lt HLwb.out.2.1)).trans HLwb.out.2.1, HLwb.out.2.2.trans (G2.out.mono HLwb.out.2.2.size)⟩
    have HBwd : Hid (Below w2.heap.size w2 wd) := HBwb.out.trans (G2.out.mono HBwb.out.size)
    have HXwd := hide ((G2.out.block _ (block_lt HXwb.out)).trans HXwb.out)
    have HBO : Hid (w2.heap.size ≤ wa.heap.size) := HBwa.out.size
    clear HRN
    refine hK.out _ _ HLwd.out (fun _ => ?_)
    clear hK K
    refine wpAnyH_take (i := 6) (oi := ⟨some 29, .move (.tmp 35), 38, "outright.go:183", #[⟨5, .data⟩], none⟩) (v := .tuple #[.agg #[.int .i64 E0, .int .u64 E1, .int .u64 E2, .int .u64 E3, .int .u64 E4, .int .u64 E5], .nilIface]) rfl (by kernel_rfl) (by kernel_rfl) (by kernel_rfl) (fun _ _ _ h => h) (Or.inl ⟨by rfl, fun w' hSw => ?_⟩) HLwd.out ?_
    ·go_simp
    simp only [Act.put, lsA, lsB, lsC]
    refine wpAnyH_take (i := 7) (oi := ⟨some 36, .extract (.tmp 29) 0, 35, "outright.go:183", #[⟨6, .data⟩], none⟩) (v := .agg #[.int .i64 E0, .int .u64 E1, .int .u64 E2, .int .u64 E3, .int .u64 E4, .int .u64 E5]) rfl (by kernel_rfl) (by kernel_rfl) (by kernel_rfl) (fun _ _ _ h => h) (Or.inl ⟨by rfl, fun w' hSw => ?_⟩) HLwd.out ?_
    ·go_simp
    simp only [Act.put, lsA, lsB, lsC]
    refine wpAnyH_take (i := 8) (oi := ⟨some 37, .extract (.tmp 29) 1, 37, "outright.go:183", #[⟨6, .data⟩, ⟨10, .gcOnly .lateStores⟩], none⟩) (v := .nilIface) rfl (by kernel_rfl) (by kernel_rfl) (by kernel_rfl) (fun _ _ _ h => h) (Or.inl ⟨by rfl, fun w' hSw => ?_⟩) HLwd.out ?_
    ·go_simp
    simp only [Act.put, lsA, lsB, lsC]
    have o0 := block_cell HXwd.out 0
    have o1 := block_cell HXwd.out 1
    have o2 := block_cell HXwd.out 2
    have o3 := block_cell HXwd.out 3
    have o4 := block_cell HXwd.out 4
    have o5 := block_cell HXwd.out 5
    have p0 := block_free HXwd.out 0
    have p1 := block_free HXwd.out 1
    have p2 := block_free HXwd.out 2
    have p3 := block_free HXwd.out 3
    have p4 := block_free HXwd.out 4
    have p5 := block_free HXwd.out 5
    have ol := block_lt HXwd.out
    simp at o0 o1 o2 o3 o4 o5
    refine wpAnyH_ready (rs := [10]) (by kernel_rfl) (by simp) ?_
    refine AllReadyH.cons rfl (fun K hK => ?_) AllReadyH.nil
    go_simp
    go_wp2_with fail
    generalize hwf : World.setCell _ _ _ = wf
    have hS6 := set6 rfl HXwd.out HBwd.out (by first | exact Nat.le_refl _ | exact HBO.out) _ _ _ _ _ _ hwf
    have hne1 : pb ≠ wa.heap.size := HPE.out.1 _ (by first | exact Nat.le_refl _ | exact HBO.out)
    have hne2 : eb ≠ wa.heap.size := HPE.out.2 _ (by first | exact Nat.le_refl _ | exact HBO.out)
    have HLf : Hid ((fun (w : World) => w.heap[pb]? = some (.cells #[.slice g.ca p.nc g.cc, .slice g.sa p.ns g.sc, .int .i64 (p.en 0), .int .i64 (p.en 1), .int .i64 (p.en 2), .int .i64 (p.en 3), .int .i64 (p.en 4), .int .i64 (p.en 5), .slice g.ia p.n g.ic] 27 (0, 0)) ∧ w.heap[eb]? = some (.cells #[.int .u64 e.x0, .int .u64 e.x1, .int .u64 e.x2, .int .u64 e.x3, .int .u64 e.x4, .int .u64 e.x5, .int .u64 e.x6, .bool e.x7] 30 (0, 0)) ∧ Below W.heap.size W w) wf) := ⟨(hS6.2.2.block _ (block_lt HLwd.out.1) (by simpa using hne1)).trans HLwd.out.1, (hS6.2.2.block _ (block_lt HLwd.out.2.1) (by simpa using hne2)).trans HLwd.out.2.1, HLwd.out.2.2.grown hS6.2.2 HLwd.out.2.2.size (fun q e => by cases e; exact Nat.le_trans HLW.out.2.2.size (by first | exact Nat.le_refl _ | exact HBO.out))⟩
    have HFF : Hid (wf.heap[wa.heap.size]? = some (.cells #[.int .i64 E0, .int .u64 E1, .int .u64 E2, .int .u64 E3, .int .u64 E4, .int .u64 E5] 35 (0, 0)) ∧ Below w2.heap.size w2 wf) := ⟨hS6.1, hS6.2.1⟩
    clear hwf hS6 hne1 hne2 o0 o1 o2 o3 o4 o5 p0 p1 p2 p3 p4 p5 ol
    refine hK.out _ _ HLf.out (fun _ => ?_)
    clear hK K
    refine wpAnyH_ready (rs := [11]) (by kernel_rfl) (by simp) ?_
    refine AllReadyH.cons rfl (fun K hK => ?_) AllReadyH.nil
    go_simp
    go_wp2_with fail
    refine hK.out _ _ HLf.out (fun _ => ?_)
    clear hK K
    refine wpAnyH_done (by kernel_rfl) ?_ _
    go_wp2
    go_meet
    case rel => exact ⟨_, rfl, rfl, HFF.out⟩
  ·go_simp
   go_wp2_with fail
   obtain ⟨wa, hw⟩ : ∃ w', (w2.alloc (.cells #[.int .i64 0, .int .u64 0, .int .u64 0, .int .u64 0, .int .u64 0, .int .u64 0] 35)).drew = w' := ⟨_, rfl⟩
   have bA : Below w2.drew.heap.size w2.drew wa := by rw [← hw]; exact below_alloc1 w2.drew _
   have HXwa : Hid (wa.heap[w2.heap.size]? = some (.cells #[.int .i64 0, .int .u64 0, .int .u64 0, .int .u64 0, .int .u64 0, .int .u64 0] 35 (0, 0))) := by rw [← hw]; exact alloc_atK w2.drew _
   rw [hw]
   clear hw
   have HLwa : Hid ((fun (w : World) => w.heap[pb]? = some (.cells #[.slice g.ca p.nc g.cc, .slice g.sa p.ns g.sc, .int .i64 (p.en 0), .int .i64 (p.en 1), .int .i64 (p.en 2), .int .i64 (p.en 3), .int .i64 (p.en 4), .int .i64 (p.en 5), .slice g.ia p.n g.ic] 27 (0, 0)) ∧ w.heap[eb]? = some (.cells #[.int .u64 e.x0, .int .u64 e.x1, .int .u64 e.x2, .int .u64 e.x3, .int .u64 e.x4, .int .u64 e.x5, .int .u64 e.x6, .bool e.x7] 30 (0, 0)) ∧ Below W.heap.size W w) wa) := ⟨(bA.block _ (block_lt HL0.out.1)).trans HL0.out.1, (bA.block _ (block_lt HL0.out.2.1)).trans HL0.out.2.1, HL0.out.2.2.trans (bA.mono HL0.out.2.2.size)⟩
   have HBwa : Hid (Below w2.heap.size w2 wa) := HB0.out.trans (bA.mono HB0.out.size)
   clear bA
   refine hK.out _ _ HLwa.out (fun _ => ?_)
   clear hK K
   refine wpAnyH_ready (rs := [1]) (by kernel_rfl) (by simp) ?_
   refine AllReadyH.cons rfl (fun K hK => ?_) AllReadyH.nil
   go_simp
   go_wp2_with fail
   refine (HCP.out wa HLwa.out).mono ?_
   rintro x wb ⟨g1, rfl, G1⟩
   rw [HCS.out g1]
   have HLwb : Hid ((fun (w : World) => w.heap[pb]? = some (.cells #[.slice g.ca p.nc g.cc, .slice g.sa p.ns g.sc, .int .i64 (p.en 0), .int .i64 (p.en 1), .int .i64 (p.en 2), .int .i64 (p.en 3), .int .i64 (p.en 4), .int .i64 (p.en 5), .slice g.ia p.n g.ic] 27 (0, 0)) ∧ w.heap[eb]? = some (.cells #[.int .u64 e.x0, .int .u64 e.x1, .int .u64 e.x2, .int .u64 e.x3, .int .u64 e.x4, .int .u64 e.x5, .int .u64 e.x6, .bool e.x7] 30 (0, 0)) ∧ Below W.heap.size W w) wb) := ⟨(G1.out.1.block _ (block_lt HLwa.out.1)).trans HLwa.out.1, (G1.out.1.block _ (block_lt HLwa.out.2.1)).trans HLwa.out.2.1, HLwa.out.2.2.trans (G1.out.1.mono HLwa.out.2.2.size)⟩
   have HBwb : Hid (Below w2.heap.size w2 wb) := HBwa.out.trans (G1.out.1.mono HBwa.out.size)
   have HRN := hide G1.out.2
   have HXwb := hide ((G1.out.1.block _ (block_lt HXwa.out)).trans HXwa.out)
   rw [HCS.out g1] at HRN
   clear G1
   refine hK.out _ _ HLwb.out (fun _ => ?_)
   clear hK K
   refine wpAnyH_ready (rs := [5]) (by kernel_rfl) (by simp) ?_
   refine AllReadyH.cons rfl (fun K hK => ?_) AllReadyH.nil
   go_simp
   go_wp2_with fail
   refine (HRN.out wb (Below.refl _ _)).mono ?_
   rintro x wd ⟨rfl, G2⟩
   have HLwd : Hid ((fun (w : World) => w.heap[pb]? = some (.cells #[.slice g.ca p.nc g.cc, .slice g.sa p.ns g.sc, .int .i64 (p.en 0), .int .i64 (p.en 1), .int .i64 (p.en 2), .int .i64 (p.en 3), .int .i64 (p.en 4), .int .i64 (p.en 5), .slice g.ia p.n g.ic] 27 (0, 0)) ∧ w.heap[eb]? = some (.cells #[.int .u64 e.x0, .int .u64 e.x1, .int .u64 e.x2, .int .u64 e.x3, .int .u64 e.x4, .int .u64 e.x5, .int .u64 e.x6, .bool e.x7] 30 (0, 0)) ∧ Below W.heap.size W w) wd) := ⟨(G2.out.block _ (block_lt HLwb.out.1)).trans HLwb.out.1, (G2.out.block _ (block_lt HLwb.out.2.1)).trans HLwb.out.2.1, HLwb.out.2.2.trans (G2.out.mono HLwb.out.2.2.size)⟩
   have HBwd : Hid (Below w2.heap.size w2 wd) := HBwb.out.trans (G2.out.mono HBwb.out.size)
   have HXwd := hide ((G2.out.block _ (block_lt HXwb.out)).trans HXwb.out)
   have HBO : Hid (w2.heap.size ≤ w2.heap.size) := Nat.le_refl _
   clear HRN
   refine hK.out _ _ HLwd.out (fun _ => ?_)
   clear hK K
   refine wpAnyH_take (i := 6) (oi := ⟨some 29, .move (.tmp 35), 38, "outright.go:183", #[⟨5, .data⟩], none⟩) (v := .tuple #[.agg #[.int .i64 E0, .int .u64 E1, .int .u64 E2, .int .u64 E3, .int .u64 E4, .int .u64 E5], .nilIface]) rfl (by kernel_rfl) (by kernel_rfl) (by kernel_rfl) (fun _ _ _ h => h) (Or.inl ⟨by rfl, fun w' hSw => ?_⟩) HLwd.out ?_
   ·go_simp
   simp only [Act.put, lsA, lsB, lsC]
   refine wpAnyH_take (i := 7) (oi := ⟨some 36, .extract (.tmp 29) 0, 35, "outright.go:183", #[⟨6, .data⟩], none⟩) (v := .agg #[.int .i64 E0, .int .u64 E1, .int .u64 E2, .int .u64 E3, .int .u64 E4, .int .u64 E5]) rfl (by kernel_rfl) (by kernel_rfl) (by kernel_rfl) (fun _ _ _ h => h) (Or.inl ⟨by rfl, fun w' hSw => ?_⟩) HLwd.out ?_
   ·go_simp
   simp only [Act.put, lsA, lsB, lsC]
   refine wpAnyH_take (i := 8) (oi := ⟨some 37, .extract (.tmp 29) 1, 37, "outright.go:183", #[⟨6, .data⟩, ⟨10, .gcOnly .lateStores⟩], none⟩) (v := .nilIface) rfl (by kernel_rfl) (by kernel_rfl) (by kernel_rfl) (fun _ _ _ h => h) (Or.inl ⟨by rfl, fun w' hSw => ?_⟩) HLwd.out ?_
   ·go_simp
   simp only [Act.put, lsA, lsB, lsC]
   have o0 := block_cell HXwd.out 0
   have o1 := block_cell HXwd.out 1
   have o2 := block_cell HXwd.out 2
   have o3 := block_cell HXwd.out 3
   have o4 := block_cell HXwd.out 4
   have o5 := block_cell HXwd.out 5
   have p0 := block_free HXwd.out 0
   have p1 := block_free HXwd.out 1
   have p2 := block_free HXwd.out 2
   have p3 := block_free HXwd.out 3
   have p4 := block_free HXwd.out 4
   have p5 := block_free HXwd.out 5
   have ol := block_lt HXwd.out
   simp at o0 o1 o2 o3 o4 o5
   refine wpAnyH_ready (rs := [10]) (by kernel_rfl) (by simp) ?_
   refine AllReadyH.cons rfl (fun K hK => ?_) AllReadyH.nil
   go_simp
   go_wp2_with fail
   generalize hwf : World.setCell _ _ _ = wf
   have hS6 := set6 rfl HXwd.out HBwd.out (by first | exact Nat.le_refl _ | exact HBO.out) _ _ _ _ _ _ hwf
   have hne1 : pb ≠ w2.heap.size := HPE.out.1 _ (by first | exact Nat.le_refl _ | exact HBO.out)
   have hne2 : eb ≠ w2.heap.size := HPE.out.2 _ (by first | exact Nat.le_refl _ | exact HBO.out)
   have HLf : Hid ((fun (w : World) => w.heap[pb]? = some (.cells #[.slice g.ca p.nc g.cc, .slice g.sa p.ns g.sc, .int .i64 (p.en 0), .int .i64 (p.en 1), .int .i64 (p.en 2), .int .i64 (p.en 3), .int .i64 (p.en 4), .int .i64 (p.en 5), .slice g.ia p.n g.ic] 27 (0, 0)) ∧ w.heap[eb]? = some (.cells #[.int .u64 e.x0, .int .u64 e.x1, .int .u64 e.x2, .int .u64 e.x3, .int .u64 e.x4, .int .u64 e.x5, .int .u64 e.x6, .bool e.x7] 30 (0, 0)) ∧ Below W.heap.size W w) wf) := ⟨(hS6.2.2.block _ (block_lt HLwd.out.1) (by simpa using hne1)).trans HLwd.out.1, (hS6.2.2.block _ (block_lt HLwd.out.2.1) (by simpa using hne2)).trans HLwd.out.2.1, HLwd.out.2.2.grown hS6.2.2 HLwd.out.2.2.size (fun q e => by cases e; exact Nat.le_trans HLW.out.2.2.size (by first | exact Nat.le_refl _ | exact HBO.out))⟩
   have HFF : Hid (wf.heap[w2.heap.size]? = some (.cells #[.int .i64 E0, .int .u64 E1, .int .u64 E2, .int .u64 E3, .int .u64 E4, .int .u64 E5] 35 (0, 0)) ∧ Below w2.heap.size w2 wf) := ⟨hS6.1, hS6.2.1⟩
   clear hwf hS6 hne1 hne2 o0 o1 o2 o3 o4 o5 p0 p1 p2 p3 p4 p5 ol
   refine hK.out _ _ HLf.out (fun _ => ?_)
   clear hK K
   refine wpAnyH_ready (rs := [11]) (by kernel_rfl) (by simp) ?_
   refine AllReadyH.cons rfl (fun K hK => ?_) AllReadyH.nil
   go_simp
   go_wp2_with fail
   refine hK.out _ _ HLf.out (fun _ => ?_)
   clear hK K
   refine wpAnyH_done (by kernel_rfl) ?_ _
   go_wp2
   go_meet
   case rel => exact ⟨_, rfl, rfl, HFF.out⟩
 case rest =>
 obtain ⟨ob, rfl, rfl, GA⟩ := hcut
 clear HCP
 generalize wc = w6 at *
 have HL6 : Hid ((fun (w : World) => w.heap[pb]? = some (.cells #[.slice g.ca p.nc g.cc, .slice g.sa p.ns g.sc, .int .i64 (p.en 0), .int .i64 (p.en 1), .int .i64 (p.en 2), .int .i64 (p.en 3), .int .i64 (p.en 4), .int .i64 (p.en 5), .slice g.ia p.n g.ic] 27 (0, 0)) ∧ w.heap[eb]? = some (.cells #[.int .u64 e.x0, .int .u64 e.x1, .int .u64 e.x2, .int .u64 e.x3, .int .u64 e.x4, .int .u64 e.x5, .int .u64 e.x6, .bool e.x7] 30 (0, 0)) ∧ Below W.heap.size W w) w6) := ⟨(GA.out.2.block _ (block_lt HLW.out.1)).trans HLW.out.1, (GA.out.2.block _ (block_lt HLW.out.2.1)).trans HLW.out.2.1, HLW.out.2.2.trans (GA.out.2.mono HLW.out.2.2.size)⟩
 have HBW6 : Hid (Below W.heap.size W w6) := HBW2.out.trans (GA.out.2.mono HBW2.out.size)
 have HOB := hide GA.out.1
 clear HLW HPE GA HBW2
 have HLW : Hid ((fun (w : World) => w.heap[pb]? = some (.cells #[.slice g.ca p.nc g.cc, .slice g.sa p.ns g.sc, .int .i64 (p.en 0), .int .i64 (p.en 1), .int .i64 (p.en 2), .int .i64 (p.en 3), .int .i64 (p.en 4), .int .i64 (p.en 5), .slice g.ia p.n g.ic] 27 (0, 0)) ∧ w.heap[eb]? = some (.cells #[.int .u64 e.x0, .int .u64 e.x1, .int .u64 e.x2, .int .u64 e.x3, .int .u64 e.x4, .int .u64 e.x5, .int .u64 e.x6, .bool e.x7] 30 (0, 0)) ∧ Below W.heap.size W w) w6) := ⟨HL6.out.1, HL6.out.2.1, HL6.out.2.2⟩
 have HPE : Hid ((∀ o, w6.heap.size ≤ o → pb ≠ o) ∧ ∀ o, w6.heap.size ≤ o → eb ≠ o) := ⟨fun o h => by have := block_lt HLW.out.1; omega, fun o h => by have := block_lt HLW.out.2.1; omega⟩
 have HCP := HC2
 clear HC2 HL6
 go_upto_region 6 with fail
 go_cut [15, 16] from 38 (fun a b V => ∃ ob , a = .pointer (some ⟨ob, 0, none⟩) ∧ b = .nilIface ∧ Hid (V.heap[ob]? = some (.cells #[.int .i64 F0, .int .u64 F1, .int .u64 F2, .int .u64 F3, .int .u64 F4, .int .u64 F5] 35 (0, 0)) ∧ Below w6.heap.size w6 V))
 case first =>
  have HL0 : Hid ((fun (w : World) => w.heap[pb]? = some (.cells #[.slice g.ca p.nc g.cc, .slice g.sa p.ns g.sc, .int .i64 (p.en 0), .int .i64 (p.en 1), .int .i64 (p.en 2), .int .i64 (p.en 3), .int .i64 (p.en 4), .int .i64 (p.en 5), .slice g.ia p.n g.ic] 27 (0, 0)) ∧ w.heap[eb]? = some (.cells #[.int .u64 e.x0, .int .u64 e.x1, .int .u64 e.x2, .int .u64 e.x3, .int .u64 e.x4, .int .u64 e.x5, .int .u64 e.x6, .bool e.x7] 30 (0, 0)) ∧ Below W.heap.size W w) w6.drew) := ⟨HLW.out.1, HLW.out.2.1, HLW.out.2.2.drew⟩
  have HB0 : Hid (Below w6.heap.size w6 w6.drew) := (Below.refl _ _).drew
  refine wp_region_held_drew (S := fun (w : World) => w.heap[pb]? = some (.cells #[.slice g.ca p.nc g.cc, .slice g.sa p.ns g.sc, .int .i64 (p.en 0), .int .i64 (p.en 1), .int .i64 (p.en 2), .int .i64 (p.en 3), .int .i64 (p.en 4), .int .i64 (p.en 5), .slice g.ia p.n g.ic] 27 (0, 0)) ∧ w.heap[eb]? = some (.cells #[.int .u64 e.x0, .int .u64 e.x1, .int .u64 e.x2, .int .u64 e.x3, .int .u64 e.x4, .int .u64 e.x5, .int .u64 e.x6, .bool e.x7] 30 (0, 0)) ∧ Below W.heap.size W w) (by kernel_rfl) HL0.out (fun hH => ?_)
  refine wpAnyH_take (i := 0) (oi := ⟨some 39, .load 27 (.tmp 5), 27, "outright.go:184", #[], none⟩) (v := .agg #[.slice g.ca p.nc g.cc, .slice g.sa p.ns g.sc, .int .i64 (p.en 0), .int .i64 (p.en 1), .int .i64 (p.en 2), .int .i64 (p.en 3), .int .i64 (p.en 4), .int .i64 (p.en 5), .slice g.ia p.n g.ic]) rfl (by kernel_rfl) (by kernel_rfl) (by kernel_rfl) (fun _ _ _ h => h) (Or.inl ⟨by rfl, fun w' hSw => ?_⟩) hH ?_
  ·have k0 := block_cell hSw.1 0
   have k1 := block_cell hSw.1 1
   have k2 := block_cell hSw.1 2
   have k3 := block_cell hSw.1 3
   have k4 := block_cell hSw.1 4
   have k5 := block_cell hSw.1 5
   have k6 := block_cell hSw.1 6
   have k7 := block_cell hSw.1 7
   have k8 := block_cell hSw.1 8
   have kl := block_lt hSw.1
   simp at k0 k1 k2 k3 k4 k5 k6 k7 k8
   go_simp
  simp only [Act.put, lsA, lsB, lsC]
  refine wpAnyH_take (i := 2) (oi := ⟨some 41, .move (.tmp 1), 3, "outright.go:184", #[], none⟩) (v := .int .i64 ev) rfl (by kernel_rfl) (by kernel_rfl) (by kernel_rfl) (fun _ _ _ h => h) (Or.inl ⟨by rfl, fun w' hSw => ?_⟩) hH ?_
  ·go_simp
  simp only [Act.put, lsA, lsB, lsC]
  refine wpAnyH_take (i := 3) (oi := ⟨some 42, .load 30 (.tmp 7), 30, "outright.go:184", #[], none⟩) (v := .agg #[.int .u64 e.x0, .int .u64 e.x1, .int .u64 e.x2, .int .u64 e.x3, .int .u64 e.x4, .int .u64 e.x5, .int .u64 e.x6, .bool e.x7]) rfl (by kernel_rfl) (by kernel_rfl) (by kernel_rfl) (fun _ _ _ h => h) (Or.inl ⟨by rfl, fun w' hSw => ?_⟩) hH ?_
  ·have k0 := block_cell hSw.2.1 0
   have k1 := block_cell hSw.2.1 1
   have k2 := block_cell hSw.2.1 2
   have k3 := block_cell hSw.2.1 3
   have k4 := block_cell hSw.2.1 4
   have k5 := block_cell hSw.2.1 5
   have k6 := block_cell hSw.2.1 6
   have k7 := block_cell hSw.2.1 7
   have kl := block_lt hSw.2.1
   simp at k0 k1 k2 k3 k4 k5 k6 k7
   go_simp
  simp only [Act.put, lsA, lsB, lsC]
  refine wpAnyH_take (i := 4) (oi := ⟨some 43, .move (.tmp 12), 28, "outright.go:184", #[], none⟩) (v := .int .u64 gg) rfl (by kernel_rfl) (by kernel_rfl) (by kernel_rfl) (fun _ _ _ h => h) (Or.inl ⟨by rfl, fun w' hSw => ?_⟩) hH ?_
  ·go_simp
  simp only [Act.put, lsA, lsB, lsC]
  refine wpAnyH_ready (rs := [1, 9]) (by kernel_rfl) (by simp) ?_
  refine AllReadyH.cons rfl (fun K hK => ?_) (AllReadyH.cons rfl (fun K hK => ?_) AllReadyH.nil)
  ·go_simp
   go_wp2_with fail
   refine (HCP.out w6.drew HL0.out).mono ?_
   rintro x wa ⟨g1, rfl, G1⟩
   rw [HCS.out g1]
   have HLwa : Hid ((fun (w : World) => w.heap[pb]? = some (.cells #[.slice g.ca p.nc g.cc, .slice g.sa p.ns g.sc, .int .i64 (p.en 0), .int .i64 (p.en 1), .int .i64 (p.en 2), .int .i64 (p.en 3), .int .i64 (p.en 4), .int .i64 (p.en 5), .slice g.ia p.n g.ic] 27 (0, 0)) ∧ w.heap[eb]? = some (.cells #[.int .u64 e.x0, .int .u64 e.x1, .int .u64 e.x2, .int .u64 e.x3, .int .u64 e.x4, .int .u64 e.x5, .int .u64 e.x6, .bool e.x7] 30 (0, 0)) ∧ Below W.heap.size W w) wa) := ⟨(G1.out.1.block _ (block_lt HL0.out.1)).trans HL0.out.1, (G1.out.1.block _ (block_lt HL0.out.2.1)).trans HL0.out.2.1, HL0.out.2.2.trans (G1.out.1.mono HL0.out.2.2.size)⟩
   have HBwa : Hid (Below w6.heap.size w6 wa) := HB0.out.trans (G1.out.1.mono HB0.out.size)
   have HRN := hide G1.out.2
   rw [HCS.out g1] at HRN
   clear G1
   refine hK.out _ _ HLwa.out (fun _ => ?_)
   clear hK K
   refine wpAnyH_ready (rs := [5, 9]) (by kernel_rfl) (by simp) ?_
   refine AllReadyH.cons rfl (fun K hK => ?_) (AllReadyH.cons rfl (fun K hK => ?_) AllReadyH.nil)
   ·go_simp
    go_wp2_with fail
    refine (HRN.out wa (Below.refl _ _)).mono ?_
    rintro x wb ⟨rfl, G2⟩
    have HLwb : Hid ((fun (w : World) => w.heap[pb]? = some (.cells #[.slice g.ca p.nc g.cc, .slice g.sa p.ns g.sc, .int .i64 (p.en 0), .int .i64 (p.en 1), .int .i64 (p.en 2), .int .i64 (p.en 3), .int .i64 (p.en 4), .int .i64 (p.en 5), .slice g.ia p.n g.ic] 27 (0, 0)) ∧ w.heap[eb]? = some (.cells #[.int .u64 e.x0, .int .u64 e.x1, .int .u64 e.x2, .int .u64 e.x3, .int .u64 e.x4, .int .u64 e.x5, .int .u64 e.x6, .bool e.x7] 30 (0, 0)) ∧ Below W.heap.size W w) wb) := ⟨(G2.out.block _ (block_lt HLwa.out.1)).trans HLwa.out.1, (G2.out.block _ (block_lt HLwa.out.2.1)).trans HLwa.out.2.1, HLwa.out.2.2.trans (G2.out.mono HLwa.out.2.2.size)⟩
    have HBwb : Hid (Below w6.heap.size w6 wb) := HBwa.out.trans (G2.out.mono HBwa.out.size)
    clear HRN
    refine hK.out _ _ HLwb.out (fun _ => ?_)
    clear hK K
    refine wpAnyH_take (i := 6) (oi := ⟨some 38, .move (.tmp 44), 38, "outright.go:184", #[⟨5, .data⟩], none⟩) (v := .tuple #[.agg #[.int .i64 F0, .int .u64 F1, .int .u64 F2, .int .u64 F3, .int .u64 F4, .int .u64 F5], .nilIface]) rfl (by kernel_rfl) (by kernel_rfl) (by kernel_rfl) (fun _ _ _ h => h) (Or.inl ⟨by rfl, fun w' hSw => ?_⟩) HLwb.out ?_
    ·go_simp
    simp only [Act.put, lsA, lsB, lsC]
    refine wpAnyH_take (i := 7) (oi := ⟨some 45, .extract (.tmp 38) 0, 35, "outright.go:184", #[⟨6, .data⟩], none⟩) (v := .agg #[.int .i64 F0, .int .u64 F1, .int .u64 F2, .int .u64 F3, .int .u64 F4, .int .u64 F5]) rfl (by kernel_rfl) (by kernel_rfl) (by kernel_rfl) (fun _ _ _ h => h) (Or.inl ⟨by rfl, fun w' hSw => ?_⟩) HLwb.out ?_
    ·go_simp
    simp only [Act.put, lsA, lsB, lsC]
    refine wpAnyH_take (i := 8) (oi := ⟨some 46, .extract (.tmp 38) 1, 37, "outright.go:184", #[⟨6, .data⟩, ⟨10, .gcOnly .lateStores⟩], none⟩) (v := .nilIface) rfl (by kernel_rfl) (by kernel_rfl) (by kernel_rfl) (fun _ _ _ h => h) (Or.inl ⟨by rfl, fun w' hSw => ?_⟩) HLwb.out ?_
    ·go_simp
    simp only [Act.put, lsA, lsB, lsC]
    refine wpAnyH_ready (rs := [9]) (by kernel_rfl) (by simp) ?_
    refine AllReadyH.cons rfl (fun K hK => ?_) AllReadyH.nil
    go_simp
    go_wp2_with fail
    obtain ⟨wd, hw⟩ : ∃ w', wb.alloc (.cells #[.int .i64 0, .int .u64 0, .int .u64 0, .int .u64 0, .int .u64 0, .int .u64 0] 35) = w' := ⟨_, rfl⟩
    have bA : Below wb.heap.size wb wd := by rw [← hw]; exact below_alloc1 _ _
    have HXwd : Hid (wd.heap[wb.heap.size]? = some (.cells #[.int .i64 0, .int .u64 0, .int .u64 0, .int .u64 0, .int .u64 0, .int .u64 0] 35 (0, 0))) := by rw [← hw]; exact alloc_atK _ _
    rw [hw]
    clear hw
    have HLwd : Hid ((fun (w : World) => w.heap[pb]? = some (.cells #[.slice g.ca p.nc g.cc, .slice g.sa p.ns g.sc, .int .i64 (p.en 0), .int .i64 (p.en 1), .int .i64 (p.en 2), .int .i64 (p.en 3), .int .i64 (p.en 4), .int .i64 (p.en 5), .slice g.ia p.n g.ic] 27 (0, 0)) ∧ w.heap[eb]? = some (.cells #[.int .u64 e.x0, .int .u64 e.x1, .int .u64 e.x2, .int .u64 e.x3, .int .u64 e.x4, .int .u64 e.x5, .int .u64 e.x6, .bool e.x7] 30 (0, 0)) ∧ Below W.heap.size W w) wd) := ⟨(bA.block _ (block_lt HLwb.out.1)).trans HLwb.out.1, (bA.block _ (block_lt HLwb.out.2.1)).trans HLwb.out.2.1, HLwb.out.2.2.trans (bA.mono HLwb.out.2.2.size)⟩
    have HBwd : Hid (Below w6.heap.size w6 wd) := HBwb.out.trans (bA.mono HBwb.out.size)
    clear bA
    have HBO : Hid (w6.heap.size ≤ wb.heap.size) := HBwb.out.size
    refine hK.out _ _ HLwd.out (fun _ => ?_)
    clear hK K
    have o0 := block_cell HXwd.out 0
    have o1 := block_cell HXwd.out 1
    have o2 := block_cell HXwd.out 2
    have o3 := block_cell HXwd.out 3
    have o4 := block_cell HXwd.out 4
    have o5 := block_cell HXwd.out 5
    have p0 := block_free HXwd.out 0
    have p1 := block_free HXwd.out 1
    have p2 := block_free HXwd.out 2
    have p3 := block_free HXwd.out 3
    have p4 := block_free HXwd.out 4
    have p5 := block_free HXwd.out 5
    have ol := block_lt HXwd.out
    simp at o0 o1 o2 o3 o4 o5
    refine wpAnyH_ready (rs := [10]) (by kernel_rfl) (by simp) ?_
    refine AllReadyH.cons rfl (fun K hK => ?_) AllReadyH.nil
    go_simp
    go_wp2_with fail
    generalize hwf : World.setCell _ _ _ = wf
    have hS6 := set6 rfl HXwd.out HBwd.out (by first | exact Nat.le_refl _ | exact HBO.out) _ _ _ _ _ _ hwf
    have hne1 : pb ≠ wb.heap.size := HPE.out.1 _ (by first | exact Nat.le_refl _ | exact HBO.out)
    have hne2 : eb ≠ wb.heap.size := HPE.out.2 _ (by first | exact Nat.le_refl _ | exact HBO.out)
    have HLf : Hid ((fun (w : World) => w.heap[pb]? = some (.cells #[.slice g.ca p.nc g.cc, .slice g.sa p.ns g.sc, .int .i64 (p.en 0), .int .i64 (p.en 1), .int .i64 (p.en 2), .int .i64 (p.en 3), .int .i64 (p.en 4), .int .i64 (p.en 5), .slice g.ia p.n g.ic] 27 (0, 0)) ∧ w.heap[eb]? = some (.cells #[.int .u64 e.x0, .int .u64 e.x1, .int .u64 e.x2, .int .u64 e.x3, .int .u64 e.x4, .int .u64 e.x5, .int .u64 e.x6, .bool e.x7] 30 (0, 0)) ∧ Below W.heap.size W w) wf) := ⟨(hS6.2.2.block _ (block_lt HLwd.out.1) (by simpa using hne1)).trans HLwd.out.1, (hS6.2.2.block _ (block_lt HLwd.out.2.1) (by simpa using hne2)).trans HLwd.out.2.1, HLwd.out.2.2.grown hS6.2.2 HLwd.out.2.2.size (fun q e => by cases e; exact Nat.le_trans HLW.out.2.2.size (by first | exact Nat.le_refl _ | exact HBO.out))⟩
    have HFF : Hid (wf.heap[wb.heap.size]? = some (.cells #[.int .i64 F0, .int .u64 F1, .int .u64 F2, .int .u64 F3, .int .u64 F4, .int .u64 F5] 35 (0, 0)) ∧ Below w6.heap.size w6 wf) := ⟨hS6.1, hS6.2.1⟩
    clear hwf hS6 hne1 hne2 o0 o1 o2 o3 o4 o5 p0 p1 p2 p3 p4 p5 ol
    refine hK.out _ _ HLf.out (fun _ => ?_)
    clear hK K
    refine wpAnyH_ready (rs := [11]) (by kernel_rfl) (by simp) ?_
    refine AllReadyH.cons rfl (fun K hK => ?_) AllReadyH.nil
    go_simp
    go_wp2_with fail
    refine hK.out _ _ HLf.out (fun _ => ?_)
    clear hK K
    refine wpAnyH_done (by kernel_rfl) ?_ _
    go_wp2
    go_meet
    case rel => exact ⟨_, rfl, rfl, HFF.out⟩
   ·go_simp
    go_wp2_with fail
    obtain ⟨wb, hw⟩ : ∃ w', wa.alloc (.cells #[.int .i64 0, .int .u64 0, .int .u64 0, .int .u64 0, .int .u64 0, .int .u64 0] 35) = w' := ⟨_, rfl⟩
    have bA : Below wa.heap.size wa wb := by rw [← hw]; exact below_alloc1 _ _
    have HXwb : Hid (wb.heap[wa.heap.size]? = some (.cells #[.int .i64 0, .int .u64 0, .int .u64 0, .int .u64 0, .int .u64 0, .int .u64 0] 35 (0, 0))) := by rw [← hw]; exact alloc_atK _ _
    rw [hw]
    clear hw
    have HLwb : Hid ((fun (w : World) => w.heap[pb]? = some (.cells #[.slice g.ca p.nc g.cc, .slice g.sa p.ns g.sc, .int .i64 (p.en 0), .int .i64 (p.en 1), .int .i64 (p.en 2), .int .i64 (p.en 3), .int .i64 (p.en 4), .int .i64 (p.en 5), .slice g.ia p.n g.ic] 27 (0, 0)) ∧ w.heap[eb]? = some (.cells #[.int .u64 e.x0, .int .u64 e.x1, .int .u64 e.x2, .int .u64 e.x3, .int .u64 e.x4, .int .u64 e.x5, .int .u64 e.x6, .bool e.x7] 30 (0, 0)) ∧ Below W.heap.size W w) wb) := ⟨(bA.block _ (block_lt HLwa.out.1)).trans HLwa.out.1, (bA.block _ (block_lt HLwa.out.2.1)).trans HLwa.out.2.1, HLwa.out.2.2.trans (bA.mono HLwa.out.2.2.size)⟩
    have HBwb : Hid (Below w6.heap.size w6 wb) := HBwa.out.trans (bA.mono HBwa.out.size)
    have HBA := hide bA
    clear bA
    refine hK.out _ _ HLwb.out (fun _ => ?_)
    clear hK K
    refine wpAnyH_ready (rs := [5]) (by kernel_rfl) (by simp) ?_
    refine AllReadyH.cons rfl (fun K hK => ?_) AllReadyH.nil
    go_simp
    go_wp2_with fail
    refine (HRN.out wb HBA.out).mono ?_
    rintro x wd ⟨rfl, G2⟩
    have HLwd : Hid ((fun (w : World) => w.heap[pb]? = some (.cells #[.slice g.ca p.nc g.cc, .slice g.sa p.ns g.sc, .int .i64 (p.en 0), .int .i64 (p.en 1), .int .i64 (p.en 2), .int .i64 (p.en 3), .int .i64 (p.en 4), .int .i64 (p.en 5), .slice g.ia p.n g.ic] 27 (0, 0)) ∧ w.heap[eb]? = some (.cells #[.int .u64 e.x0, .int .u64 e.x1, .int .u64 e.x2, .int .u64 e.x3, .int .u64 e.x4, .int .u64 e.x5, .int .u64 e.x6, .bool e.x7] 30 (0, 0)) ∧ Below W.heap.size W w) wd) := ⟨(G2.out.block _ (block_lt HLwb.out.1)).trans HLwb.out.1, (G2.out.block _ (block_lt HLwb.out.2.1)).trans HLwb.out.2.1, HLwb.out.2.2.trans (G2.out.mono HLwb.out.2.2.size)⟩
    have HBwd : Hid (Below w6.heap.size w6 wd) := HBwb.out.trans (G2.out.mono HBwb.out.size)
    have HXwd := hide ((G2.out.block _ (block_lt HXwb.out)).trans HXwb.out)
    have HBO : Hid (w6.heap.size ≤ wa.heap.size) := HBwa.out.size
    clear HRN
    refine hK.out _ _ HLwd.out (fun _ => ?_)
    clear hK K
    refine wpAnyH_take (i := 6) (oi := ⟨some 38, .move (.tmp 44), 38, "outright.go:184", #[⟨5, .data⟩], none⟩) (v := .tuple #[.agg #[.int .i64 F0, .int .u64 F1, .int .u64 F2, .int .u64 F3, .int .u64 F4, .int .u64 F5], .nilIface]) rfl (by kernel_rfl) (by kernel_rfl) (by kernel_rfl) (fun _ _ _ h => h) (Or.inl ⟨by rfl, fun w' hSw => ?_⟩) HLwd.out ?_
    ·go_simp
    simp only [Act.put, lsA, lsB, lsC]
    refine wpAnyH_take (i := 7) (oi := ⟨some 45, .extract (.tmp 38) 0, 35, "outright.go:184", #[⟨6, .data⟩], none⟩) (v := .agg #[.int .i64 F0, .int .u64 F1, .int .u64 F2, .int .u64 F3, .int .u64 F4, .int .u64 F5]) rfl (by kernel_rfl) (by kernel_rfl) (by kernel_rfl) (fun _ _ _ h => h) (Or.inl ⟨by rfl, fun w' hSw => ?_⟩) HLwd.out ?_
    ·go_simp
    simp only [Act.put, lsA, lsB, lsC]
    refine wpAnyH_take (i := 8) (oi := ⟨some 46, .extract (.tmp 38) 1, 37, "outright.go:184", #[⟨6, .data⟩, ⟨10, .gcOnly .lateStores⟩], none⟩) (v := .nilIface) rfl (by kernel_rfl) (by kernel_rfl) (by kernel_rfl) (fun _ _ _ h => h) (Or.inl ⟨by rfl, fun w' hSw => ?_⟩) HLwd.out ?_
    ·go_simp
    simp only [Act.put, lsA, lsB, lsC]
    have o0 := block_cell HXwd.out 0
    have o1 := block_cell HXwd.out 1
    have o2 := block_cell HXwd.out 2
    have o3 := block_cell HXwd.out 3
    have o4 := block_cell HXwd.out 4
    have o5 := block_cell HXwd.out 5
    have p0 := block_free HXwd.out 0
    have p1 := block_free HXwd.out 1
    have p2 := block_free HXwd.out 2
    have p3 := block_free HXwd.out 3
    have p4 := block_free HXwd.out 4
    have p5 := block_free HXwd.out 5
    have ol := block_lt HXwd.out
    simp at o0 o1 o2 o3 o4 o5
    refine wpAnyH_ready (rs := [10]) (by kernel_rfl) (by simp) ?_
    refine AllReadyH.cons rfl (fun K hK => ?_) AllReadyH.nil
    go_simp
    go_wp2_with fail
    generalize hwf : World.setCell _ _ _ = wf
    have hS6 := set6 rfl HXwd.out HBwd.out (by first | exact Nat.le_refl _ | exact HBO.out) _ _ _ _ _ _ hwf
    have hne1 : pb ≠ wa.heap.size := HPE.out.1 _ (by first | exact Nat.le_refl _ | exact HBO.out)
    have hne2 : eb ≠ wa.heap.size := HPE.out.2 _ (by first | exact Nat.le_refl _ | exact HBO.out)
    have HLf : Hid ((fun (w : World) => w.heap[pb]? = some (.cells #[.slice g.ca p.nc g.cc, .slice g.sa p.ns g.sc, .int .i64 (p.en 0), .int .i64 (p.en 1), .int .i64 (p.en 2), .int .i64 (p.en 3), .int .i64 (p.en 4), .int .i64 (p.en 5), .slice g.ia p.n g.ic] 27 (0, 0)) ∧ w.heap[eb]? = some (.cells #[.int .u64 e.x0, .int .u64 e.x1, .int .u64 e.x2, .int .u64 e.x3, .int .u64 e.x4, .int .u64 e.x5, .int .u64 e.x6, .bool e.x7] 30 (0, 0)) ∧ Below W.heap.size W w) wf) := ⟨(hS6.2.2.block _ (block_lt HLwd.out.1) (by simpa using hne1)).trans HLwd.out.1, (hS6.2.2.block _ (block_lt HLwd.out.2.1) (by simpa using hne2)).trans HLwd.out.2.1, HLwd.out.2.2.grown hS6.2.2 HLwd.out.2.2.size (fun q e => by cases e; exact Nat.le_trans HLW.out.2.2.size (by first | exact Nat.le_refl _ | exact HBO.out))⟩
    have HFF : Hid (wf.heap[wa.heap.size]? = some (.cells #[.int .i64 F0, .int .u64 F1, .int .u64 F2, .int .u64 F3, .int .u64 F4, .int .u64 F5] 35 (0, 0)) ∧ Below w6.heap.size w6 wf) := ⟨hS6.1, hS6.2.1⟩
    clear hwf hS6 hne1 hne2 o0 o1 o2 o3 o4 o5 p0 p1 p2 p3 p4 p5 ol
    refine hK.out _ _ HLf.out (fun _ => ?_)
    clear hK K
    refine wpAnyH_ready (rs := [11]) (by kernel_rfl) (by simp) ?_
    refine AllReadyH.cons rfl (fun K hK => ?_) AllReadyH.nil
    go_simp
    go_wp2_with fail
    refine hK.out _ _ HLf.out (fun _ => ?_)
    clear hK K
    refine wpAnyH_done (by kernel_rfl) ?_ _
    go_wp2
    go_meet
    case rel => exact ⟨_, rfl, rfl, HFF.out⟩
  ·go_simp
   go_wp2_with fail
   obtain ⟨wa, hw⟩ : ∃ w', (w6.alloc (.cells #[.int .i64 0, .int .u64 0, .int .u64 0, .int .u64 0, .int .u64 0, .int .u64 0] 35)).drew = w' := ⟨_, rfl⟩
   have bA : Below w6.drew.heap.size w6.drew wa := by rw [← hw]; exact below_alloc1 w6.drew _
   have HXwa : Hid (wa.heap[w6.heap.size]? = some (.cells #[.int .i64 0, .int .u64 0, .int .u64 0, .int .u64 0, .int .u64 0, .int .u64 0] 35 (0, 0))) := by rw [← hw]; exact alloc_atK w6.drew _
   rw [hw]
   clear hw
   have HLwa : Hid ((fun (w : World) => w.heap[pb]? = some (.cells #[.slice g.ca p.nc g.cc, .slice g.sa p.ns g.sc, .int .i64 (p.en 0), .int .i64 (p.en 1), .int .i64 (p.en 2), .int .i64 (p.en 3), .int .i64 (p.en 4), .int .i64 (p.en 5), .slice g.ia p.n g.ic] 27 (0, 0)) ∧ w.heap[eb]? = some (.cells #[.int .u64 e.x0, .int .u64 e.x1, .int .u64 e.x2, .int .u64 e.x3, .int .u64 e.x4, .int .u64 e.x5, .int .u64 e.x6, .bool e.x7] 30 (0, 0)) ∧ Below W.heap.size W w) wa) := ⟨(bA.block _ (block_lt HL0.out.1)).trans HL0.out.1, (bA.block _ (block_lt HL0.out.2.1)).trans HL0.out.2.1, HL0.out.2.2.trans (bA.mono HL0.out.2.2.size)⟩
   have HBwa : Hid (Below w6.heap.size w6 wa) := HB0.out.trans (bA.mono HB0.out.size)
   clear bA
   refine hK.out _ _ HLwa.out (fun _ => ?_)
   clear hK K
   refine wpAnyH_ready (rs := [1]) (by kernel_rfl) (by simp) ?_
   refine AllReadyH.cons rfl (fun K hK => ?_) AllReadyH.nil
   go_simp
   go_wp2_with fail
   refine (HCP.out wa HLwa.out).mono ?_
   rintro x wb ⟨g1, rfl, G1⟩
   rw [HCS.out g1]
   have HLwb : Hid ((fun (w : World) => w.heap[pb]? = some (.cells #[.slice g.ca p.nc g.cc, .slice g.sa p.ns g.sc, .int .i64 (p.en 0), .int .i64 (p.en 1), .int .i64 (p.en 2), .int .i64 (p.en 3), .int .i64 (p.en 4), .int .i64 (p.en 5), .slice g.ia p.n g.ic] 27 (0, 0)) ∧ w.heap[eb]? = some (.cells #[.int .u64 e.x0, .int .u64 e.x1, .int .u64 e.x2, .int .u64 e.x3, .int .u64 e.x4, .int .u64 e.x5, .int .u64 e.x6, .bool e.x7] 30 (0, 0)) ∧ Below W.heap.size W w) wb) := ⟨(G1.out.1.block _ (block_lt HLwa.out.1)).trans HLwa.out.1, (G1.out.1.block _ (block_lt HLwa.out.2.1)).trans HLwa.out.2.1, HLwa.out.2.2.trans (G1.out.1.mono HLwa.out.2.2.size)⟩
   have HBwb : Hid (Below w6.heap.size w6 wb) := HBwa.out.trans (G1.out.1.mono HBwa.out.size)
   have HRN := hide G1.out.2
   have HXwb := hide ((G1.out.1.block _ (block_lt HXwa.out)).trans HXwa.out)
   rw [HCS.out g1] at HRN
   clear G1
   refine hK.out _ _ HLwb.out (fun _ => ?_)
   clear hK K
   refine wpAnyH_ready (rs := [5]) (by kernel_rfl) (by simp) ?_
   refine AllReadyH.cons rfl (fun K hK => ?_) AllReadyH.nil
   go_simp
   go_wp2_with fail
   refine (HRN.out wb (Below.refl _ _)).mono ?_
   rintro x wd ⟨rfl, G2⟩
   have HLwd : Hid ((fun (w : World) => w.heap[pb]? = some (.cells #[.slice g.ca p.nc g.cc, .slice g.sa p.ns g.sc, .int .i64 (p.en 0), .int .i64 (p.en 1), .int .i64 (p.en 2), .int .i64 (p.en 3), .int .i64 (p.en 4), .int .i64 (p.en 5), .slice g.ia p.n g.ic] 27 (0, 0)) ∧ w.heap[eb]? = some (.cells #[.int .u64 e.x0, .int .u64 e.x1, .int .u64 e.x2, .int .u64 e.x3, .int .u64 e.x4, .int .u64 e.x5, .int .u64 e.x6, .bool e.x7] 30 (0, 0)) ∧ Below W.heap.size W w) wd) := ⟨(G2.out.block _ (block_lt HLwb.out.1)).trans HLwb.out.1, (G2.out.block _ (block_lt HLwb.out.2.1)).trans HLwb.out.2.1, HLwb.out.2.2.trans (G2.out.mono HLwb.out.2.2.size)⟩
   have HBwd : Hid (Below w6.heap.size w6 wd) := HBwb.out.trans (G2.out.mono HBwb.out.size)
   have HXwd := hide ((G2.out.block _ (block_lt HXwb.out)).trans HXwb.out)
   have HBO : Hid (w6.heap.size ≤ w6.heap.size) := Nat.le_refl _
   clear HRN
   refine hK.out _ _ HLwd.out (fun _ => ?_)
   clear hK K
   refine wpAnyH_take (i := 6) (oi := ⟨some 38, .move (.tmp 44), 38, "outright.go:184", #[⟨5, .data⟩], none⟩) (v := .tuple #[.agg #[.int .i64 F0, .int .u64 F1, .int .u64 F2, .int .u64 F3, .int .u64 F4, .int .u64 F5], .nilIface]) rfl (by kernel_rfl) (by kernel_rfl) (by kernel_rfl) (fun _ _ _ h => h) (Or.inl ⟨by rfl, fun w' hSw => ?_⟩) HLwd.out ?_
   ·go_simp
   simp only [Act.put, lsA, lsB, lsC]
   refine wpAnyH_take (i := 7) (oi := ⟨some 45, .extract (.tmp 38) 0, 35, "outright.go:184", #[⟨6, .data⟩], none⟩) (v := .agg #[.int .i64 F0, .int .u64 F1, .int .u64 F2, .int .u64 F3, .int .u64 F4, .int .u64 F5]) rfl (by kernel_rfl) (by kernel_rfl) (by kernel_rfl) (fun _ _ _ h => h) (Or.inl ⟨by rfl, fun w' hSw => ?_⟩) HLwd.out ?_
   ·go_simp
   simp only [Act.put, lsA, lsB, lsC]
   refine wpAnyH_take (i := 8) (oi := ⟨some 46, .extract (.tmp 38) 1, 37, "outright.go:184", #[⟨6, .data⟩, ⟨10, .gcOnly .lateStores⟩], none⟩) (v := .nilIface) rfl (by kernel_rfl) (by kernel_rfl) (by kernel_rfl) (fun _ _ _ h => h) (Or.inl ⟨by rfl, fun w' hSw => ?_⟩) HLwd.out ?_
   ·go_simp
   simp only [Act.put, lsA, lsB, lsC]
   have o0 := block_cell HXwd.out 0
   have o1 := block_cell HXwd.out 1
   have o2 := block_cell HXwd.out 2
   have o3 := block_cell HXwd.out 3
   have o4 := block_cell HXwd.out 4
   have o5 := block_cell HXwd.out 5
   have p0 := block_free HXwd.out 0
   have p1 := block_free HXwd.out 1
   have p2 := block_free HXwd.out 2
   have p3 := block_free HXwd.out 3
   have p4 := block_free HXwd.out 4
   have p5 := block_free HXwd.out 5
   have ol := block_lt HXwd.out
   simp at o0 o1 o2 o3 o4 o5
   refine wpAnyH_ready (rs := [10]) (by kernel_rfl) (by simp) ?_
   refine AllReadyH.cons rfl (fun K hK => ?_) AllReadyH.nil
   go_simp
   go_wp2_with fail
   generalize hwf : World.setCell _ _ _ = wf
   have hS6 := set6 rfl HXwd.out HBwd.out (by first | exact Nat.le_refl _ | exact HBO.out) _ _ _ _ _ _ hwf
   have hne1 : pb ≠ w6.heap.size := HPE.out.1 _ (by first | exact Nat.le_refl _ | exact HBO.out)
   have hne2 : eb ≠ w6.heap.size := HPE.out.2 _ (by first | exact Nat.le_refl _ | exact HBO.out)
   have HLf : Hid ((fun (w : World) => w.heap[pb]? = some (.cells #[.slice g.ca p.nc g.cc, .slice g.sa p.ns g.sc, .int .i64 (p.en 0), .int .i64 (p.en 1), .int .i64 (p.en 2), .int .i64 (p.en 3), .int .i64 (p.en 4), .int .i64 (p.en 5), .slice g.ia p.n g.ic] 27 (0, 0)) ∧ w.heap[eb]? = some (.cells #[.int .u64 e.x0, .int .u64 e.x1, .int .u64 e.x2, .int .u64 e.x3, .int .u64 e.x4, .int .u64 e.x5, .int .u64 e.x6, .bool e.x7] 30 (0, 0)) ∧ Below W.heap.size W w) wf) := ⟨(hS6.2.2.block _ (block_lt HLwd.out.1) (by simpa using hne1)).trans HLwd.out.1, (hS6.2.2.block _ (block_lt HLwd.out.2.1) (by simpa using hne2)).trans HLwd.out.2.1, HLwd.out.2.2.grown hS6.2.2 HLwd.out.2.2.size (fun q e => by cases e; exact Nat.le_trans HLW.out.2.2.size (by first | exact Nat.le_refl _ | exact HBO.out))⟩
   have HFF : Hid (wf.heap[w6.heap.size]? = some (.cells #[.int .i64 F0, .int .u64 F1, .int .u64 F2, .int .u64 F3, .int .u64 F4, .int .u64 F5] 35 (0, 0)) ∧ Below w6.heap.size w6 wf) := ⟨hS6.1, hS6.2.1⟩
   clear hwf hS6 hne1 hne2 o0 o1 o2 o3 o4 o5 p0 p1 p2 p3 p4 p5 ol
   refine hK.out _ _ HLf.out (fun _ => ?_)
   clear hK K
   refine wpAnyH_ready (rs := [11]) (by kernel_rfl) (by simp) ?_
   refine AllReadyH.cons rfl (fun K hK => ?_) AllReadyH.nil
   go_simp
   go_wp2_with fail
   refine hK.out _ _ HLf.out (fun _ => ?_)
   clear hK K
   refine wpAnyH_done (by kernel_rfl) ?_ _
   go_wp2
   go_meet
   case rel => exact ⟨_, rfl, rfl, HFF.out⟩
 case rest =>
 obtain ⟨oc, rfl, rfl, GB⟩ := hcut
 clear HCP
 have HX := hide ((GB.out.2.block _ (block_lt HOB.out)).trans HOB.out)
 have HY := hide GB.out.1
 have HBW : Hid (Below W.heap.size W wc) := HBW6.out.trans (GB.out.2.mono HBW6.out.size)
 clear HLW HPE GB HOB HBW6
 have x0 := block_cell HX.out 0
 have x1 := block_cell HX.out 1
 have x2 := block_cell HX.out 2
 have x3 := block_cell HX.out 3
 have x4 := block_cell HX.out 4
 have x5 := block_cell HX.out 5
 have xl := block_lt HX.out
 have y0 := block_cell HY.out 0
 have y1 := block_cell HY.out 1
 have y2 := block_cell HY.out 2
 have y3 := block_cell HY.out 3
 have y4 := block_cell HY.out 4
 have y5 := block_cell HY.out 5
 have yl := block_lt HY.out
 simp at x0 x1 x2 x3 x4 x5 y0 y1 y2 y3 y4 y5
 have HBQ := HBW
 clear HX HY HBW
 rcases hres with ⟨hE, hL⟩ | ⟨hE, hF0, hF1, hF2, hF3, hF4, hL⟩
 ·have hEb : (E0 == 2) = true := by simpa using hE
  have hLb : (E5 == 0) = true := by simpa using hL
  clear hE hL
  go_wp2
  go_ret
  exact ⟨rfl, HBQ.out⟩
 ·have hEb : (E0 == 2) = false := by simpa using hE
  clear hE
  subst hF0 hF1 hF2 hF3 hF4
  have hLb : (F5 == F5) = true := by simp
  have HEQ := eqPaidF F2 F3 F4 wc
  go_wp2
  go_ret
  exact ⟨rfl, HBQ.out⟩
end Go.Proofs.YtpdjnbpjgpdnkaaGreatDoor
namespace Go.Proofs.YtpdjnbpjgpdnkaaGreatDoor
open Go.RowKit

set_option maxRecDepth 10000 in
set_option maxHeartbeats 12800000 in
theorem fuelR {W : World} {g : Pg} {p : Pv} {ev : Int} {e : En} {fuel more f gg : Int} {gz gr : Int} (hlv : ∀ w, Below W.heap.size W w → Calls Tryz.prog 5 #[.int .i64 ev, .int .u64 fuel] w fun e w' => e = .returned (.bool true) ∧ Hid (Below w.heap.size w w'))
  (hf : Int.tmod fuel 1001 = f) (hg1 : IntKind.u64.wrap (1001 - f) = gz) (hg2 : Int.tmod more gz = gr) (hg3 : IntKind.u64.wrap (f + gr) = gg) (hgz : ¬ gz = 0)
  (h1 : ∀ pb eb, W.heap.size ≤ pb → W.heap.size ≤ eb → Hid (∀ w, (fun (w : World) => w.heap[pb]? = some (.cells #[.slice g.ca p.nc g.cc, .slice g.sa p.ns g.sc, .int .i64 (p.en 0), .int .i64 (p.en 1), .int .i64 (p.en 2), .int .i64 (p.en 3), .int .i64 (p.en 4), .int .i64 (p.en 5), .slice g.ia p.n g.ic] 27 (0, 0)) ∧ w.heap[eb]? = some (.cells #[.int .u64 e.x0, .int .u64 e.x1, .int .u64 e.x2, .int .u64 e.x3, .int .u64 e.x4, .int .u64 e.x5, .int .u64 e.x6, .bool e.x7] 30 (0, 0)) ∧ Below W.heap.size W w) w → Calls Tryz.prog 7 #[.agg #[.slice g.ca p.nc g.cc, .slice g.sa p.ns g.sc, .int .i64 (p.en 0), .int .i64 (p.en 1), .int .i64 (p.en 2), .int .i64 (p.en 3), .int .i64 (p.en 4), .int .i64 (p.en 5), .slice g.ia p.n g.ic]] w fun x w1 => ∃ g1 : Pg, x = .returned (.agg (g1.cs p).toArray) ∧ Hid (Below w.heap.size w w1 ∧ ∀ w2, Below w1.heap.size w1 w2 → Calls Tryz.prog 6 #[.agg (g1.cs p).toArray, .int .i64 ev, .agg #[.int .u64 e.x0, .int .u64 e.x1, .int .u64 e.x2, .int .u64 e.x3, .int .u64 e.x4, .int .u64 e.x5, .int .u64 e.x6, .bool e.x7], .int .u64 f] w2 fun x w3 => ∃ gf, x = .returned (.tuple #[.agg #[.int .i64 0, .int .u64 0, .int .u64 0, .int .u64 0, .int .u64 0, .int .u64 0], .iface 68 (.pointer (some ⟨gf, 0, none⟩))]) ∧ Hid (Below w2.heap.size w2 w3)))) (h2 : ∀ pb eb, W.heap.size ≤ pb → W.heap.size ≤ eb → Hid (∀ w, (fun (w : World) => w.heap[pb]? = some (.cells #[.slice g.ca p.nc g.cc, .slice g.sa p.ns g.sc, .int .i64 (p.en 0), .int .i64 (p.en 1), .int .i64 (p.en 2), .int .i64 (p.en 3), .int .i64 (p.en 4), .int .i64 (p.en 5), .slice g.ia p.n g.ic] 27 (0, 0)) ∧ w.heap[eb]? = some (.cells #[.int .u64 e.x0, .int .u64 e.x1, .int .u64 e.x2, .int .u64 e.x3, .int .u64 e.x4, .int .u64 e.x5, .int .u64 e.x6, .bool e.x7] 30 (0, 0)) ∧ Below W.heap.size W w) w → Calls Tryz.prog 7 #[.agg #[.slice g.ca p.nc g.cc, .slice g.sa p.ns g.sc, .int .i64 (p.en 0), .int .i64 (p.en 1), .int .i64 (p.en 2), .int .i64 (p.en 3), .int .i64 (p.en 4), .int .i64 (p.en 5), .slice g.ia p.n g.ic]] w fun x w1 => ∃ g1 : Pg, x = .returned (.agg (g1.cs p).toArray) ∧ Hid (Below w.heap.size w w1 ∧ ∀ w2, Below w1.heap.size w1 w2 → Calls Tryz.prog 6 #[.agg (g1.cs p).toArray, .int .i64 ev, .agg #[.int .u64 e.x0, .int .u64 e.x1, .int .u64 e.x2, .int .u64 e.x3, .int .u64 e.x4, .int .u64 e.x5, .int .u64 e.x6, .bool e.x7], .int .u64 gg] w2 fun x w3 => ∃ gf, x = .returned (.tuple #[.agg #[.int .i64 0, .int .u64 0, .int .u64 0, .int .u64 0, .int .u64 0, .int .u64 0], .iface 68 (.pointer (some ⟨gf, 0, none⟩))]) ∧ Hid (Below w2.heap.size w2 w3))))
  (h3 : ∀ pb eb, W.heap.size ≤ pb → W.heap.size ≤ eb → ∀ w, (fun (w : World) => w.heap[pb]? = some (.cells #[.slice g.ca p.nc g.cc, .slice g.sa p.ns g.sc, .int .i64 (p.en 0), .int .i64 (p.en 1), .int .i64 (p.en 2), .int .i64 (p.en 3), .int .i64 (p.en 4), .int .i64 (p.en 5), .slice g.ia p.n g.ic] 27 (0, 0)) ∧ w.heap[eb]? = some (.cells #[.int .u64 e.x0, .int .u64 e.x1, .int .u64 e.x2, .int .u64 e.x3, .int .u64 e.x4, .int .u64 e.x5, .int .u64 e.x6, .bool e.x7] 30 (0, 0)) ∧ Below W.heap.size W w) w → Calls Tryz.prog 7 #[.agg #[.slice g.ca p.nc g.cc, .slice g.sa p.ns g.sc, .int .i64 (p.en 0), .int .i64 (p.en 1), .int .i64 (p.en 2), .int .i64 (p.en 3), .int .i64 (p.en 4), .int .i64 (p.en 5), .slice g.ia p.n g.ic]] w fun x w1 => ∃ g1 : Pg, x = .returned (.agg (g1.cs p).toArray) ∧ Hid (Below w.heap.size w w1 ∧ Calls Tryz.prog 8 #[.agg (g1.cs p).toArray] w1 fun x w2 => (∃ gv, x = .returned (.iface 68 (.pointer (some ⟨gv, 0, none⟩))) ∧ Hid (Below w1.heap.size w1 w2)) ∨ (x = .returned .nilIface ∧ (ev < 0 ∨ 5 < ev) ∧ Hid (Below w1.heap.size w1 w2)))) :
  Calls Tryz.prog 3 #[.agg (g.cs p).toArray, .int .i64 ev, .agg e.cs.toArray, .int .u64 fuel, .int .u64 more] W fun x w' => x = .returned (.bool true) ∧ Below W.heap.size W w' := by
 obtain ⟨W1, hW1⟩ : ∃ W1, (W.alloc (.cells (g.cs p).toArray 27)).alloc (.cells e.cs.toArray 30) = W1 := ⟨_, rfl⟩
 obtain ⟨A1, A2, B1⟩ := two_box2L W _ _ _ _ hW1
 have HLV := hide (hlv W1 B1)
 have HCS : Hid (∀ (g : Pg), (g.cs p).toArray = #[.slice g.ca p.nc g.cc, .slice g.sa p.ns g.sc, .int .i64 (p.en 0), .int .i64 (p.en 1), .int .i64 (p.en 2), .int .i64 (p.en 3), .int .i64 (p.en 4), .int .i64 (p.en 5), .slice g.ia p.n g.ic]) := fun _ => rfl
 have HEC : Hid (e.cs.toArray = #[.int .u64 e.x0, .int .u64 e.x1, .int .u64 e.x2, .int .u64 e.x3, .int .u64 e.x4, .int .u64 e.x5, .int .u64 e.x6, .bool e.x7]) := rfl
 obtain ⟨pb, hpb⟩ : ∃ pb, W.heap.size = pb := ⟨_, rfl⟩
 obtain ⟨eb, heb⟩ : ∃ eb, pb + 1 = eb := ⟨_, rfl⟩
 have HC1 := h1 pb eb (by omega) (by omega)
 have HC2 := h2 pb eb (by omega) (by omega)
 rw [hpb, heb] at A2
 rw [hpb] at A1
 have HA1 := hide A1
 have HA2 := hide A2
 have HB1 := hide B1
 have HW1 := hide hW1
 have HPB := hide hpb
 have HEB := hide heb
 have HC3 := h3 pb eb (by omega) (by omega)
 clear h3
 clear hlv h1 h2 A1 A2 B1 hW1
 rw [HCS.out g, HEC.out] at HW1 ⊢
 go_enter Tryz.func3, Tryz.ntmps3
 go_upto_region 1 with fail
 rw [HW1.out]
 clear hpb heb
 clear HW1
 go_wp2_with fail
 refine HLV.out.mono ?_
 rintro x w2 ⟨rfl, G2⟩
 have HLW : Hid ((fun (w : World) => w.heap[pb]? = some (.cells #[.slice g.ca p.nc g.cc, .slice g.sa p.ns g.sc, .int .i64 (p.en 0), .int .i64 (p.en 1), .int .i64 (p.en 2), .int .i64 (p.en 3), .int .i64 (p.en 4), .int .i64 (p.en 5), .slice g.ia p.n g.ic] 27 (0, 0)) ∧ w.heap[eb]? = some (.cells #[.int .u64 e.x0, .int .u64 e.x1, .int .u64 e.x2, .int .u64 e.x3, .int .u64 e.x4, .int .u64 e.x5, .int .u64 e.x6, .bool e.x7] 30 (0, 0)) ∧ Below W.heap.size W w) w2) := ⟨(G2.out.block _ (block_lt HA1.out)).trans HA1.out, (G2.out.block _ (block_lt HA2.out)).trans HA2.out, HB1.out.trans (G2.out.mono HB1.out.size)⟩
 have HPE : Hid ((∀ o, w2.heap.size ≤ o → pb ≠ o) ∧ ∀ o, w2.heap.size ≤ o → eb ≠ o) := ⟨fun o h => by have := block_lt HLW.out.1; omega, fun o h => by have := block_lt HLW.out.2.1; omega⟩
 have HBW2 : Hid (Below W.heap.size W w2) := HB1.out.trans (G2.out.mono HB1.out.size)
 clear HLV G2 HA1 HA2 HB1
 have HCP := HC1
 clear HC1
 go_upto_region 5 with fail
 go_cut [13, 14] from 29 (fun a b V => ∃ ob gf, a = .pointer (some ⟨ob, 0, none⟩) ∧ b = .iface 68 (.pointer (some ⟨gf, 0, none⟩)) ∧ Hid (V.heap[ob]? = some (.cells #[.int .i64 0, .int .u64 0, .int .u64 0, .int .u64 0, .int .u64 0, .int .u64 0] 35 (0, 0)) ∧ Below w2.heap.size w2 V))
 case first =>
  have HL0 : Hid ((fun (w : World) => w.heap[pb]? = some (.cells #[.slice g.ca p.nc g.cc, .slice g.sa p.ns g.sc, .int .i64 (p.en 0), .int .i64 (p.en 1), .int .i64 (p.en 2), .int .i64 (p.en 3), .int .i64 (p.en 4), .int .i64 (p.en 5), .slice g.ia p.n g.ic] 27 (0, 0)) ∧ w.heap[eb]? = some (.cells #[.int .u64 e.x0, .int .u64 e.x1, .int .u64 e.x2, .int .u64 e.x3, .int .u64 e.x4, .int .u64 e.x5, .int .u64 e.x6, .bool e.x7] 30 (0, 0)) ∧ Below W.heap.size W w) w2.drew) := ⟨HLW.out.1, HLW.out.2.1, HLW.out.2.2.drew⟩
  have HB0 : Hid (Below w2.heap.size w2 w2.drew) := (Below.refl _ _).drew
  refine wp_region_held_drew (S := fun (w : World) => w.heap[pb]? = some (.cells #[.slice g.ca p.nc g.cc, .slice g.sa p.ns g.sc, .int .i64 (p.en 0), .int .i64 (p.en 1), .int .i64 (p.en 2), .int .i64 (p.en 3), .int .i64 (p.en 4), .int .i64 (p.en 5), .slice g.ia p.n g.ic] 27 (0, 0)) ∧ w.heap[eb]? = some (.cells #[.int .u64 e.x0, .int .u64 e.x1, .int .u64 e.x2, .int .u64 e.x3, .int .u64 e.x4, .int .u64 e.x5, .int .u64 e.x6, .bool e.x7] 30 (0, 0)) ∧ Below W.heap.size W w) (by kernel_rfl) HL0.out (fun hH => ?_)
  refine wpAnyH_take (i := 0) (oi := ⟨some 30, .load 27 (.tmp 5), 27, "outright.go:183", #[], none⟩) (v := .agg #[.slice g.ca p.nc g.cc, .slice g.sa p.ns g.sc, .int .i64 (p.en 0), .int .i64 (p.en 1), .int .i64 (p.en 2), .int .i64 (p.en 3), .int .i64 (p.en 4), .int .i64 (p.en 5), .slice g.ia p.n g.ic]) rfl (by kernel_rfl) (by kernel_rfl) (by kernel_rfl) (fun _ _ _ h => h) (Or.inl ⟨by rfl, fun w' hSw => ?_⟩) hH ?_
  ·have k0 := block_cell hSw.1 0
   have k1 := block_cell hSw.1 1
   have k2 := block_cell hSw.1 2
   have k3 := block_cell hSw.1 3
   have k4 := block_cell hSw.1 4
   have k5 := block_cell hSw.1 5
   have k6 := block_cell hSw.1 6
   have k7 := block_cell hSw.1 7
   have k8 := block_cell hSw.1 8
   have kl := block_lt hSw.1
   simp at k0 k1 k2 k3 k4 k5 k6 k7 k8
   go_simp
  simp only [Act.put, lsA, lsB, lsC]
  refine wpAnyH_take (i := 2) (oi := ⟨some 32, .move (.tmp 1), 3, "outright.go:183", #[], none⟩) (v := .int .i64 ev) rfl (by kernel_rfl) (by kernel_rfl) (by kernel_rfl) (fun _ _ _ h => h) (Or.inl ⟨by rfl, fun w' hSw => ?_⟩) hH ?_
  ·go_simp
  simp only [Act.put, lsA, lsB, lsC]
  refine wpAnyH_take (i := 3) (oi := ⟨some 33, .load 30 (.tmp 7), 30, "outright.go:183", #[], none⟩) (v := .agg #[.int .u64 e.x0, .int .u64 e.x1, .int .u64 e.x2, .int .u64 e.x3, .int .u64 e.x4, .int .u64 e.x5, .int .u64 e.x6, .bool e.x7]) rfl (by kernel_rfl) (by kernel_rfl) (by kernel_rfl) (fun _ _ _ h => h) (Or.inl ⟨by rfl, fun w' hSw => ?_⟩) hH ?_
  ·have k0 := block_cell hSw.2.1 0
   have k1 := block_cell hSw.2.1 1
   have k2 := block_cell hSw.2.1 2
   have k3 := block_cell hSw.2.1 3
   have k4 := block_cell hSw.2.1 4
   have k5 := block_cell hSw.2.1 5
   have k6 := block_cell hSw.2.1 6
   have k7 := block_cell hSw.2.1 7
   have kl := block_lt hSw.2.1
   simp at k0 k1 k2 k3 k4 k5 k6 k7
   go_simp
  simp only [Act.put, lsA, lsB, lsC]
  refine wpAnyH_take (i := 4) (oi := ⟨some 34, .move (.tmp 11), 28, "outright.go:183", #[], none⟩) (v := .int .u64 f) rfl (by kernel_rfl) (by kernel_rfl) (by kernel_rfl) (fun _ _ _ h => h) (Or.inl ⟨by rfl, fun w' hSw => ?_⟩) hH ?_
  ·go_simp
  simp only [Act.put, lsA, lsB, lsC]
  refine wpAnyH_ready (rs := [1, 9]) (by kernel_rfl) (by simp) ?_
  refine AllReadyH.cons rfl (fun K hK => ?_) (AllReadyH.cons rfl (fun K hK => ?_) AllReadyH.nil)
  ·go_simp
   go_wp2_with fail
   refine (HCP.out w2.drew HL0.out).mono ?_
   rintro x wa ⟨g1, rfl, G1⟩
   rw [HCS.out g1]
   have HLwa : Hid ((fun (w : World) => w.heap[pb]? = some (.cells #[.slice g.ca p.nc g.cc, .slice g.sa p.ns g.sc, .int .i64 (p.en 0), .int .i64 (p.en 1), .int .i64 (p.en 2), .int .i64 (p.en 3), .int .i64 (p.en 4), .int .i64 (p.en 5), .slice g.ia p.n g.ic] 27 (0, 0)) ∧ w.heap[eb]? = some (.cells #[.int .u64 e.x0, .int .u64 e.x1, .int .u64 e.x2, .int .u64 e.x3, .int .u64 e.x4, .int .u64 e.x5, .int .u64 e.x6, .bool e.x7] 30 (0, 0)) ∧ Below W.heap.size W w) wa) := ⟨(G1.out.1.block _ (block_lt HL0.out.1)).trans HL0.out.1, (G1.out.1.block _ (block_lt HL0.out.2.1)).trans HL0.out.2.1, HL0.out.2.2.trans (G1.out.1.mono HL0.out.2.2.size)⟩
   have HBwa : Hid (Below w2.heap.size w2 wa) := HB0.out.trans (G1.out.1.mono HB0.out.size)
   have HRN := hide G1.out.2
   rw [HCS.out g1] at HRN
   clear G1
   refine hK.out _ _ HLwa.out (fun _ => ?_)
   clear hK K
   refine wpAnyH_ready (rs := [5, 9]) (by kernel_rfl) (by simp) ?_
   refine AllReadyH.cons rfl (fun K hK => ?_) (AllReadyH.cons rfl (fun K hK => ?_) AllReadyH.nil)
   ·go_simp
    go_wp2_with fail
    refine (HRN.out wa (Below.refl _ _)).mono ?_
    rintro x wb ⟨gf, rfl, G2⟩
    have HLwb : Hid ((fun (w : World) => w.heap[pb]? = some (.cells #[.slice g.ca p.nc g.cc, .slice g.sa p.ns g.sc, .int .i64 (p.en 0), .int .i64 (p.en 1), .int .i64 (p.en 2), .int .i64 (p.en 3), .int .i64 (p.en 4), .int .i64 (p.en 5), .slice g.ia p.n g.ic] 27 (0, 0)) ∧ w.heap[eb]? = some (.cells #[.int .u64 e.x0, .int .u64 e.x1, .int .u64 e.x2, .int .u64 e.x3, .int .u64 e.x4, .int .u64 e.x5, .int .u64 e.x6, .bool e.x7] 30 (0, 0)) ∧ Below W.heap.size W w) wb) := ⟨(G2.out.block _ (block_lt HLwa.out.1)).trans HLwa.out.1, (G2.out.block _ (block_lt HLwa.out.2.1)).trans HLwa.out.2.1, HLwa.out.2.2.trans (G2.out.mono HLwa.out.2.2.size)⟩
    have HBwb : Hid (Below w2.heap.size w2 wb) := HBwa.out.trans (G2.out.mono HBwa.out.size)
    clear HRN
    refine hK.out _ _ HLwb.out (fun _ => ?_)
    clear hK K
    refine wpAnyH_take (i := 6) (oi := ⟨some 29, .move (.tmp 35), 38, "outright.go:183", #[⟨5, .data⟩], none⟩) (v := .tuple #[.agg #[.int .i64 0, .int .u64 0, .int .u64 0, .int .u64 0, .int .u64 0, .int .u64 0], .iface 68 (.pointer (some ⟨gf, 0, none⟩))]) rfl (by kernel_rfl) (by kernel_rfl) (by kernel_rfl) (fun _ _ _ h => h) (Or.inl ⟨by rfl, fun w' hSw => ?_⟩) HLwb.out ?_
    ·go_simp
    simp only [Act.put, lsA, lsB, lsC]
    refine wpAnyH_take (i := 7) (oi := ⟨some 36, .extract (.tmp 29) 0, 35, "outright.go:183", #[⟨6, .data⟩], none⟩) (v := .agg #[.int .i64 0, .int .u64 0, .int .u64 0, .int .u64 0, .int .u64 0, .int .u64 0]) rfl (by kernel_rfl) (by kernel_rfl) (by kernel_rfl) (fun _ _ _ h => h) (Or.inl ⟨by rfl, fun w' hSw => ?_⟩) HLwb.out ?_
    ·go_simp
    simp only [Act.put, lsA, lsB, lsC]
    refine wpAnyH_take (i := 8) (oi := ⟨some 37, .extract (.tmp 29) 1, 37, "outright.go:183", #[⟨6, .data⟩, ⟨10, .gcOnly .lateStores⟩], none⟩) (v := .iface 68 (.pointer (some ⟨gf, 0, none⟩))) rfl (by kernel_rfl) (by kernel_rfl) (by kernel_rfl) (fun _ _ _ h => h) (Or.inl ⟨by rfl, fun w' hSw => ?_⟩) HLwb.out ?_
    ·go_simp
    simp only [Act.put, lsA, lsB, lsC]
    refine wpAnyH_ready (rs := [9]) (by kernel_rfl) (by simp) ?_
    refine AllReadyH.cons rfl (fun K hK => ?_) AllReadyH.nil
    go_simp
    go_wp2_with fail
    obtain ⟨wd, hw⟩ : ∃ w', wb.alloc (.cells #[.int .i64 0, .int .u64 0, .int .u64 0, .int .u64 0, .int .u64 0, .int .u64 0] 35) = w' := ⟨_, rfl⟩
    have bA : Below wb.heap.size wb wd := by rw [← hw]; exact below_alloc1 _ _
    have HXwd : Hid (wd.heap[wb.heap.size]? = some (.cells #[.int .i64 0, .int .u64 0, .int .u64 0, .int .u64 0, .int .u64 0, .int .u64 0] 35 (0, 0))) := by rw [← hw]; exact alloc_atK _ _
    rw [hw]
    clear hw
    have HLwd : Hid ((fun (w : World) => w.heap[pb]? = some (.cells #[.slice g.ca p.nc g.cc, .slice g.sa p.ns g.sc, .int .i64 (p.en 0), .int .i64 (p.en 1), .int .i64 (p.en 2), .int .i64 (p.en 3), .int .i64 (p.en 4), .int .i64 (p.en 5), .slice g.ia p.n g.ic] 27 (0, 0)) ∧ w.heap[eb]? = some (.cells #[.int .u64 e.x0, .int .u64 e.x1, .int .u64 e.x2, .int .u64 e.x3, .int .u64 e.x4, .int .u64 e.x5, .int .u64 e.x6, .bool e.x7] 30 (0, 0)) ∧ Below W.heap.size W w) wd) := ⟨(bA.block _ (block_lt HLwb.out.1)).trans HLwb.out.1, (bA.block _ (block_lt HLwb.out.2.1)).trans HLwb.out.2.1, HLwb.out.2.2.trans (bA.mono HLwb.out.2.2.size)⟩
    have HBwd : Hid (Below w2.heap.size w2 wd) := HBwb.out.trans (bA.mono HBwb.out.size)
    clear bA
    have HBO : Hid (w2.heap.size ≤ wb.heap.size) := HBwb.out.size
    refine hK.out _ _ HLwd.out (fun _ => ?_)
    clear hK K
    have o0 := block_cell HXwd.out 0
    have o1 := block_cell HXwd.out 1
    have o2 := block_cell HXwd.out 2
    have o3 := block_cell HXwd.out 3
    have o4 := block_cell HXwd.out 4
    have o5 := block_cell HXwd.out 5
    have p0 := block_free HXwd.out 0
    have p1 := block_free HXwd.out 1
    have p2 := block_free HXwd.out 2
    have p3 := block_free HXwd.out 3
    have p4 := block_free HXwd.out 4
    have p5 := block_free HXwd.out 5
    have ol := block_lt HXwd.out
    simp at o0 o1 o2 o3 o4 o5
    refine wpAnyH_ready (rs := [10]) (by kernel_rfl) (by simp) ?_
    refine AllReadyH.cons rfl (fun K hK => ?_) AllReadyH.nil
    go_simp
    go_wp2_with fail
    generalize hwf : World.setCell _ _ _ = wf
    have hS6 := set6 rfl HXwd.out HBwd.out (by first | exact Nat.le_refl _ | exact HBO.out) _ _ _ _ _ _ hwf
    have hne1 : pb ≠ wb.heap.size := HPE.out.1 _ (by first | exact Nat.le_refl _ | exact HBO.out)
    have hne2 : eb ≠ wb.heap.size := HPE.out.2 _ (by first | exact Nat.le_refl _ | exact HBO.out)
    have HLf : Hid ((fun (w : World) => w.heap[pb]? = some (.cells #[.slice g.ca p.nc g.cc, .slice g.sa p.ns g.sc, .int .i64 (p.en 0), .int .i64 (p.en 1), .int .i64 (p.en 2), .int .i64 (p.en 3), .int .i64 (p.en 4), .int .i64 (p.en 5), .slice g.ia p.n g.ic] 27 (0, 0)) ∧ w.heap[eb]? = some (.cells #[.int .u64 e.x0, .int .u64 e.x1, .int .u64 e.x2, .int .u64 e.x3, .int .u64 e.x4, .int .u64 e.x5, .int .u64 e.x6, .bool e.x7] 30 (0, 0)) ∧ Below W.heap.size W w) wf) := ⟨(hS6.2.2.block _ (block_lt HLwd.out.1) (by simpa using hne1)).trans HLwd.out.1, (hS6.2.2.block _ (block_lt HLwd.out.2.1) (by simpa using hne2)).trans HLwd.out.2.1, HLwd.out.2.2.grown hS6.2.2 HLwd.out.2.2.size (fun q e => by cases e; exact Nat.le_trans HLW.out.2.2.size (by first | exact Nat.le_refl _ | exact HBO.out))⟩
    have HFF : Hid (wf.heap[wb.heap.size]? = some (.cells #[.int .i64 0, .int .u64 0, .int .u64 0, .int .u64 0, .int .u64 0, .int .u64 0] 35 (0, 0)) ∧ Below w2.heap.size w2 wf) := ⟨hS6.1, hS6.2.1⟩
    clear hwf hS6 hne1 hne2 o0 o1 o2 o3 o4 o5 p0 p1 p2 p3 p4 p5 ol
    refine hK.out _ _ HLf.out (fun _ => ?_)
    clear hK K
    refine wpAnyH_ready (rs := [11]) (by kernel_rfl) (by simp) ?_
    refine AllReadyH.cons rfl (fun K hK => ?_) AllReadyH.nil
    go_simp
    go_wp2_with fail
    refine hK.out _ _ HLf.out (fun _ => ?_)
    clear hK K
    refine wpAnyH_done (by kernel_rfl) ?_ _
    go_wp2
    go_meet
    case rel => exact ⟨_, _, rfl, rfl, HFF.out⟩
   ·go_simp
    go_wp2_with fail
    obtain ⟨wb, hw⟩ : ∃ w', wa.alloc (.cells #[.int .i64 0, .int .u64 0, .int .u64 0, .int .u64 0, .int .u64 0, .int .u64 0] 35) = w' := ⟨_, rfl⟩
    have bA : Below wa.heap.size wa wb := by rw [← hw]; exact below_alloc1 _ _
    have HXwb : Hid (wb.heap[wa.heap.size]? = some (.cells #[.int .i64 0, .int .u64 0, .int .u64 0, .int .u64 0, .int .u64 0, .int .u64 0] 35 (0, 0))) := by rw [← hw]; exact alloc_atK _ _
    rw [hw]
    clear hw
    have HLwb : Hid ((fun (w : World) => w.heap[pb]? = some (.cells #[.slice g.ca p.nc g.cc, .slice g.sa p.ns g.sc, .int .i64 (p.en 0), .int .i64 (p.en 1), .int .i64 (p.en 2), .int .i64 (p.en 3), .int .i64 (p.en 4), .int .i64 (p.en 5), .slice g.ia p.n g.ic] 27 (0, 0)) ∧ w.heap[eb]? = some (.cells #[.int .u64 e.x0, .int .u64 e.x1, .int .u64 e.x2, .int .u64 e.x3, .int .u64 e.x4, .int .u64 e.x5, .int .u64 e.x6, .bool e.x7] 30 (0, 0)) ∧ Below W.heap.size W w) wb) := ⟨(bA.block _ (block_lt HLwa.out.1)).trans HLwa.out.1, (bA.block _ (block_lt HLwa.out.2.1)).trans HLwa.out.2.1, HLwa.out.2.2.trans (bA.mono HLwa.out.2.2.size)⟩
    have HBwb : Hid (Below w2.heap.size w2 wb) := HBwa.out.trans (bA.mono HBwa.out.size)
    have HBA := hide bA
    clear bA
    refine hK.out _ _ HLwb.out (fun _ => ?_)
    clear hK K
    refine wpAnyH_ready (rs := [5]) (by kernel_rfl) (by simp) ?_
    refine AllReadyH.cons rfl (fun K hK => ?_) AllReadyH.nil
    go_simp
    go_wp2_with fail
    refine (HRN.out wb HBA.out).mono ?_
    rintro x wd ⟨gf, rfl, G2⟩
    have HLwd : Hid ((fun (w : World) => w.heap[pb]? = some (.cells #[.slice g.ca p.nc g.cc, .slice g.sa p.ns g.sc, .int .i64 (p.en 0), .int .i64 (p.en 1), .int .i64 (p.en 2), .int .i64 (p.en 3), .int .i64 (p.en 4), .int .i64 (p.en 5), .slice g.ia p.n g.ic] 27 (0, 0)) ∧ w.heap[eb]? = some (.cells #[.int .u64 e.x0, .int .u64 e.x1, .int .u64 e.x2, .int .u64 e.x3, .int .u64 e.x4, .int .u64 e.x5, .int .u64 e.x6, .bool e.x7] 30 (0, 0)) ∧ Below W.heap.size W w) wd) := ⟨(G2.out.block _ (block_lt HLwb.out.1)).trans HLwb.out.1, (G2.out.block _ (block_lt HLwb.out.2.1)).trans HLwb.out.2.1, HLwb.out.2.2.trans (G2.out.mono HLwb.out.2.2.size)⟩
    have HBwd : Hid (Below w2.heap.size w2 wd) := HBwb.out.trans (G2.out.mono HBwb.out.size)
    have HXwd := hide ((G2.out.block _ (block_lt HXwb.out)).trans HXwb.out)
    have HBO : Hid (w2.heap.size ≤ wa.heap.size) := HBwa.out.size
    clear HRN
    refine hK.out _ _ HLwd.out (fun _ => ?_)
    clear hK K
    refine wpAnyH_take (i := 6) (oi := ⟨some 29, .move (.tmp 35), 38, "outright.go:183", #[⟨5, .data⟩], none⟩) (v := .tuple #[.agg #[.int .i64 0, .int .u64 0, .int .u64 0, .int .u64 0, .int .u64 0, .int .u64 0], .iface 68 (.pointer (some ⟨gf, 0, none⟩))]) rfl (by kernel_rfl) (by kernel_rfl) (by kernel_rfl) (fun _ _ _ h => h) (Or.inl ⟨by rfl, fun w' hSw => ?_⟩) HLwd.out ?_
    ·go_simp
    simp only [Act.put, lsA, lsB, lsC]
    refine wpAnyH_take (i := 7) (oi := ⟨some 36, .extract (.tmp 29) 0, 35, "outright.go:183", #[⟨6, .data⟩], none⟩) (v := .agg #[.int .i64 0, .int .u64 0, .int .u64 0, .int .u64 0, .int .u64 0, .int .u64 0]) rfl (by kernel_rfl) (by kernel_rfl) (by kernel_rfl) (fun _ _ _ h => h) (Or.inl ⟨by rfl, fun w' hSw => ?_⟩) HLwd.out ?_
    ·go_simp
    simp only [Act.put, lsA, lsB, lsC]
    refine wpAnyH_take (i := 8) (oi := ⟨some 37, .extract (.tmp 29) 1, 37, "outright.go:183", #[⟨6, .data⟩, ⟨10, .gcOnly .lateStores⟩], none⟩) (v := .iface 68 (.pointer (some ⟨gf, 0, none⟩))) rfl (by kernel_rfl) (by kernel_rfl) (by kernel_rfl) (fun _ _ _ h => h) (Or.inl ⟨by rfl, fun w' hSw => ?_⟩) HLwd.out ?_
    ·go_simp
    simp only [Act.put, lsA, lsB, lsC]
    have o0 := block_cell HXwd.out 0
    have o1 := block_cell HXwd.out 1
    have o2 := block_cell HXwd.out 2
    have o3 := block_cell HXwd.out 3
    have o4 := block_cell HXwd.out 4
    have o5 := block_cell HXwd.out 5
    have p0 := block_free HXwd.out 0
    have p1 := block_free HXwd.out 1
    have p2 := block_free HXwd.out 2
    have p3 := block_free HXwd.out 3
    have p4 := block_free HXwd.out 4
    have p5 := block_free HXwd.out 5
    have ol := block_lt HXwd.out
    simp at o0 o1 o2 o3 o4 o5
    refine wpAnyH_ready (rs := [10]) (by kernel_rfl) (by simp) ?_
    refine AllReadyH.cons rfl (fun K hK => ?_) AllReadyH.nil
    go_simp
    go_wp2_with fail
    generalize hwf : World.setCell _ _ _ = wf
    have hS6 := set6 rfl HXwd.out HBwd.out (by first | exact Nat.le_refl _ | exact HBO.out) _ _ _ _ _ _ hwf
    have hne1 : pb ≠ wa.heap.size := HPE.out.1 _ (by first | exact Nat.le_refl _ | exact HBO.out)
    have hne2 : eb ≠ wa.heap.size := HPE.out.2 _ (by first | exact Nat.le_refl _ | exact HBO.out)
    have HLf : Hid ((fun (w : World) => w.heap[pb]? = some (.cells #[.slice g.ca p.nc g.cc, .slice g.sa p.ns g.sc, .int .i64 (p.en 0), .int .i64 (p.en 1), .int .i64 (p.en 2), .int .i64 (p.en 3), .int .i64 (p.en 4), .int .i64 (p.en 5), .slice g.ia p.n g.ic] 27 (0, 0)) ∧ w.heap[eb]? = some (.cells #[.int .u64 e.x0, .int .u64 e.x1, .int .u64 e.x2, .int .u64 e.x3, .int .u64 e.x4, .int .u64 e.x5, .int .u64 e.x6, .bool e.x7] 30 (0, 0)) ∧ Below W.heap.size W w) wf) := ⟨(hS6.2.2.block _ (block_lt HLwd.out.1) (by simpa using hne1)).trans HLwd.out.1, (hS6.2.2.block _ (block_lt HLwd.out.2.1) (by simpa using hne2)).trans HLwd.out.2.1, HLwd.out.2.2.grown hS6.2.2 HLwd.out.2.2.size (fun q e => by cases e; exact Nat.le_trans HLW.out.2.2.size (by first | exact Nat.le_refl _ | exact HBO.out))⟩
    have HFF : Hid (wf.heap[wa.heap.size]? = some (.cells #[.int .i64 0, .int .u64 0, .int .u64 0, .int .u64 0, .int .u64 0, .int .u64 0] 35 (0, 0)) ∧ Below w2.heap.size w2 wf) := ⟨hS6.1, hS6.2.1⟩
    clear hwf hS6 hne1 hne2 o0 o1 o2 o3 o4 o5 p0 p1 p2 p3 p4 p5 ol
    refine hK.out _ _ HLf.out (fun _ => ?_)
    clear hK K
    refine wpAnyH_ready (rs := [11]) (by kernel_rfl) (by simp) ?_
    refine AllReadyH.cons rfl (fun K hK => ?_) AllReadyH.nil
    go_simp
    go_wp2_with fail
    refine hK.out _ _ HLf.out (fun _ => ?_)
    clear hK K
    refine wpAnyH_done (by kernel_rfl) ?_ _
    go_wp2
    go_meet
    case rel => exact ⟨_, _, rfl, rfl, HFF.out⟩
  ·go_simp
   go_wp2_with fail
   obtain ⟨wa, hw⟩ : ∃ w', (w2.alloc (.cells #[.int .i64 0, .int .u64 0, .int .u64 0, .int .u64 0, .int .u64 0, .int .u64 0] 35)).drew = w' := ⟨_, rfl⟩
   have bA : Below w2.drew.heap.size w2.drew wa := by rw [← hw]; exact below_alloc1 w2.drew _
   have HXwa : Hid (wa.heap[w2.heap.size]? = some (.cells #[.int .i64 0, .int .u64 0, .int .u64 0, .int .u64 0, .int .u64 0, .int .u64 0] 35 (0, 0))) := by rw [← hw]; exact alloc_atK w2.drew _
   rw [hw]
   clear hw
   have HLwa : Hid ((fun (w : World) => w.heap[pb]? = some (.cells #[.slice g.ca p.nc g.cc, .slice g.sa p.ns g.sc, .int .i64 (p.en 0), .int .i64 (p.en 1), .int .i64 (p.en 2), .int .i64 (p.en 3), .int .i64 (p.en 4), .int .i64 (p.en 5), .slice g.ia p.n g.ic] 27 (0, 0)) ∧ w.heap[eb]? = some (.cells #[.int .u64 e.x0, .int .u64 e.x1, .int .u64 e.x2, .int .u64 e.x3, .int .u64 e.x4, .int .u64 e.x5, .int .u64 e.x6, .bool e.x7] 30 (0, 0)) ∧ Below W.heap.size W w) wa) := ⟨(bA.block _ (block_lt HL0.out.1)).trans HL0.out.1, (bA.block _ (block_lt HL0.out.2.1)).trans HL0.out.2.1, HL0.out.2.2.trans (bA.mono HL0.out.2.2.size)⟩
   have HBwa : Hid (Below w2.heap.size w2 wa) := HB0.out.trans (bA.mono HB0.out.size)
   clear bA
   refine hK.out _ _ HLwa.out (fun _ => ?_)
   clear hK K
   refine wpAnyH_ready (rs := [1]) (by kernel_rfl) (by simp) ?_
   refine AllReadyH.cons rfl (fun K hK => ?_) AllReadyH.nil
   go_simp
   go_wp2_with fail
   refine (HCP.out wa HLwa.out).mono ?_
   rintro x wb ⟨g1, rfl, G1⟩
   rw [HCS.out g1]
   have HLwb : Hid ((fun (w : World) => w.heap[pb]? = some (.cells #[.slice g.ca p.nc g.cc, .slice g.sa p.ns g.sc, .int .i64 (p.en 0), .int .i64 (p.en 1), .int .i64 (p.en 2), .int .i64 (p.en 3), .int .i64 (p.en 4), .int .i64 (p.en 5), .slice g.ia p.n g.ic] 27 (0, 0)) ∧ w.heap[eb]? = some (.cells #[.int .u64 e.x0, .int .u64 e.x1, .int .u64 e.x2, .int .u64 e.x3, .int .u64 e.x4, .int .u64 e.x5, .int .u64 e.x6, .bool e.x7] 30 (0, 0)) ∧ Below W.heap.size W w) wb) := ⟨(G1.out.1.block _ (block_lt HLwa.out.1)).trans HLwa.out.1, (G1.out.1.block _ (block_lt HLwa.out.2.1)).trans HLwa.out.2.1, HLwa.out.2.2.trans (G1.out.1.mono HLwa.out.2.2.size)⟩
   have HBwb : Hid (Below w2.heap.size w2 wb) := HBwa.out.trans (G1.out.1.mono HBwa.out.size)
   have HRN := hide G1.out.2
   have HXwb := hide ((G1.out.1.block _ (block_lt HXwa.out)).trans HXwa.out)
   rw [HCS.out g1] at HRN
   clear G1
   refine hK.out _ _ HLwb.out (fun _ => ?_)
   clear hK K
   refine wpAnyH_ready (rs := [5]) (by kernel_rfl) (by simp) ?_
   refine AllReadyH.cons rfl (fun K hK => ?_) AllReadyH.nil
   go_simp
   go_wp2_with fail
   refine (HRN.out wb (Below.refl _ _)).mono ?_
   rintro x wd ⟨gf, rfl, G2⟩
   have HLwd : Hid ((fun (w : World) => w.heap[pb]? = some (.cells #[.slice g.ca p.nc g.cc, .slice g.sa p.ns g.sc, .int .i64 (p.en 0), .int .i64 (p.en 1), .int .i64 (p.en 2), .int .i64 (p.en 3), .int .i64 (p.en 4), .int .i64 (p.en 5), .slice g.ia p.n g.ic] 27 (0, 0)) ∧ w.heap[eb]? = some (.cells #[.int .u64 e.x0, .int .u64 e.x1, .int .u64 e.x2, .int .u64 e.x3, .int .u64 e.x4, .int .u64 e.x5, .int .u64 e.x6, .bool e.x7] 30 (0, 0)) ∧ Below W.heap.size W w) wd) := ⟨(G2.out.block _ (block_lt HLwb.out.1)).trans HLwb.out.1, (G2.out.block _ (block_lt HLwb.out.2.1)).trans HLwb.out.2.1, HLwb.out.2.2.trans (G2.out.mono HLwb.out.2.2.size)⟩
   have HBwd : Hid (Below w2.heap.size w2 wd) := HBwb.out.trans (G2.out.mono HBwb.out.size)
   have HXwd := hide ((G2.out.block _ (block_lt HXwb.out)).trans HXwb.out)
   have HBO : Hid (w2.heap.size ≤ w2.heap.size) := Nat.le_refl _
   clear HRN
   refine hK.out _ _ HLwd.out (fun _ => ?_)
   clear hK K
   refine wpAnyH_take (i := 6) (oi := ⟨some 29, .move (.tmp 35), 38, "outright.go:183", #[⟨5, .data⟩], none⟩) (v := .tuple #[.agg #[.int .i64 0, .int .u64 0, .int .u64 0, .int .u64 0, .int .u64 0, .int .u64 0], .iface 68 (.pointer (some ⟨gf, 0, none⟩))]) rfl (by kernel_rfl) (by kernel_rfl) (by kernel_rfl) (fun _ _ _ h => h) (Or.inl ⟨by rfl, fun w' hSw => ?_⟩) HLwd.out ?_
   ·go_simp
   simp only [Act.put, lsA, lsB, lsC]
   refine wpAnyH_take (i := 7) (oi := ⟨some 36, .extract (.tmp 29) 0, 35, "outright.go:183", #[⟨6, .data⟩], none⟩) (v := .agg #[.int .i64 0, .int .u64 0, .int .u64 0, .int .u64 0, .int .u64 0, .int .u64 0]) rfl (by kernel_rfl) (by kernel_rfl) (by kernel_rfl) (fun _ _ _ h => h) (Or.inl ⟨by rfl, fun w' hSw => ?_⟩) HLwd.out ?_
   ·go_simp
   simp only [Act.put, lsA, lsB, lsC]
   refine wpAnyH_take (i := 8) (oi := ⟨some 37, .extract (.tmp 29) 1, 37, "outright.go:183", #[⟨6, .data⟩, ⟨10, .gcOnly .lateStores⟩], none⟩) (v := .iface 68 (.pointer (some ⟨gf, 0, none⟩))) rfl (by kernel_rfl) (by kernel_rfl) (by kernel_rfl) (fun _ _ _ h => h) (Or.inl ⟨by rfl, fun w' hSw => ?_⟩) HLwd.out ?_
   ·go_simp
   simp only [Act.put, lsA, lsB, lsC]
   have o0 := block_cell HXwd.out 0
   have o1 := block_cell HXwd.out 1
   have o2 := block_cell HXwd.out 2
   have o3 := block_cell HXwd.out 3
   have o4 := block_cell HXwd.out 4
   have o5 := block_cell HXwd.out 5
   have p0 := block_free HXwd.out 0
   have p1 := block_free HXwd.out 1
   have p2 := block_free HXwd.out 2
   have p3 := block_free HXwd.out 3
   have p4 := block_free HXwd.out 4
   have p5 := block_free HXwd.out 5
   have ol := block_lt HXwd.out
   simp at o0 o1 o2 o3 o4 o5
   refine wpAnyH_ready (rs := [10]) (by kernel_rfl) (by simp) ?_
   refine AllReadyH.cons rfl (fun K hK => ?_) AllReadyH.nil
   go_simp
   go_wp2_with fail
   generalize hwf : World.setCell _ _ _ = wf
   have hS6 := set6 rfl HXwd.out HBwd.out (by first | exact Nat.le_refl _ | exact HBO.out) _ _ _ _ _ _ hwf
   have hne1 : pb ≠ w2.heap.size := HPE.out.1 _ (by first | exact Nat.le_refl _ | exact HBO.out)
   have hne2 : eb ≠ w2.heap.size := HPE.out.2 _ (by first | exact Nat.le_refl _ | exact HBO.out)
   have HLf : Hid ((fun (w : World) => w.heap[pb]? = some (.cells #[.slice g.ca p.nc g.cc, .slice g.sa p.ns g.sc, .int .i64 (p.en 0), .int .i64 (p.en 1), .int .i64 (p.en 2), .int .i64 (p.en 3), .int .i64 (p.en 4), .int .i64 (p.en 5), .slice g.ia p.n g.ic] 27 (0, 0)) ∧ w.heap[eb]? = some (.cells #[.int .u64 e.x0, .int .u64 e.x1, .int .u64 e.x2, .int .u64 e.x3, .int .u64 e.x4, .int .u64 e.x5, .int .u64 e.x6, .bool e.x7] 30 (0, 0)) ∧ Below W.heap.size W w) wf) := ⟨(hS6.2.2.block _ (block_lt HLwd.out.1) (by simpa using hne1)).trans HLwd.out.1, (hS6.2.2.block _ (block_lt HLwd.out.2.1) (by simpa using hne2)).trans HLwd.out.2.1, HLwd.out.2.2.grown hS6.2.2 HLwd.out.2.2.size (fun q e => by cases e; exact Nat.le_trans HLW.out.2.2.size (by first | exact Nat.le_refl _ | exact HBO.out))⟩
   have HFF : Hid (wf.heap[w2.heap.size]? = some (.cells #[.int .i64 0, .int .u64 0, .int .u64 0, .int .u64 0, .int .u64 0, .int .u64 0] 35 (0, 0)) ∧ Below w2.heap.size w2 wf) := ⟨hS6.1, hS6.2.1⟩
   clear hwf hS6 hne1 hne2 o0 o1 o2 o3 o4 o5 p0 p1 p2 p3 p4 p5 ol
   refine hK.out _ _ HLf.out (fun _ => ?_)
   clear hK K
   refine wpAnyH_ready (rs := [11]) (by kernel_rfl) (by simp) ?_
   refine AllReadyH.cons rfl (fun K hK => ?_) AllReadyH.nil
   go_simp
   go_wp2_with fail
   refine hK.out _ _ HLf.out (fun _ => ?_)
   clear hK K
   refine wpAnyH_done (by kernel_rfl) ?_ _
   go_wp2
   go_meet
   case rel => exact ⟨_, _, rfl, rfl, HFF.out⟩
 case rest =>
 obtain ⟨ob, gf, rfl, rfl, GA⟩ := hcut
 clear HCP
 generalize wc = w6 at *
 have HL6 : Hid ((fun (w : World) => w.heap[pb]? = some (.cells #[.slice g.ca p.nc g.cc, .slice g.sa p.ns g.sc, .int .i64 (p.en 0), .int .i64 (p.en 1), .int .i64 (p.en 2), .int .i64 (p.en 3), .int .i64 (p.en 4), .int .i64 (p.en 5), .slice g.ia p.n g.ic] 27 (0, 0)) ∧ w.heap[eb]? = some (.cells #[.int .u64 e.x0, .int .u64 e.x1, .int .u64 e.x2, .int .u64 e.x3, .int .u64 e.x4, .int .u64 e.x5, .int .u64 e.x6, .bool e.x7] 30 (0, 0)) ∧ Below W.heap.size W w) w6) := ⟨(GA.out.2.block _ (block_lt HLW.out.1)).trans HLW.out.1, (GA.out.2.block _ (block_lt HLW.out.2.1)).trans HLW.out.2.1, HLW.out.2.2.trans (GA.out.2.mono HLW.out.2.2.size)⟩
 have HBW6 : Hid (Below W.heap.size W w6) := HBW2.out.trans (GA.out.2.mono HBW2.out.size)
 have HOB := hide GA.out.1
 clear HLW HPE GA HBW2
 have HLW : Hid ((fun (w : World) => w.heap[pb]? = some (.cells #[.slice g.ca p.nc g.cc, .slice g.sa p.ns g.sc, .int .i64 (p.en 0), .int .i64 (p.en 1), .int .i64 (p.en 2), .int .i64 (p.en 3), .int .i64 (p.en 4), .int .i64 (p.en 5), .slice g.ia p.n g.ic] 27 (0, 0)) ∧ w.heap[eb]? = some (.cells #[.int .u64 e.x0, .int .u64 e.x1, .int .u64 e.x2, .int .u64 e.x3, .int .u64 e.x4, .int .u64 e.x5, .int .u64 e.x6, .bool e.x7] 30 (0, 0)) ∧ Below W.heap.size W w) w6) := ⟨HL6.out.1, HL6.out.2.1, HL6.out.2.2⟩
 have HPE : Hid ((∀ o, w6.heap.size ≤ o → pb ≠ o) ∧ ∀ o, w6.heap.size ≤ o → eb ≠ o) := ⟨fun o h => by have := block_lt HLW.out.1; omega, fun o h => by have := block_lt HLW.out.2.1; omega⟩
 have HCP := HC2
 clear HC2 HL6
 go_upto_region 6 with fail
 go_cut [15, 16] from 38 (fun a b V => ∃ ob gf, a = .pointer (some ⟨ob, 0, none⟩) ∧ b = .iface 68 (.pointer (some ⟨gf, 0, none⟩)) ∧ Hid (V.heap[ob]? = some (.cells #[.int .i64 0, .int .u64 0, .int .u64 0, .int .u64 0, .int .u64 0, .int .u64 0] 35 (0, 0)) ∧ Below w6.heap.size w6 V))
 case first =>
  have HL0 : Hid ((fun (w : World) => w.heap[pb]? = some (.cells #[.slice g.ca p.nc g.cc, .slice g.sa p.ns g.sc, .int .i64 (p.en 0), .int .i64 (p.en 1), .int .i64 (p.en 2), .int .i64 (p.en 3), .int .i64 (p.en 4), .int .i64 (p.en 5), .slice g.ia p.n g.ic] 27 (0, 0)) ∧ w.heap[eb]? = some (.cells #[.int .u64 e.x0, .int .u64 e.x1, .int .u64 e.x2, .int .u64 e.x3, .int .u64 e.x4, .int .u64 e.x5, .int .u64 e.x6, .bool e.x7] 30 (0, 0)) ∧ Below W.heap.size W w) w6.drew) := ⟨HLW.out.1, HLW.out.2.1, HLW.out.2.2.drew⟩
  have HB0 : Hid (Below w6.heap.size w6 w6.drew) := (Below.refl _ _).drew
  refine wp_region_held_drew (S := fun (w : World) => w.heap[pb]? = some (.cells #[.slice g.ca p.nc g.cc, .slice g.sa p.ns g.sc, .int .i64 (p.en 0), .int .i64 (p.en 1), .int .i64 (p.en 2), .int .i64 (p.en 3), .int .i64 (p.en 4), .int .i64 (p.en 5), .slice g.ia p.n g.ic] 27 (0, 0)) ∧ w.heap[eb]? = some (.cells #[.int .u64 e.x0, .int .u64 e.x1, .int .u64 e.x2, .int .u64 e.x3, .int .u64 e.x4, .int .u64 e.x5, .int .u64 e.x6, .bool e.x7] 30 (0, 0)) ∧ Below W.heap.size W w) (by kernel_rfl) HL0.out (fun hH => ?_)
  refine wpAnyH_take (i := 0) (oi := ⟨some 39, .load 27 (.tmp 5), 27, "outright.go:184", #[], none⟩) (v := .agg #[.slice g.ca p.nc g.cc, .slice g.sa p.ns g.sc, .int .i64 (p.en 0), .int .i64 (p.en 1), .int .i64 (p.en 2), .int .i64 (p.en 3), .int .i64 (p.en 4), .int .i64 (p.en 5), .slice g.ia p.n g.ic]) rfl (by kernel_rfl) (by kernel_rfl) (by kernel_rfl) (fun _ _ _ h => h) (Or.inl ⟨by rfl, fun w' hSw => ?_⟩) hH ?_
  ·have k0 := block_cell hSw.1 0
   have k1 := block_cell hSw.1 1
   have k2 := block_cell hSw.1 2
   have k3 := block_cell hSw.1 3
   have k4 := block_cell hSw.1 4
   have k5 := block_cell hSw.1 5
   have k6 := block_cell hSw.1 6
   have k7 := block_cell hSw.1 7
   have k8 := block_cell hSw.1 8
   have kl := block_lt hSw.1
   simp at k0 k1 k2 k3 k4 k5 k6 k7 k8
   go_simp
  simp only [Act.put, lsA, lsB, lsC]
  refine wpAnyH_take (i := 2) (oi := ⟨some 41, .move (.tmp 1), 3, "outright.go:184", #[], none⟩) (v := .int .i64 ev) rfl (by kernel_rfl) (by kernel_rfl) (by kernel_rfl) (fun _ _ _ h => h) (Or.inl ⟨by rfl, fun w' hSw => ?_⟩) hH ?_
  ·go_simp
  simp only [Act.put, lsA, lsB, lsC]
  refine wpAnyH_take (i := 3) (oi := ⟨some 42, .load 30 (.tmp 7), 30, "outright.go:184", #[], none⟩) (v := .agg #[.int .u64 e.x0, .int .u64 e.x1, .int .u64 e.x2, .int .u64 e.x3, .int .u64 e.x4, .int .u64 e.x5, .int .u64 e.x6, .bool e.x7]) rfl (by kernel_rfl) (by kernel_rfl) (by kernel_rfl) (fun _ _ _ h => h) (Or.inl ⟨by rfl, fun w' hSw => ?_⟩) hH ?_
  ·have k0 := block_cell hSw.2.1 0
   have k1 := block_cell hSw.2.1 1
   have k2 := block_cell hSw.2.1 2
   have k3 := block_cell hSw.2.1 3
   have k4 := block_cell hSw.2.1 4
   have k5 := block_cell hSw.2.1 5
   have k6 := block_cell hSw.2.1 6
   have k7 := block_cell hSw.2.1 7
   have kl := block_lt hSw.2.1
   simp at k0 k1 k2 k3 k4 k5 k6 k7
   go_simp
  simp only [Act.put, lsA, lsB, lsC]
  refine wpAnyH_take (i := 4) (oi := ⟨some 43, .move (.tmp 12), 28, "outright.go:184", #[], none⟩) (v := .int .u64 gg) rfl (by kernel_rfl) (by kernel_rfl) (by kernel_rfl) (fun _ _ _ h => h) (Or.inl ⟨by rfl, fun w' hSw => ?_⟩) hH ?_
  ·go_simp
  simp only [Act.put, lsA, lsB, lsC]
  refine wpAnyH_ready (rs := [1, 9]) (by kernel_rfl) (by simp) ?_
  refine AllReadyH.cons rfl (fun K hK => ?_) (AllReadyH.cons rfl (fun K hK => ?_) AllReadyH.nil)
  ·go_simp
   go_wp2_with fail
   refine (HCP.out w6.drew HL0.out).mono ?_
   rintro x wa ⟨g1, rfl, G1⟩
   rw [HCS.out g1]
   have HLwa : Hid ((fun (w : World) => w.heap[pb]? = some (.cells #[.slice g.ca p.nc g.cc, .slice g.sa p.ns g.sc, .int .i64 (p.en 0), .int .i64 (p.en 1), .int .i64 (p.en 2), .int .i64 (p.en 3), .int .i64 (p.en 4), .int .i64 (p.en 5), .slice g.ia p.n g.ic] 27 (0, 0)) ∧ w.heap[eb]? = some (.cells #[.int .u64 e.x0, .int .u64 e.x1, .int .u64 e.x2, .int .u64 e.x3, .int .u64 e.x4, .int .u64 e.x5, .int .u64 e.x6, .bool e.x7] 30 (0, 0)) ∧ Below W.heap.size W w) wa) := ⟨(G1.out.1.block _ (block_lt HL0.out.1)).trans HL0.out.1, (G1.out.1.block _ (block_lt HL0.out.2.1)).trans HL0.out.2.1, HL0.out.2.2.trans (G1.out.1.mono HL0.out.2.2.size)⟩
   have HBwa : Hid (Below w6.heap.size w6 wa) := HB0.out.trans (G1.out.1.mono HB0.out.size)
   have HRN := hide G1.out.2
   rw [HCS.out g1] at HRN
   clear G1
   refine hK.out _ _ HLwa.out (fun _ => ?_)
   clear hK K
   refine wpAnyH_ready (rs := [5, 9]) (by kernel_rfl) (by simp) ?_
   refine AllReadyH.cons rfl (fun K hK => ?_) (AllReadyH.cons rfl (fun K hK => ?_) AllReadyH.nil)
   ·go_simp
    go_wp2_with fail
    refine (HRN.out wa (Below.refl _ _)).mono ?_
    rintro x wb ⟨gf, rfl, G2⟩
    have HLwb : Hid ((fun (w : World) => w.heap[pb]? = some (.cells #[.slice g.ca p.nc g.cc, .slice g.sa p.ns g.sc, .int .i64 (p.en 0), .int .i64 (p.en 1), .int .i64 (p.en 2), .int .i64 (p.en 3), .int .i64 (p.en 4), .int .i64 (p.en 5), .slice g.ia p.n g.ic] 27 (0, 0)) ∧ w.heap[eb]? = some (.cells #[.int .u64 e.x0, .int .u64 e.x1, .int .u64 e.x2, .int .u64 e.x3, .int .u64 e.x4, .int .u64 e.x5, .int .u64 e.x6, .bool e.x7] 30 (0, 0)) ∧ Below W.heap.size W w) wb) := ⟨(G2.out.block _ (block_lt HLwa.out.1)).trans HLwa.out.1, (G2.out.block _ (block_lt HLwa.out.2.1)).trans HLwa.out.2.1, HLwa.out.2.2.trans (G2.out.mono HLwa.out.2.2.size)⟩
    have HBwb : Hid (Below w6.heap.size w6 wb) := HBwa.out.trans (G2.out.mono HBwa.out.size)
    clear HRN
    refine hK.out _ _ HLwb.out (fun _ => ?_)
    clear hK K
    refine wpAnyH_take (i := 6) (oi := ⟨some 38, .move (.tmp 44), 38, "outright.go:184", #[⟨5, .data⟩], none⟩) (v := .tuple #[.agg #[.int .i64 0, .int .u64 0, .int .u64 0, .int .u64 0, .int .u64 0, .int .u64 0], .iface 68 (.pointer (some ⟨gf, 0, none⟩))]) rfl (by kernel_rfl) (by kernel_rfl) (by kernel_rfl) (fun _ _ _ h => h) (Or.inl ⟨by rfl, fun w' hSw => ?_⟩) HLwb.out ?_
    ·go_simp
    simp only [Act.put, lsA, lsB, lsC]
    refine wpAnyH_take (i := 7) (oi := ⟨some 45, .extract (.tmp 38) 0, 35, "outright.go:184", #[⟨6, .data⟩], none⟩) (v := .agg #[.int .i64 0, .int .u64 0, .int .u64 0, .int .u64 0, .int .u64 0, .int .u64 0]) rfl (by kernel_rfl) (by kernel_rfl) (by kernel_rfl) (fun _ _ _ h => h) (Or.inl ⟨by rfl, fun w' hSw => ?_⟩) HLwb.out ?_
    ·go_simp
    simp only [Act.put, lsA, lsB, lsC]
    refine wpAnyH_take (i := 8) (oi := ⟨some 46, .extract (.tmp 38) 1, 37, "outright.go:184", #[⟨6, .data⟩, ⟨10, .gcOnly .lateStores⟩], none⟩) (v := .iface 68 (.pointer (some ⟨gf, 0, none⟩))) rfl (by kernel_rfl) (by kernel_rfl) (by kernel_rfl) (fun _ _ _ h => h) (Or.inl ⟨by rfl, fun w' hSw => ?_⟩) HLwb.out ?_
    ·go_simp
    simp only [Act.put, lsA, lsB, lsC]
    refine wpAnyH_ready (rs := [9]) (by kernel_rfl) (by simp) ?_
    refine AllReadyH.cons rfl (fun K hK => ?_) AllReadyH.nil
    go_simp
    go_wp2_with fail
    obtain ⟨wd, hw⟩ : ∃ w', wb.alloc (.cells #[.int .i64 0, .int .u64 0, .int .u64 0, .int .u64 0, .int .u64 0, .int .u64 0] 35) = w' := ⟨_, rfl⟩
    have bA : Below wb.heap.size wb wd := by rw [← hw]; exact below_alloc1 _ _
    have HXwd : Hid (wd.heap[wb.heap.size]? = some (.cells #[.int .i64 0, .int .u64 0, .int .u64 0, .int .u64 0, .int .u64 0, .int .u64 0] 35 (0, 0))) := by rw [← hw]; exact alloc_atK _ _
    rw [hw]
    clear hw
    have HLwd : Hid ((fun (w : World) => w.heap[pb]? = some (.cells #[.slice g.ca p.nc g.cc, .slice g.sa p.ns g.sc, .int .i64 (p.en 0), .int .i64 (p.en 1), .int .i64 (p.en 2), .int .i64 (p.en 3), .int .i64 (p.en 4), .int .i64 (p.en 5), .slice g.ia p.n g.ic] 27 (0, 0)) ∧ w.heap[eb]? = some (.cells #[.int .u64 e.x0, .int .u64 e.x1, .int .u64 e.x2, .int .u64 e.x3, .int .u64 e.x4, .int .u64 e.x5, .int .u64 e.x6, .bool e.x7] 30 (0, 0)) ∧ Below W.heap.size W w) wd) := ⟨(bA.block _ (block_lt HLwb.out.1)).trans HLwb.out.1, (bA.block _ (block_lt HLwb.out.2.1)).trans HLwb.out.2.1, HLwb.out.2.2.trans (bA.mono HLwb.out.2.2.size)⟩
    have HBwd : Hid (Below w6.heap.size w6 wd) := HBwb.out.trans (bA.mono HBwb.out.size)
    clear bA
    have HBO : Hid (w6.heap.size ≤ wb.heap.size) := HBwb.out.size
    refine hK.out _ _ HLwd.out (fun _ => ?_)
    clear hK K
    have o0 := block_cell HXwd.out 0
    have o1 := block_cell HXwd.out 1
    have o2 := block_cell HXwd.out 2
    have o3 := block_cell HXwd.out 3
    have o4 := block_cell HXwd.out 4
    have o5 := block_cell HXwd.out 5
    have p0 := block_free HXwd.out 0
    have p1 := block_free HXwd.out 1
    have p2 := block_free HXwd.out 2
    have p3 := block_free HXwd.out 3
    have p4 := block_free HXwd.out 4
    have p5 := block_free HXwd.out 5
    have ol := block_lt HXwd.out
    simp at o0 o1 o2 o3 o4 o5
    refine wpAnyH_ready (rs := [10]) (by kernel_rfl) (by simp) ?_
    refine AllReadyH.cons rfl (fun K hK => ?_) AllReadyH.nil
    go_simp
    go_wp2_with fail
    generalize hwf : World.setCell _ _ _ = wf
    have hS6 := set6 rfl HXwd.out HBwd.out (by first | exact Nat.le_refl _ | exact HBO.out) _ _ _ _ _ _ hwf
    have hne1 : pb ≠ wb.heap.size := HPE.out.1 _ (by first | exact Nat.le_refl _ | exact HBO.out)
    have hne2 : eb ≠ wb.heap.size := HPE.out.2 _ (by first | exact Nat.le_refl _ | exact HBO.out)
    have HLf : Hid ((fun (w : World) => w.heap[pb]? = some (.cells #[.slice g.ca p.nc g.cc, .slice g.sa p.ns g.sc, .int .i64 (p.en 0), .int .i64 (p.en 1), .int .i64 (p.en 2), .int .i64 (p.en 3), .int .i64 (p.en 4), .int .i64 (p.en 5), .slice g.ia p.n g.ic] 27 (0, 0)) ∧ w.heap[eb]? = some (.cells #[.int .u64 e.x0, .int .u64 e.x1, .int .u64 e.x2, .int .u64 e.x3, .int .u64 e.x4, .int .u64 e.x5, .int .u64 e.x6, .bool e.x7] 30 (0, 0)) ∧ Below W.heap.size W w) wf) := ⟨(hS6.2.2.block _ (block_lt HLwd.out.1) (by simpa using hne1)).trans HLwd.out.1, (hS6.2.2.block _ (block_lt HLwd.out.2.1) (by simpa using hne2)).trans HLwd.out.2.1, HLwd.out.2.2.grown hS6.2.2 HLwd.out.2.2.size (fun q e => by cases e; exact Nat.le_trans HLW.out.2.2.size (by first | exact Nat.le_refl _ | exact HBO.out))⟩
    have HFF : Hid (wf.heap[wb.heap.size]? = some (.cells #[.int .i64 0, .int .u64 0, .int .u64 0, .int .u64 0, .int .u64 0, .int .u64 0] 35 (0, 0)) ∧ Below w6.heap.size w6 wf) := ⟨hS6.1, hS6.2.1⟩
    clear hwf hS6 hne1 hne2 o0 o1 o2 o3 o4 o5 p0 p1 p2 p3 p4 p5 ol
    refine hK.out _ _ HLf.out (fun _ => ?_)
    clear hK K
    refine wpAnyH_ready (rs := [11]) (by kernel_rfl) (by simp) ?_
    refine AllReadyH.cons rfl (fun K hK => ?_) AllReadyH.nil
    go_simp
    go_wp2_with fail
    refine hK.out _ _ HLf.out (fun _ => ?_)
    clear hK K
    refine wpAnyH_done (by kernel_rfl) ?_ _
    go_wp2
    go_meet
    case rel => exact ⟨_, _, rfl, rfl, HFF.out⟩
   ·go_simp
    go_wp2_with fail
    obtain ⟨wb, hw⟩ : ∃ w', wa.alloc (.cells #[.int .i64 0, .int .u64 0, .int .u64 0, .int .u64 0, .int .u64 0, .int .u64 0] 35) = w' := ⟨_, rfl⟩
    have bA : Below wa.heap.size wa wb := by rw [← hw]; exact below_alloc1 _ _
    have HXwb : Hid (wb.heap[wa.heap.size]? = some (.cells #[.int .i64 0, .int .u64 0, .int .u64 0, .int .u64 0, .int .u64 0, .int .u64 0] 35 (0, 0))) := by rw [← hw]; exact alloc_atK _ _
    rw [hw]
    clear hw
    have HLwb : Hid ((fun (w : World) => w.heap[pb]? = some (.cells #[.slice g.ca p.nc g.cc, .slice g.sa p.ns g.sc, .int .i64 (p.en 0), .int .i64 (p.en 1), .int .i64 (p.en 2), .int .i64 (p.en 3), .int .i64 (p.en 4), .int .i64 (p.en 5), .slice g.ia p.n g.ic] 27 (0, 0)) ∧ w.heap[eb]? = some (.cells #[.int .u64 e.x0, .int .u64 e.x1, .int .u64 e.x2, .int .u64 e.x3, .int .u64 e.x4, .int .u64 e.x5, .int .u64 e.x6, .bool e.x7] 30 (0, 0)) ∧ Below W.heap.size W w) wb) := ⟨(bA.block _ (block_lt HLwa.out.1)).trans HLwa.out.1, (bA.block _ (block_lt HLwa.out.2.1)).trans HLwa.out.2.1, HLwa.out.2.2.trans (bA.mono HLwa.out.2.2.size)⟩
    have HBwb : Hid (Below w6.heap.size w6 wb) := HBwa.out.trans (bA.mono HBwa.out.size)
    have HBA := hide bA
    clear bA
    refine hK.out _ _ HLwb.out (fun _ => ?_)
    clear hK K
    refine wpAnyH_ready (rs := [5]) (by kernel_rfl) (by simp) ?_
    refine AllReadyH.cons rfl (fun K hK => ?_) AllReadyH.nil
    go_simp
    go_wp2_with fail
    refine (HRN.out wb HBA.out).mono ?_
    rintro x wd ⟨gf, rfl, G2⟩
    have HLwd : Hid ((fun (w : World) => w.heap[pb]? = some (.cells #[.slice g.ca p.nc g.cc, .slice g.sa p.ns g.sc, .int .i64 (p.en 0), .int .i64 (p.en 1), .int .i64 (p.en 2), .int .i64 (p.en 3), .int .i64 (p.en 4), .int .i64 (p.en 5), .slice g.ia p.n g.ic] 27 (0, 0)) ∧ w.heap[eb]? = some (.cells #[.int .u64 e.x0, .int .u64 e.x1, .int .u64 e.x2, .int .u64 e.x3, .int .u64 e.x4, .int .u64 e.x5, .int .u64 e.x6, .bool e.x7] 30 (0, 0)) ∧ Below W.heap.size W w) wd) := ⟨(G2.out.block _ (block_lt HLwb.out.1)).trans HLwb.out.1, (G2.out.block _ (block_lt HLwb.out.2.1)).trans HLwb.out.2.1, HLwb.out.2.2.trans (G2.out.mono HLwb.out.2.2.size)⟩
    have HBwd : Hid (Below w6.heap.size w6 wd) := HBwb.out.trans (G2.out.mono HBwb.out.size)
    have HXwd := hide ((G2.out.block _ (block_lt HXwb.out)).trans HXwb.out)
    have HBO : Hid (w6.heap.size ≤ wa.heap.size) := HBwa.out.size
    clear HRN
    refine hK.out _ _ HLwd.out (fun _ => ?_)
    clear hK K
    refine wpAnyH_take (i := 6) (oi := ⟨some 38, .move (.tmp 44), 38, "outright.go:184", #[⟨5, .data⟩], none⟩) (v := .tuple #[.agg #[.int .i64 0, .int .u64 0, .int .u64 0, .int .u64 0, .int .u64 0, .int .u64 0], .iface 68 (.pointer (some ⟨gf, 0, none⟩))]) rfl (by kernel_rfl) (by kernel_rfl) (by kernel_rfl) (fun _ _ _ h => h) (Or.inl ⟨by rfl, fun w' hSw => ?_⟩) HLwd.out ?_
    ·go_simp
    simp only [Act.put, lsA, lsB, lsC]
    refine wpAnyH_take (i := 7) (oi := ⟨some 45, .extract (.tmp 38) 0, 35, "outright.go:184", #[⟨6, .data⟩], none⟩) (v := .agg #[.int .i64 0, .int .u64 0, .int .u64 0, .int .u64 0, .int .u64 0, .int .u64 0]) rfl (by kernel_rfl) (by kernel_rfl) (by kernel_rfl) (fun _ _ _ h => h) (Or.inl ⟨by rfl, fun w' hSw => ?_⟩) HLwd.out ?_
    ·go_simp
    simp only [Act.put, lsA, lsB, lsC]
    refine wpAnyH_take (i := 8) (oi := ⟨some 46, .extract (.tmp 38) 1, 37, "outright.go:184", #[⟨6, .data⟩, ⟨10, .gcOnly .lateStores⟩], none⟩) (v := .iface 68 (.pointer (some ⟨gf, 0, none⟩))) rfl (by kernel_rfl) (by kernel_rfl) (by kernel_rfl) (fun _ _ _ h => h) (Or.inl ⟨by rfl, fun w' hSw => ?_⟩) HLwd.out ?_
    ·go_simp
    simp only [Act.put, lsA, lsB, lsC]
    have o0 := block_cell HXwd.out 0
    have o1 := block_cell HXwd.out 1
    have o2 := block_cell HXwd.out 2
    have o3 := block_cell HXwd.out 3
    have o4 := block_cell HXwd.out 4
    have o5 := block_cell HXwd.out 5
    have p0 := block_free HXwd.out 0
    have p1 := block_free HXwd.out 1
    have p2 := block_free HXwd.out 2
    have p3 := block_free HXwd.out 3
    have p4 := block_free HXwd.out 4
    have p5 := block_free HXwd.out 5
    have ol := block_lt HXwd.out
    simp at o0 o1 o2 o3 o4 o5
    refine wpAnyH_ready (rs := [10]) (by kernel_rfl) (by simp) ?_
    refine AllReadyH.cons rfl (fun K hK => ?_) AllReadyH.nil
    go_simp
    go_wp2_with fail
    generalize hwf : World.setCell _ _ _ = wf
    have hS6 := set6 rfl HXwd.out HBwd.out (by first | exact Nat.le_refl _ | exact HBO.out) _ _ _ _ _ _ hwf
    have hne1 : pb ≠ wa.heap.size := HPE.out.1 _ (by first | exact Nat.le_refl _ | exact HBO.out)
    have hne2 : eb ≠ wa.heap.size := HPE.out.2 _ (by first | exact Nat.le_refl _ | exact HBO.out)
    have HLf : Hid ((fun (w : World) => w.heap[pb]? = some (.cells #[.slice g.ca p.nc g.cc, .slice g.sa p.ns g.sc, .int .i64 (p.en 0), .int .i64 (p.en 1), .int .i64 (p.en 2), .int .i64 (p.en 3), .int .i64 (p.en 4), .int .i64 (p.en 5), .slice g.ia p.n g.ic] 27 (0, 0)) ∧ w.heap[eb]? = some (.cells #[.int .u64 e.x0, .int .u64 e.x1, .int .u64 e.x2, .int .u64 e.x3, .int .u64 e.x4, .int .u64 e.x5, .int .u64 e.x6, .bool e.x7] 30 (0, 0)) ∧ Below W.heap.size W w) wf) := ⟨(hS6.2.2.block _ (block_lt HLwd.out.1) (by simpa using hne1)).trans HLwd.out.1, (hS6.2.2.block _ (block_lt HLwd.out.2.1) (by simpa using hne2)).trans HLwd.out.2.1, HLwd.out.2.2.grown hS6.2.2 HLwd.out.2.2.size (fun q e => by cases e; exact Nat.le_trans HLW.out.2.2.size (by first | exact Nat.le_refl _ | exact HBO.out))⟩
    have HFF : Hid (wf.heap[wa.heap.size]? = some (.cells #[.int .i64 0, .int .u64 0, .int .u64 0, .int .u64 0, .int .u64 0, .int .u64 0] 35 (0, 0)) ∧ Below w6.heap.size w6 wf) := ⟨hS6.1, hS6.2.1⟩
    clear hwf hS6 hne1 hne2 o0 o1 o2 o3 o4 o5 p0 p1 p2 p3 p4 p5 ol
    refine hK.out _ _ HLf.out (fun _ => ?_)
    clear hK K
    refine wpAnyH_ready (rs := [11]) (by kernel_rfl) (by simp) ?_
    refine AllReadyH.cons rfl (fun K hK => ?_) AllReadyH.nil
    go_simp
    go_wp2_with fail
    refine hK.out _ _ HLf.out (fun _ => ?_)
    clear hK K
    refine wpAnyH_done (by kernel_rfl) ?_ _
    go_wp2
    go_meet
    case rel => exact ⟨_, _, rfl, rfl, HFF.out⟩
  ·go_simp
   go_wp2_with fail
   obtain ⟨wa, hw⟩ : ∃ w', (w6.alloc (.cells #[.int .i64 0, .int .u64 0, .int .u64 0, .int .u64 0, .int .u64 0, .int .u64 0] 35)).drew = w' := ⟨_, rfl⟩
   have bA : Below w6.drew.heap.size w6.drew wa := by rw [← hw]; exact below_alloc1 w6.drew _
   have HXwa : Hid (wa.heap[w6.heap.size]? = some (.cells #[.int .i64 0, .int .u64 0, .int .u64 0, .int .u64 0, .int .u64 0, .int .u64 0] 35 (0, 0))) := by rw [← hw]; exact alloc_atK w6.drew _
   rw [hw]
   clear hw
   have HLwa : Hid ((fun (w : World) => w.heap[pb]? = some (.cells #[.slice g.ca p.nc g.cc, .slice g.sa p.ns g.sc, .int .i64 (p.en 0), .int .i64 (p.en 1), .int .i64 (p.en 2), .int .i64 (p.en 3), .int .i64 (p.en 4), .int .i64 (p.en 5), .slice g.ia p.n g.ic] 27 (0, 0)) ∧ w.heap[eb]? = some (.cells #[.int .u64 e.x0, .int .u64 e.x1, .int .u64 e.x2, .int .u64 e.x3, .int .u64 e.x4, .int .u64 e.x5, .int .u64 e.x6, .bool e.x7] 30 (0, 0)) ∧ Below W.heap.size W w) wa) := ⟨(bA.block _ (block_lt HL0.out.1)).trans HL0.out.1, (bA.block _ (block_lt HL0.out.2.1)).trans HL0.out.2.1, HL0.out.2.2.trans (bA.mono HL0.out.2.2.size)⟩
   have HBwa : Hid (Below w6.heap.size w6 wa) := HB0.out.trans (bA.mono HB0.out.size)
   clear bA
   refine hK.out _ _ HLwa.out (fun _ => ?_)
   clear hK K
   refine wpAnyH_ready (rs := [1]) (by kernel_rfl) (by simp) ?_
   refine AllReadyH.cons rfl (fun K hK => ?_) AllReadyH.nil
   go_simp
   go_wp2_with fail
   refine (HCP.out wa HLwa.out).mono ?_
   rintro x wb ⟨g1, rfl, G1⟩
   rw [HCS.out g1]
   have HLwb : Hid ((fun (w : World) => w.heap[pb]? = some (.cells #[.slice g.ca p.nc g.cc, .slice g.sa p.ns g.sc, .int .i64 (p.en 0), .int .i64 (p.en 1), .int .i64 (p.en 2), .int .i64 (p.en 3), .int .i64 (p.en 4), .int .i64 (p.en 5), .slice g.ia p.n g.ic] 27 (0, 0)) ∧ w.heap[eb]? = some (.cells #[.int .u64 e.x0, .int .u64 e.x1, .int .u64 e.x2, .int .u64 e.x3, .int .u64 e.x4, .int .u64 e.x5, .int .u64 e.x6, .bool e.x7] 30 (0, 0)) ∧ Below W.heap.size W w) wb) := ⟨(G1.out.1.block _ (block_lt HLwa.out.1)).trans HLwa.out.1, (G1.out.1.block _ (block_lt HLwa.out.2.1)).trans HLwa.out.2.1, HLwa.out.2.2.trans (G1.out.1.mono HLwa.out.2.2.size)⟩
   have HBwb : Hid (Below w6.heap.size w6 wb) := HBwa.out.trans (G1.out.1.mono HBwa.out.size)
   have HRN := hide G1.out.2
   have HXwb := hide ((G1.out.1.block _ (block_lt HXwa.out)).trans HXwa.out)
   rw [HCS.out g1] at HRN
   clear G1
   refine hK.out _ _ HLwb.out (fun _ => ?_)
   clear hK K
   refine wpAnyH_ready (rs := [5]) (by kernel_rfl) (by simp) ?_
   refine AllReadyH.cons rfl (fun K hK => ?_) AllReadyH.nil
   go_simp
   go_wp2_with fail
   refine (HRN.out wb (Below.refl _ _)).mono ?_
   rintro x wd ⟨gf, rfl, G2⟩
   have HLwd : Hid ((fun (w : World) => w.heap[pb]? = some (.cells #[.slice g.ca p.nc g.cc, .slice g.sa p.ns g.sc, .int .i64 (p.en 0), .int .i64 (p.en 1), .int .i64 (p.en 2), .int .i64 (p.en 3), .int .i64 (p.en 4), .int .i64 (p.en 5), .slice g.ia p.n g.ic] 27 (0, 0)) ∧ w.heap[eb]? = some (.cells #[.int .u64 e.x0, .int .u64 e.x1, .int .u64 e.x2, .int .u64 e.x3, .int .u64 e.x4, .int .u64 e.x5, .int .u64 e.x6, .bool e.x7] 30 (0, 0)) ∧ Below W.heap.size W w) wd) := ⟨(G2.out.block _ (block_lt HLwb.out.1)).trans HLwb.out.1, (G2.out.block _ (block_lt HLwb.out.2.1)).trans HLwb.out.2.1, HLwb.out.2.2.trans (G2.out.mono HLwb.out.2.2.size)⟩
   have HBwd : Hid (Below w6.heap.size w6 wd) := HBwb.out.trans (G2.out.mono HBwb.out.size)
   have HXwd := hide ((G2.out.block _ (block_lt HXwb.out)).trans HXwb.out)
   have HBO : Hid (w6.heap.size ≤ w6.heap.size) := Nat.le_refl _
   clear HRN
   refine hK.out _ _ HLwd.out (fun _ => ?_)
   clear hK K
   refine wpAnyH_take (i := 6) (oi := ⟨some 38, .move (.tmp 44), 38, "outright.go:184", #[⟨5, .data⟩], none⟩) (v := .tuple #[.agg #[.int .i64 0, .int .u64 0, .int .u64 0, .int .u64 0, .int .u64 0, .int .u64 0], .iface 68 (.pointer (some ⟨gf, 0, none⟩))]) rfl (by kernel_rfl) (by kernel_rfl) (by kernel_rfl) (fun _ _ _ h => h) (Or.inl ⟨by rfl, fun w' hSw => ?_⟩) HLwd.out ?_
   ·go_simp
   simp only [Act.put, lsA, lsB, lsC]
   refine wpAnyH_take (i := 7) (oi := ⟨some 45, .extract (.tmp 38) 0, 35, "outright.go:184", #[⟨6, .data⟩], none⟩) (v := .agg #[.int .i64 0, .int .u64 0, .int .u64 0, .int .u64 0, .int .u64 0, .int .u64 0]) rfl (by kernel_rfl) (by kernel_rfl) (by kernel_rfl) (fun _ _ _ h => h) (Or.inl ⟨by rfl, fun w' hSw => ?_⟩) HLwd.out ?_
   ·go_simp
   simp only [Act.put, lsA, lsB, lsC]
   refine wpAnyH_take (i := 8) (oi := ⟨some 46, .extract (.tmp 38) 1, 37, "outright.go:184", #[⟨6, .data⟩, ⟨10, .gcOnly .lateStores⟩], none⟩) (v := .iface 68 (.pointer (some ⟨gf, 0, none⟩))) rfl (by kernel_rfl) (by kernel_rfl) (by kernel_rfl) (fun _ _ _ h => h) (Or.inl ⟨by rfl, fun w' hSw => ?_⟩) HLwd.out ?_
   ·go_simp
   simp only [Act.put, lsA, lsB, lsC]
   have o0 := block_cell HXwd.out 0
   have o1 := block_cell HXwd.out 1
   have o2 := block_cell HXwd.out 2
   have o3 := block_cell HXwd.out 3
   have o4 := block_cell HXwd.out 4
   have o5 := block_cell HXwd.out 5
   have p0 := block_free HXwd.out 0
   have p1 := block_free HXwd.out 1
   have p2 := block_free HXwd.out 2
   have p3 := block_free HXwd.out 3
   have p4 := block_free HXwd.out 4
   have p5 := block_free HXwd.out 5
   have ol := block_lt HXwd.out
   simp at o0 o1 o2 o3 o4 o5
   refine wpAnyH_ready (rs := [10]) (by kernel_rfl) (by simp) ?_
   refine AllReadyH.cons rfl (fun K hK => ?_) AllReadyH.nil
   go_simp
   go_wp2_with fail
   generalize hwf : World.setCell _ _ _ = wf
   have hS6 := set6 rfl HXwd.out HBwd.out (by first | exact Nat.le_refl _ | exact HBO.out) _ _ _ _ _ _ hwf
   have hne1 : pb ≠ w6.heap.size := HPE.out.1 _ (by first | exact Nat.le_refl _ | exact HBO.out)
   have hne2 : eb ≠ w6.heap.size := HPE.out.2 _ (by first | exact Nat.le_refl _ | exact HBO.out)
   have HLf : Hid ((fun (w : World) => w.heap[pb]? = some (.cells #[.slice g.ca p.nc g.cc, .slice g.sa p.ns g.sc, .int .i64 (p.en 0), .int .i64 (p.en 1), .int .i64 (p.en 2), .int .i64 (p.en 3), .int .i64 (p.en 4), .int .i64 (p.en 5), .slice g.ia p.n g.ic] 27 (0, 0)) ∧ w.heap[eb]? = some (.cells #[.int .u64 e.x0, .int .u64 e.x1, .int .u64 e.x2, .int .u64 e.x3, .int .u64 e.x4, .int .u64 e.x5, .int .u64 e.x6, .bool e.x7] 30 (0, 0)) ∧ Below W.heap.size W w) wf) := ⟨(hS6.2.2.block _ (block_lt HLwd.out.1) (by simpa using hne1)).trans HLwd.out.1, (hS6.2.2.block _ (block_lt HLwd.out.2.1) (by simpa using hne2)).trans HLwd.out.2.1, HLwd.out.2.2.grown hS6.2.2 HLwd.out.2.2.size (fun q e => by cases e; exact Nat.le_trans HLW.out.2.2.size (by first | exact Nat.le_refl _ | exact HBO.out))⟩
   have HFF : Hid (wf.heap[w6.heap.size]? = some (.cells #[.int .i64 0, .int .u64 0, .int .u64 0, .int .u64 0, .int .u64 0, .int .u64 0] 35 (0, 0)) ∧ Below w6.heap.size w6 wf) := ⟨hS6.1, hS6.2.1⟩
   clear hwf hS6 hne1 hne2 o0 o1 o2 o3 o4 o5 p0 p1 p2 p3 p4 p5 ol
   refine hK.out _ _ HLf.out (fun _ => ?_)
   clear hK K
   refine wpAnyH_ready (rs := [11]) (by kernel_rfl) (by simp) ?_
   refine AllReadyH.cons rfl (fun K hK => ?_) AllReadyH.nil
   go_simp
   go_wp2_with fail
   refine hK.out _ _ HLf.out (fun _ => ?_)
   clear hK K
   refine wpAnyH_done (by kernel_rfl) ?_ _
   go_wp2
   go_meet
   case rel => exact ⟨_, _, rfl, rfl, HFF.out⟩
 case rest =>
 obtain ⟨oc, gh, rfl, rfl, GB⟩ := hcut
 clear HCP
 have HX := hide ((GB.out.2.block _ (block_lt HOB.out)).trans HOB.out)
 have HY := hide GB.out.1
 have HBW : Hid (Below W.heap.size W wc) := HBW6.out.trans (GB.out.2.mono HBW6.out.size)
 have HL9 : Hid ((fun (w : World) => w.heap[pb]? = some (.cells #[.slice g.ca p.nc g.cc, .slice g.sa p.ns g.sc, .int .i64 (p.en 0), .int .i64 (p.en 1), .int .i64 (p.en 2), .int .i64 (p.en 3), .int .i64 (p.en 4), .int .i64 (p.en 5), .slice g.ia p.n g.ic] 27 (0, 0)) ∧ w.heap[eb]? = some (.cells #[.int .u64 e.x0, .int .u64 e.x1, .int .u64 e.x2, .int .u64 e.x3, .int .u64 e.x4, .int .u64 e.x5, .int .u64 e.x6, .bool e.x7] 30 (0, 0)) ∧ Below W.heap.size W w) wc) := ⟨(GB.out.2.block _ (block_lt HLW.out.1)).trans HLW.out.1, (GB.out.2.block _ (block_lt HLW.out.2.1)).trans HLW.out.2.1, HLW.out.2.2.trans (GB.out.2.mono HLW.out.2.2.size)⟩
 clear HLW HPE GB HOB HBW6 HX HY
 have HVC := HC3 wc HL9.out
 have k0 := block_cell HL9.out.1 0
 have k1 := block_cell HL9.out.1 1
 have k2 := block_cell HL9.out.1 2
 have k3 := block_cell HL9.out.1 3
 have k4 := block_cell HL9.out.1 4
 have k5 := block_cell HL9.out.1 5
 have k6 := block_cell HL9.out.1 6
 have k7 := block_cell HL9.out.1 7
 have k8 := block_cell HL9.out.1 8
 have kl := block_lt HL9.out.1
 simp at k0 k1 k2 k3 k4 k5 k6 k7 k8
 go_wp2_with fail
 refine HVC.mono ?_
 rintro x w8 ⟨g1, rfl, G8⟩
 rw [HCS.out g1] at G8 ⊢
 have HVF := hide G8.out.2
 have HB8 : Hid (Below W.heap.size W w8) := HBW.out.trans (G8.out.1.mono HBW.out.size)
 clear G8 HBW HL9 HVC HC3 k0 k1 k2 k3 k4 k5 k6 k7 k8 kl
 go_wp2_with fail
 refine HVF.out.mono ?_
 rintro x w9 hh
 rcases hh with ⟨gv, rfl, G9⟩ | ⟨rfl, hev, G9⟩
 ·have HD : Hid (Below W.heap.size W w9) := HB8.out.trans (G9.out.mono HB8.out.size)
  clear G9 HB8 HVF
  go_wp2
  go_ret
  exact ⟨rfl, HD.out⟩
 ·have HD : Hid (Below W.heap.size W w9) := HB8.out.trans (G9.out.mono HB8.out.size)
  clear G9 HB8 HVF
  by_cases hl : ev < 0
  ·have hlb : decide (ev < 0) = true := by simpa using hl
   go_wp2
   go_ret
   exact ⟨rfl, HD.out⟩
  ·have hlb : decide (ev < 0) = false := by simpa using hl
   have hgb : decide (ev > 5) = true := by simp; omega
   go_wp2
   go_ret
   exact ⟨rfl, HD.out⟩
end Go.Proofs.YtpdjnbpjgpdnkaaGreatDoor
