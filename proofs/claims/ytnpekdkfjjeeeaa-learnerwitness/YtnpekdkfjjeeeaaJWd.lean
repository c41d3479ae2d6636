import Derived.Test.YtnpekdkfjjeeeaaMW
import Derived.Deep.DeepCutAuto
namespace Go.Proofs.Ytnpekdkfjjeeeaa
open Go.RowKit Crc

set_option maxRecDepth 100000 in
set_option maxHeartbeats 8000000 in
theorem witnessed_true {W : World} (c : Cf) (hk : c.Ok) {ao : Option Addr} {fs : List Wo} {sb off : Nat} (len cap : Nat) (hl : fs.length = len) (hR : Wos W.heap.size W ao fs sb off) (slot st : Nat) {bo : Option Addr} {bn bc : Nat} {rv : List (Nat × Nat × List Nat)} (hbt : BtOk W st (.slice bo bn bc) rv)
    (i0 : Nat) (hi0 : i0 < len) {f0 : Wo} (hf0 : fs[i0]? = some f0) (h00 : f0.kind = 0) (hcnt : c.f + 1 ≤ ((countB (wFr c slot f0.m.num f0.m.node st rv fs 0) : Nat) : Int)) :
    Calls Try.prog 13 #[.agg c.cells, .slice ao len cap, .int .u64 (slot : Nat), .agg #[.int .u64 (st : Nat), .slice bo bn bc]] W fun e w' => e = .returned (.bool true) ∧ Hid (Below W.heap.size W w') := by
  obtain ⟨W2, hW2⟩ : ∃ W2, (W.alloc (.cells c.cells 24)).alloc (.cells #[.int .u64 (st : Nat), .slice bo bn bc] 40) = W2 := ⟨_, rfl⟩
  have es : (W.alloc (.cells c.cells 24)).heap.size = W.heap.size + 1 := by simp
  have B2 : Hid (Below W.heap.size W W2) := by rw [← hW2]; exact (below_alloc1 W _).alloc (by simp) _
  have C2 : Hid (W2.heap[W.heap.size]? = some (.cells c.cells 24 (0, 0))) := by rw [← hW2]; exact ((World.grownBy_alloc _ _ none).block _ (by simp) (by simp)).trans (alloc_atK W _)
  have D2 : Hid (W2.heap[W.heap.size + 1]? = some (.cells #[.int .u64 (st : Nat), .slice bo bn bc] 40 (0, 0))) := by
    have h := alloc_atK (W.alloc (.cells c.cells 24)) (.cells #[.int .u64 (st : Nat), .slice bo bn bc] 40)
    rw [hW2, es] at h
    exact h
  have HR := hide (hR.below B2.out)
  have HL := hide hl
  have HBT := hide (hbt.kept B2.out)
  have HK := hide hk
  have H0 := hide (And.intro hf0 (And.intro h00 hcnt))
  have hle : len ≤ 517417236585 := by have := hR.le; omega
  have hf1 := hk.f1
  have hf3 := hk.f3
  have HW2 := hide hW2
  have HCF : Hid (∀ V : World, Below W2.heap.size W2 V → V.cell? ⟨W.heap.size, 0, none⟩ = some (.int .i64 c.f) ∧ V.cell? ⟨W.heap.size + 1, 0, none⟩ = some (.int .u64 (st : Nat)) ∧ V.cell? ⟨W.heap.size + 1, 1, none⟩ = some (.slice bo bn bc) ∧ W.heap.size + 1 < V.heap.size) := fun V hb => by
    have d := (hb.block _ (block_lt D2.out)).trans D2.out
    exact ⟨(cfg_cells ((hb.block _ (block_lt C2.out)).trans C2.out)).1, block_cell d 0, block_cell d 1, block_lt d⟩
  have HFIN : Hid (∀ V, Below W2.heap.size W2 V → Below W.heap.size W V) := fun V hb => B2.out.trans (hb.mono B2.out.size)
  clear hW2 hR hl hbt hk hf0 h00 hcnt es
  obtain ⟨FI, hFI⟩ : ∃ FI, c.f = FI := ⟨_, rfl⟩
  rw [hFI] at HCF hf1 hf3
  have HFI := hide hFI
  clear hFI
  go_enter Try.func13, Try.ntmps13
  go_upto_region 1 with fail
  rw [HW2.out]
  clear HW2
  go_wp2
  go_loopw [9, 10, 11, 12] (fun i _ _ _ wr => ∃ k : Nat, k ≤ i0 ∧ i = .int .i64 k ∧ Hid (Below W2.heap.size W2 wr)) (fun i _ _ _ _ => i0 + 1 - (intOf i).toNat)
  case atStart => exact ⟨0, by omega, rfl, Below.refl _ _⟩
  case round =>
    obtain ⟨k, hk, rfl, HB⟩ := hrel
    have hkl : k < len := by omega
    obtain ⟨fk, hfk, hokk, hbl, rfl, hrgk⟩ := wo_at (HR.out.below (HB.out.mono B2.out.size)) (k := k) (by have := HL.out; omega)
    obtain ⟨a0, a1, a2, a3⟩ := wo_cells hrgk
    have HFK := hide hfk
    have HA3 := hide a3
    have HOKK := hide hokk
    have HBL := hide hbl
    have hbl' : sb < wr.heap.size := Nat.lt_of_lt_of_le hbl (HFIN.out wr HB.out).size
    clear hfk hokk hbl hrgk a1 a2 a3
    by_cases hkd : fk.kind = 0
    · rw [hkd] at a0
      have HKD := hide hkd
      clear hkd
      obtain ⟨nuN, hnuN⟩ : ∃ x, fk.m.num = x := ⟨_, rfl⟩
      obtain ⟨ndK, hndK⟩ : ∃ x, fk.m.node = x := ⟨_, rfl⟩
      have hcK1 : wr.cell? ⟨sb, off + k * 52 + 4, none⟩ = some (.int .u64 (nuN : Nat)) := by rw [← hnuN]; exact HA3.out 1 _ HOKK.out.hm.c1
      have hcK2 : wr.cell? ⟨sb, off + k * 52 + 5, none⟩ = some (.int .i64 ndK) := by rw [← hndK]; exact HA3.out 2 _ HOKK.out.hm.c2
      have HCK := hide (And.intro hcK1 hcK2)
      have HEND : Hid (k = i0 → FI + 1 ≤ ((countB (wFr c slot nuN ndK st rv fs 0) : Nat) : Int)) := fun e => by
        have h1 := HFK.out
        rw [e, H0.out.1] at h1
        cases h1
        rw [← hnuN, ← hndK, ← HFI.out]
        exact H0.out.2.2
      clear hnuN hndK hcK1 hcK2 HA3 HOKK
      go_wp2
      clear a0
      obtain ⟨wo, hwo⟩ : ∃ wo, wo = wr := ⟨_, rfl⟩
      subst hwo
      go_loopw [10, 11, 12] (fun fr i _ wr => ∃ l : Nat, l ≤ len ∧ i = .int .i64 l ∧ fr = .int .u32 ((wFr c slot nuN ndK st rv (fs.take l) 0 : Nat) : Int) ∧ Hid (Below wo.heap.size wo wr)) (fun _ i _ _ => len - (intOf i).toNat)
      case atStart => exact ⟨0, by omega, rfl, rfl, Below.refl _ _⟩
      case round =>
        obtain ⟨l, hll, rfl, rfl, HB5⟩ := hrel
        have HB25 : Hid (Below W2.heap.size W2 wr) := HB.out.trans (HB5.out.mono HB.out.size)
        by_cases hlt : l < len
        · obtain ⟨fl, hfl, hokl, hbl2, _, hrgl⟩ := wo_at (HR.out.below (HB25.out.mono B2.out.size)) (k := l) (by have := HL.out; omega)
          obtain ⟨b0, b1, b2, b3⟩ := wo_cells hrgl
          have HB0 := hide (And.intro b0 b1)
          have HB3 := hide b3
          have HOK : Hid (fl.m.Ok wr.heap.size wr) := hokl.hm.wide (HFIN.out wr HB25.out).size
          have hbl5 : sb < wr.heap.size := Nat.lt_of_lt_of_le hbl' HB5.out.size
          have HSM : Hid ((Try.prog.info? 47).map (·.size) = some fl.m.cs.length) := by show _ = _; rw [HOK.out.len]; kernel_rfl
          have HLEN := hide HOK.out.len
          have HON := hide HOK.out.one
          have HNO : Hid (wP c slot nuN ndK st rv fl = false → wFr c slot nuN ndK st rv (fs.take (l + 1)) 0 = wFr c slot nuN ndK st rv (fs.take l) 0) := fun e => by
            rw [List.take_add_one, hfl, Option.toList_some, wFr_snoc, if_neg (by rw [e]; decide)]
          have HYES : Hid (wP c slot nuN ndK st rv fl = true → wFr c slot nuN ndK st rv (fs.take (l + 1)) 0 = withB (wFr c slot nuN ndK st rv (fs.take l) 0) (fl.src : Int)) := fun e => by
            rw [List.take_add_one, hfl, Option.toList_some, wFr_snoc, if_pos e]
          obtain ⟨q6, hq6⟩ : ∃ q6, (decide (fl.m.st = st) && decide (fl.m.rs.map Rq.val = rv)) = q6 := ⟨_, rfl⟩
          have HWP : Hid (wP c slot nuN ndK st rv fl = (decide (fl.kind = 0) && decide ((fl.src : Int) ≤ 2 * FI) && decide (fl.m.kind = 7) && decide (fl.m.slot = slot) && (decide (fl.m.num = nuN) && decide (fl.m.node = ndK)) && q6)) := by
            show _ = _
            rw [← hq6, ← HFI.out]
            rfl
          have HFRL := hide (wFr_lt c slot nuN ndK st rv (fs.take l) 0 (by decide))
          clear hfl hokl hbl2 hrgl b0 b1 b2 b3
          obtain ⟨LC, hLC⟩ : ∃ LC, fl.m.cs = LC := ⟨_, rfl⟩
          rw [hLC] at HB3 HSM HLEN HON
          have HLC := hide hLC
          clear hLC
          go_upto_region 10 with (first | (refine wpList_load_mid rfl 47 _ rfl sb (off + l * 52 + 3) rfl LC _ HB3.out Try.underlying47 rfl HSM.out ?_; simp only [Act.put, List.setIfInBounds_toArray, List.set_cons_zero, List.set_cons_succ]) | (refine wpList_store_box rfl 47 _ _ rfl LC rfl rfl (by rw [HLEN.out]; rfl) HSM.out HON.out ?_; intro W7 g7 rb7; simp only [Act.put]))
          have HX7 : Hid (W7.heap[wr.heap.size]? = some (.cells LC.toArray 47 (0, 0))) := rb7
          have HL7 : Hid (Below wr.heap.size wr W7) := ⟨g7.os, g7.tape, g7.output, g7.size, fun i hi => g7.block i hi (by simp)⟩
          have HB27 : Hid (Below W2.heap.size W2 W7) := HB25.out.trans (HL7.out.mono HB25.out.size)
          have HBr7 : Hid (Below wo.heap.size wo W7) := HB5.out.trans (HL7.out.mono HB5.out.size)
          have HM7 : Hid (fl.m.Ok W7.heap.size W7) := (HOK.out.below HL7.out).wide HL7.out.size
          have HS7 : Hid (wr.heap.size < W7.heap.size) := block_lt HX7.out
          clear g7 rb7 HB3 HON HLEN HSM
          have KA0 : Hid (∀ V, Hid (Below W7.heap.size W7 V) → V.cell? ⟨sb, off + l * 52, none⟩ = some (.int .i64 fl.kind) ∧ V.cell? ⟨sb, off + l * 52 + 1, none⟩ = some (.int .u64 (fl.src : Nat)) ∧ V.cell? ⟨W.heap.size, 0, none⟩ = some (.int .i64 FI) ∧ V.cell? ⟨wr.heap.size, 0, none⟩ = some (.int .i64 fl.m.kind) ∧ V.cell? ⟨wr.heap.size, 3, none⟩ = some (.int .u64 (fl.m.slot : Nat)) ∧ V.cell? ⟨wr.heap.size, 1, none⟩ = some (.int .u64 (fl.m.num : Nat)) ∧ V.cell? ⟨wr.heap.size, 2, none⟩ = some (.int .i64 fl.m.node) ∧ V.cell? ⟨wr.heap.size, 6, none⟩ = some (.int .u64 (fl.m.st : Nat)) ∧ V.cell? ⟨wr.heap.size, 7, none⟩ = some (.slice fl.m.ro fl.m.n fl.m.rc) ∧ V.cell? ⟨sb, off + k * 52 + 4, none⟩ = some (.int .u64 (nuN : Nat)) ∧ V.cell? ⟨sb, off + k * 52 + 5, none⟩ = some (.int .i64 ndK) ∧ V.cell? ⟨W.heap.size + 1, 0, none⟩ = some (.int .u64 (st : Nat)) ∧ V.cell? ⟨W.heap.size + 1, 1, none⟩ = some (.slice bo bn bc) ∧ sb < V.heap.size ∧ V.cell? ⟨sb, off + k * 52 + 4 + 1, none⟩ = some (.int .i64 ndK)) := fun V hb => by
            have h2 := HB27.out.trans (hb.out.mono HB27.out.size)
            have h5 := HL7.out.trans (hb.out.mono HL7.out.size)
            have hr := HBr7.out.trans (hb.out.mono HBr7.out.size)
            obtain ⟨f1, f2, f3, f4⟩ := HCF.out V h2
            have hx := (hb.out.block _ (block_lt HX7.out)).trans HX7.out
            rw [← HLC.out] at hx
            have hs := HOK.out
            have e2 := (hr.cell (p := ⟨sb, off + k * 52 + 5, none⟩) hbl').trans HCK.out.2
            exact ⟨(h5.cell (p := ⟨sb, _, none⟩) hbl5).trans HB0.out.1, (h5.cell (p := ⟨sb, _, none⟩) hbl5).trans HB0.out.2, f1, blk_cell hx hs.c0, blk_cell hx hs.c3, blk_cell hx hs.c1, blk_cell hx hs.c2, blk_cell hx hs.c6, blk_cell hx hs.c7, (hr.cell (p := ⟨sb, _, none⟩) hbl').trans HCK.out.1, e2, f2, f3, Nat.lt_of_lt_of_le hbl' hr.size, e2⟩
          have KS : Hid (∀ V, Hid (Below W7.heap.size W7 V) → Calls Try.prog 12 #[.agg #[.int .u64 (fl.m.st : Nat), .slice fl.m.ro fl.m.n fl.m.rc], .agg #[.int .u64 (st : Nat), .slice bo bn bc]] V fun e V' => e = .returned (.bool q6) ∧ Below V.heap.size V V') := fun V hb => by
            have h2 := HB27.out.trans (hb.out.mono HB27.out.size)
            obtain ⟨r2, c2, s2, b2, o2, f5, f6, f7, f8⟩ := (HBT.out.kept (h2.mono (Nat.le_refl _)))
            cases f5
            refine (sameBatch_any (w := V) fl.m.st st fl.m.n s2.length fl.m.rc bc HM7.out.hl rfl ((HM7.out.hR.below hb.out).wide hb.out.size) f7).mono ?_
            rintro e w' ⟨rfl, gg⟩
            refine ⟨?_, gg.out⟩
            rw [f6, hq6]
          have KB : Hid (∀ V V', Hid (Below W7.heap.size W7 V) → Below V.heap.size V V' → Hid (Below W7.heap.size W7 V')) := fun V V' h h' => h.out.trans (h'.mono h.out.size)
          have HKP : Hid (∀ V, Hid (Below W7.heap.size W7 V) → Below wo.heap.size wo V) := fun V h => HBr7.out.trans (h.out.mono HBr7.out.size)
          have HDR : Hid (Below W7.heap.size W7 W7.drew) := (Below.refl _ W7).drew
          clear hq6 HM7 HBr7 HB27 HL7 HOK HB0 HX7 HB25 HB5
          obtain ⟨F2, hF2⟩ : ∃ F2, 2 * FI = F2 := ⟨_, rfl⟩
          have hw1 : IntKind.i64.wrap (2 * FI) = F2 := by rw [← hF2]; exact IntWalk.i64_in _ ⟨by omega, by omega⟩
          have hw2 : IntKind.u64.wrap F2 = F2 := IntWalk.u64_in _ ⟨by omega, by omega⟩
          have hF26 : F2 ≤ 6 := by omega
          rw [hF2] at HWP
          have E4 : Hid (((fl.m.slot : Nat) : Int) = ((slot : Nat) : Int) ↔ fl.m.slot = slot) := by constructor <;> intro h <;> omega
          have E5 : Hid (((fl.m.num : Nat) : Int) = ((nuN : Nat) : Int) ↔ fl.m.num = nuN) := by constructor <;> intro h <;> omega
          have HS0 : Hid (0 ≤ ((fl.src : Nat) : Int)) := by show _ ≤ _; omega
          clear hF2
          generalize wr.heap.size = mbx at *
          obtain ⟨P4, hP4⟩ : ∃ P4, fl.m.slot = P4 := ⟨_, rfl⟩
          obtain ⟨P5, hP5⟩ : ∃ P5, fl.m.num = P5 := ⟨_, rfl⟩
          rw [hP4] at HWP KA0 E4
          rw [hP5] at HWP KA0 E5
          clear hP4 hP5
          generalize fl.kind = kl at *
          generalize ((fl.src : Nat) : Int) = sI at *
          generalize fl.m.kind = mk at *
          generalize fl.m.node = nd at *
          generalize ((fl.m.st : Nat) : Int) = stI at *
          generalize fl.m.ro = mro at *
          generalize fl.m.n = mn at *
          generalize fl.m.rc = mrc at *
          obtain ⟨slI, hslI⟩ : ∃ x : Int, ((P4 : Nat) : Int) = x := ⟨_, rfl⟩
          obtain ⟨nuI, hnuI⟩ : ∃ x : Int, ((P5 : Nat) : Int) = x := ⟨_, rfl⟩
          obtain ⟨nuK, hnuK⟩ : ∃ x : Int, ((nuN : Nat) : Int) = x := ⟨_, rfl⟩
          obtain ⟨bsI, hbsI⟩ : ∃ x : Int, ((st : Nat) : Int) = x := ⟨_, rfl⟩
          rw [hslI] at E4
          rw [hnuI, hnuK] at E5
          rw [hslI, hnuI, hnuK, hbsI] at KA0
          rw [hbsI] at KS
          have KA := KA0
          clear KA0 hslI hnuI hnuK hbsI
          by_cases g1 : ¬ (kl = 0)
          · have d1 : (kl == 0) = false := by simp [g1]
            have HT : Hid (wFr c slot nuN ndK st rv (fs.take (l + 1)) 0 = wFr c slot nuN ndK st rv (fs.take l) 0) := HNO.out (by
              rw [HWP.out]
              simp [g1])
            refine region_assign (fun V => Hid (Below W7.heap.size W7 V)) [(36, .slice (some ⟨sb, off, none⟩) len cap), (37, .int .i64 (l : Nat)), (38, .pointer (some ⟨sb, off + l * 52, none⟩)), (39, .pointer (some ⟨sb, off + l * 52, none⟩)), (40, .int .i64 kl), (41, .bool false), (42, .bool false), (43, undef), (44, undef), (45, undef), (46, undef), (47, undef), (48, undef), (49, undef), (50, undef), (51, undef), (52, undef), (53, .bool false), (54, .bool false), (55, undef), (56, undef), (57, undef), (58, .bool false), (59, .bool false), (60, undef), (61, undef), (62, undef), (63, undef), (64, .bool false), (65, .bool false), (66, undef), (67, undef), (68, undef), (69, undef), (70, undef), (71, undef), (72, undef), (73, undef), (74, undef), (75, .bool false), (76, .bool false), (77, undef), (78, undef), (79, undef), (80, undef), (81, .bool false)] _ (by kernel_rfl) (by kernel_rfl) (by kernel_rfl) (by kernel_rfl) rfl HDR.out ?_ (fun V1 HV1 => ?_)
            · simp only [putAll, Act.put, List.setIfInBounds_toArray, List.set_cons_zero, List.set_cons_succ]
              repeat' (first | exact AllTo.nil | refine AllTo.cons ?_ ?_)
              all_goals first
                | exact stepTo_no (by rfl) rfl
                | (refine stepTo_yes (by rfl) (fun V hV K hK => ?_)
                   obtain ⟨r0, r1, r2, r3, r4, r5, r6, r7, r8, r9, r10, r11, r12, r13, r14⟩ := KA.out V hV
                   go_simp
                   first
                     | exact hK.out _ hV)
            simp only [putAll, Act.put, List.setIfInBounds_toArray, List.set_cons_zero, List.set_cons_succ]
            have HF := hide (HKP.out V1 HV1)
            clear HV1 KA KS KB
            go_wp2
            go_roundw
            case rel => exact ⟨l + 1, by omega, by go_num, by rw [HT.out], HF.out⟩
            case measure => simp [intOf]; omega
          have g1 := Decidable.not_not.1 g1
          have d1 : (kl == 0) = true := by simp [g1]
          have G1 := hide g1
          clear g1
          by_cases g2 : ¬ (sI ≤ F2)
          · have d2 : decide (sI ≤ F2) = false := decide_eq_false g2
            have HT : Hid (wFr c slot nuN ndK st rv (fs.take (l + 1)) 0 = wFr c slot nuN ndK st rv (fs.take l) 0) := HNO.out (by
              rw [HWP.out]
              simp only [decide_eq_false g2, Bool.false_and, Bool.and_false])
            refine region_assign (fun V => Hid (Below W7.heap.size W7 V)) [(36, .slice (some ⟨sb, off, none⟩) len cap), (37, .int .i64 (l : Nat)), (38, .pointer (some ⟨sb, off + l * 52, none⟩)), (39, .pointer (some ⟨sb, off + l * 52, none⟩)), (40, .int .i64 kl), (41, .bool true), (42, .bool true), (43, .slice (some ⟨sb, off, none⟩) len cap), (44, .int .i64 (l : Nat)), (45, .pointer (some ⟨sb, off + l * 52, none⟩)), (46, .pointer (some ⟨sb, off + l * 52 + 1, none⟩)), (47, .int .u64 sI), (48, .pointer (some ⟨W.heap.size, 0, none⟩)), (49, .int .i64 FI), (50, .int .i64 F2), (51, .int .u64 F2), (52, .bool false), (53, .bool false), (54, .bool false), (55, undef), (56, undef), (57, undef), (58, .bool false), (59, .bool false), (60, undef), (61, undef), (62, undef), (63, undef), (64, .bool false), (65, .bool false), (66, undef), (67, undef), (68, undef), (69, undef), (70, undef), (71, undef), (72, undef), (73, undef), (74, undef), (75, .bool false), (76, .bool false), (77, undef), (78, undef), (79, undef), (80, undef), (81, .bool false)] _ (by kernel_rfl) (by kernel_rfl) (by kernel_rfl) (by kernel_rfl) rfl HDR.out ?_ (fun V1 HV1 => ?_)
            · simp only [putAll, Act.put, List.setIfInBounds_toArray, List.set_cons_zero, List.set_cons_succ]
              repeat' (first | exact AllTo.nil | refine AllTo.cons ?_ ?_)
              all_goals first
                | exact stepTo_no (by rfl) rfl
                | (refine stepTo_yes (by rfl) (fun V hV K hK => ?_)
                   obtain ⟨r0, r1, r2, r3, r4, r5, r6, r7, r8, r9, r10, r11, r12, r13, r14⟩ := KA.out V hV
                   go_simp
                   first
                     | exact hK.out _ hV)
            simp only [putAll, Act.put, List.setIfInBounds_toArray, List.set_cons_zero, List.set_cons_succ]
            have HF := hide (HKP.out V1 HV1)
            clear HV1 KA KS KB
            go_wp2
            go_roundw
            case rel => exact ⟨l + 1, by omega, by go_num, by rw [HT.out], HF.out⟩
            case measure => simp [intOf]; omega
          have g2 := Decidable.not_not.1 g2
          have d2 : decide (sI ≤ F2) = true := decide_eq_true g2
          have G2 := hide g2
          clear g2
          by_cases g3 : ¬ (mk = 7)
          · have d3 : (mk == 7) = false := by simp [g3]
            have HT : Hid (wFr c slot nuN ndK st rv (fs.take (l + 1)) 0 = wFr c slot nuN ndK st rv (fs.take l) 0) := HNO.out (by
              rw [HWP.out]
              simp only [decide_eq_false g3, Bool.false_and, Bool.and_false])
            refine region_assign (fun V => Hid (Below W7.heap.size W7 V)) [(36, .slice (some ⟨sb, off, none⟩) len cap), (37, .int .i64 (l : Nat)), (38, .pointer (some ⟨sb, off + l * 52, none⟩)), (39, .pointer (some ⟨sb, off + l * 52, none⟩)), (40, .int .i64 kl), (41, .bool true), (42, .bool true), (43, .slice (some ⟨sb, off, none⟩) len cap), (44, .int .i64 (l : Nat)), (45, .pointer (some ⟨sb, off + l * 52, none⟩)), (46, .pointer (some ⟨sb, off + l * 52 + 1, none⟩)), (47, .int .u64 sI), (48, .pointer (some ⟨W.heap.size, 0, none⟩)), (49, .int .i64 FI), (50, .int .i64 F2), (51, .int .u64 F2), (52, .bool true), (53, .bool true), (54, .bool true), (55, .pointer (some ⟨mbx, 0, none⟩)), (56, .int .i64 mk), (57, .bool false), (58, .bool false), (59, .bool false), (60, undef), (61, undef), (62, undef), (63, undef), (64, .bool false), (65, .bool false), (66, undef), (67, undef), (68, undef), (69, undef), (70, undef), (71, undef), (72, undef), (73, undef), (74, undef), (75, .bool false), (76, .bool false), (77, undef), (78, undef), (79, undef), (80, undef), (81, .bool false)] _ (by kernel_rfl) (by kernel_rfl) (by kernel_rfl) (by kernel_rfl) rfl HDR.out ?_ (fun V1 HV1 => ?_)
            · simp only [putAll, Act.put, List.setIfInBounds_toArray, List.set_cons_zero, List.set_cons_succ]
              repeat' (first | exact AllTo.nil | refine AllTo.cons ?_ ?_)
              all_goals first
                | exact stepTo_no (by rfl) rfl
                | (refine stepTo_yes (by rfl) (fun V hV K hK => ?_)
                   obtain ⟨r0, r1, r2, r3, r4, r5, r6, r7, r8, r9, r10, r11, r12, r13, r14⟩ := KA.out V hV
                   go_simp
                   first
                     | exact hK.out _ hV)
            simp only [putAll, Act.put, List.setIfInBounds_toArray, List.set_cons_zero, List.set_cons_succ]
            have HF := hide (HKP.out V1 HV1)
            clear HV1 KA KS KB
            go_wp2
            go_roundw
            case rel => exact ⟨l + 1, by omega, by go_num, by rw [HT.out], HF.out⟩
            case measure => simp [intOf]; omega
          have g3 := Decidable.not_not.1 g3
          have d3 : (mk == 7) = true := by simp [g3]
          have G3 := hide g3
          clear g3
          by_cases g4 : ¬ (slI = ((slot : Nat) : Int))
          · have d4 : (slI == ((slot : Nat) : Int)) = false := by simp only [beq_eq_false_iff_ne, ne_eq]; exact g4
            have HT : Hid (wFr c slot nuN ndK st rv (fs.take (l + 1)) 0 = wFr c slot nuN ndK st rv (fs.take l) 0) := HNO.out (by
              rw [HWP.out]
              simp only [decide_eq_false (fun e => g4 (E4.out.2 e)), Bool.false_and, Bool.and_false])
            refine region_assign (fun V => Hid (Below W7.heap.size W7 V)) [(36, .slice (some ⟨sb, off, none⟩) len cap), (37, .int .i64 (l : Nat)), (38, .pointer (some ⟨sb, off + l * 52, none⟩)), (39, .pointer (some ⟨sb, off + l * 52, none⟩)), (40, .int .i64 kl), (41, .bool true), (42, .bool true), (43, .slice (some ⟨sb, off, none⟩) len cap), (44, .int .i64 (l : Nat)), (45, .pointer (some ⟨sb, off + l * 52, none⟩)), (46, .pointer (some ⟨sb, off + l * 52 + 1, none⟩)), (47, .int .u64 sI), (48, .pointer (some ⟨W.heap.size, 0, none⟩)), (49, .int .i64 FI), (50, .int .i64 F2), (51, .int .u64 F2), (52, .bool true), (53, .bool true), (54, .bool true), (55, .pointer (some ⟨mbx, 0, none⟩)), (56, .int .i64 mk), (57, .bool true), (58, .bool true), (59, .bool true), (60, .pointer (some ⟨mbx, 3, none⟩)), (61, .int .u64 slI), (62, .int .u64 ((slot : Nat) : Int)), (63, .bool false), (64, .bool false), (65, .bool false), (66, undef), (67, undef), (68, undef), (69, undef), (70, undef), (71, undef), (72, undef), (73, undef), (74, undef), (75, .bool false), (76, .bool false), (77, undef), (78, undef), (79, undef), (80, undef), (81, .bool false)] _ (by kernel_rfl) (by kernel_rfl) (by kernel_rfl) (by kernel_rfl) rfl HDR.out ?_ (fun V1 HV1 => ?_)
            · simp only [putAll, Act.put, List.setIfInBounds_toArray, List.set_cons_zero, List.set_cons_succ]
              repeat' (first | exact AllTo.nil | refine AllTo.cons ?_ ?_)
              all_goals first
                | exact stepTo_no (by rfl) rfl
                | (refine stepTo_yes (by rfl) (fun V hV K hK => ?_)
                   obtain ⟨r0, r1, r2, r3, r4, r5, r6, r7, r8, r9, r10, r11, r12, r13, r14⟩ := KA.out V hV
                   go_simp
                   first
                     | exact hK.out _ hV)
            simp only [putAll, Act.put, List.setIfInBounds_toArray, List.set_cons_zero, List.set_cons_succ]
            have HF := hide (HKP.out V1 HV1)
            clear HV1 KA KS KB
            go_wp2
            go_roundw
            case rel => exact ⟨l + 1, by omega, by go_num, by rw [HT.out], HF.out⟩
            case measure => simp [intOf]; omega
          have g4 := Decidable.not_not.1 g4
          have d4 : (slI == ((slot : Nat) : Int)) = true := by simp only [beq_iff_eq]; exact g4
          have G4 := hide g4
          clear g4
          by_cases g5 : ¬ (nuI = nuK ∧ nd = ndK)
          · have hbe : ∀ w, (binOp BinOp.eql 36 (.agg #[.int .u64 nuI, .int .i64 nd]) (.agg #[.int .u64 nuK, .int .i64 ndK])).run Try.prog w = .ok (.bool false) w := fun w => by
              have h := bal_eq nuI nuK nd ndK w
              have e : (decide (nuI = nuK) && decide (nd = ndK)) = false := by
                by_cases e1 : nuI = nuK
                · rw [decide_eq_false (p := nd = ndK) (fun e2 => g5 ⟨e1, e2⟩), Bool.and_false]
                · rw [decide_eq_false e1]; rfl
              rw [e] at h
              exact h
            have HT : Hid (wFr c slot nuN ndK st rv (fs.take (l + 1)) 0 = wFr c slot nuN ndK st rv (fs.take l) 0) := HNO.out (by
              rw [HWP.out]
              have e : (decide (P5 = nuN) && decide (nd = ndK)) = false := by
                by_cases e1 : P5 = nuN
                · rw [decide_eq_false (p := nd = ndK) (fun e2 => g5 ⟨E5.out.2 e1, e2⟩), Bool.and_false]
                · rw [decide_eq_false e1]; rfl
              simp only [e, Bool.false_and, Bool.and_false])
            refine region_assign (fun V => Hid (Below W7.heap.size W7 V)) [(36, .slice (some ⟨sb, off, none⟩) len cap), (37, .int .i64 (l : Nat)), (38, .pointer (some ⟨sb, off + l * 52, none⟩)), (39, .pointer (some ⟨sb, off + l * 52, none⟩)), (40, .int .i64 kl), (41, .bool true), (42, .bool true), (43, .slice (some ⟨sb, off, none⟩) len cap), (44, .int .i64 (l : Nat)), (45, .pointer (some ⟨sb, off + l * 52, none⟩)), (46, .pointer (some ⟨sb, off + l * 52 + 1, none⟩)), (47, .int .u64 sI), (48, .pointer (some ⟨W.heap.size, 0, none⟩)), (49, .int .i64 FI), (50, .int .i64 F2), (51, .int .u64 F2), (52, .bool true), (53, .bool true), (54, .bool true), (55, .pointer (some ⟨mbx, 0, none⟩)), (56, .int .i64 mk), (57, .bool true), (58, .bool true), (59, .bool true), (60, .pointer (some ⟨mbx, 3, none⟩)), (61, .int .u64 slI), (62, .int .u64 ((slot : Nat) : Int)), (63, .bool true), (64, .bool true), (65, .bool true), (66, .pointer (some ⟨mbx, 1, none⟩)), (67, .agg #[.int .u64 nuI, .int .i64 nd]), (68, .slice (some ⟨sb, off, none⟩) len cap), (69, .int .i64 (k : Nat)), (70, .pointer (some ⟨sb, off + k * 52, none⟩)), (71, .pointer (some ⟨sb, off + k * 52 + 3, none⟩)), (72, .pointer (some ⟨sb, off + k * 52 + 4, none⟩)), (73, .agg #[.int .u64 nuK, .int .i64 ndK]), (74, .bool false), (75, .bool false), (76, .bool false), (77, undef), (78, undef), (79, undef), (80, undef), (81, .bool false)] _ (by kernel_rfl) (by kernel_rfl) (by kernel_rfl) (by kernel_rfl) rfl HDR.out ?_ (fun V1 HV1 => ?_)
            · simp only [putAll, Act.put, List.setIfInBounds_toArray, List.set_cons_zero, List.set_cons_succ]
              repeat' (first | exact AllTo.nil | refine AllTo.cons ?_ ?_)
              all_goals first
                | exact stepTo_no (by rfl) rfl
                | (refine stepTo_yes (by rfl) (fun V hV K hK => ?_)
                   obtain ⟨r0, r1, r2, r3, r4, r5, r6, r7, r8, r9, r10, r11, r12, r13, r14⟩ := KA.out V hV
                   go_simp
                   first
                     | exact hK.out _ hV)
            simp only [putAll, Act.put, List.setIfInBounds_toArray, List.set_cons_zero, List.set_cons_succ]
            have HF := hide (HKP.out V1 HV1)
            clear HV1 KA KS KB
            go_wp2
            go_roundw
            case rel => exact ⟨l + 1, by omega, by go_num, by rw [HT.out], HF.out⟩
            case measure => simp [intOf]; omega
          have g5 := Decidable.not_not.1 g5
          have hbe : ∀ w, (binOp BinOp.eql 36 (.agg #[.int .u64 nuI, .int .i64 nd]) (.agg #[.int .u64 nuK, .int .i64 ndK])).run Try.prog w = .ok (.bool true) w := fun w => by
            have h := bal_eq nuI nuK nd ndK w
            rw [decide_eq_true g5.1, decide_eq_true g5.2] at h
            exact h
          have G5 := hide g5
          clear g5
          have HWQ : Hid (wP c slot nuN ndK st rv fl = q6) := by
            show _ = _
            rw [HWP.out, decide_eq_true G1.out, decide_eq_true G2.out, decide_eq_true G3.out, decide_eq_true (E4.out.1 G4.out), decide_eq_true (E5.out.1 G5.out.1), decide_eq_true G5.out.2]
            simp
          refine region_assign (fun V => Hid (Below W7.heap.size W7 V)) [(36, .slice (some ⟨sb, off, none⟩) len cap), (37, .int .i64 (l : Nat)), (38, .pointer (some ⟨sb, off + l * 52, none⟩)), (39, .pointer (some ⟨sb, off + l * 52, none⟩)), (40, .int .i64 kl), (41, .bool true), (42, .bool true), (43, .slice (some ⟨sb, off, none⟩) len cap), (44, .int .i64 (l : Nat)), (45, .pointer (some ⟨sb, off + l * 52, none⟩)), (46, .pointer (some ⟨sb, off + l * 52 + 1, none⟩)), (47, .int .u64 sI), (48, .pointer (some ⟨W.heap.size, 0, none⟩)), (49, .int .i64 FI), (50, .int .i64 F2), (51, .int .u64 F2), (52, .bool true), (53, .bool true), (54, .bool true), (55, .pointer (some ⟨mbx, 0, none⟩)), (56, .int .i64 mk), (57, .bool true), (58, .bool true), (59, .bool true), (60, .pointer (some ⟨mbx, 3, none⟩)), (61, .int .u64 slI), (62, .int .u64 ((slot : Nat) : Int)), (63, .bool true), (64, .bool true), (65, .bool true), (66, .pointer (some ⟨mbx, 1, none⟩)), (67, .agg #[.int .u64 nuI, .int .i64 nd]), (68, .slice (some ⟨sb, off, none⟩) len cap), (69, .int .i64 (k : Nat)), (70, .pointer (some ⟨sb, off + k * 52, none⟩)), (71, .pointer (some ⟨sb, off + k * 52 + 3, none⟩)), (72, .pointer (some ⟨sb, off + k * 52 + 4, none⟩)), (73, .agg #[.int .u64 nuK, .int .i64 ndK]), (74, .bool true), (75, .bool true), (76, .bool true), (77, .pointer (some ⟨mbx, 6, none⟩)), (78, .agg #[.int .u64 stI, .slice mro mn mrc]), (79, .agg #[.int .u64 bsI, .slice bo bn bc]), (80, .bool q6), (81, .bool q6)] _ (by kernel_rfl) (by kernel_rfl) (by kernel_rfl) (by kernel_rfl) rfl HDR.out ?_ (fun V1 HV1 => ?_)
          · simp only [putAll, Act.put, List.setIfInBounds_toArray, List.set_cons_zero, List.set_cons_succ]
            repeat' (first | exact AllTo.nil | refine AllTo.cons ?_ ?_)
            all_goals first
              | exact stepTo_no (by rfl) rfl
              | (refine stepTo_yes (by rfl) (fun V hV K hK => ?_)
                 obtain ⟨r0, r1, r2, r3, r4, r5, r6, r7, r8, r9, r10, r11, r12, r13, r14⟩ := KA.out V hV
                 go_simp
                 first
                   | exact hK.out _ hV
                   | (go_at_call 12; refine (KS.out V hV).mono ?_; rintro e V' ⟨rfl, hV'⟩; exact hK.out _ (KB.out _ _ hV hV')))
          simp only [putAll, Act.put, List.setIfInBounds_toArray, List.set_cons_zero, List.set_cons_succ]
          have HF := hide (HKP.out V1 HV1)
          cases q6 with
          | false =>
            have HT := hide (HNO.out HWQ.out)
            clear HV1 KA KS KB
            go_wp2
            go_roundw
            case rel => exact ⟨l + 1, by omega, by go_num, by rw [HT.out], HF.out⟩
            case measure => simp [intOf]; omega
          | true =>
            have HT := hide (HYES.out HWQ.out)
            obtain ⟨r0, r1, r2, r3, r4, r5, r6, r7, r8, r9, r10, r11, r12, r13, r14⟩ := KA.out V1 HV1
            clear r0 r2 r3 r4 r5 r6 r7 r8 r9 r10 r11 r12 r14 HV1 KA KS KB
            have hs0 := HS0.out
            have g2 := G2.out
            have hsw : IntKind.i64.wrap sI = sI := IntWalk.i64_in _ ⟨by omega, by omega⟩
            clear hs0 g2 d1 d2 d3 d4 hbe
            go_wp2_with fail
            refine (refWith _ HFRL.out sI V1).mono ?_
            rintro e w9 ⟨rfl, hw9⟩
            rw [hw9]
            clear hw9
            go_wp2
            go_roundw
            case rel => exact ⟨l + 1, by omega, by go_num, by rw [HT.out], HF.out⟩
            case measure => simp [intOf]; omega
        · obtain rfl : l = len := by omega
          have HTA : Hid (fs.take l = fs) := List.take_of_length_le (by have := HL.out; omega)
          rw [HTA.out]
          have HFRL := hide (wFr_lt c slot nuN ndK st rv fs 0 (by decide))
          generalize wFr c slot nuN ndK st rv fs 0 = fr at *
          have KCn : Hid (∀ V, Calls Try.prog 27 #[.int .u32 (fr : Nat)] V fun e V' => e = .returned (.int .i64 ((countB fr : Nat) : Int)) ∧ V' = V) := fun V => refCount fr HFRL.out V
          obtain ⟨cn, hcn⟩ : ∃ cn : Int, ((countB fr : Nat) : Int) = cn := ⟨_, rfl⟩
          rw [hcn] at KCn HEND
          clear hcn HFRL
          obtain ⟨F1, hF1⟩ : ∃ F1, FI + 1 = F1 := ⟨_, rfl⟩
          have hw1 : IntKind.i64.wrap (FI + 1) = F1 := by rw [← hF1]; exact IntWalk.i64_in _ ⟨by omega, by omega⟩
          rw [hF1] at HEND
          clear hF1
          have KF : Hid (∀ V, Hid (Below wr.heap.size wr V) → V.cell? ⟨W.heap.size, 0, none⟩ = some (.int .i64 FI) ∧ W.heap.size + 1 < V.heap.size) := fun V hb => by
            obtain ⟨f1, f2, f3, f4⟩ := HCF.out V (HB25.out.trans (hb.out.mono HB25.out.size))
            exact ⟨f1, f4⟩
          have HDR : Hid (Below wr.heap.size wr wr.drew) := (Below.refl _ wr).drew
          generalize ((fr : Nat) : Int) = frI at *
          by_cases hz : F1 ≤ cn
          · have dz : decide (F1 ≤ cn) = true := decide_eq_true hz
            go_upto_region 12 with fail
            refine region_assign (fun V => Hid (Below wr.heap.size wr V)) [(90, .int .u32 frI), (91, .int .i64 cn), (92, .pointer (some ⟨W.heap.size, 0, none⟩)), (93, .int .i64 FI), (94, .int .i64 F1), (95, .bool true)] _ (by kernel_rfl) (by kernel_rfl) (by kernel_rfl) (by kernel_rfl) rfl HDR.out ?_ (fun V1 HV1 => ?_)
            · simp only [putAll, Act.put, List.setIfInBounds_toArray, List.set_cons_zero, List.set_cons_succ]
              repeat' (first | exact AllTo.nil | refine AllTo.cons ?_ ?_)
              all_goals first
                | exact stepTo_no (by rfl) rfl
                | (refine stepTo_yes (by rfl) (fun V hV K hK => ?_)
                   obtain ⟨r0, r1⟩ := KF.out V hV
                   go_simp
                   first
                     | exact hK.out _ hV
                     | (go_at_call 27; refine (KCn.out V).mono ?_; rintro e V' ⟨rfl, rfl⟩; exact hK.out _ hV))
            simp only [putAll, Act.put, List.setIfInBounds_toArray, List.set_cons_zero, List.set_cons_succ]
            have HE := hide (HFIN.out V1 (HB25.out.trans (HV1.out.mono HB25.out.size)))
            go_wp2
            go_ret
            exact ⟨rfl, HE.out⟩
          · have dz : decide (F1 ≤ cn) = false := decide_eq_false hz
            have hki : k < i0 := by
              have h : k ≠ i0 := fun e => hz (HEND.out e)
              omega
            go_upto_region 12 with fail
            refine region_assign (fun V => Hid (Below wr.heap.size wr V)) [(90, .int .u32 frI), (91, .int .i64 cn), (92, .pointer (some ⟨W.heap.size, 0, none⟩)), (93, .int .i64 FI), (94, .int .i64 F1), (95, .bool false)] _ (by kernel_rfl) (by kernel_rfl) (by kernel_rfl) (by kernel_rfl) rfl HDR.out ?_ (fun V1 HV1 => ?_)
            · simp only [putAll, Act.put, List.setIfInBounds_toArray, List.set_cons_zero, List.set_cons_succ]
              repeat' (first | exact AllTo.nil | refine AllTo.cons ?_ ?_)
              all_goals first
                | exact stepTo_no (by rfl) rfl
                | (refine stepTo_yes (by rfl) (fun V hV K hK => ?_)
                   obtain ⟨r0, r1⟩ := KF.out V hV
                   go_simp
                   first
                     | exact hK.out _ hV
                     | (go_at_call 27; refine (KCn.out V).mono ?_; rintro e V' ⟨rfl, rfl⟩; exact hK.out _ hV))
            simp only [putAll, Act.put, List.setIfInBounds_toArray, List.set_cons_zero, List.set_cons_succ]
            have HE := hide (HB25.out.trans (HV1.out.mono HB25.out.size))
            go_wp2
            go_roundw
            case rel => exact ⟨k + 1, by omega, by go_num, HE.out⟩
            case measure => simp [intOf]; omega
    · have d : (fk.kind != 0) = true := by simp [hkd]
      have hlt : k < i0 := by
        have h : k ≠ i0 := fun e => by
          have h1 := HFK.out
          rw [e, H0.out.1] at h1
          cases h1
          exact hkd H0.out.2.1
        omega
      clear hkd
      generalize fk.kind = kd at *
      go_wp2
      go_roundw
      case rel => exact ⟨k + 1, by omega, by go_num, HB.out⟩
      case measure => simp [intOf]; omega
end Go.Proofs.Ytnpekdkfjjeeeaa
