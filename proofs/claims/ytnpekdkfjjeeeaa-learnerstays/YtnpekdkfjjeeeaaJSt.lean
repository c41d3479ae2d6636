import Derived.Test.YtnpekdkfjjeeeaaJSy
import Derived.Deep.DeepCutAuto
import Derived.Deep.CutRange
namespace Go.Proofs.Ytnpekdkfjjeeeaa
open Go.RowKit Crc

set_option maxRecDepth 100000 in
set_option maxHeartbeats 8000000 in
theorem stays_walk (c : Cf) (hin : c.In) (low : Nat) (w : World) {ao1 : Option Addr} {fs1 : List Wo} {sb1 off1 : Nat} (len1 cap1 : Nat) (hl1 : fs1.length = len1) (hR1 : Wos w.heap.size w ao1 fs1 sb1 off1) (slot : Nat) (hslot : slot < 18446744073709551616) {ao2 : Option Addr} {fs2 : List Wo} {sb2 off2 : Nat} (len2 cap2 : Nat) (hl2 : fs2.length = len2) (hR2 : Wos w.heap.size w ao2 fs2 sb2 off2) :
    Calls Try.prog 3 #[.agg c.cells, .int .u64 (low : Nat), .slice ao1 len1 cap1, .int .u64 (slot : Nat), .slice ao2 len2 cap2] w fun e w' => e = .returned (.bool true) ∧ Below w.heap.size w w' := by
  obtain ⟨W1, hW1⟩ : ∃ W1, w.alloc (.cells c.cells 24) = W1 := ⟨_, rfl⟩
  have B1 : Hid (Below w.heap.size w W1) := by rw [← hW1]; exact (Below.refl _ w).alloc (Nat.le_refl _) _
  have C1 : Hid (W1.heap[w.heap.size]? = some (.cells c.cells 24 (0, 0))) := by rw [← hW1]; exact alloc_atK _ _
  have HMY := hide (may_any c low W1)
  have HLV := hide (fun (h : c.mayL low = true) (V : World) => livesL c hin (by unfold Cf.mayL at h; simp only [Bool.and_eq_true, decide_eq_true_eq] at h; exact h.1) V)
  have HNW := hide (fun (h : c.mayL low = true) (V : World) => newL c hin (by unfold Cf.mayL at h; simp only [Bool.and_eq_true, decide_eq_true_eq] at h; exact h.1) low (by unfold Cf.mayL at h; simp only [Bool.and_eq_true, decide_eq_true_eq] at h; exact h.2) V)
  have HCK : Hid (c.mayL low = true → c.Ok) := fun h => cf_ok (by unfold Cf.mayL at h; simp only [Bool.and_eq_true, decide_eq_true_eq] at h; exact h.1)
  have HC := hide (fun (V : World) (h : V.heap[w.heap.size]? = some (.cells c.cells 24 (0, 0))) => cfg_cells h)
  have HR1 := hide hR1
  have HR2 := hide hR2
  have HL1 := hide hl1
  have HL2 := hide hl2
  have hle1 : len1 ≤ 517417236585 := by have := hR1.le; omega
  have hle2 : len2 ≤ 517417236585 := by have := hR2.le; omega
  have HSLT := hide hslot
  obtain ⟨z0, z1, z2, z3, z4, z5, z6, z7, z8, z9⟩ := HC.out W1 C1.out
  have HW1 := hide hW1
  clear hW1 hin hR1 hR2 hl1 hl2 hslot
  unfold Cf.cells at HMY HLV HNW
  go_enter Try.func3, Try.ntmps3
  go_upto_region 1 with fail
  rw [HW1.out]
  clear HW1
  go_wp2_with fail
  refine HMY.out.mono ?_
  rintro e w2 ⟨rfl, hb2⟩
  have B2 := hide (B1.out.trans (hb2.out.mono B1.out.size))
  have C2 := hide ((hb2.out.block _ (block_lt C1.out)).trans C1.out)
  clear z0 z1 z2 z3 z4 z5 z6 z7 z8 z9 hb2 HMY B1 C1
  cases hmy : c.mayL low with
  | false =>
    go_wp2
    go_ret
    exact ⟨rfl, B2.out⟩
  | true =>
  have HK := hide (HCK.out hmy)
  have HLV1 := hide (HLV.out hmy w2)
  have HNW1 := hide (HNW.out hmy)
  clear hmy HLV HNW HCK
  obtain ⟨z0, z1, z2, z3, z4, z5, z6, z7, z8, z9⟩ := HC.out w2 C2.out
  go_wp2_with fail
  refine HLV1.out.mono ?_
  rintro e w3 ⟨rfl, hb3⟩
  have B3 := hide (B2.out.trans (hb3.out.mono B2.out.size))
  have C3 := hide ((hb3.out.block _ (block_lt C2.out)).trans C2.out)
  clear z0 z1 z2 z3 z4 z5 z6 z7 z8 z9 hb3 HLV1 B2 C2
  obtain ⟨z0, z1, z2, z3, z4, z5, z6, z7, z8, z9⟩ := HC.out w3 C3.out
  go_wp2_with fail
  refine (HNW1.out w3).mono ?_
  rintro e w4 ⟨lb, g, mb, rfl, G4⟩
  have HS : Hid (Sy w c lb g mb w4 0 low (fun _ => Jv.zero)) := ⟨B3.out.trans (G4.out.2.1.mono B3.out.size), G4.out.1, Nat.le_trans B3.out.size G4.out.2.2.2, Nat.le_trans B3.out.size G4.out.2.2.1⟩
  clear z0 z1 z2 z3 z4 z5 z6 z7 z8 z9 G4 HNW1 B3 C3 HC
  go_upto_if 38 with fail
  go_cut [] from 39 (fun W => Hid (Sy w c lb g mb W 0 low (fun _ => Jv.zero)))
  case first =>
    go_wp2
    go_meet
    case rel => exact HS.out
  case rest =>
  clear HS
  have HS := hcut
  clear hcut
  go_step
  go_step
  go_cut [13] from 39 (fun _ W => Hid (∃ n u, n ≤ 200 ∧ Sy w c lb g mb W n low u))
  case first =>
    go_wp2
    go_loopw [13] (fun i wr => ∃ k : Nat, k ≤ 200 ∧ i = .int .i64 k ∧ ∃ u, Hid (Sy w c lb g mb wr k low u)) (fun i _ => 200 - (intOf i).toNat)
    case atStart => exact ⟨0, by omega, rfl, _, HS.out⟩
    case round =>
      clear HS
      obtain ⟨k, hk, rfl, u, HS⟩ := hrel
      by_cases hlt : k < len1
      · have d1 : decide ((k : Int) < (len1 : Int)) = true := decide_eq_true (by omega)
        by_cases h200 : k < 200
        · have d2 : decide ((k : Int) < 200) = true := decide_eq_true (by omega)
          obtain ⟨f, hf, hok, hbl, rfl, hrg⟩ := wo_at (HR1.out.below HS.out.bel) (k := k) (by have := HL1.out; omega)
          obtain ⟨c0, c1, c2, c3⟩ := wo_cells hrg
          have HOK : Hid (f.Ok wr.heap.size wr) := ⟨hok.hs, hok.hl, hok.hm.wide HS.out.bel.size⟩
          have HC0 := hide c0
          have HC1 := hide c1
          have HC3 := hide c3
          have hbl' : sb1 < wr.heap.size := Nat.lt_of_lt_of_le hbl HS.out.bel.size
          clear hf hok hrg c1 c2 c3 hbl
          by_cases hk0 : f.kind = 0
          · rw [hk0] at c0
            go_upto_region 12 with fail
            clear c0 hk0
            have HAC := hide (fun (V : World) (hb : Below wr.heap.size wr V) => acceptL HK.out (HS.out.ll.kept hb) (by omega) f.src f.m ((HOK.out.hm.below hb).wide hb.size))
            have HLEN := hide HOK.out.hm.len
            have HSZ : Hid ((Try.prog.info? 47).map (·.size) = some f.m.cs.length) := by show _ = _; rw [HLEN.out]; kernel_rfl
            obtain ⟨z, hz⟩ : ∃ z, (accF c low u f.src f.m.mw).1 = z := ⟨_, rfl⟩
            obtain ⟨SD, hSD⟩ : ∃ SD : Bool → World → Prop, SD = fun d V => (d = false → V = wr.drew) ∧ (d = true → V.cell? ⟨sb1, off1 + k * 52 + 1, none⟩ = some (.int .u64 (f.src : Nat)) ∧ V.rangeAt sb1 (off1 + k * 52 + 3) f.m.cs ∧ sb1 < V.heap.size ∧ Sy w c lb g mb V (k + 1) low (accF c low u f.src f.m.mw).2) := ⟨_, rfl⟩
            have KD : Hid (∀ d V, Hid (SD d V) → V.cell? ⟨sb1, off1 + k * 52 + 1, none⟩ = some (.int .u64 (f.src : Nat)) ∧ V.rangeAt sb1 (off1 + k * 52 + 3) f.m.cs ∧ sb1 < V.heap.size) := fun d V hV => by
              have h0 := hV.out
              rw [hSD] at h0
              cases d with
              | false => have e := h0.1 rfl; subst e; exact ⟨HC1.out, HC3.out, hbl'⟩
              | true => have e := h0.2 rfl; exact ⟨e.1, e.2.1, e.2.2.1⟩
            have KC : Hid (∀ V, Hid (SD false V) → Calls Try.prog 8 #[.pointer (some ⟨lb, 0, none⟩), .int .u64 (f.src : Nat), .agg f.m.cs.toArray] V fun e V' => e = .returned (.bool z) ∧ Hid (SD true V')) := fun V hV => by
              have h0 := hV.out
              rw [hSD] at h0
              have e := h0.1 rfl
              subst e
              have hb : Below wr.heap.size wr wr.drew := (Below.refl _ _).drew
              refine (HAC.out wr.drew hb).mono ?_
              rintro e w' ⟨z', u', rfl, G⟩
              obtain ⟨e1, h1, h2⟩ := G.out
              have ez : z' = z := by rw [← hz, e1]
              have eu : u' = (accF c low u f.src f.m.mw).2 := by rw [e1]
              subst ez
              refine ⟨rfl, ?_⟩
              show SD true _
              rw [hSD]
              refine ⟨fun e => (by cases e), fun _ => ?_⟩
              have hsy : Sy w c lb g mb w' (k + 1) low (accF c low u f.src f.m.mw).2 := (HS.out.kept hb).acc h2 (by rw [← eu]; exact h1)
              obtain ⟨f', hf', hok', hbl'', _, hrg'⟩ := wo_at (HR1.out.below hsy.bel) (k := k) (by have := HL1.out; omega)
              have ho := (HS.out.kept hb).ll.oddM
              have hcell : ∀ j v, wr.cell? ⟨sb1, j, none⟩ = some v → w'.cell? ⟨sb1, j, none⟩ = some v := fun j v hv => by
                have hne : some sb1 ≠ some mb := fun e => by
                  cases e
                  have h1 := hbl''
                  have h2 := HS.out.lm
                  omega
                exact h2.cell (w := wr.drew) hv hne
              exact ⟨hcell _ _ HC1.out, fun j v hv => hcell _ _ (HC3.out j v hv), Nat.lt_of_lt_of_le hbl' h2.size, hsy⟩
            have KT : Hid (∀ V, Hid (SD true V) → Sy w c lb g mb V (k + 1) low (accF c low u f.src f.m.mw).2) := fun V hV => by
              have h0 := hV.out
              rw [hSD] at h0
              exact (h0.2 rfl).2.2.2
            have S0 : Hid (SD false wr.drew) := by
              show SD false _
              rw [hSD]
              exact ⟨fun _ => rfl, fun e => (by cases e)⟩
            clear hSD hz HAC
            generalize f.m.cs = cs at *
            generalize ((f.src : Nat) : Int) = sI at *
            refine region_assign1 (fun d V => Hid (SD d V)) 11 [(55, .pointer (some ⟨lb, 0, none⟩)), (56, .slice (some ⟨sb1, off1, none⟩) len1 cap1), (57, .int .i64 (k : Nat)), (58, .pointer (some ⟨sb1, off1 + k * 52, none⟩)), (59, .pointer (some ⟨sb1, off1 + k * 52 + 1, none⟩)), (60, .int .u64 sI), (61, .slice (some ⟨sb1, off1, none⟩) len1 cap1), (62, .int .i64 (k : Nat)), (63, .pointer (some ⟨sb1, off1 + k * 52, none⟩)), (64, .pointer (some ⟨sb1, off1 + k * 52 + 3, none⟩)), (65, .agg cs.toArray), (66, .bool z)] _ (by kernel_rfl) (by decide) (by kernel_rfl) (by kernel_rfl) (by kernel_rfl) rfl S0 ?_ (fun V2 HV2 => ?_)
            · simp only [putAll, Act.put, List.setIfInBounds_toArray, List.set_cons_zero, List.set_cons_succ]
              repeat' (first | exact AllFro.nil | refine AllFro.at_ rfl ?_ ?_ | refine AllFro.off (by decide) ?_ ?_)
              all_goals first
                | (intro d
                   refine stepTo_yes (by rfl) (fun V hV K hK => ?_)
                   refine wp_load_mid 47 _ rfl sb1 (off1 + k * 52 + 3) rfl cs _ (KD.out d V hV).2.1 Try.underlying47 rfl HSZ.out ?_
                   exact hK.out _ hV)
                | (intro d
                   refine stepTo_yes (by rfl) (fun V hV K hK => ?_)
                   obtain ⟨q0, _, q2⟩ := KD.out d V hV
                   go_simp
                   exact hK.out _ hV)
                | (refine ⟨by rfl, fun V hV K hK => ?_⟩
                   go_simp
                   go_at_call 8
                   refine (KC.out V hV).mono ?_
                   rintro e V' ⟨rfl, hV'⟩
                   exact hK.out _ hV')
            simp only [putAll, Act.put, List.setIfInBounds_toArray, List.set_cons_zero, List.set_cons_succ]
            have HT := hide (KT.out V2 HV2)
            clear KT KC KD HV2 S0
            go_wp2
            go_roundw
            case rel => exact ⟨k + 1, by omega, by go_num, _, HT.out⟩
            case measure => simp [intOf]; omega
          · have d3 : (f.kind == 0) = false := by simp [hk0]
            clear hk0
            have HT : Hid (Sy w c lb g mb wr (k + 1) low u) := ⟨HS.out.bel, HS.out.ll.mono (Nat.le_succ _), HS.out.lm, HS.out.lll⟩
            generalize f.kind = kd at *
            go_wp2
            go_roundw
            case rel => exact ⟨k + 1, by omega, by go_num, _, HT.out⟩
            case measure => simp [intOf]; omega
        · have d2 : decide ((k : Int) < 200) = false := decide_eq_false (by omega)
          have HT : Hid (∃ n u, n ≤ 200 ∧ Sy w c lb g mb wr n low u) := ⟨k, u, hk, HS.out⟩
          go_wp2
          go_meet
          case rel => exact HT.out
      · have d1 : decide ((k : Int) < (len1 : Int)) = false := decide_eq_false (by omega)
        have HT : Hid (∃ n u, n ≤ 200 ∧ Sy w c lb g mb wr n low u) := ⟨k, u, hk, HS.out⟩
        go_wp2
        go_meet
        case rel => exact HT.out
  case rest =>
  clear HS
  obtain ⟨n1, u, hn1, hS1⟩ := hcut.out
  have HS := hide hS1
  clear hcut hS1
  have HDC := hide (decidedL HK.out HS.out.ll slot HSLT.out)
  obtain ⟨t0, ht0⟩ : ∃ t0, u slot = t0 := ⟨_, rfl⟩
  rw [ht0] at HDC
  have HT0 := hide ht0
  clear ht0
  obtain ⟨tq, htq⟩ : ∃ tq, c.maj t0.fr = tq := ⟨_, rfl⟩
  rw [htq] at HDC
  have HTQ := hide htq
  clear htq
  obtain ⟨dS, hdS⟩ : ∃ dS, decS c t0 = dS := ⟨_, rfl⟩
  rw [hdS] at HDC
  have HDS := hide hdS
  clear hdS
  go_wp2_with fail
  refine HDC.out.mono ?_
  rintro e w5 ⟨ao, m', cap, rfl, G5⟩
  obtain ⟨w6, hw6⟩ : ∃ w6, w5.alloc (.cells #[.int .u64 (dS : Nat), .slice ao m' cap] 40) = w6 := ⟨_, rfl⟩
  have HZ : Hid (Sz w c lb g mb slot t0 w5.heap.size (.slice ao m' cap) w6 n1 low u) := by
    have b6 : Below w5.heap.size w5 w6 := by rw [← hw6]; exact below_alloc1 w5 _
    refine ⟨(HS.out.kept G5.out.2).kept b6, ?_, ?_, .inr (fun _ => HT0.out)⟩
    · rw [HDS.out, ← hw6]; exact alloc_atK _ _
    · rw [HDS.out]; exact G5.out.1.kept b6
  have HW6 := hide hw6
  clear hw6 G5 HDC HS HT0
  obtain ⟨sl, hsl⟩ : ∃ sl, Value.slice ao m' cap = sl := ⟨_, rfl⟩
  rw [hsl] at HZ
  have HSL := hide hsl
  clear hsl
  go_upto_region 14 with fail
  rw [HW6.out]
  clear HW6
  generalize w5.heap.size = xb at *
  go_wp2
  go_loopw [16, 17, 18, 19] (fun i p q r wr => ∃ k : Nat, k ≤ 200 ∧ i = .int .i64 k ∧ ∃ n low' u', n ≤ 200 + k ∧ Hid (Sz w c lb g mb slot t0 xb sl wr n low' u')) (fun i _ _ _ _ => 200 - (intOf i).toNat)
  case atStart => exact ⟨0, by omega, rfl, n1, low, u, by omega, HZ.out⟩
  case round =>
    clear HZ
    obtain ⟨k, hk, rfl, n, low', u', hnk, HZ⟩ := hrel
    by_cases hlt : k < len2
    · have d1 : decide ((k : Int) < (len2 : Int)) = true := decide_eq_true (by omega)
      by_cases h200 : k < 200
      · have d2 : decide ((k : Int) < 200) = true := decide_eq_true (by omega)
        obtain ⟨f, hf, hok, hbl, rfl, hrg⟩ := wo_at (HR2.out.below HZ.out.sy.bel) (k := k) (by have := HL2.out; omega)
        have HOK : Hid (f.Ok wr.heap.size wr) := ⟨hok.hs, hok.hl, hok.hm.wide HZ.out.sy.bel.size⟩
        have HRG := hide hrg
        have hbl' : sb2 < wr.heap.size := Nat.lt_of_lt_of_le hbl HZ.out.sy.bel.size
        have HLEN : Hid (f.cells.length = 52) := by show _ = _; unfold Wo.cells; simp only [List.length_cons]; rw [HOK.out.hm.len]
        have HON : Hid (∀ v ∈ f.cells, v.oneCell' = true) := fun v hv => by
          simp only [Wo.cells, List.mem_cons] at hv
          rcases hv with rfl | rfl | rfl | hv
          · rfl
          · rfl
          · rfl
          · exact HOK.out.hm.one v hv
        have HSZ : Hid ((Try.prog.info? 49).map (·.size) = some f.cells.length) := by show _ = _; rw [HLEN.out]; kernel_rfl
        have HSM : Hid ((Try.prog.info? 47).map (·.size) = some f.m.cs.length) := by show _ = _; rw [HOK.out.hm.len]; kernel_rfl
        have HX0 : Hid (f.cells[0]? = some (.int .i64 f.kind)) := rfl
        have HX1 : Hid (f.cells[1]? = some (.int .u64 (f.src : Nat))) := rfl
        have HX2 : Hid (f.cells[2]? = some (.int .u64 (f.slot : Nat))) := rfl
        have HX3 : Hid (∀ V : World, ∀ b : Nat, V.heap[b]? = some (.cells f.cells.toArray 49 (0, 0)) → V.rangeAt b 3 f.m.cs) := fun V b h => by
          have h2 := (wo_cells (blk_range h)).2.2.2
          simpa using h2
        obtain ⟨LC, hLC⟩ : ∃ LC, f.cells = LC := ⟨_, rfl⟩
        rw [hLC] at HLEN HON HSZ HX0 HX1 HX2 HX3 HRG
        clear hf hok hrg hbl hLC
        go_upto_region 17 with fail
        go_upto_region 18 with (first | (refine wpList_load_mid rfl 49 _ rfl sb2 (off2 + k * 52) rfl LC _ HRG.out Try.underlying49 rfl HSZ.out ?_; simp only [Act.put, List.setIfInBounds_toArray, List.set_cons_zero, List.set_cons_succ]) | (refine wpList_store_box rfl 49 _ _ rfl LC rfl rfl (by rw [HLEN.out]; rfl) HSZ.out HON.out ?_; intro W7 g7 rb7; simp only [Act.put]))
        have HB7 : Hid (W7.heap[wr.heap.size]? = some (.cells LC.toArray 49 (0, 0))) := rb7
        have HL7 : Hid (Below wr.heap.size wr W7) := ⟨g7.os, g7.tape, g7.output, g7.size, fun i hi => g7.block i hi (by simp)⟩
        have HZ7 := hide (HZ.out.kept HL7.out)
        have HM7 : Hid (f.m.Ok W7.heap.size W7) := (HOK.out.hm.below HL7.out).wide HL7.out.size
        clear g7 rb7 HRG HSZ HON HLEN HZ HL7
        generalize wr.heap.size = wb at *
        have x0 := blk_cell HB7.out HX0.out
        obtain ⟨q0, hq0⟩ : ∃ q0, (f.kind == 0) = q0 := ⟨_, rfl⟩
        obtain ⟨q1, hq1⟩ : ∃ q1, (f.kind == 1) = q1 := ⟨_, rfl⟩
        generalize f.kind = kd at *
        go_upto_if 89 with fail
        clear x0
        go_cut [] from 73 to 124 (fun W => Hid (W.heap[wb]? = some (.cells LC.toArray 49 (0, 0))) ∧ ∃ n' u2, n' ≤ 200 + (k + 1) ∧ Hid (Sz w c lb g mb slot t0 xb sl W n' low' u2))
        case first =>
          cases q0 with
          | false =>
            clear hq0
            go_wp2
            go_meet
            case rel => exact ⟨HB7.out, n, u', by omega, HZ7.out⟩
          | true =>
            clear hq0
            have HAC := hide (acceptL HK.out HZ7.out.sy.ll (by omega) f.src f.m HM7.out)
            have HR3 := hide (HX3.out W7 wb HB7.out)
            have HAF : Hid (∀ V' z u2, accF c low' u' f.src f.m.mw = (z, u2) → LL V' lb g mb (n + 1) c low' u2 → W7.grownBy V' (some mb) → V'.heap[wb]? = some (.cells LC.toArray 49 (0, 0)) ∧ Sz w c lb g mb slot t0 xb sl V' (n + 1) low' u2) := fun V' z u2 e1 h1 h2 => by
              have eu : u2 = (accF c low' u' f.src f.m.mw).2 := by rw [e1]
              subst eu
              exact ⟨blk_map HZ7.out.sy.ll h2 HB7.out, HZ7.out.acc h2 h1⟩
            have y1 := blk_cell HB7.out HX1.out
            generalize f.m.cs = mcs at *
            go_wp2_with (first | (refine wpList_load_mid rfl 47 _ rfl wb 3 rfl mcs _ HR3.out Try.underlying47 rfl HSM.out ?_; simp only [Act.put, List.setIfInBounds_toArray, List.set_cons_zero, List.set_cons_succ]))
            refine HAC.out.mono ?_
            rintro e V' ⟨z, u2, rfl, G⟩
            have HT := hide (HAF.out V' z u2 G.out.1 G.out.2.1 G.out.2.2)
            clear G HAF HAC y1
            go_wp2
            go_meet
            case rel => exact ⟨HT.out.1, n + 1, u2, by omega, HT.out.2⟩
        case rest =>
        clear HZ7 HB7 HM7 hq0
        obtain ⟨HB8, n8, u8, hn8, HZ8⟩ := hcut
        have x0 := blk_cell HB8.out HX0.out
        go_upto_if 98 with fail
        clear x0
        go_cut [] from 73 to 124 (fun W => ∃ low2 u2, Hid (Sz w c lb g mb slot t0 xb sl W n8 low2 u2))
        case first =>
          cases q1 with
          | false =>
            clear hq1
            go_wp2
            go_meet
            case rel => exact ⟨low', u8, HZ8.out⟩
          | true =>
            clear hq1
            have HFG := hide (forgetL HK.out HZ8.out.sy.ll f.slot (max low' (min f.slot c.ms)) rfl)
            have y2 := blk_cell HB8.out HX2.out
            go_wp2_with fail
            refine HFG.out.mono ?_
            rintro e V' ⟨rfl, G⟩
            have HT := hide (HZ8.out.fgt (Nat.le_max_left _ _) G.out.2 G.out.1)
            clear G HFG y2
            go_wp2
            go_meet
            case rel => exact ⟨_, _, HT.out⟩
        case rest =>
        clear HZ8 HB8 hq1
        obtain ⟨low2, u2, HZ9⟩ := hcut
        have HD9 := hide (decidedL HK.out HZ9.out.sy.ll slot HSLT.out)
        obtain ⟨t9, ht9⟩ : ∃ t9, u2 slot = t9 := ⟨_, rfl⟩
        rw [ht9] at HD9
        have HT9 := hide ht9
        clear ht9
        obtain ⟨sq, hsq⟩ : ∃ sq, c.maj t9.fr = sq := ⟨_, rfl⟩
        rw [hsq] at HD9
        have HSQ := hide hsq
        clear hsq
        obtain ⟨dS9, hdS9⟩ : ∃ d, decS c t9 = d := ⟨_, rfl⟩
        rw [hdS9] at HD9
        have HDS9 := hide hdS9
        clear hdS9
        go_wp2_with fail
        refine HD9.out.mono ?_
        rintro e w10 ⟨ao9, m9, cap9, rfl, G9⟩
        obtain ⟨w11, hw11⟩ : ∃ w11, w10.alloc (.cells #[.int .u64 (dS9 : Nat), .slice ao9 m9 cap9] 40) = w11 := ⟨_, rfl⟩
        have b11 : Below w10.heap.size w10 w11 := by rw [← hw11]; exact below_alloc1 w10 _
        have HB11 : Hid (w11.heap[w10.heap.size]? = some (.cells #[.int .u64 (dS9 : Nat), .slice ao9 m9 cap9] 40 (0, 0))) := by rw [← hw11]; exact alloc_atK _ _
        have HZ11 := hide ((HZ9.out.kept G9.out.2).kept b11)
        have HBT11 := hide (G9.out.1.kept b11)
        have HW11 := hide hw11
        clear hw11 b11 G9 HD9 HZ9
        have HLW := hide (lowL HZ11.out.sy.ll)
        go_upto_region 23 with fail
        rw [HW11.out]
        clear HW11
        generalize w10.heap.size = yb at *
        go_wp2_with fail
        refine HLW.out.mono ?_
        rintro e w12 ⟨rfl, hw12⟩
        rw [hw12]
        clear hw12 HLW
        by_cases hlo : slot < low2
        · have d5 : decide ((slot : Int) < (low2 : Int)) = true := decide_eq_true (by omega)
          have d5' : decide (slot < low2) = true := decide_eq_true hlo
          have es : sq = false := by
            rw [← HSQ.out, ← HT9.out, HZ11.out.sy.ll.zer slot hlo]
            exact maj_zero HK.out
          subst es
          clear hlo
          go_wp2
          go_roundw
          case rel => exact ⟨k + 1, by omega, by go_num, n8, low2, u2, by omega, HZ11.out⟩
          case measure => simp [intOf]; omega
        · have d5 : decide ((slot : Int) < (low2 : Int)) = false := decide_eq_false (by omega)
          have d5' : decide (slot < low2) = false := decide_eq_false hlo
          have HIN : Hid (tq = true → t9 = t0) := fun e => by
            rcases HZ11.out.inv with hi | hi
            · exact absurd hi hlo
            · rw [← HT9.out]; exact hi (by rw [HTQ.out]; exact e)
          clear hlo
          cases tq with
          | false =>
            go_wp2
            go_roundw
            case rel => exact ⟨k + 1, by omega, by go_num, n8, low2, u2, by omega, HZ11.out⟩
            case measure => simp [intOf]; omega
          | true =>
            have e9 := HIN.out rfl
            have es : sq = true := by rw [← HSQ.out, e9]; exact HTQ.out
            subst es
            have HSB : Hid (Calls Try.prog 12 #[.agg #[.int .u64 (dS9 : Nat), .slice ao9 m9 cap9], .agg #[.int .u64 (dS : Nat), sl]] w11 fun e w' => e = .returned (.bool true) ∧ Hid (Below w11.heap.size w11 w')) := by
              obtain ⟨r1, c1, s1, b1, o1, f1, f2, f3, f4⟩ := HBT11.out
              have hbt := HZ11.out.bt
              obtain ⟨r2, c2, s2, b2, o2, f5, f6, f7, f8⟩ := hbt
              cases f1
              rw [f5]
              refine (sameBatch_any (w := w11) dS9 dS s1.length s2.length cap9 c2 rfl rfl f3 f7).mono ?_
              rintro e w' ⟨rfl, gg⟩
              refine ⟨?_, gg⟩
              have ev : s1.map Rq.val = s2.map Rq.val := by rw [f2, f6, e9]
              have ed : dS9 = dS := by rw [← HDS9.out, ← HDS.out, e9]
              rw [ev, ed]
              simp
            have y0 := block_cell HB11.out 0
            have y1 := block_cell HB11.out 1
            have z0 := block_cell HZ11.out.box 0
            have z1 := block_cell HZ11.out.box 1
            rw [HDS.out] at z0
            simp at y0 y1 z0 z1
            clear HIN e9
            rw [← HSL.out] at z1 HSB
            go_wp2_with fail
            refine HSB.out.mono ?_
            rintro e w13 ⟨rfl, hb13⟩
            have HT := hide (HZ11.out.kept hb13.out)
            clear y0 y1 z0 z1 HSB hb13
            go_wp2
            go_roundw
            case rel => exact ⟨k + 1, by omega, by go_num, n8, low2, u2, by omega, HT.out⟩
            case measure => simp [intOf]; omega
      · have d2 : decide ((k : Int) < 200) = false := decide_eq_false (by omega)
        have HT := hide HZ.out.sy.bel
        go_wp2
        go_ret
        exact ⟨rfl, HT.out⟩
    · have d1 : decide ((k : Int) < (len2 : Int)) = false := decide_eq_false (by omega)
      have HT := hide HZ.out.sy.bel
      go_wp2
      go_ret
      exact ⟨rfl, HT.out⟩
end Go.Proofs.Ytnpekdkfjjeeeaa
