import Derived.Test.YtnpekdkfjjeeeaaJWd
import Derived.Test.YtnpekdkfjjeeeaaMV
namespace Go.Proofs.Ytnpekdkfjjeeeaa
open Go.RowKit Crc

theorem Wos.take {lim : Nat} {w : World} {ao : Option Addr} {fs : List Wo} {b off : Nat} (h : Wos lim w ao fs b off) (n : Nat) : Wos lim w ao (fs.take n) b off := by
  have hlen : (fs.take n).length ≤ fs.length := by rw [List.length_take]; omega
  refine ⟨fun e => h.ad (by omega), fun e => h.lt (by omega), Nat.le_trans hlen h.le, fun i f hi => h.at_ i f ?_, fun f hf => h.ok f (List.mem_of_mem_take hf)⟩
  rw [List.getElem?_take] at hi
  split at hi
  · exact hi
  · cases hi
theorem blk_fg {V V' : World} {lb g mb n : Nat} {c : Cf} {low : Nat} {u : Nat → Jv} (h : LL V lb g mb n c low u) (hf : FgW lb mb V V') {b : Nat} {cs : Array Value} {t : TypeId} (hb : V.heap[b]? = some (.cells cs t (0, 0))) (ht : t ≠ 73) : V'.heap[b]? = some (.cells cs t (0, 0)) := by
  obtain ⟨V1, g1, g2, o1, o2, hsz⟩ := hf
  have n1 : some b ≠ some lb := fun e => by
    cases e
    rw [h.blk] at hb
    cases hb
    exact ht rfl
  have n2 : some b ≠ some mb := fun e => by
    cases e
    obtain ⟨es, k, ho⟩ := h.obj
    rw [hb] at ho
    cases ho
  have b1 := (g1.block _ (block_lt hb) n1).trans hb
  exact (g2.block _ (block_lt b1) n2).trans b1
/-- What LearnerWitness holds. -/
structure Sw (w : World) (c : Cf) (lb g mb : Nat) (fs : List Wo) (wb : Nat) (LC : List Value) (V : World) (n low : Nat) (u : Nat → Jv) : Prop where
  sy : Sy w c lb g mb V n low u
  cfg : V.heap[w.heap.size]? = some (.cells c.cells 24 (0, 0))
  bx : V.heap[wb]? = some (.cells LC.toArray 49 (0, 0))
  sp : ∀ s, Spoke c fs s (u s)
theorem Sw.kept {w V V' : World} {c : Cf} {lb g mb : Nat} {fs : List Wo} {wb : Nat} {LC : List Value} {n low : Nat} {u : Nat → Jv} (h : Sw w c lb g mb fs wb LC V n low u) (hb : Below V.heap.size V V') : Sw w c lb g mb fs wb LC V' n low u := ⟨h.sy.kept hb, (hb.block _ (block_lt h.cfg)).trans h.cfg, (hb.block _ (block_lt h.bx)).trans h.bx, h.sp⟩

set_option maxRecDepth 100000 in
set_option maxHeartbeats 8000000 in
theorem witness_walk (c : Cf) (hin : c.In) (low : Nat) (w : World) {ao : Option Addr} {fs : List Wo} {sb off : Nat} (len cap : Nat) (hl : fs.length = len) (hcap : len ≤ cap) (hR : Wos w.heap.size w ao fs sb off) :
    Calls Try.prog 4 #[.agg c.cells, .int .u64 (low : Nat), .slice ao len cap] w fun e w' => e = .returned (.bool true) ∧ Below w.heap.size w w' := by
  obtain ⟨W1, hW1⟩ : ∃ W1, w.alloc (.cells c.cells 24) = W1 := ⟨_, rfl⟩
  have B1 : Hid (Below w.heap.size w W1) := by rw [← hW1]; exact (Below.refl _ w).alloc (Nat.le_refl _) _
  have C1 : Hid (W1.heap[w.heap.size]? = some (.cells c.cells 24 (0, 0))) := by rw [← hW1]; exact alloc_atK _ _
  have HMY := hide (may_any c low W1)
  have HLV := hide (fun (h : c.mayL low = true) (V : World) => livesL c hin (by unfold Cf.mayL at h; simp only [Bool.and_eq_true, decide_eq_true_eq] at h; exact h.1) V)
  have HNW := hide (fun (h : c.mayL low = true) (V : World) => newL c hin (by unfold Cf.mayL at h; simp only [Bool.and_eq_true, decide_eq_true_eq] at h; exact h.1) low (by unfold Cf.mayL at h; simp only [Bool.and_eq_true, decide_eq_true_eq] at h; exact h.2) V)
  have HCK : Hid (c.mayL low = true → c.Ok) := fun h => cf_ok (by unfold Cf.mayL at h; simp only [Bool.and_eq_true, decide_eq_true_eq] at h; exact h.1)
  have HC := hide (fun (V : World) (h : V.heap[w.heap.size]? = some (.cells c.cells 24 (0, 0))) => cfg_cells h)
  have HR := hide hR
  have HL := hide hl
  have hle : len ≤ 517417236585 := by have := hR.le; omega
  obtain ⟨z0, z1, z2, z3, z4, z5, z6, z7, z8, z9⟩ := HC.out W1 C1.out
  have HW1 := hide hW1
  clear hW1 hin hR hl
  unfold Cf.cells at HMY HLV HNW
  go_enter Try.func4, Try.ntmps4
  go_upto_region 1 with fail
  rw [HW1.out]
  clear HW1
  go_wp2_with fail
  refine HMY.out.mono ?_
  rintro e w2 ⟨rfl, hb2⟩
  have B2 := hide (B1.out.trans (hb2.out.mono B1.out.size))
  have C2 := hide ((hb2.out.block _ (block_lt C1.out)).trans C1.out)
  clear z0 z1 z2 z3 z4 z5 z6 z7 z8 z9 hb2 HMY B1 C1
  cases hmy : c.mayL low with
  | false =>
    go_wp2
    go_ret
    exact ⟨rfl, B2.out⟩
  | true =>
  have HK := hide (HCK.out hmy)
  have HLV1 := hide (HLV.out hmy w2)
  have HNW1 := hide (HNW.out hmy)
  clear hmy HLV HNW HCK
  obtain ⟨z0, z1, z2, z3, z4, z5, z6, z7, z8, z9⟩ := HC.out w2 C2.out
  go_wp2_with fail
  refine HLV1.out.mono ?_
  rintro e w3 ⟨rfl, hb3⟩
  have B3 := hide (B2.out.trans (hb3.out.mono B2.out.size))
  have C3 := hide ((hb3.out.block _ (block_lt C2.out)).trans C2.out)
  clear z0 z1 z2 z3 z4 z5 z6 z7 z8 z9 hb3 HLV1 B2 C2
  obtain ⟨z0, z1, z2, z3, z4, z5, z6, z7, z8, z9⟩ := HC.out w3 C3.out
  go_wp2_with fail
  refine (HNW1.out w3).mono ?_
  rintro e w4 ⟨lb, g, mb, rfl, G4⟩
  have HS : Hid (Sy w c lb g mb w4 0 low (fun _ => Jv.zero)) := ⟨B3.out.trans (G4.out.2.1.mono B3.out.size), G4.out.1, Nat.le_trans B3.out.size G4.out.2.2.2, Nat.le_trans B3.out.size G4.out.2.2.1⟩
  have C4 := hide ((G4.out.2.1.block _ (block_lt C3.out)).trans C3.out)
  clear z0 z1 z2 z3 z4 z5 z6 z7 z8 z9 G4 HNW1 B3 C3 HC
  go_wp2
  go_loopw [9, 10, 11, 12] (fun i _ _ _ wr => ∃ k : Nat, k ≤ 200 ∧ i = .int .i64 k ∧ ∃ n low' u, n ≤ k ∧ Hid (Sy w c lb g mb wr n low' u) ∧ Hid (wr.heap[w.heap.size]? = some (.cells c.cells 24 (0, 0))) ∧ Hid (∀ s, Spoke c (fs.take k) s (u s))) (fun i _ _ _ _ => 200 - (intOf i).toNat)
  case atStart => exact ⟨0, by omega, rfl, 0, low, _, Nat.le_refl _, HS.out, C4.out, fun s => spoke_zero c _ s⟩
  case round =>
    clear HS C4
    obtain ⟨k, hk, rfl, n, low', u, hnk, HS, HCB, HSK⟩ := hrel
    by_cases hlt : k < len
    · have d1 : decide ((k : Int) < (len : Int)) = true := decide_eq_true (by omega)
      by_cases h200 : k < 200
      · have d2 : decide ((k : Int) < 200) = true := decide_eq_true (by omega)
        obtain ⟨f, hf, hok, hbl, rfl, hrg⟩ := wo_at (HR.out.below HS.out.bel) (k := k) (by have := HL.out; omega)
        have HF := hide hf
        have HOK : Hid (f.Ok wr.heap.size wr) := ⟨hok.hs, hok.hl, hok.hm.wide HS.out.bel.size⟩
        have HFS := hide hok.hl
        have HRG := hide hrg
        have hbl' : sb < wr.heap.size := Nat.lt_of_lt_of_le hbl HS.out.bel.size
        have HLEN : Hid (f.cells.length = 52) := by show _ = _; unfold Wo.cells; simp only [List.length_cons]; rw [HOK.out.hm.len]
        have HON : Hid (∀ v ∈ f.cells, v.oneCell' = true) := fun v hv => by
          simp only [Wo.cells, List.mem_cons] at hv
          rcases hv with rfl | rfl | rfl | hv
          · rfl
          · rfl
          · rfl
          · exact HOK.out.hm.one v hv
        have HSZ : Hid ((Try.prog.info? 49).map (·.size) = some f.cells.length) := by show _ = _; rw [HLEN.out]; kernel_rfl
        have HSM : Hid ((Try.prog.info? 47).map (·.size) = some f.m.cs.length) := by show _ = _; rw [HOK.out.hm.len]; kernel_rfl
        have HX0 : Hid (f.cells[0]? = some (.int .i64 f.kind)) := rfl
        have HX1 : Hid (f.cells[1]? = some (.int .u64 (f.src : Nat))) := rfl
        have HX2 : Hid (f.cells[2]? = some (.int .u64 (f.slot : Nat))) := rfl
        have HX3 : Hid (∀ V : World, ∀ b : Nat, V.heap[b]? = some (.cells f.cells.toArray 49 (0, 0)) → V.rangeAt b 3 f.m.cs) := fun V b h => by
          have h2 := (wo_cells (blk_range h)).2.2.2
          simpa using h2
        have HMO : Hid (∀ g ∈ fs.take k, g ∈ fs.take (k + 1)) := fun g hg => by rw [List.take_add_one]; exact List.mem_append_left _ hg
        have HMF : Hid (f ∈ fs.take (k + 1)) := by show _ ∈ _; rw [List.take_add_one, hf]; simp
        obtain ⟨LC, hLC⟩ : ∃ LC, f.cells = LC := ⟨_, rfl⟩
        rw [hLC] at HLEN HON HSZ HX0 HX1 HX2 HX3 HRG
        clear hf hok hrg hbl hLC
        go_upto_region 11 with fail
        go_upto_region 12 with (first | (refine wpList_load_mid rfl 49 _ rfl sb (off + k * 52) rfl LC _ HRG.out Try.underlying49 rfl HSZ.out ?_; simp only [Act.put, List.setIfInBounds_toArray, List.set_cons_zero, List.set_cons_succ]) | (refine wpList_store_box rfl 49 _ _ rfl LC rfl rfl (by rw [HLEN.out]; rfl) HSZ.out HON.out ?_; intro W7 g7 rb7; simp only [Act.put]))
        have HL7 : Hid (Below wr.heap.size wr W7) := ⟨g7.os, g7.tape, g7.output, g7.size, fun i hi => g7.block i hi (by simp)⟩
        have HW7 : Hid (Sw w c lb g mb (fs.take k) wr.heap.size LC W7 n low' u) := ⟨HS.out.kept HL7.out, (HL7.out.block _ (block_lt HCB.out)).trans HCB.out, rb7, HSK.out⟩
        have HM7 : Hid (f.m.Ok W7.heap.size W7) := (HOK.out.hm.below HL7.out).wide HL7.out.size
        clear g7 rb7 HRG HSZ HON HLEN HL7 HS HCB HSK
        generalize wr.heap.size = wb at *
        have x0 := blk_cell HW7.out.bx HX0.out
        by_cases hk0 : f.kind = 0
        · rw [hk0] at x0
          have HAC := hide (acceptL HK.out HW7.out.sy.ll (by omega) f.src f.m HM7.out)
          have HR3 := hide (HX3.out W7 wb HW7.out.bx)
          have HAF : Hid (∀ V' z u2, accF c low' u f.src f.m.mw = (z, u2) → LL V' lb g mb (n + 1) c low' u2 → W7.grownBy V' (some mb) → Sw w c lb g mb (fs.take (k + 1)) wb LC V' (n + 1) low' u2) := fun V' z u2 e1 h1 h2 => by
            have eu : u2 = (accF c low' u f.src f.m.mw).2 := by rw [e1]
            subst eu
            exact ⟨HW7.out.sy.acc h2 h1, blk_map HW7.out.sy.ll h2 HW7.out.cfg, blk_map HW7.out.sy.ll h2 HW7.out.bx, spoke_acc HK.out HW7.out.sp HMO.out HMF.out hk0⟩
          have y1 := blk_cell HW7.out.bx HX1.out
          have y9 := block_lt HW7.out.bx
          clear hk0
          generalize f.m.cs = mcs at *
          go_wp2_with (first | (refine wpList_load_mid rfl 47 _ rfl wb 3 rfl mcs _ HR3.out Try.underlying47 rfl HSM.out ?_; simp only [Act.put, List.setIfInBounds_toArray, List.set_cons_zero, List.set_cons_succ]))
          refine HAC.out.mono ?_
          rintro e V' ⟨z, u2, rfl, G⟩
          have HW9 := hide (HAF.out V' z u2 G.out.1 G.out.2.1 G.out.2.2)
          clear G HAF HAC y1 y9 x0 HW7
          generalize low' = low2 at *
          have HD9 := hide (decidedL HK.out HW9.out.sy.ll f.slot HFS.out)
          obtain ⟨t9, ht9⟩ : ∃ t9, u2 f.slot = t9 := ⟨_, rfl⟩
          rw [ht9] at HD9
          have HSP : Hid (Spoke c (fs.take (k + 1)) f.slot t9) := by have h := HW9.out.sp f.slot; rw [ht9] at h; exact h
          clear ht9
          obtain ⟨sq, hsq⟩ : ∃ sq, c.maj t9.fr = sq := ⟨_, rfl⟩
          rw [hsq] at HD9
          have HSQ := hide hsq
          clear hsq
          obtain ⟨dS9, hdS9⟩ : ∃ d, decS c t9 = d := ⟨_, rfl⟩
          rw [hdS9] at HD9
          have HDS9 := hide hdS9
          clear hdS9
          have y2 := blk_cell HW9.out.bx HX2.out
          go_wp2_with fail
          refine HD9.out.mono ?_
          rintro e w10 ⟨ao9, m9, cap9, rfl, G9⟩
          clear y2
          obtain ⟨w11, hw11⟩ : ∃ w11, w10.alloc (.cells #[.int .u64 (dS9 : Nat), .slice ao9 m9 cap9] 40) = w11 := ⟨_, rfl⟩
          have b11 : Below w10.heap.size w10 w11 := by rw [← hw11]; exact below_alloc1 w10 _
          have HB11 : Hid (w11.heap[w10.heap.size]? = some (.cells #[.int .u64 (dS9 : Nat), .slice ao9 m9 cap9] 40 (0, 0))) := by rw [← hw11]; exact alloc_atK _ _
          have HW11 := hide ((HW9.out.kept G9.out.2).kept b11)
          have HBT11 := hide (G9.out.1.kept b11)
          have HWE := hide hw11
          clear hw11 b11 G9 HD9
          go_upto_region 18 with fail
          rw [HWE.out]
          clear HWE
          generalize w10.heap.size = yb at *
          have HKB : Hid (∀ V V', Hid (Below w11.heap.size w11 V) → Below V.heap.size V V' → Hid (Below w11.heap.size w11 V')) := fun V V' h h' => h.out.trans (h'.mono h.out.size)
          have HDR : Hid (Below w11.heap.size w11 w11.drew) := (Below.refl _ w11).drew
          cases sq with
          | false =>
            refine region_assign (fun V => Hid (Below w11.heap.size w11 V)) [(69, .bool false), (70, .bool false), (71, undef), (72, undef), (73, undef), (74, undef), (75, undef), (76, undef), (77, undef), (78, undef), (79, undef), (80, undef), (81, .bool false)] _ (by kernel_rfl) (by kernel_rfl) (by kernel_rfl) (by kernel_rfl) rfl HDR.out ?_ (fun V1 HV1 => ?_)
            · simp only [putAll, Act.put, List.setIfInBounds_toArray, List.set_cons_zero, List.set_cons_succ]
              repeat' (first | exact AllTo.nil | refine AllTo.cons ?_ ?_)
              all_goals first
                | exact stepTo_no (by rfl) rfl
                | (refine stepTo_yes (by rfl) (fun V hV K hK => ?_)
                   go_simp
                   exact hK.out _ hV)
            simp only [putAll, Act.put, List.setIfInBounds_toArray, List.set_cons_zero, List.set_cons_succ]
            have HT := hide (HW11.out.kept HV1.out)
            clear HV1
            go_wp2
            go_roundw
            case rel => exact ⟨k + 1, by omega, by go_num, n + 1, low2, u2, by omega, HT.out.sy, HT.out.cfg, HT.out.sp⟩
            case measure => simp [intOf]; omega
          | true =>
            have KA : Hid (∀ V, Hid (Below w11.heap.size w11 V) → (V.cell? ⟨w.heap.size, 0, none⟩ = some (.int .i64 c.f) ∧ V.cell? ⟨w.heap.size, 1, none⟩ = some (.int .i64 c.mb) ∧ V.cell? ⟨w.heap.size, 2, none⟩ = some (.int .u64 (c.delay : Nat)) ∧ V.cell? ⟨w.heap.size, 3, none⟩ = some (.int .u64 (c.win : Nat)) ∧ V.cell? ⟨w.heap.size, 4, none⟩ = some (.int .u64 (c.every : Nat)) ∧ V.cell? ⟨w.heap.size, 5, none⟩ = some (.int .u64 (c.beat : Nat)) ∧ V.cell? ⟨w.heap.size, 6, none⟩ = some (.int .u64 (c.ep : Nat)) ∧ V.cell? ⟨w.heap.size, 7, none⟩ = some (.int .u64 (c.em : Nat)) ∧ V.cell? ⟨w.heap.size, 8, none⟩ = some (.int .u64 (c.mn : Nat)) ∧ V.cell? ⟨w.heap.size, 9, none⟩ = some (.int .u64 (c.ms : Nat))) ∧ V.cell? ⟨wb, 2, none⟩ = some (.int .u64 (f.slot : Nat)) ∧ V.cell? ⟨yb, 0, none⟩ = some (.int .u64 (dS9 : Nat)) ∧ V.cell? ⟨yb, 1, none⟩ = some (.slice ao9 m9 cap9)) := fun V hb => by
              have hw := HW11.out.kept hb.out
              have hy := (hb.out.block _ (block_lt HB11.out)).trans HB11.out
              exact ⟨cfg_cells hw.cfg, blk_cell hw.bx HX2.out, block_cell hy 0, block_cell hy 1⟩
            have KW : Hid (∀ V, Hid (Below w11.heap.size w11 V) → Calls Try.prog 13 #[.agg #[.int .i64 c.f, .int .i64 c.mb, .int .u64 (c.delay : Nat), .int .u64 (c.win : Nat), .int .u64 (c.every : Nat), .int .u64 (c.beat : Nat), .int .u64 (c.ep : Nat), .int .u64 (c.em : Nat), .int .u64 (c.mn : Nat), .int .u64 (c.ms : Nat)], .slice (some ⟨sb, off, none⟩) (k + 1) cap, .int .u64 (f.slot : Nat), .agg #[.int .u64 (dS9 : Nat), .slice ao9 m9 cap9]] V fun e V' => e = .returned (.bool true) ∧ Below V.heap.size V V') := fun V hb => by
              have hw := HW11.out.kept hb.out
              obtain ⟨f0, hf0, h00, hcnt⟩ := spoke_wit HK.out HSP.out HSQ.out
              obtain ⟨i0, hi0⟩ := List.mem_iff_getElem?.1 hf0
              have hi1 : i0 < k + 1 := by have := (List.getElem?_eq_some_iff.1 hi0).1; rw [List.length_take] at this; omega
              have hbt := HBT11.out.kept hb.out
              have e1 : dS9 = t9.st := by rw [← HDS9.out]; unfold decS; rw [if_pos HSQ.out]
              have e2 : decR c t9 = t9.rs := by unfold decR; rw [if_pos HSQ.out]
              rw [e2] at hbt
              have hR := ((HR.out.below hw.sy.bel).take (k + 1))
              have hR' : Wos V.heap.size V (some ⟨sb, off, none⟩) (fs.take (k + 1)) sb off := ⟨hR.ad, fun e => Nat.lt_of_lt_of_le (hR.lt e) hw.sy.bel.size, hR.le, hR.at_, fun g hg => ⟨(hR.ok g hg).hs, (hR.ok g hg).hl, (hR.ok g hg).hm.wide hw.sy.bel.size⟩⟩
              refine (witnessed_true c HK.out (k + 1) cap (by rw [List.length_take]; have := HL.out; omega) hR' f.slot dS9 hbt i0 hi1 hi0 h00 (by rw [e1]; exact hcnt)).mono ?_
              rintro e V' ⟨rfl, g⟩
              exact ⟨rfl, g.out⟩
            have hkw : IntKind.i64.wrap ((k : Int) + 1) = ((k + 1 : Nat) : Int) := by rw [show ((k + 1 : Nat) : Int) = (k : Int) + 1 by omega]; exact IntWalk.i64_in _ ⟨by omega, by omega⟩
            have HQ : Hid ((0 : Int) ≤ (k : Int) + 1 ∧ (k : Int) + 1 ≤ (cap : Int)) := ⟨by omega, by omega⟩
            refine region_assign (fun V => Hid (Below w11.heap.size w11 V)) [(69, .bool true), (70, .bool true), (71, .agg #[.int .i64 c.f, .int .i64 c.mb, .int .u64 (c.delay : Nat), .int .u64 (c.win : Nat), .int .u64 (c.every : Nat), .int .u64 (c.beat : Nat), .int .u64 (c.ep : Nat), .int .u64 (c.em : Nat), .int .u64 (c.mn : Nat), .int .u64 (c.ms : Nat)]), (72, .slice (some ⟨sb, off, none⟩) len cap), (73, .int .i64 (k : Nat)), (74, .int .i64 ((k + 1 : Nat) : Int)), (75, .slice (some ⟨sb, off, none⟩) (k + 1) cap), (76, .pointer (some ⟨wb, 2, none⟩)), (77, .int .u64 (f.slot : Nat)), (78, .agg #[.int .u64 (dS9 : Nat), .slice ao9 m9 cap9]), (79, .bool true), (80, .bool false), (81, .bool false)] _ (by kernel_rfl) (by kernel_rfl) (by kernel_rfl) (by kernel_rfl) rfl HDR.out ?_ (fun V1 HV1 => ?_)
            · simp only [putAll, Act.put, List.setIfInBounds_toArray, List.set_cons_zero, List.set_cons_succ]
              repeat' (first | exact AllTo.nil | refine AllTo.cons ?_ ?_)
              all_goals first
                | exact stepTo_no (by rfl) rfl
                | (refine stepTo_yes (by rfl) (fun V hV K hK => ?_)
                   obtain ⟨⟨z0, z1, z2, z3, z4, z5, z6, z7, z8, z9⟩, r1, r2, r3⟩ := KA.out V hV
                   go_simp
                   first
                     | exact hK.out _ hV
                     | (rw [if_pos HQ.out]; go_simp; exact hK.out _ hV)
                     | (go_at_call 13; refine (KW.out V hV).mono ?_; rintro e V' ⟨rfl, hV'⟩; exact hK.out _ (HKB.out _ _ hV hV')))
            simp only [putAll, Act.put, List.setIfInBounds_toArray, List.set_cons_zero, List.set_cons_succ]
            have HT := hide (HW11.out.kept HV1.out)
            clear HV1 KA KW HQ hkw
            go_wp2
            go_roundw
            case rel => exact ⟨k + 1, by omega, by go_num, n + 1, low2, u2, by omega, HT.out.sy, HT.out.cfg, HT.out.sp⟩
            case measure => simp [intOf]; omega
        · have d3 : (f.kind == 0) = false := by simp [hk0]
          by_cases hk1 : f.kind = 1
          · rw [hk1] at x0
            have HFG := hide (forgetL HK.out HW7.out.sy.ll f.slot (max low' (min f.slot c.ms)) rfl)
            have HFF : Hid (∀ V', LL V' lb g mb n c (max low' (min f.slot c.ms)) (fun x => if x < max low' (min f.slot c.ms) then Jv.zero else u x) → FgW lb mb W7 V' → Sw w c lb g mb (fs.take (k + 1)) wb LC V' n (max low' (min f.slot c.ms)) (fun x => if x < max low' (min f.slot c.ms) then Jv.zero else u x)) := fun V' h1 h2 => by
              refine ⟨HW7.out.sy.fgt h2 h1, blk_fg HW7.out.sy.ll h2 HW7.out.cfg (by decide), blk_fg HW7.out.sy.ll h2 HW7.out.bx (by decide), fun s => ?_⟩
              show Spoke c _ s (if s < max low' (min f.slot c.ms) then Jv.zero else u s)
              split
              · exact spoke_zero c _ s
              · exact (HW7.out.sp s).more HMO.out
            have y2 := blk_cell HW7.out.bx HX2.out
            clear hk0 hk1 d3
            go_wp2_with fail
            refine HFG.out.mono ?_
            rintro e V' ⟨rfl, G⟩
            have HW9 := hide (HFF.out V' G.out.1 G.out.2)
            clear G HFF HFG y2 x0 HW7
            generalize max low' (min f.slot c.ms) = low2 at *
            obtain ⟨u2, hu2⟩ : ∃ u2, (fun x => if x < low2 then Jv.zero else u x) = u2 := ⟨_, rfl⟩
            rw [hu2] at HW9
            clear hu2
            have HD9 := hide (decidedL HK.out HW9.out.sy.ll f.slot HFS.out)
            obtain ⟨t9, ht9⟩ : ∃ t9, u2 f.slot = t9 := ⟨_, rfl⟩
            rw [ht9] at HD9
            have HSP : Hid (Spoke c (fs.take (k + 1)) f.slot t9) := by have h := HW9.out.sp f.slot; rw [ht9] at h; exact h
            clear ht9
            obtain ⟨sq, hsq⟩ : ∃ sq, c.maj t9.fr = sq := ⟨_, rfl⟩
            rw [hsq] at HD9
            have HSQ := hide hsq
            clear hsq
            obtain ⟨dS9, hdS9⟩ : ∃ d, decS c t9 = d := ⟨_, rfl⟩
            rw [hdS9] at HD9
            have HDS9 := hide hdS9
            clear hdS9
            have y2 := blk_cell HW9.out.bx HX2.out
            go_wp2_with fail
            refine HD9.out.mono ?_
            rintro e w10 ⟨ao9, m9, cap9, rfl, G9⟩
            clear y2
            obtain ⟨w11, hw11⟩ : ∃ w11, w10.alloc (.cells #[.int .u64 (dS9 : Nat), .slice ao9 m9 cap9] 40) = w11 := ⟨_, rfl⟩
            have b11 : Below w10.heap.size w10 w11 := by rw [← hw11]; exact below_alloc1 w10 _
            have HB11 : Hid (w11.heap[w10.heap.size]? = some (.cells #[.int .u64 (dS9 : Nat), .slice ao9 m9 cap9] 40 (0, 0))) := by rw [← hw11]; exact alloc_atK _ _
            have HW11 := hide ((HW9.out.kept G9.out.2).kept b11)
            have HBT11 := hide (G9.out.1.kept b11)
            have HWE := hide hw11
            clear hw11 b11 G9 HD9
            go_upto_region 18 with fail
            rw [HWE.out]
            clear HWE
            generalize w10.heap.size = yb at *
            have HKB : Hid (∀ V V', Hid (Below w11.heap.size w11 V) → Below V.heap.size V V' → Hid (Below w11.heap.size w11 V')) := fun V V' h h' => h.out.trans (h'.mono h.out.size)
            have HDR : Hid (Below w11.heap.size w11 w11.drew) := (Below.refl _ w11).drew
            cases sq with
            | false =>
              refine region_assign (fun V => Hid (Below w11.heap.size w11 V)) [(69, .bool false), (70, .bool false), (71, undef), (72, undef), (73, undef), (74, undef), (75, undef), (76, undef), (77, undef), (78, undef), (79, undef), (80, undef), (81, .bool false)] _ (by kernel_rfl) (by kernel_rfl) (by kernel_rfl) (by kernel_rfl) rfl HDR.out ?_ (fun V1 HV1 => ?_)
              · simp only [putAll, Act.put, List.setIfInBounds_toArray, List.set_cons_zero, List.set_cons_succ]
                repeat' (first | exact AllTo.nil | refine AllTo.cons ?_ ?_)
                all_goals first
                  | exact stepTo_no (by rfl) rfl
                  | (refine stepTo_yes (by rfl) (fun V hV K hK => ?_)
                     go_simp
                     exact hK.out _ hV)
              simp only [putAll, Act.put, List.setIfInBounds_toArray, List.set_cons_zero, List.set_cons_succ]
              have HT := hide (HW11.out.kept HV1.out)
              clear HV1
              go_wp2
              go_roundw
              case rel => exact ⟨k + 1, by omega, by go_num, n, low2, u2, by omega, HT.out.sy, HT.out.cfg, HT.out.sp⟩
              case measure => simp [intOf]; omega
            | true =>
              have KA : Hid (∀ V, Hid (Below w11.heap.size w11 V) → (V.cell? ⟨w.heap.size, 0, none⟩ = some (.int .i64 c.f) ∧ V.cell? ⟨w.heap.size, 1, none⟩ = some (.int .i64 c.mb) ∧ V.cell? ⟨w.heap.size, 2, none⟩ = some (.int .u64 (c.delay : Nat)) ∧ V.cell? ⟨w.heap.size, 3, none⟩ = some (.int .u64 (c.win : Nat)) ∧ V.cell? ⟨w.heap.size, 4, none⟩ = some (.int .u64 (c.every : Nat)) ∧ V.cell? ⟨w.heap.size, 5, none⟩ = some (.int .u64 (c.beat : Nat)) ∧ V.cell? ⟨w.heap.size, 6, none⟩ = some (.int .u64 (c.ep : Nat)) ∧ V.cell? ⟨w.heap.size, 7, none⟩ = some (.int .u64 (c.em : Nat)) ∧ V.cell? ⟨w.heap.size, 8, none⟩ = some (.int .u64 (c.mn : Nat)) ∧ V.cell? ⟨w.heap.size, 9, none⟩ = some (.int .u64 (c.ms : Nat))) ∧ V.cell? ⟨wb, 2, none⟩ = some (.int .u64 (f.slot : Nat)) ∧ V.cell? ⟨yb, 0, none⟩ = some (.int .u64 (dS9 : Nat)) ∧ V.cell? ⟨yb, 1, none⟩ = some (.slice ao9 m9 cap9)) := fun V hb => by
                have hw := HW11.out.kept hb.out
                have hy := (hb.out.block _ (block_lt HB11.out)).trans HB11.out
                exact ⟨cfg_cells hw.cfg, blk_cell hw.bx HX2.out, block_cell hy 0, block_cell hy 1⟩
              have KW : Hid (∀ V, Hid (Below w11.heap.size w11 V) → Calls Try.prog 13 #[.agg #[.int .i64 c.f, .int .i64 c.mb, .int .u64 (c.delay : Nat), .int .u64 (c.win : Nat), .int .u64 (c.every : Nat), .int .u64 (c.beat : Nat), .int .u64 (c.ep : Nat), .int .u64 (c.em : Nat), .int .u64 (c.mn : Nat), .int .u64 (c.ms : Nat)], .slice (some ⟨sb, off, none⟩) (k + 1) cap, .int .u64 (f.slot : Nat), .agg #[.int .u64 (dS9 : Nat), .slice ao9 m9 cap9]] V fun e V' => e = .returned (.bool true) ∧ Below V.heap.size V V') := fun V hb => by
                have hw := HW11.out.kept hb.out
                obtain ⟨f0, hf0, h00, hcnt⟩ := spoke_wit HK.out HSP.out HSQ.out
                obtain ⟨i0, hi0⟩ := List.mem_iff_getElem?.1 hf0
                have hi1 : i0 < k + 1 := by have := (List.getElem?_eq_some_iff.1 hi0).1; rw [List.length_take] at this; omega
                have hbt := HBT11.out.kept hb.out
                have e1 : dS9 = t9.st := by rw [← HDS9.out]; unfold decS; rw [if_pos HSQ.out]
                have e2 : decR c t9 = t9.rs := by unfold decR; rw [if_pos HSQ.out]
                rw [e2] at hbt
                have hR := ((HR.out.below hw.sy.bel).take (k + 1))
                have hR' : Wos V.heap.size V (some ⟨sb, off, none⟩) (fs.take (k + 1)) sb off := ⟨hR.ad, fun e => Nat.lt_of_lt_of_le (hR.lt e) hw.sy.bel.size, hR.le, hR.at_, fun g hg => ⟨(hR.ok g hg).hs, (hR.ok g hg).hl, (hR.ok g hg).hm.wide hw.sy.bel.size⟩⟩
                refine (witnessed_true c HK.out (k + 1) cap (by rw [List.length_take]; have := HL.out; omega) hR' f.slot dS9 hbt i0 hi1 hi0 h00 (by rw [e1]; exact hcnt)).mono ?_
                rintro e V' ⟨rfl, g⟩
                exact ⟨rfl, g.out⟩
              have hkw : IntKind.i64.wrap ((k : Int) + 1) = ((k + 1 : Nat) : Int) := by rw [show ((k + 1 : Nat) : Int) = (k : Int) + 1 by omega]; exact IntWalk.i64_in _ ⟨by omega, by omega⟩
              have HQ : Hid ((0 : Int) ≤ (k : Int) + 1 ∧ (k : Int) + 1 ≤ (cap : Int)) := ⟨by omega, by omega⟩
              refine region_assign (fun V => Hid (Below w11.heap.size w11 V)) [(69, .bool true), (70, .bool true), (71, .agg #[.int .i64 c.f, .int .i64 c.mb, .int .u64 (c.delay : Nat), .int .u64 (c.win : Nat), .int .u64 (c.every : Nat), .int .u64 (c.beat : Nat), .int .u64 (c.ep : Nat), .int .u64 (c.em : Nat), .int .u64 (c.mn : Nat), .int .u64 (c.ms : Nat)]), (72, .slice (some ⟨sb, off, none⟩) len cap), (73, .int .i64 (k : Nat)), (74, .int .i64 ((k + 1 : Nat) : Int)), (75, .slice (some ⟨sb, off, none⟩) (k + 1) cap), (76, .pointer (some ⟨wb, 2, none⟩)), (77, .int .u64 (f.slot : Nat)), (78, .agg #[.int .u64 (dS9 : Nat), .slice ao9 m9 cap9]), (79, .bool true), (80, .bool false), (81, .bool false)] _ (by kernel_rfl) (by kernel_rfl) (by kernel_rfl) (by kernel_rfl) rfl HDR.out ?_ (fun V1 HV1 => ?_)
              · simp only [putAll, Act.put, List.setIfInBounds_toArray, List.set_cons_zero, List.set_cons_succ]
                repeat' (first | exact AllTo.nil | refine AllTo.cons ?_ ?_)
                all_goals first
                  | exact stepTo_no (by rfl) rfl
                  | (refine stepTo_yes (by rfl) (fun V hV K hK => ?_)
                     obtain ⟨⟨z0, z1, z2, z3, z4, z5, z6, z7, z8, z9⟩, r1, r2, r3⟩ := KA.out V hV
                     go_simp
                     first
                       | exact hK.out _ hV
                       | (rw [if_pos HQ.out]; go_simp; exact hK.out _ hV)
                       | (go_at_call 13; refine (KW.out V hV).mono ?_; rintro e V' ⟨rfl, hV'⟩; exact hK.out _ (HKB.out _ _ hV hV')))
              simp only [putAll, Act.put, List.setIfInBounds_toArray, List.set_cons_zero, List.set_cons_succ]
              have HT := hide (HW11.out.kept HV1.out)
              clear HV1 KA KW HQ hkw
              go_wp2
              go_roundw
              case rel => exact ⟨k + 1, by omega, by go_num, n, low2, u2, by omega, HT.out.sy, HT.out.cfg, HT.out.sp⟩
              case measure => simp [intOf]; omega
          · have d4 : (f.kind == 1) = false := by simp [hk1]
            have HW9 : Hid (Sw w c lb g mb (fs.take (k + 1)) wb LC W7 n low' u) := ⟨HW7.out.sy, HW7.out.cfg, HW7.out.bx, fun s => (HW7.out.sp s).more HMO.out⟩
            clear hk0 hk1 HW7
            obtain ⟨u2, hu2⟩ : ∃ u2, u = u2 := ⟨_, rfl⟩
            rw [hu2] at HW9
            clear hu2
            generalize low' = low2 at *
            generalize f.kind = kd at *
            have HD9 := hide (decidedL HK.out HW9.out.sy.ll f.slot HFS.out)
            obtain ⟨t9, ht9⟩ : ∃ t9, u2 f.slot = t9 := ⟨_, rfl⟩
            rw [ht9] at HD9
            have HSP : Hid (Spoke c (fs.take (k + 1)) f.slot t9) := by have h := HW9.out.sp f.slot; rw [ht9] at h; exact h
            clear ht9
            obtain ⟨sq, hsq⟩ : ∃ sq, c.maj t9.fr = sq := ⟨_, rfl⟩
            rw [hsq] at HD9
            have HSQ := hide hsq
            clear hsq
            obtain ⟨dS9, hdS9⟩ : ∃ d, decS c t9 = d := ⟨_, rfl⟩
            rw [hdS9] at HD9
            have HDS9 := hide hdS9
            clear hdS9
            have y2 := blk_cell HW9.out.bx HX2.out
            go_wp2_with fail
            refine HD9.out.mono ?_
            rintro e w10 ⟨ao9, m9, cap9, rfl, G9⟩
            clear y2
            obtain ⟨w11, hw11⟩ : ∃ w11, w10.alloc (.cells #[.int .u64 (dS9 : Nat), .slice ao9 m9 cap9] 40) = w11 := ⟨_, rfl⟩
            have b11 : Below w10.heap.size w10 w11 := by rw [← hw11]; exact below_alloc1 w10 _
            have HB11 : Hid (w11.heap[w10.heap.size]? = some (.cells #[.int .u64 (dS9 : Nat), .slice ao9 m9 cap9] 40 (0, 0))) := by rw [← hw11]; exact alloc_atK _ _
            have HW11 := hide ((HW9.out.kept G9.out.2).kept b11)
            have HBT11 := hide (G9.out.1.kept b11)
            have HWE := hide hw11
            clear hw11 b11 G9 HD9
            go_upto_region 18 with fail
            rw [HWE.out]
            clear HWE
            generalize w10.heap.size = yb at *
            have HKB : Hid (∀ V V', Hid (Below w11.heap.size w11 V) → Below V.heap.size V V' → Hid (Below w11.heap.size w11 V')) := fun V V' h h' => h.out.trans (h'.mono h.out.size)
            have HDR : Hid (Below w11.heap.size w11 w11.drew) := (Below.refl _ w11).drew
            cases sq with
            | false =>
              refine region_assign (fun V => Hid (Below w11.heap.size w11 V)) [(69, .bool false), (70, .bool false), (71, undef), (72, undef), (73, undef), (74, undef), (75, undef), (76, undef), (77, undef), (78, undef), (79, undef), (80, undef), (81, .bool false)] _ (by kernel_rfl) (by kernel_rfl) (by kernel_rfl) (by kernel_rfl) rfl HDR.out ?_ (fun V1 HV1 => ?_)
              · simp only [putAll, Act.put, List.setIfInBounds_toArray, List.set_cons_zero, List.set_cons_succ]
                repeat' (first | exact AllTo.nil | refine AllTo.cons ?_ ?_)
                all_goals first
                  | exact stepTo_no (by rfl) rfl
                  | (refine stepTo_yes (by rfl) (fun V hV K hK => ?_)
                     go_simp
                     exact hK.out _ hV)
              simp only [putAll, Act.put, List.setIfInBounds_toArray, List.set_cons_zero, List.set_cons_succ]
              have HT := hide (HW11.out.kept HV1.out)
              clear HV1
              go_wp2
              go_roundw
              case rel => exact ⟨k + 1, by omega, by go_num, n, low2, u2, by omega, HT.out.sy, HT.out.cfg, HT.out.sp⟩
              case measure => simp [intOf]; omega
            | true =>
              have KA : Hid (∀ V, Hid (Below w11.heap.size w11 V) → (V.cell? ⟨w.heap.size, 0, none⟩ = some (.int .i64 c.f) ∧ V.cell? ⟨w.heap.size, 1, none⟩ = some (.int .i64 c.mb) ∧ V.cell? ⟨w.heap.size, 2, none⟩ = some (.int .u64 (c.delay : Nat)) ∧ V.cell? ⟨w.heap.size, 3, none⟩ = some (.int .u64 (c.win : Nat)) ∧ V.cell? ⟨w.heap.size, 4, none⟩ = some (.int .u64 (c.every : Nat)) ∧ V.cell? ⟨w.heap.size, 5, none⟩ = some (.int .u64 (c.beat : Nat)) ∧ V.cell? ⟨w.heap.size, 6, none⟩ = some (.int .u64 (c.ep : Nat)) ∧ V.cell? ⟨w.heap.size, 7, none⟩ = some (.int .u64 (c.em : Nat)) ∧ V.cell? ⟨w.heap.size, 8, none⟩ = some (.int .u64 (c.mn : Nat)) ∧ V.cell? ⟨w.heap.size, 9, none⟩ = some (.int .u64 (c.ms : Nat))) ∧ V.cell? ⟨wb, 2, none⟩ = some (.int .u64 (f.slot : Nat)) ∧ V.cell? ⟨yb, 0, none⟩ = some (.int .u64 (dS9 : Nat)) ∧ V.cell? ⟨yb, 1, none⟩ = some (.slice ao9 m9 cap9)) := fun V hb => by
                have hw := HW11.out.kept hb.out
                have hy := (hb.out.block _ (block_lt HB11.out)).trans HB11.out
                exact ⟨cfg_cells hw.cfg, blk_cell hw.bx HX2.out, block_cell hy 0, block_cell hy 1⟩
              have KW : Hid (∀ V, Hid (Below w11.heap.size w11 V) → Calls Try.prog 13 #[.agg #[.int .i64 c.f, .int .i64 c.mb, .int .u64 (c.delay : Nat), .int .u64 (c.win : Nat), .int .u64 (c.every : Nat), .int .u64 (c.beat : Nat), .int .u64 (c.ep : Nat), .int .u64 (c.em : Nat), .int .u64 (c.mn : Nat), .int .u64 (c.ms : Nat)], .slice (some ⟨sb, off, none⟩) (k + 1) cap, .int .u64 (f.slot : Nat), .agg #[.int .u64 (dS9 : Nat), .slice ao9 m9 cap9]] V fun e V' => e = .returned (.bool true) ∧ Below V.heap.size V V') := fun V hb => by
                have hw := HW11.out.kept hb.out
                obtain ⟨f0, hf0, h00, hcnt⟩ := spoke_wit HK.out HSP.out HSQ.out
                obtain ⟨i0, hi0⟩ := List.mem_iff_getElem?.1 hf0
                have hi1 : i0 < k + 1 := by have := (List.getElem?_eq_some_iff.1 hi0).1; rw [List.length_take] at this; omega
                have hbt := HBT11.out.kept hb.out
                have e1 : dS9 = t9.st := by rw [← HDS9.out]; unfold decS; rw [if_pos HSQ.out]
                have e2 : decR c t9 = t9.rs := by unfold decR; rw [if_pos HSQ.out]
                rw [e2] at hbt
                have hR := ((HR.out.below hw.sy.bel).take (k + 1))
                have hR' : Wos V.heap.size V (some ⟨sb, off, none⟩) (fs.take (k + 1)) sb off := ⟨hR.ad, fun e => Nat.lt_of_lt_of_le (hR.lt e) hw.sy.bel.size, hR.le, hR.at_, fun g hg => ⟨(hR.ok g hg).hs, (hR.ok g hg).hl, (hR.ok g hg).hm.wide hw.sy.bel.size⟩⟩
                refine (witnessed_true c HK.out (k + 1) cap (by rw [List.length_take]; have := HL.out; omega) hR' f.slot dS9 hbt i0 hi1 hi0 h00 (by rw [e1]; exact hcnt)).mono ?_
                rintro e V' ⟨rfl, g⟩
                exact ⟨rfl, g.out⟩
              have hkw : IntKind.i64.wrap ((k : Int) + 1) = ((k + 1 : Nat) : Int) := by rw [show ((k + 1 : Nat) : Int) = (k : Int) + 1 by omega]; exact IntWalk.i64_in _ ⟨by omega, by omega⟩
              have HQ : Hid ((0 : Int) ≤ (k : Int) + 1 ∧ (k : Int) + 1 ≤ (cap : Int)) := ⟨by omega, by omega⟩
              refine region_assign (fun V => Hid (Below w11.heap.size w11 V)) [(69, .bool true), (70, .bool true), (71, .agg #[.int .i64 c.f, .int .i64 c.mb, .int .u64 (c.delay : Nat), .int .u64 (c.win : Nat), .int .u64 (c.every : Nat), .int .u64 (c.beat : Nat), .int .u64 (c.ep : Nat), .int .u64 (c.em : Nat), .int .u64 (c.mn : Nat), .int .u64 (c.ms : Nat)]), (72, .slice (some ⟨sb, off, none⟩) len cap), (73, .int .i64 (k : Nat)), (74, .int .i64 ((k + 1 : Nat) : Int)), (75, .slice (some ⟨sb, off, none⟩) (k + 1) cap), (76, .pointer (some ⟨wb, 2, none⟩)), (77, .int .u64 (f.slot : Nat)), (78, .agg #[.int .u64 (dS9 : Nat), .slice ao9 m9 cap9]), (79, .bool true), (80, .bool false), (81, .bool false)] _ (by kernel_rfl) (by kernel_rfl) (by kernel_rfl) (by kernel_rfl) rfl HDR.out ?_ (fun V1 HV1 => ?_)
              · simp only [putAll, Act.put, List.setIfInBounds_toArray, List.set_cons_zero, List.set_cons_succ]
                repeat' (first | exact AllTo.nil | refine AllTo.cons ?_ ?_)
                all_goals first
                  | exact stepTo_no (by rfl) rfl
                  | (refine stepTo_yes (by rfl) (fun V hV K hK => ?_)
                     obtain ⟨⟨z0, z1, z2, z3, z4, z5, z6, z7, z8, z9⟩, r1, r2, r3⟩ := KA.out V hV
                     go_simp
                     first
                       | exact hK.out _ hV
                       | (rw [if_pos HQ.out]; go_simp; exact hK.out _ hV)
                       | (go_at_call 13; refine (KW.out V hV).mono ?_; rintro e V' ⟨rfl, hV'⟩; exact hK.out _ (HKB.out _ _ hV hV')))
              simp only [putAll, Act.put, List.setIfInBounds_toArray, List.set_cons_zero, List.set_cons_succ]
              have HT := hide (HW11.out.kept HV1.out)
              clear HV1 KA KW HQ hkw
              go_wp2
              go_roundw
              case rel => exact ⟨k + 1, by omega, by go_num, n, low2, u2, by omega, HT.out.sy, HT.out.cfg, HT.out.sp⟩
              case measure => simp [intOf]; omega
      · have d2 : decide ((k : Int) < 200) = false := decide_eq_false (by omega)
        have HT := hide HS.out.bel
        go_wp2
        go_ret
        exact ⟨rfl, HT.out⟩
    · have d1 : decide ((k : Int) < (len : Int)) = false := decide_eq_false (by omega)
      have HT := hide HS.out.bel
      go_wp2
      go_ret
      exact ⟨rfl, HT.out⟩
end Go.Proofs.Ytnpekdkfjjeeeaa
namespace Go.Proofs.Ytnpekdkfjjeeeaa
open Go.ChangeShapes Go.WideShapes Go.ChangeAt Go.RowKit Go.Deep

set_option maxRecDepth 100000 in
/-- The row of LearnerWitness, around a walk. -/
theorem learnerWitness_lifted (walk : ∀ (c0 : Cf) (u1 : Nat) (sb2 off2 : Nat) (ao2 : Option Addr) (len2 cap2 : Nat) (fs2 : List Wo) (w : World), c0.In → u1 < 18446744073709551616 → fs2.length = len2 → len2 ≤ cap2 → Wos w.heap.size w ao2 fs2 sb2 off2 → Calls Try.prog 4 #[.agg c0.cells, .int .u64 (u1 : Nat), .slice ao2 len2 cap2] w fun e w' => e = .returned (.bool true) ∧ Below w.heap.size w w')
    (os : Os) (started : os.Started) (H : Type) (enc : TypeId × Value → H) :
    ReturnsInHanded {} Try.checked os 4 .any (Rows.learnerWitnessSpec.pre6 enc Try.prog Try.f4 Rows.learnerWitnessRow.domain false) (Rows.learnerWitnessSpec.post enc Try.prog Try.f4 false true false false) := by
  refine returnsInHanded_of_change_sized (C := Try.checked) own started (by kernel_rfl) Try.func4
    (ChangeSpec.witness6 (enc := enc) (C := Try.checked) false ⟨#[], #[.agg #[.int .i64 0, .int .i64 0, .int .u64 0, .int .u64 0, .int .u64 0, .int .u64 0, .int .u64 0, .int .u64 0, .int .u64 0, .int .u64 0], .int .u64 0, .slice none 0 0], []⟩ 8 (by kernel_rfl) (by kernel_rfl) (by kernel_rfl) (by kernel_rfl)) ?_
  intro W base args ds gs before hval0 hW hcnd hsz0 _
  have hval : ∀ (j : Nat) t v, Try.f4.params[j]? = some t → args[j]? = some v → Value.okWide Try.prog W .any base t v := hval0
  have hW' := hW
  obtain ⟨p, q, hA0, hV, rfl, hfz, hnd⟩ := hW
  have hA : DataW.TrodAll enc Try.prog W 0 (fun _ => true) true Try.f4.params.toList args.toList ds p := hA0
  rw [Try.params4] at hA hval hsz0
  obtain ⟨v0, vs0, d0, ds0, p0, q0, hargs, rfl, rfl, h0, r0⟩ := trodAll_cons hA
  obtain ⟨v1, vs1, d1, ds1, p1, q1, rfl, rfl, rfl, h1, r1⟩ := trodAll_cons r0
  obtain ⟨v2, vs2, d2, ds2, p2, q2, rfl, rfl, rfl, h2, r2⟩ := trodAll_cons r1
  obtain ⟨rfl, rfl, rfl⟩ := trodAll_nil r2
  obtain rfl : args = #[v0, v1, v2] := by cases args; simp_all
  obtain ⟨rfl, rfl⟩ := trodVars_none hV
  obtain ⟨cs0, rfl, _⟩ := okWide_struct Try.underlying24 (hval 0 24 v0 rfl rfl)
  have k0 := h0
  have lt0 : ∀ x ∈ p0, x.block < W.heap.size := by obtain ⟨m, hm⟩ := k0; exact DataW.trod_lt m _ _ _ hm
  obtain ⟨c0, rfl, hc0⟩ := view_cfg h0
  obtain ⟨a1, rfl, rfl, rfl, w1⟩ := open_int Try.underlying22 (hval 1 22 v1 rfl rfl) h1
  have b1 := bounds_u64 w1
  obtain ⟨u1, rfl⟩ := Int.eq_ofNat_of_zero_le b1.1
  obtain ⟨ao2, len2, cap2, rfl⟩ := okWide_slice Try.underlying25 (hval 2 25 v2 rfl rfl)
  have k2 := h2
  have lt2 : ∀ x ∈ p2, x.block < W.heap.size := by obtain ⟨m, hm⟩ := k2; exact DataW.trod_lt m _ _ _ hm
  obtain ⟨sb2, off2, fs2, hn2, hc2, hF2⟩ := view_wos h2 (fun n hn => by
    have := List.all_eq_true.1 hsz0 n (DataW.weights_mem_each (j := 2) (t := 25) (d := d2) rfl rfl n hn)
    simpa using this)
  clear hA0 hval0
  refine (walk c0 u1 sb2 off2 ao2 len2 cap2 fs2 W hc0 (by omega) hn2 hc2 hF2).mono fun e W' ⟨he, bel⟩ => ?_
  subst he
  exact ⟨_, rfl, _, _, _, [], _, [], hW', trodAll_mk1 (shut_bool Try.underlying4 _), (trodAll_cons_mk (Below.trod laidOut (by kernel_rfl) (of_decide_eq_true (by kernel_rfl)) k0 bel lt0) (trodAll_cons_mk (shut_int Try.underlying22 w1) (trodAll_cons_mk (Below.trod laidOut (by kernel_rfl) (of_decide_eq_true (by kernel_rfl)) k2 bel lt2) trodAll_mk0))), rfl, bel.frame _, fun h => by cases h⟩

set_option maxRecDepth 100000 in
theorem learnerWitness_of (walk : ∀ (c0 : Cf) (u1 : Nat) (sb2 off2 : Nat) (ao2 : Option Addr) (len2 cap2 : Nat) (fs2 : List Wo) (w : World), c0.In → u1 < 18446744073709551616 → fs2.length = len2 → len2 ≤ cap2 → Wos w.heap.size w ao2 fs2 sb2 off2 → Calls Try.prog 4 #[.agg c0.cells, .int .u64 (u1 : Nat), .slice ao2 len2 cap2] w fun e w' => e = .returned (.bool true) ∧ Below w.heap.size w w') :
    Rows.learnerWitnessRow.holds Try.pinned (OpenSpec.ofChange Rows.learnerWitnessSpec) :=
  OpenClaim.holds_of_wide 4 Try.f4 rfl rfl rfl rfl rfl rfl rfl ⟨rfl, rfl, rfl, rfl, rfl⟩ rfl rfl rfl rfl rfl (by kernel_rfl) Try.func4 (by kernel_rfl)
    (of_decide_eq_true (by kernel_rfl)) (by unfold Func.isWrapper; first | (rw [if_pos (by decide +kernel)]; kernel_rfl) | (rw [if_neg (by decide +kernel)]; exact ⟨rfl, rfl⟩))
    (fun os started H enc _ => learnerWitness_lifted walk os started H enc)
end Go.Proofs.Ytnpekdkfjjeeeaa
namespace Go.Proofs.Ytnpekdkfjjeeeaa

theorem learnerWitnessProof : Rows.LearnerWitnessSaid := learnerWitness_of fun c low _ _ _ len cap _ w hin _ hl hc hR => witness_walk c hin low w len cap hl hc hR
end Go.Proofs.Ytnpekdkfjjeeeaa
