import Derived.Test.YtppoloellajfhaaBMj
import Derived.Test.YtppoloellajfhaaBPn
import Derived.Deep.DeepCutAuto
namespace Go.Proofs.Ytppoloellajfhaa
open Go.RowKit

set_option maxRecDepth 100000 in
set_option maxHeartbeats 1600000 in
theorem meet_bad (c : Cf) (s t fr : Int) (w : World)
    (hM : ∀ W, Calls Try.prog 16 #[.agg c.cells] W fun e w' => e = .returned (.tuple #[.pointer none, .bool true]) ∧ Below W.heap.size W w') :
    Calls Try.prog 5 #[.agg c.cells, .int .u32 s, .int .u32 t, .int .i64 fr] w fun e w' => e = .returned (.bool true) ∧ Below w.heap.size w w' := by
  have HM := hide hM
  clear hM
  obtain ⟨W1, hW1⟩ : ∃ W1, w.alloc (.cells c.cells 29) = W1 := ⟨_, rfl⟩
  have B1 : Hid (Below w.heap.size w W1) := by rw [← hW1]; exact (Below.refl _ w).alloc (Nat.le_refl _) _
  have C1 : W1.heap[w.heap.size]? = some (.cells c.cells 29 (0, 0)) := by rw [← hW1]; exact alloc_atK _ _
  obtain ⟨z0, z1, z2, z3, z4, z5, z6, z7, z8, z9⟩ := cfg_cells C1
  have HW1 := hide hW1
  clear hW1 C1
  unfold Cf.cells at *
  generalize c.f = f at *
  generalize c.mb = mb at *
  generalize (c.delay : Int) = d at *
  generalize (c.win : Int) = wn at *
  generalize (c.every : Int) = ev at *
  generalize (c.beat : Int) = bt at *
  generalize (c.ep : Int) = ep at *
  generalize (c.em : Int) = em at *
  generalize (c.mn : Int) = mn at *
  generalize (c.ms : Int) = ms at *
  go_enter Try.func5, Try.ntmps5
  go_upto_region 1 with fail
  rw [HW1.out]
  clear HW1
  go_wp2_with fail
  refine (HM.out W1).mono ?_
  rintro e w2 ⟨rfl, b2⟩
  have B2 := hide (B1.out.trans (b2.mono B1.out.size))
  clear b2 z0 z1 z2 z3 z4 z5 z6 z7 z8 z9
  go_wp2
  go_ret
  exact ⟨rfl, B2.out⟩
set_option maxRecDepth 100000 in
set_option maxHeartbeats 1600000 in
theorem meet_ok (c : Cf) (hok : c.Ok) (s t : Nat) (hs : s < 4294967296) (ht : t < 4294967296) (fr0 : Int) (w : World)
    (hM : ∀ W, Calls Try.prog 16 #[.agg c.cells] W fun e w' => ∃ a, e = .returned (.tuple #[.pointer a, .bool true]) ∧ Hid (PG w' a c ∧ Below W.heap.size W w')) :
    Calls Try.prog 5 #[.agg c.cells, .int .u32 (s : Nat), .int .u32 (t : Nat), .int .i64 fr0] w fun e w' => e = .returned (.bool true) ∧ Below w.heap.size w w' := by
  have HM := hide hM
  clear hM
  obtain ⟨W1, hW1⟩ : ∃ W1, w.alloc (.cells c.cells 29) = W1 := ⟨_, rfl⟩
  have B1 : Hid (Below w.heap.size w W1) := by rw [← hW1]; exact (Below.refl _ w).alloc (Nat.le_refl _) _
  obtain ⟨pc, hpc⟩ : ∃ p, w.heap.size = p := ⟨_, rfl⟩
  have t1 : W1.heap[pc]? = some (.cells c.cells 29 (0, 0)) := by rw [← hW1, ← hpc]; exact alloc_atK _ _
  obtain ⟨z0, z1, z2, z3, z4, z5, z6, z7, z8, z9⟩ := cfg_cells t1
  have HTC := hide t1
  have HCF := hide (fun (W : World) (h : W.heap[pc]? = some (.cells c.cells 29 (0, 0))) => (cfg_cells h).1)
  have HW1 := hide hW1
  have HPC := hide hpc
  clear hW1 hpc t1
  obtain ⟨F, hF⟩ : ∃ F : Nat, c.f = (F : Int) := Int.eq_ofNat_of_zero_le (by have := hok.f1; omega)
  obtain ⟨N, hN⟩ : ∃ N : Nat, N = 2 * F + 1 := ⟨_, rfl⟩
  have f1 := hok.f1
  have f3 := hok.f3
  have hF1 : 1 ≤ F := by omega
  have hF3 : F ≤ 3 := by omega
  have hN3 : 3 ≤ N := by omega
  have hN7 : N ≤ 7 := by omega
  have HNG := hide (fun W a (h : PG W a c) => nodes_live h hok)
  have hNN : 2 * c.f + 1 = (N : Int) := by omega
  rw [hNN] at HNG
  have HAG := hide (fun W a (h : PG W a c) => all_live h hok)
  rw [allB_nat] at HAG
  have HMG := hide (fun (x : Nat) (hx : x < 4294967296) W a (h : PG W a c) => majority_live x hx h hok)
  have HMS := hide (fun fr (h : fr < N) => maj_some hok hF hN h)
  have HMM := hide (fun (h1 : c.maj s = true) (h2 : c.maj t = true) => maj_meet hok h1 h2)
  rw [hNN] at HMM
  have HAL := hide (allN_lt c.f)
  have ha1 : bits .and .u32 (s : Int) (allN c.f : Int) = ((s &&& allN c.f : Nat) : Int) := u32_and_nat s (allN c.f) hs (allN_lt c.f)
  have ha2 : bits .and .u32 (t : Int) (allN c.f : Int) = ((t &&& allN c.f : Nat) : Int) := u32_and_nat t (allN c.f) ht (allN_lt c.f)
  have HCR := hide (fun W => cross_any (s &&& allN c.f) (t &&& allN c.f) (and_lt _ hs) (and_lt _ ht) W)
  have HHS := hide (fun (x : Nat) (hx : x < 32) W => has_any s hs x W)
  have HHT := hide (fun (x : Nat) (hx : x < 32) W => has_any t ht x W)
  have HWI := hide (fun (x : Nat) (hx : x < 4294967296) n W => with_any x hx n W)
  have HHB : Hid (∀ (u x : Nat), x < 32 → u.testBit x = true → hasB u (x : Int) = true) := fun u x hx h => by unfold hasB; rw [decide_eq_true (by omega), Bool.true_and, Int.toNat_natCast]; exact h
  have HRM : Hid (∀ a b : Nat, Int.tmod ((a : Int) + (b : Int)) (N : Int) = (((a + b) % N : Nat) : Int)) := fun a b => by
    rw [Int.tmod_eq_emod_of_nonneg (by omega), ← Int.natCast_add, ← Int.natCast_emod]
  rw [hF] at HCF
  unfold Cf.cells at HM HW1 HTC HCF ⊢
  rw [hF] at HM HW1 HTC HCF z0 ⊢
  clear hF hN hNN f1 f3
  have HMDs := hide (fun W a (h : PG W a c) => HMG.out s hs W a h)
  have HMDt := hide (fun W a (h : PG W a c) => HMG.out t ht W a h)
  generalize c.maj s = ms' at *
  generalize c.maj t = mt' at *
  generalize hX : (allN c.f) = al at *
  clear hX
  generalize c.mb = mb at *
  generalize (c.delay : Int) = d at *
  generalize (c.win : Int) = wn at *
  generalize (c.every : Int) = ev at *
  generalize (c.beat : Int) = bt at *
  generalize (c.ep : Int) = ep at *
  generalize (c.em : Int) = em at *
  generalize (c.mn : Int) = mn at *
  generalize (c.ms : Int) = ms at *
  go_enter Try.func5, Try.ntmps5
  go_upto_region 1 with fail
  rw [HW1.out, HPC.out]
  clear HW1
  go_wp2_with fail
  refine (HM.out W1).mono ?_
  rintro e w2 ⟨a, rfl, G2⟩
  obtain ⟨p2, b2⟩ := G2.out
  have B2 := hide (B1.out.trans (b2.mono B1.out.size))
  have KG : Hid (∀ V, Hid (Below w2.heap.size w2 V) → PG V a c) := fun V hb => p2.kept hb.out
  have KC : Hid (∀ V, Hid (Below w2.heap.size w2 V) → V.cell? ⟨pc, 0, none⟩ = some (.int .i64 (F : Int))) := fun V hb => HCF.out V ((hb.out.block pc (Nat.lt_of_lt_of_le (block_lt HTC.out) b2.size)).trans ((b2.block pc (block_lt HTC.out)).trans HTC.out))
  have KB : Hid (∀ V V', Hid (Below w2.heap.size w2 V) → Below V.heap.size V V' → Hid (Below w2.heap.size w2 V')) := fun V V' h h' => h.out.trans (h'.mono h.out.size)
  have FB : Hid (∀ V, Hid (Below w2.heap.size w2 V) → Below w.heap.size w V) := fun V h => B2.out.trans (h.out.mono B2.out.size)
  have HD1 : Hid (Below w2.heap.size w2 w2) := Below.refl _ _
  have hg : ∃ g, a = some ⟨g, 0, none⟩ := by obtain ⟨g, e, _⟩ := p2; exact ⟨g, e⟩
  obtain ⟨g, rfl⟩ := hg
  clear G2 p2 b2 z0 z1 z2 z3 z4 z5 z6 z7 z8 z9 B1 HM HTC HCF
  go_upto_region 5 with fail
  go_wp2_with fail
  refine (HNG.out _ _ (KG.out _ HD1)).mono ?_
  rintro e w2 ⟨rfl, rfl⟩
  go_upto_region 6 with fail
  go_cut [35] from 27 (fun s35 V => Hid (Below w2.heap.size w2 V) ∧ s35 = .bool (decide (¬ (0 ≤ fr0 ∧ fr0 < (N : Int)))))
  case first =>
    by_cases h1 : fr0 < 0
    · go_wp2
      go_meet
      case rel => exact ⟨HD1, by rw [decide_eq_true (by omega)]⟩
    · by_cases h2 : fr0 ≥ (N : Int)
      · go_wp2
        go_meet
        case rel => exact ⟨HD1, by rw [decide_eq_true (by omega)]⟩
      · have hd : decide (fr0 ≥ (N : Int)) = false := decide_eq_false h2
        go_wp2
        go_meet
        case rel => exact ⟨HD1, by rw [decide_eq_false (by omega)]⟩
  case rest =>
  obtain ⟨HC1, rfl⟩ := hcut
  go_upto_if 35 with fail
  go_cut [3] from 27 (fun s3 V => Hid (Below w2.heap.size w2 V) ∧ ∃ fr : Nat, fr < N ∧ s3 = .int .i64 (fr : Int))
  case first =>
    by_cases h1 : 0 ≤ fr0 ∧ fr0 < (N : Int)
    · rw [decide_eq_false (by simpa using h1)]
      obtain ⟨k, hk⟩ := Int.eq_ofNat_of_zero_le h1.1
      have HK : Hid (fr0 = (k : Int) ∧ k < N) := ⟨hk, by omega⟩
      clear hk h1
      go_wp2
      go_meet
      case rel => exact ⟨HC1, k, HK.out.2, by rw [HK.out.1]⟩
    · rw [decide_eq_true (by simpa using h1)]
      clear h1
      go_wp2
      go_meet
      case rel => exact ⟨HC1, 0, by omega, rfl⟩
  case rest =>
  clear HC1
  obtain ⟨HC2, fr, hfr, rfl⟩ := hcut
  obtain ⟨m1, m2, m3⟩ := HMS.out fr hfr
  have HMA := hide (fun W a (h : PG W a c) => HMG.out (someB fr N F) (someB_lt _ _ _) W a h)
  have HMB := hide (fun W a (h : PG W a c) => HMG.out (someB fr N (F + 1)) (someB_lt _ _ _) W a h)
  have HMC := hide (fun W a (h : PG W a c) => HMG.out al HAL.out W a h)
  rw [m1] at HMA
  rw [m2] at HMB
  rw [m3] at HMC
  clear m1 m2 m3 HMS HMG
  go_upto_region 9 with fail
  go_loopw [11, 13] (fun so i wr => ∃ k : Nat, k ≤ F ∧ i = .int .i64 (k : Nat) ∧ so = .int .u32 ((someB fr N k : Nat) : Int) ∧ Hid (Below w2.heap.size w2 wr)) (fun _ i _ => F - (intOf i).toNat)
  case atStart => exact ⟨0, by omega, rfl, rfl, HC2⟩
  case round =>
    obtain ⟨k, hk, rfl, rfl, HB⟩ := hrel
    have hcf := KC.out wr HB
    by_cases hlt : k < F
    · have HW := hide (HWI.out (someB fr N k) (someB_lt _ _ _) (((fr + k) % N : Nat) : Int) wr)
      have HS1 : Hid (someB fr N (k + 1) = withB (someB fr N k) (((fr + k) % N : Nat) : Int)) := rfl
      rw [← HS1.out] at HW
      have hrm := HRM.out fr k
      have hr7 : (fr + k) % N < 7 := Nat.lt_of_lt_of_le (Nat.mod_lt _ (by omega)) hN7
      have hnz : ¬ (N : Int) = 0 := by omega
      generalize (fr + k) % N = r at *
      obtain ⟨so1, hso1⟩ : ∃ x, ((someB fr N (k + 1) : Nat) : Int) = x := ⟨_, rfl⟩
      rw [hso1] at HW
      have HSO := hide hso1
      clear hso1
      generalize ((someB fr N k : Nat) : Int) = so0 at *
      clear HS1
      go_wp2_with fail
      refine HW.out.mono ?_
      rintro e w1 ⟨rfl, rfl⟩
      go_wp2
      go_roundw
      case rel => exact ⟨k + 1, by omega, by go_num, by rw [HSO.out], HB⟩
      case measure => simp [intOf]; omega
    · have hkF : k = F := by omega
      subst hkF
      have HW := hide (fun W => HWI.out (someB fr N k) (someB_lt _ _ _) (((fr + k) % N : Nat) : Int) W)
      have HS1 : Hid (someB fr N (k + 1) = withB (someB fr N k) (((fr + k) % N : Nat) : Int)) := rfl
      rw [← HS1.out] at HW
      have hrm := HRM.out fr k
      have hr7 : (fr + k) % N < 7 := Nat.lt_of_lt_of_le (Nat.mod_lt _ (by omega)) hN7
      have hnz : ¬ (N : Int) = 0 := by omega
      generalize (fr + k) % N = r at *
      generalize ((someB fr N (k + 1) : Nat) : Int) = so1 at *
      generalize ((someB fr N k : Nat) : Int) = so0 at *
      clear HS1
      go_upto_region 12 with fail
      go_wp2_with fail
      refine (HMA.out _ _ (KG.out _ HB)).mono ?_
      rintro e VA ⟨rfl, b⟩
      have HVA := KB.out _ _ HB b
      clear b hcf
      have hcf := KC.out VA HVA
      go_wp2_with fail
      refine (HW.out VA).mono ?_
      rintro e VA ⟨rfl, rfl⟩
      go_wp2_with fail
      refine (HMB.out _ _ (KG.out _ HVA)).mono ?_
      rintro e VB ⟨rfl, b⟩
      have HVB := KB.out _ _ HVA b
      clear b hcf
      go_wp2_with fail
      refine (HAG.out _ _ (KG.out _ HVB)).mono ?_
      rintro e VB ⟨rfl, rfl⟩
      go_wp2_with fail
      refine (HMC.out _ _ (KG.out _ HVB)).mono ?_
      rintro e VC ⟨rfl, b⟩
      have HVC := KB.out _ _ HVB b
      clear b
      go_upto_region 14 with fail
      go_wp2_with fail
      refine (HMDs.out _ _ (KG.out _ HVC)).mono ?_
      rintro e VD ⟨rfl, b⟩
      have HVD := KB.out _ _ HVC b
      clear b
      cases ms' with
      | false =>
        go_wp2
        try rw [Exit.noGoto_ret]
        go_ret
        exact ⟨rfl, FB.out _ HVD⟩
      | true =>
        go_wp2_with fail
        refine (HMDt.out _ _ (KG.out _ HVD)).mono ?_
        rintro e VE ⟨rfl, b⟩
        have HVE := KB.out _ _ HVD b
        clear b
        cases mt' with
        | false =>
          go_wp2
          go_ret
          exact ⟨rfl, FB.out _ HVE⟩
        | true =>
          obtain ⟨x, hx, hxN, hx1, hx2⟩ := HMM.out (by first | trivial | rfl) (by first | trivial | rfl)
          have hx32 : x < 32 := by omega
          rw [hx] at HCR
          have h1 := HHB.out s x hx32 hx1
          have h2 := HHB.out t x hx32 hx2
          have HS1 := hide (HHS.out x hx32)
          have HT1 := hide (HHT.out x hx32)
          rw [h1] at HS1
          rw [h2] at HT1
          clear h1 h2 hx hx1 hx2 HMM HHB HHS HHT
          generalize ((s &&& al : Nat) : Int) = y1 at *
          generalize ((t &&& al : Nat) : Int) = y2 at *
          go_wp2_with fail
          refine (HAG.out _ _ (KG.out _ HVE)).mono ?_
          rintro e VE ⟨rfl, rfl⟩
          go_wp2_with fail
          refine (HAG.out _ _ (KG.out _ HVE)).mono ?_
          rintro e VE ⟨rfl, rfl⟩
          go_wp2_with fail
          refine (HCR.out _).mono ?_
          rintro e VF ⟨rfl, b⟩
          have HVF := KB.out _ _ HVE b
          clear b
          go_wp2_with fail
          refine (HS1.out _).mono ?_
          rintro e VF ⟨rfl, rfl⟩
          go_wp2_with fail
          refine (HT1.out _).mono ?_
          rintro e VF ⟨rfl, rfl⟩
          go_wp2
          go_ret
          exact ⟨rfl, FB.out _ HVF⟩
theorem meet_walk (c : Cf) (hin : c.In) (s t : Nat) (hs : s < 4294967296) (ht : t < 4294967296) (fr : Int) (w : World) :
    Calls Try.prog 5 #[.agg c.cells, .int .u32 (s : Nat), .int .u32 (t : Nat), .int .i64 fr] w fun e w' => e = .returned (.bool true) ∧ Below w.heap.size w w' := by
  rcases badOf_cases c with hk | ⟨k, hk⟩
  · exact meet_ok c (cf_ok hk) s t hs ht fr w (fun W => madeLaw_ok c hin hk W)
  · exact meet_bad c s t fr w (fun W => madeLaw_bad c hin k hk W)
end Go.Proofs.Ytppoloellajfhaa
