import Derived.Test.YtppoloellajfhaaBPm
import Derived.Test.YtppoloellajfhaaBPn
import Derived.Test.YtppoloellajfhaaBVi
namespace Go.Proofs.Ytppoloellajfhaa
open Go.RowKit

set_option maxRecDepth 100000 in
set_option maxHeartbeats 1600000 in
theorem ranks_bad (c : Cf) (n1 m1 n2 m2 : Int) (w : World) 
    (hM : ∀ W, Calls Try.prog 16 #[.agg c.cells] W fun e w' => e = .returned (.tuple #[.pointer none, .bool true]) ∧ Below W.heap.size W w') :
    Calls Try.prog 7 #[.agg c.cells, .agg #[.int .u64 n1, .int .i64 m1], .agg #[.int .u64 n2, .int .i64 m2]] w fun e w' => e = .returned (.bool true) ∧ Below w.heap.size w w' := by
  have HM := hide hM
  clear hM
  obtain ⟨W1, hW1⟩ : ∃ W1, ((w.alloc (.cells c.cells 29)).alloc (.cells #[.int .u64 n1, .int .i64 m1] 24)).alloc (.cells #[.int .u64 n2, .int .i64 m2] 24) = W1 := ⟨_, rfl⟩
  have B1 : Hid (Below w.heap.size w W1) := by rw [← hW1]; exact (((Below.refl _ w).alloc (Nat.le_refl _) _).alloc (by simp) _).alloc (by simp; omega) _
  obtain ⟨pc, hpc⟩ : ∃ p, w.heap.size = p := ⟨_, rfl⟩
  obtain ⟨pa, hpa⟩ : ∃ p, w.heap.size + 1 = p := ⟨_, rfl⟩
  obtain ⟨pb, hpb⟩ : ∃ p, w.heap.size + 1 + 1 = p := ⟨_, rfl⟩
  obtain ⟨t1, t2, t3⟩ := three w (.cells c.cells 29) (.cells #[.int .u64 n1, .int .i64 m1] 24) (.cells #[.int .u64 n2, .int .i64 m2] 24)
  rw [hW1, hpc] at t1
  rw [hW1, hpa] at t2
  rw [hW1, hpb] at t3
  obtain ⟨z0, z1, z2, z3, z4, z5, z6, z7, z8, z9⟩ := cfg_cells t1
  have HTC := hide t1
  have HTA := hide t2
  have HTB := hide t3
  have HCF := hide (fun (W : World) (h : W.heap[pc]? = some (.cells c.cells 29 (0, 0))) => (cfg_cells h).2.2.2.2.2.2.2.2.1)
  have HW1 := hide hW1
  have HPA := hide hpa
  have HPB := hide hpb
  have HPC := hide hpc
  clear hW1 hpa hpb hpc t1 t2 t3
  unfold Cf.cells at *
  generalize c.f = f at *
  generalize c.mb = mb at *
  generalize (c.delay : Int) = d at *
  generalize (c.win : Int) = wn at *
  generalize (c.every : Int) = ev at *
  generalize (c.beat : Int) = bt at *
  generalize (c.ep : Int) = ep at *
  generalize (c.em : Int) = em at *
  generalize (c.mn : Int) = mn at *
  generalize (c.ms : Int) = ms at *
  go_enter Try.func7, Try.ntmps7
  go_upto_region 1 with fail
  rw [HW1.out, HPB.out, HPA.out, HPC.out]
  clear HW1
  go_wp2_with fail
  refine (HM.out W1).mono ?_
  rintro e w2 ⟨rfl, b2⟩
  have B2 := hide (B1.out.trans (b2.mono B1.out.size))
  clear b2 z0 z1 z2 z3 z4 z5 z6 z7 z8 z9
  go_wp2
  go_ret
  exact ⟨rfl, B2.out⟩
set_option maxRecDepth 100000 in
set_option maxHeartbeats 1600000 in
theorem ranks_na (c : Cf) (n1 m1 n2 m2 : Int) (w : World) (va vb : Bool)
    (hM : ∀ W, Calls Try.prog 16 #[.agg c.cells] W fun e w' => ∃ a, e = .returned (.tuple #[.pointer a, .bool true]) ∧ Hid (PG w' a c ∧ Below W.heap.size W w'))
    (hR0 : ∀ W a, PG W a c → Calls Try.prog 27 #[.pointer a, .agg #[.int .u64 0, .int .i64 0]] W (NumR W 0 [] 0))
    (hVa : ∀ W a, PG W a c → Calls Try.prog 24 #[.pointer a, .agg #[.int .u64 n1, .int .i64 m1]] W fun e w' => e = .returned (.bool va) ∧ Below W.heap.size W w')
    (hVb : ∀ W a, PG W a c → Calls Try.prog 24 #[.pointer a, .agg #[.int .u64 n2, .int .i64 m2]] W fun e w' => e = .returned (.bool vb) ∧ Below W.heap.size W w') (hva : va = false) :
    Calls Try.prog 7 #[.agg c.cells, .agg #[.int .u64 n1, .int .i64 m1], .agg #[.int .u64 n2, .int .i64 m2]] w fun e w' => e = .returned (.bool true) ∧ Below w.heap.size w w' := by
  have HM := hide hM
  have HR0 := hide hR0
  have HVA := hide hVa
  have HVB := hide hVb
  clear hM hR0 hVa hVb
  subst hva
  obtain ⟨W1, hW1⟩ : ∃ W1, ((w.alloc (.cells c.cells 29)).alloc (.cells #[.int .u64 n1, .int .i64 m1] 24)).alloc (.cells #[.int .u64 n2, .int .i64 m2] 24) = W1 := ⟨_, rfl⟩
  have B1 : Hid (Below w.heap.size w W1) := by rw [← hW1]; exact (((Below.refl _ w).alloc (Nat.le_refl _) _).alloc (by simp) _).alloc (by simp; omega) _
  obtain ⟨pc, hpc⟩ : ∃ p, w.heap.size = p := ⟨_, rfl⟩
  obtain ⟨pa, hpa⟩ : ∃ p, w.heap.size + 1 = p := ⟨_, rfl⟩
  obtain ⟨pb, hpb⟩ : ∃ p, w.heap.size + 1 + 1 = p := ⟨_, rfl⟩
  obtain ⟨t1, t2, t3⟩ := three w (.cells c.cells 29) (.cells #[.int .u64 n1, .int .i64 m1] 24) (.cells #[.int .u64 n2, .int .i64 m2] 24)
  rw [hW1, hpc] at t1
  rw [hW1, hpa] at t2
  rw [hW1, hpb] at t3
  obtain ⟨z0, z1, z2, z3, z4, z5, z6, z7, z8, z9⟩ := cfg_cells t1
  have HTC := hide t1
  have HTA := hide t2
  have HTB := hide t3
  have HCF := hide (fun (W : World) (h : W.heap[pc]? = some (.cells c.cells 29 (0, 0))) => (cfg_cells h).2.2.2.2.2.2.2.2.1)
  have HW1 := hide hW1
  have HPA := hide hpa
  have HPB := hide hpb
  have HPC := hide hpc
  clear hW1 hpa hpb hpc t1 t2 t3
  unfold Cf.cells at HM HW1 HTC HCF ⊢
  generalize c.f = f at *
  generalize c.mb = mb at *
  generalize (c.delay : Int) = d at *
  generalize (c.win : Int) = wn at *
  generalize (c.every : Int) = ev at *
  generalize (c.beat : Int) = bt at *
  generalize (c.ep : Int) = ep at *
  generalize (c.em : Int) = em at *
  generalize (c.mn : Int) = mn at *
  generalize (c.ms : Int) = ms at *
  go_enter Try.func7, Try.ntmps7
  go_upto_region 1 with fail
  rw [HW1.out, HPB.out, HPA.out, HPC.out]
  clear HW1
  go_wp2_with fail
  refine (HM.out W1).mono ?_
  rintro e w2 ⟨a, rfl, G2⟩
  obtain ⟨p2, b2⟩ := G2.out
  have B2 := hide (B1.out.trans (b2.mono B1.out.size))
  have KG : Hid (∀ V, Hid (Below w2.heap.size w2 V) → PG V a c) := fun V hb => p2.kept hb.out
  have KS : Hid (∀ V, Hid (Below w2.heap.size w2 V) → V.cell? ⟨pa, 0, none⟩ = some (.int .u64 n1) ∧ V.cell? ⟨pa, 1, none⟩ = some (.int .i64 m1) ∧ V.cell? ⟨pb, 0, none⟩ = some (.int .u64 n2) ∧ V.cell? ⟨pb, 1, none⟩ = some (.int .i64 m2) ∧ V.cell? ⟨pc, 8, none⟩ = some (.int .u64 mn)) := fun V hb => by
    have hC := (hb.out.block pc (Nat.lt_of_lt_of_le (block_lt HTC.out) b2.size)).trans ((b2.block pc (block_lt HTC.out)).trans HTC.out)
    have hA := (hb.out.block pa (Nat.lt_of_lt_of_le (block_lt HTA.out) b2.size)).trans ((b2.block pa (block_lt HTA.out)).trans HTA.out)
    have hB := (hb.out.block pb (Nat.lt_of_lt_of_le (block_lt HTB.out) b2.size)).trans ((b2.block pb (block_lt HTB.out)).trans HTB.out)
    exact ⟨block_cell hA 0, block_cell hA 1, block_cell hB 0, block_cell hB 1, HCF.out V hC⟩
  have HD1 : Hid (Below w2.heap.size w2 w2) := Below.refl _ _
  have HD : Hid (∀ V, Hid (Below w2.heap.size w2 V) → Hid (Below w2.heap.size w2 V.drew)) := fun V h => h.out.drew
  have HAL : Hid (∀ V o, Hid (Below w2.heap.size w2 V) → Hid (Below w2.heap.size w2 (V.alloc o))) := fun V o h => h.out.alloc h.out.size o
  have KB : Hid (∀ V V', Hid (Below w2.heap.size w2 V) → Below V.heap.size V V' → Hid (Below w2.heap.size w2 V')) := fun V V' h h' => h.out.trans (h'.mono h.out.size)
  have FB : Hid (∀ V, Hid (Below w2.heap.size w2 V) → Below w.heap.size w V) := fun V h => B2.out.trans (h.out.mono B2.out.size)
  have hg : ∃ g, a = some ⟨g, 0, none⟩ := by obtain ⟨g, e, _⟩ := p2; exact ⟨g, e⟩
  obtain ⟨g, rfl⟩ := hg
  clear G2 p2 b2 z0 z1 z2 z3 z4 z5 z6 z7 z8 z9 B1 HM HTA HTB HTC HCF
  go_wp2_with fail
  refine (HR0.out _ _ (KG.out _ HD1)).mono ?_
  rintro e V1 ⟨ev0, rfl, G⟩
  have HV1 := KB.out _ _ HD1 G.out.2
  have he : ev0 = .nilIface := by
    rcases G.out.1 with ⟨h, _⟩ | ⟨_, h, _⟩
    · exact h
    · simp at h
  subst he
  clear G
  obtain ⟨q0, q1, q2, q3, q4⟩ := KS.out V1 HV1
  go_upto_region 7 with fail
  go_wp2_with fail
  refine (HVA.out _ _ (KG.out _ HV1)).mono ?_
  rintro e V2 ⟨rfl, b⟩
  have HV2 := KB.out _ _ HV1 b
  clear b q0 q1 q2 q3 q4
  go_wp2
  go_ret
  exact ⟨rfl, FB.out _ HV2⟩
set_option maxRecDepth 100000 in
set_option maxHeartbeats 1600000 in
theorem ranks_nb (c : Cf) (n1 m1 n2 m2 : Int) (w : World) (va vb : Bool)
    (hM : ∀ W, Calls Try.prog 16 #[.agg c.cells] W fun e w' => ∃ a, e = .returned (.tuple #[.pointer a, .bool true]) ∧ Hid (PG w' a c ∧ Below W.heap.size W w'))
    (hR0 : ∀ W a, PG W a c → Calls Try.prog 27 #[.pointer a, .agg #[.int .u64 0, .int .i64 0]] W (NumR W 0 [] 0))
    (hVa : ∀ W a, PG W a c → Calls Try.prog 24 #[.pointer a, .agg #[.int .u64 n1, .int .i64 m1]] W fun e w' => e = .returned (.bool va) ∧ Below W.heap.size W w')
    (hVb : ∀ W a, PG W a c → Calls Try.prog 24 #[.pointer a, .agg #[.int .u64 n2, .int .i64 m2]] W fun e w' => e = .returned (.bool vb) ∧ Below W.heap.size W w') (hva : va = true) (hvb : vb = false) :
    Calls Try.prog 7 #[.agg c.cells, .agg #[.int .u64 n1, .int .i64 m1], .agg #[.int .u64 n2, .int .i64 m2]] w fun e w' => e = .returned (.bool true) ∧ Below w.heap.size w w' := by
  have HM := hide hM
  have HR0 := hide hR0
  have HVA := hide hVa
  have HVB := hide hVb
  clear hM hR0 hVa hVb
  subst hva
  subst hvb
  obtain ⟨W1, hW1⟩ : ∃ W1, ((w.alloc (.cells c.cells 29)).alloc (.cells #[.int .u64 n1, .int .i64 m1] 24)).alloc (.cells #[.int .u64 n2, .int .i64 m2] 24) = W1 := ⟨_, rfl⟩
  have B1 : Hid (Below w.heap.size w W1) := by rw [← hW1]; exact (((Below.refl _ w).alloc (Nat.le_refl _) _).alloc (by simp) _).alloc (by simp; omega) _
  obtain ⟨pc, hpc⟩ : ∃ p, w.heap.size = p := ⟨_, rfl⟩
  obtain ⟨pa, hpa⟩ : ∃ p, w.heap.size + 1 = p := ⟨_, rfl⟩
  obtain ⟨pb, hpb⟩ : ∃ p, w.heap.size + 1 + 1 = p := ⟨_, rfl⟩
  obtain ⟨t1, t2, t3⟩ := three w (.cells c.cells 29) (.cells #[.int .u64 n1, .int .i64 m1] 24) (.cells #[.int .u64 n2, .int .i64 m2] 24)
  rw [hW1, hpc] at t1
  rw [hW1, hpa] at t2
  rw [hW1, hpb] at t3
  obtain ⟨z0, z1, z2, z3, z4, z5, z6, z7, z8, z9⟩ := cfg_cells t1
  have HTC := hide t1
  have HTA := hide t2
  have HTB := hide t3
  have HCF := hide (fun (W : World) (h : W.heap[pc]? = some (.cells c.cells 29 (0, 0))) => (cfg_cells h).2.2.2.2.2.2.2.2.1)
  have HW1 := hide hW1
  have HPA := hide hpa
  have HPB := hide hpb
  have HPC := hide hpc
  clear hW1 hpa hpb hpc t1 t2 t3
  unfold Cf.cells at HM HW1 HTC HCF ⊢
  generalize c.f = f at *
  generalize c.mb = mb at *
  generalize (c.delay : Int) = d at *
  generalize (c.win : Int) = wn at *
  generalize (c.every : Int) = ev at *
  generalize (c.beat : Int) = bt at *
  generalize (c.ep : Int) = ep at *
  generalize (c.em : Int) = em at *
  generalize (c.mn : Int) = mn at *
  generalize (c.ms : Int) = ms at *
  go_enter Try.func7, Try.ntmps7
  go_upto_region 1 with fail
  rw [HW1.out, HPB.out, HPA.out, HPC.out]
  clear HW1
  go_wp2_with fail
  refine (HM.out W1).mono ?_
  rintro e w2 ⟨a, rfl, G2⟩
  obtain ⟨p2, b2⟩ := G2.out
  have B2 := hide (B1.out.trans (b2.mono B1.out.size))
  have KG : Hid (∀ V, Hid (Below w2.heap.size w2 V) → PG V a c) := fun V hb => p2.kept hb.out
  have KS : Hid (∀ V, Hid (Below w2.heap.size w2 V) → V.cell? ⟨pa, 0, none⟩ = some (.int .u64 n1) ∧ V.cell? ⟨pa, 1, none⟩ = some (.int .i64 m1) ∧ V.cell? ⟨pb, 0, none⟩ = some (.int .u64 n2) ∧ V.cell? ⟨pb, 1, none⟩ = some (.int .i64 m2) ∧ V.cell? ⟨pc, 8, none⟩ = some (.int .u64 mn)) := fun V hb => by
    have hC := (hb.out.block pc (Nat.lt_of_lt_of_le (block_lt HTC.out) b2.size)).trans ((b2.block pc (block_lt HTC.out)).trans HTC.out)
    have hA := (hb.out.block pa (Nat.lt_of_lt_of_le (block_lt HTA.out) b2.size)).trans ((b2.block pa (block_lt HTA.out)).trans HTA.out)
    have hB := (hb.out.block pb (Nat.lt_of_lt_of_le (block_lt HTB.out) b2.size)).trans ((b2.block pb (block_lt HTB.out)).trans HTB.out)
    exact ⟨block_cell hA 0, block_cell hA 1, block_cell hB 0, block_cell hB 1, HCF.out V hC⟩
  have HD1 : Hid (Below w2.heap.size w2 w2) := Below.refl _ _
  have HD : Hid (∀ V, Hid (Below w2.heap.size w2 V) → Hid (Below w2.heap.size w2 V.drew)) := fun V h => h.out.drew
  have HAL : Hid (∀ V o, Hid (Below w2.heap.size w2 V) → Hid (Below w2.heap.size w2 (V.alloc o))) := fun V o h => h.out.alloc h.out.size o
  have KB : Hid (∀ V V', Hid (Below w2.heap.size w2 V) → Below V.heap.size V V' → Hid (Below w2.heap.size w2 V')) := fun V V' h h' => h.out.trans (h'.mono h.out.size)
  have FB : Hid (∀ V, Hid (Below w2.heap.size w2 V) → Below w.heap.size w V) := fun V h => B2.out.trans (h.out.mono B2.out.size)
  have hg : ∃ g, a = some ⟨g, 0, none⟩ := by obtain ⟨g, e, _⟩ := p2; exact ⟨g, e⟩
  obtain ⟨g, rfl⟩ := hg
  clear G2 p2 b2 z0 z1 z2 z3 z4 z5 z6 z7 z8 z9 B1 HM HTA HTB HTC HCF
  go_wp2_with fail
  refine (HR0.out _ _ (KG.out _ HD1)).mono ?_
  rintro e V1 ⟨ev0, rfl, G⟩
  have HV1 := KB.out _ _ HD1 G.out.2
  have he : ev0 = .nilIface := by
    rcases G.out.1 with ⟨h, _⟩ | ⟨_, h, _⟩
    · exact h
    · simp at h
  subst he
  clear G
  obtain ⟨q0, q1, q2, q3, q4⟩ := KS.out V1 HV1
  go_upto_region 7 with fail
  go_wp2_with fail
  refine (HVA.out _ _ (KG.out _ HV1)).mono ?_
  rintro e V2 ⟨rfl, b⟩
  have HV2 := KB.out _ _ HV1 b
  clear b q0 q1 q2 q3 q4
  obtain ⟨q0, q1, q2, q3, q4⟩ := KS.out V2 HV2
  go_wp2_with fail
  refine (HVB.out _ _ (KG.out _ HV2)).mono ?_
  rintro e V3 ⟨rfl, b⟩
  have HV3 := KB.out _ _ HV2 b
  clear b q0 q1 q2 q3 q4
  go_wp2
  go_ret
  exact ⟨rfl, FB.out _ HV3⟩
set_option maxRecDepth 100000 in
set_option maxHeartbeats 1600000 in
theorem ranks_end (c : Cf) (n1 m1 n2 m2 : Int) (w : World) (ra rb : Int) (va vb ls : Bool)
    (hM : ∀ W, Calls Try.prog 16 #[.agg c.cells] W fun e w' => ∃ a, e = .returned (.tuple #[.pointer a, .bool true]) ∧ Hid (PG w' a c ∧ Below W.heap.size W w'))
    (hR0 : ∀ W a, PG W a c → Calls Try.prog 27 #[.pointer a, .agg #[.int .u64 0, .int .i64 0]] W (NumR W 0 [] 0))
    (hVa : ∀ W a, PG W a c → Calls Try.prog 24 #[.pointer a, .agg #[.int .u64 n1, .int .i64 m1]] W fun e w' => e = .returned (.bool va) ∧ Below W.heap.size W w')
    (hVb : ∀ W a, PG W a c → Calls Try.prog 24 #[.pointer a, .agg #[.int .u64 n2, .int .i64 m2]] W fun e w' => e = .returned (.bool vb) ∧ Below W.heap.size W w')
    (hRa : ∀ W a, PG W a c → Calls Try.prog 27 #[.pointer a, .agg #[.int .u64 n1, .int .i64 m1]] W (NumR W ra [] 0))
    (hRb : ∀ W a, PG W a c → Calls Try.prog 27 #[.pointer a, .agg #[.int .u64 n2, .int .i64 m2]] W (NumR W rb [] 0))
    (hRd : ∀ W a, PG W a c → Calls Try.prog 28 #[.pointer a, .int .u64 ra] W (BalR W n1 m1 [] 0))
    (hL : ∀ W, Calls Try.prog 10 #[.agg #[.int .u64 n1, .int .i64 m1], .agg #[.int .u64 n2, .int .i64 m2]] W fun e w' => e = .returned (.bool ls) ∧ Below W.heap.size W w')
    (hva : va = true) (hvb : vb = true) (hlt : decide (ra < rb) = ls) (heq : (ra == rb) = (decide (n1 = n2) && decide (m1 = m2)))
    (hN : ∀ W a, PG W a c → Calls Try.prog 23 #[.pointer a, .agg #[.int .u64 n1, .int .i64 m1]] W (BalR W 0 0 [⟨ballotN, 0⟩] 183)) (hok : c.Ok) (hmy : IntKind.u64.wrap ((c.mn : Int) * (2 * c.f + 1)) = ra) :
    Calls Try.prog 7 #[.agg c.cells, .agg #[.int .u64 n1, .int .i64 m1], .agg #[.int .u64 n2, .int .i64 m2]] w fun e w' => e = .returned (.bool true) ∧ Below w.heap.size w w' := by
  have HM := hide hM
  have HR0 := hide hR0
  have HVA := hide hVa
  have HVB := hide hVb
  have HRA := hide hRa
  have HRB := hide hRb
  have HRD := hide hRd
  have HL := hide hL
  have HNX := hide hN
  have HEQ := hide heq
  have HLT := hide hlt
  have hbe := bal_eq n1 n2 m1 m2
  have hbn := bal_neq n1 n1 m1 m1
  simp only [decide_true, Bool.and_true, Bool.not_true] at hbn
  clear hM hR0 hVa hVb hRa hRb hRd hL hN heq hlt
  subst hva hvb
  obtain ⟨W1, hW1⟩ : ∃ W1, ((w.alloc (.cells c.cells 29)).alloc (.cells #[.int .u64 n1, .int .i64 m1] 24)).alloc (.cells #[.int .u64 n2, .int .i64 m2] 24) = W1 := ⟨_, rfl⟩
  have B1 : Hid (Below w.heap.size w W1) := by rw [← hW1]; exact (((Below.refl _ w).alloc (Nat.le_refl _) _).alloc (by simp) _).alloc (by simp; omega) _
  obtain ⟨pc, hpc⟩ : ∃ p, w.heap.size = p := ⟨_, rfl⟩
  obtain ⟨pa, hpa⟩ : ∃ p, w.heap.size + 1 = p := ⟨_, rfl⟩
  obtain ⟨pb, hpb⟩ : ∃ p, w.heap.size + 1 + 1 = p := ⟨_, rfl⟩
  obtain ⟨t1, t2, t3⟩ := three w (.cells c.cells 29) (.cells #[.int .u64 n1, .int .i64 m1] 24) (.cells #[.int .u64 n2, .int .i64 m2] 24)
  rw [hW1, hpc] at t1
  rw [hW1, hpa] at t2
  rw [hW1, hpb] at t3
  obtain ⟨z0, z1, z2, z3, z4, z5, z6, z7, z8, z9⟩ := cfg_cells t1
  have HTC := hide t1
  have HTA := hide t2
  have HTB := hide t3
  have HCF := hide (fun (W : World) (h : W.heap[pc]? = some (.cells c.cells 29 (0, 0))) => (cfg_cells h).2.2.2.2.2.2.2.2.1)
  have HW1 := hide hW1
  have HPA := hide hpa
  have HPB := hide hpb
  have HPC := hide hpc
  clear hW1 hpa hpb hpc t1 t2 t3
  have HNO := hide (fun (W : World) (a : Option Addr) (h : PG W a c) => nodes_live h hok)
  have HMY := hide hmy
  have f1 := hok.f1
  have f3 := hok.f3
  clear hmy hok
  unfold Cf.cells at HM HW1 HTC HCF ⊢
  generalize c.f = f at *
  generalize c.mb = mb at *
  generalize (c.delay : Int) = d at *
  generalize (c.win : Int) = wn at *
  generalize (c.every : Int) = ev at *
  generalize (c.beat : Int) = bt at *
  generalize (c.ep : Int) = ep at *
  generalize (c.em : Int) = em at *
  generalize (c.mn : Int) = mn at *
  generalize (c.ms : Int) = ms at *
  go_enter Try.func7, Try.ntmps7
  go_upto_region 1 with fail
  rw [HW1.out, HPB.out, HPA.out, HPC.out]
  clear HW1
  go_wp2_with fail
  refine (HM.out W1).mono ?_
  rintro e w2 ⟨a, rfl, G2⟩
  obtain ⟨p2, b2⟩ := G2.out
  have B2 := hide (B1.out.trans (b2.mono B1.out.size))
  have KG : Hid (∀ V, Hid (Below w2.heap.size w2 V) → PG V a c) := fun V hb => p2.kept hb.out
  have KS : Hid (∀ V, Hid (Below w2.heap.size w2 V) → V.cell? ⟨pa, 0, none⟩ = some (.int .u64 n1) ∧ V.cell? ⟨pa, 1, none⟩ = some (.int .i64 m1) ∧ V.cell? ⟨pb, 0, none⟩ = some (.int .u64 n2) ∧ V.cell? ⟨pb, 1, none⟩ = some (.int .i64 m2) ∧ V.cell? ⟨pc, 8, none⟩ = some (.int .u64 mn)) := fun V hb => by
    have hC := (hb.out.block pc (Nat.lt_of_lt_of_le (block_lt HTC.out) b2.size)).trans ((b2.block pc (block_lt HTC.out)).trans HTC.out)
    have hA := (hb.out.block pa (Nat.lt_of_lt_of_le (block_lt HTA.out) b2.size)).trans ((b2.block pa (block_lt HTA.out)).trans HTA.out)
    have hB := (hb.out.block pb (Nat.lt_of_lt_of_le (block_lt HTB.out) b2.size)).trans ((b2.block pb (block_lt HTB.out)).trans HTB.out)
    exact ⟨block_cell hA 0, block_cell hA 1, block_cell hB 0, block_cell hB 1, HCF.out V hC⟩
  have HD1 : Hid (Below w2.heap.size w2 w2) := Below.refl _ _
  have HD : Hid (∀ V, Hid (Below w2.heap.size w2 V) → Hid (Below w2.heap.size w2 V.drew)) := fun V h => h.out.drew
  have HAL : Hid (∀ V o, Hid (Below w2.heap.size w2 V) → Hid (Below w2.heap.size w2 (V.alloc o))) := fun V o h => h.out.alloc h.out.size o
  have KB : Hid (∀ V V', Hid (Below w2.heap.size w2 V) → Below V.heap.size V V' → Hid (Below w2.heap.size w2 V')) := fun V V' h h' => h.out.trans (h'.mono h.out.size)
  have FB : Hid (∀ V, Hid (Below w2.heap.size w2 V) → Below w.heap.size w V) := fun V h => B2.out.trans (h.out.mono B2.out.size)
  have hg : ∃ g, a = some ⟨g, 0, none⟩ := by obtain ⟨g, e, _⟩ := p2; exact ⟨g, e⟩
  obtain ⟨g, rfl⟩ := hg
  clear G2 p2 b2 z0 z1 z2 z3 z4 z5 z6 z7 z8 z9 B1 HM HTA HTB HTC HCF
  go_wp2_with fail
  refine (HR0.out _ _ (KG.out _ HD1)).mono ?_
  rintro e V1 ⟨ev0, rfl, G⟩
  have HV1 := KB.out _ _ HD1 G.out.2
  have he : ev0 = .nilIface := by
    rcases G.out.1 with ⟨h, _⟩ | ⟨_, h, _⟩
    · exact h
    · simp at h
  subst he
  clear G
  obtain ⟨q0, q1, q2, q3, q4⟩ := KS.out V1 HV1
  go_upto_region 7 with fail
  go_wp2_with fail
  refine (HVA.out _ _ (KG.out _ HV1)).mono ?_
  rintro e V2 ⟨rfl, b⟩
  have HV2 := KB.out _ _ HV1 b
  clear b q0 q1 q2 q3 q4
  obtain ⟨q0, q1, q2, q3, q4⟩ := KS.out V2 HV2
  go_wp2_with fail
  refine (HVB.out _ _ (KG.out _ HV2)).mono ?_
  rintro e V3 ⟨rfl, b⟩
  have HV3 := KB.out _ _ HV2 b
  clear b q0 q1 q2 q3 q4
  obtain ⟨q0, q1, q2, q3, q4⟩ := KS.out V3 HV3
  go_upto_region 9 with fail
  go_wp2_with fail
  refine (HRA.out _ _ (KG.out _ HV3)).mono ?_
  rintro e V4 ⟨ev0, rfl, G⟩
  have HV4 := KB.out _ _ HV3 G.out.2
  have he : ev0 = .nilIface := by
    rcases G.out.1 with ⟨h, _⟩ | ⟨_, h, _⟩
    · exact h
    · simp at h
  subst he
  clear G
  clear q0 q1 q2 q3 q4
  obtain ⟨q0, q1, q2, q3, q4⟩ := KS.out V4 HV4
  go_wp2_with fail
  refine (HRB.out _ _ (KG.out _ HV4)).mono ?_
  rintro e V5 ⟨ev0, rfl, G⟩
  have HV5 := KB.out _ _ HV4 G.out.2
  have he : ev0 = .nilIface := by
    rcases G.out.1 with ⟨h, _⟩ | ⟨_, h, _⟩
    · exact h
    · simp at h
  subst he
  clear G
  clear q0 q1 q2 q3 q4
  obtain ⟨q0, q1, q2, q3, q4⟩ := KS.out V5 HV5
  go_upto_region 11 with fail
  go_cut [87] from 52 (fun s87 V => s87 = .bool false ∧ Hid (Below w2.heap.size w2 V))
  case first =>
    have HL5 := hide (HL.out V5)
    cases hls : ls with
    | true =>
      rw [hls] at HL5 HLT
      have h1 : ra < rb := of_decide_eq_true HLT.out
      have h2 : ¬ ra = rb := by omega
      have h3 : (decide (n1 = n2) && decide (m1 = m2)) = false := by rw [← HEQ.out]; simpa using h2
      rw [h3] at hbe
      clear hls h3
      go_wp2_with fail
      refine HL5.out.mono ?_
      rintro e V6 ⟨rfl, b⟩
      have HV6 := KB.out _ _ HV5 b
      clear b q0 q1 q2 q3 q4
      obtain ⟨q0, q1, q2, q3, q4⟩ := KS.out V6 HV6
      go_wp2
      go_meet
      case rel => exact ⟨by simp; omega, HV6⟩
    | false =>
      rw [hls] at HL5 HLT
      have h1 : ¬ ra < rb := of_decide_eq_false HLT.out
      clear hls
      by_cases h2 : ra = rb
      · have h3 : (decide (n1 = n2) && decide (m1 = m2)) = true := by rw [← HEQ.out]; simpa using h2
        rw [h3] at hbe
        have hq : (ra == rb) = true := by simpa using h2
        clear h3 h2
        go_wp2_with fail
        refine HL5.out.mono ?_
        rintro e V6 ⟨rfl, b⟩
        have HV6 := KB.out _ _ HV5 b
        clear b q0 q1 q2 q3 q4
        obtain ⟨q0, q1, q2, q3, q4⟩ := KS.out V6 HV6
        go_wp2
        go_meet
        case rel => exact ⟨by simp, HV6⟩
      · have h3 : (decide (n1 = n2) && decide (m1 = m2)) = false := by rw [← HEQ.out]; simpa using h2
        rw [h3] at hbe
        clear h3
        go_wp2_with fail
        refine HL5.out.mono ?_
        rintro e V6 ⟨rfl, b⟩
        have HV6 := KB.out _ _ HV5 b
        clear b q0 q1 q2 q3 q4
        obtain ⟨q0, q1, q2, q3, q4⟩ := KS.out V6 HV6
        go_wp2
        go_meet
        case rel => exact ⟨by simp; omega, HV6⟩
  case rest =>
  obtain ⟨rfl, HV6⟩ := hcut
  clear hbe q0 q1 q2 q3 q4
  go_upto_region 13 with fail
  go_wp2_with fail
  refine (HRD.out _ _ (KG.out _ HV6)).mono ?_
  rintro e V7 ⟨ev0, rfl, G⟩
  have HV7 := KB.out _ _ HV6 G.out.2
  have he : ev0 = .nilIface := by
    rcases G.out.1 with ⟨h, _⟩ | ⟨_, h, _⟩
    · exact h
    · simp at h
  subst he
  clear G
  go_upto_region 14 with fail
  obtain ⟨V8, hV8⟩ : ∃ V8, V7.alloc (.cells #[.int .u64 n1, .int .i64 m1] 24) = V8 := ⟨_, rfl⟩
  have HV8 := HAL.out V7 (.cells #[.int .u64 n1, .int .i64 m1] 24) HV7
  have y := alloc_atK V7 (.cells #[.int .u64 n1, .int .i64 m1] 24)
  rw [hV8] at HV8 y
  rw [hV8]
  have y0 := block_cell y 0
  have y1 := block_cell y 1
  clear hV8 y
  generalize V7.heap.size = py at *
  obtain ⟨q0, q1, q2, q3, q4⟩ := KS.out V8 HV8
  go_upto_region 16 with fail
  go_wp2_with fail
  refine (HNX.out _ _ (KG.out _ HV8)).mono ?_
  rintro e V9 ⟨ev0, rfl, G⟩
  have HV9 := KB.out _ _ HV8 G.out.2
  have HE : Hid (∃ ge, ev0 = .iface 95 (.pointer (some ⟨ge, 0, none⟩))) := by
    rcases G.out.1 with ⟨_, h, _⟩ | ⟨⟨g, u, e, _⟩, _⟩
    · simp at h
    · exact ⟨g, e⟩
  obtain ⟨ge, rfl⟩ := HE.out
  clear HE G q0 q1 q2 q3 q4 y0 y1
  obtain ⟨nn, hnn⟩ : ∃ nn, 2 * f + 1 = nn := ⟨_, rfl⟩
  have hn1 : 3 ≤ nn := by omega
  have hn7 : nn ≤ 7 := by omega
  rw [hnn] at HNO HMY
  have u1 := HMY.out
  have u2 : IntKind.u64.wrap nn = nn := by simp [IntKind.wrap, IntKind.bits, IntKind.signed]; omega
  have HN2 : Hid (∀ V, Hid (Below w2.heap.size w2 V) → Calls Try.prog 17 #[.pointer (some ⟨g, 0, none⟩)] V fun e V' => e = .returned (.int .i64 nn) ∧ V' = V) := fun V hb => HNO.out V _ (KG.out V hb)
  have HAL9 : Hid (∀ o, Hid (Below w2.heap.size w2 (V9.alloc o).drew)) := fun o => HD.out _ (HAL.out _ _ HV9)
  clear hnn HMY HNO
  go_upto_region 18 with fail
  refine region_assign (fun V => Hid (Below w2.heap.size w2 V)) [(109, .int .u64 ra), (110, .pointer (some ⟨pc, 8, none⟩)), (111, .int .u64 mn), (112, .pointer (some ⟨g, 0, none⟩)), (113, .int .i64 nn), (114, .int .u64 nn), (115, .int .u64 ra), (116, .bool true), (6, .bool true)] _ (by kernel_rfl) (by kernel_rfl) (by kernel_rfl) (by kernel_rfl) rfl (HAL9.out _) ?_ (fun VA HVA' => ?_)
  · simp only [putAll, Act.put, List.setIfInBounds_toArray, List.set_cons_zero, List.set_cons_succ]
    repeat' (first | exact AllTo.nil | refine AllTo.cons ?_ ?_)
    all_goals first
      | exact stepTo_no (by rfl) rfl
      | (refine stepTo_yes (by rfl) (fun V hV K hK => ?_)
         obtain ⟨r0, r1, r2, r3, r4⟩ := KS.out V hV
         go_simp
         first
           | exact hK.out _ hV
           | (go_at_call 17; refine (HN2.out _ hV).mono ?_; rintro e V' ⟨rfl, rfl⟩; exact hK.out _ hV))
  simp only [putAll, Act.put, List.setIfInBounds_toArray, List.set_cons_zero, List.set_cons_succ]
  go_wp2
  go_ret
  exact ⟨rfl, FB.out _ HVA'⟩
set_option maxRecDepth 100000 in
set_option maxHeartbeats 1600000 in
theorem ranks_go (c : Cf) (n1 m1 n2 m2 : Int) (w : World) (ra rb : Int) (va vb ls : Bool)
    (hM : ∀ W, Calls Try.prog 16 #[.agg c.cells] W fun e w' => ∃ a, e = .returned (.tuple #[.pointer a, .bool true]) ∧ Hid (PG w' a c ∧ Below W.heap.size W w'))
    (hR0 : ∀ W a, PG W a c → Calls Try.prog 27 #[.pointer a, .agg #[.int .u64 0, .int .i64 0]] W (NumR W 0 [] 0))
    (hVa : ∀ W a, PG W a c → Calls Try.prog 24 #[.pointer a, .agg #[.int .u64 n1, .int .i64 m1]] W fun e w' => e = .returned (.bool va) ∧ Below W.heap.size W w')
    (hVb : ∀ W a, PG W a c → Calls Try.prog 24 #[.pointer a, .agg #[.int .u64 n2, .int .i64 m2]] W fun e w' => e = .returned (.bool vb) ∧ Below W.heap.size W w')
    (hRa : ∀ W a, PG W a c → Calls Try.prog 27 #[.pointer a, .agg #[.int .u64 n1, .int .i64 m1]] W (NumR W ra [] 0))
    (hRb : ∀ W a, PG W a c → Calls Try.prog 27 #[.pointer a, .agg #[.int .u64 n2, .int .i64 m2]] W (NumR W rb [] 0))
    (hRd : ∀ W a, PG W a c → Calls Try.prog 28 #[.pointer a, .int .u64 ra] W (BalR W n1 m1 [] 0))
    (hL : ∀ W, Calls Try.prog 10 #[.agg #[.int .u64 n1, .int .i64 m1], .agg #[.int .u64 n2, .int .i64 m2]] W fun e w' => e = .returned (.bool ls) ∧ Below W.heap.size W w')
    (hva : va = true) (hvb : vb = true) (hlt : decide (ra < rb) = ls) (heq : (ra == rb) = (decide (n1 = n2) && decide (m1 = m2))) (n3 m3 rk : Int)
    (hN : ∀ W a, PG W a c → Calls Try.prog 23 #[.pointer a, .agg #[.int .u64 n1, .int .i64 m1]] W (BalR W n3 m3 [] 0))
    (hRy : ∀ W a, PG W a c → Calls Try.prog 27 #[.pointer a, .agg #[.int .u64 n3, .int .i64 m3]] W (NumR W rk [] 0)) (hmy : IntKind.u64.wrap (ra + 1) = rk) :
    Calls Try.prog 7 #[.agg c.cells, .agg #[.int .u64 n1, .int .i64 m1], .agg #[.int .u64 n2, .int .i64 m2]] w fun e w' => e = .returned (.bool true) ∧ Below w.heap.size w w' := by
  have HM := hide hM
  have HR0 := hide hR0
  have HVA := hide hVa
  have HVB := hide hVb
  have HRA := hide hRa
  have HRB := hide hRb
  have HRD := hide hRd
  have HL := hide hL
  have HNX := hide hN
  have HEQ := hide heq
  have HLT := hide hlt
  have hbe := bal_eq n1 n2 m1 m2
  have hbn := bal_neq n1 n1 m1 m1
  simp only [decide_true, Bool.and_true, Bool.not_true] at hbn
  clear hM hR0 hVa hVb hRa hRb hRd hL hN heq hlt
  subst hva hvb
  obtain ⟨W1, hW1⟩ : ∃ W1, ((w.alloc (.cells c.cells 29)).alloc (.cells #[.int .u64 n1, .int .i64 m1] 24)).alloc (.cells #[.int .u64 n2, .int .i64 m2] 24) = W1 := ⟨_, rfl⟩
  have B1 : Hid (Below w.heap.size w W1) := by rw [← hW1]; exact (((Below.refl _ w).alloc (Nat.le_refl _) _).alloc (by simp) _).alloc (by simp; omega) _
  obtain ⟨pc, hpc⟩ : ∃ p, w.heap.size = p := ⟨_, rfl⟩
  obtain ⟨pa, hpa⟩ : ∃ p, w.heap.size + 1 = p := ⟨_, rfl⟩
  obtain ⟨pb, hpb⟩ : ∃ p, w.heap.size + 1 + 1 = p := ⟨_, rfl⟩
  obtain ⟨t1, t2, t3⟩ := three w (.cells c.cells 29) (.cells #[.int .u64 n1, .int .i64 m1] 24) (.cells #[.int .u64 n2, .int .i64 m2] 24)
  rw [hW1, hpc] at t1
  rw [hW1, hpa] at t2
  rw [hW1, hpb] at t3
  obtain ⟨z0, z1, z2, z3, z4, z5, z6, z7, z8, z9⟩ := cfg_cells t1
  have HTC := hide t1
  have HTA := hide t2
  have HTB := hide t3
  have HCF := hide (fun (W : World) (h : W.heap[pc]? = some (.cells c.cells 29 (0, 0))) => (cfg_cells h).2.2.2.2.2.2.2.2.1)
  have HW1 := hide hW1
  have HPA := hide hpa
  have HPB := hide hpb
  have HPC := hide hpc
  clear hW1 hpa hpb hpc t1 t2 t3
  have HRY := hide hRy
  have HMY := hide hmy
  clear hmy hRy
  unfold Cf.cells at HM HW1 HTC HCF ⊢
  generalize c.f = f at *
  generalize c.mb = mb at *
  generalize (c.delay : Int) = d at *
  generalize (c.win : Int) = wn at *
  generalize (c.every : Int) = ev at *
  generalize (c.beat : Int) = bt at *
  generalize (c.ep : Int) = ep at *
  generalize (c.em : Int) = em at *
  generalize (c.mn : Int) = mn at *
  generalize (c.ms : Int) = ms at *
  go_enter Try.func7, Try.ntmps7
  go_upto_region 1 with fail
  rw [HW1.out, HPB.out, HPA.out, HPC.out]
  clear HW1
  go_wp2_with fail
  refine (HM.out W1).mono ?_
  rintro e w2 ⟨a, rfl, G2⟩
  obtain ⟨p2, b2⟩ := G2.out
  have B2 := hide (B1.out.trans (b2.mono B1.out.size))
  have KG : Hid (∀ V, Hid (Below w2.heap.size w2 V) → PG V a c) := fun V hb => p2.kept hb.out
  have KS : Hid (∀ V, Hid (Below w2.heap.size w2 V) → V.cell? ⟨pa, 0, none⟩ = some (.int .u64 n1) ∧ V.cell? ⟨pa, 1, none⟩ = some (.int .i64 m1) ∧ V.cell? ⟨pb, 0, none⟩ = some (.int .u64 n2) ∧ V.cell? ⟨pb, 1, none⟩ = some (.int .i64 m2) ∧ V.cell? ⟨pc, 8, none⟩ = some (.int .u64 mn)) := fun V hb => by
    have hC := (hb.out.block pc (Nat.lt_of_lt_of_le (block_lt HTC.out) b2.size)).trans ((b2.block pc (block_lt HTC.out)).trans HTC.out)
    have hA := (hb.out.block pa (Nat.lt_of_lt_of_le (block_lt HTA.out) b2.size)).trans ((b2.block pa (block_lt HTA.out)).trans HTA.out)
    have hB := (hb.out.block pb (Nat.lt_of_lt_of_le (block_lt HTB.out) b2.size)).trans ((b2.block pb (block_lt HTB.out)).trans HTB.out)
    exact ⟨block_cell hA 0, block_cell hA 1, block_cell hB 0, block_cell hB 1, HCF.out V hC⟩
  have HD1 : Hid (Below w2.heap.size w2 w2) := Below.refl _ _
  have HD : Hid (∀ V, Hid (Below w2.heap.size w2 V) → Hid (Below w2.heap.size w2 V.drew)) := fun V h => h.out.drew
  have HAL : Hid (∀ V o, Hid (Below w2.heap.size w2 V) → Hid (Below w2.heap.size w2 (V.alloc o))) := fun V o h => h.out.alloc h.out.size o
  have KB : Hid (∀ V V', Hid (Below w2.heap.size w2 V) → Below V.heap.size V V' → Hid (Below w2.heap.size w2 V')) := fun V V' h h' => h.out.trans (h'.mono h.out.size)
  have FB : Hid (∀ V, Hid (Below w2.heap.size w2 V) → Below w.heap.size w V) := fun V h => B2.out.trans (h.out.mono B2.out.size)
  have hg : ∃ g, a = some ⟨g, 0, none⟩ := by obtain ⟨g, e, _⟩ := p2; exact ⟨g, e⟩
  obtain ⟨g, rfl⟩ := hg
  clear G2 p2 b2 z0 z1 z2 z3 z4 z5 z6 z7 z8 z9 B1 HM HTA HTB HTC HCF
  go_wp2_with fail
  refine (HR0.out _ _ (KG.out _ HD1)).mono ?_
  rintro e V1 ⟨ev0, rfl, G⟩
  have HV1 := KB.out _ _ HD1 G.out.2
  have he : ev0 = .nilIface := by
    rcases G.out.1 with ⟨h, _⟩ | ⟨_, h, _⟩
    · exact h
    · simp at h
  subst he
  clear G
  obtain ⟨q0, q1, q2, q3, q4⟩ := KS.out V1 HV1
  go_upto_region 7 with fail
  go_wp2_with fail
  refine (HVA.out _ _ (KG.out _ HV1)).mono ?_
  rintro e V2 ⟨rfl, b⟩
  have HV2 := KB.out _ _ HV1 b
  clear b q0 q1 q2 q3 q4
  obtain ⟨q0, q1, q2, q3, q4⟩ := KS.out V2 HV2
  go_wp2_with fail
  refine (HVB.out _ _ (KG.out _ HV2)).mono ?_
  rintro e V3 ⟨rfl, b⟩
  have HV3 := KB.out _ _ HV2 b
  clear b q0 q1 q2 q3 q4
  obtain ⟨q0, q1, q2, q3, q4⟩ := KS.out V3 HV3
  go_upto_region 9 with fail
  go_wp2_with fail
  refine (HRA.out _ _ (KG.out _ HV3)).mono ?_
  rintro e V4 ⟨ev0, rfl, G⟩
  have HV4 := KB.out _ _ HV3 G.out.2
  have he : ev0 = .nilIface := by
    rcases G.out.1 with ⟨h, _⟩ | ⟨_, h, _⟩
    · exact h
    · simp at h
  subst he
  clear G
  clear q0 q1 q2 q3 q4
  obtain ⟨q0, q1, q2, q3, q4⟩ := KS.out V4 HV4
  go_wp2_with fail
  refine (HRB.out _ _ (KG.out _ HV4)).mono ?_
  rintro e V5 ⟨ev0, rfl, G⟩
  have HV5 := KB.out _ _ HV4 G.out.2
  have he : ev0 = .nilIface := by
    rcases G.out.1 with ⟨h, _⟩ | ⟨_, h, _⟩
    · exact h
    · simp at h
  subst he
  clear G
  clear q0 q1 q2 q3 q4
  obtain ⟨q0, q1, q2, q3, q4⟩ := KS.out V5 HV5
  go_upto_region 11 with fail
  go_cut [87] from 52 (fun s87 V => s87 = .bool false ∧ Hid (Below w2.heap.size w2 V))
  case first =>
    have HL5 := hide (HL.out V5)
    cases hls : ls with
    | true =>
      rw [hls] at HL5 HLT
      have h1 : ra < rb := of_decide_eq_true HLT.out
      have h2 : ¬ ra = rb := by omega
      have h3 : (decide (n1 = n2) && decide (m1 = m2)) = false := by rw [← HEQ.out]; simpa using h2
      rw [h3] at hbe
      clear hls h3
      go_wp2_with fail
      refine HL5.out.mono ?_
      rintro e V6 ⟨rfl, b⟩
      have HV6 := KB.out _ _ HV5 b
      clear b q0 q1 q2 q3 q4
      obtain ⟨q0, q1, q2, q3, q4⟩ := KS.out V6 HV6
      go_wp2
      go_meet
      case rel => exact ⟨by simp; omega, HV6⟩
    | false =>
      rw [hls] at HL5 HLT
      have h1 : ¬ ra < rb := of_decide_eq_false HLT.out
      clear hls
      by_cases h2 : ra = rb
      · have h3 : (decide (n1 = n2) && decide (m1 = m2)) = true := by rw [← HEQ.out]; simpa using h2
        rw [h3] at hbe
        have hq : (ra == rb) = true := by simpa using h2
        clear h3 h2
        go_wp2_with fail
        refine HL5.out.mono ?_
        rintro e V6 ⟨rfl, b⟩
        have HV6 := KB.out _ _ HV5 b
        clear b q0 q1 q2 q3 q4
        obtain ⟨q0, q1, q2, q3, q4⟩ := KS.out V6 HV6
        go_wp2
        go_meet
        case rel => exact ⟨by simp, HV6⟩
      · have h3 : (decide (n1 = n2) && decide (m1 = m2)) = false := by rw [← HEQ.out]; simpa using h2
        rw [h3] at hbe
        clear h3
        go_wp2_with fail
        refine HL5.out.mono ?_
        rintro e V6 ⟨rfl, b⟩
        have HV6 := KB.out _ _ HV5 b
        clear b q0 q1 q2 q3 q4
        obtain ⟨q0, q1, q2, q3, q4⟩ := KS.out V6 HV6
        go_wp2
        go_meet
        case rel => exact ⟨by simp; omega, HV6⟩
  case rest =>
  obtain ⟨rfl, HV6⟩ := hcut
  clear hbe q0 q1 q2 q3 q4
  go_upto_region 13 with fail
  go_wp2_with fail
  refine (HRD.out _ _ (KG.out _ HV6)).mono ?_
  rintro e V7 ⟨ev0, rfl, G⟩
  have HV7 := KB.out _ _ HV6 G.out.2
  have he : ev0 = .nilIface := by
    rcases G.out.1 with ⟨h, _⟩ | ⟨_, h, _⟩
    · exact h
    · simp at h
  subst he
  clear G
  go_upto_region 14 with fail
  obtain ⟨V8, hV8⟩ : ∃ V8, V7.alloc (.cells #[.int .u64 n1, .int .i64 m1] 24) = V8 := ⟨_, rfl⟩
  have HV8 := HAL.out V7 (.cells #[.int .u64 n1, .int .i64 m1] 24) HV7
  have y := alloc_atK V7 (.cells #[.int .u64 n1, .int .i64 m1] 24)
  rw [hV8] at HV8 y
  rw [hV8]
  have y0 := block_cell y 0
  have y1 := block_cell y 1
  clear hV8 y
  generalize V7.heap.size = py at *
  obtain ⟨q0, q1, q2, q3, q4⟩ := KS.out V8 HV8
  go_upto_region 16 with fail
  go_wp2_with fail
  refine (HNX.out _ _ (KG.out _ HV8)).mono ?_
  rintro e V9 ⟨ev0, rfl, G⟩
  have HV9 := KB.out _ _ HV8 G.out.2
  have he : ev0 = .nilIface := by
    rcases G.out.1 with ⟨h, _⟩ | ⟨_, h, _⟩
    · exact h
    · simp at h
  subst he
  clear G q0 q1 q2 q3 q4 y0 y1
  have u1 := HMY.out
  clear HMY
  go_upto_region 19 with fail
  obtain ⟨VA, hVA⟩ : ∃ V8, V9.alloc (.cells #[.int .u64 n3, .int .i64 m3] 24) = V8 := ⟨_, rfl⟩
  have HVA' := HAL.out V9 (.cells #[.int .u64 n3, .int .i64 m3] 24) HV9
  have y := alloc_atK V9 (.cells #[.int .u64 n3, .int .i64 m3] 24)
  rw [hVA] at HVA' y
  rw [hVA]
  have y0 := block_cell y 0
  have y1 := block_cell y 1
  clear hVA y
  generalize V9.heap.size = pz at *
  go_wp2_with fail
  refine (HRY.out _ _ (KG.out _ HVA')).mono ?_
  rintro e VB ⟨ev0, rfl, G⟩
  have HVB' := KB.out _ _ HVA' G.out.2
  have he : ev0 = .nilIface := by
    rcases G.out.1 with ⟨h, _⟩ | ⟨_, h, _⟩
    · exact h
    · simp at h
  subst he
  clear G
  go_wp2
  go_ret
  exact ⟨by simp, FB.out _ HVB'⟩
end Go.Proofs.Ytppoloellajfhaa
