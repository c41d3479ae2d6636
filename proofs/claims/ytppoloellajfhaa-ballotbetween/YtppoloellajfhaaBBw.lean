import Derived.Test.YtppoloellajfhaaBPo
import Derived.Test.YtppoloellajfhaaBPn
namespace Go.Proofs.Ytppoloellajfhaa
open Go.RowKit

set_option maxRecDepth 100000 in
set_option maxHeartbeats 1600000 in
theorem between_bad (c : Cf) (n1 m1 nd nx mx : Int) (w : World) 
    (hM : ∀ W, Calls Try.prog 16 #[.agg c.cells] W fun e w' => e = .returned (.tuple #[.pointer none, .bool true]) ∧ Below W.heap.size W w') :
    Calls Try.prog 6 #[.agg c.cells, .agg #[.int .u64 n1, .int .i64 m1], .int .i64 nd, .agg #[.int .u64 nx, .int .i64 mx]] w fun e w' => e = .returned (.bool true) ∧ Below w.heap.size w w' := by
  have HM := hide hM
  clear hM
  obtain ⟨W1, hW1⟩ : ∃ W1, ((w.alloc (.cells c.cells 29)).alloc (.cells #[.int .u64 n1, .int .i64 m1] 24)).alloc (.cells #[.int .u64 nx, .int .i64 mx] 24) = W1 := ⟨_, rfl⟩
  have B1 : Hid (Below w.heap.size w W1) := by rw [← hW1]; exact (((Below.refl _ w).alloc (Nat.le_refl _) _).alloc (by simp) _).alloc (by simp; omega) _
  obtain ⟨pc, hpc⟩ : ∃ p, w.heap.size = p := ⟨_, rfl⟩
  obtain ⟨pa, hpa⟩ : ∃ p, w.heap.size + 1 = p := ⟨_, rfl⟩
  obtain ⟨pb, hpb⟩ : ∃ p, w.heap.size + 1 + 1 = p := ⟨_, rfl⟩
  obtain ⟨t1, t2, t3⟩ := three w (.cells c.cells 29) (.cells #[.int .u64 n1, .int .i64 m1] 24) (.cells #[.int .u64 nx, .int .i64 mx] 24)
  rw [hW1, hpc] at t1
  rw [hW1, hpa] at t2
  rw [hW1, hpb] at t3
  obtain ⟨z0, z1, z2, z3, z4, z5, z6, z7, z8, z9⟩ := cfg_cells t1
  have HTA := hide t2
  have HTB := hide t3
  have HW1 := hide hW1
  have HPA := hide hpa
  have HPB := hide hpb
  have HPC := hide hpc
  clear hW1 hpa hpb hpc t1 t2 t3
  unfold Cf.cells at *
  generalize c.f = f at *
  generalize c.mb = mb at *
  generalize (c.delay : Int) = d at *
  generalize (c.win : Int) = wn at *
  generalize (c.every : Int) = ev at *
  generalize (c.beat : Int) = bt at *
  generalize (c.ep : Int) = ep at *
  generalize (c.em : Int) = em at *
  generalize (c.mn : Int) = mn at *
  generalize (c.ms : Int) = ms at *
  go_enter Try.func6, Try.ntmps6
  go_upto_region 1 with fail
  rw [HW1.out, HPB.out, HPA.out, HPC.out]
  clear HW1
  go_wp2_with fail
  refine (HM.out W1).mono ?_
  rintro e w2 ⟨rfl, b2⟩
  have B2 := hide (B1.out.trans (b2.mono B1.out.size))
  clear b2 z0 z1 z2 z3 z4 z5 z6 z7 z8 z9
  go_wp2
  go_ret
  exact ⟨rfl, B2.out⟩
set_option maxRecDepth 100000 in
set_option maxHeartbeats 1600000 in
theorem between_inv (c : Cf) (n1 m1 nd nx mx : Int) (w : World) 
    (hM : ∀ W, Calls Try.prog 16 #[.agg c.cells] W fun e w' => ∃ a, e = .returned (.tuple #[.pointer a, .bool true]) ∧ Hid (PG w' a c ∧ Below W.heap.size W w'))
    (hN0 : ∀ W a, PG W a c → Calls Try.prog 23 #[.pointer a, .agg #[.int .u64 0, .int .i64 0]] W (BalR W 1 0 [] 0))
    (hVb : ∀ W a, PG W a c → Calls Try.prog 24 #[.pointer a, .agg #[.int .u64 n1, .int .i64 m1]] W fun e w' => e = .returned (.bool false) ∧ Below W.heap.size W w') :
    Calls Try.prog 6 #[.agg c.cells, .agg #[.int .u64 n1, .int .i64 m1], .int .i64 nd, .agg #[.int .u64 nx, .int .i64 mx]] w fun e w' => e = .returned (.bool true) ∧ Below w.heap.size w w' := by
  have HM := hide hM
  have HN0 := hide hN0
  have HVB := hide hVb
  clear hM hN0 hVb
  have hbn := bal_neq 1 1 0 0
  simp only [decide_true, Bool.and_true, Bool.not_true] at hbn
  obtain ⟨W1, hW1⟩ : ∃ W1, ((w.alloc (.cells c.cells 29)).alloc (.cells #[.int .u64 n1, .int .i64 m1] 24)).alloc (.cells #[.int .u64 nx, .int .i64 mx] 24) = W1 := ⟨_, rfl⟩
  have B1 : Hid (Below w.heap.size w W1) := by rw [← hW1]; exact (((Below.refl _ w).alloc (Nat.le_refl _) _).alloc (by simp) _).alloc (by simp; omega) _
  obtain ⟨pc, hpc⟩ : ∃ p, w.heap.size = p := ⟨_, rfl⟩
  obtain ⟨pa, hpa⟩ : ∃ p, w.heap.size + 1 = p := ⟨_, rfl⟩
  obtain ⟨pb, hpb⟩ : ∃ p, w.heap.size + 1 + 1 = p := ⟨_, rfl⟩
  obtain ⟨t1, t2, t3⟩ := three w (.cells c.cells 29) (.cells #[.int .u64 n1, .int .i64 m1] 24) (.cells #[.int .u64 nx, .int .i64 mx] 24)
  rw [hW1, hpc] at t1
  rw [hW1, hpa] at t2
  rw [hW1, hpb] at t3
  obtain ⟨z0, z1, z2, z3, z4, z5, z6, z7, z8, z9⟩ := cfg_cells t1
  have HTA := hide t2
  have HTB := hide t3
  have HW1 := hide hW1
  have HPA := hide hpa
  have HPB := hide hpb
  have HPC := hide hpc
  clear hW1 hpa hpb hpc t1 t2 t3
  unfold Cf.cells at HM HW1 ⊢
  generalize c.f = f at *
  generalize c.mb = mb at *
  generalize (c.delay : Int) = d at *
  generalize (c.win : Int) = wn at *
  generalize (c.every : Int) = ev at *
  generalize (c.beat : Int) = bt at *
  generalize (c.ep : Int) = ep at *
  generalize (c.em : Int) = em at *
  generalize (c.mn : Int) = mn at *
  generalize (c.ms : Int) = ms at *
  go_enter Try.func6, Try.ntmps6
  go_upto_region 1 with fail
  rw [HW1.out, HPB.out, HPA.out, HPC.out]
  clear HW1
  go_wp2_with fail
  refine (HM.out W1).mono ?_
  rintro e w2 ⟨a, rfl, G2⟩
  obtain ⟨p2, b2⟩ := G2.out
  have B2 := hide (B1.out.trans (b2.mono B1.out.size))
  have KG : Hid (∀ V, Hid (Below w2.heap.size w2 V) → PG V a c) := fun V hb => p2.kept hb.out
  have KS : Hid (∀ V, Hid (Below w2.heap.size w2 V) → V.cell? ⟨pa, 0, none⟩ = some (.int .u64 n1) ∧ V.cell? ⟨pa, 1, none⟩ = some (.int .i64 m1) ∧ V.cell? ⟨pb, 0, none⟩ = some (.int .u64 nx) ∧ V.cell? ⟨pb, 1, none⟩ = some (.int .i64 mx)) := fun V hb => by
    have hA := (hb.out.block pa (Nat.lt_of_lt_of_le (block_lt HTA.out) b2.size)).trans ((b2.block pa (block_lt HTA.out)).trans HTA.out)
    have hB := (hb.out.block pb (Nat.lt_of_lt_of_le (block_lt HTB.out) b2.size)).trans ((b2.block pb (block_lt HTB.out)).trans HTB.out)
    exact ⟨block_cell hA 0, block_cell hA 1, block_cell hB 0, block_cell hB 1⟩
  have HD1 : Hid (Below w2.heap.size w2 w2) := Below.refl _ _
  have HAL : Hid (∀ V o, Hid (Below w2.heap.size w2 V) → Hid (Below w2.heap.size w2 (V.alloc o))) := fun V o h => h.out.alloc h.out.size o
  have KB : Hid (∀ V V', Hid (Below w2.heap.size w2 V) → Below V.heap.size V V' → Hid (Below w2.heap.size w2 V')) := fun V V' h h' => h.out.trans (h'.mono h.out.size)
  have FB : Hid (∀ V, Hid (Below w2.heap.size w2 V) → Below w.heap.size w V) := fun V h => B2.out.trans (h.out.mono B2.out.size)
  have hg : ∃ g, a = some ⟨g, 0, none⟩ := by obtain ⟨g, e, _⟩ := p2; exact ⟨g, e⟩
  obtain ⟨g, rfl⟩ := hg
  clear G2 p2 b2 z0 z1 z2 z3 z4 z5 z6 z7 z8 z9 B1 HM HTA HTB
  go_wp2_with fail
  refine (HN0.out _ _ (KG.out _ HD1)).mono ?_
  rintro e V1 ⟨ev0, rfl, G⟩
  have HV1 := KB.out _ _ HD1 G.out.2
  have he : ev0 = .nilIface := by
    rcases G.out.1 with ⟨h, _⟩ | ⟨_, h, _⟩
    · exact h
    · simp at h
  subst he
  clear G
  go_upto_region 5 with fail
  obtain ⟨V2, hV2⟩ : ∃ V8, V1.alloc (.cells #[.int .u64 1, .int .i64 0] 24) = V8 := ⟨_, rfl⟩
  have HV2 := HAL.out V1 (.cells #[.int .u64 1, .int .i64 0] 24) HV1
  have y := alloc_atK V1 (.cells #[.int .u64 1, .int .i64 0] 24)
  rw [hV2] at HV2 y
  rw [hV2]
  have Y := hide y
  clear hV2 y
  generalize V1.heap.size = p0 at *
  have y0 := block_cell Y.out 0
  have y1 := block_cell Y.out 1
  go_upto_region 7 with fail
  clear y0 y1 Y hbn
  obtain ⟨q0, q1, q2, q3⟩ := KS.out V2 HV2
  go_wp2_with fail
  refine (HVB.out _ _ (KG.out _ HV2)).mono ?_
  rintro e V3 ⟨rfl, b⟩
  have HV3 := KB.out _ _ HV2 b
  clear b
  clear q0 q1 q2 q3
  go_wp2
  go_ret
  exact ⟨rfl, FB.out _ HV3⟩
set_option maxRecDepth 100000 in
set_option maxHeartbeats 1600000 in
theorem between_end (c : Cf) (n1 m1 nd nx mx : Int) (w : World) 
    (hM : ∀ W, Calls Try.prog 16 #[.agg c.cells] W fun e w' => ∃ a, e = .returned (.tuple #[.pointer a, .bool true]) ∧ Hid (PG w' a c ∧ Below W.heap.size W w'))
    (hN0 : ∀ W a, PG W a c → Calls Try.prog 23 #[.pointer a, .agg #[.int .u64 0, .int .i64 0]] W (BalR W 1 0 [] 0))
    (hVb : ∀ W a, PG W a c → Calls Try.prog 24 #[.pointer a, .agg #[.int .u64 n1, .int .i64 m1]] W fun e w' => e = .returned (.bool true) ∧ Below W.heap.size W w') (vx lbx nv : Bool)
    (hVx : ∀ W a, PG W a c → Calls Try.prog 24 #[.pointer a, .agg #[.int .u64 nx, .int .i64 mx]] W fun e w' => e = .returned (.bool vx) ∧ Below W.heap.size W w')
    (hLx : ∀ W, Calls Try.prog 10 #[.agg #[.int .u64 n1, .int .i64 m1], .agg #[.int .u64 nx, .int .i64 mx]] W fun e w' => e = .returned (.bool lbx) ∧ Below W.heap.size W w')
    (hNd : ∀ W a, PG W a c → Calls Try.prog 25 #[.pointer a, .int .i64 nd] W fun e w' => e = .returned (.bool nv) ∧ w' = W)
    (hO : (nv = false) ∨ (nv = true ∧ (∀ W a, PG W a c → Calls Try.prog 26 #[.pointer a, .agg #[.int .u64 n1, .int .i64 m1], .int .i64 nd] W (BalR W 0 0 [⟨ballotN, 0⟩] 183)) ∧ ((vx && lbx) = true → ¬ mx = nd)) ∨
      (nv = true ∧ ∃ n4 lxo, (∀ W a, PG W a c → Calls Try.prog 26 #[.pointer a, .agg #[.int .u64 n1, .int .i64 m1], .int .i64 nd] W (BalR W n4 nd [] 0)) ∧ (∀ W a, PG W a c → Calls Try.prog 24 #[.pointer a, .agg #[.int .u64 n4, .int .i64 nd]] W fun e w' => e = .returned (.bool true) ∧ Below W.heap.size W w') ∧
        (∀ W, Calls Try.prog 10 #[.agg #[.int .u64 n1, .int .i64 m1], .agg #[.int .u64 n4, .int .i64 nd]] W fun e w' => e = .returned (.bool true) ∧ Below W.heap.size W w') ∧ (∀ W, Calls Try.prog 10 #[.agg #[.int .u64 nx, .int .i64 mx], .agg #[.int .u64 n4, .int .i64 nd]] W fun e w' => e = .returned (.bool lxo) ∧ Below W.heap.size W w') ∧ ((vx && lbx) = true → mx = nd → lxo = false)))
    (hN : ∀ W a, PG W a c → Calls Try.prog 23 #[.pointer a, .agg #[.int .u64 n1, .int .i64 m1]] W (BalR W 0 0 [⟨ballotN, 0⟩] 183)) (hab : (vx && lbx) = false) :
    Calls Try.prog 6 #[.agg c.cells, .agg #[.int .u64 n1, .int .i64 m1], .int .i64 nd, .agg #[.int .u64 nx, .int .i64 mx]] w fun e w' => e = .returned (.bool true) ∧ Below w.heap.size w w' := by
  have HM := hide hM
  have HN0 := hide hN0
  have HVB := hide hVb
  have HVX := hide hVx
  have HLX := hide hLx
  have HND := hide hNd
  have HO := hide hO
  have HNX := hide hN
  have HAB := hide hab
  clear hM hN0 hVb hVx hLx hNd hO hN hab
  have hbn := bal_neq 1 1 0 0
  simp only [decide_true, Bool.and_true, Bool.not_true] at hbn
  obtain ⟨W1, hW1⟩ : ∃ W1, ((w.alloc (.cells c.cells 29)).alloc (.cells #[.int .u64 n1, .int .i64 m1] 24)).alloc (.cells #[.int .u64 nx, .int .i64 mx] 24) = W1 := ⟨_, rfl⟩
  have B1 : Hid (Below w.heap.size w W1) := by rw [← hW1]; exact (((Below.refl _ w).alloc (Nat.le_refl _) _).alloc (by simp) _).alloc (by simp; omega) _
  obtain ⟨pc, hpc⟩ : ∃ p, w.heap.size = p := ⟨_, rfl⟩
  obtain ⟨pa, hpa⟩ : ∃ p, w.heap.size + 1 = p := ⟨_, rfl⟩
  obtain ⟨pb, hpb⟩ : ∃ p, w.heap.size + 1 + 1 = p := ⟨_, rfl⟩
  obtain ⟨t1, t2, t3⟩ := three w (.cells c.cells 29) (.cells #[.int .u64 n1, .int .i64 m1] 24) (.cells #[.int .u64 nx, .int .i64 mx] 24)
  rw [hW1, hpc] at t1
  rw [hW1, hpa] at t2
  rw [hW1, hpb] at t3
  obtain ⟨z0, z1, z2, z3, z4, z5, z6, z7, z8, z9⟩ := cfg_cells t1
  have HTA := hide t2
  have HTB := hide t3
  have HW1 := hide hW1
  have HPA := hide hpa
  have HPB := hide hpb
  have HPC := hide hpc
  clear hW1 hpa hpb hpc t1 t2 t3
  unfold Cf.cells at HM HW1 ⊢
  generalize c.f = f at *
  generalize c.mb = mb at *
  generalize (c.delay : Int) = d at *
  generalize (c.win : Int) = wn at *
  generalize (c.every : Int) = ev at *
  generalize (c.beat : Int) = bt at *
  generalize (c.ep : Int) = ep at *
  generalize (c.em : Int) = em at *
  generalize (c.mn : Int) = mn at *
  generalize (c.ms : Int) = ms at *
  go_enter Try.func6, Try.ntmps6
  go_upto_region 1 with fail
  rw [HW1.out, HPB.out, HPA.out, HPC.out]
  clear HW1
  go_wp2_with fail
  refine (HM.out W1).mono ?_
  rintro e w2 ⟨a, rfl, G2⟩
  obtain ⟨p2, b2⟩ := G2.out
  have B2 := hide (B1.out.trans (b2.mono B1.out.size))
  have KG : Hid (∀ V, Hid (Below w2.heap.size w2 V) → PG V a c) := fun V hb => p2.kept hb.out
  have KS : Hid (∀ V, Hid (Below w2.heap.size w2 V) → V.cell? ⟨pa, 0, none⟩ = some (.int .u64 n1) ∧ V.cell? ⟨pa, 1, none⟩ = some (.int .i64 m1) ∧ V.cell? ⟨pb, 0, none⟩ = some (.int .u64 nx) ∧ V.cell? ⟨pb, 1, none⟩ = some (.int .i64 mx)) := fun V hb => by
    have hA := (hb.out.block pa (Nat.lt_of_lt_of_le (block_lt HTA.out) b2.size)).trans ((b2.block pa (block_lt HTA.out)).trans HTA.out)
    have hB := (hb.out.block pb (Nat.lt_of_lt_of_le (block_lt HTB.out) b2.size)).trans ((b2.block pb (block_lt HTB.out)).trans HTB.out)
    exact ⟨block_cell hA 0, block_cell hA 1, block_cell hB 0, block_cell hB 1⟩
  have HD1 : Hid (Below w2.heap.size w2 w2) := Below.refl _ _
  have HAL : Hid (∀ V o, Hid (Below w2.heap.size w2 V) → Hid (Below w2.heap.size w2 (V.alloc o))) := fun V o h => h.out.alloc h.out.size o
  have KB : Hid (∀ V V', Hid (Below w2.heap.size w2 V) → Below V.heap.size V V' → Hid (Below w2.heap.size w2 V')) := fun V V' h h' => h.out.trans (h'.mono h.out.size)
  have FB : Hid (∀ V, Hid (Below w2.heap.size w2 V) → Below w.heap.size w V) := fun V h => B2.out.trans (h.out.mono B2.out.size)
  have hg : ∃ g, a = some ⟨g, 0, none⟩ := by obtain ⟨g, e, _⟩ := p2; exact ⟨g, e⟩
  obtain ⟨g, rfl⟩ := hg
  clear G2 p2 b2 z0 z1 z2 z3 z4 z5 z6 z7 z8 z9 B1 HM HTA HTB
  go_wp2_with fail
  refine (HN0.out _ _ (KG.out _ HD1)).mono ?_
  rintro e V1 ⟨ev0, rfl, G⟩
  have HV1 := KB.out _ _ HD1 G.out.2
  have he : ev0 = .nilIface := by
    rcases G.out.1 with ⟨h, _⟩ | ⟨_, h, _⟩
    · exact h
    · simp at h
  subst he
  clear G
  go_upto_region 5 with fail
  obtain ⟨V2, hV2⟩ : ∃ V8, V1.alloc (.cells #[.int .u64 1, .int .i64 0] 24) = V8 := ⟨_, rfl⟩
  have HV2 := HAL.out V1 (.cells #[.int .u64 1, .int .i64 0] 24) HV1
  have y := alloc_atK V1 (.cells #[.int .u64 1, .int .i64 0] 24)
  rw [hV2] at HV2 y
  rw [hV2]
  have Y := hide y
  clear hV2 y
  generalize V1.heap.size = p0 at *
  have y0 := block_cell Y.out 0
  have y1 := block_cell Y.out 1
  go_upto_region 7 with fail
  clear y0 y1 Y hbn
  obtain ⟨q0, q1, q2, q3⟩ := KS.out V2 HV2
  go_wp2_with fail
  refine (HVB.out _ _ (KG.out _ HV2)).mono ?_
  rintro e V3 ⟨rfl, b⟩
  have HV3 := KB.out _ _ HV2 b
  clear b
  clear q0 q1 q2 q3
  go_upto_region 9 with fail
  obtain ⟨q0, q1, q2, q3⟩ := KS.out V3 HV3
  go_cut [13] from 14 (fun s13 V => s13 = .bool (vx && lbx) ∧ Hid (Below w2.heap.size w2 V))
  case first =>
    cases vx with
    | false =>
      go_wp2_with fail
      refine (HVX.out _ _ (KG.out _ HV3)).mono ?_
      rintro e V4 ⟨rfl, b⟩
      have HV4 := KB.out _ _ HV3 b
      clear b
      go_wp2
      go_meet
      case rel => exact ⟨by simp, HV4⟩
    | true =>
      go_wp2_with fail
      refine (HVX.out _ _ (KG.out _ HV3)).mono ?_
      rintro e V4 ⟨rfl, b⟩
      have HV4 := KB.out _ _ HV3 b
      clear b q0 q1 q2 q3
      obtain ⟨q0, q1, q2, q3⟩ := KS.out V4 HV4
      go_wp2_with fail
      refine (HLX.out V4).mono ?_
      rintro e V5 ⟨rfl, b⟩
      have HV5 := KB.out _ _ HV4 b
      clear b
      go_wp2
      go_meet
      case rel => exact ⟨by simp, HV5⟩
  case rest =>
  obtain ⟨rfl, HC9⟩ := hcut
  clear q0 q1 q2 q3 HVX HLX
  rw [HAB.out] at HO ⊢
  obtain ⟨V6, hV6⟩ : ∃ V, Hid (Below w2.heap.size w2 V) ∧ V = V := ⟨_, HC9, rfl⟩
  clear V6 hV6
  obtain ⟨q0, q1, q2, q3⟩ := KS.out _ HC9
  go_upto_region 10 with fail
  go_wp2_with fail
  refine (HNX.out _ _ (KG.out _ HC9)).mono ?_
  rintro e V7 ⟨ev0, rfl, G⟩
  have HV7 := KB.out _ _ HC9 G.out.2
  clear q0 q1 q2 q3
  have HE : Hid (∃ ge, ev0 = .iface 95 (.pointer (some ⟨ge, 0, none⟩))) := by
    rcases G.out.1 with ⟨_, h, _⟩ | ⟨⟨g, u, e, _⟩, _⟩
    · simp at h
    · exact ⟨g, e⟩
  obtain ⟨ge, rfl⟩ := HE.out
  clear HE G
  go_upto_region 11 with fail
  obtain ⟨V8, hV8⟩ : ∃ V8, V7.alloc (.cells #[.int .u64 0, .int .i64 0] 24) = V8 := ⟨_, rfl⟩
  have HCA := HAL.out V7 (.cells #[.int .u64 0, .int .i64 0] 24) HV7
  rw [hV8] at HCA
  rw [hV8]
  clear hV8
  generalize V7.heap.size = pz at *
  go_upto_region 16 with fail
  go_wp2_with fail
  refine (HND.out _ _ (KG.out _ HCA)).mono ?_
  rintro e V9 ⟨rfl, rfl⟩
  rcases HO.out with hnv | ⟨hnv, hOw, hmm⟩ | ⟨hnv, n4, lxo, hOw, hVo, hLo, hXo, hmm⟩
  · subst hnv
    clear HO
    go_wp2
    go_ret
    exact ⟨rfl, FB.out _ HCA⟩
  · subst hnv
    have HOW := hide hOw
    clear HO hOw hmm
    obtain ⟨q0, q1, q2, q3⟩ := KS.out _ HCA
    go_wp2_with fail
    refine (HOW.out _ _ (KG.out _ HCA)).mono ?_
    rintro e VA ⟨ev0, rfl, G⟩
    have HVA := KB.out _ _ HCA G.out.2
    have HE : Hid (∃ ge, ev0 = .iface 95 (.pointer (some ⟨ge, 0, none⟩))) := by
      rcases G.out.1 with ⟨_, h, _⟩ | ⟨⟨g, u, e, _⟩, _⟩
      · simp at h
      · exact ⟨g, e⟩
    obtain ⟨ge, rfl⟩ := HE.out
    clear HE G
    clear q0 q1 q2 q3
    go_upto_region 20 with fail
    obtain ⟨VB, hVB⟩ : ∃ V8, VA.alloc (.cells #[.int .u64 0, .int .i64 0] 24) = V8 := ⟨_, rfl⟩
    have HVB' := HAL.out VA (.cells #[.int .u64 0, .int .i64 0] 24) HVA
    rw [hVB] at HVB'
    rw [hVB]
    clear hVB
    obtain ⟨q0, q1, q2, q3⟩ := KS.out _ HVB'
    go_wp2
    go_ret
    exact ⟨rfl, FB.out _ HVB'⟩
  · subst hnv
    have HOW := hide hOw
    have HVO := hide hVo
    have HLO := hide hLo
    have HXO := hide hXo
    clear HO hOw hmm hVo hLo hXo
    obtain ⟨q0, q1, q2, q3⟩ := KS.out _ HCA
    go_wp2_with fail
    refine (HOW.out _ _ (KG.out _ HCA)).mono ?_
    rintro e VA ⟨ev0, rfl, G⟩
    have HVA := KB.out _ _ HCA G.out.2
    have he : ev0 = .nilIface := by
      rcases G.out.1 with ⟨h, _⟩ | ⟨_, h, _⟩
      · exact h
      · simp at h
    subst he
    clear G
    clear q0 q1 q2 q3
    go_upto_region 21 with fail
    obtain ⟨VB, hVB⟩ : ∃ V8, VA.alloc (.cells #[.int .u64 n4, .int .i64 nd] 24) = V8 := ⟨_, rfl⟩
    have HVB' := HAL.out VA (.cells #[.int .u64 n4, .int .i64 nd] 24) HVA
    have y := alloc_atK VA (.cells #[.int .u64 n4, .int .i64 nd] 24)
    rw [hVB] at HVB' y
    rw [hVB]
    have Y := hide y
    clear hVB y
    generalize VA.heap.size = po at *
    have KY : Hid (∀ V, Below VB.heap.size VB V → V.cell? ⟨po, 0, none⟩ = some (.int .u64 n4) ∧ V.cell? ⟨po, 1, none⟩ = some (.int .i64 nd)) := fun V hb => by
      have h := (hb.block _ (block_lt Y.out)).trans Y.out
      exact ⟨block_cell h 0, block_cell h 1⟩
    clear Y
    obtain ⟨q0, q1, q2, q3⟩ := KS.out _ HVB'
    obtain ⟨y0, y1⟩ := KY.out VB (Below.refl _ _)
    go_wp2_with fail
    refine (HVO.out _ _ (KG.out _ HVB')).mono ?_
    rintro e VC ⟨rfl, b⟩
    have HVC := KB.out _ _ HVB' b
    have HYC := hide b
    clear b q0 q1 q2 q3 y0 y1
    obtain ⟨q0, q1, q2, q3⟩ := KS.out _ HVC
    obtain ⟨y0, y1⟩ := KY.out VC HYC.out
    go_wp2_with fail
    refine (HLO.out VC).mono ?_
    rintro e VD ⟨rfl, b⟩
    have HVD := KB.out _ _ HVC b
    have HYD := hide (HYC.out.trans (b.mono HYC.out.size))
    clear b q0 q1 q2 q3 y0 y1
    obtain ⟨q0, q1, q2, q3⟩ := KS.out _ HVD
    obtain ⟨y0, y1⟩ := KY.out VD HYD.out
    go_wp2
    go_ret
    exact ⟨rfl, FB.out _ HVD⟩
set_option maxRecDepth 100000 in
set_option maxHeartbeats 1600000 in
theorem between_go (c : Cf) (n1 m1 nd nx mx : Int) (w : World) 
    (hM : ∀ W, Calls Try.prog 16 #[.agg c.cells] W fun e w' => ∃ a, e = .returned (.tuple #[.pointer a, .bool true]) ∧ Hid (PG w' a c ∧ Below W.heap.size W w'))
    (hN0 : ∀ W a, PG W a c → Calls Try.prog 23 #[.pointer a, .agg #[.int .u64 0, .int .i64 0]] W (BalR W 1 0 [] 0))
    (hVb : ∀ W a, PG W a c → Calls Try.prog 24 #[.pointer a, .agg #[.int .u64 n1, .int .i64 m1]] W fun e w' => e = .returned (.bool true) ∧ Below W.heap.size W w') (vx lbx nv : Bool)
    (hVx : ∀ W a, PG W a c → Calls Try.prog 24 #[.pointer a, .agg #[.int .u64 nx, .int .i64 mx]] W fun e w' => e = .returned (.bool vx) ∧ Below W.heap.size W w')
    (hLx : ∀ W, Calls Try.prog 10 #[.agg #[.int .u64 n1, .int .i64 m1], .agg #[.int .u64 nx, .int .i64 mx]] W fun e w' => e = .returned (.bool lbx) ∧ Below W.heap.size W w')
    (hNd : ∀ W a, PG W a c → Calls Try.prog 25 #[.pointer a, .int .i64 nd] W fun e w' => e = .returned (.bool nv) ∧ w' = W)
    (hO : (nv = false) ∨ (nv = true ∧ (∀ W a, PG W a c → Calls Try.prog 26 #[.pointer a, .agg #[.int .u64 n1, .int .i64 m1], .int .i64 nd] W (BalR W 0 0 [⟨ballotN, 0⟩] 183)) ∧ ((vx && lbx) = true → ¬ mx = nd)) ∨
      (nv = true ∧ ∃ n4 lxo, (∀ W a, PG W a c → Calls Try.prog 26 #[.pointer a, .agg #[.int .u64 n1, .int .i64 m1], .int .i64 nd] W (BalR W n4 nd [] 0)) ∧ (∀ W a, PG W a c → Calls Try.prog 24 #[.pointer a, .agg #[.int .u64 n4, .int .i64 nd]] W fun e w' => e = .returned (.bool true) ∧ Below W.heap.size W w') ∧
        (∀ W, Calls Try.prog 10 #[.agg #[.int .u64 n1, .int .i64 m1], .agg #[.int .u64 n4, .int .i64 nd]] W fun e w' => e = .returned (.bool true) ∧ Below W.heap.size W w') ∧ (∀ W, Calls Try.prog 10 #[.agg #[.int .u64 nx, .int .i64 mx], .agg #[.int .u64 n4, .int .i64 nd]] W fun e w' => e = .returned (.bool lxo) ∧ Below W.heap.size W w') ∧ ((vx && lbx) = true → mx = nd → lxo = false))) (n3 m3 : Int) (lxn : Bool)
    (hN : ∀ W a, PG W a c → Calls Try.prog 23 #[.pointer a, .agg #[.int .u64 n1, .int .i64 m1]] W (BalR W n3 m3 [] 0))
    (hVn : ∀ W a, PG W a c → Calls Try.prog 24 #[.pointer a, .agg #[.int .u64 n3, .int .i64 m3]] W fun e w' => e = .returned (.bool true) ∧ Below W.heap.size W w')
    (hLn : ∀ W, Calls Try.prog 10 #[.agg #[.int .u64 n1, .int .i64 m1], .agg #[.int .u64 n3, .int .i64 m3]] W fun e w' => e = .returned (.bool true) ∧ Below W.heap.size W w')
    (hXn : ∀ W, Calls Try.prog 10 #[.agg #[.int .u64 nx, .int .i64 mx], .agg #[.int .u64 n3, .int .i64 m3]] W fun e w' => e = .returned (.bool lxn) ∧ Below W.heap.size W w') (hab : (vx && lbx) = true → lxn = false) :
    Calls Try.prog 6 #[.agg c.cells, .agg #[.int .u64 n1, .int .i64 m1], .int .i64 nd, .agg #[.int .u64 nx, .int .i64 mx]] w fun e w' => e = .returned (.bool true) ∧ Below w.heap.size w w' := by
  have HM := hide hM
  have HN0 := hide hN0
  have HVB := hide hVb
  have HVX := hide hVx
  have HLX := hide hLx
  have HND := hide hNd
  have HO := hide hO
  have HNX := hide hN
  have HVN := hide hVn
  have HLN := hide hLn
  have HXN := hide hXn
  have HAB := hide hab
  clear hM hN0 hVb hVx hLx hNd hO hN hab hVn hLn hXn
  have hbn := bal_neq 1 1 0 0
  simp only [decide_true, Bool.and_true, Bool.not_true] at hbn
  obtain ⟨W1, hW1⟩ : ∃ W1, ((w.alloc (.cells c.cells 29)).alloc (.cells #[.int .u64 n1, .int .i64 m1] 24)).alloc (.cells #[.int .u64 nx, .int .i64 mx] 24) = W1 := ⟨_, rfl⟩
  have B1 : Hid (Below w.heap.size w W1) := by rw [← hW1]; exact (((Below.refl _ w).alloc (Nat.le_refl _) _).alloc (by simp) _).alloc (by simp; omega) _
  obtain ⟨pc, hpc⟩ : ∃ p, w.heap.size = p := ⟨_, rfl⟩
  obtain ⟨pa, hpa⟩ : ∃ p, w.heap.size + 1 = p := ⟨_, rfl⟩
  obtain ⟨pb, hpb⟩ : ∃ p, w.heap.size + 1 + 1 = p := ⟨_, rfl⟩
  obtain ⟨t1, t2, t3⟩ := three w (.cells c.cells 29) (.cells #[.int .u64 n1, .int .i64 m1] 24) (.cells #[.int .u64 nx, .int .i64 mx] 24)
  rw [hW1, hpc] at t1
  rw [hW1, hpa] at t2
  rw [hW1, hpb] at t3
  obtain ⟨z0, z1, z2, z3, z4, z5, z6, z7, z8, z9⟩ := cfg_cells t1
  have HTA := hide t2
  have HTB := hide t3
  have HW1 := hide hW1
  have HPA := hide hpa
  have HPB := hide hpb
  have HPC := hide hpc
  clear hW1 hpa hpb hpc t1 t2 t3
  unfold Cf.cells at HM HW1 ⊢
  generalize c.f = f at *
  generalize c.mb = mb at *
  generalize (c.delay : Int) = d at *
  generalize (c.win : Int) = wn at *
  generalize (c.every : Int) = ev at *
  generalize (c.beat : Int) = bt at *
  generalize (c.ep : Int) = ep at *
  generalize (c.em : Int) = em at *
  generalize (c.mn : Int) = mn at *
  generalize (c.ms : Int) = ms at *
  go_enter Try.func6, Try.ntmps6
  go_upto_region 1 with fail
  rw [HW1.out, HPB.out, HPA.out, HPC.out]
  clear HW1
  go_wp2_with fail
  refine (HM.out W1).mono ?_
  rintro e w2 ⟨a, rfl, G2⟩
  obtain ⟨p2, b2⟩ := G2.out
  have B2 := hide (B1.out.trans (b2.mono B1.out.size))
  have KG : Hid (∀ V, Hid (Below w2.heap.size w2 V) → PG V a c) := fun V hb => p2.kept hb.out
  have KS : Hid (∀ V, Hid (Below w2.heap.size w2 V) → V.cell? ⟨pa, 0, none⟩ = some (.int .u64 n1) ∧ V.cell? ⟨pa, 1, none⟩ = some (.int .i64 m1) ∧ V.cell? ⟨pb, 0, none⟩ = some (.int .u64 nx) ∧ V.cell? ⟨pb, 1, none⟩ = some (.int .i64 mx)) := fun V hb => by
    have hA := (hb.out.block pa (Nat.lt_of_lt_of_le (block_lt HTA.out) b2.size)).trans ((b2.block pa (block_lt HTA.out)).trans HTA.out)
    have hB := (hb.out.block pb (Nat.lt_of_lt_of_le (block_lt HTB.out) b2.size)).trans ((b2.block pb (block_lt HTB.out)).trans HTB.out)
    exact ⟨block_cell hA 0, block_cell hA 1, block_cell hB 0, block_cell hB 1⟩
  have HD1 : Hid (Below w2.heap.size w2 w2) := Below.refl _ _
  have HAL : Hid (∀ V o, Hid (Below w2.heap.size w2 V) → Hid (Below w2.heap.size w2 (V.alloc o))) := fun V o h => h.out.alloc h.out.size o
  have KB : Hid (∀ V V', Hid (Below w2.heap.size w2 V) → Below V.heap.size V V' → Hid (Below w2.heap.size w2 V')) := fun V V' h h' => h.out.trans (h'.mono h.out.size)
  have FB : Hid (∀ V, Hid (Below w2.heap.size w2 V) → Below w.heap.size w V) := fun V h => B2.out.trans (h.out.mono B2.out.size)
  have hg : ∃ g, a = some ⟨g, 0, none⟩ := by obtain ⟨g, e, _⟩ := p2; exact ⟨g, e⟩
  obtain ⟨g, rfl⟩ := hg
  clear G2 p2 b2 z0 z1 z2 z3 z4 z5 z6 z7 z8 z9 B1 HM HTA HTB
  go_wp2_with fail
  refine (HN0.out _ _ (KG.out _ HD1)).mono ?_
  rintro e V1 ⟨ev0, rfl, G⟩
  have HV1 := KB.out _ _ HD1 G.out.2
  have he : ev0 = .nilIface := by
    rcases G.out.1 with ⟨h, _⟩ | ⟨_, h, _⟩
    · exact h
    · simp at h
  subst he
  clear G
  go_upto_region 5 with fail
  obtain ⟨V2, hV2⟩ : ∃ V8, V1.alloc (.cells #[.int .u64 1, .int .i64 0] 24) = V8 := ⟨_, rfl⟩
  have HV2 := HAL.out V1 (.cells #[.int .u64 1, .int .i64 0] 24) HV1
  have y := alloc_atK V1 (.cells #[.int .u64 1, .int .i64 0] 24)
  rw [hV2] at HV2 y
  rw [hV2]
  have Y := hide y
  clear hV2 y
  generalize V1.heap.size = p0 at *
  have y0 := block_cell Y.out 0
  have y1 := block_cell Y.out 1
  go_upto_region 7 with fail
  clear y0 y1 Y hbn
  obtain ⟨q0, q1, q2, q3⟩ := KS.out V2 HV2
  go_wp2_with fail
  refine (HVB.out _ _ (KG.out _ HV2)).mono ?_
  rintro e V3 ⟨rfl, b⟩
  have HV3 := KB.out _ _ HV2 b
  clear b
  clear q0 q1 q2 q3
  go_upto_region 9 with fail
  obtain ⟨q0, q1, q2, q3⟩ := KS.out V3 HV3
  go_cut [13] from 14 (fun s13 V => s13 = .bool (vx && lbx) ∧ Hid (Below w2.heap.size w2 V))
  case first =>
    cases vx with
    | false =>
      go_wp2_with fail
      refine (HVX.out _ _ (KG.out _ HV3)).mono ?_
      rintro e V4 ⟨rfl, b⟩
      have HV4 := KB.out _ _ HV3 b
      clear b
      go_wp2
      go_meet
      case rel => exact ⟨by simp, HV4⟩
    | true =>
      go_wp2_with fail
      refine (HVX.out _ _ (KG.out _ HV3)).mono ?_
      rintro e V4 ⟨rfl, b⟩
      have HV4 := KB.out _ _ HV3 b
      clear b q0 q1 q2 q3
      obtain ⟨q0, q1, q2, q3⟩ := KS.out V4 HV4
      go_wp2_with fail
      refine (HLX.out V4).mono ?_
      rintro e V5 ⟨rfl, b⟩
      have HV5 := KB.out _ _ HV4 b
      clear b
      go_wp2
      go_meet
      case rel => exact ⟨by simp, HV5⟩
  case rest =>
  obtain ⟨rfl, HC9⟩ := hcut
  clear q0 q1 q2 q3 HVX HLX
  generalize (vx && lbx) = ab at *
  obtain ⟨V6, hV6⟩ : ∃ V, Hid (Below w2.heap.size w2 V) ∧ V = V := ⟨_, HC9, rfl⟩
  clear V6 hV6
  obtain ⟨q0, q1, q2, q3⟩ := KS.out _ HC9
  go_upto_region 10 with fail
  go_wp2_with fail
  refine (HNX.out _ _ (KG.out _ HC9)).mono ?_
  rintro e V7 ⟨ev0, rfl, G⟩
  have HV7 := KB.out _ _ HC9 G.out.2
  clear q0 q1 q2 q3
  have he : ev0 = .nilIface := by
    rcases G.out.1 with ⟨h, _⟩ | ⟨_, h, _⟩
    · exact h
    · simp at h
  subst he
  clear G
  go_upto_region 11 with fail
  obtain ⟨V8, hV8⟩ : ∃ V8, V7.alloc (.cells #[.int .u64 n3, .int .i64 m3] 24) = V8 := ⟨_, rfl⟩
  have HV8 := HAL.out V7 (.cells #[.int .u64 n3, .int .i64 m3] 24) HV7
  have y := alloc_atK V7 (.cells #[.int .u64 n3, .int .i64 m3] 24)
  rw [hV8] at HV8 y
  rw [hV8]
  have Y := hide y
  clear hV8 y
  generalize V7.heap.size = pn at *
  have KY : Hid (∀ V, Below V8.heap.size V8 V → V.cell? ⟨pn, 0, none⟩ = some (.int .u64 n3) ∧ V.cell? ⟨pn, 1, none⟩ = some (.int .i64 m3)) := fun V hb => by
    have h := (hb.block _ (block_lt Y.out)).trans Y.out
    exact ⟨block_cell h 0, block_cell h 1⟩
  clear Y
  go_upto_if 60 with fail
  go_cut [] from 14 (fun V => Hid (Below w2.heap.size w2 V))
  case first =>
    obtain ⟨q0, q1, q2, q3⟩ := KS.out _ HV8
    obtain ⟨y0, y1⟩ := KY.out V8 (Below.refl _ _)
    go_wp2_with fail
    refine (HVN.out _ _ (KG.out _ HV8)).mono ?_
    rintro e VC ⟨rfl, b⟩
    have HVC := KB.out _ _ HV8 b
    have HYC := hide b
    clear b q0 q1 q2 q3 y0 y1
    obtain ⟨q0, q1, q2, q3⟩ := KS.out _ HVC
    obtain ⟨y0, y1⟩ := KY.out VC HYC.out
    go_wp2_with fail
    refine (HLN.out VC).mono ?_
    rintro e VD ⟨rfl, b⟩
    have HVD := KB.out _ _ HVC b
    have HYD := hide (HYC.out.trans (b.mono HYC.out.size))
    clear b q0 q1 q2 q3 y0 y1
    obtain ⟨q0, q1, q2, q3⟩ := KS.out _ HVD
    obtain ⟨y0, y1⟩ := KY.out VD HYD.out
    cases ab with
    | false =>
      go_wp2
      go_meet
      case rel => exact HVD
    | true =>
      have hl := HAB.out rfl
      subst hl
      go_wp2_with fail
      refine (HXN.out VD).mono ?_
      rintro e VE ⟨rfl, b⟩
      have HVE := KB.out _ _ HVD b
      clear b
      go_wp2
      go_meet
      case rel => exact HVE
  case rest =>
  have HCA := hcut
  clear hcut HAB HXN HLN HVN KY HV8 HV7
  go_upto_region 16 with fail
  go_wp2_with fail
  refine (HND.out _ _ (KG.out _ HCA)).mono ?_
  rintro e V9 ⟨rfl, rfl⟩
  rcases HO.out with hnv | ⟨hnv, hOw, hmm⟩ | ⟨hnv, n4, lxo, hOw, hVo, hLo, hXo, hmm⟩
  · subst hnv
    clear HO
    go_wp2
    go_ret
    exact ⟨rfl, FB.out _ HCA⟩
  · subst hnv
    have HOW := hide hOw
    have HMM := hide hmm
    clear HO hOw hmm
    obtain ⟨q0, q1, q2, q3⟩ := KS.out _ HCA
    go_wp2_with fail
    refine (HOW.out _ _ (KG.out _ HCA)).mono ?_
    rintro e VA ⟨ev0, rfl, G⟩
    have HVA := KB.out _ _ HCA G.out.2
    have HE : Hid (∃ ge, ev0 = .iface 95 (.pointer (some ⟨ge, 0, none⟩))) := by
      rcases G.out.1 with ⟨_, h, _⟩ | ⟨⟨g, u, e, _⟩, _⟩
      · simp at h
      · exact ⟨g, e⟩
    obtain ⟨ge, rfl⟩ := HE.out
    clear HE G
    clear q0 q1 q2 q3
    go_upto_region 20 with fail
    obtain ⟨VB, hVB⟩ : ∃ V8, VA.alloc (.cells #[.int .u64 0, .int .i64 0] 24) = V8 := ⟨_, rfl⟩
    have HVB' := HAL.out VA (.cells #[.int .u64 0, .int .i64 0] 24) HVA
    rw [hVB] at HVB'
    rw [hVB]
    clear hVB
    obtain ⟨q0, q1, q2, q3⟩ := KS.out _ HVB'
    cases ab with
    | false =>
      go_wp2
      go_ret
      exact ⟨rfl, FB.out _ HVB'⟩
    | true =>
      have hne := HMM.out rfl
      go_wp2
      go_ret
      exact ⟨by simp [hne], FB.out _ HVB'⟩
  · subst hnv
    have HOW := hide hOw
    have HVO := hide hVo
    have HLO := hide hLo
    have HXO := hide hXo
    have HMM := hide hmm
    clear HO hOw hmm hVo hLo hXo
    obtain ⟨q0, q1, q2, q3⟩ := KS.out _ HCA
    go_wp2_with fail
    refine (HOW.out _ _ (KG.out _ HCA)).mono ?_
    rintro e VA ⟨ev0, rfl, G⟩
    have HVA := KB.out _ _ HCA G.out.2
    have he : ev0 = .nilIface := by
      rcases G.out.1 with ⟨h, _⟩ | ⟨_, h, _⟩
      · exact h
      · simp at h
    subst he
    clear G
    clear q0 q1 q2 q3
    go_upto_region 21 with fail
    obtain ⟨VB, hVB⟩ : ∃ V8, VA.alloc (.cells #[.int .u64 n4, .int .i64 nd] 24) = V8 := ⟨_, rfl⟩
    have HVB' := HAL.out VA (.cells #[.int .u64 n4, .int .i64 nd] 24) HVA
    have y := alloc_atK VA (.cells #[.int .u64 n4, .int .i64 nd] 24)
    rw [hVB] at HVB' y
    rw [hVB]
    have Y := hide y
    clear hVB y
    generalize VA.heap.size = po at *
    have KY : Hid (∀ V, Below VB.heap.size VB V → V.cell? ⟨po, 0, none⟩ = some (.int .u64 n4) ∧ V.cell? ⟨po, 1, none⟩ = some (.int .i64 nd)) := fun V hb => by
      have h := (hb.block _ (block_lt Y.out)).trans Y.out
      exact ⟨block_cell h 0, block_cell h 1⟩
    clear Y
    obtain ⟨q0, q1, q2, q3⟩ := KS.out _ HVB'
    obtain ⟨y0, y1⟩ := KY.out VB (Below.refl _ _)
    go_wp2_with fail
    refine (HVO.out _ _ (KG.out _ HVB')).mono ?_
    rintro e VC ⟨rfl, b⟩
    have HVC := KB.out _ _ HVB' b
    have HYC := hide b
    clear b q0 q1 q2 q3 y0 y1
    obtain ⟨q0, q1, q2, q3⟩ := KS.out _ HVC
    obtain ⟨y0, y1⟩ := KY.out VC HYC.out
    go_wp2_with fail
    refine (HLO.out VC).mono ?_
    rintro e VD ⟨rfl, b⟩
    have HVD := KB.out _ _ HVC b
    have HYD := hide (HYC.out.trans (b.mono HYC.out.size))
    clear b q0 q1 q2 q3 y0 y1
    obtain ⟨q0, q1, q2, q3⟩ := KS.out _ HVD
    obtain ⟨y0, y1⟩ := KY.out VD HYD.out
    cases ab with
    | false =>
      go_wp2
      go_ret
      exact ⟨rfl, FB.out _ HVD⟩
    | true =>
      by_cases hmn : mx = nd
      · have hl := HMM.out rfl hmn
        subst hl hmn
        go_wp2_with fail
        refine (HXO.out VD).mono ?_
        rintro e VE ⟨rfl, b⟩
        have HVE := KB.out _ _ HVD b
        clear b
        go_wp2
        go_ret
        exact ⟨rfl, FB.out _ HVE⟩
      · go_wp2
        go_ret
        exact ⟨by simp, FB.out _ HVD⟩
end Go.Proofs.Ytppoloellajfhaa
