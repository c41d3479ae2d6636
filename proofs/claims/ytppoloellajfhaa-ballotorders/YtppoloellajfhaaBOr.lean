import Derived.Test.YtppoloellajfhaaBPh
import Derived.Test.YtppoloellajfhaaBPf
namespace Go.Proofs.Ytppoloellajfhaa
open Go.RowKit

set_option maxRecDepth 100000 in
set_option maxHeartbeats 800000 in
theorem orders_bad (c : Cf) (n1 : Nat) (m1 n2 m2 : Int) (w : World) 
    (hG : ∀ W, Calls Try.prog 11 #[.agg c.cells] W fun e w' => ∃ a b, e = .returned (.tuple #[.pointer a, .pointer b, .bool true]) ∧ Hid (a = none ∧ b = none ∧ Below W.heap.size W w')) :
    Calls Try.prog 8 #[.agg c.cells, .agg #[.int .u64 (n1 : Nat), .int .i64 m1], .agg #[.int .u64 n2, .int .i64 m2]] w fun e w' => e = .returned (.bool true) ∧ Below w.heap.size w w' := by
  have HG := hide hG
  clear hG
  obtain ⟨W1, hW1⟩ : ∃ W1, ((w.alloc (.cells c.cells 29)).alloc (.cells #[.int .u64 (n1 : Nat), .int .i64 m1] 24)).alloc (.cells #[.int .u64 n2, .int .i64 m2] 24) = W1 := ⟨_, rfl⟩
  have B1 : Hid (Below w.heap.size w W1) := by rw [← hW1]; exact (((Below.refl _ w).alloc (Nat.le_refl _) _).alloc (by simp) _).alloc (by simp; omega) _
  obtain ⟨pc, hpc⟩ : ∃ p, w.heap.size = p := ⟨_, rfl⟩
  obtain ⟨pa, hpa⟩ : ∃ p, w.heap.size + 1 = p := ⟨_, rfl⟩
  obtain ⟨pb, hpb⟩ : ∃ p, w.heap.size + 1 + 1 = p := ⟨_, rfl⟩
  obtain ⟨t1, t2, t3⟩ := three w (.cells c.cells 29) (.cells #[.int .u64 (n1 : Nat), .int .i64 m1] 24) (.cells #[.int .u64 n2, .int .i64 m2] 24)
  rw [hW1, hpc] at t1
  rw [hW1, hpa] at t2
  rw [hW1, hpb] at t3
  obtain ⟨z0, z1, z2, z3, z4, z5, z6, z7, z8, z9⟩ := cfg_cells t1
  have HTA := hide t2
  have HTB := hide t3
  have HW1 := hide hW1
  have HPA := hide hpa
  have HPB := hide hpb
  have HPC := hide hpc
  clear hW1 hpa hpb hpc t1 t2 t3
  have HVD := hide (fun W => valid_dead (w := W) (a := none) (n1 : Int) m1 (.inl rfl))
  have HCM := hide (compare_any n1 m1 n2 m2)
  have HCR := hide (refCompare n1 m1 n2 m2)
  have HLM := hide (less_any n1 m1 n2 m2)
  have HLR := hide (refLess n1 m1 n2 m2)
  generalize decide (cmpB n1 m1 n2 m2 < 0) = y at *
  generalize cmpB n1 m1 n2 m2 = x at *
  generalize (n1 : Int) = n1 at *
  unfold Cf.cells at *
  generalize c.f = f at *
  generalize c.mb = mb at *
  generalize (c.delay : Int) = d at *
  generalize (c.win : Int) = wn at *
  generalize (c.every : Int) = ev at *
  generalize (c.beat : Int) = bt at *
  generalize (c.ep : Int) = ep at *
  generalize (c.em : Int) = em at *
  generalize (c.mn : Int) = mn at *
  generalize (c.ms : Int) = ms at *
  go_enter Try.func8, Try.ntmps8
  go_upto_region 1 with fail
  rw [HW1.out, HPB.out, HPA.out, HPC.out]
  clear HW1
  go_wp2_with fail
  refine (HG.out W1).mono ?_
  rintro e w2 ⟨a, b, rfl, G2⟩
  obtain ⟨p2, h2, b2⟩ := G2.out
  have B2 := hide (B1.out.trans (b2.mono B1.out.size))
  have KS : Hid (∀ V, Hid (Below w2.heap.size w2 V) → V.cell? ⟨pa, 0, none⟩ = some (.int .u64 n1) ∧ V.cell? ⟨pa, 1, none⟩ = some (.int .i64 m1) ∧ V.cell? ⟨pb, 0, none⟩ = some (.int .u64 n2) ∧ V.cell? ⟨pb, 1, none⟩ = some (.int .i64 m2)) := fun V hb => by
    have hA := (hb.out.block pa (Nat.lt_of_lt_of_le (block_lt HTA.out) b2.size)).trans ((b2.block pa (block_lt HTA.out)).trans HTA.out)
    have hB := (hb.out.block pb (Nat.lt_of_lt_of_le (block_lt HTB.out) b2.size)).trans ((b2.block pb (block_lt HTB.out)).trans HTB.out)
    exact ⟨block_cell hA 0, block_cell hA 1, block_cell hB 0, block_cell hB 1⟩
  have HD1 : Hid (Below w2.heap.size w2 w2) := Below.refl _ _
  have HD : Hid (∀ V, Hid (Below w2.heap.size w2 V) → Hid (Below w2.heap.size w2 V.drew)) := fun V h => h.out.drew
  have KB : Hid (∀ V V', Hid (Below w2.heap.size w2 V) → Below V.heap.size V V' → Hid (Below w2.heap.size w2 V')) := fun V V' h h' => h.out.trans (h'.mono h.out.size)
  subst p2 h2
  clear G2 b2 z0 z1 z2 z3 z4 z5 z6 z7 z8 z9 B1 HG HTA HTB
  go_upto_region 2 with fail
  refine region_assign (fun V => Hid (Below w2.heap.size w2 V)) [(16, .bool true), (17, .bool false), (18, .bool false), (19, .agg #[.int .u64 n1, .int .i64 m1]), (20, .agg #[.int .u64 n2, .int .i64 m2]), (21, .int .i64 x), (22, .agg #[.int .u64 n1, .int .i64 m1]), (23, .agg #[.int .u64 n2, .int .i64 m2]), (24, .int .i64 x), (25, .bool false), (26, .bool false), (27, .bool false), (28, .agg #[.int .u64 n1, .int .i64 m1]), (29, .agg #[.int .u64 n2, .int .i64 m2]), (30, .bool y), (31, .agg #[.int .u64 n1, .int .i64 m1]), (32, .agg #[.int .u64 n2, .int .i64 m2]), (33, .bool y), (34, .bool false), (35, .bool false)] _ (by kernel_rfl) (by kernel_rfl) (by kernel_rfl) (by kernel_rfl) rfl (HD.out _ HD1) ?_ (fun V1 HV1 => ?_)
  · simp only [putAll, Act.put, List.setIfInBounds_toArray, List.set_cons_zero, List.set_cons_succ]
    repeat' (first | exact AllTo.nil | refine AllTo.cons ?_ ?_)
    all_goals first
      | exact stepTo_no (by rfl) rfl
      | (refine stepTo_yes (by rfl) (fun V hV K hK => ?_)
         obtain ⟨q0, q1, q2, q3⟩ := KS.out V hV
         go_simp
         first
           | exact hK.out _ hV
           | (go_at_call 9; refine (HCM.out V).mono ?_; rintro e V' ⟨rfl, hV'⟩; exact hK.out _ (KB.out _ _ hV hV'))
           | (go_at_call 29; refine (HCR.out V).mono ?_; rintro e V' ⟨rfl, hV'⟩; exact hK.out _ (KB.out _ _ hV hV'))
           | (go_at_call 10; refine (HLM.out V).mono ?_; rintro e V' ⟨rfl, hV'⟩; exact hK.out _ (KB.out _ _ hV hV'))
           | (go_at_call 30; refine (HLR.out V).mono ?_; rintro e V' ⟨rfl, hV'⟩; exact hK.out _ (KB.out _ _ hV hV')))
  simp only [putAll, Act.put, List.setIfInBounds_toArray, List.set_cons_zero, List.set_cons_succ]
  obtain ⟨q0, q1, q2, q3⟩ := KS.out V1 HV1
  go_wp2_with fail
  refine (HVD.out _).mono ?_
  rintro e V2 ⟨rfl, b3⟩
  have HV2 := KB.out _ _ HV1 b3
  clear b3
  go_wp2
  go_ret
  exact ⟨rfl, B2.out.trans (HV2.out.mono B2.out.size)⟩
set_option maxRecDepth 100000 in
set_option maxHeartbeats 800000 in
theorem orders_ok (c : Cf) (n1 : Nat) (m1 n2 m2 : Int) (w : World) (hk : c.Ok)
    (hG : ∀ W, Calls Try.prog 11 #[.agg c.cells] W fun e w' => ∃ a b, e = .returned (.tuple #[.pointer a, .pointer b, .bool true]) ∧ Hid (PG w' a c ∧ haOk c w' b ∧ Below W.heap.size W w')) :
    Calls Try.prog 8 #[.agg c.cells, .agg #[.int .u64 (n1 : Nat), .int .i64 m1], .agg #[.int .u64 n2, .int .i64 m2]] w fun e w' => e = .returned (.bool true) ∧ Below w.heap.size w w' := by
  have HG := hide hG
  clear hG
  obtain ⟨W1, hW1⟩ : ∃ W1, ((w.alloc (.cells c.cells 29)).alloc (.cells #[.int .u64 (n1 : Nat), .int .i64 m1] 24)).alloc (.cells #[.int .u64 n2, .int .i64 m2] 24) = W1 := ⟨_, rfl⟩
  have B1 : Hid (Below w.heap.size w W1) := by rw [← hW1]; exact (((Below.refl _ w).alloc (Nat.le_refl _) _).alloc (by simp) _).alloc (by simp; omega) _
  obtain ⟨pc, hpc⟩ : ∃ p, w.heap.size = p := ⟨_, rfl⟩
  obtain ⟨pa, hpa⟩ : ∃ p, w.heap.size + 1 = p := ⟨_, rfl⟩
  obtain ⟨pb, hpb⟩ : ∃ p, w.heap.size + 1 + 1 = p := ⟨_, rfl⟩
  obtain ⟨t1, t2, t3⟩ := three w (.cells c.cells 29) (.cells #[.int .u64 (n1 : Nat), .int .i64 m1] 24) (.cells #[.int .u64 n2, .int .i64 m2] 24)
  rw [hW1, hpc] at t1
  rw [hW1, hpa] at t2
  rw [hW1, hpb] at t3
  obtain ⟨z0, z1, z2, z3, z4, z5, z6, z7, z8, z9⟩ := cfg_cells t1
  have HTA := hide t2
  have HTB := hide t3
  have HW1 := hide hW1
  have HPA := hide hpa
  have HPB := hide hpb
  have HPC := hide hpc
  clear hW1 hpa hpb hpc t1 t2 t3
  have HVL := hide (fun W a (h : PG W a c) => valid_live n1 m1 h hk)
  have HVR := hide (fun W p (hp : p < W.heap.size) (h : RefG W p c) => refValid n1 m1 hp h)
  generalize c.valid n1 m1 = z at *
  have HCM := hide (compare_any n1 m1 n2 m2)
  have HCR := hide (refCompare n1 m1 n2 m2)
  have HLM := hide (less_any n1 m1 n2 m2)
  have HLR := hide (refLess n1 m1 n2 m2)
  generalize decide (cmpB n1 m1 n2 m2 < 0) = y at *
  generalize cmpB n1 m1 n2 m2 = x at *
  generalize (n1 : Int) = n1 at *
  unfold Cf.cells at *
  generalize c.f = f at *
  generalize c.mb = mb at *
  generalize (c.delay : Int) = d at *
  generalize (c.win : Int) = wn at *
  generalize (c.every : Int) = ev at *
  generalize (c.beat : Int) = bt at *
  generalize (c.ep : Int) = ep at *
  generalize (c.em : Int) = em at *
  generalize (c.mn : Int) = mn at *
  generalize (c.ms : Int) = ms at *
  go_enter Try.func8, Try.ntmps8
  go_upto_region 1 with fail
  rw [HW1.out, HPB.out, HPA.out, HPC.out]
  clear HW1
  go_wp2_with fail
  refine (HG.out W1).mono ?_
  rintro e w2 ⟨a, b, rfl, G2⟩
  obtain ⟨p2, h2, b2⟩ := G2.out
  have B2 := hide (B1.out.trans (b2.mono B1.out.size))
  have KS : Hid (∀ V, Hid (Below w2.heap.size w2 V) → V.cell? ⟨pa, 0, none⟩ = some (.int .u64 n1) ∧ V.cell? ⟨pa, 1, none⟩ = some (.int .i64 m1) ∧ V.cell? ⟨pb, 0, none⟩ = some (.int .u64 n2) ∧ V.cell? ⟨pb, 1, none⟩ = some (.int .i64 m2)) := fun V hb => by
    have hA := (hb.out.block pa (Nat.lt_of_lt_of_le (block_lt HTA.out) b2.size)).trans ((b2.block pa (block_lt HTA.out)).trans HTA.out)
    have hB := (hb.out.block pb (Nat.lt_of_lt_of_le (block_lt HTB.out) b2.size)).trans ((b2.block pb (block_lt HTB.out)).trans HTB.out)
    exact ⟨block_cell hA 0, block_cell hA 1, block_cell hB 0, block_cell hB 1⟩
  have HD1 : Hid (Below w2.heap.size w2 w2) := Below.refl _ _
  have HD : Hid (∀ V, Hid (Below w2.heap.size w2 V) → Hid (Below w2.heap.size w2 V.drew)) := fun V h => h.out.drew
  have KB : Hid (∀ V V', Hid (Below w2.heap.size w2 V) → Below V.heap.size V V' → Hid (Below w2.heap.size w2 V')) := fun V V' h h' => h.out.trans (h'.mono h.out.size)
  have KG : Hid (∀ V, Hid (Below w2.heap.size w2 V) → PG V a c) := fun V hb => p2.kept hb.out
  have KH : Hid (∀ V, Hid (Below w2.heap.size w2 V) → haOk c V b) := fun V hb => h2.kept hb.out
  obtain ⟨g, rfl, _⟩ := p2
  obtain ⟨h, rfl, _⟩ := h2
  have HVL2 : Hid (∀ V, Hid (Below w2.heap.size w2 V) → Calls Try.prog 24 #[.pointer (some ⟨g, 0, none⟩), .agg #[.int .u64 n1, .int .i64 m1]] V fun e V' => e = .returned (.bool z) ∧ Hid (Below w2.heap.size w2 V')) := fun V hb => (HVL.out V _ (KG.out V hb)).mono fun _ _ h => ⟨h.1, KB.out _ _ hb h.2⟩
  have HVR2 : Hid (∀ V, Hid (Below w2.heap.size w2 V) → Calls Try.prog 31 #[.pointer (some ⟨h, 0, none⟩), .agg #[.int .u64 n1, .int .i64 m1]] V fun e V' => e = .returned (.bool z) ∧ Hid (Below w2.heap.size w2 V')) := fun V hb => by
    obtain ⟨h', e, r, l⟩ := KH.out V hb
    cases e
    exact (HVR.out V _ l r).mono fun _ _ h => ⟨h.1, KB.out _ _ hb h.2⟩
  clear HVL HVR KG KH
  clear G2 b2 z0 z1 z2 z3 z4 z5 z6 z7 z8 z9 B1 HG HTA HTB
  go_upto_region 2 with fail
  refine region_assign (fun V => Hid (Below w2.heap.size w2 V)) [(16, .bool true), (17, .bool false), (18, .bool false), (19, .agg #[.int .u64 n1, .int .i64 m1]), (20, .agg #[.int .u64 n2, .int .i64 m2]), (21, .int .i64 x), (22, .agg #[.int .u64 n1, .int .i64 m1]), (23, .agg #[.int .u64 n2, .int .i64 m2]), (24, .int .i64 x), (25, .bool false), (26, .bool false), (27, .bool false), (28, .agg #[.int .u64 n1, .int .i64 m1]), (29, .agg #[.int .u64 n2, .int .i64 m2]), (30, .bool y), (31, .agg #[.int .u64 n1, .int .i64 m1]), (32, .agg #[.int .u64 n2, .int .i64 m2]), (33, .bool y), (34, .bool false), (35, .bool false)] _ (by kernel_rfl) (by kernel_rfl) (by kernel_rfl) (by kernel_rfl) rfl (HD.out _ HD1) ?_ (fun V1 HV1 => ?_)
  · simp only [putAll, Act.put, List.setIfInBounds_toArray, List.set_cons_zero, List.set_cons_succ]
    repeat' (first | exact AllTo.nil | refine AllTo.cons ?_ ?_)
    all_goals first
      | exact stepTo_no (by rfl) rfl
      | (refine stepTo_yes (by rfl) (fun V hV K hK => ?_)
         obtain ⟨q0, q1, q2, q3⟩ := KS.out V hV
         go_simp
         first
           | exact hK.out _ hV
           | (go_at_call 9; refine (HCM.out V).mono ?_; rintro e V' ⟨rfl, hV'⟩; exact hK.out _ (KB.out _ _ hV hV'))
           | (go_at_call 29; refine (HCR.out V).mono ?_; rintro e V' ⟨rfl, hV'⟩; exact hK.out _ (KB.out _ _ hV hV'))
           | (go_at_call 10; refine (HLM.out V).mono ?_; rintro e V' ⟨rfl, hV'⟩; exact hK.out _ (KB.out _ _ hV hV'))
           | (go_at_call 30; refine (HLR.out V).mono ?_; rintro e V' ⟨rfl, hV'⟩; exact hK.out _ (KB.out _ _ hV hV')))
  simp only [putAll, Act.put, List.setIfInBounds_toArray, List.set_cons_zero, List.set_cons_succ]
  obtain ⟨q0, q1, q2, q3⟩ := KS.out V1 HV1
  go_upto_region 6 with fail
  refine region_assign (fun V => Hid (Below w2.heap.size w2 V)) [(42, .pointer (some ⟨g, 0, none⟩)), (43, .agg #[.int .u64 n1, .int .i64 m1]), (44, .bool z), (45, .pointer (some ⟨h, 0, none⟩)), (46, .agg #[.int .u64 n1, .int .i64 m1]), (47, .bool z), (48, .bool true), (6, .bool true)] _ (by kernel_rfl) (by kernel_rfl) (by kernel_rfl) (by kernel_rfl) rfl (HD.out _ HV1) ?_ (fun V2 HV2 => ?_)
  · simp only [putAll, Act.put, List.setIfInBounds_toArray, List.set_cons_zero, List.set_cons_succ]
    repeat' (first | exact AllTo.nil | refine AllTo.cons ?_ ?_)
    all_goals first
      | exact stepTo_no (by rfl) rfl
      | (refine stepTo_yes (by rfl) (fun V hV K hK => ?_)
         obtain ⟨q0, q1, q2, q3⟩ := KS.out V hV
         go_simp
         first
           | exact hK.out _ hV
           | (go_at_call 24; refine (HVL2.out V hV).mono ?_; rintro e V' ⟨rfl, hV'⟩; exact hK.out _ hV')
           | (go_at_call 31; refine (HVR2.out V hV).mono ?_; rintro e V' ⟨rfl, hV'⟩; exact hK.out _ hV'))
  simp only [putAll, Act.put, List.setIfInBounds_toArray, List.set_cons_zero, List.set_cons_succ]
  go_wp2
  go_ret
  exact ⟨rfl, B2.out.trans (HV2.out.mono B2.out.size)⟩
end Go.Proofs.Ytppoloellajfhaa
