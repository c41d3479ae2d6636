import Derived.Test.YtppoloellajfhaaBPg
import Derived.Test.YtppoloellajfhaaBAs
namespace Go.Proofs.Ytppoloellajfhaa
open Go.RowKit

set_option maxRecDepth 100000 in
set_option maxHeartbeats 400000 in
theorem total_lt1 (n1 m1 n2 m2 n3 m3 : Int) (w : World) (hx : cmpB n1 m1 n2 m2 = -1) (hy : cmpB n2 m2 n1 m1 = 1) (hn : n1 < n2) :
    Calls Try.prog 3 #[.agg #[.int .u64 n1, .int .i64 m1], .agg #[.int .u64 n2, .int .i64 m2], .agg #[.int .u64 n3, .int .i64 m3]] w fun e w' => e = .returned (.bool true) ∧ Below w.heap.size w w' := by
  obtain ⟨W1, hW1⟩ : ∃ W1, ((w.alloc (.cells #[.int .u64 n1, .int .i64 m1] 24)).alloc (.cells #[.int .u64 n2, .int .i64 m2] 24)).alloc (.cells #[.int .u64 n3, .int .i64 m3] 24) = W1 := ⟨_, rfl⟩
  have B1 : Hid (Below w.heap.size w W1) := by rw [← hW1]; exact (((Below.refl _ w).alloc (Nat.le_refl _) _).alloc (by simp) _).alloc (by simp; omega) _
  obtain ⟨pa, hpa⟩ : ∃ p, w.heap.size = p := ⟨_, rfl⟩
  obtain ⟨pb, hpb⟩ : ∃ p, w.heap.size + 1 = p := ⟨_, rfl⟩
  obtain ⟨pc, hpc⟩ : ∃ p, w.heap.size + 1 + 1 = p := ⟨_, rfl⟩
  obtain ⟨t1, t2, t3⟩ := three w (.cells #[.int .u64 n1, .int .i64 m1] 24) (.cells #[.int .u64 n2, .int .i64 m2] 24) (.cells #[.int .u64 n3, .int .i64 m3] 24)
  rw [hW1, hpa] at t1
  rw [hW1, hpb] at t2
  rw [hW1, hpc] at t3
  have hsz : W1.heap.size = w.heap.size + 3 := by rw [← hW1]; simp
  have KS : Hid (∀ V, Hid (Below W1.heap.size W1 V) → V.cell? ⟨pa, 0, none⟩ = some (.int .u64 n1) ∧ V.cell? ⟨pa, 1, none⟩ = some (.int .i64 m1) ∧ V.cell? ⟨pb, 0, none⟩ = some (.int .u64 n2) ∧ V.cell? ⟨pb, 1, none⟩ = some (.int .i64 m2) ∧ V.cell? ⟨pc, 0, none⟩ = some (.int .u64 n3) ∧ V.cell? ⟨pc, 1, none⟩ = some (.int .i64 m3)) := fun V hb => by
    refine ⟨(hb.out.cell (p := ⟨pa, 0, none⟩) ?_).trans (block_cell t1 0), (hb.out.cell (p := ⟨pa, 1, none⟩) ?_).trans (block_cell t1 1), (hb.out.cell (p := ⟨pb, 0, none⟩) ?_).trans (block_cell t2 0), (hb.out.cell (p := ⟨pb, 1, none⟩) ?_).trans (block_cell t2 1), (hb.out.cell (p := ⟨pc, 0, none⟩) ?_).trans (block_cell t3 0), (hb.out.cell (p := ⟨pc, 1, none⟩) ?_).trans (block_cell t3 1)⟩ <;> simp only <;> omega
  have HC : Hid (∀ a b c d V, Hid (Below W1.heap.size W1 V) → Calls Try.prog 9 #[.agg #[.int .u64 a, .int .i64 b], .agg #[.int .u64 c, .int .i64 d]] V fun e V' => e = .returned (.int .i64 (cmpB a b c d)) ∧ Hid (Below W1.heap.size W1 V')) := fun a b c d V hV => (compare_any a b c d V).mono fun _ _ h => ⟨h.1, hV.out.trans (h.2.mono hV.out.size)⟩
  have HLA : Hid (∀ a b c d V, Hid (Below W1.heap.size W1 V) → Calls Try.prog 10 #[.agg #[.int .u64 a, .int .i64 b], .agg #[.int .u64 c, .int .i64 d]] V fun e V' => e = .returned (.bool (decide (cmpB a b c d < 0))) ∧ Hid (Below W1.heap.size W1 V')) := fun a b c d V hV => (less_any a b c d V).mono fun _ _ h => ⟨h.1, hV.out.trans (h.2.mono hV.out.size)⟩
  have HL : Hid (∀ V, Hid (Below W1.heap.size W1 V) → Calls Try.prog 10 #[.agg #[.int .u64 n1, .int .i64 m1], .agg #[.int .u64 n2, .int .i64 m2]] V fun e V' => e = .returned (.bool true) ∧ Hid (Below W1.heap.size W1 V')) := fun V hV => by
    have h := HLA.out n1 m1 n2 m2 V hV
    rw [hx] at h
    exact h
  have HD : Hid (∀ V, Hid (Below W1.heap.size W1 V) → Hid (Below W1.heap.size W1 V.drew)) := fun V h => h.out.drew
  have HD1 : Hid (Below W1.heap.size W1 W1) := Below.refl _ _
  have HTR : Hid (decide (cmpB n2 m2 n3 m3 < 0) = true → decide (cmpB n1 m1 n3 m3 < 0) = true) := fun h => decide_eq_true (cmpB_trans n1 m1 n2 m2 n3 m3 (by rw [hx]; omega) (of_decide_eq_true h))
  have HW1 := hide hW1
  have HPA := hide hpa
  have HPB := hide hpb
  have HPC := hide hpc
  have HX := hide hx
  have HY := hide hy
  clear hW1 hpa hpb hpc hsz t1 t2 t3 hy
  have hbe : ∀ w, (binOp BinOp.eql 24 (.agg #[.int .u64 n1, .int .i64 m1]) (.agg #[.int .u64 n2, .int .i64 m2])).run Try.prog w = .ok (.bool false) w := fun w => by
    rw [bal_eq]
    have h := cmpB_zero n1 m1 n2 m2
    rw [HX.out] at h
    congr 2
    simpa using h
  clear hx
  go_enter Try.func3, Try.ntmps3
  go_upto_region 1 with fail
  rw [HW1.out, HPC.out, HPB.out, HPA.out]
  refine region_assign (fun V => Hid (Below W1.heap.size W1 V)) [(7, .agg #[.int .u64 n1, .int .i64 m1]), (8, .agg #[.int .u64 n2, .int .i64 m2]), (9, .int .i64 (-1)), (10, .agg #[.int .u64 n2, .int .i64 m2]), (11, .agg #[.int .u64 n1, .int .i64 m1]), (12, .int .i64 1), (13, .int .i64 (-1)), (14, .bool false), (15, .bool false), (16, .agg #[.int .u64 n1, .int .i64 m1]), (17, .agg #[.int .u64 n2, .int .i64 m2]), (18, .int .i64 (-1)), (19, .bool false), (20, .agg #[.int .u64 n1, .int .i64 m1]), (21, .agg #[.int .u64 n2, .int .i64 m2]), (22, .bool false), (23, .bool false), (24, .bool false)] _ (by kernel_rfl) (by kernel_rfl) (by kernel_rfl) (by kernel_rfl) rfl (HD.out _ HD1) ?_ (fun V1 HV1 => ?_)
  · simp only [putAll, Act.put, List.setIfInBounds_toArray, List.set_cons_zero, List.set_cons_succ]
    repeat' (first | exact AllTo.nil | refine AllTo.cons ?_ ?_)
    all_goals first
      | exact stepTo_no (by rfl) rfl
      | (refine stepTo_yes (by rfl) (fun V hV K hK => ?_)
         obtain ⟨q0, q1, q2, q3, q4, q5⟩ := KS.out V hV
         go_simp
         first
           | exact hK.out _ hV
           | (go_at_call 9
              refine (HC.out _ _ _ _ _ hV).mono ?_
              rintro e V' ⟨rfl, hV'⟩
              first | rw [HX.out] | rw [HY.out]
              exact hK.out _ hV')
           | (go_at_call 10
              refine (HL.out _ hV).mono ?_
              rintro e V' ⟨rfl, hV'⟩
              exact hK.out _ hV'))
  simp only [putAll, Act.put, List.setIfInBounds_toArray, List.set_cons_zero, List.set_cons_succ]
  clear HD1
  go_upto_region 3 with fail
  refine region_assign (fun V => Hid (Below W1.heap.size W1 V)) [(25, .agg #[.int .u64 n1, .int .i64 m1]), (26, .agg #[.int .u64 n2, .int .i64 m2]), (27, .bool true), (28, .agg #[.int .u64 n1, .int .i64 m1]), (29, .agg #[.int .u64 n2, .int .i64 m2]), (30, .int .i64 (-1)), (31, .bool true), (32, .bool false), (33, .bool false), (34, .pointer (some ⟨pa, 0, none⟩)), (35, .int .u64 n1), (36, .pointer (some ⟨pb, 0, none⟩)), (37, .int .u64 n2), (38, .bool true), (39, .bool true), (40, .agg #[.int .u64 n1, .int .i64 m1]), (41, .agg #[.int .u64 n2, .int .i64 m2]), (42, .bool true), (43, .bool false), (44, .bool false), (45, .bool false)] _ (by kernel_rfl) (by kernel_rfl) (by kernel_rfl) (by kernel_rfl) rfl (HD.out _ HV1) ?_ (fun V2 HV2 => ?_)
  · simp only [putAll, Act.put, List.setIfInBounds_toArray, List.set_cons_zero, List.set_cons_succ]
    repeat' (first | exact AllTo.nil | refine AllTo.cons ?_ ?_)
    all_goals first
      | exact stepTo_no (by rfl) rfl
      | (refine stepTo_yes (by rfl) (fun V hV K hK => ?_)
         obtain ⟨q0, q1, q2, q3, q4, q5⟩ := KS.out V hV
         go_simp
         first
           | exact hK.out _ hV
           | (go_at_call 9
              refine (HC.out _ _ _ _ _ hV).mono ?_
              rintro e V' ⟨rfl, hV'⟩
              first | rw [HX.out] | rw [HY.out]
              exact hK.out _ hV')
           | (go_at_call 10
              refine (HL.out _ hV).mono ?_
              rintro e V' ⟨rfl, hV'⟩
              exact hK.out _ hV'))
  simp only [putAll, Act.put, List.setIfInBounds_toArray, List.set_cons_zero, List.set_cons_succ]
  clear HV1
  obtain ⟨q0, q1, q2, q3, q4, q5⟩ := KS.out V2 HV2
  go_upto_region 5 with fail
  go_wp2_with fail
  refine (HL.out _ HV2).mono ?_
  rintro e V3 ⟨rfl, HV3⟩
  obtain ⟨q0', q1', q2', q3', q4', q5'⟩ := KS.out V3 HV3
  clear q0 q1 q2 q3 q4 q5
  have HL2 := hide (HLA.out n2 m2 n3 m3 V3 HV3)
  cases hz : decide (cmpB n2 m2 n3 m3 < 0) with
  | true =>
    have HZ := hide (HTR.out hz)
    rw [hz] at HL2
    clear hz
    go_wp2_with fail
    refine HL2.out.mono ?_
    rintro e V4 ⟨rfl, HV4⟩
    clear q0' q1' q2' q3' q4' q5'
    obtain ⟨q0, q1, q2, q3, q4, q5⟩ := KS.out V4 HV4
    have HL3 := hide (HLA.out n1 m1 n3 m3 V4 HV4)
    rw [HZ.out] at HL3
    go_wp2_with fail
    refine HL3.out.mono ?_
    rintro e V5 ⟨rfl, HV5⟩
    go_wp2
    go_ret
    exact ⟨rfl, B1.out.trans (HV5.out.mono B1.out.size)⟩
  | false =>
    rw [hz] at HL2
    clear hz
    go_wp2_with fail
    refine HL2.out.mono ?_
    rintro e V4 ⟨rfl, HV4⟩
    go_wp2
    go_ret
    exact ⟨rfl, B1.out.trans (HV4.out.mono B1.out.size)⟩
set_option maxRecDepth 100000 in
set_option maxHeartbeats 400000 in
theorem total_lt2 (n1 m1 n2 m2 n3 m3 : Int) (w : World) (hx : cmpB n1 m1 n2 m2 = -1) (hy : cmpB n2 m2 n1 m1 = 1) (hn : ¬ n1 < n2) :
    Calls Try.prog 3 #[.agg #[.int .u64 n1, .int .i64 m1], .agg #[.int .u64 n2, .int .i64 m2], .agg #[.int .u64 n3, .int .i64 m3]] w fun e w' => e = .returned (.bool true) ∧ Below w.heap.size w w' := by
  obtain ⟨W1, hW1⟩ : ∃ W1, ((w.alloc (.cells #[.int .u64 n1, .int .i64 m1] 24)).alloc (.cells #[.int .u64 n2, .int .i64 m2] 24)).alloc (.cells #[.int .u64 n3, .int .i64 m3] 24) = W1 := ⟨_, rfl⟩
  have B1 : Hid (Below w.heap.size w W1) := by rw [← hW1]; exact (((Below.refl _ w).alloc (Nat.le_refl _) _).alloc (by simp) _).alloc (by simp; omega) _
  obtain ⟨pa, hpa⟩ : ∃ p, w.heap.size = p := ⟨_, rfl⟩
  obtain ⟨pb, hpb⟩ : ∃ p, w.heap.size + 1 = p := ⟨_, rfl⟩
  obtain ⟨pc, hpc⟩ : ∃ p, w.heap.size + 1 + 1 = p := ⟨_, rfl⟩
  obtain ⟨t1, t2, t3⟩ := three w (.cells #[.int .u64 n1, .int .i64 m1] 24) (.cells #[.int .u64 n2, .int .i64 m2] 24) (.cells #[.int .u64 n3, .int .i64 m3] 24)
  rw [hW1, hpa] at t1
  rw [hW1, hpb] at t2
  rw [hW1, hpc] at t3
  have hsz : W1.heap.size = w.heap.size + 3 := by rw [← hW1]; simp
  have KS : Hid (∀ V, Hid (Below W1.heap.size W1 V) → V.cell? ⟨pa, 0, none⟩ = some (.int .u64 n1) ∧ V.cell? ⟨pa, 1, none⟩ = some (.int .i64 m1) ∧ V.cell? ⟨pb, 0, none⟩ = some (.int .u64 n2) ∧ V.cell? ⟨pb, 1, none⟩ = some (.int .i64 m2) ∧ V.cell? ⟨pc, 0, none⟩ = some (.int .u64 n3) ∧ V.cell? ⟨pc, 1, none⟩ = some (.int .i64 m3)) := fun V hb => by
    refine ⟨(hb.out.cell (p := ⟨pa, 0, none⟩) ?_).trans (block_cell t1 0), (hb.out.cell (p := ⟨pa, 1, none⟩) ?_).trans (block_cell t1 1), (hb.out.cell (p := ⟨pb, 0, none⟩) ?_).trans (block_cell t2 0), (hb.out.cell (p := ⟨pb, 1, none⟩) ?_).trans (block_cell t2 1), (hb.out.cell (p := ⟨pc, 0, none⟩) ?_).trans (block_cell t3 0), (hb.out.cell (p := ⟨pc, 1, none⟩) ?_).trans (block_cell t3 1)⟩ <;> simp only <;> omega
  have HC : Hid (∀ a b c d V, Hid (Below W1.heap.size W1 V) → Calls Try.prog 9 #[.agg #[.int .u64 a, .int .i64 b], .agg #[.int .u64 c, .int .i64 d]] V fun e V' => e = .returned (.int .i64 (cmpB a b c d)) ∧ Hid (Below W1.heap.size W1 V')) := fun a b c d V hV => (compare_any a b c d V).mono fun _ _ h => ⟨h.1, hV.out.trans (h.2.mono hV.out.size)⟩
  have HLA : Hid (∀ a b c d V, Hid (Below W1.heap.size W1 V) → Calls Try.prog 10 #[.agg #[.int .u64 a, .int .i64 b], .agg #[.int .u64 c, .int .i64 d]] V fun e V' => e = .returned (.bool (decide (cmpB a b c d < 0))) ∧ Hid (Below W1.heap.size W1 V')) := fun a b c d V hV => (less_any a b c d V).mono fun _ _ h => ⟨h.1, hV.out.trans (h.2.mono hV.out.size)⟩
  have HL : Hid (∀ V, Hid (Below W1.heap.size W1 V) → Calls Try.prog 10 #[.agg #[.int .u64 n1, .int .i64 m1], .agg #[.int .u64 n2, .int .i64 m2]] V fun e V' => e = .returned (.bool true) ∧ Hid (Below W1.heap.size W1 V')) := fun V hV => by
    have h := HLA.out n1 m1 n2 m2 V hV
    rw [hx] at h
    exact h
  have HD : Hid (∀ V, Hid (Below W1.heap.size W1 V) → Hid (Below W1.heap.size W1 V.drew)) := fun V h => h.out.drew
  have HD1 : Hid (Below W1.heap.size W1 W1) := Below.refl _ _
  have HTR : Hid (decide (cmpB n2 m2 n3 m3 < 0) = true → decide (cmpB n1 m1 n3 m3 < 0) = true) := fun h => decide_eq_true (cmpB_trans n1 m1 n2 m2 n3 m3 (by rw [hx]; omega) (of_decide_eq_true h))
  have HW1 := hide hW1
  have HPA := hide hpa
  have HPB := hide hpb
  have HPC := hide hpc
  have HX := hide hx
  have HY := hide hy
  clear hW1 hpa hpb hpc hsz t1 t2 t3 hy
  have hbe : ∀ w, (binOp BinOp.eql 24 (.agg #[.int .u64 n1, .int .i64 m1]) (.agg #[.int .u64 n2, .int .i64 m2])).run Try.prog w = .ok (.bool false) w := fun w => by
    rw [bal_eq]
    have h := cmpB_zero n1 m1 n2 m2
    rw [HX.out] at h
    congr 2
    simpa using h
  clear hx
  go_enter Try.func3, Try.ntmps3
  go_upto_region 1 with fail
  rw [HW1.out, HPC.out, HPB.out, HPA.out]
  refine region_assign (fun V => Hid (Below W1.heap.size W1 V)) [(7, .agg #[.int .u64 n1, .int .i64 m1]), (8, .agg #[.int .u64 n2, .int .i64 m2]), (9, .int .i64 (-1)), (10, .agg #[.int .u64 n2, .int .i64 m2]), (11, .agg #[.int .u64 n1, .int .i64 m1]), (12, .int .i64 1), (13, .int .i64 (-1)), (14, .bool false), (15, .bool false), (16, .agg #[.int .u64 n1, .int .i64 m1]), (17, .agg #[.int .u64 n2, .int .i64 m2]), (18, .int .i64 (-1)), (19, .bool false), (20, .agg #[.int .u64 n1, .int .i64 m1]), (21, .agg #[.int .u64 n2, .int .i64 m2]), (22, .bool false), (23, .bool false), (24, .bool false)] _ (by kernel_rfl) (by kernel_rfl) (by kernel_rfl) (by kernel_rfl) rfl (HD.out _ HD1) ?_ (fun V1 HV1 => ?_)
  · simp only [putAll, Act.put, List.setIfInBounds_toArray, List.set_cons_zero, List.set_cons_succ]
    repeat' (first | exact AllTo.nil | refine AllTo.cons ?_ ?_)
    all_goals first
      | exact stepTo_no (by rfl) rfl
      | (refine stepTo_yes (by rfl) (fun V hV K hK => ?_)
         obtain ⟨q0, q1, q2, q3, q4, q5⟩ := KS.out V hV
         go_simp
         first
           | exact hK.out _ hV
           | (go_at_call 9
              refine (HC.out _ _ _ _ _ hV).mono ?_
              rintro e V' ⟨rfl, hV'⟩
              first | rw [HX.out] | rw [HY.out]
              exact hK.out _ hV')
           | (go_at_call 10
              refine (HL.out _ hV).mono ?_
              rintro e V' ⟨rfl, hV'⟩
              exact hK.out _ hV'))
  simp only [putAll, Act.put, List.setIfInBounds_toArray, List.set_cons_zero, List.set_cons_succ]
  clear HD1
  go_upto_region 3 with fail
  refine region_assign (fun V => Hid (Below W1.heap.size W1 V)) [(25, .agg #[.int .u64 n1, .int .i64 m1]), (26, .agg #[.int .u64 n2, .int .i64 m2]), (27, .bool true), (28, .agg #[.int .u64 n1, .int .i64 m1]), (29, .agg #[.int .u64 n2, .int .i64 m2]), (30, .int .i64 (-1)), (31, .bool true), (32, .bool false), (33, .bool false), (34, .pointer (some ⟨pa, 0, none⟩)), (35, .int .u64 n1), (36, .pointer (some ⟨pb, 0, none⟩)), (37, .int .u64 n2), (38, .bool false), (39, .bool false), (40, undef), (41, undef), (42, undef), (43, undef), (44, .bool false), (45, .bool false)] _ (by kernel_rfl) (by kernel_rfl) (by kernel_rfl) (by kernel_rfl) rfl (HD.out _ HV1) ?_ (fun V2 HV2 => ?_)
  · simp only [putAll, Act.put, List.setIfInBounds_toArray, List.set_cons_zero, List.set_cons_succ]
    repeat' (first | exact AllTo.nil | refine AllTo.cons ?_ ?_)
    all_goals first
      | exact stepTo_no (by rfl) rfl
      | (refine stepTo_yes (by rfl) (fun V hV K hK => ?_)
         obtain ⟨q0, q1, q2, q3, q4, q5⟩ := KS.out V hV
         go_simp
         first
           | exact hK.out _ hV
           | (go_at_call 9
              refine (HC.out _ _ _ _ _ hV).mono ?_
              rintro e V' ⟨rfl, hV'⟩
              first | rw [HX.out] | rw [HY.out]
              exact hK.out _ hV')
           | (go_at_call 10
              refine (HL.out _ hV).mono ?_
              rintro e V' ⟨rfl, hV'⟩
              exact hK.out _ hV'))
  simp only [putAll, Act.put, List.setIfInBounds_toArray, List.set_cons_zero, List.set_cons_succ]
  clear HV1
  obtain ⟨q0, q1, q2, q3, q4, q5⟩ := KS.out V2 HV2
  go_upto_region 5 with fail
  go_wp2_with fail
  refine (HL.out _ HV2).mono ?_
  rintro e V3 ⟨rfl, HV3⟩
  obtain ⟨q0', q1', q2', q3', q4', q5'⟩ := KS.out V3 HV3
  clear q0 q1 q2 q3 q4 q5
  have HL2 := hide (HLA.out n2 m2 n3 m3 V3 HV3)
  cases hz : decide (cmpB n2 m2 n3 m3 < 0) with
  | true =>
    have HZ := hide (HTR.out hz)
    rw [hz] at HL2
    clear hz
    go_wp2_with fail
    refine HL2.out.mono ?_
    rintro e V4 ⟨rfl, HV4⟩
    clear q0' q1' q2' q3' q4' q5'
    obtain ⟨q0, q1, q2, q3, q4, q5⟩ := KS.out V4 HV4
    have HL3 := hide (HLA.out n1 m1 n3 m3 V4 HV4)
    rw [HZ.out] at HL3
    go_wp2_with fail
    refine HL3.out.mono ?_
    rintro e V5 ⟨rfl, HV5⟩
    go_wp2
    go_ret
    exact ⟨rfl, B1.out.trans (HV5.out.mono B1.out.size)⟩
  | false =>
    rw [hz] at HL2
    clear hz
    go_wp2_with fail
    refine HL2.out.mono ?_
    rintro e V4 ⟨rfl, HV4⟩
    go_wp2
    go_ret
    exact ⟨rfl, B1.out.trans (HV4.out.mono B1.out.size)⟩
set_option maxRecDepth 100000 in
set_option maxHeartbeats 400000 in
theorem total_eq (n1 m1 n2 m2 n3 m3 : Int) (w : World) (hx : cmpB n1 m1 n2 m2 = 0) (hy : cmpB n2 m2 n1 m1 = 0) (hn : ¬ n1 < n2) :
    Calls Try.prog 3 #[.agg #[.int .u64 n1, .int .i64 m1], .agg #[.int .u64 n2, .int .i64 m2], .agg #[.int .u64 n3, .int .i64 m3]] w fun e w' => e = .returned (.bool true) ∧ Below w.heap.size w w' := by
  obtain ⟨W1, hW1⟩ : ∃ W1, ((w.alloc (.cells #[.int .u64 n1, .int .i64 m1] 24)).alloc (.cells #[.int .u64 n2, .int .i64 m2] 24)).alloc (.cells #[.int .u64 n3, .int .i64 m3] 24) = W1 := ⟨_, rfl⟩
  have B1 : Hid (Below w.heap.size w W1) := by rw [← hW1]; exact (((Below.refl _ w).alloc (Nat.le_refl _) _).alloc (by simp) _).alloc (by simp; omega) _
  obtain ⟨pa, hpa⟩ : ∃ p, w.heap.size = p := ⟨_, rfl⟩
  obtain ⟨pb, hpb⟩ : ∃ p, w.heap.size + 1 = p := ⟨_, rfl⟩
  obtain ⟨pc, hpc⟩ : ∃ p, w.heap.size + 1 + 1 = p := ⟨_, rfl⟩
  obtain ⟨t1, t2, t3⟩ := three w (.cells #[.int .u64 n1, .int .i64 m1] 24) (.cells #[.int .u64 n2, .int .i64 m2] 24) (.cells #[.int .u64 n3, .int .i64 m3] 24)
  rw [hW1, hpa] at t1
  rw [hW1, hpb] at t2
  rw [hW1, hpc] at t3
  have hsz : W1.heap.size = w.heap.size + 3 := by rw [← hW1]; simp
  have KS : Hid (∀ V, Hid (Below W1.heap.size W1 V) → V.cell? ⟨pa, 0, none⟩ = some (.int .u64 n1) ∧ V.cell? ⟨pa, 1, none⟩ = some (.int .i64 m1) ∧ V.cell? ⟨pb, 0, none⟩ = some (.int .u64 n2) ∧ V.cell? ⟨pb, 1, none⟩ = some (.int .i64 m2) ∧ V.cell? ⟨pc, 0, none⟩ = some (.int .u64 n3) ∧ V.cell? ⟨pc, 1, none⟩ = some (.int .i64 m3)) := fun V hb => by
    refine ⟨(hb.out.cell (p := ⟨pa, 0, none⟩) ?_).trans (block_cell t1 0), (hb.out.cell (p := ⟨pa, 1, none⟩) ?_).trans (block_cell t1 1), (hb.out.cell (p := ⟨pb, 0, none⟩) ?_).trans (block_cell t2 0), (hb.out.cell (p := ⟨pb, 1, none⟩) ?_).trans (block_cell t2 1), (hb.out.cell (p := ⟨pc, 0, none⟩) ?_).trans (block_cell t3 0), (hb.out.cell (p := ⟨pc, 1, none⟩) ?_).trans (block_cell t3 1)⟩ <;> simp only <;> omega
  have HC : Hid (∀ a b c d V, Hid (Below W1.heap.size W1 V) → Calls Try.prog 9 #[.agg #[.int .u64 a, .int .i64 b], .agg #[.int .u64 c, .int .i64 d]] V fun e V' => e = .returned (.int .i64 (cmpB a b c d)) ∧ Hid (Below W1.heap.size W1 V')) := fun a b c d V hV => (compare_any a b c d V).mono fun _ _ h => ⟨h.1, hV.out.trans (h.2.mono hV.out.size)⟩
  have HLA : Hid (∀ a b c d V, Hid (Below W1.heap.size W1 V) → Calls Try.prog 10 #[.agg #[.int .u64 a, .int .i64 b], .agg #[.int .u64 c, .int .i64 d]] V fun e V' => e = .returned (.bool (decide (cmpB a b c d < 0))) ∧ Hid (Below W1.heap.size W1 V')) := fun a b c d V hV => (less_any a b c d V).mono fun _ _ h => ⟨h.1, hV.out.trans (h.2.mono hV.out.size)⟩
  have HL : Hid (∀ V, Hid (Below W1.heap.size W1 V) → Calls Try.prog 10 #[.agg #[.int .u64 n1, .int .i64 m1], .agg #[.int .u64 n2, .int .i64 m2]] V fun e V' => e = .returned (.bool false) ∧ Hid (Below W1.heap.size W1 V')) := fun V hV => by
    have h := HLA.out n1 m1 n2 m2 V hV
    rw [hx] at h
    exact h
  have HD : Hid (∀ V, Hid (Below W1.heap.size W1 V) → Hid (Below W1.heap.size W1 V.drew)) := fun V h => h.out.drew
  have HD1 : Hid (Below W1.heap.size W1 W1) := Below.refl _ _
  have HW1 := hide hW1
  have HPA := hide hpa
  have HPB := hide hpb
  have HPC := hide hpc
  have HX := hide hx
  have HY := hide hy
  clear hW1 hpa hpb hpc hsz t1 t2 t3 hy
  have hbe : ∀ w, (binOp BinOp.eql 24 (.agg #[.int .u64 n1, .int .i64 m1]) (.agg #[.int .u64 n2, .int .i64 m2])).run Try.prog w = .ok (.bool true) w := fun w => by
    rw [bal_eq]
    have h := cmpB_zero n1 m1 n2 m2
    rw [HX.out] at h
    congr 2
    simpa using h
  clear hx
  go_enter Try.func3, Try.ntmps3
  go_upto_region 1 with fail
  rw [HW1.out, HPC.out, HPB.out, HPA.out]
  refine region_assign (fun V => Hid (Below W1.heap.size W1 V)) [(7, .agg #[.int .u64 n1, .int .i64 m1]), (8, .agg #[.int .u64 n2, .int .i64 m2]), (9, .int .i64 0), (10, .agg #[.int .u64 n2, .int .i64 m2]), (11, .agg #[.int .u64 n1, .int .i64 m1]), (12, .int .i64 0), (13, .int .i64 0), (14, .bool false), (15, .bool false), (16, .agg #[.int .u64 n1, .int .i64 m1]), (17, .agg #[.int .u64 n2, .int .i64 m2]), (18, .int .i64 0), (19, .bool true), (20, .agg #[.int .u64 n1, .int .i64 m1]), (21, .agg #[.int .u64 n2, .int .i64 m2]), (22, .bool true), (23, .bool false), (24, .bool false)] _ (by kernel_rfl) (by kernel_rfl) (by kernel_rfl) (by kernel_rfl) rfl (HD.out _ HD1) ?_ (fun V1 HV1 => ?_)
  · simp only [putAll, Act.put, List.setIfInBounds_toArray, List.set_cons_zero, List.set_cons_succ]
    repeat' (first | exact AllTo.nil | refine AllTo.cons ?_ ?_)
    all_goals first
      | exact stepTo_no (by rfl) rfl
      | (refine stepTo_yes (by rfl) (fun V hV K hK => ?_)
         obtain ⟨q0, q1, q2, q3, q4, q5⟩ := KS.out V hV
         go_simp
         first
           | exact hK.out _ hV
           | (go_at_call 9
              refine (HC.out _ _ _ _ _ hV).mono ?_
              rintro e V' ⟨rfl, hV'⟩
              first | rw [HX.out] | rw [HY.out]
              exact hK.out _ hV')
           | (go_at_call 10
              refine (HL.out _ hV).mono ?_
              rintro e V' ⟨rfl, hV'⟩
              exact hK.out _ hV'))
  simp only [putAll, Act.put, List.setIfInBounds_toArray, List.set_cons_zero, List.set_cons_succ]
  clear HD1
  go_upto_region 3 with fail
  refine region_assign (fun V => Hid (Below W1.heap.size W1 V)) [(25, .agg #[.int .u64 n1, .int .i64 m1]), (26, .agg #[.int .u64 n2, .int .i64 m2]), (27, .bool false), (28, .agg #[.int .u64 n1, .int .i64 m1]), (29, .agg #[.int .u64 n2, .int .i64 m2]), (30, .int .i64 0), (31, .bool false), (32, .bool false), (33, .bool false), (34, .pointer (some ⟨pa, 0, none⟩)), (35, .int .u64 n1), (36, .pointer (some ⟨pb, 0, none⟩)), (37, .int .u64 n2), (38, .bool false), (39, .bool false), (40, undef), (41, undef), (42, undef), (43, undef), (44, .bool false), (45, .bool false)] _ (by kernel_rfl) (by kernel_rfl) (by kernel_rfl) (by kernel_rfl) rfl (HD.out _ HV1) ?_ (fun V2 HV2 => ?_)
  · simp only [putAll, Act.put, List.setIfInBounds_toArray, List.set_cons_zero, List.set_cons_succ]
    repeat' (first | exact AllTo.nil | refine AllTo.cons ?_ ?_)
    all_goals first
      | exact stepTo_no (by rfl) rfl
      | (refine stepTo_yes (by rfl) (fun V hV K hK => ?_)
         obtain ⟨q0, q1, q2, q3, q4, q5⟩ := KS.out V hV
         go_simp
         first
           | exact hK.out _ hV
           | (go_at_call 9
              refine (HC.out _ _ _ _ _ hV).mono ?_
              rintro e V' ⟨rfl, hV'⟩
              first | rw [HX.out] | rw [HY.out]
              exact hK.out _ hV')
           | (go_at_call 10
              refine (HL.out _ hV).mono ?_
              rintro e V' ⟨rfl, hV'⟩
              exact hK.out _ hV'))
  simp only [putAll, Act.put, List.setIfInBounds_toArray, List.set_cons_zero, List.set_cons_succ]
  clear HV1
  obtain ⟨q0, q1, q2, q3, q4, q5⟩ := KS.out V2 HV2
  go_upto_region 5 with fail
  go_wp2_with fail
  refine (HL.out _ HV2).mono ?_
  rintro e V3 ⟨rfl, HV3⟩
  go_wp2
  go_ret
  exact ⟨rfl, B1.out.trans (HV3.out.mono B1.out.size)⟩
set_option maxRecDepth 100000 in
set_option maxHeartbeats 400000 in
theorem total_gt (n1 m1 n2 m2 n3 m3 : Int) (w : World) (hx : cmpB n1 m1 n2 m2 = 1) (hy : cmpB n2 m2 n1 m1 = -1) (hn : ¬ n1 < n2) :
    Calls Try.prog 3 #[.agg #[.int .u64 n1, .int .i64 m1], .agg #[.int .u64 n2, .int .i64 m2], .agg #[.int .u64 n3, .int .i64 m3]] w fun e w' => e = .returned (.bool true) ∧ Below w.heap.size w w' := by
  obtain ⟨W1, hW1⟩ : ∃ W1, ((w.alloc (.cells #[.int .u64 n1, .int .i64 m1] 24)).alloc (.cells #[.int .u64 n2, .int .i64 m2] 24)).alloc (.cells #[.int .u64 n3, .int .i64 m3] 24) = W1 := ⟨_, rfl⟩
  have B1 : Hid (Below w.heap.size w W1) := by rw [← hW1]; exact (((Below.refl _ w).alloc (Nat.le_refl _) _).alloc (by simp) _).alloc (by simp; omega) _
  obtain ⟨pa, hpa⟩ : ∃ p, w.heap.size = p := ⟨_, rfl⟩
  obtain ⟨pb, hpb⟩ : ∃ p, w.heap.size + 1 = p := ⟨_, rfl⟩
  obtain ⟨pc, hpc⟩ : ∃ p, w.heap.size + 1 + 1 = p := ⟨_, rfl⟩
  obtain ⟨t1, t2, t3⟩ := three w (.cells #[.int .u64 n1, .int .i64 m1] 24) (.cells #[.int .u64 n2, .int .i64 m2] 24) (.cells #[.int .u64 n3, .int .i64 m3] 24)
  rw [hW1, hpa] at t1
  rw [hW1, hpb] at t2
  rw [hW1, hpc] at t3
  have hsz : W1.heap.size = w.heap.size + 3 := by rw [← hW1]; simp
  have KS : Hid (∀ V, Hid (Below W1.heap.size W1 V) → V.cell? ⟨pa, 0, none⟩ = some (.int .u64 n1) ∧ V.cell? ⟨pa, 1, none⟩ = some (.int .i64 m1) ∧ V.cell? ⟨pb, 0, none⟩ = some (.int .u64 n2) ∧ V.cell? ⟨pb, 1, none⟩ = some (.int .i64 m2) ∧ V.cell? ⟨pc, 0, none⟩ = some (.int .u64 n3) ∧ V.cell? ⟨pc, 1, none⟩ = some (.int .i64 m3)) := fun V hb => by
    refine ⟨(hb.out.cell (p := ⟨pa, 0, none⟩) ?_).trans (block_cell t1 0), (hb.out.cell (p := ⟨pa, 1, none⟩) ?_).trans (block_cell t1 1), (hb.out.cell (p := ⟨pb, 0, none⟩) ?_).trans (block_cell t2 0), (hb.out.cell (p := ⟨pb, 1, none⟩) ?_).trans (block_cell t2 1), (hb.out.cell (p := ⟨pc, 0, none⟩) ?_).trans (block_cell t3 0), (hb.out.cell (p := ⟨pc, 1, none⟩) ?_).trans (block_cell t3 1)⟩ <;> simp only <;> omega
  have HC : Hid (∀ a b c d V, Hid (Below W1.heap.size W1 V) → Calls Try.prog 9 #[.agg #[.int .u64 a, .int .i64 b], .agg #[.int .u64 c, .int .i64 d]] V fun e V' => e = .returned (.int .i64 (cmpB a b c d)) ∧ Hid (Below W1.heap.size W1 V')) := fun a b c d V hV => (compare_any a b c d V).mono fun _ _ h => ⟨h.1, hV.out.trans (h.2.mono hV.out.size)⟩
  have HLA : Hid (∀ a b c d V, Hid (Below W1.heap.size W1 V) → Calls Try.prog 10 #[.agg #[.int .u64 a, .int .i64 b], .agg #[.int .u64 c, .int .i64 d]] V fun e V' => e = .returned (.bool (decide (cmpB a b c d < 0))) ∧ Hid (Below W1.heap.size W1 V')) := fun a b c d V hV => (less_any a b c d V).mono fun _ _ h => ⟨h.1, hV.out.trans (h.2.mono hV.out.size)⟩
  have HL : Hid (∀ V, Hid (Below W1.heap.size W1 V) → Calls Try.prog 10 #[.agg #[.int .u64 n1, .int .i64 m1], .agg #[.int .u64 n2, .int .i64 m2]] V fun e V' => e = .returned (.bool false) ∧ Hid (Below W1.heap.size W1 V')) := fun V hV => by
    have h := HLA.out n1 m1 n2 m2 V hV
    rw [hx] at h
    exact h
  have HD : Hid (∀ V, Hid (Below W1.heap.size W1 V) → Hid (Below W1.heap.size W1 V.drew)) := fun V h => h.out.drew
  have HD1 : Hid (Below W1.heap.size W1 W1) := Below.refl _ _
  have HW1 := hide hW1
  have HPA := hide hpa
  have HPB := hide hpb
  have HPC := hide hpc
  have HX := hide hx
  have HY := hide hy
  clear hW1 hpa hpb hpc hsz t1 t2 t3 hy
  have hbe : ∀ w, (binOp BinOp.eql 24 (.agg #[.int .u64 n1, .int .i64 m1]) (.agg #[.int .u64 n2, .int .i64 m2])).run Try.prog w = .ok (.bool false) w := fun w => by
    rw [bal_eq]
    have h := cmpB_zero n1 m1 n2 m2
    rw [HX.out] at h
    congr 2
    simpa using h
  clear hx
  go_enter Try.func3, Try.ntmps3
  go_upto_region 1 with fail
  rw [HW1.out, HPC.out, HPB.out, HPA.out]
  refine region_assign (fun V => Hid (Below W1.heap.size W1 V)) [(7, .agg #[.int .u64 n1, .int .i64 m1]), (8, .agg #[.int .u64 n2, .int .i64 m2]), (9, .int .i64 1), (10, .agg #[.int .u64 n2, .int .i64 m2]), (11, .agg #[.int .u64 n1, .int .i64 m1]), (12, .int .i64 (-1)), (13, .int .i64 1), (14, .bool false), (15, .bool false), (16, .agg #[.int .u64 n1, .int .i64 m1]), (17, .agg #[.int .u64 n2, .int .i64 m2]), (18, .int .i64 1), (19, .bool false), (20, .agg #[.int .u64 n1, .int .i64 m1]), (21, .agg #[.int .u64 n2, .int .i64 m2]), (22, .bool false), (23, .bool false), (24, .bool false)] _ (by kernel_rfl) (by kernel_rfl) (by kernel_rfl) (by kernel_rfl) rfl (HD.out _ HD1) ?_ (fun V1 HV1 => ?_)
  · simp only [putAll, Act.put, List.setIfInBounds_toArray, List.set_cons_zero, List.set_cons_succ]
    repeat' (first | exact AllTo.nil | refine AllTo.cons ?_ ?_)
    all_goals first
      | exact stepTo_no (by rfl) rfl
      | (refine stepTo_yes (by rfl) (fun V hV K hK => ?_)
         obtain ⟨q0, q1, q2, q3, q4, q5⟩ := KS.out V hV
         go_simp
         first
           | exact hK.out _ hV
           | (go_at_call 9
              refine (HC.out _ _ _ _ _ hV).mono ?_
              rintro e V' ⟨rfl, hV'⟩
              first | rw [HX.out] | rw [HY.out]
              exact hK.out _ hV')
           | (go_at_call 10
              refine (HL.out _ hV).mono ?_
              rintro e V' ⟨rfl, hV'⟩
              exact hK.out _ hV'))
  simp only [putAll, Act.put, List.setIfInBounds_toArray, List.set_cons_zero, List.set_cons_succ]
  clear HD1
  go_upto_region 3 with fail
  refine region_assign (fun V => Hid (Below W1.heap.size W1 V)) [(25, .agg #[.int .u64 n1, .int .i64 m1]), (26, .agg #[.int .u64 n2, .int .i64 m2]), (27, .bool false), (28, .agg #[.int .u64 n1, .int .i64 m1]), (29, .agg #[.int .u64 n2, .int .i64 m2]), (30, .int .i64 1), (31, .bool false), (32, .bool false), (33, .bool false), (34, .pointer (some ⟨pa, 0, none⟩)), (35, .int .u64 n1), (36, .pointer (some ⟨pb, 0, none⟩)), (37, .int .u64 n2), (38, .bool false), (39, .bool false), (40, undef), (41, undef), (42, undef), (43, undef), (44, .bool false), (45, .bool false)] _ (by kernel_rfl) (by kernel_rfl) (by kernel_rfl) (by kernel_rfl) rfl (HD.out _ HV1) ?_ (fun V2 HV2 => ?_)
  · simp only [putAll, Act.put, List.setIfInBounds_toArray, List.set_cons_zero, List.set_cons_succ]
    repeat' (first | exact AllTo.nil | refine AllTo.cons ?_ ?_)
    all_goals first
      | exact stepTo_no (by rfl) rfl
      | (refine stepTo_yes (by rfl) (fun V hV K hK => ?_)
         obtain ⟨q0, q1, q2, q3, q4, q5⟩ := KS.out V hV
         go_simp
         first
           | exact hK.out _ hV
           | (go_at_call 9
              refine (HC.out _ _ _ _ _ hV).mono ?_
              rintro e V' ⟨rfl, hV'⟩
              first | rw [HX.out] | rw [HY.out]
              exact hK.out _ hV')
           | (go_at_call 10
              refine (HL.out _ hV).mono ?_
              rintro e V' ⟨rfl, hV'⟩
              exact hK.out _ hV'))
  simp only [putAll, Act.put, List.setIfInBounds_toArray, List.set_cons_zero, List.set_cons_succ]
  clear HV1
  obtain ⟨q0, q1, q2, q3, q4, q5⟩ := KS.out V2 HV2
  go_upto_region 5 with fail
  go_wp2_with fail
  refine (HL.out _ HV2).mono ?_
  rintro e V3 ⟨rfl, HV3⟩
  go_wp2
  go_ret
  exact ⟨rfl, B1.out.trans (HV3.out.mono B1.out.size)⟩
theorem total_walk (n1 m1 n2 m2 n3 m3 : Int) (w : World) :
    Calls Try.prog 3 #[.agg #[.int .u64 n1, .int .i64 m1], .agg #[.int .u64 n2, .int .i64 m2], .agg #[.int .u64 n3, .int .i64 m3]] w fun e w' => e = .returned (.bool true) ∧ Below w.heap.size w w' := by
  have hs := cmpB_swap n1 m1 n2 m2
  rcases cmpB_cases n1 m1 n2 m2 with hx | hx | hx
  · by_cases hn : n1 < n2
    · exact total_lt1 n1 m1 n2 m2 n3 m3 w hx (by rw [hs, hx]; rfl) hn
    · exact total_lt2 n1 m1 n2 m2 n3 m3 w hx (by rw [hs, hx]; rfl) hn
  · exact total_eq n1 m1 n2 m2 n3 m3 w hx (by rw [hs, hx]; rfl) (by have := (cmpB_zero n1 m1 n2 m2).1 hx; omega)
  · exact total_gt n1 m1 n2 m2 n3 m3 w hx (by rw [hs, hx]) (fun hn => by unfold cmpB at hx; rw [if_neg (by omega), if_pos hn] at hx; omega)
end Go.Proofs.Ytppoloellajfhaa
