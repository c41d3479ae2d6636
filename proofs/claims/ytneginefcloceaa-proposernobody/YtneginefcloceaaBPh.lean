import Derived.Test.YtneginefcloceaaBPg
import Derived.Test.YtneginefcloceaaBAs
namespace Go.Proofs.Ytneginefcloceaa
open Go.RowKit

set_option maxRecDepth 10000 in
set_option maxHeartbeats 400000 in
theorem nodes_dead {w : World} {a : Option Addr} (h : Dead w a) :
    Calls Try.prog 29 #[.pointer a] w fun e w' => e = .returned (.int .i64 0) ∧ w' = w := by
  have HM := hide (made_dead h)
  clear h
  go_enter Try.func29, Try.ntmps29
  go_wp2_with fail
  refine HM.out.mono ?_
  rintro e w1 ⟨rfl, rfl⟩
  go_wp2
  go_ret
  exact ⟨rfl, rfl⟩
set_option maxRecDepth 10000 in
set_option maxHeartbeats 400000 in
theorem nodes_live {w : World} {a : Option Addr} {c : Cf} (h : PG w a c) (hk : c.Ok) :
    Calls Try.prog 29 #[.pointer a] w fun e w' => e = .returned (.int .i64 (2 * c.f + 1)) ∧ w' = w := by
  have HM := hide (made_live h hk)
  obtain ⟨p, rfl, _, hc, -, -, -⟩ := h.cells
  have h1 := hk.f1
  have h3 := hk.f3
  clear h hk
  generalize c.f = f at *
  go_enter Try.func29, Try.ntmps29
  go_wp2_with fail
  refine HM.out.mono ?_
  rintro e w1 ⟨rfl, rfl⟩
  go_wp2
  go_ret
  exact ⟨rfl, rfl⟩
set_option maxRecDepth 10000 in
set_option maxHeartbeats 400000 in
theorem node_dead {w : World} {a : Option Addr} (n : Int) (h : Dead w a) :
    Calls Try.prog 40 #[.pointer a, .int .i64 n] w fun e w' => e = .returned (.bool false) ∧ w' = w := by
  have HM := hide (nodes_dead h)
  clear h
  by_cases g : n ≥ 0
  · go_enter Try.func40, Try.ntmps40
    go_wp2_with fail
    refine HM.out.mono ?_
    rintro e w1 ⟨rfl, rfl⟩
    go_wp2
    go_ret
    exact ⟨by simp; omega, rfl⟩
  · go_enter Try.func40, Try.ntmps40
    go_wp2
    go_ret
    exact ⟨rfl, rfl⟩
set_option maxRecDepth 10000 in
set_option maxHeartbeats 400000 in
theorem node_live {w : World} {a : Option Addr} {c : Cf} (n : Int) (h : PG w a c) (hk : c.Ok) :
    Calls Try.prog 40 #[.pointer a, .int .i64 n] w fun e w' => e = .returned (.bool (c.node n)) ∧ w' = w := by
  have H := hide (nodes_live h hk)
  clear h
  by_cases g : n ≥ 0
  · have hv : Hid (c.node n = decide (n < 2 * c.f + 1)) := by show c.node n = decide (n < 2 * c.f + 1); simp [Cf.node, g]
    generalize c.node n = v at *
    generalize 2 * c.f + 1 = k at *
    go_enter Try.func40, Try.ntmps40
    go_wp2_with fail
    refine H.out.mono ?_
    rintro e w1 ⟨rfl, rfl⟩
    go_wp2_with fail
    go_ret
    exact ⟨by rw [hv.out]; rfl, rfl⟩
  · have hv : Hid (c.node n = false) := by show c.node n = false; simp [Cf.node]; omega
    generalize c.node n = v at *
    go_enter Try.func40, Try.ntmps40
    go_wp2
    go_ret
    exact ⟨by rw [hv.out]; rfl, rfl⟩
set_option maxRecDepth 10000 in
set_option maxHeartbeats 400000 in
theorem valid_dead {w : World} {a : Option Addr} (n m : Int) (h : Dead w a) :
    Calls Try.prog 41 #[.pointer a, .agg #[.int .u64 n, .int .i64 m]] w fun e w' => e = .returned (.bool false) ∧ Below w.heap.size w w' := by
  have hB : Hid (∀ o, Below w.heap.size w (w.alloc o)) := fun o => (Below.refl _ _).alloc (Nat.le_refl _) _
  have HM := hide (fun o => made_dead (h.kept (hB.out o)))
  clear h
  go_enter Try.func41, Try.ntmps41
  go_wp2_with fail
  refine (HM.out _).mono ?_
  rintro e w1 ⟨rfl, rfl⟩
  go_wp2
  go_ret
  exact ⟨rfl, hB.out _⟩
theorem bal_zero (n m : Int) (w : World) : (binOp BinOp.eql 27 (.agg #[.int .u64 n, .int .i64 m]) (.agg #[.int .u64 0, .int .i64 0])).run Try.prog w = .ok (.bool (decide (n = 0) && decide (m = 0))) w := bal_eq n 0 m 0 w
set_option maxRecDepth 10000 in
set_option maxHeartbeats 800000 in
theorem valid_live {w : World} {a : Option Addr} {c : Cf} (n : Nat) (m : Int) (h : PG w a c) (hk : c.Ok) :
    Calls Try.prog 41 #[.pointer a, .agg #[.int .u64 (n : Nat), .int .i64 m]] w fun e w' => e = .returned (.bool (c.valid n m)) ∧ Below w.heap.size w w' := by
  obtain ⟨W1, hW1⟩ : ∃ W1, w.alloc (.cells #[.int .u64 (n : Nat), .int .i64 m] 27) = W1 := ⟨_, rfl⟩
  have B1 : Hid (Below w.heap.size w W1) := by rw [← hW1]; exact (Below.refl _ w).alloc (Nat.le_refl _) _
  obtain ⟨pb, hpb⟩ : ∃ p, w.heap.size = p := ⟨_, rfl⟩
  have t1 : W1.heap[pb]? = some (.cells #[.int .u64 (n : Nat), .int .i64 m] 27 (0, 0)) := by rw [← hW1, ← hpb]; exact alloc_atK _ _
  have g1 := h.kept B1.out
  have HM := hide (made_live g1 hk)
  have KS : Hid (∀ V, Hid (Below W1.heap.size W1 V) → PG V a c ∧ V.cell? ⟨pb, 0, none⟩ = some (.int .u64 (n : Nat)) ∧ V.cell? ⟨pb, 1, none⟩ = some (.int .i64 m)) := fun V hb =>
    ⟨g1.kept hb.out, (hb.out.cell (p := ⟨pb, 0, none⟩) (block_lt t1)).trans (block_cell t1 0), (hb.out.cell (p := ⟨pb, 1, none⟩) (block_lt t1)).trans (block_cell t1 1)⟩
  have HN : Hid (∀ V, Hid (Below W1.heap.size W1 V) → Calls Try.prog 40 #[.pointer a, .int .i64 m] V fun e V' => e = .returned (.bool (c.node m)) ∧ Hid (Below W1.heap.size W1 V')) := fun V hb => (node_live m (KS.out V hb).1 hk).mono fun _ _ h => ⟨h.1, by rw [h.2]; exact hb⟩
  obtain ⟨p, rfl, _⟩ := h
  have KC : Hid (∀ V, Hid (Below W1.heap.size W1 V) → V.cell? ⟨p, 8, none⟩ = some (.int .u64 (c.mn : Nat)) ∧ V.cell? ⟨pb, 0, none⟩ = some (.int .u64 (n : Nat)) ∧ V.cell? ⟨pb, 1, none⟩ = some (.int .i64 m)) := fun V hb => by
    obtain ⟨p', e, _, _, _, h1, _⟩ := (KS.out V hb).1.cells
    cases e
    exact ⟨h1, (KS.out V hb).2⟩
  have HD1 : Hid (Below W1.heap.size W1 W1) := Below.refl _ _
  have HD : Hid (Below W1.heap.size W1 W1.drew) := HD1.out.drew
  obtain ⟨q0, q1, q2⟩ := KC.out W1 HD1
  have HW1 := hide hW1
  have HPB := hide hpb
  have hz := bal_zero (n : Int) m
  have HV : Hid (c.valid n m = if (n : Int) = 0 then decide (m = 0) else (decide ((n : Int) ≤ (c.mn : Int)) && c.node m)) := by
    show _ = _
    unfold Cf.valid
    by_cases h0 : n = 0
    · rw [if_pos h0, if_pos (by omega)]
    · rw [if_neg h0, if_neg (by omega)]
      congr 1
      rw [decide_eq_decide]
      omega
  have hn0 : (0 : Int) ≤ (n : Int) := by omega
  clear hW1 hpb t1 g1 KS hk HD1
  generalize c.valid n m = vv at *
  generalize c.node m = x at *
  generalize (c.mn : Int) = mn at *
  generalize (n : Int) = n at *
  by_cases h0 : n = 0
  · subst h0
    by_cases hm : m = 0
    · subst hm
      simp only [decide_true, Bool.and_true] at hz
      go_enter Try.func41, Try.ntmps41
      go_upto_region 1 with fail
      rw [HW1.out, HPB.out]
      go_wp2_with fail
      refine HM.out.mono ?_
      rintro e w1 ⟨rfl, rfl⟩
      go_wp2
      go_ret
      exact ⟨by rw [HV.out]; rfl, B1.out⟩
    · simp only [decide_true, decide_eq_false hm, Bool.and_false] at hz
      go_enter Try.func41, Try.ntmps41
      go_upto_region 1 with fail
      rw [HW1.out, HPB.out]
      go_wp2_with fail
      refine HM.out.mono ?_
      rintro e w1 ⟨rfl, rfl⟩
      go_upto_region 5 with fail
      refine region_assign (fun V => Hid (Below w1.heap.size w1 V)) [(13, .pointer (some ⟨pb, 0, none⟩)), (14, .int .u64 0), (15, .bool false), (16, .bool false), (17, undef), (18, undef), (19, undef), (20, undef), (21, undef), (22, undef), (23, undef), (24, undef), (25, .bool false), (26, .bool false), (27, undef), (28, undef), (29, undef), (30, undef), (31, .bool false), (4, .bool false)] _ (by kernel_rfl) (by kernel_rfl) (by kernel_rfl) (by kernel_rfl) rfl HD ?_ (fun V1 HV1 => ?_)
      · simp only [putAll, Act.put, List.setIfInBounds_toArray, List.set_cons_zero, List.set_cons_succ]
        repeat' (first | exact AllTo.nil | refine AllTo.cons ?_ ?_)
        all_goals first
          | exact stepTo_no (by rfl) rfl
          | (refine stepTo_yes (by rfl) (fun V hV K hK => ?_)
             obtain ⟨r0, r1, r2⟩ := KC.out V hV
             go_simp
             exact hK.out _ hV)
      simp only [putAll, Act.put, List.setIfInBounds_toArray, List.set_cons_zero, List.set_cons_succ]
      go_wp2
      go_ret
      exact ⟨by rw [HV.out]; simp [hm], B1.out.trans (HV1.out.mono B1.out.size)⟩
  · simp only [decide_eq_false h0, Bool.false_and] at hz
    have h1 : n ≥ 1 := by omega
    by_cases h2 : n ≤ mn
    · go_enter Try.func41, Try.ntmps41
      go_upto_region 1 with fail
      rw [HW1.out, HPB.out]
      go_wp2_with fail
      refine HM.out.mono ?_
      rintro e w1 ⟨rfl, rfl⟩
      go_upto_region 5 with fail
      refine region_assign (fun V => Hid (Below w1.heap.size w1 V)) [(13, .pointer (some ⟨pb, 0, none⟩)), (14, .int .u64 n), (15, .bool true), (16, .bool true), (17, .pointer (some ⟨pb, 0, none⟩)), (18, .int .u64 n), (19, .pointer (some ⟨p, 0, none⟩)), (20, .pointer (some ⟨p, 0, none⟩)), (21, .pointer (some ⟨p, 0, none⟩)), (22, .pointer (some ⟨p, 8, none⟩)), (23, .int .u64 mn), (24, .bool true), (25, .bool true), (26, .bool true), (27, .pointer (some ⟨p, 0, none⟩)), (28, .pointer (some ⟨pb, 1, none⟩)), (29, .int .i64 m), (30, .bool x), (31, .bool x), (4, .bool x)] _ (by kernel_rfl) (by kernel_rfl) (by kernel_rfl) (by kernel_rfl) rfl HD ?_ (fun V1 HV1 => ?_)
      · simp only [putAll, Act.put, List.setIfInBounds_toArray, List.set_cons_zero, List.set_cons_succ]
        repeat' (first | exact AllTo.nil | refine AllTo.cons ?_ ?_)
        all_goals first
          | exact stepTo_no (by rfl) rfl
          | (refine stepTo_yes (by rfl) (fun V hV K hK => ?_)
             obtain ⟨r0, r1, r2⟩ := KC.out V hV
             go_simp
             first
               | exact hK.out _ hV
               | (go_at_call 40
                  refine (HN.out _ hV).mono ?_
                  rintro e V' ⟨rfl, hV'⟩
                  exact hK.out _ hV'))
      simp only [putAll, Act.put, List.setIfInBounds_toArray, List.set_cons_zero, List.set_cons_succ]
      go_wp2
      go_ret
      exact ⟨by rw [HV.out, if_neg h0, decide_eq_true h2]; rfl, B1.out.trans (HV1.out.mono B1.out.size)⟩
    · have hd : decide (n ≤ mn) = false := decide_eq_false h2
      have HD2 := hide hd
      clear h2
      go_enter Try.func41, Try.ntmps41
      go_upto_region 1 with fail
      rw [HW1.out, HPB.out]
      go_wp2_with fail
      refine HM.out.mono ?_
      rintro e w1 ⟨rfl, rfl⟩
      go_upto_region 5 with fail
      refine region_assign (fun V => Hid (Below w1.heap.size w1 V)) [(13, .pointer (some ⟨pb, 0, none⟩)), (14, .int .u64 n), (15, .bool true), (16, .bool true), (17, .pointer (some ⟨pb, 0, none⟩)), (18, .int .u64 n), (19, .pointer (some ⟨p, 0, none⟩)), (20, .pointer (some ⟨p, 0, none⟩)), (21, .pointer (some ⟨p, 0, none⟩)), (22, .pointer (some ⟨p, 8, none⟩)), (23, .int .u64 mn), (24, .bool false), (25, .bool false), (26, .bool false), (27, undef), (28, undef), (29, undef), (30, undef), (31, .bool false), (4, .bool false)] _ (by kernel_rfl) (by kernel_rfl) (by kernel_rfl) (by kernel_rfl) rfl HD ?_ (fun V1 HV1 => ?_)
      · simp only [putAll, Act.put, List.setIfInBounds_toArray, List.set_cons_zero, List.set_cons_succ]
        repeat' (first | exact AllTo.nil | refine AllTo.cons ?_ ?_)
        all_goals first
          | exact stepTo_no (by rfl) rfl
          | (refine stepTo_yes (by rfl) (fun V hV K hK => ?_)
             obtain ⟨r0, r1, r2⟩ := KC.out V hV
             go_simp
             exact hK.out _ hV)
      simp only [putAll, Act.put, List.setIfInBounds_toArray, List.set_cons_zero, List.set_cons_succ]
      go_wp2
      go_ret
      exact ⟨by rw [HV.out, if_neg h0, HD2.out]; rfl, B1.out.trans (HV1.out.mono B1.out.size)⟩
end Go.Proofs.Ytneginefcloceaa
