import Derived.Test.YtppoloellajfhabBPk
namespace Go.Proofs.Ytppoloellajfhab
open Go.RowKit

/-- A number and an error. -/
def NumR (w : World) (n : Int) (L : List Lk) (k : Int) (e : Ending) (w' : World) : Prop := ∃ ev, e = .returned (.tuple #[.int .u64 n, ev]) ∧ Hid (ErrP w' L k ev ∧ Below w.heap.size w w')
set_option maxRecDepth 10000 in
set_option maxHeartbeats 400000 in
theorem many_live {w : World} {a : Option Addr} {c : Cf} (h : PG w a c) (hk : c.Ok) :
    Calls Try.prog 49 #[.pointer a] w fun e w' => e = .returned (.int .u64 (2 * c.f + 1)) ∧ w' = w := by
  have HM := hide (nodes_live h hk)
  have h1 := hk.f1
  have h3 := hk.f3
  clear h hk
  generalize c.f = f at *
  go_enter Try.func49, Try.ntmps49
  go_wp2_with fail
  refine HM.out.mono ?_
  rintro e w1 ⟨rfl, rfl⟩
  go_wp2
  go_ret
  exact ⟨rfl, rfl⟩
set_option maxRecDepth 10000 in
set_option maxHeartbeats 400000 in
theorem rank_no {w : World} {a : Option Addr} (n m : Int) (k : Int) (hk : k ≠ 0)
    (hw : ∀ W, Below w.heap.size w W → Calls Try.prog 46 #[.pointer a, .agg #[.int .u64 n, .int .i64 m]] W fun e w' => e = .returned (.int .i64 k) ∧ Below W.heap.size W w') :
    Calls Try.prog 32 #[.pointer a, .agg #[.int .u64 n, .int .i64 m]] w (NumR w 0 [⟨ballotN, 0⟩] k) := by
  obtain ⟨W1, hW1⟩ : ∃ W1, w.alloc (.cells #[.int .u64 n, .int .i64 m] 47) = W1 := ⟨_, rfl⟩
  have B1 : Hid (Below w.heap.size w W1) := by rw [← hW1]; exact (Below.refl _ w).alloc (Nat.le_refl _) _
  obtain ⟨pb, hpb⟩ : ∃ p, w.heap.size = p := ⟨_, rfl⟩
  have t1 : W1.heap[pb]? = some (.cells #[.int .u64 n, .int .i64 m] 47 (0, 0)) := by rw [← hW1, ← hpb]; exact alloc_atK _ _
  have q0 := block_cell t1 0
  have q1 := block_cell t1 1
  have HWR := hide (hw W1 B1.out)
  have HRF := hide (fun W => refusalB (w := W) 0 k)
  have HW1 := hide hW1
  have HPB := hide hpb
  clear hW1 hpb t1 hw
  unfold NumR
  go_enter Try.func32, Try.ntmps32
  go_upto_region 1 with fail
  rw [HW1.out, HPB.out]
  go_wp2_with fail
  refine HWR.out.mono ?_
  rintro e w2 ⟨rfl, b2⟩
  have B2 := hide (B1.out.trans (b2.mono B1.out.size))
  clear b2 q0 q1 B1
  go_wp2_with fail
  refine (HRF.out _).mono ?_
  rintro e w3 ⟨g, rfl, G3⟩
  have FIN : Hid (ErrP w3 [⟨ballotN, 0⟩] k (.iface 101 (.pointer (some ⟨g, 0, none⟩))) ∧ Below w.heap.size w w3) := ⟨.inr ⟨G3.out.1, by simp, by simp, hk⟩, B2.out.trans (G3.out.2.mono B2.out.size)⟩
  clear G3 B2 HRF HWR
  go_wp2
  go_ret2
  exact ⟨_, rfl, FIN.out⟩
/-- The rank. -/
def Cf.rank (c : Cf) (n m : Int) : Int := if n = 0 then 0 else (n - 1) * (2 * c.f + 1) + m + 1
set_option maxRecDepth 10000 in
set_option maxHeartbeats 800000 in
theorem rank_yes {w : World} {a : Option Addr} {c : Cf} (n : Nat) (m : Int) (h : PG w a c) (hk : c.Ok) (hv : c.valid n m = true) :
    Calls Try.prog 32 #[.pointer a, .agg #[.int .u64 (n : Nat), .int .i64 m]] w (NumR w (c.rank n m) [] 0) := by
  obtain ⟨W1, hW1⟩ : ∃ W1, w.alloc (.cells #[.int .u64 (n : Nat), .int .i64 m] 47) = W1 := ⟨_, rfl⟩
  have B1 : Hid (Below w.heap.size w W1) := by rw [← hW1]; exact (Below.refl _ w).alloc (Nat.le_refl _) _
  obtain ⟨pb, hpb⟩ : ∃ p, w.heap.size = p := ⟨_, rfl⟩
  have t1 : W1.heap[pb]? = some (.cells #[.int .u64 (n : Nat), .int .i64 m] 47 (0, 0)) := by rw [← hW1, ← hpb]; exact alloc_atK _ _
  have g1 := h.kept B1.out
  have HWR := hide (wrong_live n m g1 hk)
  rw [hv] at HWR
  have KS : Hid (∀ V, Hid (Below W1.heap.size W1 V) → V.cell? ⟨pb, 0, none⟩ = some (.int .u64 (n : Nat)) ∧ V.cell? ⟨pb, 1, none⟩ = some (.int .i64 m)) := fun V hb => by
    have hB := (hb.out.block _ (block_lt t1)).trans t1
    exact ⟨block_cell hB 0, block_cell hB 1⟩
  have HMY : Hid (∀ V, Hid (Below W1.heap.size W1 V) → Calls Try.prog 49 #[.pointer a] V fun e V' => e = .returned (.int .u64 (2 * c.f + 1)) ∧ Hid (Below W1.heap.size W1 V')) := fun V hb => (many_live (g1.kept hb.out) hk).mono fun _ _ h => ⟨h.1, by rw [h.2]; exact hb⟩
  have HVB : Hid (((n : Int) = 0 ∧ m = 0) ∨ (1 ≤ (n : Int) ∧ (n : Int) ≤ 1099511627776 ∧ 0 ≤ m ∧ m ≤ 2 * c.f)) := by
    show _ ∨ _
    unfold Cf.valid at hv
    have := hk.f1
    by_cases h0 : n = 0
    · rw [if_pos h0] at hv; exact .inl ⟨by omega, of_decide_eq_true hv⟩
    · rw [if_neg h0, Bool.and_eq_true] at hv
      have h1 := of_decide_eq_true hv.1
      have h2 := of_decide_eq_true hv.2
      have := hk.mn2
      exact .inr ⟨by omega, by omega, by omega, by omega⟩
  have HD : Hid (∀ V, Hid (Below W1.heap.size W1 V) → Hid (Below W1.heap.size W1 V.drew)) := fun V h => h.out.drew
  have f1 := hk.f1
  have f3 := hk.f3
  obtain ⟨p, rfl, _⟩ := h
  obtain ⟨q0, q1⟩ := KS.out W1 (Below.refl _ _)
  have hz := bal_zero (n : Int) m
  have HW1 := hide hW1
  have HPB := hide hpb
  clear hW1 hpb t1 g1 hk hv
  have HRK : Hid (c.rank n m = if (n : Int) = 0 then 0 else ((n : Int) - 1) * (2 * c.f + 1) + m + 1) := rfl
  generalize c.rank n m = rk at *
  generalize (n : Int) = n at *
  generalize c.f = f at *
  unfold NumR
  rcases HVB.out with ⟨h0, hm⟩ | ⟨h1, h2, hm1, hm2⟩
  · subst h0 hm
    simp only [decide_true, Bool.and_true] at hz
    go_enter Try.func32, Try.ntmps32
    go_upto_region 1 with fail
    rw [HW1.out, HPB.out]
    go_wp2_with fail
    refine HWR.out.mono ?_
    rintro e w2 ⟨rfl, b2⟩
    have B2 := hide b2
    clear b2 q0 q1 HWR
    obtain ⟨q0, q1⟩ := KS.out w2 B2.out
    go_wp2
    go_ret2
    exact ⟨_, by rw [HRK.out]; rfl, .inl ⟨rfl, rfl, rfl⟩, B1.out.trans (B2.out.mono B1.out.size)⟩
  · have h0 : ¬ n = 0 := by omega
    simp only [decide_eq_false h0, Bool.false_and] at hz
    obtain ⟨nn, hnn⟩ : ∃ nn, 2 * f + 1 = nn := ⟨_, rfl⟩
    obtain ⟨q, hq⟩ : ∃ q, (n - 1) * nn = q := ⟨_, rfl⟩
    have HQB : Hid (0 ≤ q ∧ q ≤ 7696581394432) := by
      show _ ∧ _
      rw [← hq]
      have a1 : 0 ≤ (n - 1) * nn := Int.mul_nonneg (by omega) (by omega)
      have a2 : (n - 1) * nn ≤ 1099511627776 * 7 := Int.mul_le_mul (by omega) (by omega) (by omega) (by omega)
      omega
    have hqa := HQB.out.1
    have hqb := HQB.out.2
    have e1 : IntKind.u64.wrap (n - 1) = n - 1 := by simp [IntKind.wrap, IntKind.bits, IntKind.signed]; omega
    have e2 : IntKind.u64.wrap ((n - 1) * nn) = q := by rw [hq]; simp [IntKind.wrap, IntKind.bits, IntKind.signed]; omega
    have e3 : IntKind.u64.wrap m = m := by simp [IntKind.wrap, IntKind.bits, IntKind.signed]; omega
    have e4 : IntKind.u64.wrap (q + m) = q + m := by simp [IntKind.wrap, IntKind.bits, IntKind.signed]; omega
    have e5 : IntKind.u64.wrap (q + m + 1) = q + m + 1 := by simp [IntKind.wrap, IntKind.bits, IntKind.signed]; omega
    have HQ := hide hq
    have HNN := hide hnn
    rw [hnn] at HMY
    clear hq hnn
    go_enter Try.func32, Try.ntmps32
    go_upto_region 1 with fail
    rw [HW1.out, HPB.out]
    go_wp2_with fail
    refine HWR.out.mono ?_
    rintro e w2 ⟨rfl, b2⟩
    have B2 := hide b2
    clear b2 q0 q1 HWR
    obtain ⟨q0, q1⟩ := KS.out w2 B2
    go_upto_region 6 with fail
    refine region_assign (fun V => Hid (Below W1.heap.size W1 V)) [(18, .pointer (some ⟨pb, 0, none⟩)), (19, .int .u64 n), (20, .int .u64 (n - 1)), (21, .pointer (some ⟨p, 0, none⟩)), (22, .int .u64 nn), (23, .int .u64 q), (24, .pointer (some ⟨pb, 1, none⟩)), (25, .int .i64 m), (26, .int .u64 m), (27, .int .u64 (q + m)), (28, .int .u64 (q + m + 1)), (4, .int .u64 (q + m + 1)), (5, .nilIface)] _ (by kernel_rfl) (by kernel_rfl) (by kernel_rfl) (by kernel_rfl) rfl (HD.out _ B2) ?_ (fun V1 HV1 => ?_)
    · simp only [putAll, Act.put, List.setIfInBounds_toArray, List.set_cons_zero, List.set_cons_succ]
      repeat' (first | exact AllTo.nil | refine AllTo.cons ?_ ?_)
      all_goals first
        | exact stepTo_no (by rfl) rfl
        | (refine stepTo_yes (by rfl) (fun V hV K hK => ?_)
           obtain ⟨r0, r1⟩ := KS.out V hV
           go_simp
           first
             | exact hK.out _ hV
             | (go_at_call 49; refine (HMY.out _ hV).mono ?_; rintro e V' ⟨rfl, hV'⟩; exact hK.out _ hV'))
    simp only [putAll, Act.put, List.setIfInBounds_toArray, List.set_cons_zero, List.set_cons_succ]
    go_wp2
    go_ret2
    refine ⟨_, ?_, .inl ⟨rfl, rfl, rfl⟩, B1.out.trans (HV1.out.mono B1.out.size)⟩
    rw [HRK.out, if_neg h0, HNN.out, HQ.out]
    rfl
end Go.Proofs.Ytppoloellajfhab
