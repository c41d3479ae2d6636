import Derived.Test.YthfiafjhnidlkaaBMj
import Derived.Test.YthfiafjhnidlkaaBVi
namespace Go.Proofs.Ythfiafjhnidlkaa
open Go.RowKit

theorem bit_of (s k : Nat) (hs : s < 4294967296) : (bits .and .u32 ((s : Int) / 2 ^ k) 1 == 1) = s.testBit k := by
  have e : ((s : Int) / 2 ^ k) = ((s / 2 ^ k : Nat) : Int) := by
    rw [Int.natCast_ediv, Int.natCast_pow]
    rfl
  have h := u32_and_nat (s / 2 ^ k) 1 (Nat.lt_of_le_of_lt (Nat.div_le_self _ _) hs) (by omega)
  rw [e, show (1 : Int) = ((1 : Nat) : Int) from rfl, h, Nat.and_one_is_mod, Nat.testBit_eq_decide_div_mod_eq]
  by_cases hh : s / 2 ^ k % 2 = 1
  · rw [hh]; simp
  · rw [decide_eq_false hh]
    simp only [beq_eq_false_iff_ne]
    omega
set_option maxRecDepth 10000 in
set_option maxHeartbeats 800000 in
/-- The reference's Has. -/
theorem refHas (s : Nat) (hs : s < 4294967296) (n : Int) (w : World) :
    Calls Try.prog 22 #[.int .u32 (s : Nat), .int .i64 n] w fun e w' => e = .returned (.bool (hasB s n)) ∧ w' = w := by
  unfold hasB
  by_cases h : 0 ≤ n ∧ n < 32
  · obtain ⟨k, rfl⟩ : ∃ k : Nat, n = (k : Int) := ⟨n.toNat, by omega⟩
    rw [decide_eq_true h, Bool.true_and, Int.toNat_natCast]
    have d1 : decide ((k : Int) < 0) = false := decide_eq_false (by omega)
    have d2 : decide ((k : Int) > 31) = false := decide_eq_false (by omega)
    have d3 : IntKind.u64.wrap (k : Int) = (k : Int) := wrap_u _ (by omega) (by omega)
    have hv := hide (bit_of s k hs)
    have hk : k < 32 := by omega
    go_enter Try.func22, Try.ntmps22
    go_wp2
    go_ret
    exact ⟨by rw [hv.out]; rfl, rfl⟩
  · rw [decide_eq_false h, Bool.false_and]
    by_cases h0 : n < 0
    · have d1 : decide (n < 0) = true := decide_eq_true h0
      clear h h0
      go_enter Try.func22, Try.ntmps22
      go_wp2
      go_ret
      exact ⟨rfl, rfl⟩
    · have d1 : decide (n < 0) = false := decide_eq_false h0
      have d2 : decide (n > 31) = true := decide_eq_true (by omega)
      clear h h0
      go_enter Try.func22, Try.ntmps22
      go_wp2
      go_ret
      exact ⟨rfl, rfl⟩
theorem or_of (s k : Nat) (hs : s < 4294967296) (hk : k < 32) : bits .or .u32 (s : Int) ((2 : Int) ^ k % 4294967296) = ((s ||| 2 ^ k : Nat) : Int) := by
  have hlt : 2 ^ k < 4294967296 := Nat.lt_of_lt_of_le (Nat.pow_lt_pow_right (by omega) hk) (by decide)
  have e : ((2 : Int) ^ k % 4294967296) = ((2 ^ k : Nat) : Int) := by
    rw [show (2 : Int) ^ k = ((2 ^ k : Nat) : Int) by rw [Int.natCast_pow]; rfl]
    generalize 2 ^ k = x at *
    omega
  rw [e]
  exact u32_or_nat s (2 ^ k) hs hlt
set_option maxRecDepth 10000 in
set_option maxHeartbeats 800000 in
/-- The reference's With. -/
theorem refWith (s : Nat) (hs : s < 4294967296) (n : Int) (w : World) :
    Calls Try.prog 21 #[.int .u32 (s : Nat), .int .i64 n] w fun e w' => e = .returned (.int .u32 ((withB s n : Nat) : Int)) ∧ w' = w := by
  unfold withB aloneB
  by_cases h : 0 ≤ n ∧ n < 32
  · obtain ⟨k, rfl⟩ : ∃ k : Nat, n = (k : Int) := ⟨n.toNat, by omega⟩
    rw [if_pos h, Int.toNat_natCast]
    have d1 : decide ((k : Int) < 0) = false := decide_eq_false (by omega)
    have d2 : decide ((k : Int) > 31) = false := decide_eq_false (by omega)
    have d3 : IntKind.u64.wrap (k : Int) = (k : Int) := wrap_u _ (by omega) (by omega)
    have hk : k < 32 := by omega
    have hv := hide (or_of s k hs hk)
    go_enter Try.func21, Try.ntmps21
    go_wp2
    go_ret
    exact ⟨by rw [hv.out]; rfl, rfl⟩
  · rw [if_neg h, Nat.or_zero]
    by_cases h0 : n < 0
    · have d1 : decide (n < 0) = true := decide_eq_true h0
      clear h h0
      go_enter Try.func21, Try.ntmps21
      go_wp2
      go_ret
      exact ⟨rfl, rfl⟩
    · have d1 : decide (n < 0) = false := decide_eq_false h0
      have d2 : decide (n > 31) = true := decide_eq_true (by omega)
      clear h h0
      go_enter Try.func21, Try.ntmps21
      go_wp2
      go_ret
      exact ⟨rfl, rfl⟩
theorem hasB_nat (s k : Nat) (h : k < 32) : hasB s (k : Int) = s.testBit k := by unfold hasB; rw [decide_eq_true (by omega), Bool.true_and, Int.toNat_natCast]
set_option maxRecDepth 10000 in
set_option maxHeartbeats 800000 in
/-- The reference's Count. -/
theorem refCount (s : Nat) (hs : s < 4294967296) (w : World) :
    Calls Try.prog 23 #[.int .u32 (s : Nat)] w fun e w' => e = .returned (.int .i64 ((countB s : Nat) : Int)) ∧ w' = w := by
  have HH := hide (fun k W => refHas s hs k W)
  have HM := hide (memU_succ s)
  have HB := hide (hasB_nat s)
  have HL := hide (memU_len s)
  unfold countB
  go_enter Try.func23, Try.ntmps23
  go_upto_region 3 with fail
  go_loopw [3, 4] (fun c i wr => wr = w ∧ ∃ k : Nat, k ≤ 32 ∧ i = .int .i64 (k : Nat) ∧ c = .int .i64 (((memU s k).length : Nat) : Int)) (fun _ i _ => 32 - (intOf i).toNat)
  case atStart => exact ⟨rfl, 0, by omega, rfl, rfl⟩
  case round =>
    obtain ⟨rfl, k, hk, rfl, rfl⟩ := hrel
    by_cases hlt : k < 32
    · have HK := hide (HH.out (k : Int) wr)
      have HMk := hide (congrArg List.length (HM.out k))
      have hl := HL.out k
      rw [HB.out k hlt] at HK
      generalize hc : (memU s k).length = c at *
      cases ht : s.testBit k with
      | false =>
        rw [ht] at HK HMk
        clear ht
        go_wp2_with fail
        refine HK.out.mono ?_
        rintro e w1 ⟨rfl, rfl⟩
        go_wp2
        go_roundw
        case rel => exact ⟨trivial, k + 1, by omega, by go_num, by rw [HMk.out, if_neg (by simp), List.append_nil, hc]⟩
        case measure => simp [intOf]; omega
      | true =>
        rw [ht, if_pos rfl, List.length_append, List.length_singleton, hc] at HMk
        rw [ht] at HK
        clear ht
        go_wp2_with fail
        refine HK.out.mono ?_
        rintro e w1 ⟨rfl, rfl⟩
        go_wp2
        go_roundw
        case rel => exact ⟨trivial, k + 1, by omega, by go_num, by rw [HMk.out]; go_num⟩
        case measure => simp [intOf]; omega
    · obtain rfl : k = 32 := by omega
      go_wp2
      go_ret
      exact ⟨rfl, rfl⟩
end Go.Proofs.Ythfiafjhnidlkaa
