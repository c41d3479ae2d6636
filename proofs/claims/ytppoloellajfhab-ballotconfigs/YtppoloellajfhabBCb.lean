import Derived.Test.YtppoloellajfhabBPh
import Derived.Test.YtppoloellajfhabBVi
namespace Go.Proofs.Ytppoloellajfhab
open Go.RowKit

/-- All replicas. -/
def allB (f : Int) : Int := if f = 1 then 7 else if f = 2 then 31 else 127
set_option maxRecDepth 10000 in
set_option maxHeartbeats 400000 in
theorem all_dead {w : World} {a : Option Addr} (h : Dead w a) :
    Calls Try.prog 21 #[.pointer a] w fun e w' => e = .returned (.int .u32 0) ∧ w' = w := by
  have HM := hide (nodes_dead h)
  clear h
  go_enter Try.func21, Try.ntmps21
  go_wp2_with fail
  refine HM.out.mono ?_
  rintro e w1 ⟨rfl, rfl⟩
  go_wp2
  go_ret
  exact ⟨rfl, rfl⟩
set_option maxRecDepth 10000 in
set_option maxHeartbeats 400000 in
theorem all_live {w : World} {a : Option Addr} {c : Cf} (h : PG w a c) (hk : c.Ok) :
    Calls Try.prog 21 #[.pointer a] w fun e w' => e = .returned (.int .u32 (allB c.f)) ∧ w' = w := by
  have HM := hide (nodes_live h hk)
  have hf := hk.f_cases
  clear h hk
  generalize c.f = f at *
  rcases hf with rfl | rfl | rfl
  all_goals
    go_enter Try.func21, Try.ntmps21
    go_wp2_with fail
    refine HM.out.mono ?_
    rintro e w1 ⟨rfl, rfl⟩
    go_wp2
    go_ret
    exact ⟨rfl, rfl⟩
theorem all_bits (i : Nat) (h : i < 7) : ((2 ^ i - 1) ||| 2 ^ i : Nat) = 2 ^ (i + 1) - 1 := by
  match i, h with
  | 0, _ => rfl
  | 1, _ => rfl
  | 2, _ => rfl
  | 3, _ => rfl
  | 4, _ => rfl
  | 5, _ => rfl
  | 6, _ => rfl
set_option maxRecDepth 10000 in
set_option maxHeartbeats 400000 in
theorem refWith_small (i : Nat) (h : i < 7) (w : World) :
    Calls Try.prog 9 #[.int .u32 ((2 ^ i - 1 : Nat) : Int), .int .i64 (i : Nat)] w fun e w' => e = .returned (.int .u32 ((2 ^ (i + 1) - 1 : Nat) : Int)) ∧ w' = w := by
  match i, h with
  | 0, _ => go_enter Try.func9, Try.ntmps9; go_wp2; go_ret; exact ⟨rfl, rfl⟩
  | 1, _ => go_enter Try.func9, Try.ntmps9; go_wp2; go_ret; exact ⟨rfl, rfl⟩
  | 2, _ => go_enter Try.func9, Try.ntmps9; go_wp2; go_ret; exact ⟨rfl, rfl⟩
  | 3, _ => go_enter Try.func9, Try.ntmps9; go_wp2; go_ret; exact ⟨rfl, rfl⟩
  | 4, _ => go_enter Try.func9, Try.ntmps9; go_wp2; go_ret; exact ⟨rfl, rfl⟩
  | 5, _ => go_enter Try.func9, Try.ntmps9; go_wp2; go_ret; exact ⟨rfl, rfl⟩
  | 6, _ => go_enter Try.func9, Try.ntmps9; go_wp2; go_ret; exact ⟨rfl, rfl⟩
set_option maxRecDepth 10000 in
set_option maxHeartbeats 400000 in
theorem refAll {w : World} {p : Nat} {c : Cf} (h : RefG w p c) :
    Calls Try.prog 29 #[.pointer (some ⟨p, 0, none⟩)] w fun e w' => e = .returned (.int .u32 (allB c.f)) ∧ w' = w := by
  have HN := hide (refNodes h)
  have hf := h.ok.f_cases
  have HW := hide refWith_small
  have HV : Hid (allB c.f = ((2 ^ (2 * c.f + 1).toNat - 1 : Nat) : Int)) := by
    show _ = _
    rcases hf with hf | hf | hf <;> rw [hf] <;> rfl
  have hN : ∃ N : Nat, 2 * c.f + 1 = (N : Int) ∧ N ≤ 7 := by
    rcases hf with hf | hf | hf <;> rw [hf]
    · exact ⟨3, rfl, by omega⟩
    · exact ⟨5, rfl, by omega⟩
    · exact ⟨7, rfl, by omega⟩
  obtain ⟨N, hN1, hN7⟩ := hN
  rw [hN1] at HN HV
  rw [HV.out, Int.toNat_natCast]
  clear h hf HV hN1
  go_enter Try.func29, Try.ntmps29
  go_upto_region 3 with fail
  go_loopw [3, 4] (fun s i wr => wr = w ∧ ∃ k : Nat, k ≤ N ∧ i = .int .i64 (k : Nat) ∧ s = .int .u32 ((2 ^ k - 1 : Nat) : Int)) (fun _ i _ => N - (intOf i).toNat)
  case atStart => exact ⟨rfl, 0, by omega, rfl, rfl⟩
  case round =>
    obtain ⟨rfl, k, hk, rfl, rfl⟩ := hrel
    by_cases hlt : k < N
    · have HWk := hide (HW.out k (by omega) wr)
      generalize ((2 ^ k - 1 : Nat) : Int) = s0 at *
      generalize hs1 : ((2 ^ (k + 1) - 1 : Nat) : Int) = s1 at *
      have HS1 := hide hs1
      clear hs1
      go_wp2_with fail
      refine HN.out.mono ?_
      rintro e w1 ⟨rfl, rfl⟩
      go_wp2_with fail
      refine HWk.out.mono ?_
      rintro e w1 ⟨rfl, rfl⟩
      go_wp2
      go_roundw
      case rel => exact ⟨trivial, k + 1, by omega, by go_num, by rw [HS1.out]⟩
      case measure => simp [intOf]; omega
    · have hkN : k = N := by omega
      subst hkN
      obtain ⟨s0, hs0⟩ : ∃ s0, ((2 ^ k - 1 : Nat) : Int) = s0 := ⟨_, rfl⟩
      have HS0 := hide hs0
      rw [hs0]
      clear hs0
      go_wp2_with fail
      refine HN.out.mono ?_
      rintro e w1 ⟨rfl, rfl⟩
      go_wp2
      go_ret
      exact ⟨by rw [HS0.out]; rfl, rfl⟩
end Go.Proofs.Ytppoloellajfhab
