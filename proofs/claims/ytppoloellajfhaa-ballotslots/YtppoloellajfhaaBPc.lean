import Derived.Test.YtppoloellajfhaaBPa
namespace Go.Proofs.Ytppoloellajfhaa
open Go.RowKit

set_option maxRecDepth 10000 in
set_option maxHeartbeats 400000 in
theorem high_dead {w : World} {a : Option Addr} (low : Int) (h : Dead w a) :
    Calls Try.prog 12 #[.pointer a, .int .u64 low] w fun e w' => e = .returned (.int .u64 0) ∧ w' = w := by
  have HM := hide (made_dead h)
  clear h
  go_enter Try.func12, Try.ntmps12
  go_wp2_with fail
  refine HM.out.mono ?_
  rintro e w1 ⟨rfl, rfl⟩
  go_wp2
  go_ret
  exact ⟨rfl, rfl⟩
set_option maxRecDepth 10000 in
set_option maxHeartbeats 400000 in
theorem inside_dead {w : World} {a : Option Addr} (low slot : Nat) (h : Dead w a) :
    Calls Try.prog 13 #[.pointer a, .int .u64 (low : Nat), .int .u64 (slot : Nat)] w fun e w' => e = .returned (.bool false) ∧ w' = w := by
  have HM := hide (high_dead (low : Int) h)
  clear h
  by_cases g : (slot : Int) ≥ (low : Int)
  · go_enter Try.func13, Try.ntmps13
    go_wp2_with fail
    refine HM.out.mono ?_
    rintro e w1 ⟨rfl, rfl⟩
    go_wp2
    go_ret
    exact ⟨by simp, rfl⟩
  · go_enter Try.func13, Try.ntmps13
    go_wp2
    go_ret
    exact ⟨rfl, rfl⟩
set_option maxRecDepth 10000 in
set_option maxHeartbeats 400000 in
theorem high_live {w : World} {a : Option Addr} {c : Cf} (low : Nat) (hl : low < 18446744073709551616) (h : PG w a c) (hk : c.Ok) :
    Calls Try.prog 12 #[.pointer a, .int .u64 (low : Nat)] w fun e w' => e = .returned (.int .u64 ((c.high low : Nat) : Int)) ∧ ∃ q, w' = w.drewN q := by
  have HM := hide (made_live h hk)
  obtain ⟨p, rfl, _, _, h1, _, h2⟩ := h.cells
  have H := hide (fun w => add_any low c.win c.ms w hl (by have := hk.win8; omega) (by have := hk.ms2; omega))
  clear h hk
  unfold Cf.high
  generalize addB low c.win c.ms = v at *
  generalize c.win = a at *
  generalize c.ms = b at *
  go_enter Try.func12, Try.ntmps12
  go_wp2_with fail
  refine HM.out.mono ?_
  rintro e w1 ⟨rfl, rfl⟩
  go_wp2_with fail
  go_quiet ((go_at_call 36; exact Calls.quiet_of_same (H.out _)))
  go_wp2
  go_ret
  exact ⟨rfl, _, rfl⟩
set_option maxRecDepth 10000 in
set_option maxHeartbeats 400000 in
theorem inside_live {w : World} {a : Option Addr} {c : Cf} (low slot : Nat) (hl : low < 18446744073709551616) (h : PG w a c) (hk : c.Ok) :
    Calls Try.prog 13 #[.pointer a, .int .u64 (low : Nat), .int .u64 (slot : Nat)] w fun e w' => e = .returned (.bool (c.inside low slot)) ∧ ∃ q, w' = w.drewN q := by
  have H := hide (high_live low hl h hk)
  clear h
  by_cases g : (slot : Int) ≥ (low : Int)
  · have hv : Hid (c.inside low slot = decide (slot < c.high low)) := by
      show c.inside low slot = decide (slot < c.high low)
      simp only [Cf.inside, decide_eq_decide]
      omega
    generalize c.inside low slot = v at *
    generalize c.high low = k at *
    go_enter Try.func13, Try.ntmps13
    go_wp2_with fail
    refine H.out.mono ?_
    rintro e w1 ⟨rfl, q, hq⟩
    have HQ := hide hq
    clear hq
    go_wp2_with fail
    go_ret
    exact ⟨by rw [hv.out]; rfl, q, HQ.out⟩
  · have hv : Hid (c.inside low slot = false) := by
      show c.inside low slot = false
      simp only [Cf.inside, decide_eq_false_iff_not]
      omega
    generalize c.inside low slot = v at *
    go_enter Try.func13, Try.ntmps13
    go_wp2
    go_ret
    exact ⟨by rw [hv.out]; rfl, 0, rfl⟩
end Go.Proofs.Ytppoloellajfhaa
