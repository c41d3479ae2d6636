import Derived.Test.YtppoloellajfhaaBGrp
namespace Go.Proofs.Ytppoloellajfhaa
open Go.RowKit

def Cf.high (c : Cf) (low : Nat) : Nat := addB low c.win c.ms
set_option maxRecDepth 10000 in
set_option maxHeartbeats 400000 in
theorem refHigh {w : World} {p : Nat} {c : Cf} (low : Nat) (hl : low < 18446744073709551616) (h : RefG w p c) :
    Calls Try.prog 14 #[.pointer (some ⟨p, 0, none⟩), .int .u64 (low : Nat)] w fun e w' => e = .returned (.int .u64 ((c.high low : Nat) : Int)) ∧ ∃ q, w' = w.drewN q := by
  have h1 := h.cw
  have h2 := h.cs
  have H := hide (fun w => refAdd low c.win c.ms w hl (by have := h.ok.win8; omega) (by have := h.ok.ms2; omega))
  clear h
  unfold Cf.high
  generalize addB low c.win c.ms = v at *
  generalize c.win = a at *
  generalize c.ms = b at *
  go_enter Try.func14, Try.ntmps14
  go_wp2_with fail
  go_quiet ((go_at_call 37; exact Calls.quiet_of_same (H.out _)))
  go_wp2
  go_ret
  exact ⟨rfl, _, rfl⟩
theorem RefG.drew {w : World} {p : Nat} {c : Cf} (h : RefG w p c) (q : Nat) : RefG (w.drewN q) p c := ⟨by simpa using h.cf, by simpa using h.cw, by simpa using h.cn, by simpa using h.cs, h.ok⟩
theorem RefG.below {w w' : World} {p B : Nat} {c : Cf} (h : RefG w p c) (hb : Below B w w') (hp : p < B) : RefG w' p c := ⟨(hb.cell (p := ⟨p, _, none⟩) hp).trans h.cf, (hb.cell (p := ⟨p, _, none⟩) hp).trans h.cw, (hb.cell (p := ⟨p, _, none⟩) hp).trans h.cn, (hb.cell (p := ⟨p, _, none⟩) hp).trans h.cs, h.ok⟩
def Cf.inside (c : Cf) (low slot : Nat) : Bool := decide (low ≤ slot ∧ slot < c.high low)
set_option maxRecDepth 10000 in
set_option maxHeartbeats 400000 in
theorem refInside {w : World} {p : Nat} {c : Cf} (low slot : Nat) (hl : low < 18446744073709551616) (h : RefG w p c) :
    Calls Try.prog 15 #[.pointer (some ⟨p, 0, none⟩), .int .u64 (low : Nat), .int .u64 (slot : Nat)] w fun e w' => e = .returned (.bool (c.inside low slot)) ∧ ∃ q, w' = w.drewN q := by
  have H := hide (refHigh low hl h)
  clear h
  by_cases g : (low : Int) ≤ (slot : Int)
  · have hv : Hid (c.inside low slot = decide (slot < c.high low)) := by
      show c.inside low slot = decide (slot < c.high low)
      simp only [Cf.inside, decide_eq_decide]
      omega
    generalize c.inside low slot = v at *
    generalize c.high low = k at *
    go_enter Try.func15, Try.ntmps15
    go_wp2_with fail
    refine H.out.mono ?_
    rintro e w1 ⟨rfl, q, hq⟩
    have HQ := hide hq
    clear hq
    go_wp2_with fail
    go_ret
    exact ⟨by rw [hv.out]; rfl, q, HQ.out⟩
  · have hv : Hid (c.inside low slot = false) := by
      show c.inside low slot = false
      simp only [Cf.inside, decide_eq_false_iff_not]
      omega
    generalize c.inside low slot = v at *
    go_enter Try.func15, Try.ntmps15
    go_wp2
    go_ret
    exact ⟨by rw [hv.out]; rfl, 0, rfl⟩
end Go.Proofs.Ytppoloellajfhaa
