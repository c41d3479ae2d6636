import Derived.Test.YtbokmgfdmpejpaaBHi
namespace Go.Proofs.Ytbokmgfdmpejpaa
open Go.RowKit

/-- Is (n, m) a ballot of the group? -/
def Cf.valid (c : Cf) (n : Nat) (m : Int) : Bool := if n = 0 then decide (m = 0) else (decide (n ≤ c.mn) && c.node m)
set_option maxRecDepth 10000 in
set_option maxHeartbeats 400000 in
theorem refValid {w : World} {p : Nat} {c : Cf} (n : Nat) (m : Int) (hp : p < w.heap.size) (h : RefG w p c) :
    Calls Try.prog 74 #[.pointer (some ⟨p, 0, none⟩), .agg #[.int .u64 (n : Nat), .int .i64 m]] w fun e w' => e = .returned (.bool (c.valid n m)) ∧ Below w.heap.size w w' := by
  have hB : Hid (∀ o q, Below w.heap.size w ((w.alloc o).drewN q)) := fun o q => Go.below_drewN ((Below.refl w.heap.size w).alloc (Nat.le_refl _) o) q
  have hB0 : Hid (∀ o, Below w.heap.size w (w.alloc o)) := fun o => (Below.refl _ _).alloc (Nat.le_refl _) _
  have HN := hide (fun o q => refNode (w := (w.alloc o).drewN q) m ((h.below ((Below.refl _ _).alloc (Nat.le_refl _) o) hp).drew q))
  have HC := hide (h.cn)
  clear h
  by_cases g : (n : Int) = 0
  · have hv : Hid (c.valid n m = decide (m = 0)) := by show c.valid n m = decide (m = 0); simp only [Cf.valid]; rw [if_pos (by omega)]
    generalize c.valid n m = v at *
    go_enter Try.func74, Try.ntmps74
    go_wp2
    go_ret
    exact ⟨by rw [hv.out]; rfl, hB0.out _⟩
  · have h1 := HC.out
    by_cases g2 : (n : Int) ≤ (c.mn : Int)
    · have hv : Hid (c.valid n m = c.node m) := by
        show c.valid n m = c.node m
        simp only [Cf.valid]
        rw [if_neg (by omega), decide_eq_true (by omega)]
        rfl
      have hd : decide ((n : Int) ≤ (c.mn : Int)) = true := decide_eq_true g2
      generalize c.valid n m = v at *
      generalize (c.mn : Int) = mn at *
      generalize (n : Int) = ni at *
      generalize c.node m = x at *
      go_enter Try.func74, Try.ntmps74
      go_wp2_with fail
      go_quiet ((go_at_call 31; exact Calls.quiet_of_same (HN.out _ _)))
      go_wp2
      go_ret
      exact ⟨by rw [hv.out]; rfl, hB.out _ _⟩
    · have hv : Hid (c.valid n m = false) := by
        show c.valid n m = false
        simp only [Cf.valid]
        rw [if_neg (by omega), decide_eq_false (by omega)]
        rfl
      have hd : decide ((n : Int) ≤ (c.mn : Int)) = false := decide_eq_false g2
      generalize c.valid n m = v at *
      generalize (c.mn : Int) = mn at *
      generalize (n : Int) = ni at *
      go_enter Try.func74, Try.ntmps74
      go_wp2_with fail
      go_quiet (fail)
      go_wp2
      go_ret
      exact ⟨by rw [hv.out]; rfl, hB.out _ _⟩
end Go.Proofs.Ytbokmgfdmpejpaa
