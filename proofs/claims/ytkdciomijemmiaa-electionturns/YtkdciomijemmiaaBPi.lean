import Derived.Test.YtkdciomijemmiaaBPh
import Derived.Test.YtkdciomijemmiaaBPb
namespace Go.Proofs.Ytkdciomijemmiaa
open Go.RowKit

set_option maxRecDepth 10000 in
set_option maxHeartbeats 400000 in
theorem wrong_dead {w : World} {a : Option Addr} (n m : Int) (h : Dead w a) :
    Calls Try.prog 68 #[.pointer a, .agg #[.int .u64 n, .int .i64 m]] w fun e w' => e = .returned (.int .i64 3) ∧ Below w.heap.size w w' := by
  have hB : Hid (∀ o, Below w.heap.size w (w.alloc o)) := fun o => (Below.refl _ _).alloc (Nat.le_refl _) _
  have HM := hide (fun o => made_dead (h.kept (hB.out o)))
  clear h
  go_enter Try.func68, Try.ntmps68
  go_wp2_with fail
  refine (HM.out _).mono ?_
  rintro e w1 ⟨rfl, rfl⟩
  go_wp2
  go_ret
  exact ⟨rfl, hB.out _⟩
set_option maxRecDepth 10000 in
set_option maxHeartbeats 400000 in
theorem wrong_live {w : World} {a : Option Addr} {c : Cf} (n : Nat) (m : Int) (h : PG w a c) (hk : c.Ok) :
    Calls Try.prog 68 #[.pointer a, .agg #[.int .u64 (n : Nat), .int .i64 m]] w fun e w' => e = .returned (.int .i64 (if c.valid n m = true then 0 else 181)) ∧ Below w.heap.size w w' := by
  have hB : Hid (∀ o, Below w.heap.size w (w.alloc o)) := fun o => (Below.refl _ _).alloc (Nat.le_refl _) _
  have HM := hide (fun o => made_live (h.kept (hB.out o)) hk)
  have HV := hide (fun o => valid_live n m (h.kept (hB.out o)) hk)
  have HT : Hid (∀ o w1, Below (w.alloc o).heap.size (w.alloc o) w1 → Below w.heap.size w w1) := fun o w1 h => (hB.out o).trans (h.mono (hB.out o).size)
  clear h hk
  generalize (n : Int) = n' at *
  cases hv : c.valid n m with
  | true =>
    rw [hv] at HV
    clear hv
    go_enter Try.func68, Try.ntmps68
    go_wp2_with fail
    refine (HM.out _).mono ?_
    rintro e w1 ⟨rfl, rfl⟩
    go_wp2_with fail
    refine (HV.out _).mono ?_
    rintro e w1 ⟨rfl, b1⟩
    have B2 := hide (HT.out _ _ b1)
    clear b1
    go_wp2
    go_ret
    exact ⟨rfl, B2.out⟩
  | false =>
    rw [hv] at HV
    clear hv
    go_enter Try.func68, Try.ntmps68
    go_wp2_with fail
    refine (HM.out _).mono ?_
    rintro e w1 ⟨rfl, rfl⟩
    go_wp2_with fail
    refine (HV.out _).mono ?_
    rintro e w1 ⟨rfl, b1⟩
    have B2 := hide (HT.out _ _ b1)
    clear b1
    go_wp2
    go_ret
    exact ⟨rfl, B2.out⟩
end Go.Proofs.Ytkdciomijemmiaa
