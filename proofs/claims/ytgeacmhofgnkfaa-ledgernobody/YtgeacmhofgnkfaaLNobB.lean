import Derived.Test.YtgeacmhofgnkfaaLNob
namespace Go.Proofs.Ytgeacmhofgnkfaa
open Go.RowKit

set_option maxRecDepth 10000 in
theorem account_nob (a : Int) {w : World} {po : Option Addr} (h : Nob w po) :
    Calls Try.prog 8 #[.pointer po, .int .u64 a] w fun e w' => e = .returned (.tuple #[.agg #[.int .u64 0, .int .u64 0, .int .u64 0, .int .u64 0], .int .i64 3]) ∧ Below w.heap.size w w' := by
  have HM : Hid (∀ o, _) := fun o => made_nob (h.below (below_alloc w o))
  clear h
  go_enter Try.func8, Try.ntmps8
  go_wp2_with fail
  refine (HM.out _).mono ?_
  rintro e w1 ⟨rfl, rfl⟩
  go_wp2
  refine bodyPost_ret (v := .tuple #[.agg #[.int .u64 0, .int .u64 0, .int .u64 0, .int .u64 0], .int .i64 3]) (by simp [results, Try.results8, go_sem]) rfl ⟨rfl, below_alloc w _⟩

set_option maxRecDepth 10000 in
theorem held_nob (a : Int) {w : World} {po : Option Addr} (h : Nob w po) :
    Calls Try.prog 9 #[.pointer po, .int .u64 a] w fun e w' => e = .returned (.tuple #[.agg #[.int .u64 0, .int .u64 0, .int .u64 0], .int .i64 3]) ∧ Below w.heap.size w w' := by
  have HM : Hid (∀ o, _) := fun o => made_nob (h.below (below_alloc w o))
  clear h
  go_enter Try.func9, Try.ntmps9
  go_wp2_with fail
  refine (HM.out _).mono ?_
  rintro e w1 ⟨rfl, rfl⟩
  go_wp2
  refine bodyPost_ret (v := .tuple #[.agg #[.int .u64 0, .int .u64 0, .int .u64 0], .int .i64 3]) (by simp [results, Try.results9, go_sem]) rfl ⟨rfl, below_alloc w _⟩

set_option maxRecDepth 10000 in
theorem image_nob {w : World} {po : Option Addr} (h : Nob w po) :
    Calls Try.prog 11 #[.pointer po] w fun e w' => e = .returned (.agg #[.int .u64 0, .int .u64 0, .slice none 0 0, .slice none 0 0, .slice none 0 0]) ∧ Below w.heap.size w w' := by
  have HM : Hid (∀ o, _) := fun o => made_nob (h.below (below_alloc w o))
  clear h
  go_enter Try.func11, Try.ntmps11
  go_wp2_with fail
  refine (HM.out _).mono ?_
  rintro e w1 ⟨rfl, rfl⟩
  go_wp2
  refine bodyPost_ret (v := .agg #[.int .u64 0, .int .u64 0, .slice none 0 0, .slice none 0 0, .slice none 0 0]) (by simp [results, Try.results11, go_sem]) rfl ⟨rfl, below_alloc w _⟩
end Go.Proofs.Ytgeacmhofgnkfaa
