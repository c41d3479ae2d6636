import Derived.Test.YtgeacmhofgnkfaaRows
import Derived.WalkKit
import Derived.WalkSpells
import Derived.Outline
import Derived.Deep.RegionHeld
namespace Go.Proofs.Ytgeacmhofgnkfaa
open Go.RowKit

theorem hide {p : Prop} (h : p) : Hid p := h

theorem map_nil (w : World) : (binOp BinOp.neq 25 (.map none) (.map none)).run Try.prog w = .ok (.bool false) w := by kernel_rfl
theorem map_some (r : Nat) (w : World) : (binOp BinOp.neq 25 (.map (some r)) (.map none)).run Try.prog w = .ok (.bool true) w := by kernel_rfl

/-- A ledger that nobody made: nil, or plain. -/
def Nob (w : World) (po : Option Addr) : Prop := po = none ∨ ∃ p, po = some ⟨p, 0, none⟩ ∧ w.cell? ⟨p, 1, none⟩ = some (.map none)

set_option maxRecDepth 10000 in
theorem made_nob {w : World} {po : Option Addr} (h : Nob w po) :
    Calls Try.prog 18 #[.pointer po] w fun e w' => e = .returned (.bool false) ∧ w' = w := by
  rcases h with rfl | ⟨p, rfl, c1⟩
  · go_enter Try.func18, Try.ntmps18
    go_wp2
    go_ret
    exact ⟨rfl, rfl⟩
  · have hm := map_nil w
    go_enter Try.func18, Try.ntmps18
    go_wp2
    go_ret
    exact ⟨rfl, rfl⟩

set_option maxRecDepth 10000 in
theorem mark_nob {w : World} {po : Option Addr} (h : Nob w po) :
    Calls Try.prog 7 #[.pointer po] w fun e w' => e = .returned (.tuple #[.int .i64 0, .int .i64 3]) ∧ w' = w := by
  have HM := hide (made_nob h)
  clear h
  go_enter Try.func7, Try.ntmps7
  go_wp2_with fail
  refine HM.out.mono ?_
  rintro e w1 ⟨rfl, rfl⟩
  go_wp2
  go_ret2
  exact ⟨rfl, rfl⟩

set_option maxRecDepth 10000 in
theorem total_nob {w : World} {po : Option Addr} (h : Nob w po) :
    Calls Try.prog 12 #[.pointer po] w fun e w' => e = .returned (.int .u64 0) ∧ w' = w := by
  have HM := hide (made_nob h)
  clear h
  go_enter Try.func12, Try.ntmps12
  go_wp2_with fail
  refine HM.out.mono ?_
  rintro e w1 ⟨rfl, rfl⟩
  go_wp2
  go_ret
  exact ⟨rfl, rfl⟩

set_option maxRecDepth 10000 in
theorem create_nob (a b c : Int) {w : World} {po : Option Addr} (h : Nob w po) :
    Calls Try.prog 5 #[.pointer po, .int .u64 a, .int .u64 b, .int .u64 c] w fun e w' => e = .returned (.int .i64 3) ∧ w' = w := by
  have HM := hide (made_nob h)
  clear h
  go_enter Try.func5, Try.ntmps5
  go_wp2_with fail
  refine HM.out.mono ?_
  rintro e w1 ⟨rfl, rfl⟩
  go_wp2
  go_ret
  exact ⟨rfl, rfl⟩

set_option maxRecDepth 10000 in
theorem move_nob (a b c : Int) {w : World} {po : Option Addr} (h : Nob w po) :
    Calls Try.prog 23 #[.pointer po, .int .u64 a, .int .u64 b, .int .u64 c] w fun e w' => e = .returned (.int .i64 3) ∧ w' = w := by
  have HM := hide (made_nob h)
  clear h
  go_enter Try.func23, Try.ntmps23
  go_wp2_with fail
  refine HM.out.mono ?_
  rintro e w1 ⟨rfl, rfl⟩
  go_wp2
  go_ret
  exact ⟨rfl, rfl⟩

set_option maxRecDepth 10000 in
theorem hold_nob (a b c : Int) {w : World} {po : Option Addr} (h : Nob w po) :
    Calls Try.prog 24 #[.pointer po, .int .u64 a, .int .u64 b, .int .u64 c] w fun e w' => e = .returned (.int .i64 3) ∧ w' = w := by
  have HM := hide (made_nob h)
  clear h
  go_enter Try.func24, Try.ntmps24
  go_wp2_with fail
  refine HM.out.mono ?_
  rintro e w1 ⟨rfl, rfl⟩
  go_wp2
  go_ret
  exact ⟨rfl, rfl⟩

set_option maxRecDepth 10000 in
theorem pay_nob (a b c : Int) {w : World} {po : Option Addr} (h : Nob w po) :
    Calls Try.prog 25 #[.pointer po, .int .u64 a, .int .u64 b, .int .u64 c] w fun e w' => e = .returned (.int .i64 3) ∧ w' = w := by
  have HM := hide (made_nob h)
  clear h
  go_enter Try.func25, Try.ntmps25
  go_wp2_with fail
  refine HM.out.mono ?_
  rintro e w1 ⟨rfl, rfl⟩
  go_wp2
  go_ret
  exact ⟨rfl, rfl⟩

set_option maxRecDepth 10000 in
theorem close_nob (a : Int) {w : World} {po : Option Addr} (h : Nob w po) :
    Calls Try.prog 22 #[.pointer po, .int .u64 a] w fun e w' => e = .returned (.int .i64 3) ∧ w' = w := by
  have HM := hide (made_nob h)
  clear h
  go_enter Try.func22, Try.ntmps22
  go_wp2_with fail
  refine HM.out.mono ?_
  rintro e w1 ⟨rfl, rfl⟩
  go_wp2
  go_ret
  exact ⟨rfl, rfl⟩

set_option maxRecDepth 10000 in
theorem settle_nob (a : Int) (so : Option Addr) (sn sc : Nat) {w : World} {po : Option Addr} (h : Nob w po) :
    Calls Try.prog 26 #[.pointer po, .int .u64 a, .slice so sn sc] w fun e w' => e = .returned (.int .i64 3) ∧ w' = w := by
  have HM := hide (made_nob h)
  clear h
  go_enter Try.func26, Try.ntmps26
  go_wp2_with fail
  refine HM.out.mono ?_
  rintro e w1 ⟨rfl, rfl⟩
  go_wp2
  go_ret
  exact ⟨rfl, rfl⟩

set_option maxRecDepth 10000 in
theorem markfault_nob (a : Int) {w : World} {po : Option Addr} (h : Nob w po) :
    Calls Try.prog 48 #[.pointer po, .int .i64 a] w fun e w' => e = .returned (.int .i64 3) ∧ w' = w := by
  have HM := hide (made_nob h)
  clear h
  go_enter Try.func48, Try.ntmps48
  go_wp2_with fail
  refine HM.out.mono ?_
  rintro e w1 ⟨rfl, rfl⟩
  go_wp2
  go_ret
  exact ⟨rfl, rfl⟩

set_option maxRecDepth 10000 in
theorem undo_nob (a : Int) {w : World} {po : Option Addr} (h : Nob w po) :
    Calls Try.prog 28 #[.pointer po, .int .i64 a] w fun e w' => e = .returned (.int .i64 3) ∧ w' = w := by
  have HM := hide (markfault_nob a h)
  clear h
  go_enter Try.func28, Try.ntmps28
  go_wp2_with fail
  refine HM.out.mono ?_
  rintro e w1 ⟨rfl, rfl⟩
  go_wp2
  go_ret
  exact ⟨rfl, rfl⟩

set_option maxRecDepth 10000 in
theorem keep_nob (a : Int) {w : World} {po : Option Addr} (h : Nob w po) :
    Calls Try.prog 29 #[.pointer po, .int .i64 a] w fun e w' => e = .returned (.int .i64 3) ∧ w' = w := by
  have HM := hide (markfault_nob a h)
  clear h
  go_enter Try.func29, Try.ntmps29
  go_wp2_with fail
  refine HM.out.mono ?_
  rintro e w1 ⟨rfl, rfl⟩
  go_wp2
  go_ret
  exact ⟨rfl, rfl⟩

theorem Nob.below {w w' : World} {po : Option Addr} (h : Nob w po) (hb : Below w.heap.size w w') : Nob w' po := by
  rcases h with h | ⟨p, h, c⟩
  · exact .inl h
  · exact .inr ⟨p, h, (hb.cell (p := ⟨p, 1, none⟩) (World.block_lt_of_cell? w _ c)).trans c⟩
theorem below_alloc (w : World) (o : Obj) : Below w.heap.size w (w.alloc o) := (Below.refl _ w).alloc (Nat.le_refl _) o
end Go.Proofs.Ytgeacmhofgnkfaa
