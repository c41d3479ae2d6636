import Derived.Test.YtcagbggnlfeadaaGreatDoorWnD
import Derived.RangeFuncNested
import Derived.RangeFuncBound
import Derived.RangeFuncCalls
import Derived.RangeFuncLeaves
import Derived.RangeFuncFrom
import Derived.Shelf.Abstract
import Derived.Shelf.RegionOpen
import Derived.OwnWalkIn
import Derived.TacticsInMore
import Derived.LoopNIn
import Derived.LoopIn
namespace Go.Proofs.YtcagbggnlfeadaaGreatDoor
open Go.RowKit Crc Go.Shelf

set_option maxRecDepth 10000 in
theorem len64Z_0 (w : World) : Calls Tryz.prog 84 #[.int .u64 0] w fun e w' => e = .returned (.int .i64 0) ∧ w' = w := by
  go_enter Tryz.func84, Tryz.ntmps84
  go_wp2
  go_ret
  exact ⟨by kernel_rfl, rfl⟩
set_option maxRecDepth 10000 in
theorem lenZ_0 (w : World) : Calls Tryz.prog 68 #[.int .u64 0] w fun e w' => e = .returned (.int .i64 0) ∧ w' = w := by
  have H := hide (len64Z_0 w)
  go_enter Tryz.func68, Tryz.ntmps68
  go_wp2_with fail
  refine H.out.mono ?_
  rintro e w' ⟨rfl, rfl⟩
  go_wp2
  go_ret
  exact ⟨rfl, rfl⟩
set_option maxRecDepth 10000 in
theorem isort_none (ao : Option Addr) (cap : Nat) (w : World) : Calls Tryz.prog 74 #[.slice ao 0 cap, .int .i64 0, .int .i64 0] w fun e w' => e = .returned (.tuple #[]) ∧ w' = w := by
  go_enter Tryz.func74, Tryz.ntmps74
  go_wp2
  refine wp_loop_rounds 1 ?_
  rw [rounds_succ]
  go_wp2
  go_end0
  exact ⟨rfl, rfl⟩
set_option maxRecDepth 10000 in
theorem pdq_none (ao : Option Addr) (cap : Nat) (w : World) : Calls Tryz.prog 67 #[.slice ao 0 cap, .int .i64 0, .int .i64 0, .int .i64 0] w fun e w' => e = .returned (.tuple #[]) ∧ w' = w := by
  have H := hide (isort_none ao cap w)
  go_enter Tryz.func67, Tryz.ntmps67
  go_wp2
  refine wp_loop_rounds 1 ?_
  rw [rounds_succ]
  go_wp2_with fail
  refine H.out.mono ?_
  rintro e w' ⟨rfl, rfl⟩
  go_wp2
  refine bodyPost_ret (v := .tuple #[]) (by simp [results, Tryz.results67, go_sem]) rfl ?_
  exact ⟨rfl, rfl⟩
set_option maxRecDepth 10000 in
/-- Sort of nothing. -/
theorem sort_none (ao : Option Addr) (cap : Nat) (w : World) : Calls Tryz.prog 58 #[.slice ao 0 cap] w fun e w' => e = .returned (.tuple #[]) ∧ w' = w := by
  have HL := hide (lenZ_0 w)
  have H := hide (pdq_none ao cap w)
  go_enter Tryz.func58, Tryz.ntmps58
  go_wp2_with fail
  refine HL.out.mono ?_
  rintro e w1 ⟨rfl, rfl⟩
  go_wp2_with fail
  refine H.out.mono ?_
  rintro e w2 ⟨rfl, rfl⟩
  go_wp2
  go_end0
  exact ⟨rfl, rfl⟩
theorem Tryz.infoU : (Tryz.prog.info? 28).map (fun i => (i.zero, i.size, i.bytes)) = some (some (.int .u64 0), 1, 8) := by kernel_rfl
set_option maxRecDepth 10000 in
set_option maxHeartbeats 800000 in
theorem numbersF {lim : Nat} {W : World} {p m : Nat} {v : Value} {b : Bool} (h : FD lim W p m 0 v b) : Calls Tryz.prog 49 #[.pointer (some ⟨p, 0, none⟩)] W fun e w' => ∃ a c, e = .returned (.slice a 0 c) ∧ Hid (Below W.heap.size W w') := by
  obtain ⟨i0, hi, hz0, hz1, hz2⟩ := info_parts Tryz.infoU
  obtain ⟨q0, q1, ql⟩ := h.cells
  have hlen := h.len
  obtain ⟨D, hD, hsz, -, -⟩ := h.map
  have HD := hide hD
  have HSZ := hide hsz
  have HQ := hide q0
  clear h hD hsz q1
  go_enter Tryz.func49, Tryz.ntmps49
  go_wp2_with (first
    | (at_make; refine wpList_make_own _ rfl _ _ 93 rfl W.heap.size 28 i0 (.int .u64 0) 1 Tryz.underlying93 hi hz0 hz1 .i64 .i64 _ 0 rfl rfl (by omega) (by rw [hz2]; omega) (by unfold maxLen; omega) (Nat.le_refl _) ?_; intro w0 hown0 hgrow0; have HB0 : Hid (Below W.heap.size W w0) := (Below.refl _ _).grown hgrow0 (Nat.le_refl _) (fun k h => by cases h); have r0 := (HB0.out.cell (p := ⟨p, 0, none⟩) ql).trans HQ.out; have rl := Nat.lt_of_lt_of_le ql HB0.out.size; clear hown0 hgrow0 q0 ql hlen)
    | (at_range; refine wpList_range_own _ rfl _ 25 rfl 28 71 KDw Tryz.underlying25 RVw m 0 D rfl (HD.out.kept (below_none HB0.out) (by simp)) ?_; intro w1 hrg1 hg1 hs1))
  refine wp_loop_rounds 1 ?_
  rw [rounds_succ]
  have HB1 : Hid (Below W.heap.size W w1) := HB0.out.grown hg1 HB0.out.size (fun k h => by cases h)
  have HS1 := hide hrg1
  clear hrg1 hg1 hs1
  go_wp2_with (at_next; refine wpList_next_ranges _ rfl _ rfl 28 KDw RVw (Value.int .u64) (id : Value → Value) (fun key kl hkey => by obtain ⟨x, rfl, _⟩ := Maps.keyOf_int_inv Tryz.underlying28 hkey; exact ⟨x, rfl⟩) (fun v _ _ => ⟨v, rfl⟩) m w0.heap.size 0 _ _ _ rfl HS1.out (fun _ _ => ?_) (fun _ _ _ _ _ _ _ _ _ _ _ hlt => by have h0 := HSZ.out; rw [h0] at hlt; exact absurd hlt (Nat.not_lt_zero _)))
  refine (sort_none _ _ _).mono ?_
  rintro e w2 ⟨rfl, rfl⟩
  go_wp2
  go_ret
  exact ⟨_, _, rfl, HB1⟩
set_option maxRecDepth 10000 in
theorem backward_any (w : World) (a : Option Addr) (n c : Nat) :
    Calls Tryz.prog 51 #[.slice a n c] w fun e w' => e = .returned (.func (.func 61) #[] #[.pointer (some ⟨w.heap.size, 0, none⟩)]) ∧ w' = w.alloc (.cells #[.slice a n c] 93) := by
  go_enter Tryz.func51, Tryz.ntmps51
  go_wp2
  go_ret
  exact ⟨rfl, rfl⟩
set_option maxRecDepth 10000 in
theorem iter_noneW {w : World} (l B : Nat) {a : Option Addr} {c : Nat} (hB : w.cell? ⟨B, 0, none⟩ = some (.slice a 0 c)) :
    Calls Tryz.prog 61 #[.func (.yield l) #[] #[], .pointer (some ⟨B, 0, none⟩)] w fun e w' => (∃ v, e = .returned v) ∧ w' = w := by
  have hl := World.block_lt_of_cell? w _ hB
  go_enter Tryz.func61, Tryz.ntmps61
  go_wp2
  refine wp_loop_rounds 1 ?_
  rw [rounds_succ]
  go_wp2
  go_end0
  exact ⟨⟨_, rfl⟩, rfl⟩
theorem iter_stopsW (n : Nat) {w : World} (B : Nat) {a : Option Addr} {c : Nat} (hB : w.cell? ⟨B, 0, none⟩ = some (.slice a 0 c)) :
    SeqStopsK (α := Empty) Fence.wide n Tryz.prog 61 #[.pointer (some ⟨B, 0, none⟩)] (fun x => x.elim) (Below w.heap.size) (fun xs => xs = []) (fun _ => False) 0 w := by
  intro l J Jx W hW _ _ _ h0
  refine callsIn_wide.2 ((iter_noneW l B ((hW.cell (p := ⟨B, 0, none⟩) (World.block_lt_of_cell? w _ hB)).trans hB)).mono ?_)
  rintro e w' ⟨hv, rfl⟩
  exact ⟨hv, .inl ⟨[], rfl, h0⟩⟩
end Go.Proofs.YtcagbggnlfeadaaGreatDoor
