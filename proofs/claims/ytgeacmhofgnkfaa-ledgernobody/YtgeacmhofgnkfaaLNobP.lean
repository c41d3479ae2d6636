import Derived.Test.YtgeacmhofgnkfaaLNobJ
import Derived.Test.YtgeacmhofgnkfaaLNobM
import Derived.Test.YtgeacmhofgnkfaaLNobO
import Derived.RangeFuncNested
import Derived.RangeFuncBound
import Derived.RangeFuncCalls
import Derived.RangeFuncLeaves
import Derived.RangeFuncFrom
import Derived.Shelf.Abstract
import Derived.Shelf.RegionOpen
import Derived.OwnWalkIn
import Derived.TacticsInMore
import Derived.LoopNIn
import Derived.LoopIn
namespace Go.Proofs.Ytgeacmhofgnkfaa
open Go.RowKit Go.Shelf

set_option maxRecDepth 10000 in
theorem accounts_any (w : World) (po : Option Addr) :
    Calls Try.prog 10 #[.pointer po] w fun e w' => e = .returned (.func (.func 32) #[] #[.pointer (some ⟨w.heap.size, 0, none⟩)]) ∧ w' = w.alloc (.cells #[.pointer po] 23) := by
  go_enter Try.func10, Try.ntmps10
  go_wp2
  go_ret
  exact ⟨rfl, rfl⟩

set_option maxRecDepth 10000 in
theorem iter_nob {w : World} {po : Option Addr} (h : Nob w po) (l B : Nat) (hB : w.cell? ⟨B, 0, none⟩ = some (.pointer po)) :
    Calls Try.prog 32 #[.func (.yield l) #[] #[], .pointer (some ⟨B, 0, none⟩)] w fun e w' => (∃ v, e = .returned v) ∧ w' = w := by
  have HM := hide (made_nob h)
  clear h
  go_enter Try.func32, Try.ntmps32
  go_wp2_with fail
  refine HM.out.mono ?_
  rintro e w1 ⟨rfl, rfl⟩
  go_wp2
  refine bodyPost_ret (v := .tuple #[]) (by simp [results, Try.results32, go_sem]) rfl ⟨⟨_, rfl⟩, rfl⟩

theorem iter_stops (n : Nat) {w : World} {po : Option Addr} (h : Nob w po) (B : Nat) (hB : w.cell? ⟨B, 0, none⟩ = some (.pointer po)) :
    SeqStopsK (α := Empty) Fence.wide n Try.prog 32 #[.pointer (some ⟨B, 0, none⟩)] (fun x => x.elim) (Below w.heap.size) (fun xs => xs = []) (fun _ => False) 0 w := by
  intro l J Jx W hW _ _ _ h0
  refine callsIn_wide.2 ((iter_nob (h.below hW) l B ((hW.cell (p := ⟨B, 0, none⟩) (World.block_lt_of_cell? w _ hB)).trans hB)).mono ?_)
  rintro e w' ⟨hv, rfl⟩
  exact ⟨hv, .inl ⟨[], rfl, h0⟩⟩
end Go.Proofs.Ytgeacmhofgnkfaa
