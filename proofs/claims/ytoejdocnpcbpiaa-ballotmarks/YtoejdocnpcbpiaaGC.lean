import Derived.Test.YtoejdocnpcbpiaaGB
namespace Go.Proofs.Ytoejdocnpcbpiaa
open Go.RowKit

set_option maxRecDepth 10000 in
set_option maxHeartbeats 800000 in
theorem collect_any (Bn : Nat) (ao : Option Addr) (cap b off : Nat) (xs : List Nat) (hxl : xs.length ≤ 1000000) (w : World) (hBn : Bn < w.heap.size) (hc : w.cell? ⟨Bn, 0, none⟩ = some (.slice ao xs.length cap)) (had : 0 < xs.length → ao = some ⟨b, off, none⟩) (hbw : 0 < xs.length → b < w.heap.size) (hU : Us w b off xs) :
    Calls Try.prog 17 #[.func (.func 19) #[] #[.pointer (some ⟨Bn, 0, none⟩)]] w fun e w' => ∃ v, e = .returned v ∧ Hid (w'.ownsRow w.heap.size 23 1 v xs.length (xs.map encU) ∧ Below w.heap.size w w') := by
  have HA := hide (appendSeq_any Bn ao cap b off xs hxl w hBn hc had hbw hU)
  clear hc had hbw hU
  go_enter Try.func17, Try.ntmps17
  go_wp2_with fail
  refine HA.out.mono ?_
  rintro e w2 ⟨v, rfl, G2⟩
  go_wp2
  go_ret
  exact ⟨v, rfl, G2⟩
set_option maxRecDepth 10000 in
set_option maxHeartbeats 800000 in
theorem isNaN_any (x : Int) (w : World) : Calls Try.prog 39 #[.int .u64 x] w fun e w' => e = .returned (.bool false) ∧ w' = w := by
  go_enter Try.func39, Try.ntmps39
  go_wp2
  go_ret
  exact ⟨rfl, rfl⟩
set_option maxRecDepth 10000 in
set_option maxHeartbeats 800000 in
theorem cless_any (x y : Int) (w : World) : Calls Try.prog 29 #[.int .u64 x, .int .u64 y] w fun e w' => e = .returned (.bool (decide (x < y))) ∧ w' = w := by
  have HN := hide isNaN_any
  go_enter Try.func29, Try.ntmps29
  go_wp2_with (go_at_call 39; refine (HN.out _ _).mono ?_; rintro e w' ⟨rfl, rfl⟩)
  go_ret
  exact ⟨rfl, rfl⟩
end Go.Proofs.Ytoejdocnpcbpiaa
