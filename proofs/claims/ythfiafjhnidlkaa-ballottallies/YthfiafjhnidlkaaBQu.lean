import Derived.Test.YthfiafjhnidlkaaBGrp
namespace Go.Proofs.Ythfiafjhnidlkaa
open Go.RowKit

set_option maxRecDepth 10000 in
set_option maxHeartbeats 400000 in
theorem refQuorum {w : World} {p : Nat} {c : Cf} (h : RefG w p c) :
    Calls Try.prog 51 #[.pointer (some ⟨p, 0, none⟩)] w fun e w' => e = .returned (.int .i64 (c.f + 1)) ∧ w' = w := by
  have h1 := h.cf
  have g1 := h.ok.f1
  have g3 := h.ok.f3
  clear h
  generalize c.f = f at *
  go_enter Try.func51, Try.ntmps51
  go_wp2
  go_ret
  exact ⟨rfl, rfl⟩
end Go.Proofs.Ythfiafjhnidlkaa
