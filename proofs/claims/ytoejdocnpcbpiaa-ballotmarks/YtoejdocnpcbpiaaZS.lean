import Derived.Test.YtoejdocnpcbpiaaZB
namespace Go.Proofs.Ytoejdocnpcbpiaa
open Go.RowKit

set_option maxRecDepth 10000 in
set_option maxHeartbeats 800000 in
/-- slices.Sort of 1 to 255 numbers. -/
theorem sortZ (B g cap n : Nat) (D0 : Nat → Nat) (h0 : 0 < n) (hn : n < 256) (w : World) (hr : RowF w g cap n D0) (hB : B ≤ g) :
    Calls Try.prog 18 #[.slice (some ⟨g, 0, none⟩) n cap] w fun e w' => e = .returned (.tuple #[]) ∧ Hid (∃ D, SortR 0 n D ∧ ZS B w g cap n 0 n D0 w' D) := by
  obtain ⟨v, _, _, hv⟩ := lenZ n h0 hn
  have HL := hide (hv w)
  have H : Hid (∀ lim : Int, Calls Try.prog 21 #[.slice (some ⟨g, 0, none⟩) n cap, .int .i64 0, .int .i64 (n : Nat), .int .i64 lim] w fun e w' => e = .returned (.tuple #[]) ∧ Hid (∃ D, SortR 0 n D ∧ ZS B w g cap n 0 n D0 w' D)) := fun lim => pdqZ B g cap n (by omega) hB (breakZ B g cap n hn hB) n 0 n lim D0 w (by omega) (by omega) (Nat.le_refl _) hr (.inl rfl)
  have hw : IntKind.u64.wrap (n : Int) = (n : Int) := IntWalk.u64_in _ ⟨by omega, by omega⟩
  clear hr hB hv
  go_enter Try.func18, Try.ntmps18
  go_wp2_with fail
  refine HL.out.mono ?_
  rintro e w1 ⟨rfl, rfl⟩
  go_wp2_with fail
  refine (H.out _).mono ?_
  rintro e w2 ⟨rfl, G2⟩
  go_wp2
  go_end0
  exact ⟨rfl, G2⟩
end Go.Proofs.Ytoejdocnpcbpiaa
