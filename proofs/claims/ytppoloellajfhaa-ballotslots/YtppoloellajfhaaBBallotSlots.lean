import Derived.Test.YtppoloellajfhaaBPc
import Derived.Test.YtppoloellajfhaaBPf
import Derived.Test.YtppoloellajfhaaBSlRow
namespace Go.Proofs.Ytppoloellajfhaa
open Go.RowKit

theorem ballotSlotsProof : Rows.BallotSlotsSaid := ballotSlots_of fun c low slot w hin hl _ => by
  rcases badOf_cases c with hk | ⟨k, hk⟩
  · exact slots_ok c w low slot hl (fun w a => PG w a c) (fun W => groups_ok c hin hk W) (fun _ _ _ h hb => h.kept hb)
      (fun W a h => (high_live low hl h (cf_ok hk)).mono fun _ _ ⟨h1, q, h2⟩ => ⟨h1, by rw [h2]; exact Go.below_drewN (Below.refl _ _) q⟩)
      (fun W a h => (inside_live low slot hl h (cf_ok hk)).mono fun _ _ ⟨h1, q, h2⟩ => ⟨h1, by rw [h2]; exact Go.below_drewN (Below.refl _ _) q⟩)
  · exact slots_bad c w low slot (fun W => groups_bad c hin k hk W)
      (fun W => (high_dead (low : Int) (.inl rfl)).mono fun _ _ h => ⟨h.1, by rw [h.2]; exact Below.refl _ _⟩)
      (fun W => (inside_dead low slot (.inl rfl)).mono fun _ _ h => ⟨h.1, by rw [h.2]; exact Below.refl _ _⟩)
end Go.Proofs.Ytppoloellajfhaa
