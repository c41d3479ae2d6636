import Derived.Test.YtpdjnbpjgpdnkaaGreatDoorX34
import Derived.Test.YtpdjnbpjgpdnkaaGreatDoorX61
import Derived.Test.YtpdjnbpjgpdnkaaGreatDoorX62
import Derived.Deep.DeepCutAuto
namespace Go.Proofs.YtpdjnbpjgpdnkaaGreatDoor
open Go.RowKit

/-- So much more fuel. -/
def Ms.add (d : Int) (s : Ms) : Ms := { s with left := s.left + d }
section
variable {p : Pv} {k : Kn} {ek ev : Nat → Int} {hd : Int} {s : Ms}
end
end Go.Proofs.YtpdjnbpjgpdnkaaGreatDoor
namespace Go.Proofs.YtpdjnbpjgpdnkaaGreatDoor
open Go.RowKit

end Go.Proofs.YtpdjnbpjgpdnkaaGreatDoor
namespace Go.Proofs.YtpdjnbpjgpdnkaaGreatDoor
open Go.RowKit

end Go.Proofs.YtpdjnbpjgpdnkaaGreatDoor
namespace Go.Proofs.YtpdjnbpjgpdnkaaGreatDoor
open Go.RowKit

/-- Is it run? -/
def rnFL (p : Pv) (ev : Int) : Bool := match verF p with
 | .error _ => false
 | .ok _ => isPl ev 6
theorem rnFL_ok {p : Pv} {ev : Int} (h : rnFL p ev = true) : ∃ k, verF p = .ok k ∧ isPl ev 6 = true := by
 unfold rnFL at h
 cases hv : verF p with
 | error z => rw [hv] at h; cases h
 | ok k => rw [hv] at h; exact ⟨k, rfl, h⟩
theorem rnFL_no {p : Pv} {ev : Int} (h : rnFL p ev = false) : (∃ z, verF p = .error z) ∨ ∃ k, verF p = .ok k ∧ isPl ev 6 = false := by
 unfold rnFL at h
 cases hv : verF p with
 | error z => exact .inl ⟨z, rfl⟩
 | ok k => rw [hv] at h; exact .inr ⟨k, rfl, h⟩
end Go.Proofs.YtpdjnbpjgpdnkaaGreatDoor
