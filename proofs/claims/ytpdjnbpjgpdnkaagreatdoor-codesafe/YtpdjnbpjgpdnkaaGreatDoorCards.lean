/-
  DERIVED. GIVEN WITH THE SEED: THE CARDS: each row of YtpdjnbpjgpdnkaaGreatDoorRows.lean that lists a variable, with what it lists TIED to the program's text (the seventh form; the later family's looks); each row that meets fmt, with fmt's text TOLD by the authors' own Lean function (tested against real Go, not proved from fmt's source: count such statements apart). THE CARD IS WHAT COUNTS. Prove the row's statement (the work); the ties are given (YtpdjnbpjgpdnkaaGreatDoorTie.lean); close each card by the builder's one call (the guide's Derived/Test/ToyasCard.lean, 'card_holds'). Laid BY PROGRAM, IN A SANDBOX (cutbox-door.mjs). By AI agents, Wed Nov 11 2026. No macro, syntax, notation, axiom, sorry.
-/
import Derived.Test.YtpdjnbpjgpdnkaaGreatDoorRows
import GoSem.ClaimSeven
namespace Go.Proofs.YtpdjnbpjgpdnkaaGreatDoor
namespace Rows

/-- THE TIED CARD OF 'quorumlaw4.CodeFuel'. -/
def codeFuelCard : Claim7 := { stood := { row := codeFuelRow, standIns := [], harness := (true, "41a15ef78e6d43b427cf356a334c2bb49ba6563a6c0a72b7c287ddeaddd1204e"), looks := true }, kinds := [], alts := [], laidByText := true, laidKinds := [.handle, .data, .data, .data, .data, .data, .data, .data, .data], laidTests := true, laidLooks := .later }
def CodeFuelCardSaid : Prop := Claim7.holds Tryz.pinned (.plain (OpenSpec.ofChange codeFuelSpec)) codeFuelCard

/-- THE TIED CARD OF 'quorumlaw4.CodeSafe'. -/
def codeSafeCard : Claim7 := { stood := { row := codeSafeRow, standIns := [], harness := (true, "41a15ef78e6d43b427cf356a334c2bb49ba6563a6c0a72b7c287ddeaddd1204e"), looks := true }, kinds := [], alts := [], laidByText := true, laidKinds := [.handle, .data, .data, .data, .data, .data, .data, .data, .data], laidTests := true, laidLooks := .later }
def CodeSafeCardSaid : Prop := Claim7.holds Tryz.pinned (.plain (OpenSpec.ofChange codeSafeSpec)) codeSafeCard

/-- THE SECOND FORM's CARD OF 'quorumlaw4.CodeFuel'. -/
def codeFuelUptoCard : Claim7 := { stood := { row := codeFuelUptoRow, standIns := [], harness := (true, "41a15ef78e6d43b427cf356a334c2bb49ba6563a6c0a72b7c287ddeaddd1204e"), looks := true }, kinds := [], alts := [], laidByText := true, laidKinds := [.handle, .data, .data, .data, .data, .data, .data, .data, .data], laidTests := true, laidLooks := .later }
def CodeFuelUptoCardSaid : Prop := Claim7.holds Tryz.pinned (.plain (OpenSpec.upto codeFuelSpec)) codeFuelUptoCard

/-- THE SECOND FORM's CARD OF 'quorumlaw4.CodeSafe'. -/
def codeSafeUptoCard : Claim7 := { stood := { row := codeSafeUptoRow, standIns := [], harness := (true, "41a15ef78e6d43b427cf356a334c2bb49ba6563a6c0a72b7c287ddeaddd1204e"), looks := true }, kinds := [], alts := [], laidByText := true, laidKinds := [.handle, .data, .data, .data, .data, .data, .data, .data, .data], laidTests := true, laidLooks := .later }
def CodeSafeUptoCardSaid : Prop := Claim7.holds Tryz.pinned (.plain (OpenSpec.upto codeSafeSpec)) codeSafeUptoCard
end Rows
end Go.Proofs.YtpdjnbpjgpdnkaaGreatDoor
