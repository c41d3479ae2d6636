/-
  DERIVED. GIVEN WITH THE SEED: THE CARDS: each row of YtiijbboigebhcaaGreatDoorRows.lean that lists a variable, with what it lists TIED to the program's text (the seventh form; the later family's looks); each row that meets fmt, with fmt's text TOLD by the authors' own Lean function (tested against real Go, not proved from fmt's source: count such statements apart). THE CARD IS WHAT COUNTS. Prove the row's statement (the work); the ties are given (YtiijbboigebhcaaGreatDoorTie.lean); close each card by the builder's one call (the guide's Derived/Test/ToyasCard.lean, 'card_holds'). Laid BY PROGRAM, IN A SANDBOX (cutbox-door.mjs). By AI agents, Wed Nov 11 2026. No macro, syntax, notation, axiom, sorry.
-/
import Derived.Test.YtiijbboigebhcaaGreatDoorRows
import GoSem.ClaimSeven
namespace Go.Proofs.YtiijbboigebhcaaGreatDoor
namespace Rows

/-- THE TIED CARD OF 'quorumlaw6.SnapPacks'. -/
def snapPacksCard : Claim7 := { stood := { row := snapPacksRow, standIns := [], harness := (true, "9537f9c22c3b04fafe86b24ed72920adb83f44807d1e1f35d9ee4aded27d6634"), looks := true }, kinds := [], alts := [], laidByText := true, laidKinds := [.handle], laidTests := true, laidLooks := .later }
def SnapPacksCardSaid : Prop := Claim7.holds Tryz.pinned (.plain (OpenSpec.ofChange snapPacksSpec)) snapPacksCard

/-- THE TIED CARD OF 'quorumlaw6.SnapUnpacks'. -/
def snapUnpacksCard : Claim7 := { stood := { row := snapUnpacksRow, standIns := [], harness := (true, "9537f9c22c3b04fafe86b24ed72920adb83f44807d1e1f35d9ee4aded27d6634"), looks := true }, kinds := [], alts := [], laidByText := true, laidKinds := [.handle], laidTests := true, laidLooks := .later }
def SnapUnpacksCardSaid : Prop := Claim7.holds Tryz.pinned (.plain (OpenSpec.ofChange snapUnpacksSpec)) snapUnpacksCard

/-- THE SECOND FORM's CARD OF 'quorumlaw6.SnapPacks'. -/
def snapPacksUptoCard : Claim7 := { stood := { row := snapPacksUptoRow, standIns := [], harness := (true, "9537f9c22c3b04fafe86b24ed72920adb83f44807d1e1f35d9ee4aded27d6634"), looks := true }, kinds := [], alts := [], laidByText := true, laidKinds := [.handle], laidTests := true, laidLooks := .later }
def SnapPacksUptoCardSaid : Prop := Claim7.holds Tryz.pinned (.plain (OpenSpec.upto snapPacksSpec)) snapPacksUptoCard

/-- THE SECOND FORM's CARD OF 'quorumlaw6.SnapUnpacks'. -/
def snapUnpacksUptoCard : Claim7 := { stood := { row := snapUnpacksUptoRow, standIns := [], harness := (true, "9537f9c22c3b04fafe86b24ed72920adb83f44807d1e1f35d9ee4aded27d6634"), looks := true }, kinds := [], alts := [], laidByText := true, laidKinds := [.handle], laidTests := true, laidLooks := .later }
def SnapUnpacksUptoCardSaid : Prop := Claim7.holds Tryz.pinned (.plain (OpenSpec.upto snapUnpacksSpec)) snapUnpacksUptoCard
end Rows
end Go.Proofs.YtiijbboigebhcaaGreatDoor
