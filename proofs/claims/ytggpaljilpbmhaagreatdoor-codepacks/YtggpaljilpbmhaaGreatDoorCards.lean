/-
  DERIVED. GIVEN WITH THE SEED: THE CARDS: each row of YtggpaljilpbmhaaGreatDoorRows.lean that lists a variable, with what it lists TIED to the program's text (the seventh form; the later family's looks); each row that meets fmt, with fmt's text TOLD by the authors' own Lean function (tested against real Go, not proved from fmt's source: count such statements apart). THE CARD IS WHAT COUNTS. Prove the row's statement (the work); the ties are given (YtggpaljilpbmhaaGreatDoorTie.lean); close each card by the builder's one call (the guide's Derived/Test/ToyasCard.lean, 'card_holds'). Laid BY PROGRAM, IN A SANDBOX (cutbox-door.mjs). By AI agents, Wed Nov 11 2026. No macro, syntax, notation, axiom, sorry.
-/
import Derived.Test.YtggpaljilpbmhaaGreatDoorRows
import GoSem.ClaimSeven
namespace Go.Proofs.YtggpaljilpbmhaaGreatDoor
namespace Rows

/-- THE TIED CARD OF 'quorumlaw4.CodeTidy'. -/
def codeTidyCard : Claim7 := { stood := { row := codeTidyRow, standIns := [], harness := (true, "d3388e517531322a8b3625e83fd6897b6a71eb143bcabc71f05f5dbe07218c60"), looks := true }, kinds := [], alts := [], laidByText := true, laidKinds := [.handle, .data, .data, .data, .data, .data, .data, .data, .data], laidTests := true, laidLooks := .later }
def CodeTidyCardSaid : Prop := Claim7.holds Tryz.pinned (.plain (OpenSpec.ofChange codeTidySpec)) codeTidyCard

/-- THE TIED CARD OF 'quorumlaw4.CodePacks'. -/
def codePacksCard : Claim7 := { stood := { row := codePacksRow, standIns := [], harness := (true, "d3388e517531322a8b3625e83fd6897b6a71eb143bcabc71f05f5dbe07218c60"), looks := true }, kinds := [], alts := [], laidByText := true, laidKinds := [.handle, .data, .data], laidTests := true, laidLooks := .later }
def CodePacksCardSaid : Prop := Claim7.holds Tryz.pinned (.plain (OpenSpec.ofChange codePacksSpec)) codePacksCard

/-- THE TIED CARD OF 'quorumlaw4.CodePacked'. -/
def codePackedCard : Claim7 := { stood := { row := codePackedRow, standIns := [], harness := (true, "d3388e517531322a8b3625e83fd6897b6a71eb143bcabc71f05f5dbe07218c60"), looks := true }, kinds := [], alts := [], laidByText := true, laidKinds := [.handle, .data, .data, .data, .data, .data, .data, .data, .data], laidTests := true, laidLooks := .later }
def CodePackedCardSaid : Prop := Claim7.holds Tryz.pinned (.plain (OpenSpec.ofChange codePackedSpec)) codePackedCard

/-- THE SECOND FORM's CARD OF 'quorumlaw4.CodeTidy'. -/
def codeTidyUptoCard : Claim7 := { stood := { row := codeTidyUptoRow, standIns := [], harness := (true, "d3388e517531322a8b3625e83fd6897b6a71eb143bcabc71f05f5dbe07218c60"), looks := true }, kinds := [], alts := [], laidByText := true, laidKinds := [.handle, .data, .data, .data, .data, .data, .data, .data, .data], laidTests := true, laidLooks := .later }
def CodeTidyUptoCardSaid : Prop := Claim7.holds Tryz.pinned (.plain (OpenSpec.upto codeTidySpec)) codeTidyUptoCard

/-- THE SECOND FORM's CARD OF 'quorumlaw4.CodePacks'. -/
def codePacksUptoCard : Claim7 := { stood := { row := codePacksUptoRow, standIns := [], harness := (true, "d3388e517531322a8b3625e83fd6897b6a71eb143bcabc71f05f5dbe07218c60"), looks := true }, kinds := [], alts := [], laidByText := true, laidKinds := [.handle, .data, .data], laidTests := true, laidLooks := .later }
def CodePacksUptoCardSaid : Prop := Claim7.holds Tryz.pinned (.plain (OpenSpec.upto codePacksSpec)) codePacksUptoCard

/-- THE SECOND FORM's CARD OF 'quorumlaw4.CodePacked'. -/
def codePackedUptoCard : Claim7 := { stood := { row := codePackedUptoRow, standIns := [], harness := (true, "d3388e517531322a8b3625e83fd6897b6a71eb143bcabc71f05f5dbe07218c60"), looks := true }, kinds := [], alts := [], laidByText := true, laidKinds := [.handle, .data, .data, .data, .data, .data, .data, .data, .data], laidTests := true, laidLooks := .later }
def CodePackedUptoCardSaid : Prop := Claim7.holds Tryz.pinned (.plain (OpenSpec.upto codePackedSpec)) codePackedUptoCard
end Rows
end Go.Proofs.YtggpaljilpbmhaaGreatDoor
