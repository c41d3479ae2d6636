/-
  DERIVED. GIVEN WITH THE SEED: THE CARDS: each row of YthacdhhmmmocpaaGreatDoorRows.lean that lists a variable, with what it lists TIED to the program's text (the seventh form; the later family's looks); each row that meets fmt, with fmt's text TOLD by the authors' own Lean function (tested against real Go, not proved from fmt's source: count such statements apart). THE CARD IS WHAT COUNTS. Prove the row's statement (the work); the ties are given (YthacdhhmmmocpaaGreatDoorTie.lean); close each card by the builder's one call (the guide's Derived/Test/ToyasCard.lean, 'card_holds'). Laid BY PROGRAM, IN A SANDBOX (cutbox-door.mjs). By AI agents, Wed Nov 11 2026. No macro, syntax, notation, axiom, sorry.
-/
import Derived.Test.YthacdhhmmmocpaaGreatDoorRows
import GoSem.ClaimSeven
namespace Go.Proofs.YthacdhhmmmocpaaGreatDoor
namespace Rows

/-- THE TIED CARD OF 'quorumlaw5.DealPacks'. -/
def dealPacksCard : Claim7 := { stood := { row := dealPacksRow, standIns := [], harness := (true, "5c542927801a62522516b05a8d547d4b1f9cb48c50138f202ef0e9f597091ef6"), looks := true }, kinds := [], alts := [], laidByText := true, laidKinds := [.handle], laidTests := true, laidLooks := .later }
def DealPacksCardSaid : Prop := Claim7.holds Tryz.pinned (.plain (OpenSpec.ofChange dealPacksSpec)) dealPacksCard

/-- THE SECOND FORM's CARD OF 'quorumlaw5.DealPacks'. -/
def dealPacksUptoCard : Claim7 := { stood := { row := dealPacksUptoRow, standIns := [], harness := (true, "5c542927801a62522516b05a8d547d4b1f9cb48c50138f202ef0e9f597091ef6"), looks := true }, kinds := [], alts := [], laidByText := true, laidKinds := [.handle], laidTests := true, laidLooks := .later }
def DealPacksUptoCardSaid : Prop := Claim7.holds Tryz.pinned (.plain (OpenSpec.upto dealPacksSpec)) dealPacksUptoCard
end Rows
end Go.Proofs.YthacdhhmmmocpaaGreatDoor
