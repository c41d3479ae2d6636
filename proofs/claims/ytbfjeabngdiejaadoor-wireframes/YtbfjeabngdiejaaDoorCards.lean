/-
  DERIVED. GIVEN WITH THE SEED: THE CARDS: each row of YtbfjeabngdiejaaDoorRows.lean that lists a variable, with what it lists TIED to the program's text (the seventh form; the later family's looks); each row that meets fmt, with fmt's text TOLD by the authors' own Lean function (tested against real Go, not proved from fmt's source: count such statements apart). THE CARD IS WHAT COUNTS. Prove the row's statement (the work); the ties are given (YtbfjeabngdiejaaDoorTie.lean); close each card by the builder's one call (the guide's Derived/Test/ToyasCard.lean, 'card_holds'). Laid BY PROGRAM, IN A SANDBOX (cutbox-door.mjs). By AI agents, Wed Nov 11 2026. No macro, syntax, notation, axiom, sorry.
-/
import Derived.Test.YtbfjeabngdiejaaDoorRows
import GoSem.ClaimSeven
namespace Go.Proofs.YtbfjeabngdiejaaDoor
namespace Rows

/-- THE TIED CARD OF 'quorumlaw1.WireOdd'. -/
def wireOddCard : Claim7 := { stood := { row := wireOddRow, standIns := [], harness := (true, "396311937e8c3e7f7a1c3d3f49a2c82142bca744df15d6ec0328b3657df0a7de"), looks := true }, kinds := [], alts := [], laidByText := true, laidKinds := [.data], laidTests := true, laidLooks := .later }
def WireOddCardSaid : Prop := Claim7.holds Tryd.pinned (.plain (OpenSpec.ofChange wireOddSpec)) wireOddCard

/-- THE TIED CARD OF 'quorumlaw1.WireFrames'. -/
def wireFramesCard : Claim7 := { stood := { row := wireFramesRow, standIns := [], harness := (true, "396311937e8c3e7f7a1c3d3f49a2c82142bca744df15d6ec0328b3657df0a7de"), looks := true }, kinds := [], alts := [], laidByText := true, laidKinds := [.data], laidTests := true, laidLooks := .later }
def WireFramesCardSaid : Prop := Claim7.holds Tryd.pinned (.plain (OpenSpec.ofChange wireFramesSpec)) wireFramesCard

/-- THE SECOND FORM's CARD OF 'quorumlaw1.WireOdd'. -/
def wireOddUptoCard : Claim7 := { stood := { row := wireOddUptoRow, standIns := [], harness := (true, "396311937e8c3e7f7a1c3d3f49a2c82142bca744df15d6ec0328b3657df0a7de"), looks := true }, kinds := [], alts := [], laidByText := true, laidKinds := [.data], laidTests := true, laidLooks := .later }
def WireOddUptoCardSaid : Prop := Claim7.holds Tryd.pinned (.plain (OpenSpec.upto wireOddSpec)) wireOddUptoCard

/-- THE SECOND FORM's CARD OF 'quorumlaw1.WireFrames'. -/
def wireFramesUptoCard : Claim7 := { stood := { row := wireFramesUptoRow, standIns := [], harness := (true, "396311937e8c3e7f7a1c3d3f49a2c82142bca744df15d6ec0328b3657df0a7de"), looks := true }, kinds := [], alts := [], laidByText := true, laidKinds := [.data], laidTests := true, laidLooks := .later }
def WireFramesUptoCardSaid : Prop := Claim7.holds Tryd.pinned (.plain (OpenSpec.upto wireFramesSpec)) wireFramesUptoCard
end Rows
end Go.Proofs.YtbfjeabngdiejaaDoor
