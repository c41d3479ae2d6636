/-
  DERIVED. GIVEN WITH THE SEED: THE CARDS: each row of YtmoklddfaocihaaDoorRows.lean that lists a variable, with what it lists TIED to the program's text (the seventh form; the later family's looks); each row that meets fmt, with fmt's text TOLD by the authors' own Lean function (tested against real Go, not proved from fmt's source: count such statements apart). THE CARD IS WHAT COUNTS. Prove the row's statement (the work); the ties are given (YtmoklddfaocihaaDoorTie.lean); close each card by the builder's one call (the guide's Derived/Test/ToyasCard.lean, 'card_holds'). Laid BY PROGRAM, IN A SANDBOX (cutbox-door.mjs). By AI agents, Wed Nov 11 2026. No macro, syntax, notation, axiom, sorry.
-/
import Derived.Test.YtmoklddfaocihaaDoorRows
import GoSem.ClaimSeven
namespace Go.Proofs.YtmoklddfaocihaaDoor
namespace Rows

/-- THE TIED CARD OF 'quorumlaw4.CodeTidies'. -/
def codeTidiesCard : Claim7 := { stood := { row := codeTidiesRow, standIns := [], harness := (true, "acb5efe2473024ac4016c1b322c38413c32ce96fecc72f52a981bc6bd09cfb90"), looks := true }, kinds := [], alts := [], laidByText := true, laidKinds := [.data, .data], laidTests := true, laidLooks := .later }
def CodeTidiesCardSaid : Prop := Claim7.holds Tryd.pinned (.plain (OpenSpec.ofChange codeTidiesSpec)) codeTidiesCard

/-- THE TIED CARD OF 'quorumlaw4.CodeRuns'. -/
def codeRunsCard : Claim7 := { stood := { row := codeRunsRow, standIns := [], harness := (true, "acb5efe2473024ac4016c1b322c38413c32ce96fecc72f52a981bc6bd09cfb90"), looks := true }, kinds := [], alts := [], laidByText := true, laidKinds := [.data, .data], laidTests := true, laidLooks := .later }
def CodeRunsCardSaid : Prop := Claim7.holds Tryd.pinned (.plain (OpenSpec.ofChange codeRunsSpec)) codeRunsCard

/-- THE TIED CARD OF 'quorumlaw4.CodeSteps'. -/
def codeStepsCard : Claim7 := { stood := { row := codeStepsRow, standIns := [], harness := (true, "acb5efe2473024ac4016c1b322c38413c32ce96fecc72f52a981bc6bd09cfb90"), looks := true }, kinds := [], alts := [], laidByText := true, laidKinds := [.data, .data], laidTests := true, laidLooks := .later }
def CodeStepsCardSaid : Prop := Claim7.holds Tryd.pinned (.plain (OpenSpec.ofChange codeStepsSpec)) codeStepsCard

/-- THE SECOND FORM's CARD OF 'quorumlaw4.CodeTidies'. -/
def codeTidiesUptoCard : Claim7 := { stood := { row := codeTidiesUptoRow, standIns := [], harness := (true, "acb5efe2473024ac4016c1b322c38413c32ce96fecc72f52a981bc6bd09cfb90"), looks := true }, kinds := [], alts := [], laidByText := true, laidKinds := [.data, .data], laidTests := true, laidLooks := .later }
def CodeTidiesUptoCardSaid : Prop := Claim7.holds Tryd.pinned (.plain (OpenSpec.upto codeTidiesSpec)) codeTidiesUptoCard

/-- THE SECOND FORM's CARD OF 'quorumlaw4.CodeRuns'. -/
def codeRunsUptoCard : Claim7 := { stood := { row := codeRunsUptoRow, standIns := [], harness := (true, "acb5efe2473024ac4016c1b322c38413c32ce96fecc72f52a981bc6bd09cfb90"), looks := true }, kinds := [], alts := [], laidByText := true, laidKinds := [.data, .data], laidTests := true, laidLooks := .later }
def CodeRunsUptoCardSaid : Prop := Claim7.holds Tryd.pinned (.plain (OpenSpec.upto codeRunsSpec)) codeRunsUptoCard

/-- THE SECOND FORM's CARD OF 'quorumlaw4.CodeSteps'. -/
def codeStepsUptoCard : Claim7 := { stood := { row := codeStepsUptoRow, standIns := [], harness := (true, "acb5efe2473024ac4016c1b322c38413c32ce96fecc72f52a981bc6bd09cfb90"), looks := true }, kinds := [], alts := [], laidByText := true, laidKinds := [.data, .data], laidTests := true, laidLooks := .later }
def CodeStepsUptoCardSaid : Prop := Claim7.holds Tryd.pinned (.plain (OpenSpec.upto codeStepsSpec)) codeStepsUptoCard
end Rows
end Go.Proofs.YtmoklddfaocihaaDoor
