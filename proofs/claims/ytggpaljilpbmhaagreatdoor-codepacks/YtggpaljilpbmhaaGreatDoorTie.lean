/-
  DERIVED. GIVEN WITH THE SEED: THE PROGRAM's TIES (one call each: nine closed facts by the kernel) AND EACH ROW's TIE, after the 31st guide's Derived/Test/Toyas{Tie, Card}.lean. No idea stands in it: it is a product of the set-up. Laid BY PROGRAM, IN A SANDBOX (cutbox-door.mjs). By AI agents, Wed Nov 11 2026. No macro, syntax, notation, axiom, sorry.
-/
import Derived.Test.YtggpaljilpbmhaaGreatDoorRows
import Derived.LaidByTextLater
import Derived.SevenTiedAt
import Derived.LaidSub
import Derived.LaidOnce
namespace Go.Proofs.YtggpaljilpbmhaaGreatDoor
open Go
set_option maxRecDepth 100000
theorem seatTie1 : Tryz.prog.laidByTextLater [("errors.errorType", Rows.laid_errors_errorType), ("quorum/terms.keywords", Rows.laid_quorum_terms_keywords), ("quorum/terms.operators", Rows.laid_quorum_terms_operators), ("quorum/terms.inputs", Rows.laid_quorum_terms_inputs), ("quorum/code.forms", Rows.laid_quorum_code_forms), ("quorum/code.inputs", Rows.laid_quorum_code_inputs), ("quorum/code.parties", Rows.laid_quorum_code_parties), ("quorum/code.operators", Rows.laid_quorum_code_operators), ("quorum/code.calls", Rows.laid_quorum_code_calls)] [.handle, .data, .data, .data, .data, .data, .data, .data, .data] true :=
  Program.laidByTextLater_by_one 131 8 100 (by kernel_rfl) (by kernel_rfl) (by kernel_rfl) (by kernel_rfl) (by kernel_rfl) (by kernel_rfl) (fun _ _ => by kernel_rfl)
theorem seatTie2 : Tryz.prog.laidByTextLater [("errors.errorType", Rows.laid_errors_errorType), ("quorum/code.forms", Rows.laid_quorum_code_forms), ("quorum/code.inputs", Rows.laid_quorum_code_inputs)] [.handle, .data, .data] true :=
  Program.laidByTextLater_by_one 131 8 100 (by kernel_rfl) (by kernel_rfl) (by kernel_rfl) (by kernel_rfl) (by kernel_rfl) (by kernel_rfl) (fun _ _ => by kernel_rfl)
theorem noOwnUnsafe : Tryz.pinned.checked.prog.headLifts.contains "ownunsafe" = false := by kernel_rfl
theorem tie : Tryz.prog.laidByTextLater [("errors.errorType", Rows.laid_errors_errorType), ("quorum/terms.keywords", Rows.laid_quorum_terms_keywords), ("quorum/terms.operators", Rows.laid_quorum_terms_operators), ("quorum/terms.inputs", Rows.laid_quorum_terms_inputs), ("quorum/code.forms", Rows.laid_quorum_code_forms), ("quorum/code.inputs", Rows.laid_quorum_code_inputs), ("quorum/code.parties", Rows.laid_quorum_code_parties), ("quorum/code.operators", Rows.laid_quorum_code_operators), ("quorum/code.calls", Rows.laid_quorum_code_calls)] [.handle, .data, .data, .data, .data, .data, .data, .data, .data] true :=
  Program.laidByTextLater.sub seatTie1 ["errors.errorType", "quorum/terms.keywords", "quorum/terms.operators", "quorum/terms.inputs", "quorum/code.forms", "quorum/code.inputs", "quorum/code.parties", "quorum/code.operators", "quorum/code.calls"] (by kernel_rfl) (by kernel_rfl)
theorem codeTidy_row_tie : Rows.codeTidyRow.laidByTextAt .later Tryz.pinned [.handle, .data, .data, .data, .data, .data, .data, .data, .data] true :=
  OpenClaim.laidByTextAt_later rfl rfl tie noOwnUnsafe
theorem codePacked_row_tie : Rows.codePackedRow.laidByTextAt .later Tryz.pinned [.handle, .data, .data, .data, .data, .data, .data, .data, .data] true :=
  OpenClaim.laidByTextAt_later rfl rfl tie noOwnUnsafe
theorem tie2 : Tryz.prog.laidByTextLater [("errors.errorType", Rows.laid_errors_errorType), ("quorum/code.forms", Rows.laid_quorum_code_forms), ("quorum/code.inputs", Rows.laid_quorum_code_inputs)] [.handle, .data, .data] true :=
  Program.laidByTextLater.sub seatTie2 ["errors.errorType", "quorum/code.forms", "quorum/code.inputs"] (by kernel_rfl) (by kernel_rfl)
theorem codePacks_row_tie : Rows.codePacksRow.laidByTextAt .later Tryz.pinned [.handle, .data, .data] true :=
  OpenClaim.laidByTextAt_later rfl rfl tie2 noOwnUnsafe
theorem codeTidyUpto_row_tie : Rows.codeTidyUptoRow.laidByTextAt .later Tryz.pinned [.handle, .data, .data, .data, .data, .data, .data, .data, .data] true :=
  OpenClaim.laidByTextAt_later rfl rfl tie noOwnUnsafe
theorem codePacksUpto_row_tie : Rows.codePacksUptoRow.laidByTextAt .later Tryz.pinned [.handle, .data, .data] true :=
  OpenClaim.laidByTextAt_later rfl rfl tie2 noOwnUnsafe
theorem codePackedUpto_row_tie : Rows.codePackedUptoRow.laidByTextAt .later Tryz.pinned [.handle, .data, .data, .data, .data, .data, .data, .data, .data] true :=
  OpenClaim.laidByTextAt_later rfl rfl tie noOwnUnsafe
end Go.Proofs.YtggpaljilpbmhaaGreatDoor
