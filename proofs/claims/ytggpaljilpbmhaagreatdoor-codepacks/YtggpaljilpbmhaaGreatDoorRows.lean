/-
  NARROWER THAN 'FOR EVERY INPUT', by the rows' own cells (each row's printed sentence says how): CodeTidy: laid · CodePacks: laid · CodePacked: laid.
  DERIVED. THE GIVEN ROWS OF THIS SEAT. 3 by the template 'for every input the law returns true; each argument reads behind the call as it read before'; 0 by the template 'total and deterministic' (their statements: YtggpaljilpbmhaaGreatDoorTotals.lean).
  GIVEN WITH THE SEED: the statements are not yours to turn. If you find one false, say at which input.
  Laid BY PROGRAM, IN A SANDBOX (cutbox-rows.mjs): the forced cells as the released guide's own fill.sh prints them over the translation 24e3981d57e921fe… (all of the seat's roots in one cut). By AI agents, Wed Nov 11 2026. No macro, syntax, notation, axiom, sorry.
-/
import Derived.Test.YtggpaljilpbmhaaGreatDoorChecked
import GoSem.Claim
import GoSem.ClaimJoined
import GoSem.ClaimMapViews
import Derived.JoinedTies
import Derived.KernelRfl
namespace Go.Proofs.YtggpaljilpbmhaaGreatDoor
/- THE CELL 'sum', in the pinned program and in every row, IS THE sha256 OF THE DUMP (.gsa) THAT YtggpaljilpbmhaaGreatDoorProg.lean LOADS. Nothing in Lean hashes anything: it is a label: what it is worth is what the hold of that sum in a sandbox is worth. -/
noncomputable def Tryz.pinned : Pinned := { name := "ytggpaljilpbmhaagreatdoor", sum := "24e3981d57e921fe3651d841985f3836e5ac07cf319ffd0967f72914f6a79241", checked := Tryz.checked }
namespace Rows
def none {H : Type} : Left H := { results := [], args := [] }

/- WHAT THE LISTED PACKAGE-LEVEL VARIABLES READ AS WHEN THE CALL BEGINS. Each datum BY PROGRAM (the guide's laid-datum.mjs) off the statement by which the dump's own 'gosem.cut.vars' lays the variable. In a bare row this is a premise. The card (YtggpaljilpbmhaaGreatDoorCards.lean) ties it to the program's text. -/
def laid_errors_errorType {H : Type} : DataW H := .iface "internal/reflectlite.rtype" (.agg [.ptr (.lit (.string [101, 114, 114, 111, 114]))])
def laid_quorum_terms_keywords {H : Type} : DataW H := .agg [.lit (.string [111, 110]), .lit (.string [102, 117, 110, 100]), .lit (.string [114, 101, 108, 101, 97, 115, 101]), .lit (.string [100, 105, 115, 112, 117, 116, 101]), .lit (.string [97, 114, 98, 105, 116, 114, 97, 116, 101]), .lit (.string [114, 101, 102, 117, 110, 100]), .lit (.string [101, 120, 112, 105, 114, 101]), .lit (.string [108, 101, 116]), .lit (.string [115, 101, 116]), .lit (.string [105, 102]), .lit (.string [101, 108, 115, 101]), .lit (.string [119, 104, 105, 108, 101]), .lit (.string [98, 114, 101, 97, 107]), .lit (.string [99, 111, 110, 116, 105, 110, 117, 101]), .lit (.string [114, 101, 113, 117, 105, 114, 101]), .lit (.string [112, 97, 121]), .lit (.string [116, 111]), .lit (.string [102, 97, 105, 108]), .lit (.string [100, 111, 110, 101]), .lit (.string [116, 114, 117, 101]), .lit (.string [102, 97, 108, 115, 101]), .lit (.string [110, 111, 116]), .lit (.string [97, 110, 100]), .lit (.string [111, 114]), .lit (.string [109, 105, 110]), .lit (.string [109, 97, 120]), .lit (.string [115, 104, 97, 114, 101])]
def laid_quorum_terms_operators {H : Type} : DataW H := .agg [.agg [.lit (.string [111, 114]), .lit (.int .i64 1), .lit (.int .i64 1), .lit (.int .i64 2), .lit (.int .i64 2), .lit (.int .i64 2)], .agg [.lit (.string [97, 110, 100]), .lit (.int .i64 2), .lit (.int .i64 2), .lit (.int .i64 3), .lit (.int .i64 2), .lit (.int .i64 2)], .agg [.lit (.string [61, 61]), .lit (.int .i64 4), .lit (.int .i64 5), .lit (.int .i64 5), .lit (.int .i64 0), .lit (.int .i64 2)], .agg [.lit (.string [33, 61]), .lit (.int .i64 4), .lit (.int .i64 5), .lit (.int .i64 5), .lit (.int .i64 0), .lit (.int .i64 2)], .agg [.lit (.string [60]), .lit (.int .i64 4), .lit (.int .i64 5), .lit (.int .i64 5), .lit (.int .i64 1), .lit (.int .i64 2)], .agg [.lit (.string [60, 61]), .lit (.int .i64 4), .lit (.int .i64 5), .lit (.int .i64 5), .lit (.int .i64 1), .lit (.int .i64 2)], .agg [.lit (.string [62]), .lit (.int .i64 4), .lit (.int .i64 5), .lit (.int .i64 5), .lit (.int .i64 1), .lit (.int .i64 2)], .agg [.lit (.string [62, 61]), .lit (.int .i64 4), .lit (.int .i64 5), .lit (.int .i64 5), .lit (.int .i64 1), .lit (.int .i64 2)], .agg [.lit (.string [43]), .lit (.int .i64 5), .lit (.int .i64 5), .lit (.int .i64 6), .lit (.int .i64 1), .lit (.int .i64 1)], .agg [.lit (.string [45]), .lit (.int .i64 5), .lit (.int .i64 5), .lit (.int .i64 6), .lit (.int .i64 1), .lit (.int .i64 1)], .agg [.lit (.string [42]), .lit (.int .i64 6), .lit (.int .i64 6), .lit (.int .i64 7), .lit (.int .i64 1), .lit (.int .i64 1)], .agg [.lit (.string [47]), .lit (.int .i64 6), .lit (.int .i64 6), .lit (.int .i64 7), .lit (.int .i64 1), .lit (.int .i64 1)], .agg [.lit (.string [37]), .lit (.int .i64 6), .lit (.int .i64 6), .lit (.int .i64 7), .lit (.int .i64 1), .lit (.int .i64 1)]]
def laid_quorum_terms_inputs {H : Type} : DataW H := .agg [.agg [.lit (.string [98, 117, 121, 101, 114]), .lit (.int .i64 1)], .agg [.lit (.string [115, 101, 108, 108, 101, 114]), .lit (.int .i64 1)], .agg [.lit (.string [97, 114, 98, 105, 116, 101, 114]), .lit (.int .i64 1)], .agg [.lit (.string [99, 97, 108, 108, 101, 114]), .lit (.int .i64 1)], .agg [.lit (.string [97, 109, 111, 117, 110, 116]), .lit (.int .i64 1)], .agg [.lit (.string [104, 101, 108, 100]), .lit (.int .i64 1)], .agg [.lit (.string [110, 111, 119]), .lit (.int .i64 1)], .agg [.lit (.string [111, 112, 101, 110, 101, 100]), .lit (.int .i64 1)], .agg [.lit (.string [100, 117, 101]), .lit (.int .i64 1)], .agg [.lit (.string [97, 115, 107, 101, 100]), .lit (.int .i64 1)], .agg [.lit (.string [100, 105, 115, 112, 117, 116, 101, 100]), .lit (.int .i64 2)]]
def laid_quorum_code_forms {H : Type} : DataW H := .agg [.agg [.lit (.int .i64 0), .lit (.string []), .lit (.string [])], .agg [.lit (.int .i64 0), .lit (.string []), .lit (.string [])], .agg [.lit (.int .i64 1), .lit (.string []), .lit (.string [110])], .agg [.lit (.int .i64 0), .lit (.string []), .lit (.string [116])], .agg [.lit (.int .i64 0), .lit (.string []), .lit (.string [116])], .agg [.lit (.int .i64 2), .lit (.string []), .lit (.string [105])], .agg [.lit (.int .i64 3), .lit (.string []), .lit (.string [115])], .agg [.lit (.int .i64 3), .lit (.string [115]), .lit (.string [])], .agg [.lit (.int .i64 0), .lit (.string [116]), .lit (.string [116])], .agg [.lit (.int .i64 0), .lit (.string [110, 110]), .lit (.string [116])], .agg [.lit (.int .i64 0), .lit (.string [110, 110]), .lit (.string [116])], .agg [.lit (.int .i64 0), .lit (.string [110, 110]), .lit (.string [116])], .agg [.lit (.int .i64 0), .lit (.string [110, 110]), .lit (.string [116])], .agg [.lit (.int .i64 0), .lit (.string [110, 110]), .lit (.string [116])], .agg [.lit (.int .i64 0), .lit (.string [110, 110]), .lit (.string [116])], .agg [.lit (.int .i64 0), .lit (.string [116, 116]), .lit (.string [116])], .agg [.lit (.int .i64 0), .lit (.string [116, 116]), .lit (.string [116])], .agg [.lit (.int .i64 0), .lit (.string [110, 110]), .lit (.string [110])], .agg [.lit (.int .i64 0), .lit (.string [110, 110]), .lit (.string [110])], .agg [.lit (.int .i64 0), .lit (.string [110, 110]), .lit (.string [110])], .agg [.lit (.int .i64 0), .lit (.string [110, 110]), .lit (.string [110])], .agg [.lit (.int .i64 0), .lit (.string [110, 110]), .lit (.string [110])], .agg [.lit (.int .i64 0), .lit (.string [110, 110]), .lit (.string [110])], .agg [.lit (.int .i64 0), .lit (.string [110, 110]), .lit (.string [110])], .agg [.lit (.int .i64 0), .lit (.string [110, 110, 110]), .lit (.string [110])], .agg [.lit (.int .i64 4), .lit (.string []), .lit (.string [])], .agg [.lit (.int .i64 4), .lit (.string [116]), .lit (.string [])], .agg [.lit (.int .i64 4), .lit (.string [116]), .lit (.string [])], .agg [.lit (.int .i64 4), .lit (.string [116]), .lit (.string [])], .agg [.lit (.int .i64 0), .lit (.string [110, 110]), .lit (.string [])], .agg [.lit (.int .i64 5), .lit (.string [116]), .lit (.string [])], .agg [.lit (.int .i64 5), .lit (.string []), .lit (.string [])], .agg [.lit (.int .i64 0), .lit (.string []), .lit (.string [])]]
def laid_quorum_code_inputs {H : Type} : DataW H := .agg [.agg [.lit (.string [99, 97, 108, 108, 101, 114]), .lit (.int .i64 0)], .agg [.lit (.string [97, 109, 111, 117, 110, 116]), .lit (.int .i64 0)], .agg [.lit (.string [104, 101, 108, 100]), .lit (.int .i64 0)], .agg [.lit (.string [110, 111, 119]), .lit (.int .i64 0)], .agg [.lit (.string [111, 112, 101, 110, 101, 100]), .lit (.int .i64 0)], .agg [.lit (.string [100, 117, 101]), .lit (.int .i64 0)], .agg [.lit (.string [97, 115, 107, 101, 100]), .lit (.int .i64 0)], .agg [.lit (.string [100, 105, 115, 112, 117, 116, 101, 100]), .lit (.int .i64 1)]]
def laid_quorum_code_parties {H : Type} : DataW H := .agg [.lit (.string []), .lit (.string [98, 117, 121, 101, 114]), .lit (.string [115, 101, 108, 108, 101, 114]), .lit (.string [97, 114, 98, 105, 116, 101, 114])]
def laid_quorum_code_operators {H : Type} : DataW H := .agg [.agg [.lit (.int .i64 0), .lit (.int .i64 0)], .agg [.lit (.int .i64 0), .lit (.int .i64 0)], .agg [.lit (.int .i64 9), .lit (.int .i64 15)], .agg [.lit (.int .i64 10), .lit (.int .i64 16)], .agg [.lit (.int .i64 11), .lit (.int .i64 0)], .agg [.lit (.int .i64 12), .lit (.int .i64 0)], .agg [.lit (.int .i64 13), .lit (.int .i64 0)], .agg [.lit (.int .i64 14), .lit (.int .i64 0)], .agg [.lit (.int .i64 17), .lit (.int .i64 0)], .agg [.lit (.int .i64 18), .lit (.int .i64 0)], .agg [.lit (.int .i64 19), .lit (.int .i64 0)], .agg [.lit (.int .i64 20), .lit (.int .i64 0)], .agg [.lit (.int .i64 21), .lit (.int .i64 0)]]
def laid_quorum_code_calls {H : Type} : DataW H := .agg [.lit (.int .i64 22), .lit (.int .i64 23), .lit (.int .i64 24)]

/-- 'quorumlaw4.CodeTidy': WHATEVER THE INPUT: true; the input reads as it did. -/
def codeTidySpec : ChangeSpec := { name := "codeTidy", fn := fun _ => fun
  | [d1, d2, d3, d4] => { results := [.lit (.bool true)], args := [d1, d2, d3, d4] }
  | _ => none }
def codeTidyRow : OpenClaim := { program := "ytggpaljilpbmhaagreatdoor", sum := "24e3981d57e921fe3651d841985f3836e5ac07cf319ffd0967f72914f6a79241", func := "quorum/quorumlaw4.CodeTidy", spec := "codeTidy", inPlace := ["internal/reflectlite.ValueOf", "(internal/reflectlite.Value).Type", "(internal/reflectlite.Value).IsNil", "internal/reflectlite.TypeOf", "(internal/reflectlite.Value).Elem", "(internal/reflectlite.Value).Set", "math/bits.Add64", "math/bits.Sub64"], unfollowed := true, recurses := true, named := ["quorum/terms.keywords", "quorum/terms.inputs", "quorum/terms.operators", "errors.errorType", "quorum/code.inputs", "quorum/code.parties", "quorum/code.calls", "quorum/code.operators", "quorum/code.forms", "math/bits.divideError", "math/bits.overflowError"], apart := false, laid := [("errors.errorType", laid_errors_errorType), ("quorum/terms.keywords", laid_quorum_terms_keywords), ("quorum/terms.operators", laid_quorum_terms_operators), ("quorum/terms.inputs", laid_quorum_terms_inputs), ("quorum/code.forms", laid_quorum_code_forms), ("quorum/code.inputs", laid_quorum_code_inputs), ("quorum/code.parties", laid_quorum_code_parties), ("quorum/code.operators", laid_quorum_code_operators), ("quorum/code.calls", laid_quorum_code_calls)] }
def CodeTidySaid : Prop := codeTidyRow.holds Tryz.pinned (OpenSpec.ofChange codeTidySpec)

/-- ITS FALSE NEIGHBOUR: 'it returns false'. Refute it at one input. -/
def codeTidyWrong : ChangeSpec := { name := "codeTidy", fn := fun _ => fun
  | [d1, d2, d3, d4] => { results := [.lit (.bool false)], args := [d1, d2, d3, d4] }
  | _ => none }
def CodeTidyWrongFalsely : Prop := codeTidyRow.holds Tryz.pinned (OpenSpec.ofChange codeTidyWrong)

/-- 'quorumlaw4.CodePacks': WHATEVER THE INPUT: true; the input reads as it did. -/
def codePacksSpec : ChangeSpec := { name := "codePacks", fn := fun _ => fun
  | [d1, d2] => { results := [.lit (.bool true)], args := [d1, d2] }
  | _ => none }
def codePacksRow : OpenClaim := { program := "ytggpaljilpbmhaagreatdoor", sum := "24e3981d57e921fe3651d841985f3836e5ac07cf319ffd0967f72914f6a79241", func := "quorum/quorumlaw4.CodePacks", spec := "codePacks", inPlace := ["internal/reflectlite.ValueOf", "(internal/reflectlite.Value).Type", "(internal/reflectlite.Value).IsNil", "internal/reflectlite.TypeOf", "(internal/reflectlite.Value).Elem", "(internal/reflectlite.Value).Set"], unfollowed := true, recurses := true, named := ["quorum/code.forms", "quorum/code.inputs", "errors.errorType"], apart := false, laid := [("errors.errorType", laid_errors_errorType), ("quorum/code.forms", laid_quorum_code_forms), ("quorum/code.inputs", laid_quorum_code_inputs)] }
def CodePacksSaid : Prop := codePacksRow.holds Tryz.pinned (OpenSpec.ofChange codePacksSpec)

/-- ITS FALSE NEIGHBOUR: 'it returns false'. Refute it at one input. -/
def codePacksWrong : ChangeSpec := { name := "codePacks", fn := fun _ => fun
  | [d1, d2] => { results := [.lit (.bool false)], args := [d1, d2] }
  | _ => none }
def CodePacksWrongFalsely : Prop := codePacksRow.holds Tryz.pinned (OpenSpec.ofChange codePacksWrong)

/-- 'quorumlaw4.CodePacked': WHATEVER THE INPUT: true; the input reads as it did. -/
def codePackedSpec : ChangeSpec := { name := "codePacked", fn := fun _ => fun
  | [d1, d2] => { results := [.lit (.bool true)], args := [d1, d2] }
  | _ => none }
def codePackedRow : OpenClaim := { program := "ytggpaljilpbmhaagreatdoor", sum := "24e3981d57e921fe3651d841985f3836e5ac07cf319ffd0967f72914f6a79241", func := "quorum/quorumlaw4.CodePacked", spec := "codePacked", inPlace := ["internal/reflectlite.ValueOf", "(internal/reflectlite.Value).Type", "(internal/reflectlite.Value).IsNil", "internal/reflectlite.TypeOf", "(internal/reflectlite.Value).Elem", "(internal/reflectlite.Value).Set", "math/bits.Add64", "math/bits.Sub64"], unfollowed := true, recurses := true, named := ["quorum/terms.keywords", "quorum/terms.inputs", "quorum/terms.operators", "errors.errorType", "quorum/code.inputs", "quorum/code.parties", "quorum/code.calls", "quorum/code.operators", "quorum/code.forms", "math/bits.divideError", "math/bits.overflowError"], apart := false, laid := [("errors.errorType", laid_errors_errorType), ("quorum/terms.keywords", laid_quorum_terms_keywords), ("quorum/terms.operators", laid_quorum_terms_operators), ("quorum/terms.inputs", laid_quorum_terms_inputs), ("quorum/code.forms", laid_quorum_code_forms), ("quorum/code.inputs", laid_quorum_code_inputs), ("quorum/code.parties", laid_quorum_code_parties), ("quorum/code.operators", laid_quorum_code_operators), ("quorum/code.calls", laid_quorum_code_calls)] }
def CodePackedSaid : Prop := codePackedRow.holds Tryz.pinned (OpenSpec.ofChange codePackedSpec)

/-- ITS FALSE NEIGHBOUR: 'it returns false'. Refute it at one input. -/
def codePackedWrong : ChangeSpec := { name := "codePacked", fn := fun _ => fun
  | [d1, d2] => { results := [.lit (.bool false)], args := [d1, d2] }
  | _ => none }
def CodePackedWrongFalsely : Prop := codePackedRow.holds Tryz.pinned (OpenSpec.ofChange codePackedWrong)

/- THE SECOND FORM. 'bulk': how many values and letters a reading holds, each counted each time it is reached (what is shared counts as often as it is met; a slice's spare places count too). A statement '..UptoSaid' is the law's where the arguments, and the package variables that the reading takes, are together of bulk at most 1048576: NARROWER than '..Said'. Prove '..Said' where nothing that the law and all that it calls make is longer than what came in: it says more and counts as full. Else prove '..UptoSaid'. A law counts once. -/
mutual
def uptoBulk {H : Type} : DataW H → Nat
  | .lit (.string bytes) => bytes.length + 1
  | .lit _ => 1
  | .nil => 1
  | .ptr d => uptoBulk d + 1
  | .slice elems spare => uptoBulkAll elems + uptoBulkAll spare + 1
  | .agg parts => uptoBulkAll parts + 1
  | .iface _ d => uptoBulk d + 1
  | .map entries => uptoBulkEntries entries + 1
  | .held _ => 1
def uptoBulkAll {H : Type} : List (DataW H) → Nat
  | [] => 0
  | d :: r => uptoBulk d + uptoBulkAll r
def uptoBulkEntries {H : Type} : List (Lit × DataW H) → Nat
  | [] => 0
  | x :: r => uptoBulkEntry x + uptoBulkEntries r
def uptoBulkEntry {H : Type} : Lit × DataW H → Nat
  | (.string bytes, d) => bytes.length + uptoBulk d + 1
  | (_, d) => uptoBulk d + 1
 end
def uptoSmall : (H : Type) → List (DataW H) → Bool := fun _ ds => decide (uptoBulkAll ds ≤ 1048576)
def OpenSpec.upto (s : _root_.Go.ChangeSpec) : _root_.Go.OpenSpec := { _root_.Go.OpenSpec.ofChange s with cond := some uptoSmall }

/-- 'quorumlaw4.CodeTidy', WHERE WHAT IT READS IS OF BULK AT MOST 1048576: true; the input reads as it did. -/
def codeTidyUptoRow : OpenClaim := { program := "ytggpaljilpbmhaagreatdoor", sum := "24e3981d57e921fe3651d841985f3836e5ac07cf319ffd0967f72914f6a79241", func := "quorum/quorumlaw4.CodeTidy", spec := "codeTidy", inPlace := ["internal/reflectlite.ValueOf", "(internal/reflectlite.Value).Type", "(internal/reflectlite.Value).IsNil", "internal/reflectlite.TypeOf", "(internal/reflectlite.Value).Elem", "(internal/reflectlite.Value).Set", "math/bits.Add64", "math/bits.Sub64"], unfollowed := true, recurses := true, named := ["quorum/terms.keywords", "quorum/terms.inputs", "quorum/terms.operators", "errors.errorType", "quorum/code.inputs", "quorum/code.parties", "quorum/code.calls", "quorum/code.operators", "quorum/code.forms", "math/bits.divideError", "math/bits.overflowError"], apart := false, laid := [("errors.errorType", laid_errors_errorType), ("quorum/terms.keywords", laid_quorum_terms_keywords), ("quorum/terms.operators", laid_quorum_terms_operators), ("quorum/terms.inputs", laid_quorum_terms_inputs), ("quorum/code.forms", laid_quorum_code_forms), ("quorum/code.inputs", laid_quorum_code_inputs), ("quorum/code.parties", laid_quorum_code_parties), ("quorum/code.operators", laid_quorum_code_operators), ("quorum/code.calls", laid_quorum_code_calls)], narrowed := true }
def CodeTidyUptoSaid : Prop := codeTidyUptoRow.holds Tryz.pinned (OpenSpec.upto codeTidySpec)

/-- 'quorumlaw4.CodePacks', WHERE WHAT IT READS IS OF BULK AT MOST 1048576: true; the input reads as it did. -/
def codePacksUptoRow : OpenClaim := { program := "ytggpaljilpbmhaagreatdoor", sum := "24e3981d57e921fe3651d841985f3836e5ac07cf319ffd0967f72914f6a79241", func := "quorum/quorumlaw4.CodePacks", spec := "codePacks", inPlace := ["internal/reflectlite.ValueOf", "(internal/reflectlite.Value).Type", "(internal/reflectlite.Value).IsNil", "internal/reflectlite.TypeOf", "(internal/reflectlite.Value).Elem", "(internal/reflectlite.Value).Set"], unfollowed := true, recurses := true, named := ["quorum/code.forms", "quorum/code.inputs", "errors.errorType"], apart := false, laid := [("errors.errorType", laid_errors_errorType), ("quorum/code.forms", laid_quorum_code_forms), ("quorum/code.inputs", laid_quorum_code_inputs)], narrowed := true }
def CodePacksUptoSaid : Prop := codePacksUptoRow.holds Tryz.pinned (OpenSpec.upto codePacksSpec)

/-- 'quorumlaw4.CodePacked', WHERE WHAT IT READS IS OF BULK AT MOST 1048576: true; the input reads as it did. -/
def codePackedUptoRow : OpenClaim := { program := "ytggpaljilpbmhaagreatdoor", sum := "24e3981d57e921fe3651d841985f3836e5ac07cf319ffd0967f72914f6a79241", func := "quorum/quorumlaw4.CodePacked", spec := "codePacked", inPlace := ["internal/reflectlite.ValueOf", "(internal/reflectlite.Value).Type", "(internal/reflectlite.Value).IsNil", "internal/reflectlite.TypeOf", "(internal/reflectlite.Value).Elem", "(internal/reflectlite.Value).Set", "math/bits.Add64", "math/bits.Sub64"], unfollowed := true, recurses := true, named := ["quorum/terms.keywords", "quorum/terms.inputs", "quorum/terms.operators", "errors.errorType", "quorum/code.inputs", "quorum/code.parties", "quorum/code.calls", "quorum/code.operators", "quorum/code.forms", "math/bits.divideError", "math/bits.overflowError"], apart := false, laid := [("errors.errorType", laid_errors_errorType), ("quorum/terms.keywords", laid_quorum_terms_keywords), ("quorum/terms.operators", laid_quorum_terms_operators), ("quorum/terms.inputs", laid_quorum_terms_inputs), ("quorum/code.forms", laid_quorum_code_forms), ("quorum/code.inputs", laid_quorum_code_inputs), ("quorum/code.parties", laid_quorum_code_parties), ("quorum/code.operators", laid_quorum_code_operators), ("quorum/code.calls", laid_quorum_code_calls)], narrowed := true }
def CodePackedUptoSaid : Prop := codePackedUptoRow.holds Tryz.pinned (OpenSpec.upto codePackedSpec)

end Rows
end Go.Proofs.YtggpaljilpbmhaaGreatDoor
