/-
  NARROWER THAN 'FOR EVERY INPUT', by the rows' own cells (each row's printed sentence says how): CodeTidies: laid · CodeRuns: laid · CodeSteps: laid.
  DERIVED. THE GIVEN ROWS OF THIS SEAT. 3 by the template 'for every input the law returns true; each argument reads behind the call as it read before'; 0 by the template 'total and deterministic' (their statements: YtmoklddfaocihaaDoorTotals.lean).
  GIVEN WITH THE SEED: the statements are not yours to turn. If you find one false, say at which input.
  Laid BY PROGRAM, IN A SANDBOX (cutbox-rows.mjs): the forced cells as the released guide's own fill.sh prints them over the translation bc9384f9a5a70b4b… (all of the seat's roots in one cut). By AI agents, Wed Nov 11 2026. No macro, syntax, notation, axiom, sorry.
-/
import Derived.Test.YtmoklddfaocihaaDoorChecked
import GoSem.Claim
import GoSem.ClaimJoined
import GoSem.ClaimMapViews
import Derived.JoinedTies
import Derived.KernelRfl
namespace Go.Proofs.YtmoklddfaocihaaDoor
/- THE CELL 'sum', in the pinned program and in every row, IS THE sha256 OF THE DUMP (.gsa) THAT YtmoklddfaocihaaDoorProg.lean LOADS. Nothing in Lean hashes anything: it is a label: what it is worth is what the hold of that sum in a sandbox is worth. -/
noncomputable def Tryd.pinned : Pinned := { name := "ytmoklddfaocihaadoor", sum := "bc9384f9a5a70b4b8a807eef300e03e1bb7d0f332a78fdd207b7f2e0092982eb", checked := Tryd.checked }
namespace Rows
def none {H : Type} : Left H := { results := [], args := [] }

/- WHAT THE LISTED PACKAGE-LEVEL VARIABLES READ AS WHEN THE CALL BEGINS. Each datum BY PROGRAM (the guide's laid-datum.mjs) off the statement by which the dump's own 'gosem.cut.vars' lays the variable. In a bare row this is a premise. The card (YtmoklddfaocihaaDoorCards.lean) ties it to the program's text. -/
def laid_quorum_code_forms {H : Type} : DataW H := .agg [.agg [.lit (.int .i64 0), .lit (.string []), .lit (.string [])], .agg [.lit (.int .i64 0), .lit (.string []), .lit (.string [])], .agg [.lit (.int .i64 1), .lit (.string []), .lit (.string [110])], .agg [.lit (.int .i64 0), .lit (.string []), .lit (.string [116])], .agg [.lit (.int .i64 0), .lit (.string []), .lit (.string [116])], .agg [.lit (.int .i64 2), .lit (.string []), .lit (.string [105])], .agg [.lit (.int .i64 3), .lit (.string []), .lit (.string [115])], .agg [.lit (.int .i64 3), .lit (.string [115]), .lit (.string [])], .agg [.lit (.int .i64 0), .lit (.string [116]), .lit (.string [116])], .agg [.lit (.int .i64 0), .lit (.string [110, 110]), .lit (.string [116])], .agg [.lit (.int .i64 0), .lit (.string [110, 110]), .lit (.string [116])], .agg [.lit (.int .i64 0), .lit (.string [110, 110]), .lit (.string [116])], .agg [.lit (.int .i64 0), .lit (.string [110, 110]), .lit (.string [116])], .agg [.lit (.int .i64 0), .lit (.string [110, 110]), .lit (.string [116])], .agg [.lit (.int .i64 0), .lit (.string [110, 110]), .lit (.string [116])], .agg [.lit (.int .i64 0), .lit (.string [116, 116]), .lit (.string [116])], .agg [.lit (.int .i64 0), .lit (.string [116, 116]), .lit (.string [116])], .agg [.lit (.int .i64 0), .lit (.string [110, 110]), .lit (.string [110])], .agg [.lit (.int .i64 0), .lit (.string [110, 110]), .lit (.string [110])], .agg [.lit (.int .i64 0), .lit (.string [110, 110]), .lit (.string [110])], .agg [.lit (.int .i64 0), .lit (.string [110, 110]), .lit (.string [110])], .agg [.lit (.int .i64 0), .lit (.string [110, 110]), .lit (.string [110])], .agg [.lit (.int .i64 0), .lit (.string [110, 110]), .lit (.string [110])], .agg [.lit (.int .i64 0), .lit (.string [110, 110]), .lit (.string [110])], .agg [.lit (.int .i64 0), .lit (.string [110, 110, 110]), .lit (.string [110])], .agg [.lit (.int .i64 4), .lit (.string []), .lit (.string [])], .agg [.lit (.int .i64 4), .lit (.string [116]), .lit (.string [])], .agg [.lit (.int .i64 4), .lit (.string [116]), .lit (.string [])], .agg [.lit (.int .i64 4), .lit (.string [116]), .lit (.string [])], .agg [.lit (.int .i64 0), .lit (.string [110, 110]), .lit (.string [])], .agg [.lit (.int .i64 5), .lit (.string [116]), .lit (.string [])], .agg [.lit (.int .i64 5), .lit (.string []), .lit (.string [])], .agg [.lit (.int .i64 0), .lit (.string []), .lit (.string [])]]
def laid_quorum_code_inputs {H : Type} : DataW H := .agg [.agg [.lit (.string [99, 97, 108, 108, 101, 114]), .lit (.int .i64 0)], .agg [.lit (.string [97, 109, 111, 117, 110, 116]), .lit (.int .i64 0)], .agg [.lit (.string [104, 101, 108, 100]), .lit (.int .i64 0)], .agg [.lit (.string [110, 111, 119]), .lit (.int .i64 0)], .agg [.lit (.string [111, 112, 101, 110, 101, 100]), .lit (.int .i64 0)], .agg [.lit (.string [100, 117, 101]), .lit (.int .i64 0)], .agg [.lit (.string [97, 115, 107, 101, 100]), .lit (.int .i64 0)], .agg [.lit (.string [100, 105, 115, 112, 117, 116, 101, 100]), .lit (.int .i64 1)]]

/-- 'quorumlaw4.CodeTidies': WHATEVER THE INPUT: true; the input reads as it did. -/
def codeTidiesSpec : ChangeSpec := { name := "codeTidies", fn := fun _ => fun
  | [d] => { results := [.lit (.bool true)], args := [d] }
  | _ => none }
def codeTidiesRow : OpenClaim := { program := "ytmoklddfaocihaadoor", sum := "bc9384f9a5a70b4b8a807eef300e03e1bb7d0f332a78fdd207b7f2e0092982eb", func := "quorum/quorumlaw4.CodeTidies", spec := "codeTidies", unfollowed := true, recurses := true, named := ["quorum/code.forms", "quorum/code.inputs"], apart := false, laid := [("quorum/code.forms", laid_quorum_code_forms), ("quorum/code.inputs", laid_quorum_code_inputs)] }
def CodeTidiesSaid : Prop := codeTidiesRow.holds Tryd.pinned (OpenSpec.ofChange codeTidiesSpec)

/-- ITS FALSE NEIGHBOUR: 'it returns false'. Refute it at one input. -/
def codeTidiesWrong : ChangeSpec := { name := "codeTidies", fn := fun _ => fun
  | [d] => { results := [.lit (.bool false)], args := [d] }
  | _ => none }
def CodeTidiesWrongFalsely : Prop := codeTidiesRow.holds Tryd.pinned (OpenSpec.ofChange codeTidiesWrong)

/-- 'quorumlaw4.CodeRuns': WHATEVER THE INPUT: true; the input reads as it did. -/
def codeRunsSpec : ChangeSpec := { name := "codeRuns", fn := fun _ => fun
  | [d1, d2, d3, d4] => { results := [.lit (.bool true)], args := [d1, d2, d3, d4] }
  | _ => none }
def codeRunsRow : OpenClaim := { program := "ytmoklddfaocihaadoor", sum := "bc9384f9a5a70b4b8a807eef300e03e1bb7d0f332a78fdd207b7f2e0092982eb", func := "quorum/quorumlaw4.CodeRuns", spec := "codeRuns", inPlace := ["math/bits.Add64", "math/bits.Sub64"], unfollowed := true, recurses := true, named := ["quorum/code.forms", "quorum/code.inputs", "math/bits.divideError", "math/bits.overflowError"], apart := false, laid := [("quorum/code.forms", laid_quorum_code_forms), ("quorum/code.inputs", laid_quorum_code_inputs)] }
def CodeRunsSaid : Prop := codeRunsRow.holds Tryd.pinned (OpenSpec.ofChange codeRunsSpec)

/-- ITS FALSE NEIGHBOUR: 'it returns false'. Refute it at one input. -/
def codeRunsWrong : ChangeSpec := { name := "codeRuns", fn := fun _ => fun
  | [d1, d2, d3, d4] => { results := [.lit (.bool false)], args := [d1, d2, d3, d4] }
  | _ => none }
def CodeRunsWrongFalsely : Prop := codeRunsRow.holds Tryd.pinned (OpenSpec.ofChange codeRunsWrong)

/-- 'quorumlaw4.CodeSteps': WHATEVER THE INPUT: true; the input reads as it did. -/
def codeStepsSpec : ChangeSpec := { name := "codeSteps", fn := fun _ => fun
  | [d1, d2, d3, d4, d5, d6] => { results := [.lit (.bool true)], args := [d1, d2, d3, d4, d5, d6] }
  | _ => none }
def codeStepsRow : OpenClaim := { program := "ytmoklddfaocihaadoor", sum := "bc9384f9a5a70b4b8a807eef300e03e1bb7d0f332a78fdd207b7f2e0092982eb", func := "quorum/quorumlaw4.CodeSteps", spec := "codeSteps", inPlace := ["math/bits.Add64", "math/bits.Sub64"], unfollowed := true, recurses := true, named := ["quorum/code.forms", "quorum/code.inputs", "math/bits.divideError", "math/bits.overflowError"], apart := false, laid := [("quorum/code.forms", laid_quorum_code_forms), ("quorum/code.inputs", laid_quorum_code_inputs)] }
def CodeStepsSaid : Prop := codeStepsRow.holds Tryd.pinned (OpenSpec.ofChange codeStepsSpec)

/-- ITS FALSE NEIGHBOUR: 'it returns false'. Refute it at one input. -/
def codeStepsWrong : ChangeSpec := { name := "codeSteps", fn := fun _ => fun
  | [d1, d2, d3, d4, d5, d6] => { results := [.lit (.bool false)], args := [d1, d2, d3, d4, d5, d6] }
  | _ => none }
def CodeStepsWrongFalsely : Prop := codeStepsRow.holds Tryd.pinned (OpenSpec.ofChange codeStepsWrong)

/- THE SECOND FORM. 'bulk': how many values and letters a reading holds, each counted each time it is reached (what is shared counts as often as it is met; a slice's spare places count too). A statement '..UptoSaid' is the law's where the arguments, and the package variables that the reading takes, are together of bulk at most 1048576: NARROWER than '..Said'. Prove '..Said' where nothing that the law and all that it calls make is longer than what came in: it says more and counts as full. Else prove '..UptoSaid'. A law counts once. -/
mutual
def uptoBulk {H : Type} : DataW H → Nat
  | .lit (.string bytes) => bytes.length + 1
  | .lit _ => 1
  | .nil => 1
  | .ptr d => uptoBulk d + 1
  | .slice elems spare => uptoBulkAll elems + uptoBulkAll spare + 1
  | .agg parts => uptoBulkAll parts + 1
  | .iface _ d => uptoBulk d + 1
  | .map entries => uptoBulkEntries entries + 1
  | .held _ => 1
def uptoBulkAll {H : Type} : List (DataW H) → Nat
  | [] => 0
  | d :: r => uptoBulk d + uptoBulkAll r
def uptoBulkEntries {H : Type} : List (Lit × DataW H) → Nat
  | [] => 0
  | x :: r => uptoBulkEntry x + uptoBulkEntries r
def uptoBulkEntry {H : Type} : Lit × DataW H → Nat
  | (.string bytes, d) => bytes.length + uptoBulk d + 1
  | (_, d) => uptoBulk d + 1
 end
def uptoSmall : (H : Type) → List (DataW H) → Bool := fun _ ds => decide (uptoBulkAll ds ≤ 1048576)
def OpenSpec.upto (s : _root_.Go.ChangeSpec) : _root_.Go.OpenSpec := { _root_.Go.OpenSpec.ofChange s with cond := some uptoSmall }

/-- 'quorumlaw4.CodeTidies', WHERE WHAT IT READS IS OF BULK AT MOST 1048576: true; the input reads as it did. -/
def codeTidiesUptoRow : OpenClaim := { program := "ytmoklddfaocihaadoor", sum := "bc9384f9a5a70b4b8a807eef300e03e1bb7d0f332a78fdd207b7f2e0092982eb", func := "quorum/quorumlaw4.CodeTidies", spec := "codeTidies", unfollowed := true, recurses := true, named := ["quorum/code.forms", "quorum/code.inputs"], apart := false, laid := [("quorum/code.forms", laid_quorum_code_forms), ("quorum/code.inputs", laid_quorum_code_inputs)], narrowed := true }
def CodeTidiesUptoSaid : Prop := codeTidiesUptoRow.holds Tryd.pinned (OpenSpec.upto codeTidiesSpec)

/-- 'quorumlaw4.CodeRuns', WHERE WHAT IT READS IS OF BULK AT MOST 1048576: true; the input reads as it did. -/
def codeRunsUptoRow : OpenClaim := { program := "ytmoklddfaocihaadoor", sum := "bc9384f9a5a70b4b8a807eef300e03e1bb7d0f332a78fdd207b7f2e0092982eb", func := "quorum/quorumlaw4.CodeRuns", spec := "codeRuns", inPlace := ["math/bits.Add64", "math/bits.Sub64"], unfollowed := true, recurses := true, named := ["quorum/code.forms", "quorum/code.inputs", "math/bits.divideError", "math/bits.overflowError"], apart := false, laid := [("quorum/code.forms", laid_quorum_code_forms), ("quorum/code.inputs", laid_quorum_code_inputs)], narrowed := true }
def CodeRunsUptoSaid : Prop := codeRunsUptoRow.holds Tryd.pinned (OpenSpec.upto codeRunsSpec)

/-- 'quorumlaw4.CodeSteps', WHERE WHAT IT READS IS OF BULK AT MOST 1048576: true; the input reads as it did. -/
def codeStepsUptoRow : OpenClaim := { program := "ytmoklddfaocihaadoor", sum := "bc9384f9a5a70b4b8a807eef300e03e1bb7d0f332a78fdd207b7f2e0092982eb", func := "quorum/quorumlaw4.CodeSteps", spec := "codeSteps", inPlace := ["math/bits.Add64", "math/bits.Sub64"], unfollowed := true, recurses := true, named := ["quorum/code.forms", "quorum/code.inputs", "math/bits.divideError", "math/bits.overflowError"], apart := false, laid := [("quorum/code.forms", laid_quorum_code_forms), ("quorum/code.inputs", laid_quorum_code_inputs)], narrowed := true }
def CodeStepsUptoSaid : Prop := codeStepsUptoRow.holds Tryd.pinned (OpenSpec.upto codeStepsSpec)

end Rows
end Go.Proofs.YtmoklddfaocihaaDoor
