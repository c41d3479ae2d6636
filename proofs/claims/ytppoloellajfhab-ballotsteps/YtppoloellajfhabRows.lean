/-
  No cell of these rows narrows 'for every input' (looked for: loops, veiled, ifaces, maps, wideKeys, modest, calm, conditions, laid).
  DERIVED. THE GIVEN ROWS OF THIS SEAT. 3 by the template 'for every input the law returns true; each argument reads behind the call as it read before'; 0 by the template 'total and deterministic' (their statements: YtppoloellajfhabTotals.lean).
  GIVEN WITH THE SEED: the statements are not yours to turn. If you find one false, say at which input.
  Laid BY PROGRAM, IN A SANDBOX (cutbox-rows.mjs): the forced cells as the released guide's own fill.sh prints them over the translation 2eca939f401dbd81… (all of the seat's roots in one cut). By AI agents, Wed Nov 11 2026. No macro, syntax, notation, axiom, sorry.
-/
import Derived.Test.YtppoloellajfhabChecked
import GoSem.Claim
import GoSem.ClaimJoined
import GoSem.ClaimMapViews
import Derived.JoinedTies
import Derived.KernelRfl
namespace Go.Proofs.Ytppoloellajfhab
/- THE CELL 'sum', in the pinned program and in every row, IS THE sha256 OF THE DUMP (.gsa) THAT YtppoloellajfhabProg.lean LOADS. Nothing in Lean hashes anything: it is a label: what it is worth is what the hold of that sum in a sandbox is worth. -/
noncomputable def Try.pinned : Pinned := { name := "ytppoloellajfhab", sum := "2eca939f401dbd818de8bb4c9535d95fde3245104f04abfd15f907c13b5f8176", checked := Try.checked }
namespace Rows
def none {H : Type} : Left H := { results := [], args := [] }

/-- 'quorumlaw9.BallotSets': WHATEVER THE INPUT: true; the input reads as it did. -/
def ballotSetsSpec : ChangeSpec := { name := "ballotSets", fn := fun _ => fun
  | [d1, d2, d3, d4] => { results := [.lit (.bool true)], args := [d1, d2, d3, d4] }
  | _ => none }
def ballotSetsRow : OpenClaim := { program := "ytppoloellajfhab", sum := "2eca939f401dbd818de8bb4c9535d95fde3245104f04abfd15f907c13b5f8176", func := "quorum/quorumlaw9.BallotSets", spec := "ballotSets", unfollowed := true, recurses := true, apart := false }
def BallotSetsSaid : Prop := ballotSetsRow.holds Try.pinned (OpenSpec.ofChange ballotSetsSpec)

/-- ITS FALSE NEIGHBOUR: 'it returns false'. Refute it at one input. -/
def ballotSetsWrong : ChangeSpec := { name := "ballotSets", fn := fun _ => fun
  | [d1, d2, d3, d4] => { results := [.lit (.bool false)], args := [d1, d2, d3, d4] }
  | _ => none }
def BallotSetsWrongFalsely : Prop := ballotSetsRow.holds Try.pinned (OpenSpec.ofChange ballotSetsWrong)

/-- 'quorumlaw9.BallotConfigs': WHATEVER THE INPUT: true; the input reads as it did. -/
def ballotConfigsSpec : ChangeSpec := { name := "ballotConfigs", fn := fun _ => fun
  | [d1, d2] => { results := [.lit (.bool true)], args := [d1, d2] }
  | _ => none }
def ballotConfigsRow : OpenClaim := { program := "ytppoloellajfhab", sum := "2eca939f401dbd818de8bb4c9535d95fde3245104f04abfd15f907c13b5f8176", func := "quorum/quorumlaw9.BallotConfigs", spec := "ballotConfigs", inPlace := ["math/bits.Add64"], unfollowed := true, recurses := true, apart := false }
def BallotConfigsSaid : Prop := ballotConfigsRow.holds Try.pinned (OpenSpec.ofChange ballotConfigsSpec)

/-- ITS FALSE NEIGHBOUR: 'it returns false'. Refute it at one input. -/
def ballotConfigsWrong : ChangeSpec := { name := "ballotConfigs", fn := fun _ => fun
  | [d1, d2] => { results := [.lit (.bool false)], args := [d1, d2] }
  | _ => none }
def BallotConfigsWrongFalsely : Prop := ballotConfigsRow.holds Try.pinned (OpenSpec.ofChange ballotConfigsWrong)

/-- 'quorumlaw9.BallotSteps': WHATEVER THE INPUT: true; the input reads as it did. -/
def ballotStepsSpec : ChangeSpec := { name := "ballotSteps", fn := fun _ => fun
  | [d1, d2, d3, d4] => { results := [.lit (.bool true)], args := [d1, d2, d3, d4] }
  | _ => none }
def ballotStepsRow : OpenClaim := { program := "ytppoloellajfhab", sum := "2eca939f401dbd818de8bb4c9535d95fde3245104f04abfd15f907c13b5f8176", func := "quorum/quorumlaw9.BallotSteps", spec := "ballotSteps", apart := false }
def BallotStepsSaid : Prop := ballotStepsRow.holds Try.pinned (OpenSpec.ofChange ballotStepsSpec)

/-- ITS FALSE NEIGHBOUR: 'it returns false'. Refute it at one input. -/
def ballotStepsWrong : ChangeSpec := { name := "ballotSteps", fn := fun _ => fun
  | [d1, d2, d3, d4] => { results := [.lit (.bool false)], args := [d1, d2, d3, d4] }
  | _ => none }
def BallotStepsWrongFalsely : Prop := ballotStepsRow.holds Try.pinned (OpenSpec.ofChange ballotStepsWrong)

/- THE SECOND FORM. 'bulk': how many values and letters a reading holds, each counted each time it is reached (what is shared counts as often as it is met; a slice's spare places count too). A statement '..UptoSaid' is the law's where the arguments, and the package variables that the reading takes, are together of bulk at most 1048576: NARROWER than '..Said'. Prove '..Said' where nothing that the law and all that it calls make is longer than what came in: it says more and counts as full. Else prove '..UptoSaid'. A law counts once. -/
mutual
def uptoBulk {H : Type} : DataW H → Nat
  | .lit (.string bytes) => bytes.length + 1
  | .lit _ => 1
  | .nil => 1
  | .ptr d => uptoBulk d + 1
  | .slice elems spare => uptoBulkAll elems + uptoBulkAll spare + 1
  | .agg parts => uptoBulkAll parts + 1
  | .iface _ d => uptoBulk d + 1
  | .map entries => uptoBulkEntries entries + 1
  | .held _ => 1
def uptoBulkAll {H : Type} : List (DataW H) → Nat
  | [] => 0
  | d :: r => uptoBulk d + uptoBulkAll r
def uptoBulkEntries {H : Type} : List (Lit × DataW H) → Nat
  | [] => 0
  | x :: r => uptoBulkEntry x + uptoBulkEntries r
def uptoBulkEntry {H : Type} : Lit × DataW H → Nat
  | (.string bytes, d) => bytes.length + uptoBulk d + 1
  | (_, d) => uptoBulk d + 1
 end
def uptoSmall : (H : Type) → List (DataW H) → Bool := fun _ ds => decide (uptoBulkAll ds ≤ 1048576)
def OpenSpec.upto (s : _root_.Go.ChangeSpec) : _root_.Go.OpenSpec := { _root_.Go.OpenSpec.ofChange s with cond := some uptoSmall }

/-- 'quorumlaw9.BallotSets', WHERE WHAT IT READS IS OF BULK AT MOST 1048576: true; the input reads as it did. -/
def ballotSetsUptoRow : OpenClaim := { program := "ytppoloellajfhab", sum := "2eca939f401dbd818de8bb4c9535d95fde3245104f04abfd15f907c13b5f8176", func := "quorum/quorumlaw9.BallotSets", spec := "ballotSets", unfollowed := true, recurses := true, apart := false, narrowed := true }
def BallotSetsUptoSaid : Prop := ballotSetsUptoRow.holds Try.pinned (OpenSpec.upto ballotSetsSpec)

/-- 'quorumlaw9.BallotConfigs', WHERE WHAT IT READS IS OF BULK AT MOST 1048576: true; the input reads as it did. -/
def ballotConfigsUptoRow : OpenClaim := { program := "ytppoloellajfhab", sum := "2eca939f401dbd818de8bb4c9535d95fde3245104f04abfd15f907c13b5f8176", func := "quorum/quorumlaw9.BallotConfigs", spec := "ballotConfigs", inPlace := ["math/bits.Add64"], unfollowed := true, recurses := true, apart := false, narrowed := true }
def BallotConfigsUptoSaid : Prop := ballotConfigsUptoRow.holds Try.pinned (OpenSpec.upto ballotConfigsSpec)

/-- 'quorumlaw9.BallotSteps', WHERE WHAT IT READS IS OF BULK AT MOST 1048576: true; the input reads as it did. -/
def ballotStepsUptoRow : OpenClaim := { program := "ytppoloellajfhab", sum := "2eca939f401dbd818de8bb4c9535d95fde3245104f04abfd15f907c13b5f8176", func := "quorum/quorumlaw9.BallotSteps", spec := "ballotSteps", apart := false, narrowed := true }
def BallotStepsUptoSaid : Prop := ballotStepsUptoRow.holds Try.pinned (OpenSpec.upto ballotStepsSpec)

end Rows
end Go.Proofs.Ytppoloellajfhab
