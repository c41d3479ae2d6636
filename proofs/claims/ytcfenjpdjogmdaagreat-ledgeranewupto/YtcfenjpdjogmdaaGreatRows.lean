/-
  No cell of these rows narrows 'for every input' (looked for: loops, veiled, ifaces, maps, wideKeys, modest, calm, conditions, laid).
  DERIVED. THE GIVEN ROWS OF THIS SEAT. 4 by the template 'for every input the law returns true; each argument reads behind the call as it read before'; 0 by the template 'total and deterministic' (their statements: YtcfenjpdjogmdaaGreatTotals.lean).
  GIVEN WITH THE SEED: the statements are not yours to turn. If you find one false, say at which input.
  Laid BY PROGRAM, IN A SANDBOX (cutbox-rows.mjs): the forced cells as the released guide's own fill.sh prints them over the translation b3f41b2196e939a2… (all of the seat's roots in one cut). By AI agents, Wed Nov 11 2026. No macro, syntax, notation, axiom, sorry.
-/
import Derived.Test.YtcfenjpdjogmdaaGreatChecked
import GoSem.Claim
import GoSem.ClaimJoined
import GoSem.ClaimMapViews
import Derived.JoinedTies
import Derived.KernelRfl
namespace Go.Proofs.YtcfenjpdjogmdaaGreat
/- THE CELL 'sum', in the pinned program and in every row, IS THE sha256 OF THE DUMP (.gsa) THAT YtcfenjpdjogmdaaGreatProg.lean LOADS. Nothing in Lean hashes anything: it is a label: what it is worth is what the hold of that sum in a sandbox is worth. -/
noncomputable def Tryz.pinned : Pinned := { name := "ytcfenjpdjogmdaagreat", sum := "b3f41b2196e939a21531b100abcd20d92cd0c966ea4536604a2bd74a7d775767", checked := Tryz.checked }
namespace Rows
def none {H : Type} : Left H := { results := [], args := [] }

/-- 'quorumlaw2.LedgerAnew': WHATEVER THE INPUT: true; the input reads as it did. -/
def ledgerAnewSpec : ChangeSpec := { name := "ledgerAnew", fn := fun _ => fun
  | [d1, d2, d3] => { results := [.lit (.bool true)], args := [d1, d2, d3] }
  | _ => none }
def ledgerAnewRow : OpenClaim := { program := "ytcfenjpdjogmdaagreat", sum := "b3f41b2196e939a21531b100abcd20d92cd0c966ea4536604a2bd74a7d775767", func := "quorum/quorumlaw2.LedgerAnew", spec := "ledgerAnew", unfollowed := true, recurses := true, apart := false }
def LedgerAnewSaid : Prop := ledgerAnewRow.holds Tryz.pinned (OpenSpec.ofChange ledgerAnewSpec)

/-- ITS FALSE NEIGHBOUR: 'it returns false'. Refute it at one input. -/
def ledgerAnewWrong : ChangeSpec := { name := "ledgerAnew", fn := fun _ => fun
  | [d1, d2, d3] => { results := [.lit (.bool false)], args := [d1, d2, d3] }
  | _ => none }
def LedgerAnewWrongFalsely : Prop := ledgerAnewRow.holds Tryz.pinned (OpenSpec.ofChange ledgerAnewWrong)

/-- 'quorumlaw2.LedgerPays': WHATEVER THE INPUT: true; the input reads as it did. -/
def ledgerPaysSpec : ChangeSpec := { name := "ledgerPays", fn := fun _ => fun
  | [d1, d2] => { results := [.lit (.bool true)], args := [d1, d2] }
  | _ => none }
def ledgerPaysRow : OpenClaim := { program := "ytcfenjpdjogmdaagreat", sum := "b3f41b2196e939a21531b100abcd20d92cd0c966ea4536604a2bd74a7d775767", func := "quorum/quorumlaw2.LedgerPays", spec := "ledgerPays", unfollowed := true, recurses := true, apart := false }
def LedgerPaysSaid : Prop := ledgerPaysRow.holds Tryz.pinned (OpenSpec.ofChange ledgerPaysSpec)

/-- ITS FALSE NEIGHBOUR: 'it returns false'. Refute it at one input. -/
def ledgerPaysWrong : ChangeSpec := { name := "ledgerPays", fn := fun _ => fun
  | [d1, d2] => { results := [.lit (.bool false)], args := [d1, d2] }
  | _ => none }
def LedgerPaysWrongFalsely : Prop := ledgerPaysRow.holds Tryz.pinned (OpenSpec.ofChange ledgerPaysWrong)

/-- 'quorumlaw2.LedgerMarks': WHATEVER THE INPUT: true; the input reads as it did. -/
def ledgerMarksSpec : ChangeSpec := { name := "ledgerMarks", fn := fun _ => fun
  | [d1, d2] => { results := [.lit (.bool true)], args := [d1, d2] }
  | _ => none }
def ledgerMarksRow : OpenClaim := { program := "ytcfenjpdjogmdaagreat", sum := "b3f41b2196e939a21531b100abcd20d92cd0c966ea4536604a2bd74a7d775767", func := "quorum/quorumlaw2.LedgerMarks", spec := "ledgerMarks", unfollowed := true, recurses := true, apart := false }
def LedgerMarksSaid : Prop := ledgerMarksRow.holds Tryz.pinned (OpenSpec.ofChange ledgerMarksSpec)

/-- ITS FALSE NEIGHBOUR: 'it returns false'. Refute it at one input. -/
def ledgerMarksWrong : ChangeSpec := { name := "ledgerMarks", fn := fun _ => fun
  | [d1, d2] => { results := [.lit (.bool false)], args := [d1, d2] }
  | _ => none }
def LedgerMarksWrongFalsely : Prop := ledgerMarksRow.holds Tryz.pinned (OpenSpec.ofChange ledgerMarksWrong)

/-- 'quorumlaw2.LedgerTells': WHATEVER THE INPUT: true; the input reads as it did. -/
def ledgerTellsSpec : ChangeSpec := { name := "ledgerTells", fn := fun _ => fun
  | [d1, d2] => { results := [.lit (.bool true)], args := [d1, d2] }
  | _ => none }
def ledgerTellsRow : OpenClaim := { program := "ytcfenjpdjogmdaagreat", sum := "b3f41b2196e939a21531b100abcd20d92cd0c966ea4536604a2bd74a7d775767", func := "quorum/quorumlaw2.LedgerTells", spec := "ledgerTells", unfollowed := true, recurses := true, apart := false }
def LedgerTellsSaid : Prop := ledgerTellsRow.holds Tryz.pinned (OpenSpec.ofChange ledgerTellsSpec)

/-- ITS FALSE NEIGHBOUR: 'it returns false'. Refute it at one input. -/
def ledgerTellsWrong : ChangeSpec := { name := "ledgerTells", fn := fun _ => fun
  | [d1, d2] => { results := [.lit (.bool false)], args := [d1, d2] }
  | _ => none }
def LedgerTellsWrongFalsely : Prop := ledgerTellsRow.holds Tryz.pinned (OpenSpec.ofChange ledgerTellsWrong)

/- THE SECOND FORM. 'bulk': how many values and letters a reading holds, each counted each time it is reached (what is shared counts as often as it is met; a slice's spare places count too). A statement '..UptoSaid' is the law's where the arguments, and the package variables that the reading takes, are together of bulk at most 1048576: NARROWER than '..Said'. Prove '..Said' where nothing that the law and all that it calls make is longer than what came in: it says more and counts as full. Else prove '..UptoSaid'. A law counts once. -/
mutual
def uptoBulk {H : Type} : DataW H → Nat
  | .lit (.string bytes) => bytes.length + 1
  | .lit _ => 1
  | .nil => 1
  | .ptr d => uptoBulk d + 1
  | .slice elems spare => uptoBulkAll elems + uptoBulkAll spare + 1
  | .agg parts => uptoBulkAll parts + 1
  | .iface _ d => uptoBulk d + 1
  | .map entries => uptoBulkEntries entries + 1
  | .held _ => 1
def uptoBulkAll {H : Type} : List (DataW H) → Nat
  | [] => 0
  | d :: r => uptoBulk d + uptoBulkAll r
def uptoBulkEntries {H : Type} : List (Lit × DataW H) → Nat
  | [] => 0
  | x :: r => uptoBulkEntry x + uptoBulkEntries r
def uptoBulkEntry {H : Type} : Lit × DataW H → Nat
  | (.string bytes, d) => bytes.length + uptoBulk d + 1
  | (_, d) => uptoBulk d + 1
 end
def uptoSmall : (H : Type) → List (DataW H) → Bool := fun _ ds => decide (uptoBulkAll ds ≤ 1048576)
def OpenSpec.upto (s : _root_.Go.ChangeSpec) : _root_.Go.OpenSpec := { _root_.Go.OpenSpec.ofChange s with cond := some uptoSmall }

/-- 'quorumlaw2.LedgerAnew', WHERE WHAT IT READS IS OF BULK AT MOST 1048576: true; the input reads as it did. -/
def ledgerAnewUptoRow : OpenClaim := { program := "ytcfenjpdjogmdaagreat", sum := "b3f41b2196e939a21531b100abcd20d92cd0c966ea4536604a2bd74a7d775767", func := "quorum/quorumlaw2.LedgerAnew", spec := "ledgerAnew", unfollowed := true, recurses := true, apart := false, narrowed := true }
def LedgerAnewUptoSaid : Prop := ledgerAnewUptoRow.holds Tryz.pinned (OpenSpec.upto ledgerAnewSpec)

/-- 'quorumlaw2.LedgerPays', WHERE WHAT IT READS IS OF BULK AT MOST 1048576: true; the input reads as it did. -/
def ledgerPaysUptoRow : OpenClaim := { program := "ytcfenjpdjogmdaagreat", sum := "b3f41b2196e939a21531b100abcd20d92cd0c966ea4536604a2bd74a7d775767", func := "quorum/quorumlaw2.LedgerPays", spec := "ledgerPays", unfollowed := true, recurses := true, apart := false, narrowed := true }
def LedgerPaysUptoSaid : Prop := ledgerPaysUptoRow.holds Tryz.pinned (OpenSpec.upto ledgerPaysSpec)

/-- 'quorumlaw2.LedgerMarks', WHERE WHAT IT READS IS OF BULK AT MOST 1048576: true; the input reads as it did. -/
def ledgerMarksUptoRow : OpenClaim := { program := "ytcfenjpdjogmdaagreat", sum := "b3f41b2196e939a21531b100abcd20d92cd0c966ea4536604a2bd74a7d775767", func := "quorum/quorumlaw2.LedgerMarks", spec := "ledgerMarks", unfollowed := true, recurses := true, apart := false, narrowed := true }
def LedgerMarksUptoSaid : Prop := ledgerMarksUptoRow.holds Tryz.pinned (OpenSpec.upto ledgerMarksSpec)

/-- 'quorumlaw2.LedgerTells', WHERE WHAT IT READS IS OF BULK AT MOST 1048576: true; the input reads as it did. -/
def ledgerTellsUptoRow : OpenClaim := { program := "ytcfenjpdjogmdaagreat", sum := "b3f41b2196e939a21531b100abcd20d92cd0c966ea4536604a2bd74a7d775767", func := "quorum/quorumlaw2.LedgerTells", spec := "ledgerTells", unfollowed := true, recurses := true, apart := false, narrowed := true }
def LedgerTellsUptoSaid : Prop := ledgerTellsUptoRow.holds Tryz.pinned (OpenSpec.upto ledgerTellsSpec)

end Rows
end Go.Proofs.YtcfenjpdjogmdaaGreat
