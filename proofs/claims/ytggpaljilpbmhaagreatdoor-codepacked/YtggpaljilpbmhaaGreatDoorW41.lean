import Derived.Test.YtggpaljilpbmhaaGreatDoorW40
import Derived.Test.YtggpaljilpbmhaaGreatDoorW05
namespace Go.Proofs.YtggpaljilpbmhaaGreatDoor
open Go.RowKit

section
variable {P : Program} {ops : Array Oper} {Q : Exit → Act → World → Prop} {a : Act} {w : World}
end
theorem exec_build {P : Program} {o : Oper} {a : Act} {w : World} {t : TypeId} {parts : Array (Nat × Operand)} {V : Value} (ho : o.op = .build t parts) (h : (Instr.build t (parts.map fun x => (x.1, a.eval x.2))).run P w = .ok V w) : (execOp a.eval o).run P w = .ok (.value V) w := by
 unfold execOp
 simp only [ho, Sem.run_bind, h, Result.andThen_ok, Sem.run_pure]
theorem grown_setCells (b : Nat) : ∀ (vs : List Value) (o : Nat) (w : World), w.grownBy (w.setCells b o vs) (some b)
 | [], _, w => ⟨rfl, rfl, rfl, Nat.le_refl _, fun _ _ _ => rfl⟩
 | v :: r, o, w => by
  rw [World.setCells]
  exact grown_trans (row := some b) (grown_set w b o v) (grown_setCells b r (o + 1) _)
end Go.Proofs.YtggpaljilpbmhaaGreatDoor
