import Derived.Test.YtneginefcloceaaBJoin
import Derived.Test.YtneginefcloceaaBKd
namespace Go.Proofs.Ytneginefcloceaa
open Go.RowKit

section
variable {P : Program} {ops : Array Oper} {Q : Exit → Act → World → Prop} {a : Act} {w : World}
/-- A region's operations, the first n first. -/
theorem wpList_split (n : Nat) {L : List Oper} (h : ∀ R : Act → World → Prop, Hid (∀ a w, wpList P ops Q (L.drop n) a w → R a w) → wpList P ops (OnlyN R) (L.take n) a w) : wpList P ops Q L a w := by
  have e := wpList_join (P := P) (ops := ops) (Q := Q) (R := wpList P ops Q (L.drop n)) (l2 := L.drop n) (fun _ _ h => h) (L.take n) a w (h _ (fun _ _ h => h))
  rw [List.take_append_drop] at e
  exact e
end
/-- An operation with a known run. -/
theorem op_value {P : Program} {o : Oper} {a : Act} {w w' : World} {K : Act → World → Prop} {Q : Exit → Act → World → Prop} {v : Value} (e : (execOp a.eval o).run P w = .ok (.value v) w') (h : K (a.put o.dst v) w') : Oper.wp P o a w K Q := by
  unfold Oper.wp
  rw [e]
  exact h
theorem op_pure {P : Program} {o : Oper} {a : Act} {w : World} {K : Act → World → Prop} {Q : Exit → Act → World → Prop} {v : Value} (e : (execOp a.eval o).run P w = .ok (.value v) w) (h : K (a.put o.dst v) w) : Oper.wp P o a w K Q := op_value e h
theorem exec_build {P : Program} {o : Oper} {a : Act} {w : World} {t : TypeId} {parts : Array (Nat × Operand)} {V : Value} (ho : o.op = .build t parts) (h : (Instr.build t (parts.map fun x => (x.1, a.eval x.2))).run P w = .ok V w) : (execOp a.eval o).run P w = .ok (.value V) w := by
  unfold execOp
  simp only [ho, Sem.run_bind, h, Result.andThen_ok, Sem.run_pure]
theorem wpList_pure {P : Program} {ops : Array Oper} {rest : List Oper} {op : Oper} {a : Act} {w : World} {Q : Exit → Act → World → Prop} {v : Value} (hgd : op.guard = none) (e : (execOp a.eval op).run P w = .ok (.value v) w) (h : wpList P ops Q rest (a.put op.dst v) w) : wpList P ops Q (op :: rest) a w :=
  wpList_plain hgd fun _ hK => op_pure e (hK _ _ h)
theorem grown_setCells (b : Nat) : ∀ (vs : List Value) (o : Nat) (w : World), w.grownBy (w.setCells b o vs) (some b)
  | [], _, w => ⟨rfl, rfl, rfl, Nat.le_refl _, fun _ _ _ => rfl⟩
  | v :: r, o, w => by
    rw [World.setCells]
    exact grown_trans (row := some b) (grown_set w b o v) (grown_setCells b r (o + 1) _)
theorem there_new {w : World} {Z : Array Value} {t : TypeId} {n : Nat} (h : n ≤ Z.size) : (w.alloc (.cells Z t)).there w.heap.size 0 n := fun j hj => by
  have hb := alloc_atK w (.cells Z t)
  rw [Nat.zero_add, block_cell hb j]
  exact ⟨by rw [Array.getElem?_eq_getElem (by omega)]; rfl, block_free hb j⟩
theorem below_setCells {B b o : Nat} {w W : World} {vs : List Value} (h : Below B w W) (hb : B ≤ b) (hB : B ≤ W.heap.size) : Below B w (W.setCells b o vs) := h.grown (grown_setCells b vs o W) hB (fun k e => by cases e; exact hb)
end Go.Proofs.Ytneginefcloceaa
