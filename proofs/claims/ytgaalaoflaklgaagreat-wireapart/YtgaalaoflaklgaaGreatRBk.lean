import Derived.Test.YtgaalaoflaklgaaGreatM44
import Derived.StillTailTactics
import Derived.Deep.MidRow
namespace Go.Proofs.YtgaalaoflaklgaaGreat
open Go.RowKit Crc

def Z32 : List Value := List.replicate 32 (.int .u8 0)
theorem z32_at (num : Nat) (node : Int) (slot st : Nat) (bv dv : Value) (j : Nat) (v : Value) (hv : Z32[j]? = some v) : (msgR num node slot st bv dv)[16 + j]? = some v := by
  have hj : j < 32 := by have := (List.getElem?_eq_some_iff.1 hv).1; simpa [Z32] using this
  have h2 : msgR num node slot st bv dv = [.int .i64 0, .int .u64 (num : Int), .int .i64 node, .int .u64 (slot : Int), .int .u64 0, .slice none 0 0, .int .u64 (st : Int), bv, .int .u64 0, .int .u64 0, .int .i64 0, .slice none 0 0, dv, .bool false, .int .u64 0, .int .u64 0] ++ (List.replicate 32 (.int .u8 0) ++ [.slice none 0 0]) := rfl
  rw [h2, List.getElem?_append_right (by simp), List.getElem?_append_left (by simp; omega)]
  show (List.replicate 32 (Value.int .u8 0))[16 + j - 16]? = some v
  rw [Nat.add_sub_cancel_left]
  exact hv

theorem hash_eq (w : World) : (binOp BinOp.eql 80 (.agg Z32.toArray) (.agg #[.int .u8 0, .int .u8 0, .int .u8 0, .int .u8 0, .int .u8 0, .int .u8 0, .int .u8 0, .int .u8 0, .int .u8 0, .int .u8 0, .int .u8 0, .int .u8 0, .int .u8 0, .int .u8 0, .int .u8 0, .int .u8 0, .int .u8 0, .int .u8 0, .int .u8 0, .int .u8 0, .int .u8 0, .int .u8 0, .int .u8 0, .int .u8 0, .int .u8 0, .int .u8 0, .int .u8 0, .int .u8 0, .int .u8 0, .int .u8 0, .int .u8 0, .int .u8 0])).run Tryz.prog w = .ok (.bool true) w := by kernel_rfl
theorem bal_eq (a : Int) (b : Int) (w : World) : (binOp BinOp.eql 28 (.agg #[.int .u64 a, .int .i64 b]) (.agg #[.int .u64 0, .int .i64 0])).run Tryz.prog w = .ok (.bool (decide (a = 0) && decide (b = 0))) w := by
  by_cases h1 : a = 0
  · subst h1
    by_cases h2 : b = 0
    · subst h2; kernel_rfl
    · go_simp
  · go_simp
theorem hash_eqL (w : World) : (binOp BinOp.eql 80 (.agg #[.int .u8 0, .int .u8 0, .int .u8 0, .int .u8 0, .int .u8 0, .int .u8 0, .int .u8 0, .int .u8 0, .int .u8 0, .int .u8 0, .int .u8 0, .int .u8 0, .int .u8 0, .int .u8 0, .int .u8 0, .int .u8 0, .int .u8 0, .int .u8 0, .int .u8 0, .int .u8 0, .int .u8 0, .int .u8 0, .int .u8 0, .int .u8 0, .int .u8 0, .int .u8 0, .int .u8 0, .int .u8 0, .int .u8 0, .int .u8 0, .int .u8 0, .int .u8 0]) (.agg #[.int .u8 0, .int .u8 0, .int .u8 0, .int .u8 0, .int .u8 0, .int .u8 0, .int .u8 0, .int .u8 0, .int .u8 0, .int .u8 0, .int .u8 0, .int .u8 0, .int .u8 0, .int .u8 0, .int .u8 0, .int .u8 0, .int .u8 0, .int .u8 0, .int .u8 0, .int .u8 0, .int .u8 0, .int .u8 0, .int .u8 0, .int .u8 0, .int .u8 0, .int .u8 0, .int .u8 0, .int .u8 0, .int .u8 0, .int .u8 0, .int .u8 0, .int .u8 0])).run Tryz.prog w = .ok (.bool true) w := by kernel_rfl
theorem still_load_mid {P : Program} {ops : Array Oper} {w : World} {Q : Act → Prop} {o : Oper} {rest : List Oper} {a : Act} (hw : Region.wanted o (yielded ops a.tmps) = true) (ty : TypeId) (x : Operand) (ho : o.op = .load ty x) (b off : Nat) (hx : a.eval x = .pointer (some ⟨b, off, none⟩)) (cs : List Value) (d : TypeDesc) (hc : w.rangeAt b off cs) (hu : P.underlying ty = some d) (hd : d.isRow = true) (hi : (P.info? ty).map (·.size) = some cs.length) (h : wpStill P ops w Q rest (a.put o.dst (.agg cs.toArray))) : wpStill P ops w Q (o :: rest) a := by
  have e : (execOp a.eval o).run P w = .ok (.value (.agg cs.toArray)) w := by
    unfold execOp
    simp only [ho, hx, Instr.loadAt, Instr.sureAddr, Sem.run_bind, Sem.run_pure, Result.andThen_ok, run_loadVar_mid w b off ty cs d hc hu hd hi]
  unfold wpStill Oper.still
  rw [if_pos hw, e, Oper.stillUpon_value]
  exact h
theorem wpList_world {P : Program} {ops : Array Oper} {Q : Exit → Act → World → Prop} {l : List Oper} {a : Act} {w w' : World} (e : w = w') (h : wpList P ops Q l a w') : wpList P ops Q l a w := by rw [e]; exact h
theorem still_world {P : Program} {ops : Array Oper} {w X : World} {Q : Exit → Act → World → Prop} {l r : List Oper} {a : Act} (hX : w.drew = X) (h : wpStill P ops X (fun a' => wpList P ops Q r a' X) l a) : wpStill P ops { w with drawn := w.drawn + 1 } (fun a' => wpList P ops Q r a' { w with drawn := w.drawn + 1 }) l a := by
  subst hX
  exact h
end Go.Proofs.YtgaalaoflaklgaaGreat
