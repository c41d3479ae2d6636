import Derived.Test.YtldhafpeigdloaaGreatDoorM26
import Derived.StillTailTactics
import Derived.Deep.MidRow
import Derived.ChangeKeysEq
namespace Go.Proofs.YtldhafpeigdloaaGreatDoor
open Go.RowKit Crc

def Z32 : List Value := List.replicate 32 (.int .u8 0)
theorem z32_at (num : Nat) (node : Int) (slot st : Nat) (bv dv : Value) (j : Nat) (v : Value) (hv : Z32[j]? = some v) : (msgR num node slot st bv dv)[16 + j]? = some v := by
  have hj : j < 32 := by have := (List.getElem?_eq_some_iff.1 hv).1; simpa [Z32] using this
  have h2 : msgR num node slot st bv dv = [.int .i64 0, .int .u64 (num : Int), .int .i64 node, .int .u64 (slot : Int), .int .u64 0, .slice none 0 0, .int .u64 (st : Int), bv, .int .u64 0, .int .u64 0, .int .i64 0, .slice none 0 0, dv, .bool false, .int .u64 0, .int .u64 0] ++ (List.replicate 32 (.int .u8 0) ++ [.slice none 0 0]) := rfl
  rw [h2, List.getElem?_append_right (by simp), List.getElem?_append_left (by simp; omega)]
  show (List.replicate 32 (Value.int .u8 0))[16 + j - 16]? = some v
  rw [Nat.add_sub_cancel_left]
  exact hv

theorem hash_eq (w : World) : (binOp BinOp.eql 33 (.agg Z32.toArray) (.agg #[.int .u8 0, .int .u8 0, .int .u8 0, .int .u8 0, .int .u8 0, .int .u8 0, .int .u8 0, .int .u8 0, .int .u8 0, .int .u8 0, .int .u8 0, .int .u8 0, .int .u8 0, .int .u8 0, .int .u8 0, .int .u8 0, .int .u8 0, .int .u8 0, .int .u8 0, .int .u8 0, .int .u8 0, .int .u8 0, .int .u8 0, .int .u8 0, .int .u8 0, .int .u8 0, .int .u8 0, .int .u8 0, .int .u8 0, .int .u8 0, .int .u8 0, .int .u8 0])).run Tryz.prog w = .ok (.bool true) w := by kernel_rfl
theorem bal_eq (a : Int) (b : Int) (w : World) : (binOp BinOp.eql 25 (.agg #[.int .u64 a, .int .i64 b]) (.agg #[.int .u64 0, .int .i64 0])).run Tryz.prog w = .ok (.bool (decide (a = 0) && decide (b = 0))) w := by
  by_cases h1 : a = 0
  · subst h1
    by_cases h2 : b = 0
    · subst h2; kernel_rfl
    · go_simp
  · go_simp
theorem hash_eqL (w : World) : (binOp BinOp.eql 33 (.agg #[.int .u8 0, .int .u8 0, .int .u8 0, .int .u8 0, .int .u8 0, .int .u8 0, .int .u8 0, .int .u8 0, .int .u8 0, .int .u8 0, .int .u8 0, .int .u8 0, .int .u8 0, .int .u8 0, .int .u8 0, .int .u8 0, .int .u8 0, .int .u8 0, .int .u8 0, .int .u8 0, .int .u8 0, .int .u8 0, .int .u8 0, .int .u8 0, .int .u8 0, .int .u8 0, .int .u8 0, .int .u8 0, .int .u8 0, .int .u8 0, .int .u8 0, .int .u8 0]) (.agg #[.int .u8 0, .int .u8 0, .int .u8 0, .int .u8 0, .int .u8 0, .int .u8 0, .int .u8 0, .int .u8 0, .int .u8 0, .int .u8 0, .int .u8 0, .int .u8 0, .int .u8 0, .int .u8 0, .int .u8 0, .int .u8 0, .int .u8 0, .int .u8 0, .int .u8 0, .int .u8 0, .int .u8 0, .int .u8 0, .int .u8 0, .int .u8 0, .int .u8 0, .int .u8 0, .int .u8 0, .int .u8 0, .int .u8 0, .int .u8 0, .int .u8 0, .int .u8 0])).run Tryz.prog w = .ok (.bool true) w := by kernel_rfl
theorem still_load_mid {P : Program} {ops : Array Oper} {w : World} {Q : Act → Prop} {o : Oper} {rest : List Oper} {a : Act} (hw : Region.wanted o (yielded ops a.tmps) = true) (ty : TypeId) (x : Operand) (ho : o.op = .load ty x) (b off : Nat) (hx : a.eval x = .pointer (some ⟨b, off, none⟩)) (cs : List Value) (d : TypeDesc) (hc : w.rangeAt b off cs) (hu : P.underlying ty = some d) (hd : d.isRow = true) (hi : (P.info? ty).map (·.size) = some cs.length) (h : wpStill P ops w Q rest (a.put o.dst (.agg cs.toArray))) : wpStill P ops w Q (o :: rest) a := by
  have e : (execOp a.eval o).run P w = .ok (.value (.agg cs.toArray)) w := by
    unfold execOp
    simp only [ho, hx, Instr.loadAt, Instr.sureAddr, Sem.run_bind, Sem.run_pure, Result.andThen_ok, run_loadVar_mid w b off ty cs d hc hu hd hi]
  unfold wpStill Oper.still
  rw [if_pos hw, e, Oper.stillUpon_value]
  exact h
theorem wpList_world {P : Program} {ops : Array Oper} {Q : Exit → Act → World → Prop} {l : List Oper} {a : Act} {w w' : World} (e : w = w') (h : wpList P ops Q l a w') : wpList P ops Q l a w := by rw [e]; exact h
theorem still_world {P : Program} {ops : Array Oper} {w X : World} {Q : Exit → Act → World → Prop} {l r : List Oper} {a : Act} (hX : w.drew = X) (h : wpStill P ops X (fun a' => wpList P ops Q r a' X) l a) : wpStill P ops { w with drawn := w.drawn + 1 } (fun a' => wpList P ops Q r a' { w with drawn := w.drawn + 1 }) l a := by
  subst hX
  exact h
end Go.Proofs.YtldhafpeigdloaaGreatDoor
namespace Go.Proofs.YtldhafpeigdloaaGreatDoor
open Go.RowKit Crc

theorem vals_getA {a : List Nat} {i : Nat} (h : i < a.length) : (vals a).toArray[i]? = some (.int .u8 ((a.getD i 0 : Nat) : Int)) := by
  rw [List.getElem?_toArray]
  simp [vals, List.getElem?_map, List.getElem?_eq_getElem h, List.getD]
theorem items_run (a b : List Nat) (d : Nat) (w : World) : ∀ is : List Nat, (∀ i ∈ is, i < a.length ∧ i < b.length) → (Op.eqItems (d + 1) 5 1 (vals a).toArray (vals b).toArray is).run Tryz.prog w = .ok (decide (∀ i ∈ is, a.getD i 0 = b.getD i 0)) w
  | [], _ => by simp [Op.eqItems]
  | i :: is, h => by
    have hp : Tryz.prog.plainKey 5 = true := by kernel_rfl
    have hu : Tryz.prog.underlying 5 = some (.int .u8) := by kernel_rfl
    have h1 := run_part_plain (P := Tryz.prog) w hp (off := i * 1) (by rw [Nat.mul_one]; exact vals_getA (h i (by simp)).1)
    have h2 := run_part_plain (P := Tryz.prog) w hp (off := i * 1) (by rw [Nat.mul_one]; exact vals_getA (h i (by simp)).2)
    have h3 := run_equalIn_int (P := Tryz.prog) w d 5 .u8 .u8 ((a.getD i 0 : Nat) : Int) ((b.getD i 0 : Nat) : Int) hu
    have ih := items_run a b d w is (fun j hj => h j (by simp [hj]))
    simp only [Op.eqItems, Sem.run_bind, h1, h2, h3, Result.andThen_ok]
    by_cases e : a.getD i 0 = b.getD i 0
    · have e1 : (((a.getD i 0 : Nat) : Int) == ((b.getD i 0 : Nat) : Int)) = true := by simp only [beq_iff_eq]; omega
      rw [e1, if_neg (by simp), ih]
      refine congrArg (fun b => Result.ok b w) (decide_eq_decide.2 ?_)
      simp only [List.mem_cons, forall_eq_or_imp, e, true_and]
    · have e1 : (((a.getD i 0 : Nat) : Int) == ((b.getD i 0 : Nat) : Int)) = false := by simp only [beq_eq_false_iff_ne, ne_eq]; omega
      rw [e1, if_pos (by simp)]
      have : ¬ ∀ j ∈ i :: is, a.getD j 0 = b.getD j 0 := fun x => e (x i (by simp))
      simp only [this, decide_false, Sem.run_pure]
theorem all_same {a b : List Nat} (ha : a.length = 32) (hb : b.length = 32) : (∀ i ∈ List.range 32, a.getD i 0 = b.getD i 0) ↔ a = b := by
  constructor
  · intro h
    refine List.ext_getElem (by omega) (fun i h1 h2 => ?_)
    have := h i (by simp; omega)
    simpa [List.getD, List.getElem?_eq_getElem h1, List.getElem?_eq_getElem h2] using this
  · rintro rfl _ _; rfl
theorem hash_in {a b : List Nat} (ha : a.length = 32) (hb : b.length = 32) (w : World) : (Op.equalIn 10000 33 (.agg (vals a).toArray) (.agg (vals b).toArray)).run Tryz.prog w = .ok (decide (a = b)) w := by
  have hu : Tryz.prog.underlying 33 = some (.array 32 5) := by kernel_rfl
  obtain ⟨i0, hi, hz0, hz1, hz2⟩ := info_parts Tryz.info5
  have hc : Tryz.prog.cellsOf 5 = 1 := by kernel_rfl
  rw [run_equalIn_array w 9999 _ _ hu hi, hc, items_run a b 9998 w _ (fun i h => by have := List.mem_range.1 h; omega)]
  exact congrArg (fun b => Result.ok b w) (decide_eq_decide.2 (all_same ha hb))
theorem hash_cmp {a b : List Nat} (ha : a.length = 32) (hb : b.length = 32) (w : World) : (binOp BinOp.eql 33 (.agg (vals a).toArray) (.agg (vals b).toArray)).run Tryz.prog w = .ok (.bool (decide (a = b))) w := by
  rw [run_eql_struct, hash_in ha hb]; rfl
theorem hash_ncmp {a b : List Nat} (ha : a.length = 32) (hb : b.length = 32) (w : World) : (binOp BinOp.neq 33 (.agg (vals a).toArray) (.agg (vals b).toArray)).run Tryz.prog w = .ok (.bool (!decide (a = b))) w := by
  rw [run_neq_struct, hash_in ha hb]; rfl
theorem hash_zero {a : List Nat} (ha : a.length = 32) (w : World) : (binOp BinOp.eql 33 (.agg (vals a).toArray) (.agg #[.int .u8 0, .int .u8 0, .int .u8 0, .int .u8 0, .int .u8 0, .int .u8 0, .int .u8 0, .int .u8 0, .int .u8 0, .int .u8 0, .int .u8 0, .int .u8 0, .int .u8 0, .int .u8 0, .int .u8 0, .int .u8 0, .int .u8 0, .int .u8 0, .int .u8 0, .int .u8 0, .int .u8 0, .int .u8 0, .int .u8 0, .int .u8 0, .int .u8 0, .int .u8 0, .int .u8 0, .int .u8 0, .int .u8 0, .int .u8 0, .int .u8 0, .int .u8 0])).run Tryz.prog w = .ok (.bool (decide (a = List.replicate 32 0))) w :=
  hash_cmp ha (b := List.replicate 32 0) (by simp) w
/-- Two ballots. -/
theorem bal_cmp (a c : Int) (b d : Int) (w : World) : (binOp BinOp.neq 25 (.agg #[.int .u64 a, .int .i64 b]) (.agg #[.int .u64 c, .int .i64 d])).run Tryz.prog w = .ok (.bool (!(decide (a = c) && decide (b = d)))) w := by
  by_cases h1 : a = c
  · subst h1
    by_cases h2 : b = d
    · subst h2; go_simp
    · go_simp
  · go_simp
end Go.Proofs.YtldhafpeigdloaaGreatDoor
