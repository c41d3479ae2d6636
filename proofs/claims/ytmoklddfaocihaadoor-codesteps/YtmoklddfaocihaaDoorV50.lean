import Derived.Test.YtmoklddfaocihaaDoorV34
import Derived.Test.YtmoklddfaocihaaDoorV19
namespace Go.Proofs.YtmoklddfaocihaaDoor
open Go.RowKit

theorem eqItemsQ (xs : Array Value) (w : World) : ∀ is : List Nat, (∀ i ∈ is, ∃ x, xs[i * 1]? = some (.int .u64 x)) → (Op.eqItems 9998 42 1 xs xs is).run Tryd.prog w = .ok true w
 | [], _ => rfl
 | i :: is, h => by
  obtain ⟨x, hx⟩ := h i (by simp)
  have ih := eqItemsQ xs w is (fun j hj => h j (by simp [hj]))
  have hp := run_part_plain (P := Tryd.prog) w (e := 42) (by kernel_rfl) hx
  have he : (Op.equalIn 9998 42 (.int .u64 x) (.int .u64 x)).run Tryd.prog w = .ok true w := by
   rw [show 9998 = 9997 + 1 from rfl, run_equalIn_int w 9997 42 .u64 .u64 x x Tryd.underlying42]
   simp
  simp only [Op.eqItems, Sem.run_bind, hp, Result.andThen_ok, he, Bool.not_true, Bool.false_eq_true, if_false, ih]
theorem eqPaidQ (a0 a1 a2 : Int) (w : World) : (Op.equalIn 9999 46 (.agg #[.int .u64 a0, .int .u64 a1, .int .u64 a2]) (.agg #[.int .u64 a0, .int .u64 a1, .int .u64 a2])).run Tryd.prog w = .ok true w := by
 obtain ⟨i0, hi, hz0, hz1, hz2⟩ := info_parts Tryd.infoU
 have hc : Tryd.prog.cellsOf 42 = 1 := by kernel_rfl
 rw [show 9999 = 9998 + 1 from rfl, run_equalIn_array w 9998 _ _ Tryd.underlying46 hi, hc]
 refine eqItemsQ _ w _ (fun i hm => ?_)
 have : i < 3 := by simpa using hm
 match i, this with
 | 0, _ => exact ⟨_, rfl⟩
 | 1, _ => exact ⟨_, rfl⟩
 | 2, _ => exact ⟨_, rfl⟩
/-- Two machines as the law drives them. -/
structure Dv (W : World) (pm pv : Value) (J : Ms → World → Prop) : Prop where
 bel : ∀ s w, J s w → Below W.heap.size W w
 next : ∀ s w w', J s w → Below w.heap.size w w' → J s w'
 o1 : ∀ s w, J s w → Calls Tryd.prog 18 #[pv] w fun e w' => e = .returned (.tuple #[.agg (outO s), .bool s.ov]) ∧ Hid (Below w.heap.size w w')
 o2 : ∀ s w, J s w → Calls Tryd.prog 19 #[pm] w fun e w' => e = .returned (.tuple #[.agg (outO s), .bool s.ov]) ∧ Hid (Below w.heap.size w w')
 st : ∀ s w, J s w → Calls Tryd.prog 21 #[pv] w fun e w1 => ∃ A : Array Value, e = .returned (.agg A) ∧ Hid (Below w.heap.size w w1 ∧ Calls Tryd.prog 20 #[pm, .agg A] w1 fun e w2 => e = .returned (.bool true) ∧ Hid (Below w1.heap.size w1 w2))
 sp : ∀ s w, J s w → Calls Tryd.prog 22 #[pv] w fun e w1 => ∃ b, e = .returned (.bool b) ∧ Hid (Calls Tryd.prog 23 #[pm] w1 fun e w2 => e = .returned (.bool b) ∧ Hid (∃ s', J s' w2))
theorem outO_six (s : Ms) : ∃ E0 E1 E2 E3 E4 E5, outO s = #[.int .i64 E0, .int .u64 E1, .int .u64 E2, .int .u64 E3, .int .u64 E4, .int .u64 E5] := by
 unfold outO
 cases s.ov with
 | true => exact ⟨_, _, _, _, _, _, rfl⟩
 | false => exact ⟨_, _, _, _, _, _, rfl⟩
/-- The cells of a machine that no call made. -/
def zM : List Value := (cellsM ⟨.slice none 0 0, .slice none 0 0, fun _ => 0, fun _ => 0, 0, fun _ => 0, 0⟩ (mk0 0 0)).set 0 (.bool false)
def zR : List Value := [.bool false, .slice none 0 0, .slice none 0 0, .int .i64 0, .int .i64 0, .int .i64 0, .int .i64 0, .int .i64 0, .int .i64 0, .slice none 0 0, .int .u64 0, .int .u64 0, .int .u64 0, .int .u64 0, .int .u64 0, .int .u64 0, .int .u64 0, .bool false, .int .i64 0, .slice none 0 0, .slice none 0 0, .int .u64 0, .int .u64 0, .int .u64 0, .int .u64 0, .bool false, .int .i64 0, .int .i64 0]
theorem build_zm (w : World) : (Instr.build 61 #[]).run Tryd.prog w = .ok (.agg zM.toArray) w := by kernel_rfl
theorem build_zr (w : World) : (Instr.build 67 #[]).run Tryd.prog w = .ok (.agg zR.toArray) w := by kernel_rfl
theorem zM0 : zM[0]? = some (.bool false) := by kernel_rfl
theorem zM411 : zM[411]? = some (.bool false) := by kernel_rfl
/-- The calls of the law, one behind another. -/
def ChSp (W : World) (P : Array Value) (pm pv : Value) (w : World) : Prop := Calls Tryd.prog 12 #[.agg P] w fun x w' => x = .returned (.tuple #[]) ∧ Hid (∃ J s, Dv W pm pv J ∧ J s w')
def ChA1 (W : World) (F : Value) (w : World) : Prop := Calls Tryd.prog 17 #[F] w fun x w' => x = .returned (.bool true) ∧ Hid (Below W.heap.size W w')
def ChA2 (W : World) (P : Array Value) (pm pv F : Value) (w : World) : Prop := Calls Tryd.prog 17 #[F] w fun x w' => x = .returned (.bool false) ∧ Hid (Below w.heap.size w w' ∧ ChSp W P pm pv w')
def ChIs (v F : Value) (w : World) (K : World → Prop) : Prop := Calls Tryd.prog 10 #[v, F] w fun x w' => x = .returned (.bool true) ∧ Hid (Below w.heap.size w w' ∧ K w')
def ChLd (W : World) (P : Array Value) (pv : Value) (ev : Int) (E : Array Value) (fuel : Int) (F : Value) (w : World) : Prop := Calls Tryd.prog 16 #[.agg P, .int .i64 ev, .agg E, .int .u64 fuel] w fun x w' => (∃ v, x = .returned (.tuple #[.pointer none, v]) ∧ Hid (Below w.heap.size w w' ∧ ChIs v F w' (ChA1 W F))) ∨ ∃ mb v, x = .returned (.tuple #[.pointer (some ⟨mb, 0, none⟩), v]) ∧ Hid (Below w.heap.size w w' ∧ ChIs v F w' (ChA2 W P (.pointer (some ⟨mb, 0, none⟩)) pv F))
def ChLn (W : World) (g : Pg) (p : Pv) (pv : Value) (ev : Int) (E : Array Value) (fuel : Int) (F : Value) (w : World) : Prop := Calls Tryd.prog 7 #[.agg (g.cs p).toArray] w fun x w' => ∃ g' : Pg, x = .returned (.agg (g'.cs p).toArray) ∧ Hid (Below w.heap.size w w' ∧ ChLd W (g'.cs p).toArray pv ev E fuel F (w'.alloc (.cells (g'.cs p).toArray 27)))
def Ch0 (W : World) (g : Pg) (p : Pv) (ev : Int) (E : Array Value) (fuel : Int) (w : World) : Prop := Calls Tryd.prog 15 #[.agg (g.cs p).toArray, .int .i64 ev, .agg E, .int .u64 fuel] w fun x w' => ∃ pv ao n cap y, x = .returned (.tuple #[pv, .agg #[.slice ao n cap, .int .i64 y]]) ∧ Hid (Below w.heap.size w w' ∧ ChLn W g p pv ev E fuel (.agg #[.slice ao n cap, .int .i64 y]) (w'.alloc (.cells #[.slice ao n cap, .int .i64 y] 30)))
end Go.Proofs.YtmoklddfaocihaaDoor
