import Derived.Test.YtggpaljilpbmhaaGreatDoorW39
import Derived.Test.YtggpaljilpbmhaaGreatDoorW49
import Derived.Test.YtggpaljilpbmhaaGreatDoorW42
namespace Go.Proofs.YtggpaljilpbmhaaGreatDoor
open Go.RowKit Go.Sort

theorem grew_of {f : FuncId} {args : Array Value} {w : World} {v : Value} (h : ∀ w1, Calls Tryz.prog f args w1 fun e w' => e = .returned v ∧ Hid (Below w1.heap.size w1 w')) (d : Nat) (os : Array Obj) :
  Calls Tryz.prog f args (grow (redrawn w d) os) fun e w'' => e = .returned v ∧ ∃ p : Regrown, w'' = grow (redrawn w p.d) p.os :=
 Calls.regrown_of ((h _).mono fun _ _ hh => ⟨hh.1, hh.2.out⟩)
/-- An environment. -/
structure En where
 (x0 x1 x2 x3 x4 x5 x6 : Int) (x7 : Bool)
def En.cs (e : En) : List Value := [.int .u64 e.x0, .int .u64 e.x1, .int .u64 e.x2, .int .u64 e.x3, .int .u64 e.x4, .int .u64 e.x5, .int .u64 e.x6, .bool e.x7]
def En.ek (_ : En) (i : Nat) : Int := if i = 7 then 1 else 0
def En.ev (e : En) (i : Nat) : Int := if i = 0 then e.x0 else if i = 1 then e.x1 else if i = 2 then e.x2 else if i = 3 then e.x3 else if i = 4 then e.x4 else if i = 5 then e.x5 else if i = 6 then e.x6 else bI e.x7
def En.gv (e : En) : List Value := [.int .i64 0, .int .u64 e.x0, .int .i64 0, .int .u64 e.x1, .int .i64 0, .int .u64 e.x2, .int .i64 0, .int .u64 e.x3, .int .i64 0, .int .u64 e.x4, .int .i64 0, .int .u64 e.x5, .int .i64 0, .int .u64 e.x6, .int .i64 1, .int .u64 (bI e.x7)]
set_option maxRecDepth 10000 in
set_option maxHeartbeats 3200000 in
theorem givenC (e : En) (w : World) : Calls Tryz.prog 68 #[.agg e.cs.toArray] w fun x w' => x = .returned (.agg e.gv.toArray) ∧ Hid (Below w.heap.size w w') := by
 have HGV : Hid (e.gv = [.int .i64 0, .int .u64 e.x0, .int .i64 0, .int .u64 e.x1, .int .i64 0, .int .u64 e.x2, .int .i64 0, .int .u64 e.x3, .int .i64 0, .int .u64 e.x4, .int .i64 0, .int .u64 e.x5, .int .i64 0, .int .u64 e.x6, .int .i64 1, .int .u64 (bI e.x7)]) := rfl
 have HCS : e.cs = [.int .u64 e.x0, .int .u64 e.x1, .int .u64 e.x2, .int .u64 e.x3, .int .u64 e.x4, .int .u64 e.x5, .int .u64 e.x6, .bool e.x7] := rfl
 rw [HGV.out, HCS]
 clear HCS HGV
 obtain ⟨x0, x1, x2, x3, x4, x5, x6, x7⟩ := e
 simp only
 obtain ⟨z, hz⟩ : ∃ z : List Value, z = [.int .i64 0, .int .u64 0, .int .i64 0, .int .u64 0, .int .i64 0, .int .u64 0, .int .i64 0, .int .u64 0, .int .i64 0, .int .u64 0, .int .i64 0, .int .u64 0, .int .i64 0, .int .u64 0, .int .i64 0, .int .u64 0] := ⟨_, rfl⟩
 obtain ⟨W1, hW1⟩ : ∃ W1, w.alloc (.cells #[.int .u64 x0, .int .u64 x1, .int .u64 x2, .int .u64 x3, .int .u64 x4, .int .u64 x5, .int .u64 x6, .bool x7] 30) = W1 := ⟨_, rfl⟩
 have B1 : Below w.heap.size w W1 := by rw [← hW1]; exact below_alloc1 w _
 have A1 : W1.heap[w.heap.size]? = some (.cells #[.int .u64 x0, .int .u64 x1, .int .u64 x2, .int .u64 x3, .int .u64 x4, .int .u64 x5, .int .u64 x6, .bool x7] 30 (0, 0)) := by rw [← hW1]; exact alloc_atK _ _
 have S1 : W1.heap.size = w.heap.size + 1 := by rw [← hW1]; simp
 obtain ⟨W2, hW2⟩ : ∃ W2, W1.alloc (.cells z.toArray 135) = W2 := ⟨_, rfl⟩
 have B2 : Below W1.heap.size W1 W2 := by rw [← hW2]; exact below_alloc1 W1 _
 have A2 : W2.heap[w.heap.size + 1]? = some (.cells z.toArray 135 (0, 0)) := by rw [← hW2, ← S1]; exact alloc_atK _ _
 have A1 := (B2.block _ (block_lt A1)).trans A1
 have v0 := block_cell A1 0
 have v1 := block_cell A1 1
 have v2 := block_cell A1 2
 have v3 := block_cell A1 3
 have v4 := block_cell A1 4
 have v5 := block_cell A1 5
 have v6 := block_cell A1 6
 have v7 := block_cell A1 7
 have vl := block_lt A1
 simp at v0 v1 v2 v3 v4 v5 v6 v7
 have HB : Hid (Below w.heap.size w W2) := B1.trans ⟨B2.os, B2.tape, B2.output, B2.size, fun k hk => B2.block k (by omega)⟩
 have HA2 := hide A2
 have HW : Hid ((w.alloc (.cells #[.int .u64 x0, .int .u64 x1, .int .u64 x2, .int .u64 x3, .int .u64 x4, .int .u64 x5, .int .u64 x6, .bool x7] 30)).alloc (.cells z.toArray 135) = W2) := by rw [hW1]; exact hW2
 rw [hz] at HW
 have HZ := hide (congrArg List.length hz)
 clear hW1 hW2 B1 B2 A2 S1 hz A1
 have k0 := cell_regrown v0
 have k1 := cell_regrown v1
 have k2 := cell_regrown v2
 have k3 := cell_regrown v3
 have k4 := cell_regrown v4
 have k5 := cell_regrown v5
 have k6 := cell_regrown v6
 have k7 := cell_regrown v7
 have n0 := grew_of (w := W2) (numberC x0)
 have n1 := grew_of (w := W2) (numberC x1)
 have n2 := grew_of (w := W2) (numberC x2)
 have n3 := grew_of (w := W2) (numberC x3)
 have n4 := grew_of (w := W2) (numberC x4)
 have n5 := grew_of (w := W2) (numberC x5)
 have n6 := grew_of (w := W2) (numberC x6)
 have n7 := grew_of (w := W2) (truthC x7)
 go_enter Tryz.func68, Tryz.ntmps68
 go_upto_region 1 with fail
 rw [HW.out]
 clear HW
 refine wp_region_quiet_tail (C := fun w' => ∃ p : Regrown, w' = grow (redrawn W2 p.d) p.os) 25 (by kernel_rfl) (by kernel_rfl) (grewC_drew W2) ?_
 simp only [List.take_succ_cons, List.take_zero, List.drop_succ_cons, List.drop_zero]
 repeat (quiet_step (first | exact n0 _ _ | exact n1 _ _ | exact n2 _ _ | exact n3 _ _ | exact n4 _ _ | exact n5 _ _ | exact n6 _ _ | exact n7 _ _))
 refine wpQuiet_nil ?_
 intro w8 hw'
 obtain ⟨⟨dq, osq⟩, hw''⟩ := hw'
 have HB8 : Hid (Below W2.heap.size W2 w8) := by rw [hw'']; exact below_regrown W2 dq osq
 clear hw'' k0 k1 k2 k3 k4 k5 k6 k7 n0 n1 n2 n3 n4 n5 n6 n7 v0 v1 v2 v3 v4 v5 v6 v7
 have HA8 := hide ((HB8.out.block _ (block_lt HA2.out)).trans HA2.out)
 refine wpList_store_boxB rfl 135 _ _ rfl (w.heap.size + 1) HA8.out [.int .i64 0, .int .u64 x0, .int .i64 0, .int .u64 x1, .int .i64 0, .int .u64 x2, .int .i64 0, .int .u64 x3, .int .i64 0, .int .u64 x4, .int .i64 0, .int .u64 x5, .int .i64 0, .int .u64 x6, .int .i64 1, .int .u64 (bI x7)] rfl rfl (by simpa using HZ.out.symm) (by kernel_rfl) (by simp [Value.oneCell']) (fun w9 g9 h9 => ?_)
 have HB9 : Hid (Below w.heap.size w w9) := by
  have h1 := HB.out
  have h2 := HB8.out
  exact ⟨g9.os.trans (h2.os.trans h1.os), g9.tape.trans (h2.tape.trans h1.tape), g9.output.trans (h2.output.trans h1.output), Nat.le_trans h1.size (Nat.le_trans h2.size g9.size), fun k hk => (g9.block k (by have := h1.size; have := h2.size; omega) (by simp; omega)).trans ((h2.block k (by have := h1.size; omega)).trans (h1.block k hk))⟩
 have c0 := block_cell h9 0
 have c1 := block_cell h9 1
 have c2 := block_cell h9 2
 have c3 := block_cell h9 3
 have c4 := block_cell h9 4
 have c5 := block_cell h9 5
 have c6 := block_cell h9 6
 have c7 := block_cell h9 7
 have c8 := block_cell h9 8
 have c9 := block_cell h9 9
 have c10 := block_cell h9 10
 have c11 := block_cell h9 11
 have c12 := block_cell h9 12
 have c13 := block_cell h9 13
 have c14 := block_cell h9 14
 have c15 := block_cell h9 15
 simp at c0 c1 c2 c3 c4 c5 c6 c7 c8 c9 c10 c11 c12 c13 c14 c15
 clear g9 h9 HA8 HB8 HB HA2
 go_wp2
 refine bodyPost_ret (v := .agg [.int .i64 0, .int .u64 x0, .int .i64 0, .int .u64 x1, .int .i64 0, .int .u64 x2, .int .i64 0, .int .u64 x3, .int .i64 0, .int .u64 x4, .int .i64 0, .int .u64 x5, .int .i64 0, .int .u64 x6, .int .i64 1, .int .u64 (bI x7)].toArray) (by simp [results, Tryz.results68, go_sem, c0, c1, c2, c3, c4, c5, c6, c7, c8, c9, c10, c11, c12, c13, c14, c15]) rfl ?_
 exact ⟨rfl, HB9⟩
end Go.Proofs.YtggpaljilpbmhaaGreatDoor
