import Derived.Test.YtggpaljilpbmhaaGreatDoorW20
import Derived.Lib.QuietBelow
namespace Go.Proofs.YtggpaljilpbmhaaGreatDoor
open Go.RowKit Go.Sort

/-- The shapes of the ops of the probe: where, parts, least, most. -/
def shA (o : Int) : Array Value := if o = 1 then #[.int .u8 116, .string ⟨#[114]⟩, .int .u64 1, .int .u64 18446744073709551615, .int .i64 0] else if o = 2 then #[.int .u8 114, .string ⟨#[98]⟩, .int .u64 0, .int .u64 5, .int .i64 0] else if o = 3 then #[.int .u8 98, .string ⟨#[115]⟩, .int .u64 0, .int .u64 18446744073709551615, .int .i64 0] else #[.int .u8 115, .string ⟨#[]⟩, .int .u64 1, .int .u64 999, .int .i64 0]
set_option maxRecDepth 10000 in
set_option maxHeartbeats 3200000 in
theorem shapeOf4 (o : Int) (ho : o = 1 ∨ o = 2 ∨ o = 3 ∨ o = 12) (w : World) : Calls Tryz.prog 154 #[.int .i64 o] w fun e w' => e = .returned (.agg (shA o)) ∧ Hid (Below w.heap.size w w') := by
 obtain ⟨W1, hW1⟩ : ∃ W1, w.alloc (.cells #[.int .u8 0, .string ⟨#[]⟩, .int .u64 0, .int .u64 0, .int .i64 0] 229) = W1 := ⟨_, rfl⟩
 have B1 : Below w.heap.size w W1 := by rw [← hW1]; exact below_alloc1 w _
 have A1 : W1.heap[w.heap.size]? = some (.cells #[.int .u8 0, .string ⟨#[]⟩, .int .u64 0, .int .u64 0, .int .i64 0] 229 (0, 0)) := by rw [← hW1]; exact alloc_atK _ _
 have HG : Hid (∀ v0 v1 v2 v3 v4 : Value, ∀ wf, ((((W1.setCell ⟨w.heap.size, 0, none⟩ v0).setCell ⟨w.heap.size, 1, none⟩ v1).setCell ⟨w.heap.size, 2, none⟩ v2).setCell ⟨w.heap.size, 3, none⟩ v3).setCell ⟨w.heap.size, 4, none⟩ v4 = wf → Below w.heap.size w wf ∧ wf.heap[w.heap.size]? = some (.cells #[v0, v1, v2, v3, v4] 229 (0, 0))) := fun v0 v1 v2 v3 v4 wf e => by
  have g := grown_setT W1 w.heap.size 0 v0
  have h0 := heap_setCell_same W1 w.heap.size 0 _ _ v0 A1
  have h1 := heap_setCell_same _ w.heap.size 1 _ _ v1 h0
  have h2 := heap_setCell_same _ w.heap.size 2 _ _ v2 h1
  have h3 := heap_setCell_same _ w.heap.size 3 _ _ v3 h2
  have h4 := heap_setCell_same _ w.heap.size 4 _ _ v4 h3
  refine ⟨?_, ?_⟩
  ·rw [← e]
   have hb := (((((B1.setCell (p := ⟨w.heap.size, 0, none⟩) (Nat.le_refl _) v0).setCell (p := ⟨w.heap.size, 1, none⟩) (Nat.le_refl _) v1).setCell (p := ⟨w.heap.size, 2, none⟩) (Nat.le_refl _) v2).setCell (p := ⟨w.heap.size, 3, none⟩) (Nat.le_refl _) v3).setCell (p := ⟨w.heap.size, 4, none⟩) (Nat.le_refl _) v4)
   exact hb
  ·rw [← e, h4]; rfl
 have v0 := block_cell A1 0
 have v1 := block_cell A1 1
 have v2 := block_cell A1 2
 have v3 := block_cell A1 3
 have v4 := block_cell A1 4
 have f0 := block_free A1 0
 have f1 := block_free A1 1
 have f2 := block_free A1 2
 have f3 := block_free A1 3
 have f4 := block_free A1 4
 have vl := block_lt A1
 simp at v0 v1 v2 v3 v4
 have HW1 := hide hW1
 clear hW1 A1 B1
 rcases ho with rfl | rfl | rfl | rfl
 all_goals
  go_enter Tryz.func154, Tryz.ntmps154
  go_upto_region 1 with fail
  rw [HW1.out]
  clear HW1
  go_wp2
  generalize hwf : World.setCell _ _ _ = wf
  obtain ⟨hb, ha⟩ := HG.out _ _ _ _ _ wf hwf
  clear hwf
  have q0 := block_cell ha 0
  have q1 := block_cell ha 1
  have q2 := block_cell ha 2
  have q3 := block_cell ha 3
  have q4 := block_cell ha 4
  simp at q0 q1 q2 q3 q4
  refine bodyPost_ret (by simp [results, Tryz.results154, go_sem, q0, q1, q2, q3, q4]; rfl) rfl ?_
  exact ⟨rfl, hb⟩
set_option maxRecDepth 10000 in
theorem isNamed0 (w : World) : Calls Tryz.prog 172 #[.string ⟨#[]⟩, .int .i64 0] w fun e w' => e = .returned (.bool true) ∧ w' = w := by
 go_enter Tryz.func172, Tryz.ntmps172
 go_wp2
 go_ret
 exact ⟨rfl, rfl⟩
theorem field_parts (a : Int) (x : ByteArray) (b c d : Int) (w : World) : (Instr.field 229 (.agg #[.int .u8 a, .string x, .int .u64 b, .int .u64 c, .int .i64 d]) 1).run Tryz.prog w = .ok (.string x) w := by kernel_rfl
theorem field_place (a : Int) (x : ByteArray) (b c d : Int) (w : World) : (Instr.field 229 (.agg #[.int .u8 a, .string x, .int .u64 b, .int .u64 c, .int .i64 d]) 0).run Tryz.prog w = .ok (.int .u8 a) w := by kernel_rfl
/-- How many parts a node of the probe has. -/
def pcF (o n : Int) : Int := if o = 1 ∨ o = 3 then n else if o = 2 then 1 else 0
set_option maxRecDepth 10000 in
set_option maxHeartbeats 3200000 in
theorem partCount4 (o n : Int) (ho : o = 1 ∨ o = 2 ∨ o = 3 ∨ o = 12) (w : World) : Calls Tryz.prog 173 #[.agg #[.int .i64 o, .int .u64 n, .string ⟨#[]⟩]] w fun e w' => e = .returned (.int .u64 (pcF o n)) ∧ Hid (Below w.heap.size w w') := by
 obtain ⟨W1, hW1⟩ : ∃ W1, w.alloc (.cells #[.int .i64 o, .int .u64 n, .string ⟨#[]⟩] 121) = W1 := ⟨_, rfl⟩
 have B1 : Below w.heap.size w W1 := by rw [← hW1]; exact below_alloc1 w _
 have A1 : W1.heap[w.heap.size]? = some (.cells #[.int .i64 o, .int .u64 n, .string ⟨#[]⟩] 121 (0, 0)) := by rw [← hW1]; exact alloc_atK _ _
 have HB1 := hide B1
 have HSH : Hid (∀ w, Calls Tryz.prog 154 #[.int .i64 o] w fun e w' => e = .returned (.agg (shA o)) ∧ Hid (Below w.heap.size w w')) := fun w => shapeOf4 o ho w
 have v0 := block_cell A1 0
 have v1 := block_cell A1 1
 have v2 := block_cell A1 2
 have vl := block_lt A1
 simp at v0 v1 v2
 have HW1 := hide hW1
 clear hW1 A1 B1
 rcases ho with rfl | rfl | rfl | rfl
 all_goals
  simp [shA] at HSH
  have hfd := field_parts
  go_enter Tryz.func173, Tryz.ntmps173
  go_upto_region 1 with fail
  rw [HW1.out]
  clear HW1
 ·go_wp2
  go_ret
  exact ⟨rfl, HB1⟩
 ·go_wp2_with fail
  refine (HSH.out _).mono ?_
  rintro e w2 ⟨rfl, G2⟩
  go_wp2
  go_ret
  exact ⟨rfl, HB1.out.trans (G2.out.mono HB1.out.size)⟩
 ·go_wp2
  go_ret
  exact ⟨rfl, HB1⟩
 ·go_wp2_with fail
  refine (HSH.out _).mono ?_
  rintro e w2 ⟨rfl, G2⟩
  go_wp2
  go_ret
  exact ⟨rfl, HB1.out.trans (G2.out.mono HB1.out.size)⟩
end Go.Proofs.YtggpaljilpbmhaaGreatDoor
