import Derived.Test.YtldhafpeigdloaaGreatDoorM29
import Derived.Deep.MidRow
namespace Go.Proofs.YtldhafpeigdloaaGreatDoor
open Go.RowKit Crc

set_option maxRecDepth 10000 in
set_option maxHeartbeats 3200000 in
theorem blank_s (num : Nat) (node : Int) (slot st : Nat) (ro : Option Addr) (n rc : Nat) (do_ : Option Addr) (m dc : Nat) (cs : List Value) (hcs : cs = msgR num node slot st (.slice ro n rc) (.slice do_ m dc)) (w : World) (hst : st ≠ 0) :
    Calls Tryz.prog 28 #[.agg cs.toArray] w fun e w' => ∃ b1 b2 b5 b10 : Bool, e = .returned (.agg #[.bool false, .bool b1, .bool b2, .bool true, .bool true, .bool b5, .bool true, .bool true, .bool true, .bool true, .bool b10, .bool true, .bool true, .bool true, .bool true, .bool true]) ∧ Hid (Below w.heap.size w w' ∧ (b1 = true ↔ num = 0 ∧ node = 0) ∧ (b2 = true ↔ slot = 0) ∧ (b5 = true ↔ st = 0 ∧ n = 0) ∧ (b10 = true ↔ m = 0)) := by
  have d1 : decide ((st : Int) = 0) = false := by simp; omega
  have d2 : ((st : Int) == 0) = false := by simp; omega
  obtain ⟨b1, hb1, hbe⟩ : ∃ b1 : Bool, (b1 = true ↔ num = 0 ∧ node = 0) ∧ ∀ w, (binOp BinOp.eql 25 (.agg #[.int .u64 (num : Int), .int .i64 node]) (.agg #[.int .u64 0, .int .i64 0])).run Tryz.prog w = .ok (.bool b1) w := ⟨_, by simp, bal_eq (num : Int) node⟩
  obtain ⟨b2, hb2⟩ : ∃ b2 : Bool, ((slot : Int) == 0) = b2 := ⟨_, rfl⟩
  obtain ⟨b5, hb5⟩ : ∃ b5 : Bool, ((n : Int) == 0) = b5 := ⟨_, rfl⟩
  obtain ⟨b10, hb10⟩ : ∃ b10 : Bool, ((m : Int) == 0) = b10 := ⟨_, rfl⟩
  have HBI : Hid ((b1 = true ↔ num = 0 ∧ node = 0) ∧ (b2 = true ↔ slot = 0) ∧ (b5 = true ↔ n = 0) ∧ (b10 = true ↔ m = 0)) := ⟨hb1, by rw [← hb2]; simp, by rw [← hb5]; simp, by rw [← hb10]; simp⟩
  have HONE : Hid (∀ v ∈ [Value.bool false, Value.bool b1, Value.bool b2, Value.bool true, Value.bool true, Value.bool false, Value.bool true, Value.bool true, Value.bool true, Value.bool true, Value.bool b10, Value.bool true, Value.bool true, Value.bool true, Value.bool true, Value.bool true], v.oneCell' = true) := by show ∀ v ∈ _, _; simp [Value.oneCell']
  have HI2 : Hid ((Tryz.prog.info? 50).map (·.size) = some (List.length [Value.bool false, Value.bool b1, Value.bool b2, Value.bool true, Value.bool true, Value.bool false, Value.bool true, Value.bool true, Value.bool true, Value.bool true, Value.bool b10, Value.bool true, Value.bool true, Value.bool true, Value.bool true, Value.bool true])) := by show _ = _; kernel_rfl
  clear hb1
  obtain ⟨W, hW⟩ : ∃ W, (w.alloc (.cells cs.toArray 36)).alloc (.cells #[.bool false, .bool false, .bool false, .bool false, .bool false, .bool false, .bool false, .bool false, .bool false, .bool false, .bool false, .bool false, .bool false, .bool false, .bool false, .bool false] 50) = W := ⟨_, rfl⟩
  have e1 : (w.alloc (.cells cs.toArray 36)).heap.size = w.heap.size + 1 := by simp
  have b0 : Below w.heap.size w W := by rw [← hW]; exact (below_alloc1 w _).alloc (by simp) _
  have q0 : W.heap[w.heap.size]? = some (.cells cs.toArray 36 (0, 0)) := by rw [← hW]; exact ((World.grownBy_alloc _ _ none).block _ (by rw [e1]; omega) (by simp)).trans (alloc_at _ _)
  have q1 : W.heap[w.heap.size + 1]? = some (.cells #[.bool false, .bool false, .bool false, .bool false, .bool false, .bool false, .bool false, .bool false, .bool false, .bool false, .bool false, .bool false, .bool false, .bool false, .bool false, .bool false] 50 (0, 0)) := by rw [← hW, ← e1]; exact alloc_at _ _
  obtain ⟨X, hX⟩ : ∃ X, W.drew = X := ⟨_, rfl⟩
  have q2 : X.heap[w.heap.size]? = some (.cells cs.toArray 36 (0, 0)) := by rw [← hX]; exact q0
  have q3 : X.heap[w.heap.size + 1]? = some (.cells #[.bool false, .bool false, .bool false, .bool false, .bool false, .bool false, .bool false, .bool false, .bool false, .bool false, .bool false, .bool false, .bool false, .bool false, .bool false, .bool false] 50 (0, 0)) := by rw [← hX]; exact q1
  have BX : Hid (Below w.heap.size w X) := by show Below _ _ _; rw [← hX]; exact ⟨b0.os, b0.tape, b0.output, b0.size, b0.block⟩
  have c1 : X.cell? ⟨w.heap.size, 1, none⟩ = some (.int .u64 (num : Int)) := by rw [block_cell q2 1, hcs]; rfl
  have c2 : X.cell? ⟨w.heap.size, 2, none⟩ = some (.int .i64 node) := by rw [block_cell q2 2, hcs]; rfl
  have c3 : X.cell? ⟨w.heap.size, 3, none⟩ = some (.int .u64 (slot : Int)) := by rw [block_cell q2 3, hcs]; rfl
  have c4 : X.cell? ⟨w.heap.size, 4, none⟩ = some (.int .u64 0) := by rw [block_cell q2 4, hcs]; rfl
  have c5 : X.cell? ⟨w.heap.size, 5, none⟩ = some (.slice none 0 0) := by rw [block_cell q2 5, hcs]; rfl
  have c6 : X.cell? ⟨w.heap.size, 6, none⟩ = some (.int .u64 (st : Int)) := by rw [block_cell q2 6, hcs]; rfl
  have c7 : X.cell? ⟨w.heap.size, 7, none⟩ = some (.slice ro n rc) := by rw [block_cell q2 7, hcs]; rfl
  have c8 : X.cell? ⟨w.heap.size, 8, none⟩ = some (.int .u64 0) := by rw [block_cell q2 8, hcs]; rfl
  have c9 : X.cell? ⟨w.heap.size, 9, none⟩ = some (.int .u64 0) := by rw [block_cell q2 9, hcs]; rfl
  have c10 : X.cell? ⟨w.heap.size, 10, none⟩ = some (.int .i64 0) := by rw [block_cell q2 10, hcs]; rfl
  have c11 : X.cell? ⟨w.heap.size, 11, none⟩ = some (.slice none 0 0) := by rw [block_cell q2 11, hcs]; rfl
  have c12 : X.cell? ⟨w.heap.size, 12, none⟩ = some (.slice do_ m dc) := by rw [block_cell q2 12, hcs]; rfl
  have c13 : X.cell? ⟨w.heap.size, 13, none⟩ = some (.bool false) := by rw [block_cell q2 13, hcs]; rfl
  have c14 : X.cell? ⟨w.heap.size, 14, none⟩ = some (.int .u64 0) := by rw [block_cell q2 14, hcs]; rfl
  have c15 : X.cell? ⟨w.heap.size, 15, none⟩ = some (.int .u64 0) := by rw [block_cell q2 15, hcs]; rfl
  have c48 : X.cell? ⟨w.heap.size, 48, none⟩ = some (.slice none 0 0) := by rw [block_cell q2 48, hcs]; rfl
  have TH : Hid (X.there (w.heap.size + 1) 0 16) := fun j hj => by
    rw [Nat.zero_add]
    exact ⟨by rw [block_cell q3 j, Array.getElem?_eq_getElem (by simpa using hj)]; rfl, block_free q3 j⟩
  obtain ⟨zs, hzr, hzl, hze⟩ : ∃ zs : List Value, X.rangeAt w.heap.size 16 zs ∧ (Tryz.prog.info? 33).map (·.size) = some zs.length ∧ ∀ w : World, (binOp BinOp.eql 33 (.agg zs.toArray) (.agg #[.int .u8 0, .int .u8 0, .int .u8 0, .int .u8 0, .int .u8 0, .int .u8 0, .int .u8 0, .int .u8 0, .int .u8 0, .int .u8 0, .int .u8 0, .int .u8 0, .int .u8 0, .int .u8 0, .int .u8 0, .int .u8 0, .int .u8 0, .int .u8 0, .int .u8 0, .int .u8 0, .int .u8 0, .int .u8 0, .int .u8 0, .int .u8 0, .int .u8 0, .int .u8 0, .int .u8 0, .int .u8 0, .int .u8 0, .int .u8 0, .int .u8 0, .int .u8 0])).run Tryz.prog w = .ok (.bool true) w := by
    refine ⟨Z32, fun j v hv => ?_, by kernel_rfl, hash_eq⟩
    rw [block_cell q2 (16 + j), hcs, List.getElem?_toArray]
    exact z32_at _ _ _ _ _ _ j v hv
  have HZR := hide hzr
  have HZL := hide hzl
  have HX := hide hX
  have HW := hide hW
  clear b0 q0 q1 q2 q3 hW e1 hcs hX hzr hzl
  go_enter Tryz.func28, Tryz.ntmps28
  go_wp2_with fail
  rw [HW.out]
  clear HW
  generalize hqq : w.heap.size = q at *
  refine wp_region_still_tail 60 (by kernel_rfl) (by kernel_rfl) ?_
  refine still_world HX.out ?_
  clear HX
  simp only [List.take_succ_cons, List.take_zero, List.drop_succ_cons, List.drop_zero]
  iterate 52 still_step
  refine still_load_mid (by rfl) 33 _ rfl q 16 rfl zs _ HZR.out Tryz.underlying33 rfl HZL.out ?_
  simp only [Act.put, List.setIfInBounds_toArray, List.set_cons_zero, List.set_cons_succ]
  repeat still_step
  refine wpStill_nil ?_
  refine wpList_store_mid rfl 50 _ _ rfl (q + 1) 0 (List.toArray [Value.bool false, Value.bool b1, Value.bool b2, Value.bool true, Value.bool true, Value.bool false, Value.bool true, Value.bool true, Value.bool true, Value.bool true, Value.bool b10, Value.bool true, Value.bool true, Value.bool true, Value.bool true, Value.bool true]) rfl rfl TH.out HI2.out (all_oneCell_toArray HONE.out) ?_
  have RG := World.rangeAt_setCells_same X (q + 1) 0 [Value.bool false, Value.bool b1, Value.bool b2, Value.bool true, Value.bool true, Value.bool false, Value.bool true, Value.bool true, Value.bool true, Value.bool true, Value.bool b10, Value.bool true, Value.bool true, Value.bool true, Value.bool true, Value.bool true] TH.out
  have GR := grown_setCells (q + 1) [Value.bool false, Value.bool b1, Value.bool b2, Value.bool true, Value.bool true, Value.bool false, Value.bool true, Value.bool true, Value.bool true, Value.bool true, Value.bool b10, Value.bool true, Value.bool true, Value.bool true, Value.bool true, Value.bool true] 0 X
  obtain ⟨V, hV⟩ : ∃ V, X.setCells (q + 1) 0 [Value.bool false, Value.bool b1, Value.bool b2, Value.bool true, Value.bool true, Value.bool false, Value.bool true, Value.bool true, Value.bool true, Value.bool true, Value.bool b10, Value.bool true, Value.bool true, Value.bool true, Value.bool true, Value.bool true] = V := ⟨_, rfl⟩
  rw [hV] at RG GR
  refine wpList_world hV ?_
  clear hV
  have r0 := RG 0 _ rfl
  have r1 := RG 1 _ rfl
  have r2 := RG 2 _ rfl
  have r3 := RG 3 _ rfl
  have r4 := RG 4 _ rfl
  have r5 := RG 5 _ rfl
  have r6 := RG 6 _ rfl
  have r7 := RG 7 _ rfl
  have r8 := RG 8 _ rfl
  have r9 := RG 9 _ rfl
  have r10 := RG 10 _ rfl
  have r11 := RG 11 _ rfl
  have r12 := RG 12 _ rfl
  have r13 := RG 13 _ rfl
  have r14 := RG 14 _ rfl
  have r15 := RG 15 _ rfl
  simp only [Nat.zero_add] at r0 r1 r2 r3 r4 r5 r6 r7 r8 r9 r10 r11 r12 r13 r14 r15
  have FIN : Hid (Below q w V) := by
    have hb := BX.out
    exact hb.grown GR (by have := hb.size; omega) (fun k e => by cases e; omega)
  clear RG GR
  go_wp2
  refine bodyPost_ret (v := .agg (List.toArray [Value.bool false, Value.bool b1, Value.bool b2, Value.bool true, Value.bool true, Value.bool false, Value.bool true, Value.bool true, Value.bool true, Value.bool true, Value.bool b10, Value.bool true, Value.bool true, Value.bool true, Value.bool true, Value.bool true])) (by simp [results, Tryz.results28, go_sem, r0, r1, r2, r3, r4, r5, r6, r7, r8, r9, r10, r11, r12, r13, r14, r15]) rfl ⟨_, _, _, _, rfl, by rw [hqq]; exact FIN.out, HBI.out.1, HBI.out.2.1, (by simp [hst]), HBI.out.2.2.2⟩
end Go.Proofs.YtldhafpeigdloaaGreatDoor
