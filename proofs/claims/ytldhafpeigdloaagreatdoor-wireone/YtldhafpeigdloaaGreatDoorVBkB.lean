import Derived.Test.YtldhafpeigdloaaGreatDoorVBkA
import Derived.Test.YtldhafpeigdloaaGreatDoorM29
import Derived.Deep.MidRow
namespace Go.Proofs.YtldhafpeigdloaaGreatDoor
open Go.RowKit Crc

set_option maxRecDepth 10000 in
set_option maxHeartbeats 3200000 in
theorem blankm_s (m : Mg) (rl : m.root.length = 32) (cs : List Value) (hcs : cs = m.R) (w : World) (hst : m.st ≠ 0) :
    Calls Tryz.prog 28 #[.agg cs.toArray] w fun e w' => e = .returned (.agg (m.zl.map Value.bool).toArray) ∧ Hid (Below w.heap.size w w') := by
  have d1 : decide ((m.st : Int) = 0) = false := by simp; omega
  have d2 : ((m.st : Int) == 0) = false := by simp; omega
  obtain ⟨b1, hb1, hbe⟩ : ∃ b1 : Bool, decide (m.num = 0 ∧ m.node = 0) = b1 ∧ ∀ w, (binOp BinOp.eql 25 (.agg #[.int .u64 (m.num : Int), .int .i64 m.node]) (.agg #[.int .u64 0, .int .i64 0])).run Tryz.prog w = .ok (.bool b1) w := ⟨_, by simp, bal_eq (m.num : Int) m.node⟩
  obtain ⟨b2, hb2⟩ : ∃ b2 : Bool, ((m.slot : Int) == 0) = b2 := ⟨_, rfl⟩
  obtain ⟨b3, hb3⟩ : ∃ b3 : Bool, ((m.low : Int) == 0) = b3 := ⟨_, rfl⟩
  obtain ⟨b4, hb4⟩ : ∃ b4 : Bool, ((m.vn : Int) == 0) = b4 := ⟨_, rfl⟩
  obtain ⟨b6, hb6⟩ : ∃ b6 : Bool, ((m.seq : Int) == 0) = b6 := ⟨_, rfl⟩
  obtain ⟨b7, hb7⟩ : ∃ b7 : Bool, ((m.stamp : Int) == 0) = b7 := ⟨_, rfl⟩
  obtain ⟨b9, hb9⟩ : ∃ b9 : Bool, ((m.cn : Int) == 0) = b9 := ⟨_, rfl⟩
  obtain ⟨b10, hb10⟩ : ∃ b10 : Bool, ((m.dn : Int) == 0) = b10 := ⟨_, rfl⟩
  obtain ⟨b12, hb12⟩ : ∃ b12 : Bool, ((m.idx : Int) == 0) = b12 := ⟨_, rfl⟩
  obtain ⟨b13, hb13⟩ : ∃ b13 : Bool, ((m.cnt : Int) == 0) = b13 := ⟨_, rfl⟩
  obtain ⟨b15, hb15⟩ : ∃ b15 : Bool, ((m.pn : Int) == 0) = b15 := ⟨_, rfl⟩
  obtain ⟨b8, hb8⟩ : ∃ b8 : Bool, (m.code == 0) = b8 := ⟨_, rfl⟩
  obtain ⟨b11, hb11⟩ : ∃ b11 : Bool, (!m.sus) = b11 := ⟨_, rfl⟩
  obtain ⟨b14, hb14, hze⟩ : ∃ b14 : Bool, decide (m.root = List.replicate 32 0) = b14 ∧ ∀ w, (binOp BinOp.eql 33 (.agg (vals m.root).toArray) (.agg #[.int .u8 0, .int .u8 0, .int .u8 0, .int .u8 0, .int .u8 0, .int .u8 0, .int .u8 0, .int .u8 0, .int .u8 0, .int .u8 0, .int .u8 0, .int .u8 0, .int .u8 0, .int .u8 0, .int .u8 0, .int .u8 0, .int .u8 0, .int .u8 0, .int .u8 0, .int .u8 0, .int .u8 0, .int .u8 0, .int .u8 0, .int .u8 0, .int .u8 0, .int .u8 0, .int .u8 0, .int .u8 0, .int .u8 0, .int .u8 0, .int .u8 0, .int .u8 0])).run Tryz.prog w = .ok (.bool b14) w := ⟨_, rfl, hash_zero rl⟩
  have hz2 : decide (m.slot = 0) = b2 := by rw [← hb2, Bool.eq_iff_iff]; simp
  have hz3 : decide (m.low = 0) = b3 := by rw [← hb3, Bool.eq_iff_iff]; simp
  have hz4 : decide (m.vn = 0) = b4 := by rw [← hb4, Bool.eq_iff_iff]; simp
  have hz6 : decide (m.seq = 0) = b6 := by rw [← hb6, Bool.eq_iff_iff]; simp
  have hz7 : decide (m.stamp = 0) = b7 := by rw [← hb7, Bool.eq_iff_iff]; simp
  have hz9 : decide (m.cn = 0) = b9 := by rw [← hb9, Bool.eq_iff_iff]; simp
  have hz10 : decide (m.dn = 0) = b10 := by rw [← hb10, Bool.eq_iff_iff]; simp
  have hz12 : decide (m.idx = 0) = b12 := by rw [← hb12, Bool.eq_iff_iff]; simp
  have hz13 : decide (m.cnt = 0) = b13 := by rw [← hb13, Bool.eq_iff_iff]; simp
  have hz15 : decide (m.pn = 0) = b15 := by rw [← hb15, Bool.eq_iff_iff]; simp
  have hb8' : decide (m.code = 0) = b8 := by rw [← hb8, Bool.eq_iff_iff]; simp
  have hz5 : decide (m.st = 0 ∧ m.n = 0) = false := by simp [hst]
  have HZ : Hid (m.zl.map Value.bool = [Value.bool false, Value.bool b1, Value.bool b2, Value.bool b3, Value.bool b4, Value.bool false, Value.bool b6, Value.bool b7, Value.bool b8, Value.bool b9, Value.bool b10, Value.bool b11, Value.bool b12, Value.bool b13, Value.bool b14, Value.bool b15]) := by
    show _ = _
    rw [show m.zl = [false, b1, b2, b3, b4, false, b6, b7, b8, b9, b10, b11, b12, b13, b14, b15] from ?_]
    · rfl
    · unfold Mg.zl
      rw [hb1, hb8', hb11, hb14, hz2, hz3, hz4, hz6, hz7, hz9, hz10, hz12, hz13, hz15, hz5]
  clear hz2 hz3 hz4 hz6 hz7 hz9 hz10 hz12 hz13 hz15 hz5 hb8' hb1 hb14
  have HONE : Hid (∀ v ∈ [Value.bool false, Value.bool b1, Value.bool b2, Value.bool b3, Value.bool b4, Value.bool false, Value.bool b6, Value.bool b7, Value.bool b8, Value.bool b9, Value.bool b10, Value.bool b11, Value.bool b12, Value.bool b13, Value.bool b14, Value.bool b15], v.oneCell' = true) := by show ∀ v ∈ _, _; simp [Value.oneCell']
  have HI2 : Hid ((Tryz.prog.info? 50).map (·.size) = some (List.length [Value.bool false, Value.bool b1, Value.bool b2, Value.bool b3, Value.bool b4, Value.bool false, Value.bool b6, Value.bool b7, Value.bool b8, Value.bool b9, Value.bool b10, Value.bool b11, Value.bool b12, Value.bool b13, Value.bool b14, Value.bool b15])) := by show _ = _; kernel_rfl
  obtain ⟨W, hW⟩ : ∃ W, (w.alloc (.cells cs.toArray 36)).alloc (.cells #[.bool false, .bool false, .bool false, .bool false, .bool false, .bool false, .bool false, .bool false, .bool false, .bool false, .bool false, .bool false, .bool false, .bool false, .bool false, .bool false] 50) = W := ⟨_, rfl⟩
  have e1 : (w.alloc (.cells cs.toArray 36)).heap.size = w.heap.size + 1 := by simp
  have b0 : Below w.heap.size w W := by rw [← hW]; exact (below_alloc1 w _).alloc (by simp) _
  have q0 : W.heap[w.heap.size]? = some (.cells cs.toArray 36 (0, 0)) := by rw [← hW]; exact ((World.grownBy_alloc _ _ none).block _ (by rw [e1]; omega) (by simp)).trans (alloc_at _ _)
  have q1 : W.heap[w.heap.size + 1]? = some (.cells #[.bool false, .bool false, .bool false, .bool false, .bool false, .bool false, .bool false, .bool false, .bool false, .bool false, .bool false, .bool false, .bool false, .bool false, .bool false, .bool false] 50 (0, 0)) := by rw [← hW, ← e1]; exact alloc_at _ _
  obtain ⟨X, hX⟩ : ∃ X, W.drew = X := ⟨_, rfl⟩
  have q2 : X.heap[w.heap.size]? = some (.cells cs.toArray 36 (0, 0)) := by rw [← hX]; exact q0
  have q3 : X.heap[w.heap.size + 1]? = some (.cells #[.bool false, .bool false, .bool false, .bool false, .bool false, .bool false, .bool false, .bool false, .bool false, .bool false, .bool false, .bool false, .bool false, .bool false, .bool false, .bool false] 50 (0, 0)) := by rw [← hX]; exact q1
  have BX : Hid (Below w.heap.size w X) := by show Below _ _ _; rw [← hX]; exact ⟨b0.os, b0.tape, b0.output, b0.size, b0.block⟩
  have c1 : X.cell? ⟨w.heap.size, 1, none⟩ = some (.int .u64 (m.num : Int)) := by rw [block_cell q2 1, hcs]; rfl
  have c2 : X.cell? ⟨w.heap.size, 2, none⟩ = some (.int .i64 m.node) := by rw [block_cell q2 2, hcs]; rfl
  have c3 : X.cell? ⟨w.heap.size, 3, none⟩ = some (.int .u64 (m.slot : Int)) := by rw [block_cell q2 3, hcs]; rfl
  have c4 : X.cell? ⟨w.heap.size, 4, none⟩ = some (.int .u64 (m.low : Int)) := by rw [block_cell q2 4, hcs]; rfl
  have c5 : X.cell? ⟨w.heap.size, 5, none⟩ = some (.slice m.vo m.vn m.vc) := by rw [block_cell q2 5, hcs]; rfl
  have c6 : X.cell? ⟨w.heap.size, 6, none⟩ = some (.int .u64 (m.st : Int)) := by rw [block_cell q2 6, hcs]; rfl
  have c7 : X.cell? ⟨w.heap.size, 7, none⟩ = some (.slice m.ro m.n m.rc) := by rw [block_cell q2 7, hcs]; rfl
  have c8 : X.cell? ⟨w.heap.size, 8, none⟩ = some (.int .u64 (m.seq : Int)) := by rw [block_cell q2 8, hcs]; rfl
  have c9 : X.cell? ⟨w.heap.size, 9, none⟩ = some (.int .u64 (m.stamp : Int)) := by rw [block_cell q2 9, hcs]; rfl
  have c10 : X.cell? ⟨w.heap.size, 10, none⟩ = some (.int .i64 m.code) := by rw [block_cell q2 10, hcs]; rfl
  have c11 : X.cell? ⟨w.heap.size, 11, none⟩ = some (.slice m.co m.cn m.cc) := by rw [block_cell q2 11, hcs]; rfl
  have c12 : X.cell? ⟨w.heap.size, 12, none⟩ = some (.slice m.do_ m.dn m.dc) := by rw [block_cell q2 12, hcs]; rfl
  have c13 : X.cell? ⟨w.heap.size, 13, none⟩ = some (.bool m.sus) := by rw [block_cell q2 13, hcs]; rfl
  have c14 : X.cell? ⟨w.heap.size, 14, none⟩ = some (.int .u64 (m.idx : Int)) := by rw [block_cell q2 14, hcs]; rfl
  have c15 : X.cell? ⟨w.heap.size, 15, none⟩ = some (.int .u64 (m.cnt : Int)) := by rw [block_cell q2 15, hcs]; rfl
  have c48 : X.cell? ⟨w.heap.size, 48, none⟩ = some (.slice m.po m.pn m.pc) := by rw [block_cell q2 48, hcs, List.getElem?_toArray]; exact Mg.at48 rl
  have TH : Hid (X.there (w.heap.size + 1) 0 16) := fun j hj => by
    rw [Nat.zero_add]
    exact ⟨by rw [block_cell q3 j, Array.getElem?_eq_getElem (by simpa using hj)]; rfl, block_free q3 j⟩
  obtain ⟨zs, hzs, hzr, hzl⟩ : ∃ zs : List Value, vals m.root = zs ∧ X.rangeAt w.heap.size 16 zs ∧ (Tryz.prog.info? 33).map (·.size) = some zs.length := by
    refine ⟨vals m.root, rfl, fun j v hv => ?_, by rw [vals_len, rl]; kernel_rfl⟩
    rw [block_cell q2 (16 + j), hcs, List.getElem?_toArray]
    exact Mg.root_at j v hv
  rw [hzs] at hze
  have HZR := hide hzr
  have HZL := hide hzl
  have HX := hide hX
  have HW := hide hW
  clear b0 q0 q1 q2 q3 hW e1 hcs hX hzr hzl hzs rl hst
  go_enter Tryz.func28, Tryz.ntmps28
  go_wp2_with fail
  rw [HW.out]
  clear HW
  generalize hqq : w.heap.size = q at *
  refine wp_region_still_tail 60 (by kernel_rfl) (by kernel_rfl) ?_
  refine still_world HX.out ?_
  clear HX
  simp only [List.take_succ_cons, List.take_zero, List.drop_succ_cons, List.drop_zero]
  iterate 52 still_step
  refine still_load_mid (by rfl) 33 _ rfl q 16 rfl zs _ HZR.out Tryz.underlying33 rfl HZL.out ?_
  simp only [Act.put, List.setIfInBounds_toArray, List.set_cons_zero, List.set_cons_succ]
  repeat still_step
  refine wpStill_nil ?_
  refine wpList_store_mid rfl 50 _ _ rfl (q + 1) 0 (List.toArray [Value.bool false, Value.bool b1, Value.bool b2, Value.bool b3, Value.bool b4, Value.bool false, Value.bool b6, Value.bool b7, Value.bool b8, Value.bool b9, Value.bool b10, Value.bool b11, Value.bool b12, Value.bool b13, Value.bool b14, Value.bool b15]) rfl rfl TH.out HI2.out (all_oneCell_toArray HONE.out) ?_
  have RG := World.rangeAt_setCells_same X (q + 1) 0 [Value.bool false, Value.bool b1, Value.bool b2, Value.bool b3, Value.bool b4, Value.bool false, Value.bool b6, Value.bool b7, Value.bool b8, Value.bool b9, Value.bool b10, Value.bool b11, Value.bool b12, Value.bool b13, Value.bool b14, Value.bool b15] TH.out
  have GR := grown_setCells (q + 1) [Value.bool false, Value.bool b1, Value.bool b2, Value.bool b3, Value.bool b4, Value.bool false, Value.bool b6, Value.bool b7, Value.bool b8, Value.bool b9, Value.bool b10, Value.bool b11, Value.bool b12, Value.bool b13, Value.bool b14, Value.bool b15] 0 X
  obtain ⟨V, hV⟩ : ∃ V, X.setCells (q + 1) 0 [Value.bool false, Value.bool b1, Value.bool b2, Value.bool b3, Value.bool b4, Value.bool false, Value.bool b6, Value.bool b7, Value.bool b8, Value.bool b9, Value.bool b10, Value.bool b11, Value.bool b12, Value.bool b13, Value.bool b14, Value.bool b15] = V := ⟨_, rfl⟩
  rw [hV] at RG GR
  refine wpList_world hV ?_
  clear hV
  have r0 := RG 0 _ rfl
  have r1 := RG 1 _ rfl
  have r2 := RG 2 _ rfl
  have r3 := RG 3 _ rfl
  have r4 := RG 4 _ rfl
  have r5 := RG 5 _ rfl
  have r6 := RG 6 _ rfl
  have r7 := RG 7 _ rfl
  have r8 := RG 8 _ rfl
  have r9 := RG 9 _ rfl
  have r10 := RG 10 _ rfl
  have r11 := RG 11 _ rfl
  have r12 := RG 12 _ rfl
  have r13 := RG 13 _ rfl
  have r14 := RG 14 _ rfl
  have r15 := RG 15 _ rfl
  simp only [Nat.zero_add] at r0 r1 r2 r3 r4 r5 r6 r7 r8 r9 r10 r11 r12 r13 r14 r15
  have FIN : Hid (Below q w V) := by
    have hb := BX.out
    exact hb.grown GR (by have := hb.size; omega) (fun k e => by cases e; omega)
  clear RG GR
  go_wp2
  refine bodyPost_ret (v := .agg (List.toArray [Value.bool false, Value.bool b1, Value.bool b2, Value.bool b3, Value.bool b4, Value.bool false, Value.bool b6, Value.bool b7, Value.bool b8, Value.bool b9, Value.bool b10, Value.bool b11, Value.bool b12, Value.bool b13, Value.bool b14, Value.bool b15])) (by simp [results, Tryz.results28, go_sem, r0, r1, r2, r3, r4, r5, r6, r7, r8, r9, r10, r11, r12, r13, r14, r15]) rfl ⟨by rw [HZ.out], by rw [hqq]; exact FIN.out⟩
theorem blankm_any (m : Mg) (rl : m.root.length = 32) (cs : List Value) (hcs : cs = m.R) (w : World) :
    Calls Tryz.prog 28 #[.agg cs.toArray] w fun e w' => e = .returned (.agg (m.zl.map Value.bool).toArray) ∧ Hid (Below w.heap.size w w') := by
  by_cases h : m.st = 0
  · exact blankm_z m rl cs hcs w h
  · exact blankm_s m rl cs hcs w h
end Go.Proofs.YtldhafpeigdloaaGreatDoor
