import Derived.Test.YtldhafpeigdloaaGreatDoorM42
namespace Go.Proofs.YtldhafpeigdloaaGreatDoor
open Go.RowKit Crc

theorem blk_set {W : World} {b : Nat} {cs : List Value} {t : TypeId} (h : W.heap[b]? = some (.cells cs.toArray t (0, 0))) (i : Nat) (v : Value) : (W.setCell ⟨b, i, none⟩ v).heap[b]? = some (.cells (cs.set i v).toArray t (0, 0)) := by
  rw [heap_setCell_same _ b i _ _ v h]
  simp only [List.setIfInBounds_toArray]
theorem blk_range {W : World} {b : Nat} {cs : List Value} {t : TypeId} (h : W.heap[b]? = some (.cells cs.toArray t (0, 0))) : W.rangeAt b 0 cs := fun j v hv => by
  rw [Nat.zero_add, block_cell h j, List.getElem?_toArray]
  exact hv
theorem blk_cell {W : World} {b : Nat} {cs : List Value} {t : TypeId} (h : W.heap[b]? = some (.cells cs.toArray t (0, 0))) {j : Nat} {v : Value} (hv : cs[j]? = some v) : W.cell? ⟨b, j, none⟩ = some v := by
  rw [block_cell h j, List.getElem?_toArray]; exact hv
/-- The boxes of a function that turns a message: what was handed in, the result, the copy. -/
structure S3 (w : World) (cs : List Value) (bc : Nat) (c : List Value) (W : World) : Prop where
  bel : Below w.heap.size w W
  q0 : W.heap[w.heap.size]? = some (.cells cs.toArray 36 (0, 0))
  q1 : ∃ Z : Array Value, W.heap[w.heap.size + 1]? = some (.cells Z 36 (0, 0)) ∧ Z.size = 49
  q2 : W.heap[bc]? = some (.cells c.toArray 36 (0, 0))
  ne : w.heap.size + 1 < bc
theorem S3.set {w : World} {cs : List Value} {bc : Nat} {c : List Value} {W : World} (h : S3 w cs bc c W) (i : Nat) (v : Value) : S3 w cs bc (c.set i v) (W.setCell ⟨bc, i, none⟩ v) := by
  have h1 := h.ne
  have g := grown_set W bc i v
  obtain ⟨Z, z1, z2⟩ := h.q1
  exact ⟨h.bel.grown g h.bel.size (fun k e => by cases e; omega), (g.block _ (block_lt h.q0) (by simp; omega)).trans h.q0, ⟨Z, (g.block _ (block_lt z1) (by simp; omega)).trans z1, z2⟩, blk_set h.q2 i v, h1⟩
theorem S3.next {w : World} {cs : List Value} {bc : Nat} {c : List Value} {W W' : World} (h : S3 w cs bc c W) (hg : W.grownBy W' none) : S3 w cs bc c W' := by
  obtain ⟨Z, z1, z2⟩ := h.q1
  exact ⟨h.bel.grown hg h.bel.size (fun k e => by cases e), (hg.block _ (block_lt h.q0) (by simp)).trans h.q0, ⟨Z, (hg.block _ (block_lt z1) (by simp)).trans z1, z2⟩, (hg.block _ (block_lt h.q2) (by simp)).trans h.q2, h.ne⟩
theorem S3.there {w : World} {cs : List Value} {bc : Nat} {c : List Value} {W : World} (h : S3 w cs bc c W) {n : Nat} (hn : n = 49) : W.there (w.heap.size + 1) 0 n := by
  obtain ⟨Z, z1, z2⟩ := h.q1
  exact block_there2 z1 (by omega)
theorem S3.done {w : World} {cs : List Value} {bc : Nat} {c : List Value} {W : World} (h : S3 w cs bc c W) (vs : List Value) : Below w.heap.size w (W.setCells (w.heap.size + 1) 0 vs) := h.bel.trans ((grown_setC (w.heap.size + 1) vs 0 W).mono (by omega))
theorem s3_new (w : World) (cs : List Value) (Z : Array Value) (hz : Z.size = 49) (W1 W3 : World) (h1 : (w.alloc (.cells cs.toArray 36)).alloc (.cells Z 36) = W1) (g : W1.grownBy W3 none) (hb : W3.heap[W1.heap.size]? = some (.cells cs.toArray 36 (0, 0))) : S3 w cs W1.heap.size cs W3 := by
  have e1 : (w.alloc (.cells cs.toArray 36)).heap.size = w.heap.size + 1 := by simp
  have b1 : Below w.heap.size w W1 := by rw [← h1]; exact (below_alloc1 w _).alloc (by simp) _
  have q0 : W1.heap[w.heap.size]? = some (.cells cs.toArray 36 (0, 0)) := by rw [← h1]; exact ((World.grownBy_alloc _ _ none).block _ (by rw [e1]; omega) (by simp)).trans (alloc_at _ _)
  have q1 : W1.heap[w.heap.size + 1]? = some (.cells Z 36 (0, 0)) := by rw [← h1, ← e1]; exact alloc_at _ _
  exact ⟨b1.grown g b1.size (fun k e => by cases e), (g.block _ (block_lt q0) (by simp)).trans q0, ⟨Z, (g.block _ (block_lt q1) (by simp)).trans q1, hz⟩, hb, block_lt q1⟩
end Go.Proofs.YtldhafpeigdloaaGreatDoor
namespace Go.Proofs.YtldhafpeigdloaaGreatDoor
open Go.RowKit Crc

set_option maxRecDepth 10000 in
set_option maxHeartbeats 3200000 in
theorem strip_1 (m : Mg) (rl : m.root.length = 32) (hk : m.kind = 1) (w : World) : Calls Tryz.prog 19 #[.agg m.R.toArray] w fun e w' => e = .returned (.agg ({ m with kind := 0, seq := 0, co := none, cn := 0, cc := 0, C := [] } : Mg).R.toArray) ∧ Hid (Below w.heap.size w w') := by
  have HL : Hid (m.R.length = 49) := Mg.len rl
  have HON := hide m.one
  have HF1 := hide (show ({ m with kind := 0, seq := 0, co := none, cn := 0, cc := 0, C := [] } : Mg).R.length = 49 from Mg.len rl)
  have HF2 := hide ({ m with kind := 0, seq := 0, co := none, cn := 0, cc := 0, C := [] } : Mg).one
  have HRG : Hid (∀ W1 : World, ∀ Z : Array Value, (w.alloc (.cells m.R.toArray 36)).alloc (.cells Z 36) = W1 → W1.rangeAt w.heap.size 0 m.R) := fun W1 Z h => by
    rw [← h]
    exact blk_range (((World.grownBy_alloc _ _ none).block _ (by simp) (by simp)).trans (alloc_at w _))
  have HX0 : Hid (m.R[0]? = some (.int .i64 1)) := by show _ = _; rw [← hk]; rfl
  have HX8 : Hid (m.R[8]? = some (.int .u64 (m.seq : Int))) := rfl
  have HX11 : Hid (m.R[11]? = some (.slice m.co m.cn m.cc)) := rfl
  have HFE : Hid (((m.R.set 0 (.int .i64 0)).set 8 (.int .u64 0)).set 11 (.slice none 0 0) = ({ m with kind := 0, seq := 0, co := none, cn := 0, cc := 0, C := [] } : Mg).R) := rfl
  clear rl hk
  generalize ({ m with kind := 0, seq := 0, co := none, cn := 0, cc := 0, C := [] } : Mg).R = FR at *
  generalize m.R = cs at *
  have HSZ : Hid ((Tryz.prog.info? 36).map (·.size) = some cs.length) := by show _ = _; rw [HL.out]; kernel_rfl
  have HSF : Hid ((Tryz.prog.info? 36).map (·.size) = some FR.length) := by show _ = _; rw [HF1.out]; kernel_rfl
  go_enter Tryz.func19, Tryz.ntmps19
  go_upto_region 1 with fail
  generalize hW1 : World.alloc (World.alloc w _) _ = W1
  obtain ⟨Z, hZ, hZ1⟩ : ∃ Z : Array Value, Z.size = 49 ∧ (w.alloc (.cells cs.toArray 36)).alloc (.cells Z 36) = W1 := ⟨_, by rfl, hW1⟩
  have RG1 := hide (HRG.out W1 Z hZ1)
  have HW1 := hide (And.intro hZ hZ1)
  clear hZ hZ1 hW1 HRG
  go_step
  refine wpList_load_mid rfl 36 _ rfl w.heap.size 0 rfl cs _ RG1.out Tryz.underlying36 rfl HSZ.out ?_
  simp only [Act.put, List.setIfInBounds_toArray, List.set_cons_zero, List.set_cons_succ]
  iterate 3 go_step
  refine wpList_store_box rfl 36 _ _ rfl cs rfl rfl (by rw [HL.out]; rfl) HSZ.out HON.out ?_
  intro W3 g3 rb3
  have S3N := hide (s3_new w cs Z HW1.out.1 W1 W3 HW1.out.2 g3 rb3)
  clear g3 rb3 HW1 RG1
  generalize W1.heap.size = bc at *
  have z0 := blk_cell S3N.out.q0 HX0.out
  have x0 := blk_cell S3N.out.q2 HX0.out
  have f0 := block_free S3N.out.q2 0
  have hlt := block_lt S3N.out.q2
  have hlt0 := block_lt S3N.out.q0
  have hne : w.heap.size ≠ bc := by have := S3N.out.ne; omega
  have x8 := blk_cell S3N.out.q2 HX8.out
  have f8 := block_free S3N.out.q2 8
  have x11 := blk_cell S3N.out.q2 HX11.out
  have f11 := block_free S3N.out.q2 11
  have SF : Hid (S3 w cs bc FR (((W3.setCell ⟨bc, 0, none⟩ (.int .i64 0)).setCell ⟨bc, 8, none⟩ (.int .u64 0)).setCell ⟨bc, 11, none⟩ (.slice none 0 0))) := by
    have h := (((S3N.out.set 0 (.int .i64 0)).set 8 (.int .u64 0)).set 11 (.slice none 0 0))
    rw [HFE.out] at h
    exact h
  have RF := hide (blk_range SF.out.q2)
  have TF : Hid ((((W3.setCell ⟨bc, 0, none⟩ (.int .i64 0)).setCell ⟨bc, 8, none⟩ (.int .u64 0)).setCell ⟨bc, 11, none⟩ (.slice none 0 0)).there (w.heap.size + 1) 0 FR.length) := SF.out.there HF1.out
  simp only [Act.put]
  go_upto_region 23 with fail
  go_step
  refine wpList_load_mid rfl 36 _ rfl bc 0 rfl FR _ RF.out Tryz.underlying36 rfl HSF.out ?_
  simp only [Act.put, List.setIfInBounds_toArray, List.set_cons_zero, List.set_cons_succ]
  refine wpList_store_mid rfl 36 _ _ rfl (w.heap.size + 1) 0 FR.toArray rfl rfl (by simpa using TF.out) (by simpa using HSF.out) (all_oneCell_toArray HF2.out) ?_
  go_wp2
  simp only [Act.put]
  have hld := run_loadVar_mid (P := Tryz.prog) ((((W3.setCell ⟨bc, 0, none⟩ (.int .i64 0)).setCell ⟨bc, 8, none⟩ (.int .u64 0)).setCell ⟨bc, 11, none⟩ (.slice none 0 0)).setCells (w.heap.size + 1) 0 FR) (w.heap.size + 1) 0 36 FR _ (World.rangeAt_setCells_same _ _ _ _ TF.out) Tryz.underlying36 rfl HSF.out
  refine bodyPost_ret (v := .agg FR.toArray) ?_ rfl ⟨rfl, SF.out.done FR⟩
  simp [results, Tryz.results19, asAddr, hld]

set_option maxRecDepth 10000 in
set_option maxHeartbeats 3200000 in
theorem strip_2 (m : Mg) (rl : m.root.length = 32) (hk : m.kind = 2) (w : World) : Calls Tryz.prog 19 #[.agg m.R.toArray] w fun e w' => e = .returned (.agg ({ m with kind := 0, seq := 0, stamp := 0, code := 0, do_ := none, dn := 0, dc := 0, D := [] } : Mg).R.toArray) ∧ Hid (Below w.heap.size w w') := by
  have HL : Hid (m.R.length = 49) := Mg.len rl
  have HON := hide m.one
  have HF1 := hide (show ({ m with kind := 0, seq := 0, stamp := 0, code := 0, do_ := none, dn := 0, dc := 0, D := [] } : Mg).R.length = 49 from Mg.len rl)
  have HF2 := hide ({ m with kind := 0, seq := 0, stamp := 0, code := 0, do_ := none, dn := 0, dc := 0, D := [] } : Mg).one
  have HRG : Hid (∀ W1 : World, ∀ Z : Array Value, (w.alloc (.cells m.R.toArray 36)).alloc (.cells Z 36) = W1 → W1.rangeAt w.heap.size 0 m.R) := fun W1 Z h => by
    rw [← h]
    exact blk_range (((World.grownBy_alloc _ _ none).block _ (by simp) (by simp)).trans (alloc_at w _))
  have HX0 : Hid (m.R[0]? = some (.int .i64 2)) := by show _ = _; rw [← hk]; rfl
  have HX8 : Hid (m.R[8]? = some (.int .u64 (m.seq : Int))) := rfl
  have HX9 : Hid (m.R[9]? = some (.int .u64 (m.stamp : Int))) := rfl
  have HX10 : Hid (m.R[10]? = some (.int .i64 m.code)) := rfl
  have HX12 : Hid (m.R[12]? = some (.slice m.do_ m.dn m.dc)) := rfl
  have HFE : Hid (((((m.R.set 0 (.int .i64 0)).set 8 (.int .u64 0)).set 9 (.int .u64 0)).set 10 (.int .i64 0)).set 12 (.slice none 0 0) = ({ m with kind := 0, seq := 0, stamp := 0, code := 0, do_ := none, dn := 0, dc := 0, D := [] } : Mg).R) := rfl
  clear rl hk
  generalize ({ m with kind := 0, seq := 0, stamp := 0, code := 0, do_ := none, dn := 0, dc := 0, D := [] } : Mg).R = FR at *
  generalize m.R = cs at *
  have HSZ : Hid ((Tryz.prog.info? 36).map (·.size) = some cs.length) := by show _ = _; rw [HL.out]; kernel_rfl
  have HSF : Hid ((Tryz.prog.info? 36).map (·.size) = some FR.length) := by show _ = _; rw [HF1.out]; kernel_rfl
  go_enter Tryz.func19, Tryz.ntmps19
  go_upto_region 1 with fail
  generalize hW1 : World.alloc (World.alloc w _) _ = W1
  obtain ⟨Z, hZ, hZ1⟩ : ∃ Z : Array Value, Z.size = 49 ∧ (w.alloc (.cells cs.toArray 36)).alloc (.cells Z 36) = W1 := ⟨_, by rfl, hW1⟩
  have RG1 := hide (HRG.out W1 Z hZ1)
  have HW1 := hide (And.intro hZ hZ1)
  clear hZ hZ1 hW1 HRG
  go_step
  refine wpList_load_mid rfl 36 _ rfl w.heap.size 0 rfl cs _ RG1.out Tryz.underlying36 rfl HSZ.out ?_
  simp only [Act.put, List.setIfInBounds_toArray, List.set_cons_zero, List.set_cons_succ]
  iterate 3 go_step
  refine wpList_store_box rfl 36 _ _ rfl cs rfl rfl (by rw [HL.out]; rfl) HSZ.out HON.out ?_
  intro W3 g3 rb3
  have S3N := hide (s3_new w cs Z HW1.out.1 W1 W3 HW1.out.2 g3 rb3)
  clear g3 rb3 HW1 RG1
  generalize W1.heap.size = bc at *
  have z0 := blk_cell S3N.out.q0 HX0.out
  have x0 := blk_cell S3N.out.q2 HX0.out
  have f0 := block_free S3N.out.q2 0
  have hlt := block_lt S3N.out.q2
  have hlt0 := block_lt S3N.out.q0
  have hne : w.heap.size ≠ bc := by have := S3N.out.ne; omega
  have x8 := blk_cell S3N.out.q2 HX8.out
  have f8 := block_free S3N.out.q2 8
  have x9 := blk_cell S3N.out.q2 HX9.out
  have f9 := block_free S3N.out.q2 9
  have x10 := blk_cell S3N.out.q2 HX10.out
  have f10 := block_free S3N.out.q2 10
  have x12 := blk_cell S3N.out.q2 HX12.out
  have f12 := block_free S3N.out.q2 12
  have SF : Hid (S3 w cs bc FR (((((W3.setCell ⟨bc, 0, none⟩ (.int .i64 0)).setCell ⟨bc, 8, none⟩ (.int .u64 0)).setCell ⟨bc, 9, none⟩ (.int .u64 0)).setCell ⟨bc, 10, none⟩ (.int .i64 0)).setCell ⟨bc, 12, none⟩ (.slice none 0 0))) := by
    have h := (((((S3N.out.set 0 (.int .i64 0)).set 8 (.int .u64 0)).set 9 (.int .u64 0)).set 10 (.int .i64 0)).set 12 (.slice none 0 0))
    rw [HFE.out] at h
    exact h
  have RF := hide (blk_range SF.out.q2)
  have TF : Hid ((((((W3.setCell ⟨bc, 0, none⟩ (.int .i64 0)).setCell ⟨bc, 8, none⟩ (.int .u64 0)).setCell ⟨bc, 9, none⟩ (.int .u64 0)).setCell ⟨bc, 10, none⟩ (.int .i64 0)).setCell ⟨bc, 12, none⟩ (.slice none 0 0)).there (w.heap.size + 1) 0 FR.length) := SF.out.there HF1.out
  simp only [Act.put]
  go_upto_region 23 with fail
  go_step
  refine wpList_load_mid rfl 36 _ rfl bc 0 rfl FR _ RF.out Tryz.underlying36 rfl HSF.out ?_
  simp only [Act.put, List.setIfInBounds_toArray, List.set_cons_zero, List.set_cons_succ]
  refine wpList_store_mid rfl 36 _ _ rfl (w.heap.size + 1) 0 FR.toArray rfl rfl (by simpa using TF.out) (by simpa using HSF.out) (all_oneCell_toArray HF2.out) ?_
  go_wp2
  simp only [Act.put]
  have hld := run_loadVar_mid (P := Tryz.prog) ((((((W3.setCell ⟨bc, 0, none⟩ (.int .i64 0)).setCell ⟨bc, 8, none⟩ (.int .u64 0)).setCell ⟨bc, 9, none⟩ (.int .u64 0)).setCell ⟨bc, 10, none⟩ (.int .i64 0)).setCell ⟨bc, 12, none⟩ (.slice none 0 0)).setCells (w.heap.size + 1) 0 FR) (w.heap.size + 1) 0 36 FR _ (World.rangeAt_setCells_same _ _ _ _ TF.out) Tryz.underlying36 rfl HSF.out
  refine bodyPost_ret (v := .agg FR.toArray) ?_ rfl ⟨rfl, SF.out.done FR⟩
  simp [results, Tryz.results19, asAddr, hld]

set_option maxRecDepth 10000 in
set_option maxHeartbeats 3200000 in
theorem strip_3 (m : Mg) (rl : m.root.length = 32) (hk : m.kind = 3) (w : World) : Calls Tryz.prog 19 #[.agg m.R.toArray] w fun e w' => e = .returned (.agg ({ m with kind := 0, num := 0, node := 0 } : Mg).R.toArray) ∧ Hid (Below w.heap.size w w') := by
  have HL : Hid (m.R.length = 49) := Mg.len rl
  have HON := hide m.one
  have HF1 := hide (show ({ m with kind := 0, num := 0, node := 0 } : Mg).R.length = 49 from Mg.len rl)
  have HF2 := hide ({ m with kind := 0, num := 0, node := 0 } : Mg).one
  have HRG : Hid (∀ W1 : World, ∀ Z : Array Value, (w.alloc (.cells m.R.toArray 36)).alloc (.cells Z 36) = W1 → W1.rangeAt w.heap.size 0 m.R) := fun W1 Z h => by
    rw [← h]
    exact blk_range (((World.grownBy_alloc _ _ none).block _ (by simp) (by simp)).trans (alloc_at w _))
  have HX0 : Hid (m.R[0]? = some (.int .i64 3)) := by show _ = _; rw [← hk]; rfl
  have HX1 : Hid (m.R[1]? = some (.int .u64 (m.num : Int))) := rfl
  have HX2 : Hid (m.R[2]? = some (.int .i64 m.node)) := rfl
  have HFE : Hid (((m.R.set 0 (.int .i64 0)).set 1 (.int .u64 0)).set 2 (.int .i64 0) = ({ m with kind := 0, num := 0, node := 0 } : Mg).R) := rfl
  clear rl hk
  generalize ({ m with kind := 0, num := 0, node := 0 } : Mg).R = FR at *
  generalize m.R = cs at *
  have HSZ : Hid ((Tryz.prog.info? 36).map (·.size) = some cs.length) := by show _ = _; rw [HL.out]; kernel_rfl
  have HSF : Hid ((Tryz.prog.info? 36).map (·.size) = some FR.length) := by show _ = _; rw [HF1.out]; kernel_rfl
  go_enter Tryz.func19, Tryz.ntmps19
  go_upto_region 1 with fail
  generalize hW1 : World.alloc (World.alloc w _) _ = W1
  obtain ⟨Z, hZ, hZ1⟩ : ∃ Z : Array Value, Z.size = 49 ∧ (w.alloc (.cells cs.toArray 36)).alloc (.cells Z 36) = W1 := ⟨_, by rfl, hW1⟩
  have RG1 := hide (HRG.out W1 Z hZ1)
  have HW1 := hide (And.intro hZ hZ1)
  clear hZ hZ1 hW1 HRG
  go_step
  refine wpList_load_mid rfl 36 _ rfl w.heap.size 0 rfl cs _ RG1.out Tryz.underlying36 rfl HSZ.out ?_
  simp only [Act.put, List.setIfInBounds_toArray, List.set_cons_zero, List.set_cons_succ]
  iterate 3 go_step
  refine wpList_store_box rfl 36 _ _ rfl cs rfl rfl (by rw [HL.out]; rfl) HSZ.out HON.out ?_
  intro W3 g3 rb3
  have S3N := hide (s3_new w cs Z HW1.out.1 W1 W3 HW1.out.2 g3 rb3)
  clear g3 rb3 HW1 RG1
  generalize W1.heap.size = bc at *
  have z0 := blk_cell S3N.out.q0 HX0.out
  have x0 := blk_cell S3N.out.q2 HX0.out
  have f0 := block_free S3N.out.q2 0
  have hlt := block_lt S3N.out.q2
  have hlt0 := block_lt S3N.out.q0
  have hne : w.heap.size ≠ bc := by have := S3N.out.ne; omega
  have x1 := blk_cell S3N.out.q2 HX1.out
  have f1 := block_free S3N.out.q2 1
  have x2 := blk_cell S3N.out.q2 HX2.out
  have f2 := block_free S3N.out.q2 2
  have SF : Hid (S3 w cs bc FR (((W3.setCell ⟨bc, 0, none⟩ (.int .i64 0)).setCell ⟨bc, 1, none⟩ (.int .u64 0)).setCell ⟨bc, 2, none⟩ (.int .i64 0))) := by
    have h := (((S3N.out.set 0 (.int .i64 0)).set 1 (.int .u64 0)).set 2 (.int .i64 0))
    rw [HFE.out] at h
    exact h
  have RF := hide (blk_range SF.out.q2)
  have TF : Hid ((((W3.setCell ⟨bc, 0, none⟩ (.int .i64 0)).setCell ⟨bc, 1, none⟩ (.int .u64 0)).setCell ⟨bc, 2, none⟩ (.int .i64 0)).there (w.heap.size + 1) 0 FR.length) := SF.out.there HF1.out
  simp only [Act.put]
  go_upto_region 23 with fail
  go_step
  refine wpList_load_mid rfl 36 _ rfl bc 0 rfl FR _ RF.out Tryz.underlying36 rfl HSF.out ?_
  simp only [Act.put, List.setIfInBounds_toArray, List.set_cons_zero, List.set_cons_succ]
  refine wpList_store_mid rfl 36 _ _ rfl (w.heap.size + 1) 0 FR.toArray rfl rfl (by simpa using TF.out) (by simpa using HSF.out) (all_oneCell_toArray HF2.out) ?_
  go_wp2
  simp only [Act.put]
  have hld := run_loadVar_mid (P := Tryz.prog) ((((W3.setCell ⟨bc, 0, none⟩ (.int .i64 0)).setCell ⟨bc, 1, none⟩ (.int .u64 0)).setCell ⟨bc, 2, none⟩ (.int .i64 0)).setCells (w.heap.size + 1) 0 FR) (w.heap.size + 1) 0 36 FR _ (World.rangeAt_setCells_same _ _ _ _ TF.out) Tryz.underlying36 rfl HSF.out
  refine bodyPost_ret (v := .agg FR.toArray) ?_ rfl ⟨rfl, SF.out.done FR⟩
  simp [results, Tryz.results19, asAddr, hld]
end Go.Proofs.YtldhafpeigdloaaGreatDoor
namespace Go.Proofs.YtldhafpeigdloaaGreatDoor
open Go.RowKit Crc

set_option maxRecDepth 10000 in
set_option maxHeartbeats 3200000 in
theorem strip_4 (m : Mg) (rl : m.root.length = 32) (hk : m.kind = 4) (w : World) : Calls Tryz.prog 19 #[.agg m.R.toArray] w fun e w' => e = .returned (.agg ({ m with kind := 0, num := 0, node := 0, low := 0, vo := none, vn := 0, vc := 0, vs := [] } : Mg).R.toArray) ∧ Hid (Below w.heap.size w w') := by
  have HL : Hid (m.R.length = 49) := Mg.len rl
  have HON := hide m.one
  have HF1 := hide (show ({ m with kind := 0, num := 0, node := 0, low := 0, vo := none, vn := 0, vc := 0, vs := [] } : Mg).R.length = 49 from Mg.len rl)
  have HF2 := hide ({ m with kind := 0, num := 0, node := 0, low := 0, vo := none, vn := 0, vc := 0, vs := [] } : Mg).one
  have HRG : Hid (∀ W1 : World, ∀ Z : Array Value, (w.alloc (.cells m.R.toArray 36)).alloc (.cells Z 36) = W1 → W1.rangeAt w.heap.size 0 m.R) := fun W1 Z h => by
    rw [← h]
    exact blk_range (((World.grownBy_alloc _ _ none).block _ (by simp) (by simp)).trans (alloc_at w _))
  have HX0 : Hid (m.R[0]? = some (.int .i64 4)) := by show _ = _; rw [← hk]; rfl
  have HX1 : Hid (m.R[1]? = some (.int .u64 (m.num : Int))) := rfl
  have HX2 : Hid (m.R[2]? = some (.int .i64 m.node)) := rfl
  have HX4 : Hid (m.R[4]? = some (.int .u64 (m.low : Int))) := rfl
  have HX5 : Hid (m.R[5]? = some (.slice m.vo m.vn m.vc)) := rfl
  have HFE : Hid (((((m.R.set 0 (.int .i64 0)).set 1 (.int .u64 0)).set 2 (.int .i64 0)).set 4 (.int .u64 0)).set 5 (.slice none 0 0) = ({ m with kind := 0, num := 0, node := 0, low := 0, vo := none, vn := 0, vc := 0, vs := [] } : Mg).R) := rfl
  clear rl hk
  generalize ({ m with kind := 0, num := 0, node := 0, low := 0, vo := none, vn := 0, vc := 0, vs := [] } : Mg).R = FR at *
  generalize m.R = cs at *
  have HSZ : Hid ((Tryz.prog.info? 36).map (·.size) = some cs.length) := by show _ = _; rw [HL.out]; kernel_rfl
  have HSF : Hid ((Tryz.prog.info? 36).map (·.size) = some FR.length) := by show _ = _; rw [HF1.out]; kernel_rfl
  go_enter Tryz.func19, Tryz.ntmps19
  go_upto_region 1 with fail
  generalize hW1 : World.alloc (World.alloc w _) _ = W1
  obtain ⟨Z, hZ, hZ1⟩ : ∃ Z : Array Value, Z.size = 49 ∧ (w.alloc (.cells cs.toArray 36)).alloc (.cells Z 36) = W1 := ⟨_, by rfl, hW1⟩
  have RG1 := hide (HRG.out W1 Z hZ1)
  have HW1 := hide (And.intro hZ hZ1)
  clear hZ hZ1 hW1 HRG
  go_step
  refine wpList_load_mid rfl 36 _ rfl w.heap.size 0 rfl cs _ RG1.out Tryz.underlying36 rfl HSZ.out ?_
  simp only [Act.put, List.setIfInBounds_toArray, List.set_cons_zero, List.set_cons_succ]
  iterate 3 go_step
  refine wpList_store_box rfl 36 _ _ rfl cs rfl rfl (by rw [HL.out]; rfl) HSZ.out HON.out ?_
  intro W3 g3 rb3
  have S3N := hide (s3_new w cs Z HW1.out.1 W1 W3 HW1.out.2 g3 rb3)
  clear g3 rb3 HW1 RG1
  generalize W1.heap.size = bc at *
  have z0 := blk_cell S3N.out.q0 HX0.out
  have x0 := blk_cell S3N.out.q2 HX0.out
  have f0 := block_free S3N.out.q2 0
  have hlt := block_lt S3N.out.q2
  have hlt0 := block_lt S3N.out.q0
  have hne : w.heap.size ≠ bc := by have := S3N.out.ne; omega
  have x1 := blk_cell S3N.out.q2 HX1.out
  have f1 := block_free S3N.out.q2 1
  have x2 := blk_cell S3N.out.q2 HX2.out
  have f2 := block_free S3N.out.q2 2
  have x4 := blk_cell S3N.out.q2 HX4.out
  have f4 := block_free S3N.out.q2 4
  have x5 := blk_cell S3N.out.q2 HX5.out
  have f5 := block_free S3N.out.q2 5
  have SF : Hid (S3 w cs bc FR (((((W3.setCell ⟨bc, 0, none⟩ (.int .i64 0)).setCell ⟨bc, 1, none⟩ (.int .u64 0)).setCell ⟨bc, 2, none⟩ (.int .i64 0)).setCell ⟨bc, 4, none⟩ (.int .u64 0)).setCell ⟨bc, 5, none⟩ (.slice none 0 0))) := by
    have h := (((((S3N.out.set 0 (.int .i64 0)).set 1 (.int .u64 0)).set 2 (.int .i64 0)).set 4 (.int .u64 0)).set 5 (.slice none 0 0))
    rw [HFE.out] at h
    exact h
  have RF := hide (blk_range SF.out.q2)
  have TF : Hid ((((((W3.setCell ⟨bc, 0, none⟩ (.int .i64 0)).setCell ⟨bc, 1, none⟩ (.int .u64 0)).setCell ⟨bc, 2, none⟩ (.int .i64 0)).setCell ⟨bc, 4, none⟩ (.int .u64 0)).setCell ⟨bc, 5, none⟩ (.slice none 0 0)).there (w.heap.size + 1) 0 FR.length) := SF.out.there HF1.out
  simp only [Act.put]
  go_upto_region 23 with fail
  go_step
  refine wpList_load_mid rfl 36 _ rfl bc 0 rfl FR _ RF.out Tryz.underlying36 rfl HSF.out ?_
  simp only [Act.put, List.setIfInBounds_toArray, List.set_cons_zero, List.set_cons_succ]
  refine wpList_store_mid rfl 36 _ _ rfl (w.heap.size + 1) 0 FR.toArray rfl rfl (by simpa using TF.out) (by simpa using HSF.out) (all_oneCell_toArray HF2.out) ?_
  go_wp2
  simp only [Act.put]
  have hld := run_loadVar_mid (P := Tryz.prog) ((((((W3.setCell ⟨bc, 0, none⟩ (.int .i64 0)).setCell ⟨bc, 1, none⟩ (.int .u64 0)).setCell ⟨bc, 2, none⟩ (.int .i64 0)).setCell ⟨bc, 4, none⟩ (.int .u64 0)).setCell ⟨bc, 5, none⟩ (.slice none 0 0)).setCells (w.heap.size + 1) 0 FR) (w.heap.size + 1) 0 36 FR _ (World.rangeAt_setCells_same _ _ _ _ TF.out) Tryz.underlying36 rfl HSF.out
  refine bodyPost_ret (v := .agg FR.toArray) ?_ rfl ⟨rfl, SF.out.done FR⟩
  simp [results, Tryz.results19, asAddr, hld]

set_option maxRecDepth 10000 in
set_option maxHeartbeats 3200000 in
theorem strip_5 (m : Mg) (rl : m.root.length = 32) (hk : m.kind = 5) (w : World) : Calls Tryz.prog 19 #[.agg m.R.toArray] w fun e w' => e = .returned (.agg ({ m with kind := 0, num := 0, node := 0, low := 0 } : Mg).R.toArray) ∧ Hid (Below w.heap.size w w') := by
  have HL : Hid (m.R.length = 49) := Mg.len rl
  have HON := hide m.one
  have HF1 := hide (show ({ m with kind := 0, num := 0, node := 0, low := 0 } : Mg).R.length = 49 from Mg.len rl)
  have HF2 := hide ({ m with kind := 0, num := 0, node := 0, low := 0 } : Mg).one
  have HRG : Hid (∀ W1 : World, ∀ Z : Array Value, (w.alloc (.cells m.R.toArray 36)).alloc (.cells Z 36) = W1 → W1.rangeAt w.heap.size 0 m.R) := fun W1 Z h => by
    rw [← h]
    exact blk_range (((World.grownBy_alloc _ _ none).block _ (by simp) (by simp)).trans (alloc_at w _))
  have HX0 : Hid (m.R[0]? = some (.int .i64 5)) := by show _ = _; rw [← hk]; rfl
  have HX1 : Hid (m.R[1]? = some (.int .u64 (m.num : Int))) := rfl
  have HX2 : Hid (m.R[2]? = some (.int .i64 m.node)) := rfl
  have HX4 : Hid (m.R[4]? = some (.int .u64 (m.low : Int))) := rfl
  have HFE : Hid ((((m.R.set 0 (.int .i64 0)).set 1 (.int .u64 0)).set 2 (.int .i64 0)).set 4 (.int .u64 0) = ({ m with kind := 0, num := 0, node := 0, low := 0 } : Mg).R) := rfl
  clear rl hk
  generalize ({ m with kind := 0, num := 0, node := 0, low := 0 } : Mg).R = FR at *
  generalize m.R = cs at *
  have HSZ : Hid ((Tryz.prog.info? 36).map (·.size) = some cs.length) := by show _ = _; rw [HL.out]; kernel_rfl
  have HSF : Hid ((Tryz.prog.info? 36).map (·.size) = some FR.length) := by show _ = _; rw [HF1.out]; kernel_rfl
  go_enter Tryz.func19, Tryz.ntmps19
  go_upto_region 1 with fail
  generalize hW1 : World.alloc (World.alloc w _) _ = W1
  obtain ⟨Z, hZ, hZ1⟩ : ∃ Z : Array Value, Z.size = 49 ∧ (w.alloc (.cells cs.toArray 36)).alloc (.cells Z 36) = W1 := ⟨_, by rfl, hW1⟩
  have RG1 := hide (HRG.out W1 Z hZ1)
  have HW1 := hide (And.intro hZ hZ1)
  clear hZ hZ1 hW1 HRG
  go_step
  refine wpList_load_mid rfl 36 _ rfl w.heap.size 0 rfl cs _ RG1.out Tryz.underlying36 rfl HSZ.out ?_
  simp only [Act.put, List.setIfInBounds_toArray, List.set_cons_zero, List.set_cons_succ]
  iterate 3 go_step
  refine wpList_store_box rfl 36 _ _ rfl cs rfl rfl (by rw [HL.out]; rfl) HSZ.out HON.out ?_
  intro W3 g3 rb3
  have S3N := hide (s3_new w cs Z HW1.out.1 W1 W3 HW1.out.2 g3 rb3)
  clear g3 rb3 HW1 RG1
  generalize W1.heap.size = bc at *
  have z0 := blk_cell S3N.out.q0 HX0.out
  have x0 := blk_cell S3N.out.q2 HX0.out
  have f0 := block_free S3N.out.q2 0
  have hlt := block_lt S3N.out.q2
  have hlt0 := block_lt S3N.out.q0
  have hne : w.heap.size ≠ bc := by have := S3N.out.ne; omega
  have x1 := blk_cell S3N.out.q2 HX1.out
  have f1 := block_free S3N.out.q2 1
  have x2 := blk_cell S3N.out.q2 HX2.out
  have f2 := block_free S3N.out.q2 2
  have x4 := blk_cell S3N.out.q2 HX4.out
  have f4 := block_free S3N.out.q2 4
  have SF : Hid (S3 w cs bc FR ((((W3.setCell ⟨bc, 0, none⟩ (.int .i64 0)).setCell ⟨bc, 1, none⟩ (.int .u64 0)).setCell ⟨bc, 2, none⟩ (.int .i64 0)).setCell ⟨bc, 4, none⟩ (.int .u64 0))) := by
    have h := ((((S3N.out.set 0 (.int .i64 0)).set 1 (.int .u64 0)).set 2 (.int .i64 0)).set 4 (.int .u64 0))
    rw [HFE.out] at h
    exact h
  have RF := hide (blk_range SF.out.q2)
  have TF : Hid (((((W3.setCell ⟨bc, 0, none⟩ (.int .i64 0)).setCell ⟨bc, 1, none⟩ (.int .u64 0)).setCell ⟨bc, 2, none⟩ (.int .i64 0)).setCell ⟨bc, 4, none⟩ (.int .u64 0)).there (w.heap.size + 1) 0 FR.length) := SF.out.there HF1.out
  simp only [Act.put]
  go_upto_region 23 with fail
  go_step
  refine wpList_load_mid rfl 36 _ rfl bc 0 rfl FR _ RF.out Tryz.underlying36 rfl HSF.out ?_
  simp only [Act.put, List.setIfInBounds_toArray, List.set_cons_zero, List.set_cons_succ]
  refine wpList_store_mid rfl 36 _ _ rfl (w.heap.size + 1) 0 FR.toArray rfl rfl (by simpa using TF.out) (by simpa using HSF.out) (all_oneCell_toArray HF2.out) ?_
  go_wp2
  simp only [Act.put]
  have hld := run_loadVar_mid (P := Tryz.prog) (((((W3.setCell ⟨bc, 0, none⟩ (.int .i64 0)).setCell ⟨bc, 1, none⟩ (.int .u64 0)).setCell ⟨bc, 2, none⟩ (.int .i64 0)).setCell ⟨bc, 4, none⟩ (.int .u64 0)).setCells (w.heap.size + 1) 0 FR) (w.heap.size + 1) 0 36 FR _ (World.rangeAt_setCells_same _ _ _ _ TF.out) Tryz.underlying36 rfl HSF.out
  refine bodyPost_ret (v := .agg FR.toArray) ?_ rfl ⟨rfl, SF.out.done FR⟩
  simp [results, Tryz.results19, asAddr, hld]

set_option maxRecDepth 10000 in
set_option maxHeartbeats 3200000 in
theorem strip_6 (m : Mg) (rl : m.root.length = 32) (hk : m.kind = 6) (w : World) : Calls Tryz.prog 19 #[.agg m.R.toArray] w fun e w' => e = .returned (.agg ({ m with kind := 0, num := 0, node := 0, slot := 0, st := 0, ro := none, n := 0, rc := 0, rs := [] } : Mg).R.toArray) ∧ Hid (Below w.heap.size w w') := by
  have HL : Hid (m.R.length = 49) := Mg.len rl
  have HON := hide m.one
  have HF1 := hide (show ({ m with kind := 0, num := 0, node := 0, slot := 0, st := 0, ro := none, n := 0, rc := 0, rs := [] } : Mg).R.length = 49 from Mg.len rl)
  have HF2 := hide ({ m with kind := 0, num := 0, node := 0, slot := 0, st := 0, ro := none, n := 0, rc := 0, rs := [] } : Mg).one
  have HRG : Hid (∀ W1 : World, ∀ Z : Array Value, (w.alloc (.cells m.R.toArray 36)).alloc (.cells Z 36) = W1 → W1.rangeAt w.heap.size 0 m.R) := fun W1 Z h => by
    rw [← h]
    exact blk_range (((World.grownBy_alloc _ _ none).block _ (by simp) (by simp)).trans (alloc_at w _))
  have HX0 : Hid (m.R[0]? = some (.int .i64 6)) := by show _ = _; rw [← hk]; rfl
  have HX1 : Hid (m.R[1]? = some (.int .u64 (m.num : Int))) := rfl
  have HX2 : Hid (m.R[2]? = some (.int .i64 m.node)) := rfl
  have HX3 : Hid (m.R[3]? = some (.int .u64 (m.slot : Int))) := rfl
  have HX6 : Hid (m.R[6]? = some (.int .u64 (m.st : Int))) := rfl
  have HX7 : Hid (m.R[7]? = some (.slice m.ro m.n m.rc)) := rfl
  have HFE : Hid ((((((m.R.set 0 (.int .i64 0)).set 1 (.int .u64 0)).set 2 (.int .i64 0)).set 3 (.int .u64 0)).set 6 (.int .u64 0)).set 7 (.slice none 0 0) = ({ m with kind := 0, num := 0, node := 0, slot := 0, st := 0, ro := none, n := 0, rc := 0, rs := [] } : Mg).R) := rfl
  clear rl hk
  generalize ({ m with kind := 0, num := 0, node := 0, slot := 0, st := 0, ro := none, n := 0, rc := 0, rs := [] } : Mg).R = FR at *
  generalize m.R = cs at *
  have HSZ : Hid ((Tryz.prog.info? 36).map (·.size) = some cs.length) := by show _ = _; rw [HL.out]; kernel_rfl
  have HSF : Hid ((Tryz.prog.info? 36).map (·.size) = some FR.length) := by show _ = _; rw [HF1.out]; kernel_rfl
  go_enter Tryz.func19, Tryz.ntmps19
  go_upto_region 1 with fail
  generalize hW1 : World.alloc (World.alloc w _) _ = W1
  obtain ⟨Z, hZ, hZ1⟩ : ∃ Z : Array Value, Z.size = 49 ∧ (w.alloc (.cells cs.toArray 36)).alloc (.cells Z 36) = W1 := ⟨_, by rfl, hW1⟩
  have RG1 := hide (HRG.out W1 Z hZ1)
  have HW1 := hide (And.intro hZ hZ1)
  clear hZ hZ1 hW1 HRG
  go_step
  refine wpList_load_mid rfl 36 _ rfl w.heap.size 0 rfl cs _ RG1.out Tryz.underlying36 rfl HSZ.out ?_
  simp only [Act.put, List.setIfInBounds_toArray, List.set_cons_zero, List.set_cons_succ]
  iterate 3 go_step
  refine wpList_store_box rfl 36 _ _ rfl cs rfl rfl (by rw [HL.out]; rfl) HSZ.out HON.out ?_
  intro W3 g3 rb3
  have S3N := hide (s3_new w cs Z HW1.out.1 W1 W3 HW1.out.2 g3 rb3)
  clear g3 rb3 HW1 RG1
  generalize W1.heap.size = bc at *
  have z0 := blk_cell S3N.out.q0 HX0.out
  have x0 := blk_cell S3N.out.q2 HX0.out
  have f0 := block_free S3N.out.q2 0
  have hlt := block_lt S3N.out.q2
  have hlt0 := block_lt S3N.out.q0
  have hne : w.heap.size ≠ bc := by have := S3N.out.ne; omega
  have x1 := blk_cell S3N.out.q2 HX1.out
  have f1 := block_free S3N.out.q2 1
  have x2 := blk_cell S3N.out.q2 HX2.out
  have f2 := block_free S3N.out.q2 2
  have x3 := blk_cell S3N.out.q2 HX3.out
  have f3 := block_free S3N.out.q2 3
  have x6 := blk_cell S3N.out.q2 HX6.out
  have f6 := block_free S3N.out.q2 6
  have x7 := blk_cell S3N.out.q2 HX7.out
  have f7 := block_free S3N.out.q2 7
  have SF : Hid (S3 w cs bc FR ((((((W3.setCell ⟨bc, 0, none⟩ (.int .i64 0)).setCell ⟨bc, 1, none⟩ (.int .u64 0)).setCell ⟨bc, 2, none⟩ (.int .i64 0)).setCell ⟨bc, 3, none⟩ (.int .u64 0)).setCell ⟨bc, 6, none⟩ (.int .u64 0)).setCell ⟨bc, 7, none⟩ (.slice none 0 0))) := by
    have h := ((((((S3N.out.set 0 (.int .i64 0)).set 1 (.int .u64 0)).set 2 (.int .i64 0)).set 3 (.int .u64 0)).set 6 (.int .u64 0)).set 7 (.slice none 0 0))
    rw [HFE.out] at h
    exact h
  have RF := hide (blk_range SF.out.q2)
  have TF : Hid (((((((W3.setCell ⟨bc, 0, none⟩ (.int .i64 0)).setCell ⟨bc, 1, none⟩ (.int .u64 0)).setCell ⟨bc, 2, none⟩ (.int .i64 0)).setCell ⟨bc, 3, none⟩ (.int .u64 0)).setCell ⟨bc, 6, none⟩ (.int .u64 0)).setCell ⟨bc, 7, none⟩ (.slice none 0 0)).there (w.heap.size + 1) 0 FR.length) := SF.out.there HF1.out
  simp only [Act.put]
  go_upto_region 23 with fail
  go_step
  refine wpList_load_mid rfl 36 _ rfl bc 0 rfl FR _ RF.out Tryz.underlying36 rfl HSF.out ?_
  simp only [Act.put, List.setIfInBounds_toArray, List.set_cons_zero, List.set_cons_succ]
  refine wpList_store_mid rfl 36 _ _ rfl (w.heap.size + 1) 0 FR.toArray rfl rfl (by simpa using TF.out) (by simpa using HSF.out) (all_oneCell_toArray HF2.out) ?_
  go_wp2
  simp only [Act.put]
  have hld := run_loadVar_mid (P := Tryz.prog) (((((((W3.setCell ⟨bc, 0, none⟩ (.int .i64 0)).setCell ⟨bc, 1, none⟩ (.int .u64 0)).setCell ⟨bc, 2, none⟩ (.int .i64 0)).setCell ⟨bc, 3, none⟩ (.int .u64 0)).setCell ⟨bc, 6, none⟩ (.int .u64 0)).setCell ⟨bc, 7, none⟩ (.slice none 0 0)).setCells (w.heap.size + 1) 0 FR) (w.heap.size + 1) 0 36 FR _ (World.rangeAt_setCells_same _ _ _ _ TF.out) Tryz.underlying36 rfl HSF.out
  refine bodyPost_ret (v := .agg FR.toArray) ?_ rfl ⟨rfl, SF.out.done FR⟩
  simp [results, Tryz.results19, asAddr, hld]
end Go.Proofs.YtldhafpeigdloaaGreatDoor
namespace Go.Proofs.YtldhafpeigdloaaGreatDoor
open Go.RowKit Crc

set_option maxRecDepth 10000 in
set_option maxHeartbeats 3200000 in
theorem strip_7 (m : Mg) (rl : m.root.length = 32) (hk : m.kind = 7) (w : World) : Calls Tryz.prog 19 #[.agg m.R.toArray] w fun e w' => e = .returned (.agg ({ m with kind := 0, num := 0, node := 0, slot := 0, st := 0, ro := none, n := 0, rc := 0, rs := [] } : Mg).R.toArray) ∧ Hid (Below w.heap.size w w') := by
  have HL : Hid (m.R.length = 49) := Mg.len rl
  have HON := hide m.one
  have HF1 := hide (show ({ m with kind := 0, num := 0, node := 0, slot := 0, st := 0, ro := none, n := 0, rc := 0, rs := [] } : Mg).R.length = 49 from Mg.len rl)
  have HF2 := hide ({ m with kind := 0, num := 0, node := 0, slot := 0, st := 0, ro := none, n := 0, rc := 0, rs := [] } : Mg).one
  have HRG : Hid (∀ W1 : World, ∀ Z : Array Value, (w.alloc (.cells m.R.toArray 36)).alloc (.cells Z 36) = W1 → W1.rangeAt w.heap.size 0 m.R) := fun W1 Z h => by
    rw [← h]
    exact blk_range (((World.grownBy_alloc _ _ none).block _ (by simp) (by simp)).trans (alloc_at w _))
  have HX0 : Hid (m.R[0]? = some (.int .i64 7)) := by show _ = _; rw [← hk]; rfl
  have HX1 : Hid (m.R[1]? = some (.int .u64 (m.num : Int))) := rfl
  have HX2 : Hid (m.R[2]? = some (.int .i64 m.node)) := rfl
  have HX3 : Hid (m.R[3]? = some (.int .u64 (m.slot : Int))) := rfl
  have HX6 : Hid (m.R[6]? = some (.int .u64 (m.st : Int))) := rfl
  have HX7 : Hid (m.R[7]? = some (.slice m.ro m.n m.rc)) := rfl
  have HFE : Hid ((((((m.R.set 0 (.int .i64 0)).set 1 (.int .u64 0)).set 2 (.int .i64 0)).set 3 (.int .u64 0)).set 6 (.int .u64 0)).set 7 (.slice none 0 0) = ({ m with kind := 0, num := 0, node := 0, slot := 0, st := 0, ro := none, n := 0, rc := 0, rs := [] } : Mg).R) := rfl
  clear rl hk
  generalize ({ m with kind := 0, num := 0, node := 0, slot := 0, st := 0, ro := none, n := 0, rc := 0, rs := [] } : Mg).R = FR at *
  generalize m.R = cs at *
  have HSZ : Hid ((Tryz.prog.info? 36).map (·.size) = some cs.length) := by show _ = _; rw [HL.out]; kernel_rfl
  have HSF : Hid ((Tryz.prog.info? 36).map (·.size) = some FR.length) := by show _ = _; rw [HF1.out]; kernel_rfl
  go_enter Tryz.func19, Tryz.ntmps19
  go_upto_region 1 with fail
  generalize hW1 : World.alloc (World.alloc w _) _ = W1
  obtain ⟨Z, hZ, hZ1⟩ : ∃ Z : Array Value, Z.size = 49 ∧ (w.alloc (.cells cs.toArray 36)).alloc (.cells Z 36) = W1 := ⟨_, by rfl, hW1⟩
  have RG1 := hide (HRG.out W1 Z hZ1)
  have HW1 := hide (And.intro hZ hZ1)
  clear hZ hZ1 hW1 HRG
  go_step
  refine wpList_load_mid rfl 36 _ rfl w.heap.size 0 rfl cs _ RG1.out Tryz.underlying36 rfl HSZ.out ?_
  simp only [Act.put, List.setIfInBounds_toArray, List.set_cons_zero, List.set_cons_succ]
  iterate 3 go_step
  refine wpList_store_box rfl 36 _ _ rfl cs rfl rfl (by rw [HL.out]; rfl) HSZ.out HON.out ?_
  intro W3 g3 rb3
  have S3N := hide (s3_new w cs Z HW1.out.1 W1 W3 HW1.out.2 g3 rb3)
  clear g3 rb3 HW1 RG1
  generalize W1.heap.size = bc at *
  have z0 := blk_cell S3N.out.q0 HX0.out
  have x0 := blk_cell S3N.out.q2 HX0.out
  have f0 := block_free S3N.out.q2 0
  have hlt := block_lt S3N.out.q2
  have hlt0 := block_lt S3N.out.q0
  have hne : w.heap.size ≠ bc := by have := S3N.out.ne; omega
  have x1 := blk_cell S3N.out.q2 HX1.out
  have f1 := block_free S3N.out.q2 1
  have x2 := blk_cell S3N.out.q2 HX2.out
  have f2 := block_free S3N.out.q2 2
  have x3 := blk_cell S3N.out.q2 HX3.out
  have f3 := block_free S3N.out.q2 3
  have x6 := blk_cell S3N.out.q2 HX6.out
  have f6 := block_free S3N.out.q2 6
  have x7 := blk_cell S3N.out.q2 HX7.out
  have f7 := block_free S3N.out.q2 7
  have SF : Hid (S3 w cs bc FR ((((((W3.setCell ⟨bc, 0, none⟩ (.int .i64 0)).setCell ⟨bc, 1, none⟩ (.int .u64 0)).setCell ⟨bc, 2, none⟩ (.int .i64 0)).setCell ⟨bc, 3, none⟩ (.int .u64 0)).setCell ⟨bc, 6, none⟩ (.int .u64 0)).setCell ⟨bc, 7, none⟩ (.slice none 0 0))) := by
    have h := ((((((S3N.out.set 0 (.int .i64 0)).set 1 (.int .u64 0)).set 2 (.int .i64 0)).set 3 (.int .u64 0)).set 6 (.int .u64 0)).set 7 (.slice none 0 0))
    rw [HFE.out] at h
    exact h
  have RF := hide (blk_range SF.out.q2)
  have TF : Hid (((((((W3.setCell ⟨bc, 0, none⟩ (.int .i64 0)).setCell ⟨bc, 1, none⟩ (.int .u64 0)).setCell ⟨bc, 2, none⟩ (.int .i64 0)).setCell ⟨bc, 3, none⟩ (.int .u64 0)).setCell ⟨bc, 6, none⟩ (.int .u64 0)).setCell ⟨bc, 7, none⟩ (.slice none 0 0)).there (w.heap.size + 1) 0 FR.length) := SF.out.there HF1.out
  simp only [Act.put]
  go_upto_region 23 with fail
  go_step
  refine wpList_load_mid rfl 36 _ rfl bc 0 rfl FR _ RF.out Tryz.underlying36 rfl HSF.out ?_
  simp only [Act.put, List.setIfInBounds_toArray, List.set_cons_zero, List.set_cons_succ]
  refine wpList_store_mid rfl 36 _ _ rfl (w.heap.size + 1) 0 FR.toArray rfl rfl (by simpa using TF.out) (by simpa using HSF.out) (all_oneCell_toArray HF2.out) ?_
  go_wp2
  simp only [Act.put]
  have hld := run_loadVar_mid (P := Tryz.prog) (((((((W3.setCell ⟨bc, 0, none⟩ (.int .i64 0)).setCell ⟨bc, 1, none⟩ (.int .u64 0)).setCell ⟨bc, 2, none⟩ (.int .i64 0)).setCell ⟨bc, 3, none⟩ (.int .u64 0)).setCell ⟨bc, 6, none⟩ (.int .u64 0)).setCell ⟨bc, 7, none⟩ (.slice none 0 0)).setCells (w.heap.size + 1) 0 FR) (w.heap.size + 1) 0 36 FR _ (World.rangeAt_setCells_same _ _ _ _ TF.out) Tryz.underlying36 rfl HSF.out
  refine bodyPost_ret (v := .agg FR.toArray) ?_ rfl ⟨rfl, SF.out.done FR⟩
  simp [results, Tryz.results19, asAddr, hld]

set_option maxRecDepth 10000 in
set_option maxHeartbeats 3200000 in
theorem strip_8 (m : Mg) (rl : m.root.length = 32) (hk : m.kind = 8) (w : World) : Calls Tryz.prog 19 #[.agg m.R.toArray] w fun e w' => e = .returned (.agg ({ m with kind := 0, num := 0, node := 0, slot := 0, sus := false } : Mg).R.toArray) ∧ Hid (Below w.heap.size w w') := by
  have HL : Hid (m.R.length = 49) := Mg.len rl
  have HON := hide m.one
  have HF1 := hide (show ({ m with kind := 0, num := 0, node := 0, slot := 0, sus := false } : Mg).R.length = 49 from Mg.len rl)
  have HF2 := hide ({ m with kind := 0, num := 0, node := 0, slot := 0, sus := false } : Mg).one
  have HRG : Hid (∀ W1 : World, ∀ Z : Array Value, (w.alloc (.cells m.R.toArray 36)).alloc (.cells Z 36) = W1 → W1.rangeAt w.heap.size 0 m.R) := fun W1 Z h => by
    rw [← h]
    exact blk_range (((World.grownBy_alloc _ _ none).block _ (by simp) (by simp)).trans (alloc_at w _))
  have HX0 : Hid (m.R[0]? = some (.int .i64 8)) := by show _ = _; rw [← hk]; rfl
  have HX1 : Hid (m.R[1]? = some (.int .u64 (m.num : Int))) := rfl
  have HX2 : Hid (m.R[2]? = some (.int .i64 m.node)) := rfl
  have HX3 : Hid (m.R[3]? = some (.int .u64 (m.slot : Int))) := rfl
  have HX13 : Hid (m.R[13]? = some (.bool m.sus)) := rfl
  have HFE : Hid (((((m.R.set 0 (.int .i64 0)).set 1 (.int .u64 0)).set 2 (.int .i64 0)).set 3 (.int .u64 0)).set 13 (.bool false) = ({ m with kind := 0, num := 0, node := 0, slot := 0, sus := false } : Mg).R) := rfl
  clear rl hk
  generalize ({ m with kind := 0, num := 0, node := 0, slot := 0, sus := false } : Mg).R = FR at *
  generalize m.R = cs at *
  have HSZ : Hid ((Tryz.prog.info? 36).map (·.size) = some cs.length) := by show _ = _; rw [HL.out]; kernel_rfl
  have HSF : Hid ((Tryz.prog.info? 36).map (·.size) = some FR.length) := by show _ = _; rw [HF1.out]; kernel_rfl
  go_enter Tryz.func19, Tryz.ntmps19
  go_upto_region 1 with fail
  generalize hW1 : World.alloc (World.alloc w _) _ = W1
  obtain ⟨Z, hZ, hZ1⟩ : ∃ Z : Array Value, Z.size = 49 ∧ (w.alloc (.cells cs.toArray 36)).alloc (.cells Z 36) = W1 := ⟨_, by rfl, hW1⟩
  have RG1 := hide (HRG.out W1 Z hZ1)
  have HW1 := hide (And.intro hZ hZ1)
  clear hZ hZ1 hW1 HRG
  go_step
  refine wpList_load_mid rfl 36 _ rfl w.heap.size 0 rfl cs _ RG1.out Tryz.underlying36 rfl HSZ.out ?_
  simp only [Act.put, List.setIfInBounds_toArray, List.set_cons_zero, List.set_cons_succ]
  iterate 3 go_step
  refine wpList_store_box rfl 36 _ _ rfl cs rfl rfl (by rw [HL.out]; rfl) HSZ.out HON.out ?_
  intro W3 g3 rb3
  have S3N := hide (s3_new w cs Z HW1.out.1 W1 W3 HW1.out.2 g3 rb3)
  clear g3 rb3 HW1 RG1
  generalize W1.heap.size = bc at *
  have z0 := blk_cell S3N.out.q0 HX0.out
  have x0 := blk_cell S3N.out.q2 HX0.out
  have f0 := block_free S3N.out.q2 0
  have hlt := block_lt S3N.out.q2
  have hlt0 := block_lt S3N.out.q0
  have hne : w.heap.size ≠ bc := by have := S3N.out.ne; omega
  have x1 := blk_cell S3N.out.q2 HX1.out
  have f1 := block_free S3N.out.q2 1
  have x2 := blk_cell S3N.out.q2 HX2.out
  have f2 := block_free S3N.out.q2 2
  have x3 := blk_cell S3N.out.q2 HX3.out
  have f3 := block_free S3N.out.q2 3
  have x13 := blk_cell S3N.out.q2 HX13.out
  have f13 := block_free S3N.out.q2 13
  have SF : Hid (S3 w cs bc FR (((((W3.setCell ⟨bc, 0, none⟩ (.int .i64 0)).setCell ⟨bc, 1, none⟩ (.int .u64 0)).setCell ⟨bc, 2, none⟩ (.int .i64 0)).setCell ⟨bc, 3, none⟩ (.int .u64 0)).setCell ⟨bc, 13, none⟩ (.bool false))) := by
    have h := (((((S3N.out.set 0 (.int .i64 0)).set 1 (.int .u64 0)).set 2 (.int .i64 0)).set 3 (.int .u64 0)).set 13 (.bool false))
    rw [HFE.out] at h
    exact h
  have RF := hide (blk_range SF.out.q2)
  have TF : Hid ((((((W3.setCell ⟨bc, 0, none⟩ (.int .i64 0)).setCell ⟨bc, 1, none⟩ (.int .u64 0)).setCell ⟨bc, 2, none⟩ (.int .i64 0)).setCell ⟨bc, 3, none⟩ (.int .u64 0)).setCell ⟨bc, 13, none⟩ (.bool false)).there (w.heap.size + 1) 0 FR.length) := SF.out.there HF1.out
  simp only [Act.put]
  go_upto_region 23 with fail
  go_step
  refine wpList_load_mid rfl 36 _ rfl bc 0 rfl FR _ RF.out Tryz.underlying36 rfl HSF.out ?_
  simp only [Act.put, List.setIfInBounds_toArray, List.set_cons_zero, List.set_cons_succ]
  refine wpList_store_mid rfl 36 _ _ rfl (w.heap.size + 1) 0 FR.toArray rfl rfl (by simpa using TF.out) (by simpa using HSF.out) (all_oneCell_toArray HF2.out) ?_
  go_wp2
  simp only [Act.put]
  have hld := run_loadVar_mid (P := Tryz.prog) ((((((W3.setCell ⟨bc, 0, none⟩ (.int .i64 0)).setCell ⟨bc, 1, none⟩ (.int .u64 0)).setCell ⟨bc, 2, none⟩ (.int .i64 0)).setCell ⟨bc, 3, none⟩ (.int .u64 0)).setCell ⟨bc, 13, none⟩ (.bool false)).setCells (w.heap.size + 1) 0 FR) (w.heap.size + 1) 0 36 FR _ (World.rangeAt_setCells_same _ _ _ _ TF.out) Tryz.underlying36 rfl HSF.out
  refine bodyPost_ret (v := .agg FR.toArray) ?_ rfl ⟨rfl, SF.out.done FR⟩
  simp [results, Tryz.results19, asAddr, hld]

set_option maxRecDepth 10000 in
set_option maxHeartbeats 3200000 in
theorem strip_9 (m : Mg) (rl : m.root.length = 32) (hk : m.kind = 9) (w : World) : Calls Tryz.prog 19 #[.agg m.R.toArray] w fun e w' => e = .returned (.agg ({ m with kind := 0, slot := 0, idx := 0 } : Mg).R.toArray) ∧ Hid (Below w.heap.size w w') := by
  have HL : Hid (m.R.length = 49) := Mg.len rl
  have HON := hide m.one
  have HF1 := hide (show ({ m with kind := 0, slot := 0, idx := 0 } : Mg).R.length = 49 from Mg.len rl)
  have HF2 := hide ({ m with kind := 0, slot := 0, idx := 0 } : Mg).one
  have HRG : Hid (∀ W1 : World, ∀ Z : Array Value, (w.alloc (.cells m.R.toArray 36)).alloc (.cells Z 36) = W1 → W1.rangeAt w.heap.size 0 m.R) := fun W1 Z h => by
    rw [← h]
    exact blk_range (((World.grownBy_alloc _ _ none).block _ (by simp) (by simp)).trans (alloc_at w _))
  have HX0 : Hid (m.R[0]? = some (.int .i64 9)) := by show _ = _; rw [← hk]; rfl
  have HX3 : Hid (m.R[3]? = some (.int .u64 (m.slot : Int))) := rfl
  have HX14 : Hid (m.R[14]? = some (.int .u64 (m.idx : Int))) := rfl
  have HFE : Hid (((m.R.set 0 (.int .i64 0)).set 3 (.int .u64 0)).set 14 (.int .u64 0) = ({ m with kind := 0, slot := 0, idx := 0 } : Mg).R) := rfl
  clear rl hk
  generalize ({ m with kind := 0, slot := 0, idx := 0 } : Mg).R = FR at *
  generalize m.R = cs at *
  have HSZ : Hid ((Tryz.prog.info? 36).map (·.size) = some cs.length) := by show _ = _; rw [HL.out]; kernel_rfl
  have HSF : Hid ((Tryz.prog.info? 36).map (·.size) = some FR.length) := by show _ = _; rw [HF1.out]; kernel_rfl
  go_enter Tryz.func19, Tryz.ntmps19
  go_upto_region 1 with fail
  generalize hW1 : World.alloc (World.alloc w _) _ = W1
  obtain ⟨Z, hZ, hZ1⟩ : ∃ Z : Array Value, Z.size = 49 ∧ (w.alloc (.cells cs.toArray 36)).alloc (.cells Z 36) = W1 := ⟨_, by rfl, hW1⟩
  have RG1 := hide (HRG.out W1 Z hZ1)
  have HW1 := hide (And.intro hZ hZ1)
  clear hZ hZ1 hW1 HRG
  go_step
  refine wpList_load_mid rfl 36 _ rfl w.heap.size 0 rfl cs _ RG1.out Tryz.underlying36 rfl HSZ.out ?_
  simp only [Act.put, List.setIfInBounds_toArray, List.set_cons_zero, List.set_cons_succ]
  iterate 3 go_step
  refine wpList_store_box rfl 36 _ _ rfl cs rfl rfl (by rw [HL.out]; rfl) HSZ.out HON.out ?_
  intro W3 g3 rb3
  have S3N := hide (s3_new w cs Z HW1.out.1 W1 W3 HW1.out.2 g3 rb3)
  clear g3 rb3 HW1 RG1
  generalize W1.heap.size = bc at *
  have z0 := blk_cell S3N.out.q0 HX0.out
  have x0 := blk_cell S3N.out.q2 HX0.out
  have f0 := block_free S3N.out.q2 0
  have hlt := block_lt S3N.out.q2
  have hlt0 := block_lt S3N.out.q0
  have hne : w.heap.size ≠ bc := by have := S3N.out.ne; omega
  have x3 := blk_cell S3N.out.q2 HX3.out
  have f3 := block_free S3N.out.q2 3
  have x14 := blk_cell S3N.out.q2 HX14.out
  have f14 := block_free S3N.out.q2 14
  have SF : Hid (S3 w cs bc FR (((W3.setCell ⟨bc, 0, none⟩ (.int .i64 0)).setCell ⟨bc, 3, none⟩ (.int .u64 0)).setCell ⟨bc, 14, none⟩ (.int .u64 0))) := by
    have h := (((S3N.out.set 0 (.int .i64 0)).set 3 (.int .u64 0)).set 14 (.int .u64 0))
    rw [HFE.out] at h
    exact h
  have RF := hide (blk_range SF.out.q2)
  have TF : Hid ((((W3.setCell ⟨bc, 0, none⟩ (.int .i64 0)).setCell ⟨bc, 3, none⟩ (.int .u64 0)).setCell ⟨bc, 14, none⟩ (.int .u64 0)).there (w.heap.size + 1) 0 FR.length) := SF.out.there HF1.out
  simp only [Act.put]
  go_upto_region 23 with fail
  go_step
  refine wpList_load_mid rfl 36 _ rfl bc 0 rfl FR _ RF.out Tryz.underlying36 rfl HSF.out ?_
  simp only [Act.put, List.setIfInBounds_toArray, List.set_cons_zero, List.set_cons_succ]
  refine wpList_store_mid rfl 36 _ _ rfl (w.heap.size + 1) 0 FR.toArray rfl rfl (by simpa using TF.out) (by simpa using HSF.out) (all_oneCell_toArray HF2.out) ?_
  go_wp2
  simp only [Act.put]
  have hld := run_loadVar_mid (P := Tryz.prog) ((((W3.setCell ⟨bc, 0, none⟩ (.int .i64 0)).setCell ⟨bc, 3, none⟩ (.int .u64 0)).setCell ⟨bc, 14, none⟩ (.int .u64 0)).setCells (w.heap.size + 1) 0 FR) (w.heap.size + 1) 0 36 FR _ (World.rangeAt_setCells_same _ _ _ _ TF.out) Tryz.underlying36 rfl HSF.out
  refine bodyPost_ret (v := .agg FR.toArray) ?_ rfl ⟨rfl, SF.out.done FR⟩
  simp [results, Tryz.results19, asAddr, hld]
end Go.Proofs.YtldhafpeigdloaaGreatDoor
