import Derived.Test.YtdbolfnldbopoaaXfF
namespace Go.Proofs.Ytdbolfnldbopoaa
open Go.RowKit

theorem hash_at : ∀ (j : Nat) (v : Value), h32[j]? = some v → fZ[3 + j]? = some v := fun j v hv => by
  rw [Nat.add_comm 3 j]
  show (h32 ++ [.slice none 0 0, .int .u64 0])[j]? = some v
  rw [List.getElem?_append_left (List.getElem?_eq_some_iff.1 hv).1]
  exact hv
set_option maxRecDepth 10000 in
set_option maxHeartbeats 800000 in
theorem sameF (w : World) : Calls Try.prog 11 #[.agg fZ.toArray, .agg fZ.toArray] w fun e w' => e = .returned (.bool true) ∧ Below w.heap.size w w' := by
  obtain ⟨W, hW⟩ : ∃ W, (w.alloc (.cells fZ.toArray 51)).alloc (.cells fZ.toArray 51) = W := ⟨_, rfl⟩
  have hs1 : (w.alloc (.cells fZ.toArray 51)).heap.size = w.heap.size + 1 := by simp
  have B0 : Hid (Below w.heap.size w W) := by rw [← hW]; exact ((Below.refl _ _).alloc (Nat.le_refl _) _).alloc (by simp) _
  have La : LiesAt W w.heap.size fZ 51 := by
    unfold LiesAt
    rw [← hW]
    exact (Below.heap_alloc _ _ _ (by simp)).trans (alloc_atK _ _)
  have Lb : LiesAt W (w.heap.size + 1) fZ 51 := by
    unfold LiesAt
    rw [← hW, ← hs1]
    exact alloc_atK _ _
  have RA := hide (rangeX La 3 h32 hash_at)
  have RB := hide (rangeX Lb 3 h32 hash_at)
  have a0 : W.cell? ⟨w.heap.size, 0, none⟩ = some (.int .u64 0) := block_cell La 0
  have a1 : W.cell? ⟨w.heap.size, 1, none⟩ = some (.int .i64 0) := block_cell La 1
  have a2 : W.cell? ⟨w.heap.size, 2, none⟩ = some (.int .u64 0) := block_cell La 2
  have a3 : W.cell? ⟨w.heap.size, 35, none⟩ = some (.slice none 0 0) := block_cell La 35
  have a4 : W.cell? ⟨w.heap.size, 36, none⟩ = some (.int .u64 0) := block_cell La 36
  have b0 : W.cell? ⟨w.heap.size + 1, 0, none⟩ = some (.int .u64 0) := block_cell Lb 0
  have b1 : W.cell? ⟨w.heap.size + 1, 1, none⟩ = some (.int .i64 0) := block_cell Lb 1
  have b2 : W.cell? ⟨w.heap.size + 1, 2, none⟩ = some (.int .u64 0) := block_cell Lb 2
  have b3 : W.cell? ⟨w.heap.size + 1, 35, none⟩ = some (.slice none 0 0) := block_cell Lb 35
  have b4 : W.cell? ⟨w.heap.size + 1, 36, none⟩ = some (.int .u64 0) := block_cell Lb 36
  have la := block_lt La
  have lb := block_lt Lb
  have HSZ := hide h32_size
  have heq := h32_same
  have HW := hide hW
  clear La Lb hW hs1
  generalize h32 = zs at *
  generalize fZ = cs at *
  go_enter Try.func11, Try.ntmps11
  go_upto_region 1 with fail
  rw [HW.out]
  clear HW
  go_step
  refine wpList_split 21 (fun R HQ => ?_)
  simp only [List.take]
  go_wp2
  refine HQ.out _ _ ?_
  clear HQ
  simp only [List.drop]
  refine wpList_load_midX (by rfl) 38 _ rfl w.heap.size 3 rfl zs _ RA.out Try.underlying38 rfl HSZ.out ?_
  simp only [Act.put, List.setIfInBounds_toArray, List.set_cons_zero, List.set_cons_succ]
  refine wpList_split 1 (fun R HQ => ?_)
  simp only [List.take]
  go_wp2
  refine HQ.out _ _ ?_
  clear HQ
  simp only [List.drop]
  refine wpList_load_midX (by rfl) 38 _ rfl (w.heap.size + 1) 3 rfl zs _ RB.out Try.underlying38 rfl HSZ.out ?_
  simp only [Act.put, List.setIfInBounds_toArray, List.set_cons_zero, List.set_cons_succ]
  go_wp2
  refine wp_loop_rounds 1 ?_
  rw [rounds_succ]
  go_wp2
  go_ret
  exact ⟨rfl, B0.out⟩
end Go.Proofs.Ytdbolfnldbopoaa
