import Derived.Test.YtbokmgfdmpejpaaHNn
import Derived.Test.YtbokmgfdmpejpaaHSf
namespace Go.Proofs.Ytbokmgfdmpejpaa
open Go.RowKit

set_option maxRecDepth 10000 in
set_option maxHeartbeats 800000 in
theorem copyV_nil (w : World) : Calls Try.prog 70 #[.slice none 0 0] w fun e w' => e = .returned (.slice none 0 0) ∧ w' = w := by
  go_enter Try.func70, Try.ntmps70
  go_wp2
  refine wp_loop_rounds 1 ?_
  rw [rounds_succ]
  go_wp2
  go_ret
  exact ⟨rfl, rfl⟩
set_option maxRecDepth 100000 in
set_option maxHeartbeats 4000000 in
theorem state_rp {w : World} {q h : Nat} {c : Cf} {me : Int} {n : Nat} {m : Int} (r : RP w q h c me n m) : Calls Try.prog 36 #[.pointer (some ⟨q, 0, none⟩)] w fun e w' => e = .returned (.agg (scells n m)) ∧ Hid (Below w.heap.size w w') := by
  obtain ⟨W1, hW1⟩ : ∃ W1, w.alloc (.cells #[.int .i64 0, .int .u64 0, .int .i64 0, .int .u64 0, .slice none 0 0, .slice none 0 0, .slice none 0 0, .slice none 0 0, .bool false, .int .u64 0] 70) = W1 := ⟨_, rfl⟩
  have b1 : Below w.heap.size w W1 := by rw [← hW1]; exact (Below.refl _ w).alloc (Nat.le_refl _) _
  have C1 : W1.heap[w.heap.size]? = some (.cells #[.int .i64 0, .int .u64 0, .int .i64 0, .int .u64 0, .slice none 0 0, .slice none 0 0, .slice none 0 0, .slice none 0 0, .bool false, .int .u64 0] 70 (0, 0)) := by rw [← hW1]; exact alloc_atK _ _
  have s1 : W1.heap.size = w.heap.size + 1 := by rw [← hW1]; simp
  have R1 := hide (r.kept b1)
  obtain ⟨W2, hW2⟩ : ∃ W2, W1.alloc (.cells #[.int .i64 0, .int .u64 (n : Nat), .int .i64 m, .int .u64 0, .slice none 0 0, .slice none 0 0, .slice none 0 0, .slice none 0 0, .bool false, .int .u64 0] 70) = W2 := ⟨_, rfl⟩
  have b2 : Below W1.heap.size W1 W2 := by rw [← hW2]; exact (Below.refl _ W1).alloc (Nat.le_refl _) _
  have C2 : Hid (W2.heap[W1.heap.size]? = some (.cells #[.int .i64 0, .int .u64 (n : Nat), .int .i64 m, .int .u64 0, .slice none 0 0, .slice none 0 0, .slice none 0 0, .slice none 0 0, .bool false, .int .u64 0] 70 (0, 0))) := by rw [← hW2]; exact alloc_atK _ _
  have D2 : Hid (W2.heap[w.heap.size]? = some (.cells #[.int .i64 0, .int .u64 0, .int .i64 0, .int .u64 0, .slice none 0 0, .slice none 0 0, .slice none 0 0, .slice none 0 0, .bool false, .int .u64 0] 70 (0, 0))) := (b2.block _ (block_lt C1)).trans C1
  have R2 := hide (R1.out.kept b2)
  have B2 := hide (b1.trans (b2.mono b1.size))
  have HNE : Hid (w.heap.size ≠ W1.heap.size) := by show _ ≠ _; omega
  have HPS : Hid (w.heap.size ≤ W1.heap.size) := b1.size
  have HW1 := hide hW1
  have HW2 := hide hW2
  have KU := hide (fun V => copyV_nil V)
  have z2 : W1.cell? ⟨q, 2, none⟩ = some (.int .i64 0) := R1.out.cell 2
  have z3 : W1.cell? ⟨q, 3, none⟩ = some (.int .u64 (n : Nat)) := R1.out.cell 3
  have z4 : W1.cell? ⟨q, 4, none⟩ = some (.int .i64 m) := R1.out.cell 4
  have z5 : W1.cell? ⟨q, 5, none⟩ = some (.int .u64 0) := R1.out.cell 5
  have z6 : W1.cell? ⟨q, 6, none⟩ = some (.slice none 0 0) := R1.out.cell 6
  have z7 : W1.cell? ⟨q, 7, none⟩ = some (.slice none 0 0) := R1.out.cell 7
  have z8 : W1.cell? ⟨q, 8, none⟩ = some (.slice none 0 0) := R1.out.cell 8
  have z9 : W1.cell? ⟨q, 9, none⟩ = some (.slice none 0 0) := R1.out.cell 9
  have z10 : W1.cell? ⟨q, 10, none⟩ = some (.bool false) := R1.out.cell 10
  have z11 : W1.cell? ⟨q, 11, none⟩ = some (.int .u64 0) := R1.out.cell 11
  have hql : q < W1.heap.size := block_lt R1.out.blk
  clear r b1 b2 C1 hW1 hW2 s1
  unfold scells
  go_enter Try.func36, Try.ntmps36
  go_upto_region 1 with fail
  rw [HW1.out]
  clear HW1
  go_upto_region 5 with fail
  rw [HW2.out]
  clear HW2
  generalize W1.heap.size = ps at *
  clear z2
  have z2 : W2.cell? ⟨q, 2, none⟩ = some (.int .i64 0) := R2.out.cell 2
  clear z3
  have z3 : W2.cell? ⟨q, 3, none⟩ = some (.int .u64 (n : Nat)) := R2.out.cell 3
  clear z4
  have z4 : W2.cell? ⟨q, 4, none⟩ = some (.int .i64 m) := R2.out.cell 4
  clear z5
  have z5 : W2.cell? ⟨q, 5, none⟩ = some (.int .u64 0) := R2.out.cell 5
  clear z6
  have z6 : W2.cell? ⟨q, 6, none⟩ = some (.slice none 0 0) := R2.out.cell 6
  clear z7
  have z7 : W2.cell? ⟨q, 7, none⟩ = some (.slice none 0 0) := R2.out.cell 7
  clear z8
  have z8 : W2.cell? ⟨q, 8, none⟩ = some (.slice none 0 0) := R2.out.cell 8
  clear z9
  have z9 : W2.cell? ⟨q, 9, none⟩ = some (.slice none 0 0) := R2.out.cell 9
  clear z10
  have z10 : W2.cell? ⟨q, 10, none⟩ = some (.bool false) := R2.out.cell 10
  clear z11
  have z11 : W2.cell? ⟨q, 11, none⟩ = some (.int .u64 0) := R2.out.cell 11
  have hq2 : q < W2.heap.size := block_lt R2.out.blk
  have c7 : W2.cell? ⟨ps, 7, none⟩ = some (.slice none 0 0) := block_cell C2.out 7
  have f7 : W2.frozen? ⟨ps, 7, none⟩ = false := block_free C2.out 7
  have hps : ps < W2.heap.size := block_lt C2.out
  go_wp2_with fail
  refine (KU.out _).mono ?_
  rintro e w3 ⟨rfl, rfl⟩
  go_upto_region 6 with fail
  have hg := grown_set w3 ps 7 (.slice none 0 0)
  have C4 : Hid ((w3.setCell ⟨ps, 7, none⟩ (.slice none 0 0)).heap[ps]? = some (.cells #[.int .i64 0, .int .u64 (n : Nat), .int .i64 m, .int .u64 0, .slice none 0 0, .slice none 0 0, .slice none 0 0, .slice none 0 0, .bool false, .int .u64 0] 70 (0, 0))) := heap_setCell_same w3 ps 7 _ _ (.slice none 0 0) C2.out
  have D4 : Hid ((w3.setCell ⟨ps, 7, none⟩ (.slice none 0 0)).heap[w.heap.size]? = some (.cells #[.int .i64 0, .int .u64 0, .int .i64 0, .int .u64 0, .slice none 0 0, .slice none 0 0, .slice none 0 0, .slice none 0 0, .bool false, .int .u64 0] 70 (0, 0))) := (hg.block _ (block_lt D2.out) (fun e => HNE.out (Option.some.inj e))).trans D2.out
  have R4 : Hid (∀ j, (w3.setCell ⟨ps, 7, none⟩ (.slice none 0 0)).cell? ⟨q, j, none⟩ = (rcells h me n m)[j]?) := fun j => block_cell ((hg.block _ (block_lt R2.out.blk) (fun e => by
    have h1 := R2.out.blk
    rw [Option.some.inj e, C2.out] at h1
    cases h1)).trans R2.out.blk) j
  have B4 : Hid (Below w.heap.size w (w3.setCell ⟨ps, 7, none⟩ (.slice none 0 0))) := B2.out.setCell (p := ⟨ps, 7, none⟩) (by have := B2.out.size; have := HPS.out; omega) _
  have hq4 : q < (w3.setCell ⟨ps, 7, none⟩ (.slice none 0 0)).heap.size := by simpa using hq2
  clear hg C2 D2 R2 B2 c7 f7 hps hq2 z2 z3 z4 z5 z6 z7 z8 z9 z10 z11
  generalize w3.setCell ⟨ps, 7, none⟩ (.slice none 0 0) = W4 at *
  have z6 : W4.cell? ⟨q, 6, none⟩ = some (.slice none 0 0) := R4.out 6
  have z7 : W4.cell? ⟨q, 7, none⟩ = some (.slice none 0 0) := R4.out 7
  have z8 : W4.cell? ⟨q, 8, none⟩ = some (.slice none 0 0) := R4.out 8
  go_wp2
  refine wp_loop_rounds 1 ?_
  rw [rounds_succ]
  go_wp2
  refine wp_loop_rounds 1 ?_
  rw [rounds_succ]
  go_wp2
  refine wp_loop_rounds 1 ?_
  rw [rounds_succ]
  have HF := hide (set10 (w := w) (n := n) (m := m) D4.out B4.out)
  have x := C4.out
  have y := D4.out
  have x0 := block_cell x 0
  have y0 := block_cell y 0
  have f0 := block_free y 0
  have x1 := block_cell x 1
  have y1 := block_cell y 1
  have f1 := block_free y 1
  have x2 := block_cell x 2
  have y2 := block_cell y 2
  have f2 := block_free y 2
  have x3 := block_cell x 3
  have y3 := block_cell y 3
  have f3 := block_free y 3
  have x4 := block_cell x 4
  have y4 := block_cell y 4
  have f4 := block_free y 4
  have x5 := block_cell x 5
  have y5 := block_cell y 5
  have f5 := block_free y 5
  have x6 := block_cell x 6
  have y6 := block_cell y 6
  have f6 := block_free y 6
  have x7 := block_cell x 7
  have y7 := block_cell y 7
  have f7 := block_free y 7
  have x8 := block_cell x 8
  have y8 := block_cell y 8
  have f8 := block_free y 8
  have x9 := block_cell x 9
  have y9 := block_cell y 9
  have f9 := block_free y 9
  have hl1 := block_lt x
  have hl2 := block_lt y
  have hne := HNE.out
  simp at x0 y0 x1 y1 x2 y2 x3 y3 x4 y4 x5 y5 x6 y6 x7 y7 x8 y8 x9 y9
  clear x y
  go_wp2
  have x := HF.out.1
  unfold scells at x
  have v0 := block_cell x 0
  have v1 := block_cell x 1
  have v2 := block_cell x 2
  have v3 := block_cell x 3
  have v4 := block_cell x 4
  have v5 := block_cell x 5
  have v6 := block_cell x 6
  have v7 := block_cell x 7
  have v8 := block_cell x 8
  have v9 := block_cell x 9
  simp at v0 v1 v2 v3 v4 v5 v6 v7 v8 v9
  exact bodyPost_ret (v := .agg #[.int .i64 0, .int .u64 (n : Nat), .int .i64 m, .int .u64 0, .slice none 0 0, .slice none 0 0, .slice none 0 0, .slice none 0 0, .bool false, .int .u64 0]) (by simp [results, Try.results36, go_sem, v0, v1, v2, v3, v4, v5, v6, v7, v8, v9]) rfl ⟨rfl, HF.out.2⟩
end Go.Proofs.Ytbokmgfdmpejpaa
