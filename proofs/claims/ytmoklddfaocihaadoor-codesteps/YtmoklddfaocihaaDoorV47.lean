import Derived.Test.YtmoklddfaocihaaDoorV46
import Derived.Test.YtmoklddfaocihaaDoorV44
import Derived.Test.YtmoklddfaocihaaDoorV39
namespace Go.Proofs.YtmoklddfaocihaaDoor
open Go.RowKit

set_option maxRecDepth 10000 in
set_option maxHeartbeats 3200000 in
theorem outcomeN {pm : Value} {w : World} (h : Nbd pm w) : Calls Tryd.prog 19 #[pm] w fun e w' => e = .returned (.tuple #[.agg outZ, .bool false]) ∧ Hid (Below w.heap.size w w') := by
 obtain ⟨W1, hW1⟩ : ∃ W1, w.alloc (.cells #[.int .i64 0, .int .u64 0, .int .u64 0, .int .u64 0, .int .u64 0, .int .u64 0] 48) = W1 := ⟨_, rfl⟩
 have B1 : Below w.heap.size w W1 := by rw [← hW1]; exact below_alloc1 w _
 have A1 : W1.heap[w.heap.size]? = some (.cells #[.int .i64 0, .int .u64 0, .int .u64 0, .int .u64 0, .int .u64 0, .int .u64 0] 48 (0, 0)) := by rw [← hW1]; exact alloc_atK _ _
 have h1 := h.next B1
 clear h
 rcases h1 with rfl | ⟨mb, rfl, hl, c0, c1⟩
 ·have v0 := block_cell A1 0
  have v1 := block_cell A1 1
  have v2 := block_cell A1 2
  have v3 := block_cell A1 3
  have v4 := block_cell A1 4
  have v5 := block_cell A1 5
  have f0 := block_free A1 0
  have f1 := block_free A1 1
  have f2 := block_free A1 2
  have f3 := block_free A1 3
  have f4 := block_free A1 4
  have f5 := block_free A1 5
  have E0 : Hid (W1.setCell ⟨w.heap.size, 0, none⟩ (.int .i64 0) = W1) := set_same A1 rfl
  have E1 : Hid (W1.setCell ⟨w.heap.size, 1, none⟩ (.int .u64 0) = W1) := set_same A1 rfl
  have E2 : Hid (W1.setCell ⟨w.heap.size, 2, none⟩ (.int .u64 0) = W1) := set_same A1 rfl
  have E3 : Hid (W1.setCell ⟨w.heap.size, 3, none⟩ (.int .u64 0) = W1) := set_same A1 rfl
  have E4 : Hid (W1.setCell ⟨w.heap.size, 4, none⟩ (.int .u64 0) = W1) := set_same A1 rfl
  have E5 : Hid (W1.setCell ⟨w.heap.size, 5, none⟩ (.int .u64 0) = W1) := set_same A1 rfl
  have vl := block_lt A1
  simp at v0 v1 v2 v3 v4 v5
  have HB1 := hide B1
  have HW1 := hide hW1
  clear hW1 A1 B1
  go_enter Tryd.func19, Tryd.ntmps19
  go_upto_region 1 with fail
  rw [HW1.out]
  clear HW1
  go_wp2
  rw [E0.out, E1.out, E2.out, E3.out, E4.out, E5.out]
  refine bodyPost_ret (v := .tuple #[.agg #[.int .i64 0, .int .u64 0, .int .u64 0, .int .u64 0, .int .u64 0, .int .u64 0], .bool false]) (by simp [results, Tryd.results19, go_sem, v0, v1, v2, v3, v4, v5]) rfl ?_
  exact ⟨rfl, HB1⟩
 ·have v0 := block_cell A1 0
  have v1 := block_cell A1 1
  have v2 := block_cell A1 2
  have v3 := block_cell A1 3
  have v4 := block_cell A1 4
  have v5 := block_cell A1 5
  have f0 := block_free A1 0
  have f1 := block_free A1 1
  have f2 := block_free A1 2
  have f3 := block_free A1 3
  have f4 := block_free A1 4
  have f5 := block_free A1 5
  have E0 : Hid (W1.setCell ⟨w.heap.size, 0, none⟩ (.int .i64 0) = W1) := set_same A1 rfl
  have E1 : Hid (W1.setCell ⟨w.heap.size, 1, none⟩ (.int .u64 0) = W1) := set_same A1 rfl
  have E2 : Hid (W1.setCell ⟨w.heap.size, 2, none⟩ (.int .u64 0) = W1) := set_same A1 rfl
  have E3 : Hid (W1.setCell ⟨w.heap.size, 3, none⟩ (.int .u64 0) = W1) := set_same A1 rfl
  have E4 : Hid (W1.setCell ⟨w.heap.size, 4, none⟩ (.int .u64 0) = W1) := set_same A1 rfl
  have E5 : Hid (W1.setCell ⟨w.heap.size, 5, none⟩ (.int .u64 0) = W1) := set_same A1 rfl
  have vl := block_lt A1
  simp at v0 v1 v2 v3 v4 v5
  have HB1 := hide B1
  have HW1 := hide hW1
  clear hW1 A1 B1
  go_enter Tryd.func19, Tryd.ntmps19
  go_upto_region 1 with fail
  rw [HW1.out]
  clear HW1
  go_wp2
  rw [E0.out, E1.out, E2.out, E3.out, E4.out, E5.out]
  refine bodyPost_ret (v := .tuple #[.agg #[.int .i64 0, .int .u64 0, .int .u64 0, .int .u64 0, .int .u64 0, .int .u64 0], .bool false]) (by simp [results, Tryd.results19, go_sem, v0, v1, v2, v3, v4, v5]) rfl ?_
  exact ⟨rfl, HB1⟩
set_option maxRecDepth 10000 in
set_option maxHeartbeats 3200000 in
theorem stateN {pm : Value} {w : World} (h : Nbd pm w) : StR pm (mk0 0 0) 0 (fun _ => 0) (fun _ => 0) 0 (fun _ => 0) (fun _ => 0) w := by
 unfold StR
 obtain ⟨W1, hW1⟩ : ∃ W1, w.alloc (.cells #[.int .i64 0, .slice none 0 0, .slice none 0 0, .int .u64 0, .int .u64 0, .int .u64 0, .int .u64 0, .bool false] 65) = W1 := ⟨_, rfl⟩
 have B1 : Below w.heap.size w W1 := by rw [← hW1]; exact below_alloc1 w _
 have A1 : W1.heap[w.heap.size]? = some (.cells #[.int .i64 0, .slice none 0 0, .slice none 0 0, .int .u64 0, .int .u64 0, .int .u64 0, .int .u64 0, .bool false] 65 (0, 0)) := by rw [← hW1]; exact alloc_atK _ _
 have h1 := h.next B1
 clear h
 rcases h1 with rfl | ⟨mb, rfl, hl, c0, c1⟩
 ·have v0 := block_cell A1 0
  have v1 := block_cell A1 1
  have v2 := block_cell A1 2
  have v3 := block_cell A1 3
  have v4 := block_cell A1 4
  have v5 := block_cell A1 5
  have v6 := block_cell A1 6
  have v7 := block_cell A1 7
  have f0 := block_free A1 0
  have f1 := block_free A1 1
  have f2 := block_free A1 2
  have f3 := block_free A1 3
  have f4 := block_free A1 4
  have f5 := block_free A1 5
  have f6 := block_free A1 6
  have f7 := block_free A1 7
  have E0 : Hid (W1.setCell ⟨w.heap.size, 0, none⟩ (.int .i64 0) = W1) := set_same A1 rfl
  have E1 : Hid (W1.setCell ⟨w.heap.size, 1, none⟩ (.slice none 0 0) = W1) := set_same A1 rfl
  have E2 : Hid (W1.setCell ⟨w.heap.size, 2, none⟩ (.slice none 0 0) = W1) := set_same A1 rfl
  have E3 : Hid (W1.setCell ⟨w.heap.size, 3, none⟩ (.int .u64 0) = W1) := set_same A1 rfl
  have E4 : Hid (W1.setCell ⟨w.heap.size, 4, none⟩ (.int .u64 0) = W1) := set_same A1 rfl
  have E5 : Hid (W1.setCell ⟨w.heap.size, 5, none⟩ (.int .u64 0) = W1) := set_same A1 rfl
  have E6 : Hid (W1.setCell ⟨w.heap.size, 6, none⟩ (.int .u64 0) = W1) := set_same A1 rfl
  have E7 : Hid (W1.setCell ⟨w.heap.size, 7, none⟩ (.bool false) = W1) := set_same A1 rfl
  have vl := block_lt A1
  simp at v0 v1 v2 v3 v4 v5 v6 v7
  have HB1 := hide B1
  have HW1 := hide hW1
  clear hW1 A1 B1
  go_enter Tryd.func47, Tryd.ntmps47
  go_upto_region 1 with fail
  rw [HW1.out]
  clear HW1
  go_wp2
  rw [E0.out, E1.out, E2.out, E3.out, E4.out, E5.out, E6.out, E7.out]
  refine bodyPost_ret (v := .agg #[.int .i64 0, .slice none 0 0, .slice none 0 0, .int .u64 0, .int .u64 0, .int .u64 0, .int .u64 0, .bool false]) (by simp [results, Tryd.results47, go_sem, v0, v1, v2, v3, v4, v5, v6, v7]) rfl ?_
  exact ⟨none, 0, none, 0, rfl, World.ownsRow_nil _ _ _ _, World.ownsRow_nil _ _ _ _, fun q1 q2 e _ => by simp [Value.ownBlock] at e, HB1.out⟩
 ·have v0 := block_cell A1 0
  have v1 := block_cell A1 1
  have v2 := block_cell A1 2
  have v3 := block_cell A1 3
  have v4 := block_cell A1 4
  have v5 := block_cell A1 5
  have v6 := block_cell A1 6
  have v7 := block_cell A1 7
  have f0 := block_free A1 0
  have f1 := block_free A1 1
  have f2 := block_free A1 2
  have f3 := block_free A1 3
  have f4 := block_free A1 4
  have f5 := block_free A1 5
  have f6 := block_free A1 6
  have f7 := block_free A1 7
  have E0 : Hid (W1.setCell ⟨w.heap.size, 0, none⟩ (.int .i64 0) = W1) := set_same A1 rfl
  have E1 : Hid (W1.setCell ⟨w.heap.size, 1, none⟩ (.slice none 0 0) = W1) := set_same A1 rfl
  have E2 : Hid (W1.setCell ⟨w.heap.size, 2, none⟩ (.slice none 0 0) = W1) := set_same A1 rfl
  have E3 : Hid (W1.setCell ⟨w.heap.size, 3, none⟩ (.int .u64 0) = W1) := set_same A1 rfl
  have E4 : Hid (W1.setCell ⟨w.heap.size, 4, none⟩ (.int .u64 0) = W1) := set_same A1 rfl
  have E5 : Hid (W1.setCell ⟨w.heap.size, 5, none⟩ (.int .u64 0) = W1) := set_same A1 rfl
  have E6 : Hid (W1.setCell ⟨w.heap.size, 6, none⟩ (.int .u64 0) = W1) := set_same A1 rfl
  have E7 : Hid (W1.setCell ⟨w.heap.size, 7, none⟩ (.bool false) = W1) := set_same A1 rfl
  have vl := block_lt A1
  simp at v0 v1 v2 v3 v4 v5 v6 v7
  have HB1 := hide B1
  have HW1 := hide hW1
  clear hW1 A1 B1
  go_enter Tryd.func47, Tryd.ntmps47
  go_upto_region 1 with fail
  rw [HW1.out]
  clear HW1
  go_wp2
  rw [E0.out, E1.out, E2.out, E3.out, E4.out, E5.out, E6.out, E7.out]
  refine bodyPost_ret (v := .agg #[.int .i64 0, .slice none 0 0, .slice none 0 0, .int .u64 0, .int .u64 0, .int .u64 0, .int .u64 0, .bool false]) (by simp [results, Tryd.results47, go_sem, v0, v1, v2, v3, v4, v5, v6, v7]) rfl ?_
  exact ⟨none, 0, none, 0, rfl, World.ownsRow_nil _ _ _ _, World.ownsRow_nil _ _ _ _, fun q1 q2 e _ => by simp [Value.ownBlock] at e, HB1.out⟩
set_option maxRecDepth 10000 in
set_option maxHeartbeats 3200000 in
theorem outcomeRn {vb : Nat} {w : World} (hl : vb < w.heap.size) (c0 : w.cell? ⟨vb, 0, none⟩ = some (.bool false)) : Calls Tryd.prog 18 #[.pointer (some ⟨vb, 0, none⟩)] w fun e w' => e = .returned (.tuple #[.agg outZ, .bool false]) ∧ Hid (Below w.heap.size w w') := by
 obtain ⟨W1, hW1⟩ : ∃ W1, w.alloc (.cells #[.int .i64 0, .int .u64 0, .int .u64 0, .int .u64 0, .int .u64 0, .int .u64 0] 48) = W1 := ⟨_, rfl⟩
 have B1 : Below w.heap.size w W1 := by rw [← hW1]; exact below_alloc1 w _
 have A1 : W1.heap[w.heap.size]? = some (.cells #[.int .i64 0, .int .u64 0, .int .u64 0, .int .u64 0, .int .u64 0, .int .u64 0] 48 (0, 0)) := by rw [← hW1]; exact alloc_atK _ _
 have d0 := (B1.cell (p := ⟨vb, 0, none⟩) hl).trans c0
 have dl := Nat.lt_of_lt_of_le hl B1.size
 clear c0 hl
 have v0 := block_cell A1 0
 have v1 := block_cell A1 1
 have v2 := block_cell A1 2
 have v3 := block_cell A1 3
 have v4 := block_cell A1 4
 have v5 := block_cell A1 5
 have f0 := block_free A1 0
 have f1 := block_free A1 1
 have f2 := block_free A1 2
 have f3 := block_free A1 3
 have f4 := block_free A1 4
 have f5 := block_free A1 5
 have E0 : Hid (W1.setCell ⟨w.heap.size, 0, none⟩ (.int .i64 0) = W1) := set_same A1 rfl
 have E1 : Hid (W1.setCell ⟨w.heap.size, 1, none⟩ (.int .u64 0) = W1) := set_same A1 rfl
 have E2 : Hid (W1.setCell ⟨w.heap.size, 2, none⟩ (.int .u64 0) = W1) := set_same A1 rfl
 have E3 : Hid (W1.setCell ⟨w.heap.size, 3, none⟩ (.int .u64 0) = W1) := set_same A1 rfl
 have E4 : Hid (W1.setCell ⟨w.heap.size, 4, none⟩ (.int .u64 0) = W1) := set_same A1 rfl
 have E5 : Hid (W1.setCell ⟨w.heap.size, 5, none⟩ (.int .u64 0) = W1) := set_same A1 rfl
 have vl := block_lt A1
 simp at v0 v1 v2 v3 v4 v5
 have HB1 := hide B1
 have HW1 := hide hW1
 clear hW1 A1 B1
 go_enter Tryd.func18, Tryd.ntmps18
 go_upto_region 1 with fail
 rw [HW1.out]
 clear HW1
 go_wp2
 rw [E0.out, E1.out, E2.out, E3.out, E4.out, E5.out]
 refine bodyPost_ret (v := .tuple #[.agg #[.int .i64 0, .int .u64 0, .int .u64 0, .int .u64 0, .int .u64 0, .int .u64 0], .bool false]) (by simp [results, Tryd.results18, go_sem, v0, v1, v2, v3, v4, v5]) rfl ?_
 exact ⟨rfl, HB1⟩
set_option maxRecDepth 10000 in
set_option maxHeartbeats 3200000 in
theorem stateRn {vb : Nat} {w : World} (hl : vb < w.heap.size) (c0 : w.cell? ⟨vb, 0, none⟩ = some (.bool false)) : Calls Tryd.prog 21 #[.pointer (some ⟨vb, 0, none⟩)] w fun e w' => e = .returned (.agg (stA (mk0 0 0) (.slice none 0 0) (.slice none 0 0))) ∧ Hid (Below w.heap.size w w') := by
 obtain ⟨W1, hW1⟩ : ∃ W1, w.alloc (.cells #[.int .i64 0, .slice none 0 0, .slice none 0 0, .int .u64 0, .int .u64 0, .int .u64 0, .int .u64 0, .bool false] 65) = W1 := ⟨_, rfl⟩
 have B1 : Below w.heap.size w W1 := by rw [← hW1]; exact below_alloc1 w _
 have A1 : W1.heap[w.heap.size]? = some (.cells #[.int .i64 0, .slice none 0 0, .slice none 0 0, .int .u64 0, .int .u64 0, .int .u64 0, .int .u64 0, .bool false] 65 (0, 0)) := by rw [← hW1]; exact alloc_atK _ _
 have d0 := (B1.cell (p := ⟨vb, 0, none⟩) hl).trans c0
 have dl := Nat.lt_of_lt_of_le hl B1.size
 clear c0 hl
 have v0 := block_cell A1 0
 have v1 := block_cell A1 1
 have v2 := block_cell A1 2
 have v3 := block_cell A1 3
 have v4 := block_cell A1 4
 have v5 := block_cell A1 5
 have v6 := block_cell A1 6
 have v7 := block_cell A1 7
 have f0 := block_free A1 0
 have f1 := block_free A1 1
 have f2 := block_free A1 2
 have f3 := block_free A1 3
 have f4 := block_free A1 4
 have f5 := block_free A1 5
 have f6 := block_free A1 6
 have f7 := block_free A1 7
 have E0 : Hid (W1.setCell ⟨w.heap.size, 0, none⟩ (.int .i64 0) = W1) := set_same A1 rfl
 have E1 : Hid (W1.setCell ⟨w.heap.size, 1, none⟩ (.slice none 0 0) = W1) := set_same A1 rfl
 have E2 : Hid (W1.setCell ⟨w.heap.size, 2, none⟩ (.slice none 0 0) = W1) := set_same A1 rfl
 have E3 : Hid (W1.setCell ⟨w.heap.size, 3, none⟩ (.int .u64 0) = W1) := set_same A1 rfl
 have E4 : Hid (W1.setCell ⟨w.heap.size, 4, none⟩ (.int .u64 0) = W1) := set_same A1 rfl
 have E5 : Hid (W1.setCell ⟨w.heap.size, 5, none⟩ (.int .u64 0) = W1) := set_same A1 rfl
 have E6 : Hid (W1.setCell ⟨w.heap.size, 6, none⟩ (.int .u64 0) = W1) := set_same A1 rfl
 have E7 : Hid (W1.setCell ⟨w.heap.size, 7, none⟩ (.bool false) = W1) := set_same A1 rfl
 have vl := block_lt A1
 simp at v0 v1 v2 v3 v4 v5 v6 v7
 have HB1 := hide B1
 have HW1 := hide hW1
 clear hW1 A1 B1
 go_enter Tryd.func21, Tryd.ntmps21
 go_upto_region 1 with fail
 rw [HW1.out]
 clear HW1
 go_wp2
 rw [E0.out, E1.out, E2.out, E3.out, E4.out, E5.out, E6.out, E7.out]
 refine bodyPost_ret (v := .agg #[.int .i64 0, .slice none 0 0, .slice none 0 0, .int .u64 0, .int .u64 0, .int .u64 0, .int .u64 0, .bool false]) (by simp [results, Tryd.results21, go_sem, v0, v1, v2, v3, v4, v5, v6, v7]) rfl ?_
 exact ⟨rfl, HB1⟩
set_option maxRecDepth 10000 in
set_option maxHeartbeats 1600000 in
theorem stepRn {vb : Nat} {w : World} (_hl : vb < w.heap.size) (c0 : w.cell? ⟨vb, 0, none⟩ = some (.bool false)) : Calls Tryd.prog 22 #[.pointer (some ⟨vb, 0, none⟩)] w fun e w' => e = .returned (.bool false) ∧ w' = w := by
 go_enter Tryd.func22, Tryd.ntmps22
 go_wp2
 go_ret
 exact ⟨rfl, rfl⟩
/-- What shows nothing. -/
theorem Cv.nil (w : World) (k x : Nat → Int) : Cv w (.slice none 0 0) 0 k x := ⟨none, 0, 0, rfl, Nat.le_refl _, fun q => absurd q (by decide), fun j hj => absurd hj (Nat.not_lt_zero j), fun j hj => absurd hj (Nat.not_lt_zero j)⟩
end Go.Proofs.YtmoklddfaocihaaDoor
