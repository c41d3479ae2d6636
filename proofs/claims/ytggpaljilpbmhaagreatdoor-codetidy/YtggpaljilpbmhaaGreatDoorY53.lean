import Derived.Test.YtggpaljilpbmhaaGreatDoorY52
namespace Go.Proofs.YtggpaljilpbmhaaGreatDoor
open Go.RowKit Go.Sort

section
variable {B gb : Nat} {v : Gv} {ev kk : Int} {w : World}
set_option maxRecDepth 10000 in
set_option maxHeartbeats 3200000 in
theorem place1 (h : Gr B gb v [(1, 1)] [0] [0] [(0, 0)] w) : Calls Tryz.prog 171 #[.pointer (some ⟨gb, 0, none⟩)] w fun e w' => e = .returned (.int .u8 114) ∧ Hid (Below w.heap.size w w') := by
 obtain ⟨bo, eo, lo, ko, co, _⟩ := own_at h.o (by simp)
 obtain ⟨bn, en, ln, kn, cn, _⟩ := own_at h.n (by simp)
 have c0 := block_cell h.blk 0
 have c3 := block_cell h.blk 3
 have cl := block_lt h.blk
 simp at c0 c3 ko kn
 rw [en] at c0
 rw [eo] at c3
 have d0 := co 0 _ rfl
 have d1 := co 1 _ rfl
 have n0 := cn 0 _ rfl
 have hfd := field_parts
 obtain ⟨W1, hW1⟩ : ∃ W1, (w.alloc (.cells #[.int .i64 0, .int .u64 0] 257)).drew = W1 := ⟨_, rfl⟩
 have B1 : Below w.heap.size w W1 := by rw [← hW1]; exact (below_alloc1 w _).drew
 have A1 : W1.heap[w.heap.size]? = some (.cells #[.int .i64 0, .int .u64 0] 257 (0, 0)) := by rw [← hW1]; exact alloc_atK w _
 have z0 := (B1.cell (p := ⟨gb, 0, none⟩) cl).trans c0
 have y0 := (B1.cell (p := ⟨bn, 0, none⟩) ln).trans n0
 have u0 := block_cell A1 0
 have u1 := block_cell A1 1
 have ul := block_lt A1
 simp at u0 u1
 have k0 := cell_regrown z0
 have k1 := cell_regrown y0
 have k2 := cell_regrown u0
 have HSQ : ∀ d os, Calls Tryz.prog 154 #[.int .i64 1] (grow (redrawn W1 d) os) fun e w'' => e = .returned (.agg (shA 1)) ∧ ∃ p : Regrown, w'' = grow (redrawn W1 p.d) p.os := fun d os => Calls.regrown_of ((shapeOf4 1 (by decide) _).mono fun e w' q => ⟨q.1, q.2.out⟩)
 simp [shA] at HSQ
 have HB1 := hide B1
 have HW1 := hide hW1
 clear h co cn en eo hW1 B1 A1 z0 y0
 go_enter Tryz.func171, Tryz.ntmps171
 go_upto_region 3 with fail
 go_region
 rw [HW1.out]
 clear HW1 c0 c3 d0 d1 n0
 go_upto_region 4 with fail
 refine wp_region_quiet_below (by kernel_rfl) (by kernel_rfl) ?_
 repeat (quiet_step (first | exact HSQ _ _))
 refine wpQuiet_nil ?_
 intro w8 hw'
 obtain ⟨⟨dq, osq⟩, hw''⟩ := hw'
 have B8 : Below W1.heap.size W1 w8 := by rw [hw'']; exact below_regrown W1 dq osq
 have u0' := (B8.cell (p := ⟨w.heap.size, 0, none⟩) ul).trans u0
 have u1' := (B8.cell (p := ⟨w.heap.size, 1, none⟩) ul).trans u1
 have ul' := Nat.lt_of_lt_of_le ul B8.size
 have HB8 := hide (HB1.out.trans (B8.mono HB1.out.size))
 clear hw'' k0 k1 k2 HSQ u0 u1 ul B8 hfd
 go_wp2
 go_ret
 exact ⟨rfl, HB8⟩
set_option maxRecDepth 10000 in
set_option maxHeartbeats 3200000 in
theorem place2 (h : Gr B gb v [(1, 1), (2, ev)] [0, 0] [0, 0] [(0, 0), (1, 0)] w) : Calls Tryz.prog 171 #[.pointer (some ⟨gb, 0, none⟩)] w fun e w' => e = .returned (.int .u8 98) ∧ Hid (Below w.heap.size w w') := by
 obtain ⟨bo, eo, lo, ko, co, _⟩ := own_at h.o (by simp)
 obtain ⟨bn, en, ln, kn, cn, _⟩ := own_at h.n (by simp)
 have c0 := block_cell h.blk 0
 have c3 := block_cell h.blk 3
 have cl := block_lt h.blk
 simp at c0 c3 ko kn
 rw [en] at c0
 rw [eo] at c3
 have d0 := co 2 _ rfl
 have d1 := co 3 _ rfl
 have n0 := cn 3 _ rfl
 have hfd := field_parts
 obtain ⟨W1, hW1⟩ : ∃ W1, (w.alloc (.cells #[.int .i64 1, .int .u64 0] 257)).drew = W1 := ⟨_, rfl⟩
 have B1 : Below w.heap.size w W1 := by rw [← hW1]; exact (below_alloc1 w _).drew
 have A1 : W1.heap[w.heap.size]? = some (.cells #[.int .i64 1, .int .u64 0] 257 (0, 0)) := by rw [← hW1]; exact alloc_atK w _
 have z0 := (B1.cell (p := ⟨gb, 0, none⟩) cl).trans c0
 have y0 := (B1.cell (p := ⟨bn, 3, none⟩) ln).trans n0
 have u0 := block_cell A1 0
 have u1 := block_cell A1 1
 have ul := block_lt A1
 simp at u0 u1
 have k0 := cell_regrown z0
 have k1 := cell_regrown y0
 have k2 := cell_regrown u0
 have HSQ : ∀ d os, Calls Tryz.prog 154 #[.int .i64 2] (grow (redrawn W1 d) os) fun e w'' => e = .returned (.agg (shA 2)) ∧ ∃ p : Regrown, w'' = grow (redrawn W1 p.d) p.os := fun d os => Calls.regrown_of ((shapeOf4 2 (by decide) _).mono fun e w' q => ⟨q.1, q.2.out⟩)
 simp [shA] at HSQ
 have HB1 := hide B1
 have HW1 := hide hW1
 clear h co cn en eo hW1 B1 A1 z0 y0
 go_enter Tryz.func171, Tryz.ntmps171
 go_upto_region 3 with fail
 go_region
 rw [HW1.out]
 clear HW1 c0 c3 d0 d1 n0
 go_upto_region 4 with fail
 refine wp_region_quiet_below (by kernel_rfl) (by kernel_rfl) ?_
 repeat (quiet_step (first | exact HSQ _ _))
 refine wpQuiet_nil ?_
 intro w8 hw'
 obtain ⟨⟨dq, osq⟩, hw''⟩ := hw'
 have B8 : Below W1.heap.size W1 w8 := by rw [hw'']; exact below_regrown W1 dq osq
 have u0' := (B8.cell (p := ⟨w.heap.size, 0, none⟩) ul).trans u0
 have u1' := (B8.cell (p := ⟨w.heap.size, 1, none⟩) ul).trans u1
 have ul' := Nat.lt_of_lt_of_le ul B8.size
 have HB8 := hide (HB1.out.trans (B8.mono HB1.out.size))
 clear hw'' k0 k1 k2 HSQ u0 u1 ul B8 hfd
 go_wp2
 go_ret
 exact ⟨rfl, HB8⟩
set_option maxRecDepth 10000 in
set_option maxHeartbeats 3200000 in
theorem place3 (h : Gr B gb v [(1, 1), (2, ev), (3, 1)] [0, 0, 0] [0, 0, 1] [(0, 0), (1, 0), (2, 0)] w) : Calls Tryz.prog 171 #[.pointer (some ⟨gb, 0, none⟩)] w fun e w' => e = .returned (.int .u8 115) ∧ Hid (Below w.heap.size w w') := by
 obtain ⟨bo, eo, lo, ko, co, _⟩ := own_at h.o (by simp)
 obtain ⟨bn, en, ln, kn, cn, _⟩ := own_at h.n (by simp)
 have c0 := block_cell h.blk 0
 have c3 := block_cell h.blk 3
 have cl := block_lt h.blk
 simp at c0 c3 ko kn
 rw [en] at c0
 rw [eo] at c3
 have d0 := co 4 _ rfl
 have d1 := co 5 _ rfl
 have n0 := cn 6 _ rfl
 have hfd := field_parts
 obtain ⟨W1, hW1⟩ : ∃ W1, (w.alloc (.cells #[.int .i64 2, .int .u64 0] 257)).drew = W1 := ⟨_, rfl⟩
 have B1 : Below w.heap.size w W1 := by rw [← hW1]; exact (below_alloc1 w _).drew
 have A1 : W1.heap[w.heap.size]? = some (.cells #[.int .i64 2, .int .u64 0] 257 (0, 0)) := by rw [← hW1]; exact alloc_atK w _
 have z0 := (B1.cell (p := ⟨gb, 0, none⟩) cl).trans c0
 have y0 := (B1.cell (p := ⟨bn, 6, none⟩) ln).trans n0
 have u0 := block_cell A1 0
 have u1 := block_cell A1 1
 have ul := block_lt A1
 simp at u0 u1
 have k0 := cell_regrown z0
 have k1 := cell_regrown y0
 have k2 := cell_regrown u0
 have HSQ : ∀ d os, Calls Tryz.prog 154 #[.int .i64 3] (grow (redrawn W1 d) os) fun e w'' => e = .returned (.agg (shA 3)) ∧ ∃ p : Regrown, w'' = grow (redrawn W1 p.d) p.os := fun d os => Calls.regrown_of ((shapeOf4 3 (by decide) _).mono fun e w' q => ⟨q.1, q.2.out⟩)
 simp [shA] at HSQ
 have HB1 := hide B1
 have HW1 := hide hW1
 clear h co cn en eo hW1 B1 A1 z0 y0
 go_enter Tryz.func171, Tryz.ntmps171
 go_upto_region 3 with fail
 go_region
 rw [HW1.out]
 clear HW1 c0 c3 d0 d1 n0
 go_upto_region 4 with fail
 refine wp_region_quiet_below (by kernel_rfl) (by kernel_rfl) ?_
 repeat (quiet_step (first | exact HSQ _ _))
 refine wpQuiet_nil ?_
 intro w8 hw'
 obtain ⟨⟨dq, osq⟩, hw''⟩ := hw'
 have B8 : Below W1.heap.size W1 w8 := by rw [hw'']; exact below_regrown W1 dq osq
 have u0' := (B8.cell (p := ⟨w.heap.size, 0, none⟩) ul).trans u0
 have u1' := (B8.cell (p := ⟨w.heap.size, 1, none⟩) ul).trans u1
 have ul' := Nat.lt_of_lt_of_le ul B8.size
 have HB8 := hide (HB1.out.trans (B8.mono HB1.out.size))
 clear hw'' k0 k1 k2 HSQ u0 u1 ul B8 hfd
 go_wp2
 go_ret
 exact ⟨rfl, HB8⟩
set_option maxRecDepth 10000 in
set_option maxHeartbeats 3200000 in
theorem fits0 (h : Gr B gb v [] [] [] [] w) : Calls Tryz.prog 145 #[.pointer (some ⟨gb, 0, none⟩), .agg #[.int .i64 1, .int .u64 1, .string ⟨#[]⟩]] w fun e w' => e = .returned (.bool true) ∧ Hid (Below w.heap.size w w') := by
 obtain ⟨W1, hW1⟩ : ∃ W1, w.alloc (.cells #[.int .i64 1, .int .u64 1, .string ⟨#[]⟩] 121) = W1 := ⟨_, rfl⟩
 have B1 : Below w.heap.size w W1 := by rw [← hW1]; exact below_alloc1 w _
 have A1 : W1.heap[w.heap.size]? = some (.cells #[.int .i64 1, .int .u64 1, .string ⟨#[]⟩] 121 (0, 0)) := by rw [← hW1]; exact alloc_atK _ _
 have h1' := h.next B1
 have HEN := hide (endedC h1' (b := false) (by simp))
 have c3 := block_cell h1'.blk 3
 have cl := block_lt h1'.blk
 have x0 := block_cell A1 0
 have xl := block_lt A1
 simp at c3 x0
 have HSH : Hid (∀ w, Calls Tryz.prog 154 #[.int .i64 1] w fun e w' => e = .returned (.agg (shA 1)) ∧ Hid (Below w.heap.size w w')) := fun w => shapeOf4 1 (by decide) w
 simp [shA] at HSH
 have HG1 := hide h1'
 have HA1 := hide A1
 have HB1 := hide B1
 have HW1 := hide hW1
 clear h h1' hW1 A1 B1
 go_enter Tryz.func145, Tryz.ntmps145
 go_upto_region 1 with fail
 rw [HW1.out]
 clear HW1
 go_wp2_with fail
 refine HEN.out.mono ?_
 rintro e w1 ⟨rfl, hw1⟩
 subst hw1
 clear HEN
 go_wp2_with fail
 refine (HSH.out _).mono ?_
 rintro e w2 ⟨rfl, G2⟩
 clear HSH c3 cl x0 xl
 obtain ⟨W3, hW3⟩ : ∃ W3, w2.alloc (.cells #[.int .u8 116, .string ⟨#[114]⟩, .int .u64 1, .int .u64 18446744073709551615, .int .i64 0] 229) = W3 := ⟨_, rfl⟩
 have B3 : Below w2.heap.size w2 W3 := by rw [← hW3]; exact below_alloc1 _ _
 have A3 : W3.heap[w2.heap.size]? = some (.cells #[.int .u8 116, .string ⟨#[114]⟩, .int .u64 1, .int .u64 18446744073709551615, .int .i64 0] 229 (0, 0)) := by rw [← hW3]; exact alloc_atK _ _
 have B13 := G2.out.trans (B3.mono G2.out.size)
 have hg3 := HG1.out.next B13
 have a13 := (B13.block _ (block_lt HA1.out)).trans HA1.out
 have HBW := hide (HB1.out.trans (B13.mono HB1.out.size))
 have HPL : ∀ d os, Calls Tryz.prog 171 #[.pointer (some ⟨gb, 0, none⟩)] (grow (redrawn W3 d) os) fun e w'' => e = .returned (.int .u8 116) ∧ ∃ p : Regrown, w'' = grow (redrawn W3 p.d) p.os := fun d os => by
  have hg := hg3.next (below_regrown W3 d os)
  exact Calls.regrown_of ((place0 hg).mono (fun e w2 q => ⟨q.1, by rw [q.2]; exact Below.refl _ _⟩))
 have HNM : ∀ d os, Calls Tryz.prog 172 #[.string ⟨#[]⟩, .int .i64 0] (grow (redrawn W3 d) os) fun e w'' => e = .returned (.bool true) ∧ ∃ p : Regrown, w'' = grow (redrawn W3 p.d) p.os := fun d os => Calls.regrown_of ((isNamed0 _).mono (fun e w2 q => ⟨q.1, by rw [q.2]; exact Below.refl _ _⟩))
 have s0 := cell_regrown (block_cell A3 0)
 have s2 := cell_regrown (block_cell A3 2)
 have s3 := cell_regrown (block_cell A3 3)
 have s4 := cell_regrown (block_cell A3 4)
 have n1 := cell_regrown (block_cell a13 1)
 have n2 := cell_regrown (block_cell a13 2)
 have HW3 := hide hW3
 clear hW3 B3 A3 B13 hg3 a13 HG1 HA1 HB1 G2
 go_upto_region 4 with fail
 rw [HW3.out]
 clear HW3
 generalize w2.heap.size = sb at *
 refine wp_region_quiet_below (by kernel_rfl) (by kernel_rfl) ?_
 repeat (quiet_step (first | exact HPL _ _ | exact HNM _ _))
 refine wpQuiet_nil ?_
 intro w8 hw'
 obtain ⟨⟨dq, osq⟩, hw''⟩ := hw'
 have B8 : Below W3.heap.size W3 w8 := by rw [hw'']; exact below_regrown W3 dq osq
 have HB8 := hide (HBW.out.trans (B8.mono HBW.out.size))
 clear hw'' HPL HNM s0 s2 s3 s4 n1 n2
 go_wp2
 go_ret
 exact ⟨rfl, HB8⟩
set_option maxRecDepth 10000 in
set_option maxHeartbeats 3200000 in
theorem fits1 (h : Gr B gb v [(1, 1)] [0] [0] [(0, 0)] w) (h0 : 0 ≤ ev) (h1 : ev ≤ 5) : Calls Tryz.prog 145 #[.pointer (some ⟨gb, 0, none⟩), .agg #[.int .i64 2, .int .u64 ev, .string ⟨#[]⟩]] w fun e w' => e = .returned (.bool true) ∧ Hid (Below w.heap.size w w') := by
 have q0 : decide (0 ≤ ev) = true := by simpa using h0
 have q1 : decide (ev ≤ 5) = true := by simpa using h1
 obtain ⟨W1, hW1⟩ : ∃ W1, w.alloc (.cells #[.int .i64 2, .int .u64 ev, .string ⟨#[]⟩] 121) = W1 := ⟨_, rfl⟩
 have B1 : Below w.heap.size w W1 := by rw [← hW1]; exact below_alloc1 w _
 have A1 : W1.heap[w.heap.size]? = some (.cells #[.int .i64 2, .int .u64 ev, .string ⟨#[]⟩] 121 (0, 0)) := by rw [← hW1]; exact alloc_atK _ _
 have h1' := h.next B1
 have HEN := hide (endedC h1' (b := false) (by simp))
 have c3 := block_cell h1'.blk 3
 have cl := block_lt h1'.blk
 have x0 := block_cell A1 0
 have xl := block_lt A1
 simp at c3 x0
 have HSH : Hid (∀ w, Calls Tryz.prog 154 #[.int .i64 2] w fun e w' => e = .returned (.agg (shA 2)) ∧ Hid (Below w.heap.size w w')) := fun w => shapeOf4 2 (by decide) w
 simp [shA] at HSH
 have HG1 := hide h1'
 have HA1 := hide A1
 have HB1 := hide B1
 have HW1 := hide hW1
 clear h h1' hW1 A1 B1
 go_enter Tryz.func145, Tryz.ntmps145
 go_upto_region 1 with fail
 rw [HW1.out]
 clear HW1
 go_wp2_with fail
 refine HEN.out.mono ?_
 rintro e w1 ⟨rfl, hw1⟩
 subst hw1
 clear HEN
 go_wp2_with fail
 refine (HSH.out _).mono ?_
 rintro e w2 ⟨rfl, G2⟩
 clear HSH c3 cl x0 xl
 obtain ⟨W3, hW3⟩ : ∃ W3, w2.alloc (.cells #[.int .u8 114, .string ⟨#[98]⟩, .int .u64 0, .int .u64 5, .int .i64 0] 229) = W3 := ⟨_, rfl⟩
 have B3 : Below w2.heap.size w2 W3 := by rw [← hW3]; exact below_alloc1 _ _
 have A3 : W3.heap[w2.heap.size]? = some (.cells #[.int .u8 114, .string ⟨#[98]⟩, .int .u64 0, .int .u64 5, .int .i64 0] 229 (0, 0)) := by rw [← hW3]; exact alloc_atK _ _
 have B13 := G2.out.trans (B3.mono G2.out.size)
 have hg3 := HG1.out.next B13
 have a13 := (B13.block _ (block_lt HA1.out)).trans HA1.out
 have HBW := hide (HB1.out.trans (B13.mono HB1.out.size))
 have HPL : ∀ d os, Calls Tryz.prog 171 #[.pointer (some ⟨gb, 0, none⟩)] (grow (redrawn W3 d) os) fun e w'' => e = .returned (.int .u8 114) ∧ ∃ p : Regrown, w'' = grow (redrawn W3 p.d) p.os := fun d os => by
  have hg := hg3.next (below_regrown W3 d os)
  exact Calls.regrown_of ((place1 hg).mono (fun e w2 q => ⟨q.1, q.2.out⟩))
 have HNM : ∀ d os, Calls Tryz.prog 172 #[.string ⟨#[]⟩, .int .i64 0] (grow (redrawn W3 d) os) fun e w'' => e = .returned (.bool true) ∧ ∃ p : Regrown, w'' = grow (redrawn W3 p.d) p.os := fun d os => Calls.regrown_of ((isNamed0 _).mono (fun e w2 q => ⟨q.1, by rw [q.2]; exact Below.refl _ _⟩))
 have s0 := cell_regrown (block_cell A3 0)
 have s2 := cell_regrown (block_cell A3 2)
 have s3 := cell_regrown (block_cell A3 3)
 have s4 := cell_regrown (block_cell A3 4)
 have n1 := cell_regrown (block_cell a13 1)
 have n2 := cell_regrown (block_cell a13 2)
 have HW3 := hide hW3
 clear hW3 B3 A3 B13 hg3 a13 HG1 HA1 HB1 G2
 go_upto_region 4 with fail
 rw [HW3.out]
 clear HW3
 generalize w2.heap.size = sb at *
 refine wp_region_quiet_below (by kernel_rfl) (by kernel_rfl) ?_
 repeat (quiet_step (first | exact HPL _ _ | exact HNM _ _))
 refine wpQuiet_nil ?_
 intro w8 hw'
 obtain ⟨⟨dq, osq⟩, hw''⟩ := hw'
 have B8 : Below W3.heap.size W3 w8 := by rw [hw'']; exact below_regrown W3 dq osq
 have HB8 := hide (HBW.out.trans (B8.mono HBW.out.size))
 clear hw'' HPL HNM s0 s2 s3 s4 n1 n2
 go_wp2
 go_ret
 exact ⟨rfl, HB8⟩
set_option maxRecDepth 10000 in
set_option maxHeartbeats 3200000 in
theorem fits2 (h : Gr B gb v [(1, 1), (2, ev)] [0, 0] [0, 0] [(0, 0), (1, 0)] w) : Calls Tryz.prog 145 #[.pointer (some ⟨gb, 0, none⟩), .agg #[.int .i64 3, .int .u64 1, .string ⟨#[]⟩]] w fun e w' => e = .returned (.bool true) ∧ Hid (Below w.heap.size w w') := by
 obtain ⟨W1, hW1⟩ : ∃ W1, w.alloc (.cells #[.int .i64 3, .int .u64 1, .string ⟨#[]⟩] 121) = W1 := ⟨_, rfl⟩
 have B1 : Below w.heap.size w W1 := by rw [← hW1]; exact below_alloc1 w _
 have A1 : W1.heap[w.heap.size]? = some (.cells #[.int .i64 3, .int .u64 1, .string ⟨#[]⟩] 121 (0, 0)) := by rw [← hW1]; exact alloc_atK _ _
 have h1' := h.next B1
 have HEN := hide (endedC h1' (b := false) (by simp))
 have c3 := block_cell h1'.blk 3
 have cl := block_lt h1'.blk
 have x0 := block_cell A1 0
 have xl := block_lt A1
 simp at c3 x0
 have HSH : Hid (∀ w, Calls Tryz.prog 154 #[.int .i64 3] w fun e w' => e = .returned (.agg (shA 3)) ∧ Hid (Below w.heap.size w w')) := fun w => shapeOf4 3 (by decide) w
 simp [shA] at HSH
 have HG1 := hide h1'
 have HA1 := hide A1
 have HB1 := hide B1
 have HW1 := hide hW1
 clear h h1' hW1 A1 B1
 go_enter Tryz.func145, Tryz.ntmps145
 go_upto_region 1 with fail
 rw [HW1.out]
 clear HW1
 go_wp2_with fail
 refine HEN.out.mono ?_
 rintro e w1 ⟨rfl, hw1⟩
 subst hw1
 clear HEN
 go_wp2_with fail
 refine (HSH.out _).mono ?_
 rintro e w2 ⟨rfl, G2⟩
 clear HSH c3 cl x0 xl
 obtain ⟨W3, hW3⟩ : ∃ W3, w2.alloc (.cells #[.int .u8 98, .string ⟨#[115]⟩, .int .u64 0, .int .u64 18446744073709551615, .int .i64 0] 229) = W3 := ⟨_, rfl⟩
 have B3 : Below w2.heap.size w2 W3 := by rw [← hW3]; exact below_alloc1 _ _
 have A3 : W3.heap[w2.heap.size]? = some (.cells #[.int .u8 98, .string ⟨#[115]⟩, .int .u64 0, .int .u64 18446744073709551615, .int .i64 0] 229 (0, 0)) := by rw [← hW3]; exact alloc_atK _ _
 have B13 := G2.out.trans (B3.mono G2.out.size)
 have hg3 := HG1.out.next B13
 have a13 := (B13.block _ (block_lt HA1.out)).trans HA1.out
 have HBW := hide (HB1.out.trans (B13.mono HB1.out.size))
 have HPL : ∀ d os, Calls Tryz.prog 171 #[.pointer (some ⟨gb, 0, none⟩)] (grow (redrawn W3 d) os) fun e w'' => e = .returned (.int .u8 98) ∧ ∃ p : Regrown, w'' = grow (redrawn W3 p.d) p.os := fun d os => by
  have hg := hg3.next (below_regrown W3 d os)
  exact Calls.regrown_of ((place2 hg).mono (fun e w2 q => ⟨q.1, q.2.out⟩))
 have HNM : ∀ d os, Calls Tryz.prog 172 #[.string ⟨#[]⟩, .int .i64 0] (grow (redrawn W3 d) os) fun e w'' => e = .returned (.bool true) ∧ ∃ p : Regrown, w'' = grow (redrawn W3 p.d) p.os := fun d os => Calls.regrown_of ((isNamed0 _).mono (fun e w2 q => ⟨q.1, by rw [q.2]; exact Below.refl _ _⟩))
 have s0 := cell_regrown (block_cell A3 0)
 have s2 := cell_regrown (block_cell A3 2)
 have s3 := cell_regrown (block_cell A3 3)
 have s4 := cell_regrown (block_cell A3 4)
 have n1 := cell_regrown (block_cell a13 1)
 have n2 := cell_regrown (block_cell a13 2)
 have HW3 := hide hW3
 clear hW3 B3 A3 B13 hg3 a13 HG1 HA1 HB1 G2
 go_upto_region 4 with fail
 rw [HW3.out]
 clear HW3
 generalize w2.heap.size = sb at *
 refine wp_region_quiet_below (by kernel_rfl) (by kernel_rfl) ?_
 repeat (quiet_step (first | exact HPL _ _ | exact HNM _ _))
 refine wpQuiet_nil ?_
 intro w8 hw'
 obtain ⟨⟨dq, osq⟩, hw''⟩ := hw'
 have B8 : Below W3.heap.size W3 w8 := by rw [hw'']; exact below_regrown W3 dq osq
 have HB8 := hide (HBW.out.trans (B8.mono HBW.out.size))
 clear hw'' HPL HNM s0 s2 s3 s4 n1 n2
 go_wp2
 go_ret
 exact ⟨rfl, HB8⟩
set_option maxRecDepth 10000 in
set_option maxHeartbeats 3200000 in
theorem fits3 (h : Gr B gb v [(1, 1), (2, ev), (3, 1)] [0, 0, 0] [0, 0, 1] [(0, 0), (1, 0), (2, 0)] w) (h0 : 1 ≤ kk) (h1 : kk ≤ 999) : Calls Tryz.prog 145 #[.pointer (some ⟨gb, 0, none⟩), .agg #[.int .i64 12, .int .u64 kk, .string ⟨#[]⟩]] w fun e w' => e = .returned (.bool true) ∧ Hid (Below w.heap.size w w') := by
 have q0 : decide (1 ≤ kk) = true := by simpa using h0
 have q1 : decide (kk ≤ 999) = true := by simpa using h1
 obtain ⟨W1, hW1⟩ : ∃ W1, w.alloc (.cells #[.int .i64 12, .int .u64 kk, .string ⟨#[]⟩] 121) = W1 := ⟨_, rfl⟩
 have B1 : Below w.heap.size w W1 := by rw [← hW1]; exact below_alloc1 w _
 have A1 : W1.heap[w.heap.size]? = some (.cells #[.int .i64 12, .int .u64 kk, .string ⟨#[]⟩] 121 (0, 0)) := by rw [← hW1]; exact alloc_atK _ _
 have h1' := h.next B1
 have HEN := hide (endedC h1' (b := false) (by simp))
 have c3 := block_cell h1'.blk 3
 have cl := block_lt h1'.blk
 have x0 := block_cell A1 0
 have xl := block_lt A1
 simp at c3 x0
 have HSH : Hid (∀ w, Calls Tryz.prog 154 #[.int .i64 12] w fun e w' => e = .returned (.agg (shA 12)) ∧ Hid (Below w.heap.size w w')) := fun w => shapeOf4 12 (by decide) w
 simp [shA] at HSH
 have HG1 := hide h1'
 have HA1 := hide A1
 have HB1 := hide B1
 have HW1 := hide hW1
 clear h h1' hW1 A1 B1
 go_enter Tryz.func145, Tryz.ntmps145
 go_upto_region 1 with fail
 rw [HW1.out]
 clear HW1
 go_wp2_with fail
 refine HEN.out.mono ?_
 rintro e w1 ⟨rfl, hw1⟩
 subst hw1
 clear HEN
 go_wp2_with fail
 refine (HSH.out _).mono ?_
 rintro e w2 ⟨rfl, G2⟩
 clear HSH c3 cl x0 xl
 obtain ⟨W3, hW3⟩ : ∃ W3, w2.alloc (.cells #[.int .u8 115, .string ⟨#[]⟩, .int .u64 1, .int .u64 999, .int .i64 0] 229) = W3 := ⟨_, rfl⟩
 have B3 : Below w2.heap.size w2 W3 := by rw [← hW3]; exact below_alloc1 _ _
 have A3 : W3.heap[w2.heap.size]? = some (.cells #[.int .u8 115, .string ⟨#[]⟩, .int .u64 1, .int .u64 999, .int .i64 0] 229 (0, 0)) := by rw [← hW3]; exact alloc_atK _ _
 have B13 := G2.out.trans (B3.mono G2.out.size)
 have hg3 := HG1.out.next B13
 have a13 := (B13.block _ (block_lt HA1.out)).trans HA1.out
 have HBW := hide (HB1.out.trans (B13.mono HB1.out.size))
 have HPL : ∀ d os, Calls Tryz.prog 171 #[.pointer (some ⟨gb, 0, none⟩)] (grow (redrawn W3 d) os) fun e w'' => e = .returned (.int .u8 115) ∧ ∃ p : Regrown, w'' = grow (redrawn W3 p.d) p.os := fun d os => by
  have hg := hg3.next (below_regrown W3 d os)
  exact Calls.regrown_of ((place3 hg).mono (fun e w2 q => ⟨q.1, q.2.out⟩))
 have HNM : ∀ d os, Calls Tryz.prog 172 #[.string ⟨#[]⟩, .int .i64 0] (grow (redrawn W3 d) os) fun e w'' => e = .returned (.bool true) ∧ ∃ p : Regrown, w'' = grow (redrawn W3 p.d) p.os := fun d os => Calls.regrown_of ((isNamed0 _).mono (fun e w2 q => ⟨q.1, by rw [q.2]; exact Below.refl _ _⟩))
 have s0 := cell_regrown (block_cell A3 0)
 have s2 := cell_regrown (block_cell A3 2)
 have s3 := cell_regrown (block_cell A3 3)
 have s4 := cell_regrown (block_cell A3 4)
 have n1 := cell_regrown (block_cell a13 1)
 have n2 := cell_regrown (block_cell a13 2)
 have HW3 := hide hW3
 clear hW3 B3 A3 B13 hg3 a13 HG1 HA1 HB1 G2
 go_upto_region 4 with fail
 rw [HW3.out]
 clear HW3
 generalize w2.heap.size = sb at *
 refine wp_region_quiet_below (by kernel_rfl) (by kernel_rfl) ?_
 repeat (quiet_step (first | exact HPL _ _ | exact HNM _ _))
 refine wpQuiet_nil ?_
 intro w8 hw'
 obtain ⟨⟨dq, osq⟩, hw''⟩ := hw'
 have B8 : Below W3.heap.size W3 w8 := by rw [hw'']; exact below_regrown W3 dq osq
 have HB8 := hide (HBW.out.trans (B8.mono HBW.out.size))
 clear hw'' HPL HNM s0 s2 s3 s4 n1 n2
 go_wp2
 go_ret
 exact ⟨rfl, HB8⟩
end
end Go.Proofs.YtggpaljilpbmhaaGreatDoor
