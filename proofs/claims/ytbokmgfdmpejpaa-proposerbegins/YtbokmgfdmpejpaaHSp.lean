import Derived.Test.YtbokmgfdmpejpaaHSt
import Derived.Deep.DeepAppendWide
namespace Go.Proofs.Ytbokmgfdmpejpaa
open Go.RowKit

theorem infoRq : (Try.prog.info? 65).map (fun i => (i.zero, i.size, i.bytes)) = some (some (.agg #[.int .u64 0, .int .u64 0, .slice none 0 0]), 3, 40) := by kernel_rfl
set_option maxRecDepth 10000 in
set_option maxHeartbeats 1600000 in
theorem spoilR_nil (mk : Nat) (hmk : mk < 256) (w : World) : Calls Try.prog 73 #[.slice none 0 0, .int .u8 (mk : Nat)] w fun e w' => (∃ v, e = .returned v) ∧ Hid (Below w.heap.size w w') := by
  obtain ⟨i0, hi0, hz0, hz1, hz2⟩ := info_parts infoRq
  have HOW : Hid (∀ o, (w.alloc o).ownsRow w.heap.size 65 3 (.slice none 0 0) 0 []) := fun o => ⟨rfl, .inl ⟨rfl, rfl⟩⟩
  have HNX : Hid (∀ (g' cap' : Nat) (w2 : World) (o : Obj) (xs : List Value), w2.ownsRow w.heap.size 65 3 (.slice (some ⟨g', 0, none⟩) 1 cap') 1 xs → (w.alloc o).grownBy w2 none → (∃ u, w2.cell? ⟨g', 1, none⟩ = some u) ∧ w2.frozen? ⟨g', 1, none⟩ = false ∧ g' < w2.heap.size ∧ 1 ≤ cap' ∧ Below w.heap.size w (w2.setCell ⟨g', 1, none⟩ (.int .u64 2))) := fun g' cap' w2 o xs ho hg => by
    have b1 : Below w.heap.size w (w.alloc o) := (Below.refl _ w).alloc (Nat.le_refl _) _
    have b2 : Below w.heap.size w w2 := b1.grown hg b1.size (fun k e => by cases e)
    rcases ho.2 with ⟨h, _⟩ | ⟨g, cap, cur, e, hbg, hgb, hnc, hcm, hcs, _⟩
    · cases h
    · cases e
      have hsz : 1 < cur.size := by omega
      exact ⟨⟨cur[1], by rw [block_cell hgb]; exact Array.getElem?_eq_getElem hsz⟩, block_free hgb 1, block_lt hgb, hnc, b2.setCell (p := ⟨g', 1, none⟩) hbg _⟩
  go_enter Try.func73, Try.ntmps73
  go_wp2
  refine wp_loop_rounds 1 ?_
  rw [rounds_succ]
  go_wp2_with (first
    | (at_builtin; refine wpList_append_own_wide _ rfl (.tmp 37) (.tmp 41) 47 rfl w.heap.size 65 i0 (.agg #[.int .u64 0, .int .u64 0, .slice none 0 0]) 3 40 Try.underlying47 hi0 hz0 hz1 hz2 rfl (by decide) (.slice none 0 0) 0 [] rfl (HOW.out _) ⟨w.heap.size, 0, none⟩ 1 1 [.int .u64 (mk : Int), .int .u64 0, .slice none 0 0] rfl rfl (cells_newK _ _ _) (by simp [Value.oneCell']) (by unfold maxLen; omega) (by omega) (by simp) ?_; intro v' w2 ho hg _; obtain ⟨g', cap', rfl⟩ := ownsRow_succ ho; obtain ⟨⟨u1, x1⟩, x2, x3, x4, x5⟩ := HNX.out _ _ _ _ _ ho hg; have FIN := hide x5; clear ho hg x5 HNX HOW))
  go_end0
  exact ⟨⟨_, rfl⟩, FIN.out⟩
set_option maxRecDepth 10000 in
set_option maxHeartbeats 800000 in
theorem spoilV_nil (mk : Value) (w : World) : Calls Try.prog 72 #[.slice none 0 0, mk] w fun e w' => (∃ v, e = .returned v) ∧ w' = w := by
  go_enter Try.func72, Try.ntmps72
  go_wp2
  refine wp_loop_rounds 1 ?_
  rw [rounds_succ]
  go_wp2
  go_end0
  exact ⟨⟨_, rfl⟩, rfl⟩
set_option maxRecDepth 100000 in
set_option maxHeartbeats 4000000 in
theorem spoilS_idle (n : Nat) (m : Int) (w : World) : Calls Try.prog 37 #[.agg (scells n m), .int .u8 65] w fun e w' => (∃ v, e = .returned v) ∧ Hid (Below w.heap.size w w') := by
  have H1 := hide (spoilR_nil 66 (by omega))
  have H2 := hide (spoilR_nil 67 (by omega))
  have HV := hide spoilV_nil
  obtain ⟨W1, hW1⟩ : ∃ W1, w.alloc (.cells (scells n m) 70) = W1 := ⟨_, rfl⟩
  have B1 : Hid (Below w.heap.size w W1) := by rw [← hW1]; exact (Below.refl _ w).alloc (Nat.le_refl _) _
  have C1 : Hid (W1.heap[w.heap.size]? = some (.cells (scells n m) 70 (0, 0))) := by rw [← hW1]; exact alloc_atK _ _
  have HW1 := hide hW1
  clear hW1
  have z4 : W1.cell? ⟨w.heap.size, 4, none⟩ = some (.slice none 0 0) := block_cell C1.out 4
  have z5 : W1.cell? ⟨w.heap.size, 5, none⟩ = some (.slice none 0 0) := block_cell C1.out 5
  unfold scells at HW1 ⊢
  go_enter Try.func37, Try.ntmps37
  go_upto_region 1 with fail
  rw [HW1.out]
  clear HW1
  go_wp2_with fail
  refine wp_loop_rounds 1 ?_
  rw [rounds_succ]
  go_wp2_with fail
  refine (H1.out _).mono ?_
  rintro e w2 ⟨⟨v2, rfl⟩, G2⟩
  have C2 := hide ((G2.out.block _ (block_lt C1.out)).trans C1.out)
  have B2 := hide (B1.out.trans (G2.out.mono B1.out.size))
  have y6 : w2.cell? ⟨w.heap.size, 6, none⟩ = some (.slice none 0 0) := block_cell C2.out 6
  clear z4 z5 G2
  go_wp2_with fail
  refine (H2.out _).mono ?_
  rintro e w3 ⟨⟨v3, rfl⟩, G3⟩
  have C3 := hide ((G3.out.block _ (block_lt C2.out)).trans C2.out)
  have B3 := hide (B2.out.trans (G3.out.mono B2.out.size))
  have y7 : w3.cell? ⟨w.heap.size, 7, none⟩ = some (.slice none 0 0) := block_cell C3.out 7
  clear y6 G3
  go_wp2_with fail
  refine (HV.out _ _).mono ?_
  rintro e w4 ⟨⟨v4, rfl⟩, rfl⟩
  go_wp2
  go_end0
  exact ⟨⟨_, rfl⟩, B3.out⟩
end Go.Proofs.Ytbokmgfdmpejpaa
