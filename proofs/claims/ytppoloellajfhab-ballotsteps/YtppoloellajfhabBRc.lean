import Derived.Test.YtppoloellajfhabBRb
namespace Go.Proofs.Ytppoloellajfhab
open Go.RowKit

set_option maxRecDepth 10000 in
set_option maxHeartbeats 800000 in
theorem refNext_no {w : World} {p : Nat} (n m : Int) 
    (hRk : ∀ W, Below w.heap.size w W → Calls Try.prog 37 #[.pointer (some ⟨p, 0, none⟩), .agg #[.int .u64 n, .int .i64 m]] W (RNewP W (.int .u64 0) [⟨ballotN, 0⟩] 181)) :
    Calls Try.prog 35 #[.pointer (some ⟨p, 0, none⟩), .agg #[.int .u64 n, .int .i64 m]] w (RNewP w (.agg #[.int .u64 0, .int .i64 0]) [⟨ballotN, 0⟩] 181) := by
  obtain ⟨W1, hW1⟩ : ∃ W1, ((w.alloc (.cells #[.int .u64 n, .int .i64 m] 47)).alloc (.cells #[.int .u64 0, .int .i64 0] 47)).alloc (.cells #[.slice none 0 0, .int .i64 0] 63) = W1 := ⟨_, rfl⟩
  have B1 : Hid (Below w.heap.size w W1) := by rw [← hW1]; exact (((Below.refl _ w).alloc (Nat.le_refl _) _).alloc (by simp) _).alloc (by simp; omega) _
  obtain ⟨pb, hpb⟩ : ∃ p, w.heap.size = p := ⟨_, rfl⟩
  obtain ⟨pr, hpr⟩ : ∃ p, w.heap.size + 1 = p := ⟨_, rfl⟩
  obtain ⟨pf, hpf⟩ : ∃ p, w.heap.size + 1 + 1 = p := ⟨_, rfl⟩
  obtain ⟨t1, t2, t3⟩ := three w (.cells #[.int .u64 n, .int .i64 m] 47) (.cells #[.int .u64 0, .int .i64 0] 47) (.cells #[.slice none 0 0, .int .i64 0] 63)
  rw [hW1, hpb] at t1
  rw [hW1, hpr] at t2
  rw [hW1, hpf] at t3
  have q0 := block_cell t1 0
  have q1 := block_cell t1 1
  have HPF : Hid (w.heap.size ≤ pr ∧ w.heap.size ≤ pf ∧ pr ≠ pf) := by show _ ∧ _ ∧ _; omega
  have HT2 := hide t2
  have HT3 := hide t3
  have HRK := hide (hRk W1 B1.out)
  unfold RNewP at HRK
  have HNO := hide none0x
  have HW1 := hide hW1
  have HPB := hide hpb
  have HPRE := hide hpr
  have HPFE := hide hpf
  clear hW1 hpb hpr hpf t1 t2 t3 hRk
  go_enter Try.func35, Try.ntmps35
  go_upto_region 1 with fail
  rw [HW1.out, HPFE.out, HPRE.out, HPB.out]
  go_wp2_with fail
  refine HRK.out.mono ?_
  rintro e w2 ⟨fo, fc, rfl, G2⟩
  obtain ⟨⟨bb, off, hf⟩, b2⟩ := G2.out
  go_upto_region 2 with fail
  obtain ⟨W3, hW3⟩ : ∃ V8, w2.alloc (.cells #[.slice fo 1 fc, .int .i64 181] 63) = V8 := ⟨_, rfl⟩
  have b3 : Below w2.heap.size w2 W3 := by rw [← hW3]; exact (Below.refl _ _).alloc (Nat.le_refl _) _
  have y := alloc_atK w2 (.cells #[.slice fo 1 fc, .int .i64 181] 63)
  rw [hW3] at y
  rw [hW3]
  have hp7 : W1.heap.size ≤ w2.heap.size := b2.size
  have hf3 := fv_below ⟨bb, off, hf⟩ b3
  generalize w2.heap.size = p7 at *
  have b23 : Below W1.heap.size W1 W3 := b2.trans (b3.mono hp7)
  have HS3 : Hid (Below w.heap.size w W3 ∧ W3.heap[pr]? = some (.cells #[.int .u64 0, .int .i64 0] 47 (0, 0)) ∧ W3.heap[pf]? = some (.cells #[.slice none 0 0, .int .i64 0] 63 (0, 0)) ∧ W3.heap[p7]? = some (.cells #[.slice fo 1 fc, .int .i64 181] 63 (0, 0)) ∧ ∃ b off, FV W3.heap.size W3 fo [⟨ballotN, 0⟩] b off) :=
    ⟨B1.out.trans (b23.mono B1.out.size), (b23.block _ (block_lt HT2.out)).trans HT2.out, (b23.block _ (block_lt HT3.out)).trans HT3.out, y, hf3⟩
  have HNE : Hid (p7 ≠ pr ∧ p7 ≠ pf) := ⟨fun e => by have := block_lt HT2.out; omega, fun e => by have := block_lt HT3.out; omega⟩
  have y0 := block_cell y 0
  have y1 := block_cell y 1
  clear hf hf3 b2 b3 b23 y hW3 G2 q0 q1 hp7 HRK
  go_upto_region 3 with fail
  refine region_assign1 (fun b V => Hid (Below w.heap.size w V ∧ V.heap[pr]? = some (.cells #[.int .u64 0, .int .i64 0] 47 (0, 0)) ∧ V.heap[pf]? = some (.cells (if b = true then #[.slice fo 1 fc, .int .i64 181] else #[.slice none 0 0, .int .i64 0]) 63 (0, 0)) ∧ V.heap[p7]? = some (.cells #[.slice fo 1 fc, .int .i64 181] 63 (0, 0)) ∧ ∃ b off, FV V.heap.size V fo [⟨ballotN, 0⟩] b off)) 3 [(18, .agg #[.int .u64 0, .int .i64 0]), (19, .agg #[.slice fo 1 fc, .int .i64 181])] _ (by kernel_rfl) (by decide) (by kernel_rfl) (by kernel_rfl) (by kernel_rfl) rfl (show Hid _ from ⟨HS3.out.1.drew, HS3.out.2.1, HS3.out.2.2.1, HS3.out.2.2.2.1, fv_below HS3.out.2.2.2.2 (Below.refl _ W3).drew⟩) ?_ (fun V2 HV2 => ?_)
  · simp only [putAll, Act.put, List.setIfInBounds_toArray, List.set_cons_zero, List.set_cons_succ]
    repeat' (first | exact AllFro.nil | refine AllFro.off (by decide) (fun b => ?_) ?_ | refine AllFro.at_ (by decide) ?_ ?_)
    all_goals first
      | (refine stepTo_yes (by rfl) (fun V hV K hK => ?_)
         have z0 := block_cell hV.out.2.1 0
         have z1 := block_cell hV.out.2.1 1
         have z2 := block_free hV.out.2.1 0
         have z3 := block_free hV.out.2.1 1
         have z4 := block_cell hV.out.2.2.2.1 0
         have z5 := block_cell hV.out.2.2.2.1 1
         have FIN := hide (And.intro (two_below hV.out.1 HPF.out.1 (.int .u64 0) (.int .i64 0)) (And.intro (set2_blk hV.out.2.1 (.int .u64 0) (.int .i64 0)) (And.intro (((set2_grown V pr (.int .u64 0) (.int .i64 0)).block pf (block_lt hV.out.2.2.1) (fun e => HPF.out.2.2 (by cases e; rfl))).trans hV.out.2.2.1) (And.intro (((set2_grown V pr (.int .u64 0) (.int .i64 0)).block p7 (block_lt hV.out.2.2.2.1) (fun e => HNE.out.1 (by cases e; rfl))).trans hV.out.2.2.2.1) (fv_set2 hV.out.2.2.2.2 hV.out.2.1 (nostr_int _ _ _ _) (.int .u64 0) (.int .i64 0))))))
         go_simp
         first
           | exact hK.out _ hV
           | exact hK.out _ FIN)
      | (refine ⟨by rfl, fun V hV K hK => ?_⟩
         have hr : V.heap[pf]? = some (.cells #[.slice none 0 0, .int .i64 0] 63 (0, 0)) := hV.out.2.2.1
         have z0 := block_cell hr 0
         have z1 := block_cell hr 1
         have z2 := block_free hr 0
         have z3 := block_free hr 1
         have FIN := hide (And.intro (two_below hV.out.1 HPF.out.2.1 (.slice fo 1 fc) (.int .i64 181)) (And.intro (((set2_grown V pf (.slice fo 1 fc) (.int .i64 181)).block pr (block_lt hV.out.2.1) (fun e => HPF.out.2.2 (by cases e; rfl))).trans hV.out.2.1) (And.intro (set2_blk hr (.slice fo 1 fc) (.int .i64 181)) (And.intro (((set2_grown V pf (.slice fo 1 fc) (.int .i64 181)).block p7 (block_lt hV.out.2.2.2.1) (fun e => HNE.out.2 (by cases e; rfl))).trans hV.out.2.2.2.1) (fv_set2 hV.out.2.2.2.2 hr (nostr_fault _ _ _ _ _) (.slice fo 1 fc) (.int .i64 181))))))
         clear hr
         go_simp
         exact hK.out _ FIN)
  simp only [putAll, Act.put, List.setIfInBounds_toArray, List.set_cons_zero, List.set_cons_succ]
  have hr : V2.heap[pf]? = some (.cells #[.slice fo 1 fc, .int .i64 181] 63 (0, 0)) := HV2.out.2.2.1
  go_wp2
  have z0 := block_cell hr 0
  have z1 := block_cell hr 1
  have z2 := block_cell HV2.out.2.1 0
  have z3 := block_cell HV2.out.2.1 1
  exact bodyPost_ret (v := .tuple #[.agg #[.int .u64 0, .int .i64 0], .agg #[.slice fo 1 fc, .int .i64 181]]) (by simp [results, Try.results35, go_sem, z0, z1, z2, z3]) rfl (by unfold RNewP; exact ⟨fo, fc, rfl, HV2.out.2.2.2.2, HV2.out.1⟩)
end Go.Proofs.Ytppoloellajfhab
