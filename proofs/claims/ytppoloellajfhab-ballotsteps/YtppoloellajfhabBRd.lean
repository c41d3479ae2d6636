import Derived.Test.YtppoloellajfhabBRc
namespace Go.Proofs.Ytppoloellajfhab
open Go.RowKit

set_option maxRecDepth 10000 in
set_option maxHeartbeats 800000 in
theorem refNext_end {w : World} {p : Nat} (n m : Int) {r : Int}
    (hwr : IntKind.u64.wrap (r + 1) = r + 1)
    (hRk : ∀ W, Below w.heap.size w W → Calls Try.prog 37 #[.pointer (some ⟨p, 0, none⟩), .agg #[.int .u64 n, .int .i64 m]] W (RNewP W (.int .u64 r) [] 0))
    (hRd : ∀ W, Below w.heap.size w W → Calls Try.prog 38 #[.pointer (some ⟨p, 0, none⟩), .int .u64 (r + 1)] W (RNewP W (.agg #[.int .u64 0, .int .i64 0]) [⟨ballotN, 0⟩] 184)) :
    Calls Try.prog 35 #[.pointer (some ⟨p, 0, none⟩), .agg #[.int .u64 n, .int .i64 m]] w (RNewP w (.agg #[.int .u64 0, .int .i64 0]) [⟨ballotN, 0⟩] 183) := by
  obtain ⟨W1, hW1⟩ : ∃ W1, ((w.alloc (.cells #[.int .u64 n, .int .i64 m] 47)).alloc (.cells #[.int .u64 0, .int .i64 0] 47)).alloc (.cells #[.slice none 0 0, .int .i64 0] 63) = W1 := ⟨_, rfl⟩
  have B1 : Hid (Below w.heap.size w W1) := by rw [← hW1]; exact (((Below.refl _ w).alloc (Nat.le_refl _) _).alloc (by simp) _).alloc (by simp; omega) _
  obtain ⟨pb, hpb⟩ : ∃ p, w.heap.size = p := ⟨_, rfl⟩
  obtain ⟨pr, hpr⟩ : ∃ p, w.heap.size + 1 = p := ⟨_, rfl⟩
  obtain ⟨pf, hpf⟩ : ∃ p, w.heap.size + 1 + 1 = p := ⟨_, rfl⟩
  obtain ⟨t1, t2, t3⟩ := three w (.cells #[.int .u64 n, .int .i64 m] 47) (.cells #[.int .u64 0, .int .i64 0] 47) (.cells #[.slice none 0 0, .int .i64 0] 63)
  rw [hW1, hpb] at t1
  rw [hW1, hpr] at t2
  rw [hW1, hpf] at t3
  have q0 := block_cell t1 0
  have q1 := block_cell t1 1
  have HPF : Hid (w.heap.size ≤ pr ∧ w.heap.size ≤ pf ∧ pr ≠ pf) := by show _ ∧ _ ∧ _; omega
  have HT2 := hide t2
  have HT3 := hide t3
  have HRK := hide (hRk W1 B1.out)
  unfold RNewP at HRK
  have HNO := hide none0x
  have HW1 := hide hW1
  have HPB := hide hpb
  have HPRE := hide hpr
  have HPFE := hide hpf
  clear hW1 hpb hpr hpf t1 t2 t3 hRk
  go_enter Try.func35, Try.ntmps35
  go_upto_region 1 with fail
  rw [HW1.out, HPFE.out, HPRE.out, HPB.out]
  go_wp2_with fail
  refine HRK.out.mono ?_
  rintro e w2 ⟨fo, fc, rfl, G2⟩
  obtain ⟨_, b2⟩ := G2.out
  go_upto_region 2 with fail
  obtain ⟨W3, hW3⟩ : ∃ V8, w2.alloc (.cells #[.slice fo 0 fc, .int .i64 0] 63) = V8 := ⟨_, rfl⟩
  have b3 : Below w2.heap.size w2 W3 := by rw [← hW3]; exact (Below.refl _ _).alloc (Nat.le_refl _) _
  have y := alloc_atK w2 (.cells #[.slice fo 0 fc, .int .i64 0] 63)
  rw [hW3] at y
  rw [hW3]
  have hp7 : W1.heap.size ≤ w2.heap.size := b2.size
  generalize w2.heap.size = p7 at *
  have b23 : Below W1.heap.size W1 W3 := b2.trans (b3.mono hp7)
  have B3 := hide b23
  have Y7 := hide y
  have HNE : Hid (p7 ≠ pr ∧ p7 ≠ pf ∧ W1.heap.size ≤ p7) := ⟨fun e => by have := block_lt HT2.out; omega, fun e => by have := block_lt HT3.out; omega, hp7⟩
  have y0 := block_cell y 0
  have y1 := block_cell y 1
  have HRD := hide (hRd W3 (B1.out.trans (b23.mono B1.out.size)))
  unfold RNewP at HRD
  have hrw : IntKind.u64.wrap (r + 1) = r + 1 := hwr
  clear b2 b3 b23 y hW3 G2 q0 q1 hp7 HRK hRd
  go_wp2_with fail
  refine HRD.out.mono ?_
  rintro e w4 ⟨fo4, fc4, rfl, G4⟩
  obtain ⟨hf4, b4⟩ := G4.out
  have Y4 := (b4.block _ (block_lt Y7.out)).trans Y7.out
  have B4 := B3.out.trans (b4.mono B3.out.size)
  have z0 := block_cell Y4 0
  have z1 := block_cell Y4 1
  have z2 := block_free Y4 0
  have z3 := block_free Y4 1
  have hp7' : p7 < w4.heap.size := block_lt Y4
  go_upto_region 5 with fail
  have b5 := two_below B4 HNE.out.2.2 (.slice fo4 1 fc4) (.int .i64 184)
  have Y5 := set2_blk Y4 (.slice fo4 1 fc4) (.int .i64 184)
  have F5 := fv_set2 hf4 Y4 (nostr_fault _ _ _ _ _) (.slice fo4 1 fc4) (.int .i64 184)
  obtain ⟨W5, hW5⟩ : ∃ V8, (w4.setCell ⟨p7, 0, none⟩ (.slice fo4 1 fc4)).setCell ⟨p7, 1, none⟩ (.int .i64 184) = V8 := ⟨_, rfl⟩
  have hsz : W5.heap.size = w4.heap.size := by rw [← hW5]; simp
  rw [hW5] at b5 Y5 F5
  rw [hW5]
  obtain ⟨W6, hW6⟩ : ∃ V8, W5.alloc (.cells #[.int .u64 0, .int .i64 0] 47) = V8 := ⟨_, rfl⟩
  have b6 : Below W5.heap.size W5 W6 := by rw [← hW6]; exact (Below.refl _ _).alloc (Nat.le_refl _) _
  have Y6 := (b6.block _ (block_lt Y5)).trans Y5
  have B6 := b5.trans (b6.mono b5.size)
  have F6 := fv_below F5 b6
  have y8 := alloc_atK W5 (.cells #[.int .u64 0, .int .i64 0] 47)
  rw [hW6, hsz] at y8
  rw [hW6]
  have N8 : Hid (w4.heap.size ≠ pr ∧ w4.heap.size ≠ pf ∧ w4.heap.size ≠ p7 ∧ W1.heap.size ≤ w4.heap.size) := ⟨fun e => by have := block_lt HT2.out; have := B4.size; omega, fun e => by have := block_lt HT3.out; have := B4.size; omega, fun e => by omega, B4.size⟩
  have HS6 : Hid (Below w.heap.size w W6 ∧ W6.heap[pr]? = some (.cells #[.int .u64 0, .int .i64 0] 47 (0, 0)) ∧ W6.heap[pf]? = some (.cells #[.slice none 0 0, .int .i64 0] 63 (0, 0)) ∧ W6.heap[w4.heap.size]? = some (.cells #[.int .u64 0, .int .i64 0] 47 (0, 0))) :=
    ⟨B1.out.trans (B6.mono B1.out.size), (B6.block _ (block_lt HT2.out)).trans HT2.out, (B6.block _ (block_lt HT3.out)).trans HT3.out, y8⟩
  have u1 := block_cell Y6 1
  clear b5 Y5 hW5 hsz hW6 b6 B6 y8 z0 z1 z2 z3 y0 y1 hf4 F5 G4 Y4 B4 b4 hp7'
  generalize w4.heap.size = p8 at *
  clear HNE N8 F6 Y6
  have HNW : Hid (∀ W, Calls Try.prog 51 #[.string ballotN, .int .i64 0, .int .i64 183] W (FvP W [⟨ballotN, 0⟩] 183)) := fun W => new0 ballotN 0 183 W
  unfold FvP at HNW
  unfold ballotN at *
  go_wp2_with fail
  refine (HNW.out _).mono ?_
  rintro e w7 ⟨gi, gc, rfl, G7⟩
  obtain ⟨b, off, hf, hb3⟩ := G7.out
  have r1 := (hb3.block _ (block_lt HS6.out.2.1)).trans HS6.out.2.1
  have r2 := (hb3.block _ (block_lt HS6.out.2.2.1)).trans HS6.out.2.2.1
  have FIN := hide (both_set (HS6.out.1.trans (hb3.mono HS6.out.1.size)) HPF.out.1 HPF.out.2.1 HPF.out.2.2 r1 r2 (nostr_int _ _ _ _) (nostr_fault _ _ _ _ _) ⟨b, off, hf⟩ (.int .u64 0) (.int .i64 0) (.slice gi 1 gc) (.int .i64 183))
  have y0 := block_cell r1 0
  have y1 := block_cell r1 1
  have y2 := block_free r1 0
  have y3 := block_free r1 1
  have y4 := block_cell r2 0
  have y5 := block_cell r2 1
  have y6 := block_free r2 0
  have y7 := block_free r2 1
  have hne1 : ¬ pr = pf := HPF.out.2.2
  have hne2 : ¬ pf = pr := fun e => HPF.out.2.2 e.symm
  clear r1 r2 hb3 G7 hf HNW
  go_wp2
  have z0 := block_cell FIN.out.2.2.1 0
  have z1 := block_cell FIN.out.2.2.1 1
  have z2 := block_cell FIN.out.2.2.2 0
  have z3 := block_cell FIN.out.2.2.2 1
  exact bodyPost_ret (v := .tuple #[.agg #[.int .u64 0, .int .i64 0], .agg #[.slice gi 1 gc, .int .i64 183]]) (by simp [results, Try.results35, go_sem, z0, z1, z2, z3]) rfl (by unfold RNewP; exact ⟨gi, gc, rfl, FIN.out.1, FIN.out.2.1⟩)
set_option maxRecDepth 10000 in
set_option maxHeartbeats 800000 in
theorem refNext_go {w : World} {p : Nat} (n m : Int) {r xn xm : Int}
    (hwr : IntKind.u64.wrap (r + 1) = r + 1)
    (hRk : ∀ W, Below w.heap.size w W → Calls Try.prog 37 #[.pointer (some ⟨p, 0, none⟩), .agg #[.int .u64 n, .int .i64 m]] W (RNewP W (.int .u64 r) [] 0))
    (hRd : ∀ W, Below w.heap.size w W → Calls Try.prog 38 #[.pointer (some ⟨p, 0, none⟩), .int .u64 (r + 1)] W (RNewP W (.agg #[.int .u64 xn, .int .i64 xm]) [] 0)) :
    Calls Try.prog 35 #[.pointer (some ⟨p, 0, none⟩), .agg #[.int .u64 n, .int .i64 m]] w (RNewP w (.agg #[.int .u64 xn, .int .i64 xm]) [] 0) := by
  obtain ⟨W1, hW1⟩ : ∃ W1, ((w.alloc (.cells #[.int .u64 n, .int .i64 m] 47)).alloc (.cells #[.int .u64 0, .int .i64 0] 47)).alloc (.cells #[.slice none 0 0, .int .i64 0] 63) = W1 := ⟨_, rfl⟩
  have B1 : Hid (Below w.heap.size w W1) := by rw [← hW1]; exact (((Below.refl _ w).alloc (Nat.le_refl _) _).alloc (by simp) _).alloc (by simp; omega) _
  obtain ⟨pb, hpb⟩ : ∃ p, w.heap.size = p := ⟨_, rfl⟩
  obtain ⟨pr, hpr⟩ : ∃ p, w.heap.size + 1 = p := ⟨_, rfl⟩
  obtain ⟨pf, hpf⟩ : ∃ p, w.heap.size + 1 + 1 = p := ⟨_, rfl⟩
  obtain ⟨t1, t2, t3⟩ := three w (.cells #[.int .u64 n, .int .i64 m] 47) (.cells #[.int .u64 0, .int .i64 0] 47) (.cells #[.slice none 0 0, .int .i64 0] 63)
  rw [hW1, hpb] at t1
  rw [hW1, hpr] at t2
  rw [hW1, hpf] at t3
  have q0 := block_cell t1 0
  have q1 := block_cell t1 1
  have HPF : Hid (w.heap.size ≤ pr ∧ w.heap.size ≤ pf ∧ pr ≠ pf) := by show _ ∧ _ ∧ _; omega
  have HT2 := hide t2
  have HT3 := hide t3
  have HRK := hide (hRk W1 B1.out)
  unfold RNewP at HRK
  have HNO := hide none0x
  have HW1 := hide hW1
  have HPB := hide hpb
  have HPRE := hide hpr
  have HPFE := hide hpf
  clear hW1 hpb hpr hpf t1 t2 t3 hRk
  go_enter Try.func35, Try.ntmps35
  go_upto_region 1 with fail
  rw [HW1.out, HPFE.out, HPRE.out, HPB.out]
  go_wp2_with fail
  refine HRK.out.mono ?_
  rintro e w2 ⟨fo, fc, rfl, G2⟩
  obtain ⟨_, b2⟩ := G2.out
  go_upto_region 2 with fail
  obtain ⟨W3, hW3⟩ : ∃ V8, w2.alloc (.cells #[.slice fo 0 fc, .int .i64 0] 63) = V8 := ⟨_, rfl⟩
  have b3 : Below w2.heap.size w2 W3 := by rw [← hW3]; exact (Below.refl _ _).alloc (Nat.le_refl _) _
  have y := alloc_atK w2 (.cells #[.slice fo 0 fc, .int .i64 0] 63)
  rw [hW3] at y
  rw [hW3]
  have hp7 : W1.heap.size ≤ w2.heap.size := b2.size
  generalize w2.heap.size = p7 at *
  have b23 : Below W1.heap.size W1 W3 := b2.trans (b3.mono hp7)
  have B3 := hide b23
  have Y7 := hide y
  have HNE : Hid (p7 ≠ pr ∧ p7 ≠ pf ∧ W1.heap.size ≤ p7) := ⟨fun e => by have := block_lt HT2.out; omega, fun e => by have := block_lt HT3.out; omega, hp7⟩
  have y0 := block_cell y 0
  have y1 := block_cell y 1
  have HRD := hide (hRd W3 (B1.out.trans (b23.mono B1.out.size)))
  unfold RNewP at HRD
  have hrw : IntKind.u64.wrap (r + 1) = r + 1 := hwr
  clear b2 b3 b23 y hW3 G2 q0 q1 hp7 HRK hRd
  go_wp2_with fail
  refine HRD.out.mono ?_
  rintro e w4 ⟨fo4, fc4, rfl, G4⟩
  obtain ⟨hf4, b4⟩ := G4.out
  have Y4 := (b4.block _ (block_lt Y7.out)).trans Y7.out
  have B4 := B3.out.trans (b4.mono B3.out.size)
  have z0 := block_cell Y4 0
  have z1 := block_cell Y4 1
  have z2 := block_free Y4 0
  have z3 := block_free Y4 1
  have hp7' : p7 < w4.heap.size := block_lt Y4
  go_upto_region 5 with fail
  have b5 := two_below B4 HNE.out.2.2 (.slice fo4 0 fc4) (.int .i64 0)
  have Y5 := set2_blk Y4 (.slice fo4 0 fc4) (.int .i64 0)
  have F5 := fv_set2 hf4 Y4 (nostr_fault _ _ _ _ _) (.slice fo4 0 fc4) (.int .i64 0)
  obtain ⟨W5, hW5⟩ : ∃ V8, (w4.setCell ⟨p7, 0, none⟩ (.slice fo4 0 fc4)).setCell ⟨p7, 1, none⟩ (.int .i64 0) = V8 := ⟨_, rfl⟩
  have hsz : W5.heap.size = w4.heap.size := by rw [← hW5]; simp
  rw [hW5] at b5 Y5 F5
  rw [hW5]
  obtain ⟨W6, hW6⟩ : ∃ V8, W5.alloc (.cells #[.int .u64 xn, .int .i64 xm] 47) = V8 := ⟨_, rfl⟩
  have b6 : Below W5.heap.size W5 W6 := by rw [← hW6]; exact (Below.refl _ _).alloc (Nat.le_refl _) _
  have Y6 := (b6.block _ (block_lt Y5)).trans Y5
  have B6 := b5.trans (b6.mono b5.size)
  have F6 := fv_below F5 b6
  have y8 := alloc_atK W5 (.cells #[.int .u64 xn, .int .i64 xm] 47)
  rw [hW6, hsz] at y8
  rw [hW6]
  have N8 : Hid (w4.heap.size ≠ pr ∧ w4.heap.size ≠ pf ∧ w4.heap.size ≠ p7 ∧ W1.heap.size ≤ w4.heap.size) := ⟨fun e => by have := block_lt HT2.out; have := B4.size; omega, fun e => by have := block_lt HT3.out; have := B4.size; omega, fun e => by omega, B4.size⟩
  have HS6 : Hid (Below w.heap.size w W6 ∧ W6.heap[pr]? = some (.cells #[.int .u64 0, .int .i64 0] 47 (0, 0)) ∧ W6.heap[pf]? = some (.cells #[.slice none 0 0, .int .i64 0] 63 (0, 0)) ∧ W6.heap[w4.heap.size]? = some (.cells #[.int .u64 xn, .int .i64 xm] 47 (0, 0))) :=
    ⟨B1.out.trans (B6.mono B1.out.size), (B6.block _ (block_lt HT2.out)).trans HT2.out, (B6.block _ (block_lt HT3.out)).trans HT3.out, y8⟩
  have u1 := block_cell Y6 1
  clear b5 Y5 hW5 hsz hW6 b6 B6 y8 z0 z1 z2 z3 y0 y1 hf4 F5 G4 Y4 B4 b4 hp7'
  generalize w4.heap.size = p8 at *
  clear HNE F6 Y6
  have K8 : Hid (p8 ≠ pr ∧ p8 ≠ pf) := ⟨N8.out.1, N8.out.2.1⟩
  clear N8
  go_upto_region 7 with fail
  refine region_assign1 (fun b V => Hid (Below w.heap.size w V ∧ V.heap[pr]? = some (.cells (if b = true then #[.int .u64 xn, .int .i64 xm] else #[.int .u64 0, .int .i64 0]) 47 (0, 0)) ∧ V.heap[pf]? = some (.cells #[.slice none 0 0, .int .i64 0] 63 (0, 0)) ∧ V.heap[p8]? = some (.cells #[.int .u64 xn, .int .i64 xm] 47 (0, 0)))) 2 [(32, .agg #[.int .u64 xn, .int .i64 xm]), (33, .agg #[.slice none 0 0, .int .i64 0])] _ (by kernel_rfl) (by decide) (by kernel_rfl) (by kernel_rfl) (by kernel_rfl) rfl (show Hid _ from ⟨HS6.out.1.drew, HS6.out.2.1, HS6.out.2.2.1, HS6.out.2.2.2⟩) ?_ (fun V2 HV2 => ?_)
  · simp only [putAll, Act.put, List.setIfInBounds_toArray, List.set_cons_zero, List.set_cons_succ]
    repeat' (first | exact AllFro.nil | refine AllFro.off (by decide) (fun b => ?_) ?_ | refine AllFro.at_ (by decide) ?_ ?_)
    all_goals first
      | (refine stepTo_yes (by rfl) (fun V hV K hK => ?_)
         have y0 := block_cell hV.out.2.2.1 0
         have y1 := block_cell hV.out.2.2.1 1
         have y2 := block_free hV.out.2.2.1 0
         have y3 := block_free hV.out.2.2.1 1
         have y4 := block_cell hV.out.2.2.2 0
         have y5 := block_cell hV.out.2.2.2 1
         have FIN := hide (And.intro (two_below hV.out.1 HPF.out.2.1 (.slice none 0 0) (.int .i64 0)) (And.intro (((set2_grown V pf (.slice none 0 0) (.int .i64 0)).block pr (block_lt hV.out.2.1) (fun e => HPF.out.2.2 (by cases e; rfl))).trans hV.out.2.1) (And.intro (set2_blk hV.out.2.2.1 (.slice none 0 0) (.int .i64 0)) (((set2_grown V pf (.slice none 0 0) (.int .i64 0)).block p8 (block_lt hV.out.2.2.2) (fun e => K8.out.2 (by cases e; rfl))).trans hV.out.2.2.2))))
         go_simp
         first
           | exact hK.out _ hV
           | exact hK.out _ FIN
           | (go_at_call 52
              refine (HNO.out V).mono ?_
              rintro e V' ⟨rfl, hw3⟩
              have B3 : Below V.heap.size V V' := by rw [hw3]; exact (Below.refl _ _).alloc (Nat.le_refl _) _
              exact hK.out _ ⟨hV.out.1.trans (B3.mono hV.out.1.size), (B3.block _ (block_lt hV.out.2.1)).trans hV.out.2.1, (B3.block _ (block_lt hV.out.2.2.1)).trans hV.out.2.2.1, (B3.block _ (block_lt hV.out.2.2.2)).trans hV.out.2.2.2⟩))
      | (refine ⟨by rfl, fun V hV K hK => ?_⟩
         have hr : V.heap[pr]? = some (.cells #[.int .u64 0, .int .i64 0] 47 (0, 0)) := hV.out.2.1
         have y0 := block_cell hr 0
         have y1 := block_cell hr 1
         have y2 := block_free hr 0
         have y3 := block_free hr 1
         have FIN := hide (And.intro (two_below hV.out.1 HPF.out.1 (.int .u64 xn) (.int .i64 xm)) (And.intro (set2_blk hr (.int .u64 xn) (.int .i64 xm)) (And.intro (((set2_grown V pr (.int .u64 xn) (.int .i64 xm)).block pf (block_lt hV.out.2.2.1) (fun e => HPF.out.2.2 (by cases e; rfl))).trans hV.out.2.2.1) (((set2_grown V pr (.int .u64 xn) (.int .i64 xm)).block p8 (block_lt hV.out.2.2.2) (fun e => K8.out.1 (by cases e; rfl))).trans hV.out.2.2.2))))
         clear hr
         go_simp
         exact hK.out _ FIN)
  simp only [putAll, Act.put, List.setIfInBounds_toArray, List.set_cons_zero, List.set_cons_succ]
  have hr : V2.heap[pr]? = some (.cells #[.int .u64 xn, .int .i64 xm] 47 (0, 0)) := HV2.out.2.1
  go_wp2
  have z0 := block_cell hr 0
  have z1 := block_cell hr 1
  have z2 := block_cell HV2.out.2.2.1 0
  have z3 := block_cell HV2.out.2.2.1 1
  exact bodyPost_ret (v := .tuple #[.agg #[.int .u64 xn, .int .i64 xm], .agg #[.slice none 0 0, .int .i64 0]]) (by simp [results, Try.results35, go_sem, z0, z1, z2, z3]) rfl (by unfold RNewP; exact ⟨none, 0, rfl, ⟨0, 0, FV.nil _ _ _ _ _⟩, HV2.out.1⟩)
end Go.Proofs.Ytppoloellajfhab
