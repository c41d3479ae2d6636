import Derived.Test.YtdbolfnldbopoaaXfC
namespace Go.Proofs.Ytdbolfnldbopoaa
open Go.RowKit

set_option maxRecDepth 10000 in
set_option maxHeartbeats 400000 in
theorem rsup_no (c : Cf) (me : Int) (L : List Lk) (code : Int) (hc : code ≠ 0) (hN : ∀ W, Calls Try.prog 15 #[.agg c.cells, .int .i64 me] W (RNewP W (.pointer none) L code)) (w : World) : Calls Try.prog 5 #[.agg c.cells, .int .i64 me] w (RNewP w (.pointer none) L code) := by
  unfold RNewP at *
  obtain ⟨W1, hW1⟩ : ∃ W1, (w.alloc (.cells c.cells 24)).alloc (.cells #[.slice none 0 0, .int .i64 0] 33) = W1 := ⟨_, rfl⟩
  have hs1 : (w.alloc (.cells c.cells 24)).heap.size = w.heap.size + 1 := by simp
  have Q1 : Hid (FBox (w.heap.size + 1) W1) := by rw [← hW1, ← hs1]; exact fbox_new _
  have B1 : Hid (Below w.heap.size w W1) := by rw [← hW1]; exact ((Below.refl _ w).alloc (Nat.le_refl _) _).alloc (by simp) _
  have C1 : W1.heap[w.heap.size]? = some (.cells c.cells 24 (0, 0)) := by
    rw [← hW1]
    exact (Below.heap_alloc _ _ _ (by simp)).trans (alloc_atK _ _)
  obtain ⟨z0, z1, z2, z3, z4, z5, z6, z7, z8, z9⟩ := cfg_cells C1
  have HNW := hide (hN W1)
  have HAN : Hid (∀ (fo : Option Addr) (fc : Nat) W, Calls Try.prog 16 #[.agg #[.slice fo L.length fc, .int .i64 code]] W fun e w' => e = .returned (.bool true) ∧ Hid (Below W.heap.size W w')) := fun fo fc W => (any0 fo L.length fc code (fun h => absurd h hc) W).mono fun _ _ ⟨h1, h2⟩ => ⟨by rw [h1]; simp [hc], h2⟩
  clear hs1 C1 hN hc
  unfold Cf.cells at *
  generalize c.f = f at *
  generalize c.mb = mb at *
  generalize (c.delay : Int) = d at *
  generalize (c.win : Int) = wn at *
  generalize (c.every : Int) = ev at *
  generalize (c.beat : Int) = bt at *
  generalize (c.ep : Int) = ep at *
  generalize (c.em : Int) = em at *
  generalize (c.mn : Int) = mn at *
  generalize (c.ms : Int) = ms at *
  have HW1 := hide hW1
  clear hW1
  go_enter Try.func5, Try.ntmps5
  go_upto_region 1 with fail
  rw [HW1.out]
  clear HW1
  go_wp2_with fail
  refine HNW.out.mono ?_
  rintro e w2 ⟨fo, fc, rfl, G2⟩
  obtain ⟨W3, hW3⟩ : ∃ W3, w2.alloc (.cells #[.slice fo L.length fc, .int .i64 code] 33) = W3 := ⟨_, rfl⟩
  have b3 : Below w2.heap.size w2 W3 := by rw [← hW3]; exact (Below.refl _ _).alloc (Nat.le_refl _) _
  have C3 : Hid (W3.heap[w2.heap.size]? = some (.cells #[.slice fo L.length fc, .int .i64 code] 33 (0, 0))) := by rw [← hW3]; exact alloc_atK _ _
  have hb2 := G2.out.2
  have Q3 := hide ((Q1.out.kept hb2).kept b3)
  have B3 := hide ((B1.out.trans (hb2.mono B1.out.size)).trans (b3.mono (B1.out.trans (hb2.mono B1.out.size)).size))
  have x0 : W3.cell? ⟨w2.heap.size, 0, none⟩ = some (.slice fo L.length fc) := block_cell C3.out 0
  have x1 : W3.cell? ⟨w2.heap.size, 1, none⟩ = some (.int .i64 code) := block_cell C3.out 1
  have hxl := block_lt C3.out
  have F3 : Hid (∃ b off, FV W3.heap.size W3 fo L b off) := by
    obtain ⟨b, off, hf⟩ := G2.out.1
    exact ⟨b, off, (hf.below b3).wide b3.size⟩
  clear hb2 b3 Q1 B1 z0 z1 z2 z3 z4 z5 z6 z7 z8 z9
  have HW3 := hide hW3
  clear hW3
  go_upto_region 2 with fail
  rw [HW3.out]
  clear HW3
  generalize w2.heap.size = pf at *
  go_wp2_with fail
  refine (HAN.out fo fc W3).mono ?_
  rintro e w4 ⟨rfl, b4h⟩
  have b4 := b4h.out
  have Q4 := hide (Q3.out.kept b4)
  have B4 := hide (B3.out.trans (b4.mono B3.out.size))
  have C4 := hide ((b4.block _ (block_lt C3.out)).trans C3.out)
  have x4 : w4.cell? ⟨pf, 0, none⟩ = some (.slice fo L.length fc) := block_cell C4.out 0
  have x5 : w4.cell? ⟨pf, 1, none⟩ = some (.int .i64 code) := block_cell C4.out 1
  have hxl4 := block_lt C4.out
  obtain ⟨bb, ob, hf4⟩ := F3.out
  have hf5 : FV w4.drew.heap.size w4.drew fo L bb ob := (((hf4.below b4).wide b4.size).below ((Below.refl _ w4).drew)).wide (Nat.le_refl _)
  have r5 := Q4.out
  have B5 := B4
  have FIN := hide (box_fin (w := w) (w3 := w4.drew) (p := w.heap.size + 1) r5 (by omega) hf5 B5.out.drew)
  have y0 := block_cell r5 0
  have y1 := block_cell r5 1
  have g0 := block_free r5 0
  have g1 := block_free r5 1
  simp at y0 y1
  have hl5 := block_lt r5
  clear r5 hf5 B5 b4 b4h Q3 B3 x0 x1 hxl hf4 Q4 B4 C3 C4 F3 G2 HNW
  go_upto_region 3 with fail
  go_region
  all_goals go_wp2
  all_goals
    refine bodyPost_ret (v := .tuple #[.pointer none, .agg #[.slice fo L.length fc, .int .i64 code]]) (by simp [results, Try.results5, go_sem, y0, y1]) rfl ?_
    obtain ⟨h1, h2, -⟩ := FIN.out (.slice fo L.length fc) (.int .i64 code)
    exact ⟨fo, fc, rfl, h1, h2⟩
set_option maxRecDepth 10000 in
set_option maxHeartbeats 400000 in
theorem rsup_ok (c : Cf) (me : Int) (hN : ∀ W, Calls Try.prog 15 #[.agg c.cells, .int .i64 me] W fun e w' => ∃ h, RNewP W (.pointer (some ⟨h, 0, none⟩)) [] 0 e w' ∧ Hid (w'.heap[h]? = some (.cells c.cells 108 (0, 0)))) (w : World) : Calls Try.prog 5 #[.agg c.cells, .int .i64 me] w fun e w' => ∃ q, RNewP w (.pointer (some ⟨q, 0, none⟩)) [] 0 e w' ∧ Hid (∃ h, LiesAt w' q (rsupC h me) 67) := by
  unfold RNewP at *
  obtain ⟨W1, hW1⟩ : ∃ W1, (w.alloc (.cells c.cells 24)).alloc (.cells #[.slice none 0 0, .int .i64 0] 33) = W1 := ⟨_, rfl⟩
  have hs1 : (w.alloc (.cells c.cells 24)).heap.size = w.heap.size + 1 := by simp
  have Q1 : Hid (FBox (w.heap.size + 1) W1) := by rw [← hW1, ← hs1]; exact fbox_new _
  have B1 : Hid (Below w.heap.size w W1) := by rw [← hW1]; exact ((Below.refl _ w).alloc (Nat.le_refl _) _).alloc (by simp) _
  have C1 : W1.heap[w.heap.size]? = some (.cells c.cells 24 (0, 0)) := by
    rw [← hW1]
    exact (Below.heap_alloc _ _ _ (by simp)).trans (alloc_atK _ _)
  obtain ⟨z0, z1, z2, z3, z4, z5, z6, z7, z8, z9⟩ := cfg_cells C1
  have HNW := hide (hN W1)
  have HAN : Hid (∀ (fo : Option Addr) (fc : Nat) W, Calls Try.prog 16 #[.agg #[.slice fo 0 fc, .int .i64 0]] W fun e w' => e = .returned (.bool false) ∧ Hid (Below W.heap.size W w')) := fun fo fc W => any0 fo 0 fc 0 (fun _ => rfl) W
  clear hs1 C1 hN
  unfold Cf.cells at *
  generalize c.f = f at *
  generalize c.mb = mb at *
  generalize (c.delay : Int) = d at *
  generalize (c.win : Int) = wn at *
  generalize (c.every : Int) = ev at *
  generalize (c.beat : Int) = bt at *
  generalize (c.ep : Int) = ep at *
  generalize (c.em : Int) = em at *
  generalize (c.mn : Int) = mn at *
  generalize (c.ms : Int) = ms at *
  have HW1 := hide hW1
  clear hW1
  go_enter Try.func5, Try.ntmps5
  go_upto_region 1 with fail
  rw [HW1.out]
  clear HW1
  go_wp2_with fail
  refine HNW.out.mono ?_
  rintro e w2 ⟨g, ⟨fo, fc, rfl, G2⟩, X2⟩
  simp only [List.length_nil]
  obtain ⟨W3, hW3⟩ : ∃ W3, w2.alloc (.cells #[.slice fo 0 fc, .int .i64 0] 33) = W3 := ⟨_, rfl⟩
  have b3 : Below w2.heap.size w2 W3 := by rw [← hW3]; exact (Below.refl _ _).alloc (Nat.le_refl _) _
  have C3 : Hid (W3.heap[w2.heap.size]? = some (.cells #[.slice fo 0 fc, .int .i64 0] 33 (0, 0))) := by rw [← hW3]; exact alloc_atK _ _
  have hb2 := G2.out.2
  have Q3 := hide ((Q1.out.kept hb2).kept b3)
  have B3 := hide ((B1.out.trans (hb2.mono B1.out.size)).trans (b3.mono (B1.out.trans (hb2.mono B1.out.size)).size))
  have x0 : W3.cell? ⟨w2.heap.size, 0, none⟩ = some (.slice fo 0 fc) := block_cell C3.out 0
  have x1 : W3.cell? ⟨w2.heap.size, 1, none⟩ = some (.int .i64 0) := block_cell C3.out 1
  have hxl := block_lt C3.out
  have F3 : Hid (∃ b off, FV W3.heap.size W3 fo [] b off) := by
    obtain ⟨b, off, hf⟩ := G2.out.1
    exact ⟨b, off, (hf.below b3).wide b3.size⟩
  clear hb2 b3 Q1 B1 z0 z1 z2 z3 z4 z5 z6 z7 z8 z9
  have HW3 := hide hW3
  clear hW3
  go_upto_region 2 with fail
  rw [HW3.out]
  clear HW3
  generalize w2.heap.size = pf at *
  go_wp2_with fail
  refine (HAN.out fo fc W3).mono ?_
  rintro e w4 ⟨rfl, b4h⟩
  have b4 := b4h.out
  have Q4 := hide (Q3.out.kept b4)
  have B4 := hide (B3.out.trans (b4.mono B3.out.size))
  have C4 := hide ((b4.block _ (block_lt C3.out)).trans C3.out)
  have x4 : w4.cell? ⟨pf, 0, none⟩ = some (.slice fo 0 fc) := block_cell C4.out 0
  have x5 : w4.cell? ⟨pf, 1, none⟩ = some (.int .i64 0) := block_cell C4.out 1
  have hxl4 := block_lt C4.out
  have r5 := Q4.out
  have FIN : Hid (∃ h, LiesAt (((w4.drew.setCell ⟨w.heap.size + 1, 0, none⟩ (.slice fo 0 fc)).setCell ⟨w.heap.size + 1, 1, none⟩ (.int .i64 0)).alloc (.cells (rsupC g me).toArray 67)) w4.heap.size (rsupC h me) 67) := ⟨g, by
    have h := alloc_atK ((w4.drew.setCell ⟨w.heap.size + 1, 0, none⟩ (.slice fo 0 fc)).setCell ⟨w.heap.size + 1, 1, none⟩ (.int .i64 0)) (.cells (rsupC g me).toArray 67)
    rw [show ((w4.drew.setCell ⟨w.heap.size + 1, 0, none⟩ (.slice fo 0 fc)).setCell ⟨w.heap.size + 1, 1, none⟩ (.int .i64 0)).heap.size = w4.heap.size by simp] at h
    exact h⟩
  have FINB : Hid ((∃ b off, FV (((w4.drew.setCell ⟨w.heap.size + 1, 0, none⟩ (.slice fo 0 fc)).setCell ⟨w.heap.size + 1, 1, none⟩ (.int .i64 0)).alloc (.cells (rsupC g me).toArray 67)).heap.size (((w4.drew.setCell ⟨w.heap.size + 1, 0, none⟩ (.slice fo 0 fc)).setCell ⟨w.heap.size + 1, 1, none⟩ (.int .i64 0)).alloc (.cells (rsupC g me).toArray 67)) fo [] b off) ∧ Below w.heap.size w (((w4.drew.setCell ⟨w.heap.size + 1, 0, none⟩ (.slice fo 0 fc)).setCell ⟨w.heap.size + 1, 1, none⟩ (.int .i64 0)).alloc (.cells (rsupC g me).toArray 67))) := by
    obtain ⟨-, h2, -⟩ := box_fin (w := w) (w3 := w4.drew) (p := w.heap.size + 1) r5 (by omega) (FV.nil _ _ fo 0 0) B4.out.drew (.slice fo 0 fc) (.int .i64 0)
    exact ⟨⟨0, 0, FV.nil _ _ fo 0 0⟩, h2.alloc h2.size _⟩
  have y0 := block_cell r5 0
  have y1 := block_cell r5 1
  have g0 := block_free r5 0
  have g1 := block_free r5 1
  simp at y0 y1
  have hl5 := block_lt r5
  have RB : ∀ o, (((w4.setCell ⟨w.heap.size + 1, 0, none⟩ (.slice fo 0 fc)).setCell ⟨w.heap.size + 1, 1, none⟩ (.int .i64 0)).alloc o).heap[w.heap.size + 1]? = some (.cells #[.slice fo 0 fc, .int .i64 0] 33 (0, 0)) := fun o =>
    (Below.heap_alloc _ _ _ (by simpa using hl5)).trans (heap_setCell_same _ _ 1 _ _ (.int .i64 0) (heap_setCell_same w4 _ 0 _ _ (.slice fo 0 fc) r5))
  have R0 := hide (fun o => block_cell (RB o) 0)
  have R1 := hide (fun o => block_cell (RB o) 1)
  clear RB
  clear r5 b4 b4h Q3 B3 x0 x1 hxl Q4 B4 C3 C4 F3 G2 HNW
  go_upto_region 4 with fail
  go_region
  all_goals go_wp2
  all_goals
    refine bodyPost_ret (v := .tuple #[.pointer (some ⟨w4.heap.size, 0, none⟩), .agg #[.slice fo 0 fc, .int .i64 0]]) (by have q0 := R0.out; have q1 := R1.out; simp at q0 q1; simp [results, Try.results5, go_sem, q0, q1]) rfl ?_
    exact ⟨_, ⟨fo, fc, rfl, FINB.out⟩, FIN.out⟩
set_option maxRecDepth 10000 in
set_option maxHeartbeats 400000 in
theorem rfet_no (c : Cf) (me : Int) (L : List Lk) (code : Int) (hc : code ≠ 0) (hN : ∀ W, Calls Try.prog 15 #[.agg c.cells, .int .i64 me] W (RNewP W (.pointer none) L code)) (w : World) : Calls Try.prog 10 #[.agg c.cells, .int .i64 me] w (RNewP w (.pointer none) L code) := by
  unfold RNewP at *
  obtain ⟨W1, hW1⟩ : ∃ W1, (w.alloc (.cells c.cells 24)).alloc (.cells #[.slice none 0 0, .int .i64 0] 33) = W1 := ⟨_, rfl⟩
  have hs1 : (w.alloc (.cells c.cells 24)).heap.size = w.heap.size + 1 := by simp
  have Q1 : Hid (FBox (w.heap.size + 1) W1) := by rw [← hW1, ← hs1]; exact fbox_new _
  have B1 : Hid (Below w.heap.size w W1) := by rw [← hW1]; exact ((Below.refl _ w).alloc (Nat.le_refl _) _).alloc (by simp) _
  have C1 : W1.heap[w.heap.size]? = some (.cells c.cells 24 (0, 0)) := by
    rw [← hW1]
    exact (Below.heap_alloc _ _ _ (by simp)).trans (alloc_atK _ _)
  obtain ⟨z0, z1, z2, z3, z4, z5, z6, z7, z8, z9⟩ := cfg_cells C1
  have HNW := hide (hN W1)
  have HAN : Hid (∀ (fo : Option Addr) (fc : Nat) W, Calls Try.prog 16 #[.agg #[.slice fo L.length fc, .int .i64 code]] W fun e w' => e = .returned (.bool true) ∧ Hid (Below W.heap.size W w')) := fun fo fc W => (any0 fo L.length fc code (fun h => absurd h hc) W).mono fun _ _ ⟨h1, h2⟩ => ⟨by rw [h1]; simp [hc], h2⟩
  clear hs1 C1 hN hc
  unfold Cf.cells at *
  generalize c.f = f at *
  generalize c.mb = mb at *
  generalize (c.delay : Int) = d at *
  generalize (c.win : Int) = wn at *
  generalize (c.every : Int) = ev at *
  generalize (c.beat : Int) = bt at *
  generalize (c.ep : Int) = ep at *
  generalize (c.em : Int) = em at *
  generalize (c.mn : Int) = mn at *
  generalize (c.ms : Int) = ms at *
  have HW1 := hide hW1
  clear hW1
  go_enter Try.func10, Try.ntmps10
  go_upto_region 1 with fail
  rw [HW1.out]
  clear HW1
  go_wp2_with fail
  refine HNW.out.mono ?_
  rintro e w2 ⟨fo, fc, rfl, G2⟩
  obtain ⟨W3, hW3⟩ : ∃ W3, w2.alloc (.cells #[.slice fo L.length fc, .int .i64 code] 33) = W3 := ⟨_, rfl⟩
  have b3 : Below w2.heap.size w2 W3 := by rw [← hW3]; exact (Below.refl _ _).alloc (Nat.le_refl _) _
  have C3 : Hid (W3.heap[w2.heap.size]? = some (.cells #[.slice fo L.length fc, .int .i64 code] 33 (0, 0))) := by rw [← hW3]; exact alloc_atK _ _
  have hb2 := G2.out.2
  have Q3 := hide ((Q1.out.kept hb2).kept b3)
  have B3 := hide ((B1.out.trans (hb2.mono B1.out.size)).trans (b3.mono (B1.out.trans (hb2.mono B1.out.size)).size))
  have x0 : W3.cell? ⟨w2.heap.size, 0, none⟩ = some (.slice fo L.length fc) := block_cell C3.out 0
  have x1 : W3.cell? ⟨w2.heap.size, 1, none⟩ = some (.int .i64 code) := block_cell C3.out 1
  have hxl := block_lt C3.out
  have F3 : Hid (∃ b off, FV W3.heap.size W3 fo L b off) := by
    obtain ⟨b, off, hf⟩ := G2.out.1
    exact ⟨b, off, (hf.below b3).wide b3.size⟩
  clear hb2 b3 Q1 B1 z0 z1 z2 z3 z4 z5 z6 z7 z8 z9
  have HW3 := hide hW3
  clear hW3
  go_upto_region 2 with fail
  rw [HW3.out]
  clear HW3
  generalize w2.heap.size = pf at *
  go_wp2_with fail
  refine (HAN.out fo fc W3).mono ?_
  rintro e w4 ⟨rfl, b4h⟩
  have b4 := b4h.out
  have Q4 := hide (Q3.out.kept b4)
  have B4 := hide (B3.out.trans (b4.mono B3.out.size))
  have C4 := hide ((b4.block _ (block_lt C3.out)).trans C3.out)
  have x4 : w4.cell? ⟨pf, 0, none⟩ = some (.slice fo L.length fc) := block_cell C4.out 0
  have x5 : w4.cell? ⟨pf, 1, none⟩ = some (.int .i64 code) := block_cell C4.out 1
  have hxl4 := block_lt C4.out
  obtain ⟨bb, ob, hf4⟩ := F3.out
  have hf5 : FV w4.drew.heap.size w4.drew fo L bb ob := (((hf4.below b4).wide b4.size).below ((Below.refl _ w4).drew)).wide (Nat.le_refl _)
  have r5 := Q4.out
  have B5 := B4
  have FIN := hide (box_fin (w := w) (w3 := w4.drew) (p := w.heap.size + 1) r5 (by omega) hf5 B5.out.drew)
  have y0 := block_cell r5 0
  have y1 := block_cell r5 1
  have g0 := block_free r5 0
  have g1 := block_free r5 1
  simp at y0 y1
  have hl5 := block_lt r5
  clear r5 hf5 B5 b4 b4h Q3 B3 x0 x1 hxl hf4 Q4 B4 C3 C4 F3 G2 HNW
  go_upto_region 3 with fail
  go_region
  all_goals go_wp2
  all_goals
    refine bodyPost_ret (v := .tuple #[.pointer none, .agg #[.slice fo L.length fc, .int .i64 code]]) (by simp [results, Try.results10, go_sem, y0, y1]) rfl ?_
    obtain ⟨h1, h2, -⟩ := FIN.out (.slice fo L.length fc) (.int .i64 code)
    exact ⟨fo, fc, rfl, h1, h2⟩
set_option maxRecDepth 10000 in
set_option maxHeartbeats 400000 in
theorem rfet_ok (c : Cf) (me : Int) (hN : ∀ W, Calls Try.prog 15 #[.agg c.cells, .int .i64 me] W fun e w' => ∃ h, RNewP W (.pointer (some ⟨h, 0, none⟩)) [] 0 e w' ∧ Hid (w'.heap[h]? = some (.cells c.cells 108 (0, 0)))) (w : World) : Calls Try.prog 10 #[.agg c.cells, .int .i64 me] w fun e w' => ∃ q, RNewP w (.pointer (some ⟨q, 0, none⟩)) [] 0 e w' ∧ Hid (∃ h, LiesAt w' q (rfetC h me) 79) := by
  unfold RNewP at *
  obtain ⟨W1, hW1⟩ : ∃ W1, (w.alloc (.cells c.cells 24)).alloc (.cells #[.slice none 0 0, .int .i64 0] 33) = W1 := ⟨_, rfl⟩
  have hs1 : (w.alloc (.cells c.cells 24)).heap.size = w.heap.size + 1 := by simp
  have Q1 : Hid (FBox (w.heap.size + 1) W1) := by rw [← hW1, ← hs1]; exact fbox_new _
  have B1 : Hid (Below w.heap.size w W1) := by rw [← hW1]; exact ((Below.refl _ w).alloc (Nat.le_refl _) _).alloc (by simp) _
  have C1 : W1.heap[w.heap.size]? = some (.cells c.cells 24 (0, 0)) := by
    rw [← hW1]
    exact (Below.heap_alloc _ _ _ (by simp)).trans (alloc_atK _ _)
  obtain ⟨z0, z1, z2, z3, z4, z5, z6, z7, z8, z9⟩ := cfg_cells C1
  have HNW := hide (hN W1)
  have HAN : Hid (∀ (fo : Option Addr) (fc : Nat) W, Calls Try.prog 16 #[.agg #[.slice fo 0 fc, .int .i64 0]] W fun e w' => e = .returned (.bool false) ∧ Hid (Below W.heap.size W w')) := fun fo fc W => any0 fo 0 fc 0 (fun _ => rfl) W
  clear hs1 C1 hN
  unfold Cf.cells at *
  generalize c.f = f at *
  generalize c.mb = mb at *
  generalize (c.delay : Int) = d at *
  generalize (c.win : Int) = wn at *
  generalize (c.every : Int) = ev at *
  generalize (c.beat : Int) = bt at *
  generalize (c.ep : Int) = ep at *
  generalize (c.em : Int) = em at *
  generalize (c.mn : Int) = mn at *
  generalize (c.ms : Int) = ms at *
  have HW1 := hide hW1
  clear hW1
  go_enter Try.func10, Try.ntmps10
  go_upto_region 1 with fail
  rw [HW1.out]
  clear HW1
  go_wp2_with fail
  refine HNW.out.mono ?_
  rintro e w2 ⟨g, ⟨fo, fc, rfl, G2⟩, X2⟩
  simp only [List.length_nil]
  obtain ⟨W3, hW3⟩ : ∃ W3, w2.alloc (.cells #[.slice fo 0 fc, .int .i64 0] 33) = W3 := ⟨_, rfl⟩
  have b3 : Below w2.heap.size w2 W3 := by rw [← hW3]; exact (Below.refl _ _).alloc (Nat.le_refl _) _
  have C3 : Hid (W3.heap[w2.heap.size]? = some (.cells #[.slice fo 0 fc, .int .i64 0] 33 (0, 0))) := by rw [← hW3]; exact alloc_atK _ _
  have hb2 := G2.out.2
  have Q3 := hide ((Q1.out.kept hb2).kept b3)
  have B3 := hide ((B1.out.trans (hb2.mono B1.out.size)).trans (b3.mono (B1.out.trans (hb2.mono B1.out.size)).size))
  have x0 : W3.cell? ⟨w2.heap.size, 0, none⟩ = some (.slice fo 0 fc) := block_cell C3.out 0
  have x1 : W3.cell? ⟨w2.heap.size, 1, none⟩ = some (.int .i64 0) := block_cell C3.out 1
  have hxl := block_lt C3.out
  have F3 : Hid (∃ b off, FV W3.heap.size W3 fo [] b off) := by
    obtain ⟨b, off, hf⟩ := G2.out.1
    exact ⟨b, off, (hf.below b3).wide b3.size⟩
  clear hb2 b3 Q1 B1 z0 z1 z2 z3 z4 z5 z6 z7 z8 z9
  have HW3 := hide hW3
  clear hW3
  go_upto_region 2 with fail
  rw [HW3.out]
  clear HW3
  generalize w2.heap.size = pf at *
  go_wp2_with fail
  refine (HAN.out fo fc W3).mono ?_
  rintro e w4 ⟨rfl, b4h⟩
  have b4 := b4h.out
  have Q4 := hide (Q3.out.kept b4)
  have B4 := hide (B3.out.trans (b4.mono B3.out.size))
  have C4 := hide ((b4.block _ (block_lt C3.out)).trans C3.out)
  have x4 : w4.cell? ⟨pf, 0, none⟩ = some (.slice fo 0 fc) := block_cell C4.out 0
  have x5 : w4.cell? ⟨pf, 1, none⟩ = some (.int .i64 0) := block_cell C4.out 1
  have hxl4 := block_lt C4.out
  have r5 := Q4.out
  have FIN : Hid (∃ h, LiesAt (((w4.drew.setCell ⟨w.heap.size + 1, 0, none⟩ (.slice fo 0 fc)).setCell ⟨w.heap.size + 1, 1, none⟩ (.int .i64 0)).alloc (.cells (rfetC g me).toArray 79)) w4.heap.size (rfetC h me) 79) := ⟨g, by
    have h := alloc_atK ((w4.drew.setCell ⟨w.heap.size + 1, 0, none⟩ (.slice fo 0 fc)).setCell ⟨w.heap.size + 1, 1, none⟩ (.int .i64 0)) (.cells (rfetC g me).toArray 79)
    rw [show ((w4.drew.setCell ⟨w.heap.size + 1, 0, none⟩ (.slice fo 0 fc)).setCell ⟨w.heap.size + 1, 1, none⟩ (.int .i64 0)).heap.size = w4.heap.size by simp] at h
    exact h⟩
  have FINB : Hid ((∃ b off, FV (((w4.drew.setCell ⟨w.heap.size + 1, 0, none⟩ (.slice fo 0 fc)).setCell ⟨w.heap.size + 1, 1, none⟩ (.int .i64 0)).alloc (.cells (rfetC g me).toArray 79)).heap.size (((w4.drew.setCell ⟨w.heap.size + 1, 0, none⟩ (.slice fo 0 fc)).setCell ⟨w.heap.size + 1, 1, none⟩ (.int .i64 0)).alloc (.cells (rfetC g me).toArray 79)) fo [] b off) ∧ Below w.heap.size w (((w4.drew.setCell ⟨w.heap.size + 1, 0, none⟩ (.slice fo 0 fc)).setCell ⟨w.heap.size + 1, 1, none⟩ (.int .i64 0)).alloc (.cells (rfetC g me).toArray 79))) := by
    obtain ⟨-, h2, -⟩ := box_fin (w := w) (w3 := w4.drew) (p := w.heap.size + 1) r5 (by omega) (FV.nil _ _ fo 0 0) B4.out.drew (.slice fo 0 fc) (.int .i64 0)
    exact ⟨⟨0, 0, FV.nil _ _ fo 0 0⟩, h2.alloc h2.size _⟩
  have y0 := block_cell r5 0
  have y1 := block_cell r5 1
  have g0 := block_free r5 0
  have g1 := block_free r5 1
  simp at y0 y1
  have hl5 := block_lt r5
  have RB : ∀ o, (((w4.setCell ⟨w.heap.size + 1, 0, none⟩ (.slice fo 0 fc)).setCell ⟨w.heap.size + 1, 1, none⟩ (.int .i64 0)).alloc o).heap[w.heap.size + 1]? = some (.cells #[.slice fo 0 fc, .int .i64 0] 33 (0, 0)) := fun o =>
    (Below.heap_alloc _ _ _ (by simpa using hl5)).trans (heap_setCell_same _ _ 1 _ _ (.int .i64 0) (heap_setCell_same w4 _ 0 _ _ (.slice fo 0 fc) r5))
  have R0 := hide (fun o => block_cell (RB o) 0)
  have R1 := hide (fun o => block_cell (RB o) 1)
  clear RB
  clear r5 b4 b4h Q3 B3 x0 x1 hxl Q4 B4 C3 C4 F3 G2 HNW
  go_upto_region 4 with fail
  go_region
  all_goals go_wp2
  all_goals
    refine bodyPost_ret (v := .tuple #[.pointer (some ⟨w4.heap.size, 0, none⟩), .agg #[.slice fo 0 fc, .int .i64 0]]) (by have q0 := R0.out; have q1 := R1.out; simp at q0 q1; simp [results, Try.results10, go_sem, q0, q1]) rfl ?_
    exact ⟨_, ⟨fo, fc, rfl, FINB.out⟩, FIN.out⟩
end Go.Proofs.Ytdbolfnldbopoaa
