import Derived.Test.YtdbolfnldbopoaaXfA
import Derived.Test.YtdbolfnldbopoaaBNok
namespace Go.Proofs.Ytdbolfnldbopoaa
open Go.RowKit

theorem refG_of {W : World} {h : Nat} {c : Cf} (g : W.heap[h]? = some (.cells c.cells 108 (0, 0))) (hk : c.Ok) : RefG W h c := ⟨(cfg_cells g).1, (cfg_cells g).2.2.2.1, (cfg_cells g).2.2.2.2.2.2.2.2.1, (cfg_cells g).2.2.2.2.2.2.2.2.2, hk⟩
set_option maxRecDepth 10000 in
set_option maxHeartbeats 1600000 in
theorem grp_bad (c : Cf) (k : Nat) (hk : badOf c.oks = (k : Int)) (me : Int) (w : World) : Calls Try.prog 15 #[.agg c.cells, .int .i64 me] w (RNewP w (.pointer none) [⟨xferN, 0⟩, ⟨ballotN, (k : Int)⟩] 180) := by
  unfold RNewP
  obtain ⟨W1, hW1⟩ : ∃ W1, (w.alloc (.cells c.cells 24)).alloc (.cells #[.slice none 0 0, .int .i64 0] 33) = W1 := ⟨_, rfl⟩
  have hs1 : (w.alloc (.cells c.cells 24)).heap.size = w.heap.size + 1 := by simp
  have Q1 : Hid (FBox (w.heap.size + 1) W1) := by rw [← hW1, ← hs1]; exact fbox_new _
  have B1 : Hid (Below w.heap.size w W1) := by rw [← hW1]; exact ((Below.refl _ w).alloc (Nat.le_refl _) _).alloc (by simp) _
  have C1 : W1.heap[w.heap.size]? = some (.cells c.cells 24 (0, 0)) := by
    rw [← hW1]
    exact (Below.heap_alloc _ _ _ (by simp)).trans (alloc_atK _ _)
  obtain ⟨z0, z1, z2, z3, z4, z5, z6, z7, z8, z9⟩ := cfg_cells C1
  have HNW : Hid (Calls Try.prog 29 #[.agg c.cells] W1 fun e w' => ∃ fo fc, e = .returned (.tuple #[.pointer none, .agg #[.slice fo 1 fc, .int .i64 180]]) ∧ Hid ((∃ b off, FV w'.heap.size w' fo [⟨ballotN, (k : Int)⟩] b off) ∧ Below W1.heap.size W1 w')) := refNew_bad c k hk W1
  have HWR : Hid (∀ (fo : Option Addr) (fc b off : Nat) (W : World), FV W.heap.size W fo [⟨ballotN, (k : Int)⟩] b off → Calls Try.prog 30 #[.string xferN, .int .i64 0, .agg #[.slice fo 1 fc, .int .i64 180]] W fun e w' => ∃ ao cap, e = .returned (.agg #[.slice ao 2 cap, .int .i64 180]) ∧ Hid (∃ b off, FV w'.heap.size w' ao [⟨xferN, 0⟩, ⟨ballotN, (k : Int)⟩] b off ∧ Below W.heap.size W w')) := fun fo fc b off W hf => wrap0 xferN 0 180 1 fc rfl (by omega) W hf
  have HEN : Hid (∀ w' fo fc, Hid ((∃ b off, FV w'.heap.size w' fo [⟨xferN, 0⟩, ⟨ballotN, (k : Int)⟩] b off) ∧ Below w.heap.size w w') → ∃ fo' fc', (Ending.returned (.tuple #[.pointer none, .agg #[.slice fo 2 fc, .int .i64 180]])) = .returned (.tuple #[.pointer none, .agg #[.slice fo' 2 fc', .int .i64 180]]) ∧ Hid ((∃ b off, FV w'.heap.size w' fo' [⟨xferN, 0⟩, ⟨ballotN, (k : Int)⟩] b off) ∧ Below w.heap.size w w')) := fun w' fo fc h => ⟨fo, fc, rfl, h⟩
  clear hk hs1 C1
  unfold Cf.cells at *
  generalize c.f = f at *
  generalize c.mb = mb at *
  generalize (c.delay : Int) = d at *
  generalize (c.win : Int) = wn at *
  generalize (c.every : Int) = ev at *
  generalize (c.beat : Int) = bt at *
  generalize (c.ep : Int) = ep at *
  generalize (c.em : Int) = em at *
  generalize (c.mn : Int) = mn at *
  generalize (c.ms : Int) = ms at *
  have HW1 := hide hW1
  clear hW1
  go_enter Try.func15, Try.ntmps15
  go_upto_region 1 with fail
  rw [HW1.out]
  clear HW1
  go_wp2_with fail
  refine HNW.out.mono ?_
  rintro e w2 ⟨fo, fc, rfl, G2⟩
  obtain ⟨W3, hW3⟩ : ∃ W3, w2.alloc (.cells #[.slice fo 1 fc, .int .i64 180] 33) = W3 := ⟨_, rfl⟩
  have b3 : Below w2.heap.size w2 W3 := by rw [← hW3]; exact (Below.refl _ _).alloc (Nat.le_refl _) _
  have C3 : Hid (W3.heap[w2.heap.size]? = some (.cells #[.slice fo 1 fc, .int .i64 180] 33 (0, 0))) := by rw [← hW3]; exact alloc_atK _ _
  have hb2 := G2.out.2
  have Q3 := hide ((Q1.out.kept hb2).kept b3)
  have B3 := hide ((B1.out.trans (hb2.mono B1.out.size)).trans (b3.mono (B1.out.trans (hb2.mono B1.out.size)).size))
  have x0 : W3.cell? ⟨w2.heap.size, 0, none⟩ = some (.slice fo 1 fc) := block_cell C3.out 0
  have x1 : W3.cell? ⟨w2.heap.size, 1, none⟩ = some (.int .i64 180) := block_cell C3.out 1
  have hxl := block_lt C3.out
  have HAN : Hid (∀ W, Calls Try.prog 16 #[.agg #[.slice fo 1 fc, .int .i64 180]] W fun e w' => e = .returned (.bool true) ∧ Hid (Below W.heap.size W w')) := fun W => any0 fo 1 fc 180 (by decide) W
  have F3 : Hid (∃ b off, FV W3.heap.size W3 fo [⟨ballotN, (k : Int)⟩] b off) := by
    obtain ⟨b, off, hf⟩ := G2.out.1
    exact ⟨b, off, (hf.below b3).wide b3.size⟩
  clear hb2 b3 Q1 B1 z0 z1 z2 z3 z4 z5 z6 z7 z8 z9
  have HW3 := hide hW3
  clear hW3
  go_upto_region 2 with fail
  rw [HW3.out]
  clear HW3
  generalize w2.heap.size = pf at *
  go_wp2_with fail
  refine (HAN.out W3).mono ?_
  rintro e w4 ⟨rfl, b4h⟩
  have b4 := b4h.out
  have Q4 := hide (Q3.out.kept b4)
  have B4 := hide (B3.out.trans (b4.mono B3.out.size))
  have C4 := hide ((b4.block _ (block_lt C3.out)).trans C3.out)
  have x4 : w4.cell? ⟨pf, 0, none⟩ = some (.slice fo 1 fc) := block_cell C4.out 0
  have x5 : w4.cell? ⟨pf, 1, none⟩ = some (.int .i64 180) := block_cell C4.out 1
  have hxl4 := block_lt C4.out
  obtain ⟨bb, ob, hf4⟩ := F3.out
  have hf4 := (hf4.below b4).wide b4.size
  unfold xferN at HWR
  clear b4 b4h Q3 B3 x0 x1 hxl
  go_wp2_with fail
  refine (HWR.out _ _ _ _ _ hf4).mono ?_
  rintro e w5 ⟨fp, fq, rfl, G5⟩
  obtain ⟨b5, o5, hf5, bb5⟩ := G5.out
  have r5 := Q4.out.kept bb5
  have B5 := hide (B4.out.trans (bb5.mono B4.out.size))
  clear bb5 G5 Q4 B4 HWR hf4
  have FIN := hide (box_fin (w := w) r5 (by omega) hf5 B5.out)
  have y0 := block_cell r5 0
  have y1 := block_cell r5 1
  have g0 := block_free r5 0
  have g1 := block_free r5 1
  simp at y0 y1
  have hl5 := block_lt r5
  clear r5 hf5 B5
  go_wp2
  refine bodyPost_ret (v := .tuple #[.pointer none, .agg #[.slice fp 2 fq, .int .i64 180]]) (by simp [results, Try.results15, go_sem, y0, y1]) rfl ?_
  obtain ⟨h1, h2, -⟩ := FIN.out (.slice fp 2 fq) (.int .i64 180)
  exact ⟨fp, fq, rfl, h1, h2⟩
set_option maxRecDepth 10000 in
set_option maxHeartbeats 1600000 in
theorem grp_node (c : Cf) (hk : badOf c.oks = -1) (me : Int) (hn : c.node me = false) (w : World) : Calls Try.prog 15 #[.agg c.cells, .int .i64 me] w (RNewP w (.pointer none) [⟨xferN, 1⟩] 182) := by
  unfold RNewP
  obtain ⟨W1, hW1⟩ : ∃ W1, (w.alloc (.cells c.cells 24)).alloc (.cells #[.slice none 0 0, .int .i64 0] 33) = W1 := ⟨_, rfl⟩
  have hs1 : (w.alloc (.cells c.cells 24)).heap.size = w.heap.size + 1 := by simp
  have Q1 : Hid (FBox (w.heap.size + 1) W1) := by rw [← hW1, ← hs1]; exact fbox_new _
  have B1 : Hid (Below w.heap.size w W1) := by rw [← hW1]; exact ((Below.refl _ w).alloc (Nat.le_refl _) _).alloc (by simp) _
  have C1 : W1.heap[w.heap.size]? = some (.cells c.cells 24 (0, 0)) := by
    rw [← hW1]
    exact (Below.heap_alloc _ _ _ (by simp)).trans (alloc_atK _ _)
  obtain ⟨z0, z1, z2, z3, z4, z5, z6, z7, z8, z9⟩ := cfg_cells C1
  have HNW : Hid (Calls Try.prog 29 #[.agg c.cells] W1 fun e w' => ∃ g fo fc, e = .returned (.tuple #[.pointer (some ⟨g, 0, none⟩), .agg #[.slice fo 0 fc, .int .i64 0]]) ∧ Hid (Below W1.heap.size W1 w' ∧ w'.heap[g]? = some (.cells c.cells 108 (0, 0)))) := (refNew_ok c hk W1).mono fun _ _ ⟨g, ⟨fo, fc, h1, h2⟩, h3⟩ => ⟨g, fo, fc, h1, h2.out.2, h3.out.1⟩
  have HND : Hid (∀ W g, W.heap[g]? = some (.cells c.cells 108 (0, 0)) → Calls Try.prog 31 #[.pointer (some ⟨g, 0, none⟩), .int .i64 me] W fun e w' => e = .returned (.bool false) ∧ w' = W) := fun W g h => by rw [← hn]; exact refNode me (refG_of h (cf_ok hk))
  have HWR : Hid (∀ W, Calls Try.prog 32 #[.string xferN, .int .i64 1, .int .i64 182] W fun e w' => ∃ ao cap, e = .returned (.agg #[.slice ao 1 cap, .int .i64 182]) ∧ Hid (∃ b off, FV w'.heap.size w' ao [⟨xferN, 1⟩] b off ∧ Below W.heap.size W w')) := fun W => new0 xferN 1 182 W
  clear hk hs1 C1 hn
  unfold Cf.cells at *
  generalize c.f = f at *
  generalize c.mb = mb at *
  generalize (c.delay : Int) = d at *
  generalize (c.win : Int) = wn at *
  generalize (c.every : Int) = ev at *
  generalize (c.beat : Int) = bt at *
  generalize (c.ep : Int) = ep at *
  generalize (c.em : Int) = em at *
  generalize (c.mn : Int) = mn at *
  generalize (c.ms : Int) = ms at *
  have HW1 := hide hW1
  clear hW1
  go_enter Try.func15, Try.ntmps15
  go_upto_region 1 with fail
  rw [HW1.out]
  clear HW1
  go_wp2_with fail
  refine HNW.out.mono ?_
  rintro e w2 ⟨g, fo, fc, rfl, G2⟩
  obtain ⟨W3, hW3⟩ : ∃ W3, w2.alloc (.cells #[.slice fo 0 fc, .int .i64 0] 33) = W3 := ⟨_, rfl⟩
  have b3 : Below w2.heap.size w2 W3 := by rw [← hW3]; exact (Below.refl _ _).alloc (Nat.le_refl _) _
  have C3 : Hid (W3.heap[w2.heap.size]? = some (.cells #[.slice fo 0 fc, .int .i64 0] 33 (0, 0))) := by rw [← hW3]; exact alloc_atK _ _
  have hb2 := G2.out.1
  have Q3 := hide ((Q1.out.kept hb2).kept b3)
  have B3 := hide ((B1.out.trans (hb2.mono B1.out.size)).trans (b3.mono (B1.out.trans (hb2.mono B1.out.size)).size))
  have x0 : W3.cell? ⟨w2.heap.size, 0, none⟩ = some (.slice fo 0 fc) := block_cell C3.out 0
  have x1 : W3.cell? ⟨w2.heap.size, 1, none⟩ = some (.int .i64 0) := block_cell C3.out 1
  have hxl := block_lt C3.out
  have HAN : Hid (∀ W, Calls Try.prog 16 #[.agg #[.slice fo 0 fc, .int .i64 0]] W fun e w' => e = .returned (.bool false) ∧ Hid (Below W.heap.size W w')) := fun W => any0 fo 0 fc 0 (by simp) W
  have GG3 := hide ((b3.block _ (block_lt G2.out.2)).trans G2.out.2)
  clear hb2 b3 Q1 B1 z0 z1 z2 z3 z4 z5 z6 z7 z8 z9
  have HW3 := hide hW3
  clear hW3
  go_upto_region 2 with fail
  rw [HW3.out]
  clear HW3
  generalize w2.heap.size = pf at *
  go_wp2_with fail
  refine (HAN.out W3).mono ?_
  rintro e w4 ⟨rfl, b4h⟩
  have b4 := b4h.out
  have Q4 := hide (Q3.out.kept b4)
  have B4 := hide (B3.out.trans (b4.mono B3.out.size))
  have C4 := hide ((b4.block _ (block_lt C3.out)).trans C3.out)
  have x4 : w4.cell? ⟨pf, 0, none⟩ = some (.slice fo 0 fc) := block_cell C4.out 0
  have x5 : w4.cell? ⟨pf, 1, none⟩ = some (.int .i64 0) := block_cell C4.out 1
  have hxl4 := block_lt C4.out
  have GG4 := hide ((b4.block _ (block_lt GG3.out)).trans GG3.out)
  unfold xferN at HWR
  clear b4 b4h Q3 B3 x0 x1 hxl
  go_wp2_with fail
  refine (HND.out _ _ GG4.out).mono ?_
  rintro e w5 ⟨rfl, rfl⟩
  go_wp2_with fail
  refine (HWR.out _).mono ?_
  rintro e w6 ⟨fp, fq, rfl, G5⟩
  obtain ⟨b5, o5, hf5, bb5⟩ := G5.out
  have r5 := Q4.out.kept bb5
  have B5 := hide (B4.out.trans (bb5.mono B4.out.size))
  clear bb5 G5 Q4 B4 HWR HND
  have FIN := hide (box_fin (w := w) r5 (by omega) hf5 B5.out)
  have y0 := block_cell r5 0
  have y1 := block_cell r5 1
  have g0 := block_free r5 0
  have g1 := block_free r5 1
  simp at y0 y1
  have hl5 := block_lt r5
  clear r5 hf5 B5
  go_wp2
  refine bodyPost_ret (v := .tuple #[.pointer none, .agg #[.slice fp 1 fq, .int .i64 182]]) (by simp [results, Try.results15, go_sem, y0, y1]) rfl ?_
  obtain ⟨h1, h2, -⟩ := FIN.out (.slice fp 1 fq) (.int .i64 182)
  exact ⟨fp, fq, rfl, h1, h2⟩
set_option maxRecDepth 10000 in
set_option maxHeartbeats 1600000 in
theorem grp_ok (c : Cf) (hk : badOf c.oks = -1) (me : Int) (hn : c.node me = true) (w : World) : Calls Try.prog 15 #[.agg c.cells, .int .i64 me] w fun e w' => ∃ h, RNewP w (.pointer (some ⟨h, 0, none⟩)) [] 0 e w' ∧ Hid (w'.heap[h]? = some (.cells c.cells 108 (0, 0))) := by
  unfold RNewP
  obtain ⟨W1, hW1⟩ : ∃ W1, (w.alloc (.cells c.cells 24)).alloc (.cells #[.slice none 0 0, .int .i64 0] 33) = W1 := ⟨_, rfl⟩
  have hs1 : (w.alloc (.cells c.cells 24)).heap.size = w.heap.size + 1 := by simp
  have Q1 : Hid (FBox (w.heap.size + 1) W1) := by rw [← hW1, ← hs1]; exact fbox_new _
  have B1 : Hid (Below w.heap.size w W1) := by rw [← hW1]; exact ((Below.refl _ w).alloc (Nat.le_refl _) _).alloc (by simp) _
  have C1 : W1.heap[w.heap.size]? = some (.cells c.cells 24 (0, 0)) := by
    rw [← hW1]
    exact (Below.heap_alloc _ _ _ (by simp)).trans (alloc_atK _ _)
  obtain ⟨z0, z1, z2, z3, z4, z5, z6, z7, z8, z9⟩ := cfg_cells C1
  have HNW : Hid (Calls Try.prog 29 #[.agg c.cells] W1 fun e w' => ∃ g fo fc, e = .returned (.tuple #[.pointer (some ⟨g, 0, none⟩), .agg #[.slice fo 0 fc, .int .i64 0]]) ∧ Hid (Below W1.heap.size W1 w' ∧ w'.heap[g]? = some (.cells c.cells 108 (0, 0)))) := (refNew_ok c hk W1).mono fun _ _ ⟨g, ⟨fo, fc, h1, h2⟩, h3⟩ => ⟨g, fo, fc, h1, h2.out.2, h3.out.1⟩
  have HND : Hid (∀ W g, W.heap[g]? = some (.cells c.cells 108 (0, 0)) → Calls Try.prog 31 #[.pointer (some ⟨g, 0, none⟩), .int .i64 me] W fun e w' => e = .returned (.bool true) ∧ w' = W) := fun W g h => by rw [← hn]; exact refNode me (refG_of h (cf_ok hk))
  have HNO := hide none0x
  clear hk hs1 C1 hn
  unfold Cf.cells at *
  generalize c.f = f at *
  generalize c.mb = mb at *
  generalize (c.delay : Int) = d at *
  generalize (c.win : Int) = wn at *
  generalize (c.every : Int) = ev at *
  generalize (c.beat : Int) = bt at *
  generalize (c.ep : Int) = ep at *
  generalize (c.em : Int) = em at *
  generalize (c.mn : Int) = mn at *
  generalize (c.ms : Int) = ms at *
  have HW1 := hide hW1
  clear hW1
  go_enter Try.func15, Try.ntmps15
  go_upto_region 1 with fail
  rw [HW1.out]
  clear HW1
  go_wp2_with fail
  refine HNW.out.mono ?_
  rintro e w2 ⟨g, fo, fc, rfl, G2⟩
  obtain ⟨W3, hW3⟩ : ∃ W3, w2.alloc (.cells #[.slice fo 0 fc, .int .i64 0] 33) = W3 := ⟨_, rfl⟩
  have b3 : Below w2.heap.size w2 W3 := by rw [← hW3]; exact (Below.refl _ _).alloc (Nat.le_refl _) _
  have C3 : Hid (W3.heap[w2.heap.size]? = some (.cells #[.slice fo 0 fc, .int .i64 0] 33 (0, 0))) := by rw [← hW3]; exact alloc_atK _ _
  have hb2 := G2.out.1
  have Q3 := hide ((Q1.out.kept hb2).kept b3)
  have B3 := hide ((B1.out.trans (hb2.mono B1.out.size)).trans (b3.mono (B1.out.trans (hb2.mono B1.out.size)).size))
  have x0 : W3.cell? ⟨w2.heap.size, 0, none⟩ = some (.slice fo 0 fc) := block_cell C3.out 0
  have x1 : W3.cell? ⟨w2.heap.size, 1, none⟩ = some (.int .i64 0) := block_cell C3.out 1
  have hxl := block_lt C3.out
  have HAN : Hid (∀ W, Calls Try.prog 16 #[.agg #[.slice fo 0 fc, .int .i64 0]] W fun e w' => e = .returned (.bool false) ∧ Hid (Below W.heap.size W w')) := fun W => any0 fo 0 fc 0 (by simp) W
  have GG3 := hide ((b3.block _ (block_lt G2.out.2)).trans G2.out.2)
  clear hb2 b3 Q1 B1 z0 z1 z2 z3 z4 z5 z6 z7 z8 z9
  have HW3 := hide hW3
  clear hW3
  go_upto_region 2 with fail
  rw [HW3.out]
  clear HW3
  generalize w2.heap.size = pf at *
  go_wp2_with fail
  refine (HAN.out W3).mono ?_
  rintro e w4 ⟨rfl, b4h⟩
  have b4 := b4h.out
  have Q4 := hide (Q3.out.kept b4)
  have B4 := hide (B3.out.trans (b4.mono B3.out.size))
  have C4 := hide ((b4.block _ (block_lt C3.out)).trans C3.out)
  have x4 : w4.cell? ⟨pf, 0, none⟩ = some (.slice fo 0 fc) := block_cell C4.out 0
  have x5 : w4.cell? ⟨pf, 1, none⟩ = some (.int .i64 0) := block_cell C4.out 1
  have hxl4 := block_lt C4.out
  have GG4 := hide ((b4.block _ (block_lt GG3.out)).trans GG3.out)
  clear b4 b4h Q3 B3 x0 x1 hxl
  go_wp2_with fail
  refine (HND.out _ _ GG4.out).mono ?_
  rintro e w5 ⟨rfl, rfl⟩
  go_wp2_with fail
  refine (HNO.out _).mono ?_
  rintro e w7 ⟨rfl, hw7⟩
  have b7 : Below w5.heap.size w5 w7 := by rw [hw7]; exact (Below.refl _ _).alloc (Nat.le_refl _) _
  clear hw7
  have r7 := Q4.out.kept b7
  have g7 := (b7.block _ (block_lt GG4.out)).trans GG4.out
  have B7 := B4.out.trans (b7.mono B4.out.size)
  have hne2 : g ≠ w.heap.size + 1 := fun e => by rw [e] at g7; have r7' : w7.heap[w.heap.size + 1]? = _ := r7; rw [r7'] at g7; cases g7
  have FIN : Hid ((∃ b off, FV ((w7.setCell ⟨w.heap.size + 1, 0, none⟩ (.slice none 0 0)).setCell ⟨w.heap.size + 1, 1, none⟩ (.int .i64 0)).heap.size ((w7.setCell ⟨w.heap.size + 1, 0, none⟩ (.slice none 0 0)).setCell ⟨w.heap.size + 1, 1, none⟩ (.int .i64 0)) none [] b off) ∧ Below w.heap.size w ((w7.setCell ⟨w.heap.size + 1, 0, none⟩ (.slice none 0 0)).setCell ⟨w.heap.size + 1, 1, none⟩ (.int .i64 0)) ∧ ((w7.setCell ⟨w.heap.size + 1, 0, none⟩ (.slice none 0 0)).setCell ⟨w.heap.size + 1, 1, none⟩ (.int .i64 0)).heap[g]? = w7.heap[g]?) := by
    obtain ⟨h1, h2, h3⟩ := box_fin (w := w) r7 (by omega) (FV.nil _ _ none 0 0) B7 (.slice none 0 0) (.int .i64 0)
    exact ⟨h1, h2, h3.block _ (block_lt g7) (fun e => hne2 (Option.some.inj e))⟩
  have G7 := hide g7
  have y0 := block_cell r7 0
  have y1 := block_cell r7 1
  have g0 := block_free r7 0
  have g1 := block_free r7 1
  simp at y0 y1
  have hl5 := block_lt r7
  clear r7 g7 B7 b7 Q4 B4 GG4 GG3 G2 HNW hne2
  go_wp2
  refine bodyPost_ret (v := .tuple #[.pointer (some ⟨g, 0, none⟩), .agg #[.slice none 0 0, .int .i64 0]]) (by simp [results, Try.results15, go_sem, y0, y1]) rfl ?_
  exact ⟨g, ⟨none, 0, rfl, FIN.out.1, FIN.out.2.1⟩, FIN.out.2.2.trans G7.out⟩
end Go.Proofs.Ytdbolfnldbopoaa
