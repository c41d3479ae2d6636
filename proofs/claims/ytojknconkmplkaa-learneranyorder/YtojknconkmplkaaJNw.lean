import Derived.Test.YtojknconkmplkaaMI
import Derived.Test.YtojknconkmplkaaMB
import Derived.Test.YtojknconkmplkaaMC
namespace Go.Proofs.Ytojknconkmplkaa
open Go.RowKit Crc

def learnerN : ByteArray := ⟨#[108, 101, 97, 114, 110, 101, 114]⟩
/-- What the reference's New tells: the number. -/
def RCode (w : World) (code : Int) (e : Ending) (w' : World) : Prop := ∃ a fo n fc, e = .returned (.tuple #[.pointer a, .agg #[.slice fo n fc, .int .i64 code]]) ∧ Hid (Below w.heap.size w w')
set_option maxRecDepth 10000 in
set_option maxHeartbeats 1600000 in
theorem rnewJ_bad (c : Cf) (k : Nat) (hk : badOf c.oks = (k : Int)) (low : Nat) (w : World) : Calls Try.prog 11 #[.agg c.cells, .int .u64 (low : Nat)] w (RNewP w (.pointer none) [⟨learnerN, 0⟩, ⟨ballotN, (k : Int)⟩] 180) := by
  unfold RNewP
  obtain ⟨W1, hW1⟩ : ∃ W1, (w.alloc (.cells c.cells 24)).alloc (.cells #[.slice none 0 0, .int .i64 0] 61) = W1 := ⟨_, rfl⟩
  have hs1 : (w.alloc (.cells c.cells 24)).heap.size = w.heap.size + 1 := by simp
  have Q1 : Hid (FBox (w.heap.size + 1) W1) := by rw [← hW1, ← hs1]; exact fbox_new _
  have B1 : Hid (Below w.heap.size w W1) := by rw [← hW1]; exact ((Below.refl _ w).alloc (Nat.le_refl _) _).alloc (by simp) _
  have C1 : W1.heap[w.heap.size]? = some (.cells c.cells 24 (0, 0)) := by
    rw [← hW1]
    exact (Below.heap_alloc _ _ _ (by simp)).trans (alloc_atK _ _)
  obtain ⟨z0, z1, z2, z3, z4, z5, z6, z7, z8, z9⟩ := cfg_cells C1
  have HNW : Hid (Calls Try.prog 26 #[.agg c.cells] W1 fun e w' => ∃ fo fc, e = .returned (.tuple #[.pointer none, .agg #[.slice fo 1 fc, .int .i64 180]]) ∧ Hid ((∃ b off, FV w'.heap.size w' fo [⟨ballotN, (k : Int)⟩] b off) ∧ Below W1.heap.size W1 w')) := refNew_bad c k hk W1
  have HWR : Hid (∀ (fo : Option Addr) (fc b off : Nat) (W : World), FV W.heap.size W fo [⟨ballotN, (k : Int)⟩] b off → Calls Try.prog 28 #[.string learnerN, .int .i64 0, .agg #[.slice fo 1 fc, .int .i64 180]] W fun e w' => ∃ ao cap, e = .returned (.agg #[.slice ao 2 cap, .int .i64 180]) ∧ Hid (∃ b off, FV w'.heap.size w' ao [⟨learnerN, 0⟩, ⟨ballotN, (k : Int)⟩] b off ∧ Below W.heap.size W w')) := fun fo fc b off W hf => wrap0 learnerN 0 180 1 fc rfl (by omega) W hf
  have HEN : Hid (∀ w' fo fc, Hid ((∃ b off, FV w'.heap.size w' fo [⟨learnerN, 0⟩, ⟨ballotN, (k : Int)⟩] b off) ∧ Below w.heap.size w w') → ∃ fo' fc', (Ending.returned (.tuple #[.pointer none, .agg #[.slice fo 2 fc, .int .i64 180]])) = .returned (.tuple #[.pointer none, .agg #[.slice fo' 2 fc', .int .i64 180]]) ∧ Hid ((∃ b off, FV w'.heap.size w' fo' [⟨learnerN, 0⟩, ⟨ballotN, (k : Int)⟩] b off) ∧ Below w.heap.size w w')) := fun w' fo fc h => ⟨fo, fc, rfl, h⟩
  clear hk hs1 C1
  unfold Cf.cells at *
  generalize c.f = f at *
  generalize c.mb = mb at *
  generalize (c.delay : Int) = d at *
  generalize (c.win : Int) = wn at *
  generalize (c.every : Int) = ev at *
  generalize (c.beat : Int) = bt at *
  generalize (c.ep : Int) = ep at *
  generalize (c.em : Int) = em at *
  generalize (c.mn : Int) = mn at *
  generalize (c.ms : Int) = ms at *
  have HW1 := hide hW1
  clear hW1
  go_enter Try.func11, Try.ntmps11
  go_upto_region 1 with fail
  rw [HW1.out]
  clear HW1
  go_wp2_with fail
  refine HNW.out.mono ?_
  rintro e w2 ⟨fo, fc, rfl, G2⟩
  obtain ⟨W3, hW3⟩ : ∃ W3, w2.alloc (.cells #[.slice fo 1 fc, .int .i64 180] 61) = W3 := ⟨_, rfl⟩
  have b3 : Below w2.heap.size w2 W3 := by rw [← hW3]; exact (Below.refl _ _).alloc (Nat.le_refl _) _
  have C3 : Hid (W3.heap[w2.heap.size]? = some (.cells #[.slice fo 1 fc, .int .i64 180] 61 (0, 0))) := by rw [← hW3]; exact alloc_atK _ _
  have hb2 := G2.out.2
  have Q3 := hide ((Q1.out.kept hb2).kept b3)
  have B3 := hide ((B1.out.trans (hb2.mono B1.out.size)).trans (b3.mono (B1.out.trans (hb2.mono B1.out.size)).size))
  have x0 : W3.cell? ⟨w2.heap.size, 0, none⟩ = some (.slice fo 1 fc) := block_cell C3.out 0
  have x1 : W3.cell? ⟨w2.heap.size, 1, none⟩ = some (.int .i64 180) := block_cell C3.out 1
  have hxl := block_lt C3.out
  have HAN : Hid (∀ W, Calls Try.prog 27 #[.agg #[.slice fo 1 fc, .int .i64 180]] W fun e w' => e = .returned (.bool true) ∧ Hid (Below W.heap.size W w')) := fun W => any0 fo 1 fc 180 (by decide) W
  have F3 : Hid (∃ b off, FV W3.heap.size W3 fo [⟨ballotN, (k : Int)⟩] b off) := by
    obtain ⟨b, off, hf⟩ := G2.out.1
    exact ⟨b, off, (hf.below b3).wide b3.size⟩
  clear hb2 b3 Q1 B1 z0 z1 z2 z3 z4 z5 z6 z7 z8 z9
  have HW3 := hide hW3
  clear hW3
  go_upto_region 2 with fail
  rw [HW3.out]
  clear HW3
  generalize w2.heap.size = pf at *
  go_wp2_with fail
  refine (HAN.out W3).mono ?_
  rintro e w4 ⟨rfl, b4h⟩
  have b4 := b4h.out
  have Q4 := hide (Q3.out.kept b4)
  have B4 := hide (B3.out.trans (b4.mono B3.out.size))
  have C4 := hide ((b4.block _ (block_lt C3.out)).trans C3.out)
  have x4 : w4.cell? ⟨pf, 0, none⟩ = some (.slice fo 1 fc) := block_cell C4.out 0
  have x5 : w4.cell? ⟨pf, 1, none⟩ = some (.int .i64 180) := block_cell C4.out 1
  have hxl4 := block_lt C4.out
  obtain ⟨bb, ob, hf4⟩ := F3.out
  have hf4 := (hf4.below b4).wide b4.size
  unfold learnerN at HWR
  clear b4 b4h Q3 B3 x0 x1 hxl
  go_wp2_with fail
  refine (HWR.out _ _ _ _ _ hf4).mono ?_
  rintro e w5 ⟨fp, fq, rfl, G5⟩
  obtain ⟨b5, o5, hf5, bb5⟩ := G5.out
  have r5 := Q4.out.kept bb5
  have B5 := hide (B4.out.trans (bb5.mono B4.out.size))
  clear bb5 G5 Q4 B4 HWR hf4
  have FIN := hide (box_fin (w := w) r5 (by omega) hf5 B5.out)
  have y0 := block_cell r5 0
  have y1 := block_cell r5 1
  have g0 := block_free r5 0
  have g1 := block_free r5 1
  simp at y0 y1
  have hl5 := block_lt r5
  clear r5 hf5 B5
  go_wp2
  refine bodyPost_ret (v := .tuple #[.pointer none, .agg #[.slice fp 2 fq, .int .i64 180]]) (by simp [results, Try.results11, go_sem, y0, y1]) rfl ?_
  obtain ⟨h1, h2, -⟩ := FIN.out (.slice fp 2 fq) (.int .i64 180)
  exact ⟨fp, fq, rfl, h1, h2⟩
set_option maxRecDepth 10000 in
set_option maxHeartbeats 1600000 in
theorem rnewJ_slot (c : Cf) (hk : badOf c.oks = -1) (low : Nat) (hn : c.ms < low) (w : World) : Calls Try.prog 11 #[.agg c.cells, .int .u64 (low : Nat)] w (RCode w 240) := by
  unfold RCode
  obtain ⟨W1, hW1⟩ : ∃ W1, (w.alloc (.cells c.cells 24)).alloc (.cells #[.slice none 0 0, .int .i64 0] 61) = W1 := ⟨_, rfl⟩
  have hs1 : (w.alloc (.cells c.cells 24)).heap.size = w.heap.size + 1 := by simp
  have Q1 : Hid (FBox (w.heap.size + 1) W1) := by rw [← hW1, ← hs1]; exact fbox_new _
  have B1 : Hid (Below w.heap.size w W1) := by rw [← hW1]; exact ((Below.refl _ w).alloc (Nat.le_refl _) _).alloc (by simp) _
  have C1 : W1.heap[w.heap.size]? = some (.cells c.cells 24 (0, 0)) := by
    rw [← hW1]
    exact (Below.heap_alloc _ _ _ (by simp)).trans (alloc_atK _ _)
  obtain ⟨z0, z1, z2, z3, z4, z5, z6, z7, z8, z9⟩ := cfg_cells C1
  have HNW : Hid (Calls Try.prog 26 #[.agg c.cells] W1 fun e w' => ∃ g fo fc, e = .returned (.tuple #[.pointer (some ⟨g, 0, none⟩), .agg #[.slice fo 0 fc, .int .i64 0]]) ∧ Hid (Below W1.heap.size W1 w' ∧ w'.heap[g]? = some (.cells c.cells 124 (0, 0)))) := (refNew_ok c hk W1).mono fun _ _ ⟨g, ⟨fo, fc, h1, h2⟩, h3⟩ => ⟨g, fo, fc, h1, h2.out.2, h3.out.1⟩
  have HWR : Hid (∀ W, Calls Try.prog 29 #[.string learnerN, .int .i64 1, .int .i64 240] W fun e w' => ∃ ao cap, e = .returned (.agg #[.slice ao 1 cap, .int .i64 240]) ∧ Hid (∃ b off, FV w'.heap.size w' ao [⟨learnerN, 1⟩] b off ∧ Below W.heap.size W w')) := fun W => new0 learnerN 1 240 W
  have HNO := hide none0x
  have hlo : decide ((c.ms : Int) < (low : Int)) = true := decide_eq_true (by omega)
  have C1h := hide C1
  clear hk hs1 C1 hn
  unfold Cf.cells at *
  generalize c.f = f at *
  generalize c.mb = mb at *
  generalize (c.delay : Int) = d at *
  generalize (c.win : Int) = wn at *
  generalize (c.every : Int) = ev at *
  generalize (c.beat : Int) = bt at *
  generalize (c.ep : Int) = ep at *
  generalize (c.em : Int) = em at *
  generalize (c.mn : Int) = mn at *
  generalize (c.ms : Int) = ms at *
  generalize (low : Int) = LI at *
  have HW1 := hide hW1
  clear hW1
  go_enter Try.func11, Try.ntmps11
  go_upto_region 1 with fail
  rw [HW1.out]
  clear HW1
  go_wp2_with fail
  refine HNW.out.mono ?_
  rintro e w2 ⟨g, fo, fc, rfl, G2⟩
  obtain ⟨W3, hW3⟩ : ∃ W3, w2.alloc (.cells #[.slice fo 0 fc, .int .i64 0] 61) = W3 := ⟨_, rfl⟩
  have b3 : Below w2.heap.size w2 W3 := by rw [← hW3]; exact (Below.refl _ _).alloc (Nat.le_refl _) _
  have C3 : Hid (W3.heap[w2.heap.size]? = some (.cells #[.slice fo 0 fc, .int .i64 0] 61 (0, 0))) := by rw [← hW3]; exact alloc_atK _ _
  have hb2 := G2.out.1
  have Q3 := hide ((Q1.out.kept hb2).kept b3)
  have B3 := hide ((B1.out.trans (hb2.mono B1.out.size)).trans (b3.mono (B1.out.trans (hb2.mono B1.out.size)).size))
  have CB3 := hide ((b3.block _ (Nat.lt_of_lt_of_le (block_lt C1h.out) hb2.size)).trans ((hb2.block _ (block_lt C1h.out)).trans C1h.out))
  have x0 : W3.cell? ⟨w2.heap.size, 0, none⟩ = some (.slice fo 0 fc) := block_cell C3.out 0
  have x1 : W3.cell? ⟨w2.heap.size, 1, none⟩ = some (.int .i64 0) := block_cell C3.out 1
  have hxl := block_lt C3.out
  have HAN : Hid (∀ W, Calls Try.prog 27 #[.agg #[.slice fo 0 fc, .int .i64 0]] W fun e w' => e = .returned (.bool false) ∧ Hid (Below W.heap.size W w')) := fun W => any0 fo 0 fc 0 (by simp) W
  clear hb2 b3 Q1 B1 z0 z1 z2 z3 z4 z5 z6 z7 z8 z9 C1h
  have HW3 := hide hW3
  clear hW3
  go_upto_region 2 with fail
  rw [HW3.out]
  clear HW3
  generalize w2.heap.size = pf at *
  go_wp2_with fail
  refine (HAN.out W3).mono ?_
  rintro e w4 ⟨rfl, b4h⟩
  have b4 := b4h.out
  have Q4 := hide (Q3.out.kept b4)
  have B4 := hide (B3.out.trans (b4.mono B3.out.size))
  have CB4 := hide ((b4.block _ (block_lt CB3.out)).trans CB3.out)
  have z9 : w4.cell? ⟨w.heap.size, 9, none⟩ = some (.int .u64 ms) := block_cell CB4.out 9
  unfold learnerN at HWR
  clear b4 b4h Q3 B3 x0 x1 hxl CB3 C3
  go_wp2_with fail
  refine (HWR.out _).mono ?_
  rintro e w6 ⟨fp, fq, rfl, G5⟩
  obtain ⟨b5, o5, hf5, bb5⟩ := G5.out
  have r5 := Q4.out.kept bb5
  have B5 := hide (B4.out.trans (bb5.mono B4.out.size))
  clear bb5 G5 Q4 B4 HWR
  have FIN := hide (box_fin (w := w) r5 (by omega) hf5 B5.out)
  have y0 := block_cell r5 0
  have y1 := block_cell r5 1
  have g0 := block_free r5 0
  have g1 := block_free r5 1
  simp at y0 y1
  have hl5 := block_lt r5
  clear r5 hf5 B5
  go_wp2
  refine bodyPost_ret (v := .tuple #[.pointer none, .agg #[.slice fp 1 fq, .int .i64 240]]) (by simp [results, Try.results11, go_sem, y0, y1]) rfl ?_
  obtain ⟨h1, h2, -⟩ := FIN.out (.slice fp 1 fq) (.int .i64 240)
  exact ⟨none, fp, 1, fq, rfl, h2⟩
set_option maxRecDepth 10000 in
set_option maxHeartbeats 1600000 in
theorem rnewJ_ok (c : Cf) (hk : badOf c.oks = -1) (low : Nat) (hn : low ≤ c.ms) (w : World) : Calls Try.prog 11 #[.agg c.cells, .int .u64 (low : Nat)] w (RCode w 0) := by
  unfold RCode
  obtain ⟨W1, hW1⟩ : ∃ W1, (w.alloc (.cells c.cells 24)).alloc (.cells #[.slice none 0 0, .int .i64 0] 61) = W1 := ⟨_, rfl⟩
  have hs1 : (w.alloc (.cells c.cells 24)).heap.size = w.heap.size + 1 := by simp
  have Q1 : Hid (FBox (w.heap.size + 1) W1) := by rw [← hW1, ← hs1]; exact fbox_new _
  have B1 : Hid (Below w.heap.size w W1) := by rw [← hW1]; exact ((Below.refl _ w).alloc (Nat.le_refl _) _).alloc (by simp) _
  have C1 : W1.heap[w.heap.size]? = some (.cells c.cells 24 (0, 0)) := by
    rw [← hW1]
    exact (Below.heap_alloc _ _ _ (by simp)).trans (alloc_atK _ _)
  obtain ⟨z0, z1, z2, z3, z4, z5, z6, z7, z8, z9⟩ := cfg_cells C1
  have HNW : Hid (Calls Try.prog 26 #[.agg c.cells] W1 fun e w' => ∃ g fo fc, e = .returned (.tuple #[.pointer (some ⟨g, 0, none⟩), .agg #[.slice fo 0 fc, .int .i64 0]]) ∧ Hid (Below W1.heap.size W1 w' ∧ w'.heap[g]? = some (.cells c.cells 124 (0, 0)))) := (refNew_ok c hk W1).mono fun _ _ ⟨g, ⟨fo, fc, h1, h2⟩, h3⟩ => ⟨g, fo, fc, h1, h2.out.2, h3.out.1⟩
  have HWR_ : Hid (∀ W, Calls Try.prog 29 #[.string learnerN, .int .i64 1, .int .i64 240] W fun e w' => ∃ ao cap, e = .returned (.agg #[.slice ao 1 cap, .int .i64 240]) ∧ Hid (∃ b off, FV w'.heap.size w' ao [⟨learnerN, 1⟩] b off ∧ Below W.heap.size W w')) := fun W => new0 learnerN 1 240 W
  have HNO := hide none0x
  have hlo : decide ((c.ms : Int) < (low : Int)) = false := decide_eq_false (by omega)
  have C1h := hide C1
  clear hk hs1 C1 hn
  unfold Cf.cells at *
  generalize c.f = f at *
  generalize c.mb = mb at *
  generalize (c.delay : Int) = d at *
  generalize (c.win : Int) = wn at *
  generalize (c.every : Int) = ev at *
  generalize (c.beat : Int) = bt at *
  generalize (c.ep : Int) = ep at *
  generalize (c.em : Int) = em at *
  generalize (c.mn : Int) = mn at *
  generalize (c.ms : Int) = ms at *
  generalize (low : Int) = LI at *
  have HW1 := hide hW1
  clear hW1
  go_enter Try.func11, Try.ntmps11
  go_upto_region 1 with fail
  rw [HW1.out]
  clear HW1
  go_wp2_with fail
  refine HNW.out.mono ?_
  rintro e w2 ⟨g, fo, fc, rfl, G2⟩
  obtain ⟨W3, hW3⟩ : ∃ W3, w2.alloc (.cells #[.slice fo 0 fc, .int .i64 0] 61) = W3 := ⟨_, rfl⟩
  have b3 : Below w2.heap.size w2 W3 := by rw [← hW3]; exact (Below.refl _ _).alloc (Nat.le_refl _) _
  have C3 : Hid (W3.heap[w2.heap.size]? = some (.cells #[.slice fo 0 fc, .int .i64 0] 61 (0, 0))) := by rw [← hW3]; exact alloc_atK _ _
  have hb2 := G2.out.1
  have Q3 := hide ((Q1.out.kept hb2).kept b3)
  have B3 := hide ((B1.out.trans (hb2.mono B1.out.size)).trans (b3.mono (B1.out.trans (hb2.mono B1.out.size)).size))
  have CB3 := hide ((b3.block _ (Nat.lt_of_lt_of_le (block_lt C1h.out) hb2.size)).trans ((hb2.block _ (block_lt C1h.out)).trans C1h.out))
  have x0 : W3.cell? ⟨w2.heap.size, 0, none⟩ = some (.slice fo 0 fc) := block_cell C3.out 0
  have x1 : W3.cell? ⟨w2.heap.size, 1, none⟩ = some (.int .i64 0) := block_cell C3.out 1
  have hxl := block_lt C3.out
  have HAN : Hid (∀ W, Calls Try.prog 27 #[.agg #[.slice fo 0 fc, .int .i64 0]] W fun e w' => e = .returned (.bool false) ∧ Hid (Below W.heap.size W w')) := fun W => any0 fo 0 fc 0 (by simp) W
  clear hb2 b3 Q1 B1 z0 z1 z2 z3 z4 z5 z6 z7 z8 z9 C1h
  have HW3 := hide hW3
  clear hW3
  go_upto_region 2 with fail
  rw [HW3.out]
  clear HW3
  generalize w2.heap.size = pf at *
  go_wp2_with fail
  refine (HAN.out W3).mono ?_
  rintro e w4 ⟨rfl, b4h⟩
  have b4 := b4h.out
  have Q4 := hide (Q3.out.kept b4)
  have B4 := hide (B3.out.trans (b4.mono B3.out.size))
  have CB4 := hide ((b4.block _ (block_lt CB3.out)).trans CB3.out)
  have z9 : w4.cell? ⟨w.heap.size, 9, none⟩ = some (.int .u64 ms) := block_cell CB4.out 9
  clear HWR_
  clear b4 b4h Q3 B3 x0 x1 hxl CB3 C3
  obtain ⟨W5, hW5⟩ : ∃ W5, w4.alloc (.cells #[.pointer (some ⟨g, 0, none⟩), .int .u64 LI, .slice none 0 0] 100) = W5 := ⟨_, rfl⟩
  have b5 : Below w4.heap.size w4 W5 := by rw [← hW5]; exact (Below.refl _ _).alloc (Nat.le_refl _) _
  have Q5 := hide (Q4.out.kept b5)
  have B5 := hide (B4.out.trans (b5.mono B4.out.size))
  have HW5 := hide hW5
  clear hW5 b5
  go_wp2_with fail
  rw [HW5.out]
  refine (HNO.out W5).mono ?_
  rintro e w6 ⟨rfl, hw6⟩
  have b6 : Below W5.heap.size W5 w6 := by rw [hw6]; exact (Below.refl _ _).alloc (Nat.le_refl _) _
  have r6 := Q5.out.kept b6
  have B6 := hide (B5.out.trans (b6.mono B5.out.size))
  have y0 := block_cell r6 0
  have y1 := block_cell r6 1
  have g0 := block_free r6 0
  have g1 := block_free r6 1
  simp at y0 y1
  have hl5 := block_lt r6
  have FIN : Hid (∀ u0 u1, Below w.heap.size w ((w6.setCell ⟨w.heap.size + 1, 0, none⟩ u0).setCell ⟨w.heap.size + 1, 1, none⟩ u1)) := fun u0 u1 => (B6.out.setCell (p := ⟨w.heap.size + 1, 0, none⟩) (by simp) _).setCell (p := ⟨w.heap.size + 1, 1, none⟩) (by simp) _
  clear hw6 b6 r6 B6 Q4 Q5 B4 B5 HW5
  go_wp2
  refine bodyPost_ret (v := .tuple #[.pointer (some ⟨w4.heap.size, 0, none⟩), .agg #[.slice none 0 0, .int .i64 0]]) (by simp [results, Try.results11, go_sem, y0, y1]) rfl ⟨_, _, _, _, rfl, FIN.out _ _⟩
def Cf.mayL (c : Cf) (low : Nat) : Bool := decide (badOf c.oks = -1) && decide (low ≤ c.ms)
set_option maxRecDepth 10000 in
set_option maxHeartbeats 1600000 in
theorem may_of (c : Cf) (low : Nat) (code : Int) (z : Bool) (hz : (code == 0) = z) (w : World) (hN : ∀ W, Calls Try.prog 11 #[.agg c.cells, .int .u64 (low : Nat)] W (RCode W code)) : Calls Try.prog 4 #[.agg c.cells, .int .u64 (low : Nat)] w fun e w' => e = .returned (.bool z) ∧ Hid (Below w.heap.size w w') := by
  unfold RCode at hN
  have HN := hide hN
  obtain ⟨W1, hW1⟩ : ∃ W1, w.alloc (.cells c.cells 24) = W1 := ⟨_, rfl⟩
  have B1 : Hid (Below w.heap.size w W1) := by rw [← hW1]; exact (Below.refl _ w).alloc (Nat.le_refl _) _
  have C1 : W1.heap[w.heap.size]? = some (.cells c.cells 24 (0, 0)) := by rw [← hW1]; exact alloc_atK _ _
  obtain ⟨z0, z1, z2, z3, z4, z5, z6, z7, z8, z9⟩ := cfg_cells C1
  clear hN C1
  unfold Cf.cells at *
  generalize c.f = f at *
  generalize c.mb = mb at *
  generalize (c.delay : Int) = d at *
  generalize (c.win : Int) = wn at *
  generalize (c.every : Int) = ev at *
  generalize (c.beat : Int) = bt at *
  generalize (c.ep : Int) = ep at *
  generalize (c.em : Int) = em at *
  generalize (c.mn : Int) = mn at *
  generalize (c.ms : Int) = ms at *
  generalize (low : Int) = LI at *
  have HW1 := hide hW1
  clear hW1
  go_enter Try.func4, Try.ntmps4
  go_upto_region 1 with fail
  rw [HW1.out]
  clear HW1
  go_wp2_with fail
  refine (HN.out W1).mono ?_
  rintro e w2 ⟨a, fo, n, fc, rfl, G2⟩
  clear z0 z1 z2 z3 z4 z5 z6 z7 z8 z9
  have FIN : Hid (∀ o, Below w.heap.size w (w2.alloc o)) := fun o => (B1.out.trans (G2.out.mono B1.out.size)).alloc ((B1.out.trans (G2.out.mono B1.out.size)).size) o
  go_wp2
  go_ret
  exact ⟨rfl, FIN.out _⟩
theorem may_any (c : Cf) (low : Nat) (w : World) : Calls Try.prog 4 #[.agg c.cells, .int .u64 (low : Nat)] w fun e w' => e = .returned (.bool (c.mayL low)) ∧ Hid (Below w.heap.size w w') := by
  rcases badOf_cases c with hk | ⟨k, hk⟩
  · by_cases hl : low ≤ c.ms
    · have e : c.mayL low = true := by unfold Cf.mayL; rw [decide_eq_true hk, decide_eq_true hl]; rfl
      rw [e]
      exact may_of c low 0 true rfl w (fun W => rnewJ_ok c hk low hl W)
    · have e : c.mayL low = false := by unfold Cf.mayL; rw [decide_eq_false hl, Bool.and_false]
      rw [e]
      exact may_of c low 240 false rfl w (fun W => rnewJ_slot c hk low (by omega) W)
  · have e : c.mayL low = false := by unfold Cf.mayL; rw [decide_eq_false (by omega)]; rfl
    rw [e]
    refine may_of c low 180 false rfl w (fun W => (rnewJ_bad c k hk low W).mono ?_)
    rintro e w' ⟨fo, fc, rfl, G⟩
    exact ⟨_, _, _, _, rfl, G.out.2⟩
set_option maxRecDepth 10000 in
set_option maxHeartbeats 1600000 in
theorem newL (c : Cf) (hin : c.In) (hk : badOf c.oks = -1) (low : Nat) (hl : low ≤ c.ms) (w : World) : Calls Try.prog 6 #[.agg c.cells, .int .u64 (low : Nat)] w fun e w' => ∃ lb g mb, e = .returned (.tuple #[.pointer (some ⟨lb, 0, none⟩), .nilIface]) ∧ Hid (LL w' lb g mb 0 c low (fun _ => Jv.zero) ∧ Below w.heap.size w w' ∧ w.heap.size ≤ lb ∧ w.heap.size ≤ mb) := by
  obtain ⟨W1, hW1⟩ : ∃ W1, w.alloc (.cells c.cells 24) = W1 := ⟨_, rfl⟩
  have B1 : Hid (Below w.heap.size w W1) := by rw [← hW1]; exact (Below.refl _ w).alloc (Nat.le_refl _) _
  have C1 : Hid (W1.heap[w.heap.size]? = some (.cells c.cells 24 (0, 0))) := by rw [← hW1]; exact alloc_atK _ _
  obtain ⟨z0, z1, z2, z3, z4, z5, z6, z7, z8, z9⟩ := cfg_cells C1.out
  have HNW : Hid (Calls Try.prog 14 #[.agg c.cells] W1 fun e w' => ∃ g, e = .returned (.tuple #[.pointer (some ⟨g, 0, none⟩), .nilIface]) ∧ Hid (Below W1.heap.size W1 w' ∧ w'.heap[g]? = some (.cells c.cells 107 (0, 0)))) := (newP_ok c hin hk W1).mono fun e w' ⟨a, ⟨ev, h1, h2⟩, h3⟩ => by
    obtain ⟨g, rfl, hg⟩ := h3.out
    rcases h2.out.1 with ⟨rfl, _⟩ | ⟨_, h, _⟩
    · exact ⟨g, h1, h2.out.2, hg⟩
    · simp at h
  have hlo : decide ((c.ms : Int) < (low : Int)) = false := decide_eq_false (by omega)
  have HFI : Hid (∀ (w2 : World) (g : Nat), Below W1.heap.size W1 w2 → w2.heap[g]? = some (.cells c.cells 107 (0, 0)) → LL ((w2.alloc (.map #[] 0)).alloc (.cells #[.pointer (some ⟨g, 0, none⟩), .int .u64 (low : Nat), .map (some w2.heap.size)] 75)) (w2.heap.size + 1) g w2.heap.size 0 c low (fun _ => Jv.zero) ∧ Below w.heap.size w ((w2.alloc (.map #[] 0)).alloc (.cells #[.pointer (some ⟨g, 0, none⟩), .int .u64 (low : Nat), .map (some w2.heap.size)] 75)) ∧ w.heap.size ≤ w2.heap.size + 1 ∧ w.heap.size ≤ w2.heap.size) := fun w2 g hb hg => by
    have hb1 := B1.out.trans (hb.mono B1.out.size)
    have e1 : (w2.alloc (.map #[] 0)).heap.size = w2.heap.size + 1 := by simp
    have g1 := World.grownBy_alloc w2 (.map #[] 0) none
    have g2 := World.grownBy_alloc (w2.alloc (.map #[] 0)) (.cells #[.pointer (some ⟨g, 0, none⟩), .int .u64 (low : Nat), .map (some w2.heap.size)] 75) none
    refine ⟨⟨?_, ?_, ⟨fun _ => Jt.zero, (tlm_made w2).kept g2 (by simp), fun _ => Jt.zero_ok _ _, fun _ => rfl⟩, hl, fun _ _ => rfl⟩, ?_, by have := hb1.size; omega, hb1.size⟩
    · rw [← e1]; exact alloc_atK _ _
    · exact (g2.block _ (by rw [e1]; have := block_lt hg; omega) (by simp)).trans ((g1.block _ (block_lt hg) (by simp)).trans hg)
    · exact (hb1.alloc hb1.size _).alloc (by rw [e1]; have := hb1.size; omega) _
  clear hin hk hl
  unfold Cf.cells at *
  generalize c.f = f at *
  generalize c.mb = mb at *
  generalize (c.delay : Int) = d at *
  generalize (c.win : Int) = wn at *
  generalize (c.every : Int) = ev at *
  generalize (c.beat : Int) = bt at *
  generalize (c.ep : Int) = ep at *
  generalize (c.em : Int) = em at *
  generalize (c.mn : Int) = mn at *
  generalize (c.ms : Int) = ms at *
  generalize (low : Int) = LI at *
  have HW1 := hide hW1
  clear hW1
  go_enter Try.func6, Try.ntmps6
  go_upto_region 1 with fail
  rw [HW1.out]
  clear HW1
  go_wp2_with fail
  refine HNW.out.mono ?_
  rintro e w2 ⟨g, rfl, G2⟩
  have FIN := hide (HFI.out w2 g G2.out.1 G2.out.2)
  have CB := hide ((G2.out.1.block _ (block_lt C1.out)).trans C1.out)
  clear z0 z1 z2 z3 z4 z5 z6 z7 z8 z9 HFI HNW G2 C1 B1
  have z9 : w2.cell? ⟨w.heap.size, 9, none⟩ = some (.int .u64 ms) := block_cell CB.out 9
  have m1 := run_makeMap (P := Try.prog) 73 w2
  go_wp2
  go_ret2
  exact ⟨_, g, _, rfl, FIN.out⟩
end Go.Proofs.Ytojknconkmplkaa
