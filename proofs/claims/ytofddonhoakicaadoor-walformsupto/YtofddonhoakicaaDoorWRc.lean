import Derived.Test.YtofddonhoakicaaDoorWRb
namespace Go.Proofs.YtofddonhoakicaaDoor
open Go.RowKit Crc

set_option maxRecDepth 10000 in
set_option maxHeartbeats 800000 in
theorem rh_zero (base : Int) (w : World) : Calls Tryd.prog 11 #[.int .u64 0, .int .i64 base] w (BfP w [] [⟨walN, 0⟩] 1) := by
  have HNN : Hid (∀ W, Calls Tryd.prog 23 #[.int .i64 1, .int .i64 0] W (FvP W [⟨walN, 0⟩] 1)) := fun W => refno 1 W
  unfold FvP at HNN
  unfold BfP
  obtain ⟨W1, hW1⟩ : ∃ W1, w.alloc (.cells #[.slice none 0 0, .int .i64 0] 44) = W1 := ⟨_, rfl⟩
  have Q1 : Hid (FBox w.heap.size W1) := by rw [← hW1]; exact fbox_new w
  have B1 : Hid (Below w.heap.size w W1) := by rw [← hW1]; exact (Below.refl _ w).alloc (Nat.le_refl _) _
  have HW1 := hide hW1
  clear hW1
  go_enter Tryd.func11, Tryd.ntmps11
  go_upto_region 1 with fail
  rw [HW1.out]
  clear HW1
  go_wp2_with fail
  refine (HNN.out W1).mono ?_
  rintro e w3 ⟨fo, fc, rfl, G3⟩
  obtain ⟨b, off, hf, hb3⟩ := G3.out
  have r3 := Q1.out.kept hb3
  have FIN := hide (box_fin r3 hf (B1.out.trans (hb3.mono B1.out.size)))
  have y0 := block_cell r3 0
  have y1 := block_cell r3 1
  have g0 := block_free r3 0
  have g1 := block_free r3 1
  simp at y0 y1
  have hl3 := block_lt r3
  clear r3 hf hb3 G3 B1 Q1
  go_wp2
  refine bodyPost_ret (v := .tuple #[.slice none 0 0, .agg #[.slice fo 1 fc, .int .i64 1]]) (by simp [results, Tryd.results11, go_sem, y0, y1]) rfl ?_
  obtain ⟨h1, h2, -⟩ := FIN.out (.slice fo 1 fc) (.int .i64 1)
  exact ⟨none, 0, fo, fc, rfl, Owns.nil _ _, h1, h2⟩
set_option maxRecDepth 10000 in
set_option maxHeartbeats 800000 in
theorem rh_big (file : Nat) (base : Int) (w : World) (h : 4611686018427387904 < file) : Calls Tryd.prog 11 #[.int .u64 file, .int .i64 base] w (BfP w [] [⟨walN, 0⟩] 1) := by
  have HNN : Hid (∀ W, Calls Tryd.prog 23 #[.int .i64 1, .int .i64 0] W (FvP W [⟨walN, 0⟩] 1)) := fun W => refno 1 W
  unfold FvP at HNN
  unfold BfP
  obtain ⟨W1, hW1⟩ : ∃ W1, w.alloc (.cells #[.slice none 0 0, .int .i64 0] 44) = W1 := ⟨_, rfl⟩
  have Q1 : Hid (FBox w.heap.size W1) := by rw [← hW1]; exact fbox_new w
  have B1 : Hid (Below w.heap.size w W1) := by rw [← hW1]; exact (Below.refl _ w).alloc (Nat.le_refl _) _
  have HW1 := hide hW1
  clear hW1
  have e0 : ((file : Int) == 0) = false := by simp; omega
  go_enter Tryd.func11, Tryd.ntmps11
  go_upto_region 1 with fail
  rw [HW1.out]
  clear HW1
  go_wp2_with fail
  refine (HNN.out W1).mono ?_
  rintro e w3 ⟨fo, fc, rfl, G3⟩
  obtain ⟨b, off, hf, hb3⟩ := G3.out
  have r3 := Q1.out.kept hb3
  have FIN := hide (box_fin r3 hf (B1.out.trans (hb3.mono B1.out.size)))
  have y0 := block_cell r3 0
  have y1 := block_cell r3 1
  have g0 := block_free r3 0
  have g1 := block_free r3 1
  simp at y0 y1
  have hl3 := block_lt r3
  clear r3 hf hb3 G3 B1 Q1
  go_wp2
  refine bodyPost_ret (v := .tuple #[.slice none 0 0, .agg #[.slice fo 1 fc, .int .i64 1]]) (by simp [results, Tryd.results11, go_sem, y0, y1]) rfl ?_
  obtain ⟨h1, h2, -⟩ := FIN.out (.slice fo 1 fc) (.int .i64 1)
  exact ⟨none, 0, fo, fc, rfl, Owns.nil _ _, h1, h2⟩
set_option maxRecDepth 10000 in
set_option maxHeartbeats 800000 in
theorem rh_neg (file : Nat) (base : Int) (w : World) (h1 : 0 < file) (h2 : file ≤ 4611686018427387904) (h : base < 0) : Calls Tryd.prog 11 #[.int .u64 file, .int .i64 base] w (BfP w [] [⟨walN, 0⟩] 169) := by
  have HNN : Hid (∀ W, Calls Tryd.prog 23 #[.int .i64 169, .int .i64 0] W (FvP W [⟨walN, 0⟩] 169)) := fun W => refno 169 W
  unfold FvP at HNN
  unfold BfP
  obtain ⟨W1, hW1⟩ : ∃ W1, w.alloc (.cells #[.slice none 0 0, .int .i64 0] 44) = W1 := ⟨_, rfl⟩
  have Q1 : Hid (FBox w.heap.size W1) := by rw [← hW1]; exact fbox_new w
  have B1 : Hid (Below w.heap.size w W1) := by rw [← hW1]; exact (Below.refl _ w).alloc (Nat.le_refl _) _
  have HW1 := hide hW1
  clear hW1
  have e0 : ((file : Int) == 0) = false := by simp; omega
  go_enter Tryd.func11, Tryd.ntmps11
  go_upto_region 1 with fail
  rw [HW1.out]
  clear HW1
  go_wp2_with fail
  refine (HNN.out W1).mono ?_
  rintro e w3 ⟨fo, fc, rfl, G3⟩
  obtain ⟨b, off, hf, hb3⟩ := G3.out
  have r3 := Q1.out.kept hb3
  have FIN := hide (box_fin r3 hf (B1.out.trans (hb3.mono B1.out.size)))
  have y0 := block_cell r3 0
  have y1 := block_cell r3 1
  have g0 := block_free r3 0
  have g1 := block_free r3 1
  simp at y0 y1
  have hl3 := block_lt r3
  clear r3 hf hb3 G3 B1 Q1
  go_wp2
  refine bodyPost_ret (v := .tuple #[.slice none 0 0, .agg #[.slice fo 1 fc, .int .i64 169]]) (by simp [results, Tryd.results11, go_sem, y0, y1]) rfl ?_
  obtain ⟨h1, h2, -⟩ := FIN.out (.slice fo 1 fc) (.int .i64 169)
  exact ⟨none, 0, fo, fc, rfl, Owns.nil _ _, h1, h2⟩
set_option maxRecDepth 10000 in
set_option maxHeartbeats 800000 in
theorem rh_top (file : Nat) (base : Int) (w : World) (h1 : 0 < file) (h2 : file ≤ 4611686018427387904) (h : 64 < base) : Calls Tryd.prog 11 #[.int .u64 file, .int .i64 base] w (BfP w [] [⟨walN, 0⟩] 169) := by
  have HNN : Hid (∀ W, Calls Tryd.prog 23 #[.int .i64 169, .int .i64 0] W (FvP W [⟨walN, 0⟩] 169)) := fun W => refno 169 W
  unfold FvP at HNN
  unfold BfP
  obtain ⟨W1, hW1⟩ : ∃ W1, w.alloc (.cells #[.slice none 0 0, .int .i64 0] 44) = W1 := ⟨_, rfl⟩
  have Q1 : Hid (FBox w.heap.size W1) := by rw [← hW1]; exact fbox_new w
  have B1 : Hid (Below w.heap.size w W1) := by rw [← hW1]; exact (Below.refl _ w).alloc (Nat.le_refl _) _
  have HW1 := hide hW1
  clear hW1
  have e0 : ((file : Int) == 0) = false := by simp; omega
  go_enter Tryd.func11, Tryd.ntmps11
  go_upto_region 1 with fail
  rw [HW1.out]
  clear HW1
  go_wp2_with fail
  refine (HNN.out W1).mono ?_
  rintro e w3 ⟨fo, fc, rfl, G3⟩
  obtain ⟨b, off, hf, hb3⟩ := G3.out
  have r3 := Q1.out.kept hb3
  have FIN := hide (box_fin r3 hf (B1.out.trans (hb3.mono B1.out.size)))
  have y0 := block_cell r3 0
  have y1 := block_cell r3 1
  have g0 := block_free r3 0
  have g1 := block_free r3 1
  simp at y0 y1
  have hl3 := block_lt r3
  clear r3 hf hb3 G3 B1 Q1
  go_wp2
  refine bodyPost_ret (v := .tuple #[.slice none 0 0, .agg #[.slice fo 1 fc, .int .i64 169]]) (by simp [results, Tryd.results11, go_sem, y0, y1]) rfl ?_
  obtain ⟨h1, h2, -⟩ := FIN.out (.slice fo 1 fc) (.int .i64 169)
  exact ⟨none, 0, fo, fc, rfl, Owns.nil _ _, h1, h2⟩
set_option maxRecDepth 10000 in
set_option maxHeartbeats 800000 in
theorem rf_neg (i : Int) (ao : Option Addr) (n cap : Nat) (w : World) (h : i < 0) : Calls Tryd.prog 15 #[.int .i64 i, .slice ao n cap] w (BfP w [] [⟨walN, 0⟩] 1) := by
  have HNN : Hid (∀ W, Calls Tryd.prog 23 #[.int .i64 1, .int .i64 0] W (FvP W [⟨walN, 0⟩] 1)) := fun W => refno 1 W
  unfold FvP at HNN
  unfold BfP
  obtain ⟨W1, hW1⟩ : ∃ W1, w.alloc (.cells #[.slice none 0 0, .int .i64 0] 44) = W1 := ⟨_, rfl⟩
  have Q1 : Hid (FBox w.heap.size W1) := by rw [← hW1]; exact fbox_new w
  have B1 : Hid (Below w.heap.size w W1) := by rw [← hW1]; exact (Below.refl _ w).alloc (Nat.le_refl _) _
  have HW1 := hide hW1
  clear hW1
  go_enter Tryd.func15, Tryd.ntmps15
  go_upto_region 1 with fail
  rw [HW1.out]
  clear HW1
  go_wp2_with fail
  refine (HNN.out W1).mono ?_
  rintro e w3 ⟨fo, fc, rfl, G3⟩
  obtain ⟨b, off, hf, hb3⟩ := G3.out
  have r3 := Q1.out.kept hb3
  have FIN := hide (box_fin r3 hf (B1.out.trans (hb3.mono B1.out.size)))
  have y0 := block_cell r3 0
  have y1 := block_cell r3 1
  have g0 := block_free r3 0
  have g1 := block_free r3 1
  simp at y0 y1
  have hl3 := block_lt r3
  clear r3 hf hb3 G3 B1 Q1
  go_wp2
  refine bodyPost_ret (v := .tuple #[.slice none 0 0, .agg #[.slice fo 1 fc, .int .i64 1]]) (by simp [results, Tryd.results15, go_sem, y0, y1]) rfl ?_
  obtain ⟨h1, h2, -⟩ := FIN.out (.slice fo 1 fc) (.int .i64 1)
  exact ⟨none, 0, fo, fc, rfl, Owns.nil _ _, h1, h2⟩
set_option maxRecDepth 10000 in
set_option maxHeartbeats 800000 in
theorem rf_top (i : Int) (ao : Option Addr) (n cap : Nat) (w : World) (h : 2147483647 < i) : Calls Tryd.prog 15 #[.int .i64 i, .slice ao n cap] w (BfP w [] [⟨walN, 0⟩] 1) := by
  have HNN : Hid (∀ W, Calls Tryd.prog 23 #[.int .i64 1, .int .i64 0] W (FvP W [⟨walN, 0⟩] 1)) := fun W => refno 1 W
  unfold FvP at HNN
  unfold BfP
  obtain ⟨W1, hW1⟩ : ∃ W1, w.alloc (.cells #[.slice none 0 0, .int .i64 0] 44) = W1 := ⟨_, rfl⟩
  have Q1 : Hid (FBox w.heap.size W1) := by rw [← hW1]; exact fbox_new w
  have B1 : Hid (Below w.heap.size w W1) := by rw [← hW1]; exact (Below.refl _ w).alloc (Nat.le_refl _) _
  have HW1 := hide hW1
  clear hW1
  go_enter Tryd.func15, Tryd.ntmps15
  go_upto_region 1 with fail
  rw [HW1.out]
  clear HW1
  go_wp2_with fail
  refine (HNN.out W1).mono ?_
  rintro e w3 ⟨fo, fc, rfl, G3⟩
  obtain ⟨b, off, hf, hb3⟩ := G3.out
  have r3 := Q1.out.kept hb3
  have FIN := hide (box_fin r3 hf (B1.out.trans (hb3.mono B1.out.size)))
  have y0 := block_cell r3 0
  have y1 := block_cell r3 1
  have g0 := block_free r3 0
  have g1 := block_free r3 1
  simp at y0 y1
  have hl3 := block_lt r3
  clear r3 hf hb3 G3 B1 Q1
  go_wp2
  refine bodyPost_ret (v := .tuple #[.slice none 0 0, .agg #[.slice fo 1 fc, .int .i64 1]]) (by simp [results, Tryd.results15, go_sem, y0, y1]) rfl ?_
  obtain ⟨h1, h2, -⟩ := FIN.out (.slice fo 1 fc) (.int .i64 1)
  exact ⟨none, 0, fo, fc, rfl, Owns.nil _ _, h1, h2⟩
set_option maxRecDepth 10000 in
set_option maxHeartbeats 800000 in
theorem rf_long (i : Int) (ao : Option Addr) (n cap : Nat) (w : World) (h1 : 0 ≤ i) (h2 : i ≤ 2147483647) (h : 60000 < n) : Calls Tryd.prog 15 #[.int .i64 i, .slice ao n cap] w (BfP w [] [⟨walN, 0⟩] 166) := by
  have HNN : Hid (∀ W, Calls Tryd.prog 23 #[.int .i64 166, .int .i64 0] W (FvP W [⟨walN, 0⟩] 166)) := fun W => refno 166 W
  unfold FvP at HNN
  unfold BfP
  obtain ⟨W1, hW1⟩ : ∃ W1, w.alloc (.cells #[.slice none 0 0, .int .i64 0] 44) = W1 := ⟨_, rfl⟩
  have Q1 : Hid (FBox w.heap.size W1) := by rw [← hW1]; exact fbox_new w
  have B1 : Hid (Below w.heap.size w W1) := by rw [← hW1]; exact (Below.refl _ w).alloc (Nat.le_refl _) _
  have HW1 := hide hW1
  clear hW1
  go_enter Tryd.func15, Tryd.ntmps15
  go_upto_region 1 with fail
  rw [HW1.out]
  clear HW1
  go_wp2_with fail
  refine (HNN.out W1).mono ?_
  rintro e w3 ⟨fo, fc, rfl, G3⟩
  obtain ⟨b, off, hf, hb3⟩ := G3.out
  have r3 := Q1.out.kept hb3
  have FIN := hide (box_fin r3 hf (B1.out.trans (hb3.mono B1.out.size)))
  have y0 := block_cell r3 0
  have y1 := block_cell r3 1
  have g0 := block_free r3 0
  have g1 := block_free r3 1
  simp at y0 y1
  have hl3 := block_lt r3
  clear r3 hf hb3 G3 B1 Q1
  go_wp2
  refine bodyPost_ret (v := .tuple #[.slice none 0 0, .agg #[.slice fo 1 fc, .int .i64 166]]) (by simp [results, Tryd.results15, go_sem, y0, y1]) rfl ?_
  obtain ⟨h1, h2, -⟩ := FIN.out (.slice fo 1 fc) (.int .i64 166)
  exact ⟨none, 0, fo, fc, rfl, Owns.nil _ _, h1, h2⟩
theorem refHeader_no (file : Nat) (base : Int) (w : World) (h : ¬ ((0 < file ∧ file ≤ 4611686018427387904) ∧ 0 ≤ base ∧ base ≤ 64)) : Calls Tryd.prog 11 #[.int .u64 file, .int .i64 base] w (BfP w [] [⟨walN, 0⟩] (hdNo file)) := by
  by_cases h1 : 0 < file ∧ file ≤ 4611686018427387904
  · unfold hdNo
    rw [if_pos h1]
    by_cases h2 : base < 0
    · exact rh_neg file base w h1.1 h1.2 h2
    · exact rh_top file base w h1.1 h1.2 (by omega)
  · unfold hdNo
    rw [if_neg h1]
    by_cases h2 : file = 0
    · subst h2; exact rh_zero base w
    · exact rh_big file base w (by omega)
def frNo (i : Int) : Int := if 0 ≤ i ∧ i ≤ 2147483647 then 166 else 1
theorem refFrame_no (i : Int) (ao : Option Addr) (n cap : Nat) (w : World) (h : ¬ ((0 ≤ i ∧ i ≤ 2147483647) ∧ n ≤ 60000)) : Calls Tryd.prog 15 #[.int .i64 i, .slice ao n cap] w (BfP w [] [⟨walN, 0⟩] (frNo i)) := by
  by_cases h1 : 0 ≤ i ∧ i ≤ 2147483647
  · unfold frNo
    rw [if_pos h1]
    exact rf_long i ao n cap w h1.1 h1.2 (by omega)
  · unfold frNo
    rw [if_neg h1]
    by_cases h2 : i < 0
    · exact rf_neg i ao n cap w h2
    · exact rf_top i ao n cap w (by omega)
set_option maxRecDepth 10000 in
set_option maxHeartbeats 400000 in
theorem nf_neg (i : Int) (n : Nat) (h : i < 0) (w : World) :
    Calls Tryd.prog 31 #[.int .i64 i, .int .u64 (n : Nat)] w fun e w' => e = .returned (.int .i64 1) ∧ w' = w := by
  go_enter Tryd.func31, Tryd.ntmps31
  go_wp2
  go_ret
  exact ⟨rfl, rfl⟩
set_option maxRecDepth 10000 in
set_option maxHeartbeats 400000 in
theorem nf_top (i : Int) (n : Nat) (h : 2147483647 < i) (w : World) :
    Calls Tryd.prog 31 #[.int .i64 i, .int .u64 (n : Nat)] w fun e w' => e = .returned (.int .i64 1) ∧ w' = w := by
  go_enter Tryd.func31, Tryd.ntmps31
  go_wp2
  go_ret
  exact ⟨rfl, rfl⟩
set_option maxRecDepth 10000 in
set_option maxHeartbeats 400000 in
theorem nf_long (i : Int) (n : Nat) (h1 : 0 ≤ i) (h2 : i ≤ 2147483647) (h : 60000 < n) (w : World) :
    Calls Tryd.prog 31 #[.int .i64 i, .int .u64 (n : Nat)] w fun e w' => e = .returned (.int .i64 166) ∧ w' = w := by
  go_enter Tryd.func31, Tryd.ntmps31
  go_wp2
  go_ret
  exact ⟨rfl, rfl⟩
set_option maxRecDepth 10000 in
set_option maxHeartbeats 800000 in
theorem f_neg (i : Int) (ao : Option Addr) (n cap : Nat) (w : World) (hn47 : n ≤ 140737488355328) (h : i < 0) : Calls Tryd.prog 14 #[.int .i64 i, .slice ao n cap] w fun e w' => ∃ v', e = .returned (.tuple #[.slice none 0 0, v']) ∧ WFault w' v' 0 1 ∧ Below w.heap.size w w' := by
  have HNF := hide (nf_neg i n h w)
  go_enter Tryd.func14, Tryd.ntmps14
  go_wp2_with fail
  refine HNF.out.mono ?_
  rintro e w1 ⟨rfl, rfl⟩
  clear HNF
  go_wp2_with fail
  refine (refusalW _ _ _).mono ?_
  rintro e w2 ⟨v, rfl, rfl, hf, hb⟩
  go_wp2
  go_ret2
  exact ⟨_, rfl, hf, hb⟩
set_option maxRecDepth 10000 in
set_option maxHeartbeats 800000 in
theorem f_top (i : Int) (ao : Option Addr) (n cap : Nat) (w : World) (hn47 : n ≤ 140737488355328) (h : 2147483647 < i) : Calls Tryd.prog 14 #[.int .i64 i, .slice ao n cap] w fun e w' => ∃ v', e = .returned (.tuple #[.slice none 0 0, v']) ∧ WFault w' v' 0 1 ∧ Below w.heap.size w w' := by
  have HNF := hide (nf_top i n h w)
  go_enter Tryd.func14, Tryd.ntmps14
  go_wp2_with fail
  refine HNF.out.mono ?_
  rintro e w1 ⟨rfl, rfl⟩
  clear HNF
  go_wp2_with fail
  refine (refusalW _ _ _).mono ?_
  rintro e w2 ⟨v, rfl, rfl, hf, hb⟩
  go_wp2
  go_ret2
  exact ⟨_, rfl, hf, hb⟩
set_option maxRecDepth 10000 in
set_option maxHeartbeats 800000 in
theorem f_long (i : Int) (ao : Option Addr) (n cap : Nat) (w : World) (hn47 : n ≤ 140737488355328) (h1 : 0 ≤ i) (h2 : i ≤ 2147483647) (h : 60000 < n) : Calls Tryd.prog 14 #[.int .i64 i, .slice ao n cap] w fun e w' => ∃ v', e = .returned (.tuple #[.slice none 0 0, v']) ∧ WFault w' v' 0 166 ∧ Below w.heap.size w w' := by
  have HNF := hide (nf_long i n h1 h2 h w)
  go_enter Tryd.func14, Tryd.ntmps14
  go_wp2_with fail
  refine HNF.out.mono ?_
  rintro e w1 ⟨rfl, rfl⟩
  clear HNF
  go_wp2_with fail
  refine (refusalW _ _ _).mono ?_
  rintro e w2 ⟨v, rfl, rfl, hf, hb⟩
  go_wp2
  go_ret2
  exact ⟨_, rfl, hf, hb⟩
theorem frame_no (i : Int) (ao : Option Addr) (n cap : Nat) (w : World) (hn47 : n ≤ 140737488355328) (h : ¬ ((0 ≤ i ∧ i ≤ 2147483647) ∧ n ≤ 60000)) : Calls Tryd.prog 14 #[.int .i64 i, .slice ao n cap] w fun e w' => ∃ v', e = .returned (.tuple #[.slice none 0 0, v']) ∧ WFault w' v' 0 (frNo i) ∧ Below w.heap.size w w' := by
  by_cases h1 : 0 ≤ i ∧ i ≤ 2147483647
  · unfold frNo
    rw [if_pos h1]
    exact f_long i ao n cap w hn47 h1.1 h1.2 (by omega)
  · unfold frNo
    rw [if_neg h1]
    by_cases h2 : i < 0
    · exact f_neg i ao n cap w hn47 h2
    · exact f_top i ao n cap w hn47 (by omega)
end Go.Proofs.YtofddonhoakicaaDoor
