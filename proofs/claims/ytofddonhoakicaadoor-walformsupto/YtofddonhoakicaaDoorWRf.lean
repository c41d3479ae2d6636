import Derived.Test.YtofddonhoakicaaDoorWRb
namespace Go.Proofs.YtofddonhoakicaaDoor
open Go.RowKit Crc

theorem joinS {b1 lim : Nat} {w : World} {v1 : Value} {ao : Option Addr} {n cap : Nat} {A B : List Nat} (h1 : Owns b1 w v1 A) (h2 : Shows lim w ao n cap B) (hlim : lim ≤ w.heap.size) (hl : A.length + n ≤ 140737488355328) :
    Calls Tryd.prog 24 #[v1, .slice ao n cap] w fun e w' => ∃ v, e = .returned v ∧ Owns w.heap.size w' v (A ++ B) ∧ Below w.heap.size w w' := by
  obtain ⟨a1, c1, rfl, s1, -⟩ := h1.form
  exact join_any s1 (Nat.le_refl _) h2 hlim hl
theorem rsumS {lim : Nat} {w : World} {ao : Option Addr} {n cap : Nat} {B : List Nat} (h : Shows lim w ao n cap B) : Calls Tryd.prog 27 #[.slice ao n cap] w fun e w' => e = .returned (.int .u32 (Crc.sum B)) ∧ w' = w := by
  obtain ⟨h1, h2, h3, h4, b, off, h5, h6, h7⟩ := h
  exact ref_any b off ao B _ cap w h5 h1 h3 h4 h7
set_option maxRecDepth 10000 in
set_option maxHeartbeats 1600000 in
theorem refFrame_ok {lim : Nat} {w : World} {ao : Option Addr} {i n cap : Nat} {B : List Nat} (h : Shows lim w ao n cap B) (hlim : lim ≤ w.heap.size) (hn : n ≤ 60000) (hi0 : i ≤ 2147483647) : Calls Tryd.prog 15 #[.int .i64 i, .slice ao n cap] w (BfP w (frm i B) [] 0) := by
  have HNN : Hid (∀ W, Calls Tryd.prog 28 #[] W (FvP W [] 0)) := fun W => none0 W
  unfold FvP at HNN
  unfold BfP
  have HN : Hid (n = B.length) := h.1
  have HF : Hid (frm i B = frm1 i n ++ B ++ low4 (Crc.sum B)) := by show _ = _; unfold frm; rw [← HN.out]
  have hhl : (frm i B).length = n + 16 := by rw [frm_len, ← HN.out]
  rw [hhl]
  obtain ⟨W1, hW1⟩ : ∃ W1, w.alloc (.cells #[.slice none 0 0, .int .i64 0] 44) = W1 := ⟨_, rfl⟩
  have Q1 : Hid (FBox w.heap.size W1) := by rw [← hW1]; exact fbox_new w
  have B1 : Hid (Below w.heap.size w W1) := by rw [← hW1]; exact (Below.refl _ w).alloc (Nat.le_refl _) _
  have hsz1 : w.heap.size < W1.heap.size := block_lt Q1.out
  have HW1 := hide hW1
  have HS : Hid (∀ V, Below W1.heap.size W1 V → Shows lim V ao n cap B) := fun V hV => h.below (B1.out.trans (hV.mono B1.out.size)) hlim
  have HHL := hide hhl
  clear hW1 h hhl
  go_enter Tryd.func15, Tryd.ntmps15
  go_upto_region 1 with fail
  rw [HW1.out]
  clear HW1
  go_wp2_with fail
  refine (big_any n 4 _ _ W1 rfl rfl (by omega)).mono ?_
  rintro e W3 ⟨v3, rfl, ho3, hb3⟩
  have O3 := hide ho3
  have B3 := hide hb3
  clear ho3 hb3
  go_wp2_with fail
  refine (big_any i 4 _ _ W3 rfl rfl (by omega)).mono ?_
  rintro e W4 ⟨v4, rfl, ho4, hb4⟩
  have B4 : Hid (Below W1.heap.size W1 W4) := B3.out.trans (hb4.mono B3.out.size)
  have J4 := hide (joinO (O3.out.quiet (below_none hb4)) ho4 (by simp [big, big_len]))
  clear ho4 hb4 O3 B3
  go_wp2_with fail
  refine J4.out.mono ?_
  rintro e W6 ⟨v6, rfl, ho6, hb6⟩
  have B6 : Hid (Below W1.heap.size W1 W6) := B4.out.trans (hb6.mono B4.out.size)
  have O6 : Hid (Owns W4.heap.size W6 v6 (frm0 i n)) := ho6
  have S6 := hide (rsumO O6.out)
  clear ho6 hb6 J4 B4
  go_wp2_with fail
  refine S6.out.mono ?_
  rintro e W7 ⟨rfl, rfl⟩
  have L7 := hide (reflow (Crc.sum (frm0 i n)) W7 (sum_lt _ (frm0_lt i n)))
  clear S6
  go_wp2_with fail
  refine L7.out.mono ?_
  rintro e W8 ⟨rfl, ho8, hb8⟩
  have B8 : Hid (Below W1.heap.size W1 W8) := B6.out.trans (hb8.mono B6.out.size)
  have J8 := hide (joinO (O6.out.quiet (below_none hb8)) ho8 (by rw [frm0_len, low4_len]; omega))
  clear ho8 hb8 L7 O6 B6
  go_wp2_with fail
  refine J8.out.mono ?_
  rintro e W9 ⟨v9, rfl, ho9, hb9⟩
  have B9 : Hid (Below W1.heap.size W1 W9) := B8.out.trans (hb9.mono B8.out.size)
  have O9 : Hid (Owns W8.heap.size W9 v9 (frm1 i n)) := ho9
  have J9 := hide (joinS O9.out (HS.out W9 B9.out) (by have := B9.out.size; omega) (by rw [frm1_len]; omega))
  clear ho9 hb9 J8 B8
  go_wp2_with fail
  refine J9.out.mono ?_
  rintro e W10 ⟨v10, rfl, ho10, hb10⟩
  have B10 : Hid (Below W1.heap.size W1 W10) := B9.out.trans (hb10.mono B9.out.size)
  have O10 : Hid (Owns W9.heap.size W10 v10 (frm1 i n ++ B)) := ho10
  have S10 := hide (rsumS (HS.out W10 B10.out))
  have HBl : Hid (∀ x ∈ B, x < 256) := (HS.out W10 B10.out).2.2.2.1
  clear ho10 hb10 J9 O9 B9
  go_wp2_with fail
  refine S10.out.mono ?_
  rintro e W11 ⟨rfl, rfl⟩
  have L11 := hide (reflow (Crc.sum B) W11 (sum_lt _ HBl.out))
  clear S10
  go_wp2_with fail
  refine L11.out.mono ?_
  rintro e W12 ⟨rfl, ho12, hb12⟩
  have B12 : Hid (Below W1.heap.size W1 W12) := B10.out.trans (hb12.mono B10.out.size)
  have J12 := hide (joinO (O10.out.quiet (below_none hb12)) ho12 (by rw [List.length_append, frm1_len, low4_len, ← HN.out]; omega))
  rw [← HF.out] at J12
  clear ho12 hb12 L11 O10 B10
  go_wp2_with fail
  refine J12.out.mono ?_
  rintro e W13 ⟨v13, rfl, ho13, hb13⟩
  have B13 : Hid (Below W1.heap.size W1 W13) := B12.out.trans (hb13.mono B12.out.size)
  have O13 : Hid (Owns W1.heap.size W13 v13 (frm i B)) := ho13.lower B12.out.size
  clear ho13 hb13 J12 B12
  go_wp2_with fail
  refine (HNN.out W13).mono ?_
  rintro e w3 ⟨fo, fc, rfl, G3⟩
  obtain ⟨b, off, hf, hb3⟩ := G3.out
  have Bz : Below W1.heap.size W1 w3 := B13.out.trans (hb3.mono B13.out.size)
  have r3 := Q1.out.kept Bz
  have FIN := hide (box_fin r3 hf (B1.out.trans (Bz.mono B1.out.size)))
  have Oz := hide (O13.out.quiet (below_none hb3))
  obtain ⟨a9, c9, hv9, -, -⟩ := O13.out.form
  rw [HHL.out] at hv9
  subst hv9
  have y0 := block_cell r3 0
  have y1 := block_cell r3 1
  have g0 := block_free r3 0
  have g1 := block_free r3 1
  simp at y0 y1
  have hl3 := block_lt r3
  clear r3 hf hb3 G3 B1 Q1 Bz O13 B13
  go_wp2
  refine bodyPost_ret (v := .tuple #[.slice a9 (n + 16) c9, .agg #[.slice fo 0 fc, .int .i64 0]]) (by simp [results, Tryd.results15, go_sem, y0, y1]) rfl ?_
  obtain ⟨h1, h2, h3⟩ := FIN.out (.slice fo 0 fc) (.int .i64 0)
  exact ⟨a9, c9, fo, fc, rfl, (owns_far Oz.out h3 hsz1).lower (Nat.le_of_lt hsz1), h1, h2⟩
end Go.Proofs.YtofddonhoakicaaDoor
