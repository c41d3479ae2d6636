import Derived.Test.YtofddonhoakicaaDoorWRa
namespace Go.Proofs.YtofddonhoakicaaDoor
open Go.RowKit Crc

theorem joinO {b1 b2 : Nat} {w : World} {v1 v2 : Value} {A B : List Nat} (h1 : Owns b1 w v1 A) (h2 : Owns b2 w v2 B) (hl : A.length + B.length ≤ 140737488355328) :
    Calls Tryd.prog 24 #[v1, v2] w fun e w' => ∃ v, e = .returned v ∧ Owns w.heap.size w' v (A ++ B) ∧ Below w.heap.size w w' := by
  obtain ⟨a1, c1, rfl, s1, -⟩ := h1.form
  obtain ⟨a2, c2, rfl, s2, -⟩ := h2.form
  exact join_any s1 (Nat.le_refl _) s2 (Nat.le_refl _) hl
theorem rsumO {b1 : Nat} {w : World} {v1 : Value} {A : List Nat} (h1 : Owns b1 w v1 A) : Calls Tryd.prog 27 #[v1] w fun e w' => e = .returned (.int .u32 (Crc.sum A)) ∧ w' = w := by
  obtain ⟨a1, c1, rfl, ⟨h1, h2, h3, h4, b, off, h5, h6, h7⟩, -⟩ := h1.form
  exact ref_any b off a1 A _ c1 w h5 h1 h3 h4 h7
/-- Bytes and a refusal. -/
def BfP (w : World) (B : List Nat) (L : List Lk) (c : Int) (e : Ending) (w' : World) : Prop := ∃ ao cap fo fc, e = .returned (.tuple #[.slice ao B.length cap, .agg #[.slice fo L.length fc, .int .i64 c]]) ∧ Hid (Owns w.heap.size w' (.slice ao B.length cap) B ∧ (∃ b off, FV w'.heap.size w' fo L b off) ∧ Below w.heap.size w w')
theorem owns_far {base q : Nat} {w w' : World} {v : Value} {B : List Nat} (h : Owns base w v B) (hg : w.grownBy w' (some q)) (hq : q < base) : Owns base w' v B := by
  refine h.kept hg ?_
  cases e : v.ownBlock with
  | none => exact .inl rfl
  | some g => exact .inr (fun e2 => by have := (h.1.lt g e).1; cases e2; omega)

set_option maxRecDepth 10000 in
set_option maxHeartbeats 1600000 in
theorem refHeader_ok (file base : Nat) (w : World) (h : hdOk file base) : Calls Tryd.prog 11 #[.int .u64 file, .int .i64 base] w (BfP w (hdr file base) [] 0) := by
  have HNN : Hid (∀ W, Calls Tryd.prog 28 #[] W (FvP W [] 0)) := fun W => none0 W
  unfold FvP at HNN
  unfold BfP
  have hhl := hdr_len file base
  rw [hhl]
  obtain ⟨W1, hW1⟩ : ∃ W1, w.alloc (.cells #[.slice none 0 0, .int .i64 0] 44) = W1 := ⟨_, rfl⟩
  have Q1 : Hid (FBox w.heap.size W1) := by rw [← hW1]; exact fbox_new w
  have B1 : Hid (Below w.heap.size w W1) := by rw [← hW1]; exact (Below.refl _ w).alloc (Nat.le_refl _) _
  have hsz1 : w.heap.size < W1.heap.size := block_lt Q1.out
  have HW1 := hide hW1
  have e0 : ((file : Int) == 0) = false := by have := h.1; simp; omega
  have f1 : file ≤ 4611686018427387904 := h.1.2
  have b1 : base ≤ 64 := h.2
  clear hW1 h hhl
  go_enter Tryd.func11, Tryd.ntmps11
  go_upto_region 1 with fail
  rw [HW1.out]
  clear HW1
  go_upto_region 5 with fail
  obtain ⟨W2, hW2⟩ : ∃ W2, W1.alloc (.cells #[.int .u8 81, .int .u8 76, .int .u8 79, .int .u8 71, .int .u8 1] 5) = W2 := ⟨_, rfl⟩
  have O2 : Hid (Owns W1.heap.size W2 (.slice (some ⟨W1.heap.size, 0, none⟩) 5 5) [81, 76, 79, 71, 1]) := by
    rw [← hW2]
    exact ⟨owns_of (Nat.le_refl _) (alloc_atK _ _) rfl (by unfold maxLen; omega) (Nat.le_refl _) rfl, by simp, by simp⟩
  have B2 : Hid (Below W1.heap.size W1 W2) := by rw [← hW2]; exact (Below.refl _ _).alloc (Nat.le_refl _) _
  have HW2 := hide hW2
  clear hW2
  go_wp2_with fail
  rw [HW2.out]
  clear HW2
  refine (big_any file 8 _ _ W2 rfl rfl (by omega)).mono ?_
  rintro e W3 ⟨v3, rfl, ho3, hb3⟩
  have B3 : Hid (Below W1.heap.size W1 W3) := B2.out.trans (hb3.mono B2.out.size)
  have J3 := hide (joinO (O2.out.quiet (below_none hb3)) ho3 (by simp [big, big_len]))
  clear ho3 hb3 O2 B2
  go_wp2_with fail
  refine J3.out.mono ?_
  rintro e W4 ⟨v4, rfl, ho4, hb4⟩
  have B4 : Hid (Below W1.heap.size W1 W4) := B3.out.trans (hb4.mono B3.out.size)
  have O4 := hide ho4
  clear ho4 hb4 J3 B3
  go_wp2_with fail
  refine (big_any base 4 _ _ W4 rfl rfl (by omega)).mono ?_
  rintro e W5 ⟨v5, rfl, ho5, hb5⟩
  have B5 : Hid (Below W1.heap.size W1 W5) := B4.out.trans (hb5.mono B4.out.size)
  have J5 := hide (joinO (O4.out.quiet (below_none hb5)) ho5 (by simp [big, big_len]))
  clear ho5 hb5 O4 B4
  go_wp2_with fail
  refine J5.out.mono ?_
  rintro e W6 ⟨v6, rfl, ho6, hb6⟩
  have B6 : Hid (Below W1.heap.size W1 W6) := B5.out.trans (hb6.mono B5.out.size)
  have O6 : Hid (Owns W5.heap.size W6 v6 (hdr0 file base)) := ho6
  have S6 := hide (rsumO O6.out)
  clear ho6 hb6 J5 B5
  go_wp2_with fail
  refine S6.out.mono ?_
  rintro e W7 ⟨rfl, rfl⟩
  have L7 := hide (reflow (Crc.sum (hdr0 file base)) W7 (sum_lt _ (hdr0_lt file base)))
  clear S6
  go_wp2_with fail
  refine L7.out.mono ?_
  rintro e W8 ⟨rfl, ho8, hb8⟩
  have B8 : Hid (Below W1.heap.size W1 W8) := B6.out.trans (hb8.mono B6.out.size)
  have J8 := hide (joinO (O6.out.quiet (below_none hb8)) ho8 (by rw [hdr0_len, low4_len]; omega))
  clear ho8 hb8 L7 O6 B6
  go_wp2_with fail
  refine J8.out.mono ?_
  rintro e W9 ⟨v9, rfl, ho9, hb9⟩
  have B9 : Hid (Below W1.heap.size W1 W9) := B8.out.trans (hb9.mono B8.out.size)
  have O9 : Hid (Owns W1.heap.size W9 v9 (hdr file base)) := ho9.lower B8.out.size
  clear ho9 hb9 J8 B8
  go_wp2_with fail
  refine (HNN.out W9).mono ?_
  rintro e w3 ⟨fo, fc, rfl, G3⟩
  obtain ⟨b, off, hf, hb3⟩ := G3.out
  have B10 : Below W1.heap.size W1 w3 := B9.out.trans (hb3.mono B9.out.size)
  have r3 := Q1.out.kept B10
  have FIN := hide (box_fin r3 hf (B1.out.trans (B10.mono B1.out.size)))
  have O10 := hide (O9.out.quiet (below_none hb3))
  obtain ⟨a9, c9, hv9, -, -⟩ := O9.out.form
  rw [hdr_len] at hv9
  subst hv9
  have y0 := block_cell r3 0
  have y1 := block_cell r3 1
  have g0 := block_free r3 0
  have g1 := block_free r3 1
  simp at y0 y1
  have hl3 := block_lt r3
  clear r3 hf hb3 G3 B1 Q1 B10 O9 B9
  go_wp2
  refine bodyPost_ret (v := .tuple #[.slice a9 21 c9, .agg #[.slice fo 0 fc, .int .i64 0]]) (by simp [results, Tryd.results11, go_sem, y0, y1]) rfl ?_
  obtain ⟨h1, h2, h3⟩ := FIN.out (.slice fo 0 fc) (.int .i64 0)
  exact ⟨a9, c9, fo, fc, rfl, (owns_far O10.out h3 hsz1).lower (Nat.le_of_lt hsz1), h1, h2⟩
end Go.Proofs.YtofddonhoakicaaDoor
