import Derived.Test.YtbfjeabngdiejaaDoorShows
import Derived.Test.YtbfjeabngdiejaaDoorFrameMath
namespace Go.Proofs.YtbfjeabngdiejaaDoor
open Go.RowKit Crc

set_option maxHeartbeats 800000 in
theorem big_any (v s : Nat) (vi si : Int) (w : World) (hvi : vi = (v : Int)) (hsi : si = (s : Int)) (hs : s ≤ 8) :
    Calls Tryd.prog 21 #[.int .u64 vi, .int .i64 si] w fun e w' => ∃ v', e = .returned v' ∧ Owns w.heap.size w' v' (big v s) ∧ Below w.heap.size w w' := by
  obtain ⟨i0, hi, hz0, hz1, hz2⟩ := info_parts Tryd.info5
  subst hvi
  subst hsi
  go_enter Tryd.func21, Tryd.ntmps21
  go_wp2
  go_loopw [5, 6] (fun sl i wr => ∃ j : Nat, j ≤ s ∧ i = .int .i64 ((s : Int) - 1 - (j : Int)) ∧ Hid (Owns w.heap.size wr sl (bigTo v s j)) ∧ Below w.heap.size w wr) (fun _ i _ => (intOf i + 1).toNat)
  case atStart => exact ⟨0, by omega, by go_num, Owns.nil _ _, Below.refl _ _⟩
  case round =>
    obtain ⟨j, hj, rfl, HO, hnx⟩ := hrel
    have hsize := hnx.size
    by_cases hlt : j < s
    · obtain ⟨i, hi'⟩ : ∃ i : Nat, i + j + 1 = s := ⟨s - 1 - j, by omega⟩
      have he : (s : Int) - 1 - (j : Int) = (i : Int) := by omega
      have HI : Hid (i = s - 1 - j) := by show _ = _; omega
      have hi8 : i ≤ 7 := by omega
      have HTS : Hid (bigTo v s (j + 1) = bigTo v s j ++ [v / 2 ^ (8 * i) % 256]) := by
        show _ = _
        simp only [bigTo]
        rw [← HI.out]
      have HTL : Hid ((bigTo v s j).length = j) := big_len v s j
      have HHO : Hid (wr.ownsRow w.heap.size 5 1 u5 j (vals (bigTo v s j))) := by
        show wr.ownsRow _ _ _ _ _ _
        have := HO.out.1; rw [HTL.out] at this; exact this
      clear hi'
      go_wp2_with (first
        | (at_builtin; refine wpList_append_own _ rfl (.tmp 13) (.tmp 20) 22 rfl w.heap.size 5 i0 (.int .u8 0) 1 1 Tryd.underlying22 hi hz0 hz1 hz2 rfl (by decide) u5 j (vals (bigTo v s j)) rfl (HHO.out.alloc _) ⟨wr.heap.size, 0, none⟩ 1 1 [.int .u8 ((v : Int) / (2 : Int) ^ (8 * i) % (256 : Int))] rfl rfl (cell_one_new _ _ _) (Shade.one _ rfl) (by unfold maxLen; omega) (by omega) (by simp; omega) ?_; intro v' w1 hown1 hgrow1 _))
      go_roundw
      case rel =>
        refine ⟨j + 1, by omega, by have := HI.out; go_num, ?_, (hnx.alloc (by omega) _).grown hgrow1 (by simp; omega) (fun j hj => (HHO.out.lt j hj).1)⟩
        show Owns _ _ _ _
        rw [HTS.out]
        exact HO.out.snoc (Nat.mod_lt _ (by omega)) (by rw [HTL.out]; omega) (by rw [HTL.out, big_byte]; exact hown1)
      case measure => simp [intOf]; omega
    · obtain rfl : j = s := by omega
      go_wp2
      go_ret
      exact ⟨_, rfl, HO.out, hnx⟩

set_option maxRecDepth 100000 in
set_option maxHeartbeats 400000 in
theorem refframe_long (k : Int) (ao : Option Addr) (n cap : Nat) (w : World) (h : 65495 < n) (hl : n ≤ 140737488355328) :
    Calls Tryd.prog 9 #[.int .i64 k, .slice ao n cap] w fun e w' => e = .returned (.tuple #[.slice none 0 0, .agg #[.int .i64 21, .int .i64 65507]]) ∧ Below w.heap.size w w' := by
  have h' : decide ((65507 : Int) < (n : Int) + 12) = true := by simp; omega
  go_enter Tryd.func9, Tryd.ntmps9
  go_wp2_with fail
  refine bodyPost_ret (v := .tuple #[.slice none 0 0, .agg #[.int .i64 21, .int .i64 65507]]) (by simp [results, Tryd.results9, go_sem]) rfl ⟨rfl, ?_⟩
  repeat (first | exact Below.refl _ _ | exact Nat.le_refl _ | apply Below.setCell | apply Below.alloc)

theorem low4_step (S j : Nat) (hS : S < 4294967296) (hj : j < 4) : (low4 S).take (j + 1) = (low4 S).take j ++ [S / 2 ^ (8 * j) % 256] := by
  have h3 : S / 16777216 % 256 = S / 16777216 := by omega
  match j, hj with
  | 0, _ => simp [low4]
  | 1, _ => simp [low4]
  | 2, _ => simp [low4]
  | 3, _ => simp [low4, h3]
theorem grown_set' (w : World) (g j : Nat) (u : Value) : w.grownBy (w.setCell ⟨g, j, none⟩ u) (some g) :=
  ⟨rfl, rfl, rfl, by simp, fun k _ hk => heap_setCell_other w ⟨g, j, none⟩ k u (fun e => hk (by simp [e]))⟩
theorem Owns.lower {b b' : Nat} {w : World} {v : Value} {B : List Nat} (h : Owns b w v B) (hb : b' ≤ b) : Owns b' w v B := by
  refine ⟨⟨h.1.1, ?_⟩, h.2⟩
  rcases h.1.2 with h0 | ⟨g, cap, cur, hv, hbg, rest⟩
  · exact .inl h0
  · exact .inr ⟨g, cap, cur, hv, by omega, rest⟩
theorem own_shape' {w : World} {base n : Nat} {v : Value} {xs : List Value} (h : w.ownsRow base 5 1 v n xs) (hn : 0 < n) : ∃ g cap, v = .slice (some ⟨g, 0, none⟩) n cap ∧ base ≤ g := by
  rcases h.2 with ⟨_, h0⟩ | ⟨g, cap, cur, rfl, hbg, _⟩
  · omega
  · exact ⟨g, cap, rfl, hbg⟩

set_option maxRecDepth 100000 in
set_option maxHeartbeats 1600000 in
theorem refframe_ok (k : Nat) (ao : Option Addr) (B : List Nat) (n cap lim : Nat) (w : World) (hB : Shows lim w ao n cap B) (hlim : lim ≤ w.heap.size) (hk : k < 256) (hl : n ≤ 65495) :
    Calls Tryd.prog 9 #[.int .i64 k, .slice ao n cap] w fun e w' => ∃ v, e = .returned (.tuple #[v, .agg #[.int .i64 0, .int .i64 0]]) ∧ Owns w.heap.size w' v (frameB k B) ∧ Below w.heap.size w w' := by
  obtain ⟨i0, hi, hz0, hz1, hz2⟩ := info_parts Tryd.info5
  have HN : Hid (n = B.length) := hB.1
  have HLT : Hid (∀ x ∈ B, x < 256) := hB.2.2.2.1
  have HK : Hid (k < 256) := hk
  have HS : Hid (∀ w1 : World, Below w.heap.size w w1 → Shows lim w1 ao n cap B) := fun w1 hb => hB.kept (row := none) (below_none hb) (fun g h => by cases h)
  have HL : Hid (lim ≤ w.heap.size) := hlim
  have hkk : (k : Int) % 256 = (k : Int) := by omega
  have h' : decide ((65507 : Int) < (n : Int) + 12) = false := by simp; omega
  clear hB hlim
  go_enter Tryd.func9, Tryd.ntmps9
  go_wp2_with fail
  have HF : Hid (∀ w1 : World, Below (w.heap.size + 1) (w.alloc (.cells #[.int .i64 0, .int .i64 0] 34)) w1 → Below w.heap.size w w1) := fun w1 hb => ((Below.refl _ _).alloc (Nat.le_refl _) _).trans (hb.mono (by omega))
  refine (big_any n 4 _ _ _ rfl rfl (by omega)).mono ?_
  rintro e w1 ⟨v1, rfl, ho1, hb1⟩
  have HB1 : Hid (Below (w.heap.size + 1) (w.alloc (.cells #[.int .i64 0, .int .i64 0] 34)) w1) := ((Below.refl _ _).alloc (by simp) _).trans (hb1.mono (by simp))
  have HH1 : Hid (Shows w1.heap.size w1 (some ⟨w.heap.size + 1, 0, none⟩) 4 4 [81, 77, 1, k]) := by
    have hs := hb1.size
    simp at hs
    refine ⟨rfl, by omega, by omega, by intro x hx; simp at hx; rcases hx with rfl | rfl | rfl | rfl <;> omega, w.heap.size + 1, 0, fun _ => rfl, fun _ => by omega, fun i hi => ?_⟩
    rw [hb1.cell (p := ⟨w.heap.size + 1, 0 + i, none⟩) (by simp)]
    match i, hi with
    | 0, _ => simp
    | 1, _ => simp
    | 2, _ => simp
    | 3, _ => simp
  obtain ⟨a1, c1, rfl, hs1, hf1⟩ := ho1.form
  have HS1 : Hid (Shows w1.heap.size w1 a1 (big n 4).length c1 (big n 4)) := hs1
  have hl4 : (big n 4).length = 4 := big_len n 4 4
  rw [hl4] at HS1
  clear ho1 hb1 hs1 hf1
  rw [hl4]
  go_wp2_with fail
  refine (join_any HH1.out (Nat.le_refl _) HS1.out (Nat.le_refl _) (by simp)).mono ?_
  rintro e w2 ⟨v2, rfl, ho2, hb2⟩
  have HB2 : Hid (Below (w.heap.size + 1) (w.alloc (.cells #[.int .i64 0, .int .i64 0] 34)) w2) := HB1.out.trans (hb2.mono (by have := HB1.out.size; simpa using this))
  obtain ⟨a2, c2, rfl, hs2, hf2⟩ := ho2.form
  have HS2 : Hid (Shows w2.heap.size w2 a2 ([81, 77, 1, k] ++ big n 4).length c2 ([81, 77, 1, k] ++ big n 4)) := hs2
  have hl8 : ([81, 77, 1, k] ++ big n 4).length = 8 := by rw [List.length_append, hl4]; rfl
  clear ho2 hb2 hs2 hf2 HH1 HS1 HB1
  rw [hl8] at HS2 ⊢
  go_wp2_with fail
  refine (join_any HS2.out (Nat.le_refl _) (HS.out w2 (HF.out w2 HB2.out)) (by have := HL.out; have := (HF.out w2 HB2.out).size; omega) (by rw [hl8]; omega)).mono ?_
  rintro e w3 ⟨v3, rfl, ho3, hb3⟩
  have HB3 : Hid (Below (w.heap.size + 1) (w.alloc (.cells #[.int .i64 0, .int .i64 0] 34)) w3) := HB2.out.trans (hb3.mono (by have := HB2.out.size; simpa using this))
  have HBS3 : Hid (w.heap.size + 1 ≤ w2.heap.size) := by show _ ≤ _; have := HB2.out.size; simpa using this
  have HH : Hid ([81, 77, 1, k] ++ big n 4 ++ B = headB k B) := by show _ = _; unfold headB; rw [HN.out]; rfl
  rw [HH.out] at ho3
  have HO3 : Hid (Owns w2.heap.size w3 v3 (headB k B)) := ho3
  obtain ⟨a3, c3, rfl, hs3, hf3⟩ := ho3.form
  have HS3 : Hid (Shows w3.heap.size w3 a3 (headB k B).length c3 (headB k B)) := hs3
  have HLH : Hid ((headB k B).length = 8 + n) := by show _ = _; rw [headB_len, HN.out]
  clear ho3 hb3 hs3 hf3 HS2 HB2 hl8 hl4
  rw [HLH.out] at HS3 HO3 ⊢
  go_wp2_with fail
  obtain ⟨_, _, _, _, bb, oo, q5, _, q7⟩ := HS3.out
  refine (ref_any bb oo a3 (headB k B) (8 + n) c3 w3 q5 HLH.out.symm (by omega) (headB_lt k B HK.out HLT.out) q7).mono ?_
  rintro e w4 ⟨rfl, rfl⟩
  clear q5 q7
  have hSlt := sum_lt _ (headB_lt k B HK.out HLT.out)
  have HFB : Hid (frameB k B = headB k B ++ low4 (Crc.sum (headB k B))) := rfl
  generalize Crc.sum (headB k B) = S at *
  go_wp2
  go_loopw [6, 8] (fun v i wr => ∃ j : Nat, j ≤ 4 ∧ i = .int .i64 j ∧ Hid (Owns w2.heap.size wr v (headB k B ++ (low4 S).take j)) ∧ Below (w.heap.size + 1) (w.alloc (.cells #[.int .i64 0, .int .i64 0] 34)) wr) (fun _ i _ => 4 - (intOf i).toNat)
  case atStart => exact ⟨0, by omega, rfl, by show Owns _ _ _ _; rw [List.take_zero, List.append_nil]; have h := HO3.out; rw [← HLH.out] at h; exact h, HB3.out⟩
  case round =>
    clear HO3 HB3 HS3
    obtain ⟨j, hj, rfl, HO, hnx⟩ := hrel
    have hsize := hnx.size
    simp at hsize
    by_cases hlt : j < 4
    · have HTS : Hid (headB k B ++ (low4 S).take (j + 1) = (headB k B ++ (low4 S).take j) ++ [S / 2 ^ (8 * j) % 256]) := by show _ = _; rw [low4_step S j hSlt hlt, List.append_assoc]
      have HTL : Hid ((headB k B ++ (low4 S).take j).length = 8 + n + j) := by
        show _ = _; rw [List.length_append, List.length_take, HLH.out]; simp [low4]; omega
      have HHO : Hid (wr.ownsRow w2.heap.size 5 1 u6 (8 + n + j) (vals (headB k B ++ (low4 S).take j))) := by
        show wr.ownsRow _ _ _ _ _ _
        have := HO.out.1; rw [HTL.out] at this; exact this
      have HSW : Hid (w2.heap.size ≤ wr.heap.size) := by
        show _ ≤ _
        obtain ⟨g, cap, hv, hg⟩ := own_shape' HHO.out (by omega)
        have h2 := HHO.out.lt g (by rw [hv]; rfl)
        omega
      go_wp2_with (first
        | (at_builtin; refine wpList_append_own _ rfl (.tmp 31) (.tmp 38) 22 rfl w2.heap.size 5 i0 (.int .u8 0) 1 1 Tryd.underlying22 hi hz0 hz1 hz2 rfl (by decide) u6 (8 + n + j) (vals (headB k B ++ (low4 S).take j)) rfl (HHO.out.alloc _) ⟨wr.heap.size, 0, none⟩ 1 1 [.int .u8 ((S : Int) / (2 : Int) ^ (8 * j) % (256 : Int))] rfl rfl (cell_one_new _ _ _) (Shade.one _ rfl) (by unfold maxLen; omega) (by omega) (by have := HSW.out; simp; omega) ?_; intro v' w1 hown1 hgrow1 _))
      go_roundw
      case rel =>
        refine ⟨j + 1, by omega, by go_num, ?_, (hnx.alloc (by omega) _).grown hgrow1 (by simp; omega) (fun i hi => by have := (HHO.out.lt i hi).1; have := HBS3.out; omega)⟩
        show Owns _ _ _ _
        rw [HTS.out]
        exact HO.out.snoc (Nat.mod_lt _ (by omega)) (by rw [HTL.out]; omega) (by rw [HTL.out, big_byte]; exact hown1)
      case measure => simp [intOf]; omega
    · obtain rfl : j = 4 := by omega
      have k0 := hnx.cell (p := ⟨w.heap.size, 0, none⟩) (by simp)
      have k1 := hnx.cell (p := ⟨w.heap.size, 1, none⟩) (by simp)
      have f0 := hnx.frozen (p := ⟨w.heap.size, 0, none⟩) (by simp)
      have f1 := hnx.frozen (p := ⟨w.heap.size, 1, none⟩) (by simp)
      simp at k0 k1 f0 f1
      have HTS : Hid (headB k B ++ (low4 S).take 4 = frameB k B) := by show _ = _; rw [HFB.out]; rfl
      go_wp2_with fail
      refine bodyPost_ret (v := .tuple #[u6, .agg #[.int .i64 0, .int .i64 0]]) (by simp [results, Tryd.results9, go_sem, k0, k1]) rfl ⟨u6, rfl, ?_, ?_⟩
      · have h := HO.out
        rw [HTS.out] at h
        have hne : u6.ownBlock = none ∨ u6.ownBlock ≠ some w.heap.size := by
          refine .inr (fun e => ?_)
          have := (h.1.lt _ e).1
          have := HBS3.out
          omega
        exact ((h.kept (grown_set' _ _ _ _) hne).kept (grown_set' _ _ _ _) hne).lower (by have := HBS3.out; omega)
      · exact ((HF.out _ hnx).setCell (Nat.le_refl _) _).setCell (Nat.le_refl _) _
end Go.Proofs.YtbfjeabngdiejaaDoor
