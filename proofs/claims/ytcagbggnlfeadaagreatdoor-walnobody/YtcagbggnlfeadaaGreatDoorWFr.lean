import Derived.Test.YtcagbggnlfeadaaGreatDoorWHd
namespace Go.Proofs.YtcagbggnlfeadaaGreatDoor
open Go.RowKit Crc

def frm0 (i z : Nat) : List Nat := big z 4 ++ big i 4
def frm1 (i z : Nat) : List Nat := frm0 i z ++ low4 (Crc.sum (frm0 i z))
def frm (i : Nat) (B : List Nat) : List Nat := frm1 i B.length ++ B ++ low4 (Crc.sum B)
theorem frm0_len (i z : Nat) : (frm0 i z).length = 8 := by simp [frm0, big, big_len]
theorem frm1_len (i z : Nat) : (frm1 i z).length = 12 := by unfold frm1; rw [List.length_append, frm0_len, low4_len]
theorem frm_len (i : Nat) (B : List Nat) : (frm i B).length = B.length + 16 := by unfold frm; rw [List.length_append, List.length_append, frm1_len, low4_len]; omega
theorem frm0_lt (i z : Nat) : ∀ x ∈ frm0 i z, x < 256 := by
  intro x hx
  rcases List.mem_append.1 hx with hx | hx
  all_goals exact bigTo_lt _ _ _ x hx
theorem frm1_lt (i z : Nat) : ∀ x ∈ frm1 i z, x < 256 := by
  intro x hx
  rcases List.mem_append.1 hx with hx | hx
  · exact frm0_lt i z x hx
  · exact low4_lt _ (sum_lt _ (frm0_lt i z)) x hx
theorem frm_lt (i : Nat) (B : List Nat) (hB : ∀ x ∈ B, x < 256) : ∀ x ∈ frm i B, x < 256 := by
  intro x hx
  rcases List.mem_append.1 hx with hx | hx
  · rcases List.mem_append.1 hx with hx | hx
    · exact frm1_lt _ _ x hx
    · exact hB x hx
  · exact low4_lt _ (sum_lt _ hB) x hx

/-- append(x, y...) of two lists of bytes, the second maybe empty, the first not: as one contract. -/
theorem Owns.app {base : Nat} {w' : World} {v' : Value} {L B : List Nat} (hL : ∀ x ∈ L, x < 256) (hB : ∀ x ∈ B, x < 256) (hl : L.length + B.length ≤ 140737488355328) (ho : w'.ownsRow base 5 1 v' (L.length + B.length) (vals L ++ vals B)) : Owns base w' v' (L ++ B) := by
  refine ⟨?_, ?_, by simpa using hl⟩
  · rw [vals_append, List.length_append]; exact ho
  · intro x hx
    rcases List.mem_append.1 hx with hx | hx
    · exact hL x hx
    · exact hB x hx
theorem append_none_run (a b : Option Addr) (n c m : Nat) (hn : n ≤ c) (w : World) : (Builtin.append_ #[37, 37] 37 #[.slice a n c, .slice b 0 m]).run Tryz.prog w = .ok (.slice a n c) w := by
  obtain ⟨i0, hi, hz0, hz1, hz2⟩ := info_parts Tryz.info5
  cases a <;> cases b <;> simp [Builtin.append_, run_underlying Tryz.underlying37, sizeOf, typeInfo, hi, storeCells, go_sem, hn]

set_option maxRecDepth 10000 in
set_option maxHeartbeats 1600000 in
theorem appendFrame_any {base lim : Nat} {w : World} {sl : Value} {ao : Option Addr} {i n cap : Nat} {B : List Nat} (hO : Owns base w sl []) (hbase : base ≤ w.heap.size) (h0 : 0 < base) (h : Shows lim w ao n cap B) (hlim : lim ≤ base) (hn : n ≤ 60000) (hi0 : i ≤ 2147483647) (hT : Table w) :
    Calls Tryz.prog 54 #[sl, .int .i64 i, .slice ao n cap] w fun e w' => ∃ v', e = .returned v' ∧ Owns base w' v' (frm i B) ∧ Below base w w' := by
  obtain ⟨i0, hi, hz0, hz1, hz2⟩ := info_parts Tryz.info5
  have HT := hide hT
  have HO := hide hO
  have HS := hide h
  have HN : Hid (n = B.length) := h.1
  have HB : Hid (∀ x ∈ B, x < 256) := h.2.2.2.1
  clear hT hO h
  go_enter Tryz.func54, Tryz.ntmps54
  go_wp2_with fail
  refine (appendHigh_any w.heap.size n 4 (.slice none 0 0) _ _ [] w rfl rfl (by omega) (Owns.nil _ _) (by simp) (Nat.le_refl _)).mono ?_
  rintro e w2 ⟨v2, rfl, ho2, he2⟩
  have HO2 := hide ho2
  have HB2 : Hid (Below w.heap.size w w2) := (Below.refl _ _).grown he2.1 (Nat.le_refl _) (fun k h => by cases h)
  clear ho2 he2
  go_wp2_with fail
  refine (appendHigh_any w.heap.size i 4 v2 _ _ _ w2 rfl rfl (by omega) HO2.out (by simp [big, big_len]) HB2.out.size).mono ?_
  rintro e w3 ⟨v3, rfl, ho3, he3⟩
  have HO3 : Hid (Owns w.heap.size w3 v3 (frm0 i n)) := ho3
  have HB3 : Hid (Below w.heap.size w w3) := HB2.out.grown he3.1 HB2.out.size (fun k h => (HO2.out.1.lt k h).1)
  clear ho3 he3 HO2 HB2
  obtain ⟨a3, c3, hv3, hs3, hg3⟩ := HO3.out.form
  subst hv3
  rw [frm0_len] at hs3 HO3 ⊢
  obtain ⟨ad3, ha3, hc3⟩ := shows_cells hs3 (by omega)
  subst ha3
  have HS3 := hide hs3
  have HC3 := hide hc3
  have HG3 : Hid (∀ g, (Value.slice (some ad3) 8 c3).ownBlock = some g → w.heap.size ≤ g) := fun g hg => (HO3.out.1.lt g hg).1
  have HOw : Hid (Owns base w3 sl []) := HO.out.kept (below_none HB3.out) (by cases sl.ownBlock <;> simp)
  clear hs3 hc3 hg3
  go_wp2_with (first
    | (at_builtin; refine wpList_append_ext _ rfl (.tmp 16) (.tmp 17) 37 rfl base 5 i0 (.int .u8 0) Tryz.underlying37 hi hz0 hz1 hz2 rfl sl 0 [] rfl HOw.out.1 ad3 8 c3 (vals (frm0 i n)) rfl (by rw [vals_len, frm0_len]) HC3.out (vals_one' _) (by omega) (by omega) (by have := HB3.out.size; omega) ?_; intro v4 w4 hown4 hext4))
  have HO4 : Hid (Owns base w4 v4 (frm0 i n)) := ⟨by rw [frm0_len]; simpa using hown4, frm0_lt _ _, by rw [frm0_len]; omega⟩
  have HB4 : Hid (Below base w w4) := (HB3.out.mono hbase).grown hext4.1 (by have := HB3.out.size; omega) (fun k h => (HO.out.1.lt k h).1)
  have HH : Hid (Owns w.heap.size w4 (.slice (some ad3) 8 c3) (frm0 i n)) := by
    refine Owns.kept (by have := HO3.out; exact ⟨by rw [frm0_len]; exact this.1, this.2⟩) hext4.1 ?_
    cases e : (Value.slice (some ad3) 8 c3).ownBlock with
    | none => exact .inl rfl
    | some g =>
      refine .inr (fun e2 => ?_)
      have h1 := HG3.out g e
      have h2 := (HO.out.1.lt g e2.symm).2
      omega
  have HX4 : Hid (v4.ownBlock = sl.ownBlock ∨ ∀ g, v4.ownBlock = some g → w.heap.size ≤ g) := by
    show _ ∨ _
    cases e : v4.ownBlock with
    | none => exact .inr (fun g hg => by cases hg)
    | some g =>
      rcases hext4.2 g e with h1 | h1
      · exact .inl h1.symm
      · refine .inr (fun g' hg' => ?_)
        cases hg'
        have := HB3.out.size; omega
  clear hown4 hext4 HO3 HB3 HS3 HC3 HOw
  obtain ⟨a5, c5, hv5, hs5, _⟩ := HH.out.form
  rw [frm0_len] at hs5 hv5
  have HC5 : Hid (Calls Tryz.prog 65 #[v4, .slice (some ad3) 8 c3] w4 fun e w' => ∃ v', e = .returned v' ∧ Owns base w' v' (frm1 i n) ∧ Ext w4 w' v4 v') := by
    rw [hv5]
    exact appendSum_any HO4.out (by rw [frm0_len]; omega) (by have := HB4.out.size; omega) hs5 (HT.out.below HB4.out h0)
  clear hs5 hv5 HX4 HG3
  go_wp2_with fail
  refine HC5.out.mono ?_
  rintro e w5 ⟨v5, rfl, ho5, he5⟩
  have HB5 : Hid (Below base w w5) := HB4.out.grown he5.1 (by have := HB4.out.size; omega) (fun k h => (HO4.out.1.lt k h).1)
  have HO5 := hide ho5
  have HT5 := hide (HT.out.below HB5.out h0)
  have HS5 : Hid (Shows lim w5 ao n cap B) := by
    obtain ⟨p1, p2, p3, p4, b, off, p5, p6, p7⟩ := HS.out
    exact ⟨p1, p2, p3, p4, b, off, p5, p6, fun k hk => (HB5.out.cell (p := ⟨b, off + k, none⟩) (by have := p6 (by omega); show b < base; omega)).trans (p7 k hk)⟩
  clear ho5 he5 HB4 HO4 HH HC5 HO HT HS
  have HF : Hid (frm i B = frm1 i n ++ B ++ low4 (Crc.sum B)) := by show _ = _; unfold frm; rw [← HN.out]
  have HL5 : Hid ((frm1 i n).length = 12) := frm1_len i n
  by_cases hz : n = 0
  · subst hz
    have hB0 : B = [] := List.eq_nil_of_length_eq_zero HN.out.symm
    obtain ⟨g5, cap5, hv5, hb5⟩ := own_shape HO5.out.1 (by rw [HL5.out]; omega)
    have hc5 : 12 ≤ cap5 := by
      have h1 := HO5.out.1
      rw [hv5] at h1
      obtain ⟨cur, _, _, h2, _⟩ := own_block h1
      rw [HL5.out] at h2; exact h2
    rw [HL5.out] at hv5
    have HAN : Hid (∀ w : World, (Builtin.append_ #[37, 37] 37 #[v5, .slice ao 0 cap]).run Tryz.prog w = .ok v5 w) := by
      intro w; rw [hv5]
      exact append_none_run (some ⟨g5, 0, none⟩) ao 12 cap5 cap hc5 w
    have HC6 : Hid (Calls Tryz.prog 65 #[v5, .slice ao 0 cap] w5 fun e w' => ∃ v', e = .returned v' ∧ Owns base w' v' (frm i B) ∧ Ext w5 w' v5 v') := by
      rw [HF.out, hB0, List.append_nil]
      have := HS5.out
      rw [hB0] at this
      exact appendSum_any HO5.out (by rw [HL5.out]; omega) (by have := HB5.out.size; omega) this HT5.out
    clear hv5 hb5 hB0 hc5
    go_wp2_with (first
      | (at_builtin; refine wpList_append_nothing rfl (.tmp 21) (.tmp 22) 37 rfl _ _ rfl rfl (HAN.out _) ?_))
    refine HC6.out.mono ?_
    rintro e w6 ⟨v6, rfl, ho6, he6⟩
    have HO6 := hide ho6
    have HB6 : Hid (Below base w w6) := HB5.out.grown he6.1 (by have := HB5.out.size; omega) (fun k h => (HO5.out.1.lt k h).1)
    clear ho6 he6
    go_wp2
    go_ret
    exact ⟨_, rfl, HO6.out, HB6.out⟩
  · obtain ⟨ad6, ha6, hc6⟩ := shows_cells HS5.out (by omega)
    subst ha6
    have HC6 := hide hc6
    clear hc6
    go_wp2_with (first
      | (at_builtin; refine wpList_append_ext _ rfl (.tmp 21) (.tmp 22) 37 rfl base 5 i0 (.int .u8 0) Tryz.underlying37 hi hz0 hz1 hz2 rfl v5 (frm1 i n).length (vals (frm1 i n)) rfl HO5.out.1 ad6 n cap (vals B) rfl (by rw [vals_len]; exact HN.out.symm) HC6.out (vals_one' _) (by omega) (by rw [HL5.out]; omega) (by have := HB5.out.size; omega) ?_; intro v6 w6 hown6 hext6))
    have HO6 : Hid (Owns base w6 v6 (frm1 i n ++ B)) := Owns.app (frm1_lt _ _) HB.out (by rw [HL5.out, ← HN.out]; omega) (by rw [← HN.out]; exact hown6)
    have HB6 : Hid (Below base w w6) := HB5.out.grown hext6.1 (by have := HB5.out.size; omega) (fun k h => (HO5.out.1.lt k h).1)
    have HB56 : Hid (Below base w5 w6) := (Below.refl _ _).grown hext6.1 (by have := HB5.out.size; omega) (fun k h => (HO5.out.1.lt k h).1)
    have HT6 := hide (HT5.out.below HB56.out h0)
    have HS6 : Hid (Shows lim w6 (some ad6) n cap B) := by
      obtain ⟨p1, p2, p3, p4, b, off, p5, p6, p7⟩ := HS5.out
      exact ⟨p1, p2, p3, p4, b, off, p5, p6, fun k hk => (HB56.out.cell (p := ⟨b, off + k, none⟩) (by have := p6 (by omega); show b < base; omega)).trans (p7 k hk)⟩
    have HC7 : Hid (Calls Tryz.prog 65 #[v6, .slice (some ad6) n cap] w6 fun e w' => ∃ v', e = .returned v' ∧ Owns base w' v' (frm i B) ∧ Ext w6 w' v6 v') := by
      rw [HF.out]
      exact appendSum_any HO6.out (by rw [List.length_append, HL5.out, ← HN.out]; omega) (by have := HB6.out.size; omega) HS6.out HT6.out
    clear hown6 hext6 HB5 HO5 HT5 HS5 HB56 HC6 HT6 HS6
    go_wp2_with fail
    refine HC7.out.mono ?_
    rintro e w7 ⟨v7, rfl, ho7, he7⟩
    have HO7 := hide ho7
    have HB7 : Hid (Below base w w7) := HB6.out.grown he7.1 (by have := HB6.out.size; omega) (fun k h => (HO6.out.1.lt k h).1)
    clear ho7 he7
    go_wp2
    go_ret
    exact ⟨_, rfl, HO7.out, HB7.out⟩

set_option maxRecDepth 10000 in
set_option maxHeartbeats 400000 in
theorem noFrame_ok (i n : Nat) (hi0 : i ≤ 2147483647) (hn : n ≤ 60000) (w : World) :
    Calls Tryz.prog 53 #[.int .i64 (i : Nat), .int .u64 (n : Nat)] w fun e w' => e = .returned (.int .i64 0) ∧ w' = w := by
  go_enter Tryz.func53, Tryz.ntmps53
  go_wp2
  go_ret
  exact ⟨rfl, rfl⟩
set_option maxRecDepth 10000 in
set_option maxHeartbeats 400000 in
theorem noFrame_far (i n : Nat) (hi0 : 2147483647 < i) (w : World) :
    Calls Tryz.prog 53 #[.int .i64 (i : Nat), .int .u64 (n : Nat)] w fun e w' => e = .returned (.int .i64 1) ∧ w' = w := by
  go_enter Tryz.func53, Tryz.ntmps53
  go_wp2
  go_ret
  exact ⟨rfl, rfl⟩
set_option maxRecDepth 10000 in
set_option maxHeartbeats 400000 in
theorem noFrame_long (i n : Nat) (hi0 : i ≤ 2147483647) (hn : 60000 < n) (w : World) :
    Calls Tryz.prog 53 #[.int .i64 (i : Nat), .int .u64 (n : Nat)] w fun e w' => e = .returned (.int .i64 166) ∧ w' = w := by
  go_enter Tryz.func53, Tryz.ntmps53
  go_wp2
  go_ret
  exact ⟨rfl, rfl⟩
set_option maxRecDepth 10000 in
set_option maxHeartbeats 800000 in
theorem frame_ok {lim : Nat} {w : World} {ao : Option Addr} {i n cap : Nat} {B : List Nat} (h : Shows lim w ao n cap B) (hlim : lim ≤ w.heap.size) (h0 : 0 < w.heap.size) (hn : n ≤ 60000) (hi0 : i ≤ 2147483647) (hT : Table w) :
    Calls Tryz.prog 40 #[.int .i64 i, .slice ao n cap] w fun e w' => ∃ v', e = .returned (.tuple #[v', .nilIface]) ∧ Owns w.heap.size w' v' (frm i B) ∧ Below w.heap.size w w' := by
  obtain ⟨i0, hi, hz0, hz1, hz2⟩ := info_parts Tryz.info5
  have HC : Hid (∀ w0 v, w0.ownsRow w.heap.size 5 1 v 0 [] → w.grownBy w0 none → Calls Tryz.prog 54 #[v, .int .i64 i, .slice ao n cap] w0 fun e w' => ∃ v', e = .returned v' ∧ Owns w.heap.size w' v' (frm i B) ∧ Below w.heap.size w w') := by
    intro w0 v ho hg
    have hb : Below w.heap.size w w0 := (Below.refl _ _).grown hg (Nat.le_refl _) (fun k h => by cases h)
    refine (appendFrame_any (base := w.heap.size) (lim := lim) ⟨ho, by simp, by simp⟩ hb.size h0 (h.kept hg (fun g hg => by cases hg)) hlim hn hi0 (hT.below hb h0)).mono ?_
    rintro e w' ⟨v', h1, h2, h3⟩
    exact ⟨v', h1, h2, hb.trans h3⟩
  have HNF := hide (noFrame_ok i n hi0 hn w)
  clear h hT
  go_enter Tryz.func40, Tryz.ntmps40
  go_wp2_with fail
  refine HNF.out.mono ?_
  rintro e w1 ⟨rfl, rfl⟩
  go_wp2_with (first
    | (at_make; refine wpList_make_own _ rfl _ _ 37 rfl w1.heap.size 5 i0 (.int .u8 0) 1 Tryz.underlying37 hi hz0 hz1 .i64 .i64 _ (16 + n) rfl rfl (by omega) (by rw [hz2]; omega) (by unfold maxLen; omega) (Nat.le_refl _) ?_; intro w0 hown0 hgrow0))
  have HC0 := hide (HC.out w0 _ hown0 hgrow0)
  clear hown0 hgrow0 HC
  go_wp2_with fail
  refine HC0.out.mono ?_
  rintro e w7 ⟨v7, rfl, ho7, hb7⟩
  have HO7 := hide ho7
  have HB7 := hide hb7
  clear ho7 hb7
  go_wp2
  go_ret2
  exact ⟨_, rfl, HO7.out, HB7.out⟩
end Go.Proofs.YtcagbggnlfeadaaGreatDoor
