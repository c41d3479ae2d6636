import Derived.Test.YtcagbggnlfeadaaGreatDoorWLd
namespace Go.Proofs.YtcagbggnlfeadaaGreatDoor
open Crc

theorem sumFrom_app (s : Nat) (A B : List Nat) : sumFrom s (A ++ B) = sumFrom (sumFrom s A) B := by simp [sumFrom]
theorem L_inj0 (x : Nat) (hx : x < 4294967296) (h : L x = 0) : x = 0 := by
  unfold L at h
  rw [Nat.shiftRight_eq_div_pow] at h
  by_cases ho : x % 2 = 1
  · rw [if_pos ho] at h
    have h2 : x / 2 ^ 1 = 2197175160 := by
      have := congrArg (· ^^^ 2197175160) h
      simpa [Nat.xor_assoc] using this
    omega
  · rw [if_neg ho, Nat.xor_zero] at h
    omega
theorem xor_zero_iff (a b : Nat) (h : a ^^^ b = 0) : a = b := by
  have := congrArg (· ^^^ b) h
  simpa [Nat.xor_assoc] using this
theorem L_inj (a b : Nat) (ha : a < 4294967296) (hb : b < 4294967296) (h : L a = L b) : a = b := by
  apply xor_zero_iff
  apply L_inj0 _ (xor_lt32 a b ha hb)
  rw [L_xor, h, Nat.xor_self]
theorem L8_inj (a b : Nat) (ha : a < 4294967296) (hb : b < 4294967296) (h : L8 a = L8 b) : a = b := by
  unfold L8 L4 at h
  have la := fun x hx => L_lt x hx
  have h1 := L_inj _ _ (la _ (la _ (la _ (la _ (la _ (la _ (la _ ha))))))) (la _ (la _ (la _ (la _ (la _ (la _ (la _ hb))))))) h
  have h2 := L_inj _ _ (la _ (la _ (la _ (la _ (la _ (la _ ha)))))) (la _ (la _ (la _ (la _ (la _ (la _ hb)))))) h1
  have h3 := L_inj _ _ (la _ (la _ (la _ (la _ (la _ ha))))) (la _ (la _ (la _ (la _ (la _ hb))))) h2
  have h4 := L_inj _ _ (la _ (la _ (la _ (la _ ha)))) (la _ (la _ (la _ (la _ hb)))) h3
  have h5 := L_inj _ _ (la _ (la _ (la _ ha))) (la _ (la _ (la _ hb))) h4
  have h6 := L_inj _ _ (la _ (la _ ha)) (la _ (la _ hb)) h5
  have h7 := L_inj _ _ (la _ ha) (la _ hb) h6
  exact L_inj _ _ ha hb h7
theorem sumFrom_inj (T : List Nat) (hT : ∀ x ∈ T, x < 256) : ∀ a b, a < 4294967296 → b < 4294967296 → sumFrom a T = sumFrom b T → a = b := by
  induction T with
  | nil => intro a b _ _ h; exact h
  | cons c r ih =>
    intro a b ha hb h
    have hc := hT c (by simp)
    have h1 := ih (fun x hx => hT x (by simp [hx])) _ _ (L8_lt _ (xor_lt32 a c ha (by omega))) (L8_lt _ (xor_lt32 b c hb (by omega))) h
    have h2 := L8_inj _ _ (xor_lt32 a c ha (by omega)) (xor_lt32 b c hb (by omega)) h1
    have := congrArg (· ^^^ c) h2
    simpa [Nat.xor_assoc] using this
/-- One byte changed: another sum. -/
theorem sum_one (A T : List Nat) (c d : Nat) (hA : ∀ x ∈ A, x < 256) (hT : ∀ x ∈ T, x < 256) (hc : c < 256) (hd : d < 256) (h : Crc.sum (A ++ c :: T) = Crc.sum (A ++ d :: T)) : c = d := by
  unfold Crc.sum at h
  have h1 : sumFrom 4294967295 (A ++ c :: T) = sumFrom 4294967295 (A ++ d :: T) := by
    have := congrArg (· ^^^ 4294967295) h
    simpa [Nat.xor_assoc] using this
  rw [sumFrom_app, sumFrom_app] at h1
  have hs := sumFrom_lt A 4294967295 (by omega) hA
  have h2 := sumFrom_inj T hT _ _ (L8_lt _ (xor_lt32 _ c hs (by omega))) (L8_lt _ (xor_lt32 _ d hs (by omega))) h1
  have h3 := L8_inj _ _ (xor_lt32 _ c hs (by omega)) (xor_lt32 _ d hs (by omega)) h2
  have := congrArg (fun x => sumFrom 4294967295 A ^^^ x) h3
  simpa [← Nat.xor_assoc] using this
/-- One byte put elsewise. -/
def flp (B : List Nat) (i r : Nat) : List Nat := B.set i (B.getD i 0 ^^^ 2 ^ r)
theorem flp_len (B : List Nat) (i r : Nat) : (flp B i r).length = B.length := by simp [flp]
theorem xor_ne (c r : Nat) : c ^^^ 2 ^ r ≠ c := by
  intro h
  have := congrArg (fun x => c ^^^ x) h
  simp only [← Nat.xor_assoc, Nat.xor_self, Nat.zero_xor] at this
  have h2 := Nat.one_le_two_pow (n := r)
  omega
theorem xor_lt8 (c r : Nat) (hc : c < 256) (hr : r < 8) : c ^^^ 2 ^ r < 256 := Nat.xor_lt_two_pow (n := 8) hc (Nat.pow_lt_pow_right (by omega) hr)
theorem flp_lt (B : List Nat) (i r : Nat) (hr : r < 8) (hB : ∀ x ∈ B, x < 256) : ∀ x ∈ flp B i r, x < 256 := by
  intro x hx
  rcases List.mem_or_eq_of_mem_set hx with h | h
  · exact hB x h
  · rw [h]; exact xor_lt8 _ _ (getD_lt B hB i) hr
theorem flp_left (A B : List Nat) (i r : Nat) (h : i < A.length) : flp (A ++ B) i r = flp A i r ++ B := by
  unfold flp
  rw [List.set_append_left _ _ h, List.getD_eq_getElem?_getD, List.getD_eq_getElem?_getD, List.getElem?_append_left h]
theorem flp_right (A B : List Nat) (i r : Nat) : flp (A ++ B) (A.length + i) r = A ++ flp B i r := by
  unfold flp
  rw [List.set_append_right _ _ (by omega), List.getD_eq_getElem?_getD, List.getD_eq_getElem?_getD, List.getElem?_append_right (by omega), Nat.add_sub_cancel_left]
theorem flp_split (B : List Nat) (i r : Nat) (h : i < B.length) : ∃ A T c, B = A ++ c :: T ∧ flp B i r = A ++ (c ^^^ 2 ^ r) :: T ∧ A.length = i := by
  have key : ∀ (A T : List Nat) (c : Nat), flp (A ++ c :: T) A.length r = A ++ (c ^^^ 2 ^ r) :: T := by
    intro A T c
    have := flp_right A (c :: T) 0 r
    rw [Nat.add_zero] at this
    rw [this]
    simp [flp]
  have e : B = B.take i ++ B[i] :: B.drop (i + 1) := by rw [List.getElem_cons_drop, List.take_append_drop]
  have hl : (B.take i).length = i := by rw [List.length_take]; omega
  generalize B.take i = A at *
  generalize B[i] = c at *
  generalize B.drop (i + 1) = T at *
  exact ⟨A, T, c, e, by rw [e, ← hl]; exact key A T c, hl⟩
theorem flp_ne (B : List Nat) (i r : Nat) (h : i < B.length) : flp B i r ≠ B := by
  obtain ⟨A, T, c, h1, h2, _⟩ := flp_split B i r h
  intro e
  rw [h2] at e
  conv at e => rhs; rw [h1]
  have := List.append_cancel_left e
  simp at this
  exact xor_ne c r this
theorem sum_flp (B : List Nat) (i r : Nat) (h : i < B.length) (hr : r < 8) (hB : ∀ x ∈ B, x < 256) : Crc.sum (flp B i r) ≠ Crc.sum B := by
  obtain ⟨A, T, c, h1, h2, _⟩ := flp_split B i r h
  intro e
  rw [h2] at e
  conv at e => rhs; rw [h1]
  have hA : ∀ x ∈ A, x < 256 := fun x hx => hB x (by rw [h1]; simp [hx])
  have hT : ∀ x ∈ T, x < 256 := fun x hx => hB x (by rw [h1]; simp [hx])
  have hc : c < 256 := hB c (by rw [h1]; simp)
  exact xor_ne c r (sum_one A T _ _ hA hT (xor_lt8 c r hc hr) hc e)
theorem low4_inj (a b : Nat) (h : low4 a = low4 b) : a = b := by
  unfold low4 at h
  simp at h
  omega
theorem hi_append (A : List Nat) (c : Nat) : hi (A ++ [c]) = hi A * 256 + c := by simp [hi, List.foldl_append]
theorem hi_big4 (v : Nat) (hv : v < 4294967296) : hi (big v 4) = v := by
  unfold big
  simp only [bigTo, hi_append]
  simp [hi]
  omega
/-- What is asked of the first bytes, where they are in parts. -/
theorem whole_split (X S R : List Nat) (i : Nat) (hX : X.length = 8) (hS : S.length = 4) : whole (X ++ S ++ R) i =
    if 12 + R.length < 16 then none else if ¬ low4 (Crc.sum X) = S then none else if ¬ hi (X.drop 4) = i then none else if 2147483647 < i then none else if 60000 < hi (X.take 4) then none else if 12 + R.length < 16 + hi (X.take 4) then none
    else if ¬ low4 (Crc.sum (R.take (hi (X.take 4)))) = (R.drop (hi (X.take 4))).take 4 then none else some (hi (X.take 4)) := by
  have e1 : (X ++ S ++ R).length = 12 + R.length := by simp [hX, hS]; omega
  have e2 : (X ++ S ++ R).take 8 = X := by rw [List.append_assoc, List.take_append_of_le_length (by omega), List.take_of_length_le (by omega)]
  have e3 : ((X ++ S ++ R).drop 8).take 4 = S := by
    rw [List.append_assoc, List.drop_append, List.drop_of_length_le (by omega), hX]
    simp [hS]
  have e4 : ((X ++ S ++ R).drop 4).take 4 = X.drop 4 := by
    rw [List.append_assoc, List.drop_append, show 4 - X.length = 0 by omega, List.drop_zero, List.take_append_of_le_length (by rw [List.length_drop]; omega), List.take_of_length_le (by rw [List.length_drop]; omega)]
  have e5 : (X ++ S ++ R).take 4 = X.take 4 := by rw [List.append_assoc, List.take_append_of_le_length (by omega)]
  have e6 : (X ++ S ++ R).drop 12 = R := by
    rw [List.drop_append, List.drop_of_length_le (by rw [List.length_append]; omega)]
    simp [hX, hS]
  have e7 : ∀ z, (X ++ S ++ R).drop (12 + z) = R.drop z := by intro z; rw [← List.drop_drop, e6]
  unfold whole
  rw [e1, e2, e3, e4, e5, e6, e7]
theorem frm0_take (i z : Nat) : (frm0 i z).take 4 = big z 4 := by
  unfold frm0
  rw [List.take_append_of_le_length (by simp [big, big_len]), List.take_of_length_le (by simp [big, big_len])]
theorem frm0_drop (i z : Nat) : (frm0 i z).drop 4 = big i 4 := by
  unfold frm0
  rw [List.drop_append, List.drop_of_length_le (by simp [big, big_len])]
  simp [big, big_len]
/-- A frame is whole, whatever lies behind it. -/
theorem whole_frm (i : Nat) (B T : List Nat) (hi4 : i ≤ 2147483647) (hB : B.length ≤ 60000) : whole (frm i B ++ T) i = some B.length := by
  unfold frm frm1
  rw [List.append_assoc, List.append_assoc, whole_split _ _ _ _ (frm0_len _ _) (low4_len _), frm0_take, frm0_drop, hi_big4 _ (by omega), hi_big4 _ (by omega)]
  rw [if_neg (by simp [low4_len]; omega), if_neg (by simp), if_neg (by simp), if_neg (by omega), if_neg (by omega), if_neg (by simp [low4_len]; omega), if_neg]
  rw [List.take_append_of_le_length (by omega), List.take_of_length_le (by omega), List.drop_append, List.drop_of_length_le (by omega), Nat.sub_self, List.drop_zero, List.nil_append, List.take_append_of_le_length (by rw [low4_len]; omega), List.take_of_length_le (by rw [low4_len]; omega)]
  simp
theorem frs_app (Ls : List (List Nat)) (T : List Nat) (f : Nat) : ∀ i, i + Ls.length ≤ 2147483648 → (∀ B ∈ Ls, B.length ≤ 60000) → frs (Ls.length + f) (frl i Ls ++ T) i = (Ls ++ (frs f T (i + Ls.length)).1, tot Ls + (frs f T (i + Ls.length)).2) := by
  induction Ls with
  | nil => intro i _ _; simp [frl, tot]
  | cons B r ih =>
    intro i hi4 h6
    simp only [List.length_cons] at hi4 ⊢
    have hw : whole (frl i (B :: r) ++ T) i = some B.length := by
      simp only [frl]; rw [List.append_assoc]; exact whole_frm i B _ (by omega) (h6 B (by simp))
    rw [show r.length + 1 + f = (r.length + f) + 1 by omega, frs_some _ _ _ _ hw]
    have e1 : (frl i (B :: r) ++ T).drop (16 + B.length) = frl (i + 1) r ++ T := by
      simp only [frl]
      rw [List.append_assoc, List.drop_append, List.drop_of_length_le (by rw [frm_len]; omega), frm_len, show 16 + B.length - (B.length + 16) = 0 by omega]
      simp
    have e2 : ((frl i (B :: r) ++ T).drop 12).take B.length = B := by
      simp only [frl, frm]
      rw [List.append_assoc, List.append_assoc, List.append_assoc, List.drop_append, List.drop_of_length_le (by rw [frm1_len]; omega), frm1_len]
      simp
    rw [e1, e2, ih (i + 1) (by omega) (fun C hC => h6 C (by simp [hC])), show i + 1 + r.length = i + (r.length + 1) by omega]
    simp only [tot, List.cons_append, Prod.mk.injEq, true_and]
    omega
theorem frs_stop (Ls : List (List Nat)) (T : List Nat) (g : Nat) (hg : Ls.length ≤ g) (h4 : Ls.length ≤ 2147483648) (h6 : ∀ B ∈ Ls, B.length ≤ 60000) (hT : whole T Ls.length = none) : frs g (frl 0 Ls ++ T) 0 = (Ls, tot Ls) := by
  obtain ⟨f, rfl⟩ : ∃ f, g = Ls.length + f := ⟨g - Ls.length, by omega⟩
  rw [frs_app Ls T f 0 (by omega) h6, Nat.zero_add, frs_none _ _ _ hT]
  simp
theorem bs_hdr (file base : Nat) (R : List Nat) (hb : base < 4294967296) : bsOf (hdr file base ++ R) = base := by
  unfold bsOf hdr hdr0
  rw [List.append_assoc, List.append_assoc, List.drop_append, List.drop_of_length_le (by simp [big, big_len])]
  simp [big, big_len]
  have := hi_big4 base hb
  unfold big at this
  exact this
theorem hdr_take (file base : Nat) (R : List Nat) : (hdr file base ++ R).take 21 = hdr file base := by
  rw [List.take_append_of_le_length (by rw [hdr_len]; omega), List.take_of_length_le (by rw [hdr_len]; omega)]
/-- A right header, whole frames, and something that begins by none. -/
theorem scn_of (file base : Nat) (Ls : List (List Nat)) (T : List Nat) (hok : hdOk file base) (h4 : Ls.length ≤ 2147483648) (h6 : ∀ B ∈ Ls, B.length ≤ 60000) (hT : whole T Ls.length = none) :
    scn file (hdr file base ++ (frl 0 Ls ++ T)) = if Ls.length < base then none else some (base, Ls, 21 + tot Ls) := by
  have hb : bsOf (hdr file base ++ (frl 0 Ls ++ T)) = base := bs_hdr file base _ (by have := hok.2; omega)
  have hd : (hdr file base ++ (frl 0 Ls ++ T)).drop 21 = frl 0 Ls ++ T := by
    rw [List.drop_append, List.drop_of_length_le (by rw [hdr_len]; omega), hdr_len]; simp
  have hl : (hdr file base ++ (frl 0 Ls ++ T)).length = 21 + (tot Ls + T.length) := by rw [List.length_append, List.length_append, hdr_len, frl_len]
  have his : hdIs file (hdr file base ++ (frl 0 Ls ++ T)) := by
    unfold hdIs
    rw [hb, hdr_take]
    exact ⟨hok, rfl⟩
  unfold scn
  rw [if_neg (by rw [hl]; omega), if_neg (by simpa using his), hd, hb, frs_stop Ls T _ (by rw [List.length_append, frl_len]; have := tot_ge Ls; omega) h4 h6 hT]
theorem whole_short (T : List Nat) (i : Nat) (h : T.length < 16) : whole T i = none := by unfold whole; rw [if_pos h]
theorem whole_cut (i c : Nat) (B R : List Nat) (hB : B.length ≤ 60000) (hc : c < B.length + 16) : whole ((frm i B ++ R).take c) i = none := by
  by_cases h16 : c < 16
  · exact whole_short _ _ (by rw [List.length_take]; omega)
  · have e : (frm i B ++ R).take c = frm0 i B.length ++ low4 (Crc.sum (frm0 i B.length)) ++ (B ++ (low4 (Crc.sum B) ++ R)).take (c - 12) := by
      unfold frm frm1
      rw [List.append_assoc, List.append_assoc, List.take_append, List.take_of_length_le (by rw [List.length_append, frm0_len, low4_len]; omega), List.length_append, frm0_len, low4_len]
    rw [e, whole_split _ _ _ _ (frm0_len _ _) (low4_len _), frm0_take, hi_big4 _ (by omega)]
    have hl : ((B ++ (low4 (Crc.sum B) ++ R)).take (c - 12)).length ≤ c - 12 := by rw [List.length_take]; omega
    split
    · rfl
    · split
      · rfl
      · split
        · rfl
        · split
          · rfl
          · split
            · rfl
            · rw [if_pos (by omega)]
theorem whole_flip (i c r : Nat) (B R : List Nat) (hr : r < 8) (hB : B.length ≤ 60000) (hBB : ∀ x ∈ B, x < 256) (hc : c < B.length + 16) : whole (flp (frm i B ++ R) c r) i = none := by
  have e0 : frm i B ++ R = frm0 i B.length ++ low4 (Crc.sum (frm0 i B.length)) ++ (B ++ (low4 (Crc.sum B) ++ R)) := by unfold frm frm1; simp only [List.append_assoc]
  rw [e0]
  by_cases h8 : c < 8
  · rw [flp_left _ _ _ _ (by rw [List.length_append, frm0_len, low4_len]; omega), flp_left _ _ _ _ (by rw [frm0_len]; omega), whole_split _ _ _ _ (by rw [flp_len, frm0_len]) (low4_len _)]
    split
    · rfl
    · rw [if_pos (fun e => sum_flp _ c r (by rw [frm0_len]; omega) hr (frm0_lt _ _) (low4_inj _ _ e))]
  · by_cases h12 : c < 12
    · obtain ⟨d, rfl⟩ : ∃ d, c = 8 + d := ⟨c - 8, by omega⟩
      have e1 := flp_right (frm0 i B.length) (low4 (Crc.sum (frm0 i B.length))) d r
      rw [frm0_len] at e1
      rw [flp_left _ _ _ _ (by rw [List.length_append, frm0_len, low4_len]; omega), e1, whole_split _ _ _ _ (frm0_len _ _) (by rw [flp_len, low4_len])]
      split
      · rfl
      · rw [if_pos (fun e => flp_ne _ d r (by rw [low4_len]; omega) e.symm)]
    · obtain ⟨d, rfl⟩ : ∃ d, c = 12 + d := ⟨c - 12, by omega⟩
      have e1 := flp_right (frm0 i B.length ++ low4 (Crc.sum (frm0 i B.length))) (B ++ (low4 (Crc.sum B) ++ R)) d r
      rw [List.length_append, frm0_len, low4_len] at e1
      rw [e1, whole_split _ _ _ _ (frm0_len _ _) (low4_len _), frm0_take, hi_big4 _ (by omega)]
      split
      · rfl
      · split
        · rfl
        · split
          · rfl
          · split
            · rfl
            · split
              · rfl
              · split
                · rfl
                rw [if_pos]
                by_cases hd : d < B.length
                · rw [flp_left _ _ _ _ hd, List.take_append_of_le_length (by rw [flp_len]; omega), List.take_of_length_le (by rw [flp_len]; omega), List.drop_append, List.drop_of_length_le (by rw [flp_len]; omega), flp_len, Nat.sub_self, List.drop_zero, List.nil_append, List.take_append_of_le_length (by rw [low4_len]; omega), List.take_of_length_le (by rw [low4_len]; omega)]
                  exact fun e => sum_flp _ d r hd hr hBB (low4_inj _ _ e)
                · obtain ⟨k, rfl⟩ : ∃ k, d = B.length + k := ⟨d - B.length, by omega⟩
                  rw [flp_right, flp_left _ _ _ _ (by rw [low4_len]; omega), List.take_append_of_le_length (by omega), List.take_of_length_le (by omega), List.drop_append, List.drop_of_length_le (by omega), Nat.sub_self, List.drop_zero, List.nil_append, List.take_append_of_le_length (by rw [flp_len, low4_len]; omega), List.take_of_length_le (by rw [flp_len, low4_len]; omega)]
                  exact fun e => flp_ne _ k r (by rw [low4_len]; omega) e.symm
theorem scn_hdflip (file base c r : Nat) (R : List Nat) (hc : c < 21) (hr : r < 8) : scn file (flp (hdr file base ++ R) c r) = none := by
  rw [flp_left _ _ _ _ (by rw [hdr_len]; exact hc)]
  unfold scn
  split
  · rfl
  · rw [if_pos]
    rintro ⟨_, h⟩
    rw [List.take_append_of_le_length (by rw [flp_len, hdr_len]; omega), List.take_of_length_le (by rw [flp_len, hdr_len]; omega)] at h
    generalize bsOf (flp (hdr file base) c r ++ R) = b' at h
    unfold hdr at h
    by_cases h17 : c < 17
    · rw [flp_left _ _ _ _ (by rw [hdr0_len]; exact h17)] at h
      obtain ⟨h1, h2⟩ := List.append_inj h (by rw [flp_len, hdr0_len, hdr0_len])
      rw [h1] at h2
      exact sum_flp _ c r (by rw [hdr0_len]; omega) hr (hdr0_lt _ _) (low4_inj _ _ h2)
    · obtain ⟨d, rfl⟩ : ∃ d, c = 17 + d := ⟨c - 17, by omega⟩
      have e1 := flp_right (hdr0 file base) (low4 (Crc.sum (hdr0 file base))) d r
      rw [hdr0_len] at e1
      rw [e1] at h
      obtain ⟨h1, h2⟩ := List.append_inj h (by rw [hdr0_len, hdr0_len])
      rw [h1] at h2
      exact flp_ne _ d r (by rw [low4_len]; omega) h2.symm
theorem hdr0_12 (f b : Nat) : (hdr0 f b).getD 12 0 = f % 256 := by
  simp [hdr0, big, bigTo]
theorem scn_other (file base : Nat) (R : List Nat) : scn (file + 1) (hdr file base ++ R) = none := by
  unfold scn
  split
  · rfl
  · rw [if_pos]
    rintro ⟨_, h⟩
    rw [hdr_take] at h
    unfold hdr at h
    have h1 := (List.append_inj h (by rw [hdr0_len, hdr0_len])).1
    have h2 := congrArg (fun l => l.getD 12 0) h1
    simp only [hdr0_12] at h2
    omega
end Go.Proofs.YtcagbggnlfeadaaGreatDoor
