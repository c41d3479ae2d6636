import Derived.Test.YtcagbggnlfeadaaGreatDoorWWf
namespace Go.Proofs.YtcagbggnlfeadaaGreatDoor
open Go.RowKit Crc

def bsOf (D : List Nat) : Nat := hi ((D.drop 13).take 4)
def hdIs (file : Nat) (D : List Nat) : Prop := hdOk file (bsOf D) ∧ hdr file (bsOf D) = D.take 21
instance (file : Nat) (D : List Nat) : Decidable (hdIs file D) := inferInstanceAs (Decidable ((((0 < file ∧ file ≤ 4611686018427387904) ∧ bsOf D ≤ 64)) ∧ hdr file (bsOf D) = D.take 21))
theorem bsOf_lt (D : List Nat) (hB : ∀ x ∈ D, x < 256) : bsOf D < 4294967296 := by
  have h := hi_lt ((D.drop 13).take 4) (fun x hx => hB x (List.mem_of_mem_drop (List.mem_of_mem_take hx)))
  have h2 : 256 ^ ((D.drop 13).take 4).length ≤ 256 ^ 4 := Nat.pow_le_pow_right (by omega) (by rw [List.length_take]; omega)
  unfold bsOf; omega
set_option maxRecDepth 10000 in
set_option maxHeartbeats 800000 in
theorem baseOf_short (file n cap : Nat) (ao : Option Addr) (w : World) (h : n < 21) :
    Calls Tryz.prog 62 #[.int .u64 file, .slice ao n cap] w fun e w' => e = .returned (.tuple #[.int .i64 0, .bool false]) ∧ w' = w := by
  go_enter Tryz.func62, Tryz.ntmps62
  go_wp2
  go_ret2
  exact ⟨rfl, rfl⟩
set_option maxRecDepth 10000 in
set_option maxHeartbeats 1600000 in
theorem baseOf_any {lim : Nat} {w : World} {b off n cap file : Nat} {D : List Nat} (hn : n = D.length) (h21 : 21 ≤ n) (hl : n ≤ 140737488355328) (hcap : n ≤ cap) (hB : ∀ x ∈ D, x < 256) (hb : b < lim) (hlim : lim ≤ w.heap.size) (hf : file < 18446744073709551616) (hT : Table w)
    (hc : ∀ i, i < n → w.cell? ⟨b, off + i, none⟩ = some (.int .u8 ((D.getD i 0 : Nat) : Int))) :
    Calls Tryz.prog 62 #[.int .u64 file, .slice (some ⟨b, off, none⟩) n cap] w fun e w' => e = .returned (.tuple #[.int .i64 (bsOf D : Nat), .bool (decide (hdIs file D))]) ∧ Below w.heap.size w w' := by
  have h0 : 0 < w.heap.size := by omega
  have HH : Hid (Calls Tryz.prog 69 #[.slice (some ⟨b, off + 13, none⟩) 4 (cap - 13)] w fun e w' => e = .returned (.int .u64 (bsOf D : Nat)) ∧ w' = w) := high_sh (shows_sub hn hl hB hb hc 13 4 (cap - 13) (by omega) (by omega)) (by omega)
  have HD : Hid (Shows lim w (some ⟨b, off, none⟩) 21 cap (D.take 21)) := by
    have := shows_sub hn hl hB hb hc 0 21 cap (by omega) (by omega)
    rw [List.drop_zero, Nat.add_zero] at this
    exact this
  have hbs := bsOf_lt D hB
  by_cases hok : hdOk file (bsOf D)
  · have HO := hide (header_ok file (bsOf D) w h0 hT hok)
    have HR : Hid (decide (hdIs file D) = decide (hdr file (bsOf D) = D.take 21)) := by
      show _ = _
      unfold hdIs
      simp [hok]
    rw [HR.out]
    have HE : Hid (∀ w1 v1, Owns w.heap.size w1 v1 (hdr file (bsOf D)) → Below w.heap.size w w1 → Calls Tryz.prog 71 #[v1, .slice (some ⟨b, off, none⟩) 21 cap] w1 fun e w' => e = .returned (.bool (decide (hdr file (bsOf D) = D.take 21))) ∧ w' = w1) := by
      intro w1 v1 ho hb1
      obtain ⟨ao, c, rfl, hs, _⟩ := ho.form
      exact equal_any hs (HD.out.below hb1 hlim)
    clear hc hT hB hn HD HR
    generalize decide (hdr file (bsOf D) = D.take 21) = r at *
    generalize hdr file (bsOf D) = H at *
    generalize bsOf D = B at *
    go_enter Tryz.func62, Tryz.ntmps62
    go_wp2_with fail
    refine HH.out.mono ?_
    rintro e w1 ⟨rfl, rfl⟩
    go_wp2_with fail
    refine HO.out.mono ?_
    rintro e w2 ⟨v2, rfl, ho, hb2⟩
    have H2 := hide (HE.out w2 v2 ho hb2)
    have HB2 := hide hb2
    clear ho hb2 HE HO HH
    go_wp2_with fail
    refine H2.out.mono ?_
    rintro e w3 ⟨rfl, rfl⟩
    go_wp2
    go_ret2
    exact ⟨rfl, HB2.out⟩
  · have HO := hide (header_no file (bsOf D : Nat) w hf (by unfold hdOk at hok; omega))
    have HR : Hid (decide (hdIs file D) = false) := by
      show _ = _
      unfold hdIs
      simp [hok]
    rw [HR.out]
    clear hc hT hB hn HD HR hok
    generalize bsOf D = B at *
    go_enter Tryz.func62, Tryz.ntmps62
    go_wp2_with fail
    refine HH.out.mono ?_
    rintro e w1 ⟨rfl, rfl⟩
    go_wp2_with fail
    refine HO.out.mono ?_
    rintro e w2 ⟨v2, rfl, ⟨g, rfl, -, -, -⟩, hb2⟩
    have HB2 := hide hb2
    clear hb2 HO HH
    go_wp2
    go_ret2
    exact ⟨rfl, HB2.out⟩

theorem frs_le : ∀ (f : Nat) (D : List Nat) (i : Nat), (frs f D i).2 ≤ D.length
  | 0, D, i => by simp [frs]
  | f + 1, D, i => by
    cases h : whole D i with
    | none => rw [frs_none _ _ _ h]; simp
    | some z =>
      rw [frs_some _ _ _ _ h]
      have h1 := whole_len h
      have h2 := frs_le f (D.drop (16 + z)) (i + 1)
      rw [List.length_drop] at h2
      show 16 + z + _ ≤ _
      omega
/-- What Scan reads: the base, the bodies, how many bytes are whole; nothing, if it is no segment. -/
def scn (file : Nat) (D : List Nat) : Option (Nat × List (List Nat) × Nat) :=
  if D.length < 21 then none else if ¬ hdIs file D then none else if (frs (D.drop 21).length (D.drop 21) 0).1.length < bsOf D then none else some (bsOf D, (frs (D.drop 21).length (D.drop 21) 0).1, 21 + (frs (D.drop 21).length (D.drop 21) 0).2)
def ScnR (base : Nat) (r : Option (Nat × List (List Nat) × Nat)) (e : Ending) (w' : World) : Prop :=
  match r with
  | none => e = .returned (.tuple #[.int .i64 0, .slice none 0 0, .int .i64 0, .int .i64 167])
  | some (k, Ls, g) => ∃ v xs, e = .returned (.tuple #[.int .i64 (k : Int), v, .int .i64 (g : Int), .int .i64 0]) ∧ OwnL base w' v xs Ls
set_option maxRecDepth 10000 in
set_option maxHeartbeats 1600000 in
theorem scan_any {lim : Nat} {w : World} {ao : Option Addr} {n cap file : Nat} {D : List Nat} (h : Shows lim w ao n cap D) (hl : n ≤ 1099511627776) (hlim : lim ≤ w.heap.size) (hf : file < 18446744073709551616) (hT : Table w) :
    Calls Tryz.prog 52 #[.int .u64 file, .slice ao n cap] w fun e w' => ScnR w.heap.size (scn file D) e w' ∧ Below w.heap.size w w' := by
  obtain ⟨hn, hcap, _, hB, b, off, hao, hb, hc⟩ := h
  by_cases h21 : n < 21
  · have HS : Hid (scn file D = none) := by show _ = _; unfold scn; rw [if_pos (by omega)]
    rw [HS.out]
    have HO := hide (baseOf_short file n cap ao w h21)
    clear hT hc hao hb hB hn
    go_enter Tryz.func52, Tryz.ntmps52
    go_wp2_with fail
    refine HO.out.mono ?_
    rintro e w2 ⟨rfl, rfl⟩
    go_wp2
    refine bodyPost_ret (v := .tuple #[.int .i64 0, .slice none 0 0, .int .i64 0, .int .i64 167]) (by simp [results, Tryz.results52, go_sem]) rfl ?_
    exact ⟨rfl, Below.refl _ _⟩
  · obtain rfl := hao (by omega)
    have hb' := hb (by omega)
    have HO := hide (baseOf_any hn (by omega) (by omega) hcap hB hb' hlim hf hT hc)
    by_cases hi : hdIs file D
    · have HF : Hid (∀ w1, Below w.heap.size w w1 → ∀ o c, (o = off + 21 ∧ c = cap - 21) ∨ (o = off ∧ c = 0 ∧ n = 21) → Calls Tryz.prog 63 #[.int .i64 0, .slice (some ⟨b, o, none⟩) (n - 21) c] w1 fun e w' => ∃ v xs, e = .returned (.tuple #[v, .int .i64 ((frs (D.drop 21).length (D.drop 21) 0).2 : Int)]) ∧ OwnL w.heap.size w' v xs (frs (D.drop 21).length (D.drop 21) 0).1 ∧ Below w.heap.size w w') := by
        intro w1 hb1 o c hoc
        refine (wholeFrames_any (D := D.drop 21) (n := n - 21) (b := b) (off := o) (lim := lim) (by rw [List.length_drop, hn]) (by omega) (by rcases hoc with ⟨_, h⟩ | ⟨_, h, h'⟩ <;> omega) (fun x hx => hB x (List.mem_of_mem_drop hx)) hb' (Nat.le_trans hlim hb1.size) (hT.below hb1 (by omega)) (fun i hi => by
          rcases hoc with ⟨rfl, _⟩ | ⟨_, _, h'⟩
          · rw [getD_drop, Nat.add_assoc]
            exact (hb1.cell (p := ⟨b, off + (21 + i), none⟩) (by show b < w.heap.size; omega)).trans (hc (21 + i) (by omega))
          · omega)).mono ?_
        rintro e w' ⟨v, xs, h1, h2, h3⟩
        refine ⟨v, xs, h1, ⟨⟨h2.row.1, ?_⟩, fun i x B p q => ⟨(h2.each i x B p q).1.lower hb1.size, (h2.each i x B p q).2⟩, h2.apart⟩, hb1.trans (h3.mono hb1.size)⟩
        rcases h2.row.2 with p | ⟨g, cp, cur, p1, p2, p3⟩
        · exact .inl p
        · exact .inr ⟨g, cp, cur, p1, Nat.le_trans hb1.size p2, p3⟩
      have HS : Hid (scn file D = if (frs (D.drop 21).length (D.drop 21) 0).1.length < bsOf D then none else some (bsOf D, (frs (D.drop 21).length (D.drop 21) 0).1, 21 + (frs (D.drop 21).length (D.drop 21) 0).2)) := by show _ = _; unfold scn; rw [if_neg (by omega), if_neg (by simpa using hi)]
      have hbs := bsOf_lt D hB
      have hG := frs_le (D.drop 21).length (D.drop 21) 0
      have hG : (frs (D.drop 21).length (D.drop 21) 0).2 ≤ n := by rw [List.length_drop] at hG ⊢; omega
      rw [HS.out]
      rw [decide_eq_true hi] at HO
      clear hT hc hao hb hB hn HS hi
      generalize bsOf D = B at *
      generalize hfr : frs (D.drop 21).length (D.drop 21) 0 = F at *
      clear hfr
      obtain ⟨Ls, G⟩ := F
      have hG40 : G ≤ 1099511627776 := Nat.le_trans hG hl
      clear hG
      go_enter Tryz.func52, Tryz.ntmps52
      go_wp2_with fail
      refine HO.out.mono ?_
      rintro e w2 ⟨rfl, hb2⟩
      have H2 := hide (HF.out w2 hb2)
      clear hb2 HF HO
      by_cases hc21 : cap = 21
      · have hn21 : n = 21 := by omega
        subst hn21
        subst hc21
        have H3 := hide (H2.out off 0 (.inr ⟨rfl, rfl, rfl⟩))
        clear H2
        go_wp2_with fail
        refine H3.out.mono ?_
        rintro e w3 ⟨v, xs, rfl, hO, hb3⟩
        have HOL := hide hO
        have HB3 := hide hb3
        obtain ⟨va, vc, hv⟩ := hO.form
        subst hv
        clear hO hb3
        by_cases hlt : Ls.length < B
        · go_wp2
          refine bodyPost_ret (v := .tuple #[.int .i64 0, .slice none 0 0, .int .i64 0, .int .i64 167]) (by simp [results, Tryz.results52, go_sem]) rfl ?_
          try rw [if_pos hlt]
          exact ⟨rfl, HB3.out⟩
        · go_wp2
          refine bodyPost_ret (v := .tuple #[.int .i64 (B : Int), .slice va Ls.length vc, .int .i64 ((21 + G : Nat) : Int), .int .i64 0]) (by simp [results, Tryz.results52, go_sem]) rfl ?_
          try rw [if_neg hlt]
          exact ⟨⟨_, xs, rfl, HOL.out⟩, HB3.out⟩
      have H3 := hide (H2.out (off + 21) (cap - 21) (.inl ⟨rfl, rfl⟩))
      clear H2
      go_wp2_with fail
      refine H3.out.mono ?_
      rintro e w3 ⟨v, xs, rfl, hO, hb3⟩
      have HOL := hide hO
      have HB3 := hide hb3
      obtain ⟨va, vc, hv⟩ := hO.form
      subst hv
      clear hO hb3
      by_cases hlt : Ls.length < B
      · go_wp2
        refine bodyPost_ret (v := .tuple #[.int .i64 0, .slice none 0 0, .int .i64 0, .int .i64 167]) (by simp [results, Tryz.results52, go_sem]) rfl ?_
        try rw [if_pos hlt]
        exact ⟨rfl, HB3.out⟩
      · go_wp2
        refine bodyPost_ret (v := .tuple #[.int .i64 (B : Int), .slice va Ls.length vc, .int .i64 ((21 + G : Nat) : Int), .int .i64 0]) (by simp [results, Tryz.results52, go_sem]) rfl ?_
        try rw [if_neg hlt]
        exact ⟨⟨_, xs, rfl, HOL.out⟩, HB3.out⟩
    · have HS : Hid (scn file D = none) := by show _ = _; unfold scn; rw [if_neg (by omega), if_pos hi]
      rw [HS.out]
      rw [decide_eq_false hi] at HO
      clear hT hc hao hb hB hn HS hi
      generalize bsOf D = B at *
      go_enter Tryz.func52, Tryz.ntmps52
      go_wp2_with fail
      refine HO.out.mono ?_
      rintro e w2 ⟨rfl, hb2⟩
      have HB2 := hide hb2
      clear hb2
      go_wp2
      refine bodyPost_ret (v := .tuple #[.int .i64 0, .slice none 0 0, .int .i64 0, .int .i64 167]) (by simp [results, Tryz.results52, go_sem]) rfl ?_
      exact ⟨rfl, HB2.out⟩
end Go.Proofs.YtcagbggnlfeadaaGreatDoor
