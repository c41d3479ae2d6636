import Derived.Test.YtofddonhoakicaaDoorWLn
namespace Go.Proofs.YtofddonhoakicaaDoor
open Go.RowKit Crc

/-- The frames of these bodies, from that index on. -/
def frl : Nat → List (List Nat) → List Nat
  | _, [] => []
  | i, B :: r => frm i B ++ frl (i + 1) r
def seg (file base : Nat) (Ls : List (List Nat)) : List Nat := hdr file base ++ frl 0 Ls
def tot : List (List Nat) → Nat
  | [] => 0
  | B :: r => B.length + 16 + tot r
theorem frl_len (i : Nat) (Ls : List (List Nat)) : (frl i Ls).length = tot Ls := by
  induction Ls generalizing i with
  | nil => rfl
  | cons B r ih => simp only [frl, tot, List.length_append, frm_len, ih]
theorem frl_snoc (Ls : List (List Nat)) (B : List Nat) : ∀ i, frl i (Ls ++ [B]) = frl i Ls ++ frm (i + Ls.length) B := by
  induction Ls with
  | nil => intro i; simp [frl]
  | cons C r ih => intro i; simp only [List.cons_append, frl, ih, List.append_assoc, List.length_cons]; rw [show i + 1 + r.length = i + (r.length + 1) by omega]
theorem tot_append (A B : List (List Nat)) : tot (A ++ B) = tot A + tot B := by
  induction A with
  | nil => simp [tot]
  | cons C r ih => simp only [List.cons_append, tot, ih]; omega
theorem frl_append (A B : List (List Nat)) : ∀ i, frl i (A ++ B) = frl i A ++ frl (i + A.length) B := by
  induction A with
  | nil => intro i; simp [frl]
  | cons C r ih => intro i; simp only [List.cons_append, frl, ih, List.append_assoc, List.length_cons]; rw [show i + 1 + r.length = i + (r.length + 1) by omega]
theorem tot_take_le (Ls : List (List Nat)) (k : Nat) : tot (Ls.take k) ≤ tot Ls := by
  have : tot Ls = tot (Ls.take k) + tot (Ls.drop k) := by rw [← tot_append, List.take_append_drop]
  omega
theorem tot_ge (Ls : List (List Nat)) : 16 * Ls.length ≤ tot Ls := by
  induction Ls with
  | nil => simp [tot]
  | cons C r ih => simp only [List.length_cons, tot]; omega
theorem frl_lt (Ls : List (List Nat)) (h : ∀ B ∈ Ls, ∀ x ∈ B, x < 256) : ∀ i, ∀ x ∈ frl i Ls, x < 256 := by
  induction Ls with
  | nil => intro i x hx; simp [frl] at hx
  | cons C r ih =>
    intro i x hx
    simp only [frl, List.mem_append] at hx
    rcases hx with hx | hx
    · exact frm_lt i C (h C (by simp)) x hx
    · exact ih (fun B hB => h B (by simp [hB])) _ x hx
theorem seg_lt (file base : Nat) (Ls : List (List Nat)) (h : ∀ B ∈ Ls, ∀ x ∈ B, x < 256) : ∀ x ∈ seg file base Ls, x < 256 := by
  intro x hx
  rcases List.mem_append.1 hx with hx | hx
  · exact hdr_lt _ _ x hx
  · exact frl_lt Ls h 0 x hx
theorem seg_len (file base : Nat) (Ls : List (List Nat)) : (seg file base Ls).length = 21 + tot Ls := by
  unfold seg; rw [List.length_append, hdr_len, frl_len]
theorem takeL_snoc (Ls : List (List Nat)) (k : Nat) (h : k < Ls.length) : Ls.take (k + 1) = Ls.take k ++ [Ls.getD k []] := by
  rw [List.take_succ_eq_append_getElem h]; simp [h]
theorem seg_snoc (file base k : Nat) (Ls : List (List Nat)) (h : k < Ls.length) : seg file base (Ls.take (k + 1)) = seg file base (Ls.take k) ++ frm k (Ls.getD k []) := by
  rw [takeL_snoc Ls k h]
  unfold seg
  rw [frl_snoc, List.append_assoc, List.length_take, Nat.min_eq_left (by omega), Nat.zero_add]
theorem mem_getD {Ls : List (List Nat)} {k : Nat} (h : k < Ls.length) : Ls.getD k [] ∈ Ls := by
  rw [List.getD_eq_getElem?_getD, List.getElem?_eq_getElem h]; simp
theorem tot_getD (Ls : List (List Nat)) (k : Nat) (h : k < Ls.length) : tot (Ls.take (k + 1)) = tot (Ls.take k) + ((Ls.getD k []).length + 16) := by
  rw [takeL_snoc Ls k h, tot_append]; simp [tot]
theorem ShowsL.below {lim k : Nat} {w w' : World} {ao : Option Addr} {n cap : Nat} {Ls : List (List Nat)} (h : ShowsL lim w ao n cap Ls) (hb : Below k w w') (hk : lim ≤ k) : ShowsL lim w' ao n cap Ls := by
  obtain ⟨p1, p2, p3, b, off, p5, p6, p7⟩ := h
  refine ⟨p1, p2, p3, b, off, p5, p6, fun i hi => ?_⟩
  obtain ⟨a, m, c, h1, h2⟩ := p7 i hi
  exact ⟨a, m, c, (hb.cell (p := ⟨b, off + i, none⟩) (by have := p6 (by omega); show b < k; omega)).trans h1, h2.below hb hk⟩

theorem below_at {w w' : World} {a : Addr} {v : Value} (h : Below w.heap.size w w') (hc : w.cell? a = some v) : w'.cell? a = some v := (below_none h).cell hc (by simp)

set_option maxRecDepth 10000 in
set_option maxHeartbeats 1600000 in
theorem laid_any {lim : Nat} {w : World} {ao : Option Addr} {n cap file base : Nat} {Ls : List (List Nat)} (h : ShowsL lim w ao n cap Ls) (hlim : lim ≤ w.heap.size) (h0 : 0 < lim) (hok : hdOk file base) (h6 : ∀ B ∈ Ls, B.length ≤ 60000) (ht : tot Ls ≤ 268435456) (hT : Table w) :
    Calls Tryd.prog 6 #[.int .u64 file, .int .i64 base, .slice ao n cap] w fun e w' => ∃ v, e = .returned v ∧ Owns w.heap.size w' v (seg file base Ls) ∧ Below w.heap.size w w' := by
  obtain ⟨i0, hi, hz0, hz1, hz2⟩ := info_parts Tryd.info5
  have HS := hide h
  have HT := hide hT
  have HHD := hide (header_ok file base w (by omega) hT hok)
  have HN : Hid (n = Ls.length) := h.1
  have H6 := hide h6
  have HTL := hide ht
  have hn24 : n ≤ 16777216 := by have := tot_ge Ls; have := h.1; omega
  have HAO : Hid (0 < n → ∃ ad, ao = some ad) := fun hh => by obtain ⟨_, _, _, b, off, p5, _⟩ := h; exact ⟨_, p5 hh⟩
  clear h hT h6 ht
  go_enter Tryd.func6, Tryd.ntmps6
  go_wp2_with fail
  refine HHD.out.mono ?_
  rintro e w1 ⟨v1, rfl, ho1, hb1⟩
  have HO1 : Hid (Owns w.heap.size w1 v1 (seg file base [])) := by
    show Owns _ _ _ _
    unfold seg
    rw [frl, List.append_nil]; exact ho1
  have HB1 := hide hb1
  clear ho1 hb1
  go_wp2
  go_loopw [7, 9] (fun v i wr => ∃ k : Nat, k ≤ n ∧ i = .int .i64 k ∧ Hid (Owns w.heap.size wr v (seg file base (Ls.take k)) ∧ Below w.heap.size w wr)) (fun _ i _ => n - (intOf i).toNat)
  case atStart => exact ⟨0, by omega, rfl, by rw [List.take_zero]; exact ⟨HO1.out, HB1.out⟩⟩
  case round =>
    obtain ⟨k, hk, rfl, HR⟩ := hrel
    by_cases hlt : k < n
    · obtain ⟨p1, p2, p3, b, off, p5, p6, p7⟩ := HS.out.below HR.out.2 hlim
      obtain rfl := p5 (by omega)
      obtain ⟨ax, mx, cx, hx, sx⟩ := p7 k hlt
      have hmx : mx ≤ 60000 := by rw [sx.1]; exact H6.out _ (mem_getD (by omega))
      have hbnd : tot (Ls.take k) + (mx + 16) ≤ 268435456 := by
        have e1 := tot_getD Ls k (by omega)
        have e2 := tot_take_le Ls (k + 1)
        have e3 := HTL.out
        rw [← sx.1] at e1
        omega
      have HSX := hide sx
      have HL := hide (lend_sh sx (by have := HR.out.2.size; omega) (by omega))
      have HLI : Hid (wr.heap.size ≥ w.heap.size) := HR.out.2.size
      have HKL : Hid (k < Ls.length) := by show k < _; have := HN.out; omega
      clear p1 p2 p3 p5 p6 p7 sx
      go_wp2_with fail
      refine HL.out.mono ?_
      rintro e w2 ⟨rfl, hL2, hb2⟩
      have HB2 : Hid (Below w.heap.size w w2) := HR.out.2.trans (hb2.mono HLI.out)
      have HF := hide (frame_ok (i := k) (hL2.shows HSX.out.2.2.2.1 (by omega)) (Nat.le_refl _) (by have := HB2.out.size; omega) hmx (by omega) (HT.out.below HB2.out (by omega)))
      have HO2 : Hid (Owns w.heap.size w2 u7 (seg file base (Ls.take k))) := HR.out.1.quiet (below_none hb2)
      have hx2 : w2.cell? ⟨b, off + k, none⟩ = some (.slice ax mx cx) := below_at hb2 hx
      clear hL2 hb2 HL
      go_wp2_with fail
      refine HF.out.mono ?_
      rintro e w3 ⟨v3, rfl, ho3, hb3⟩
      obtain ⟨a3, c3, hv3, hs3, -⟩ := ho3.form
      have hl3 : (frm k (Ls.getD k [])).length = mx + 16 := by rw [frm_len, ← HSX.out.1]
      rw [hl3] at hv3 hs3
      subst hv3
      have HO3 : Hid (Owns w.heap.size w3 u7 (seg file base (Ls.take k))) := HO2.out.quiet (below_none hb3)
      have HB3 : Hid (Below w.heap.size w w3) := HB2.out.trans (hb3.mono HB2.out.size)
      have HS3 := hide hs3
      have hx3 : w3.cell? ⟨b, off + k, none⟩ = some (.slice ax mx cx) := below_at hb3 hx2
      obtain ⟨a7, c7, hv7, hs7, -⟩ := HO3.out.form
      have hl7 : (seg file base (Ls.take k)).length = 21 + tot (Ls.take k) := seg_len _ _ _
      rw [hl7] at hv7 hs7
      generalize tot (Ls.take k) = t7 at *
      subst hv7
      have HL7 := hide (lend_sh hs7 (Nat.le_refl _) (by omega))
      have HS7 := hide hs7
      have hde : ((mx : Int) + 16 != (mx : Int) + 16) = false := by simp
      clear ho3 hb3 hs3 hs7 hl7 hl3 hx hx2
      go_wp2_with fail
      refine HL7.out.mono ?_
      rintro e w4 ⟨rfl, hL4, hb4⟩
      have hB7 : ∀ x ∈ seg file base (Ls.take k), x < 256 := HS7.out.2.2.2.1
      have HO4 := hide (hL4.owns hB7 (by omega))
      have HB4 : Hid (Below w.heap.size w w4) := HB3.out.trans (hb4.mono HB3.out.size)
      have HS4 := hide (HS3.out.below hb4 (Nat.le_refl _))
      obtain ⟨ad4, ha4, hc4⟩ := shows_cells HS4.out (by omega)
      subst ha4
      have HC4 := hide hc4
      have HSZ : Hid (w.heap.size ≤ w3.heap.size) := HB3.out.size
      have hlen7 : (seg file base (Ls.take k)).length = 21 + t7 := HS7.out.1.symm
      have HL7' := hide hlen7
      have HRW : Hid (w4.ownsRow w3.heap.size 5 1 (.slice (some ⟨w3.heap.size, 0, none⟩) (21 + t7) (21 + t7 + 3)) (21 + t7) (vals (seg file base (Ls.take k)))) := by have := HO4.out.1; rw [hlen7] at this; exact this
      have HSZ4 : Hid (w3.heap.size ≤ w4.heap.size) := hb4.size
      clear hL4 hb4 hB7 hc4 HS3 HO3 HB3 hlen7
      go_wp2_with (first
        | (at_builtin; refine wpList_append_ext _ rfl (.tmp 50) (.tmp 51) 25 rfl w3.heap.size 5 i0 (.int .u8 0) Tryd.underlying25 hi hz0 hz1 hz2 rfl (.slice (some ⟨w3.heap.size, 0, none⟩) (21 + t7) (21 + t7 + 3)) (21 + t7) (vals (seg file base (Ls.take k))) rfl HRW.out ad4 (mx + 16) c3 (vals (frm k (Ls.getD k []))) rfl (by rw [vals_len]; exact HS4.out.1.symm) HC4.out (vals_one' _) (by omega) (by omega) HSZ4.out ?_; intro v5 w5 hown5 hext5))
      go_roundw
      case rel =>
        refine ⟨k + 1, by omega, by go_num, ?_, HB4.out.grown hext5.1 HB4.out.size (fun g hg => Nat.le_trans HSZ.out (HO4.out.1.lt g hg).1)⟩
        rw [seg_snoc file base k Ls HKL.out]
        refine Owns.lower (Owns.app HO4.out.2.1 HS4.out.2.2.2.1 (by rw [HL7'.out, ← HS4.out.1]; omega) ?_) HSZ.out
        rw [HL7'.out, ← HS4.out.1]
        exact hown5
      case measure => simp [intOf]; omega
    · have HF : Hid (Owns w.heap.size wr u7 (seg file base Ls) ∧ Below w.heap.size w wr) := by
        have := HR.out
        rw [List.take_of_length_le (by have := HN.out; omega)] at this
        exact this
      clear HR HS
      go_wp2
      go_ret
      exact ⟨_, rfl, HF.out⟩
end Go.Proofs.YtofddonhoakicaaDoor
