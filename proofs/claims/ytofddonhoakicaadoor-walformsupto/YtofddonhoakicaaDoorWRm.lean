import Derived.Test.YtofddonhoakicaaDoorWMu
namespace Go.Proofs.YtofddonhoakicaaDoor
open Crc

theorem list4 {α : Type} {l : List α} (h : l.length = 4) : ∃ a b c d, l = [a, b, c, d] := by
  match l, h with
  | [a, b, c, d], _ => exact ⟨a, b, c, d, rfl⟩
theorem hi_four (a b c d : Nat) : hi [a, b, c, d] = ((a * 256 + b) * 256 + c) * 256 + d := by simp [hi]
theorem big_hi (A : List Nat) (hl : A.length = 4) (hA : ∀ x ∈ A, x < 256) : big (hi A) 4 = A := by
  obtain ⟨a, b, c, d, rfl⟩ := list4 hl
  have ha := hA a (by simp)
  have hb := hA b (by simp)
  have hc := hA c (by simp)
  have hd := hA d (by simp)
  rw [hi_four]
  simp [big, bigTo]
  omega
theorem hi_take4 (R : List Nat) (h : 4 ≤ R.length) : hi (R.take 4) = R.getD 0 0 * 16777216 + R.getD 1 0 * 65536 + R.getD 2 0 * 256 + R.getD 3 0 := by
  obtain ⟨a, b, c, d, e⟩ := list4 (l := R.take 4) (by rw [List.length_take]; omega)
  have g : ∀ i, i < 4 → R.getD i 0 = [a, b, c, d].getD i 0 := fun i hi => by rw [← e, getD_take hi]
  rw [e, hi_four, g 0 (by omega), g 1 (by omega), g 2 (by omega), g 3 (by omega)]
  simp
  omega
theorem hd_beg (file k : Nat) (D : List Nat) (hf : 0 < file ∧ file ≤ 4611686018427387904) (hk : k ≤ 64) : (D.take (hdr file k).length = hdr file k) ↔ (hdIs file D ∧ bsOf D = k) := by
  rw [hdr_len]
  constructor
  · intro h
    have e : D = hdr file k ++ D.drop 21 := by rw [← h, List.take_append_drop]
    have hb : bsOf D = k := by rw [e]; exact bs_hdr file k _ (by omega)
    refine ⟨⟨?_, ?_⟩, hb⟩
    · rw [hb]; exact ⟨hf, hk⟩
    · rw [hb, h]
  · rintro ⟨⟨_, h⟩, hb⟩
    rw [hb] at h
    exact h.symm
theorem hdIs_le {file : Nat} {D : List Nat} (h : hdIs file D) : bsOf D ≤ 64 := h.1.2
theorem hdIs_len {file : Nat} {D : List Nat} (h : hdIs file D) : 21 ≤ D.length := by
  have := congrArg List.length h.2
  rw [hdr_len, List.length_take] at this
  omega
theorem frm_beg (i z : Nat) (R : List Nat) (hR : ∀ x ∈ R, x < 256) (hz : z = hi (R.take 4)) (h6 : z ≤ 60000) (hl : 16 + z ≤ R.length) (hi4 : i ≤ 2147483647) : (R.take (frm i ((R.drop 12).take z)).length = frm i ((R.drop 12).take z)) ↔ whole R i = some z := by
  have hbl : ((R.drop 12).take z).length = z := by rw [List.length_take, List.length_drop]; omega
  rw [frm_len, hbl]
  constructor
  · intro h
    have e : R = frm i ((R.drop 12).take z) ++ R.drop (z + 16) := by rw [← h, List.take_append_drop]
    have := whole_frm i ((R.drop 12).take z) (R.drop (z + 16)) hi4 (by omega)
    rw [← e, hbl] at this
    exact this
  · intro h
    unfold whole at h
    rw [← hz, if_neg (by omega)] at h
    split at h
    · cases h
    · rename_i c1
      split at h
      · cases h
      · rename_i c2
        rw [if_neg (by omega), if_neg (by omega), if_neg (by omega)] at h
        split at h
        · cases h
        · rename_i c3
          have c1 := Classical.not_not.1 c1
          have c2 := Classical.not_not.1 c2
          have c3 := Classical.not_not.1 c3
          have x1 : big z 4 = R.take 4 := by rw [hz]; exact big_hi _ (by rw [List.length_take]; omega) (fun x hx => hR x (List.mem_of_mem_take hx))
          have x2 : big i 4 = (R.drop 4).take 4 := by rw [← c2]; exact big_hi _ (by rw [List.length_take, List.length_drop]; omega) (fun x hx => hR x (List.mem_of_mem_drop (List.mem_of_mem_take hx)))
          have x3 : frm0 i z = R.take 8 := by
            unfold frm0
            rw [x1, x2, ← List.take_add]
          unfold frm frm1
          rw [hbl, x3, c1, c3, ← List.take_add]
          have e12 : (R.drop (8 + 4)).take z = (R.drop 12).take z := rfl
          rw [← e12, ← List.take_add, ← List.take_add]
          congr 1
          omega
end Go.Proofs.YtofddonhoakicaaDoor
