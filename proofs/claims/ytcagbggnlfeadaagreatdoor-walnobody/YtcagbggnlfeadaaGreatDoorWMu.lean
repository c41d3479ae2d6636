import Derived.Test.YtcagbggnlfeadaaGreatDoorWMt
import Derived.Test.YtcagbggnlfeadaaGreatDoorWLi
import Derived.Test.YtcagbggnlfeadaaGreatDoorWSa
namespace Go.Proofs.YtcagbggnlfeadaaGreatDoor
open Crc

theorem seg_scn (file base : Nat) (Ls : List (List Nat)) (hok : hdOk file base) (h4 : Ls.length ≤ 2147483648) (h6 : ∀ B ∈ Ls, B.length ≤ 60000) : scn file (seg file base Ls) = if Ls.length < base then none else some (base, Ls, 21 + tot Ls) := by
  have := scn_of file base Ls [] hok h4 h6 (whole_short _ _ (by simp))
  rw [List.append_nil] at this
  exact this
theorem seg_other (file base : Nat) (Ls : List (List Nat)) : scn (file + 1) (seg file base Ls) = none := scn_other file base _
theorem seg_parts (file base k : Nat) (Ls : List (List Nat)) (hk : k < Ls.length) : seg file base Ls = (hdr file base ++ frl 0 (Ls.take k)) ++ (frm k (Ls.getD k []) ++ frl (k + 1) (Ls.drop (k + 1))) := by
  have e : Ls = Ls.take k ++ Ls.getD k [] :: Ls.drop (k + 1) := by
    rw [List.getD_eq_getElem?_getD, List.getElem?_eq_getElem hk, Option.getD_some, List.getElem_cons_drop, List.take_append_drop]
  have hl : (Ls.take k).length = k := by rw [List.length_take]; omega
  unfold seg
  conv => lhs; rw [e]
  rw [frl_append, hl, Nat.zero_add, List.append_assoc]
  rfl
theorem take_lens {Ls : List (List Nat)} (h6 : ∀ B ∈ Ls, B.length ≤ 60000) (k : Nat) : ∀ B ∈ Ls.take k, B.length ≤ 60000 := fun B hB => h6 B (List.mem_of_mem_take hB)
theorem seg_cut (file base k c : Nat) (Ls : List (List Nat)) (hok : hdOk file base) (h4 : Ls.length ≤ 2147483648) (h6 : ∀ B ∈ Ls, B.length ≤ 60000) (hk : k < Ls.length) (hc : c < (Ls.getD k []).length + 16) :
    scn file ((seg file base Ls).take (21 + tot (Ls.take k) + c)) = if k < base then none else some (base, Ls.take k, 21 + tot (Ls.take k)) := by
  have hl : (Ls.take k).length = k := by rw [List.length_take]; omega
  rw [seg_parts file base k Ls hk, List.take_append, List.take_of_length_le (by rw [List.length_append, hdr_len, frl_len]; omega), List.length_append, hdr_len, frl_len, Nat.add_sub_cancel_left, List.append_assoc]
  have := scn_of file base (Ls.take k) ((frm k (Ls.getD k []) ++ frl (k + 1) (Ls.drop (k + 1))).take c) hok (by omega) (take_lens h6 k) (by rw [hl]; exact whole_cut _ _ _ _ (h6 _ (mem_getD hk)) hc)
  rw [hl] at this
  exact this
theorem seg_cut0 (file base c : Nat) (Ls : List (List Nat)) (hc : c < 21) : scn file ((seg file base Ls).take c) = none := by
  unfold scn
  rw [if_pos (by rw [List.length_take]; omega)]
theorem seg_flip (file base k c r : Nat) (Ls : List (List Nat)) (hok : hdOk file base) (h4 : Ls.length ≤ 2147483648) (h6 : ∀ B ∈ Ls, B.length ≤ 60000) (hB : ∀ B ∈ Ls, ∀ x ∈ B, x < 256) (hk : k < Ls.length) (hc : c < (Ls.getD k []).length + 16) (hr : r < 8) :
    scn file (flp (seg file base Ls) (21 + tot (Ls.take k) + c) r) = if k < base then none else some (base, Ls.take k, 21 + tot (Ls.take k)) := by
  have hl : (Ls.take k).length = k := by rw [List.length_take]; omega
  have e1 := flp_right (hdr file base ++ frl 0 (Ls.take k)) (frm k (Ls.getD k []) ++ frl (k + 1) (Ls.drop (k + 1))) c r
  rw [List.length_append, hdr_len, frl_len] at e1
  rw [seg_parts file base k Ls hk, e1, List.append_assoc]
  have := scn_of file base (Ls.take k) (flp (frm k (Ls.getD k []) ++ frl (k + 1) (Ls.drop (k + 1))) c r) hok (by omega) (take_lens h6 k) (by rw [hl]; exact whole_flip _ _ _ _ _ hr (h6 _ (mem_getD hk)) (hB _ (mem_getD hk)) hc)
  rw [hl] at this
  exact this
theorem seg_flip0 (file base c r : Nat) (Ls : List (List Nat)) (hc : c < 21) (hr : r < 8) : scn file (flp (seg file base Ls) c r) = none := scn_hdflip file base c r _ hc hr
/-- What the last Scan tells: the law's own words. -/
def lastS (base k P : Nat) (Ls : List (List Nat)) : Option (Nat × List (List Nat) × Nat) := if P < 21 ∨ k < base then none else some (base, Ls.take k, 21 + tot (Ls.take k))
/-- Where the law's loop stands still. -/
def AtK (Ls : List (List Nat)) (k P : Nat) : Prop := P < 21 ∨ 21 + tot (Ls.take k) ≤ P ∧ k < Ls.length ∧ P < 21 + tot (Ls.take k) + ((Ls.getD k []).length + 16)
theorem atK_of {Ls : List (List Nat)} {k P : Nat} (h1 : k = 0 ∨ 21 + tot (Ls.take k) ≤ P) (hP : P < 21 + tot Ls) (hk : k ≤ Ls.length) (hx : k < Ls.length → P < 21 + tot (Ls.take k) + ((Ls.getD k []).length + 16)) : AtK Ls k P := by
  by_cases h21 : P < 21
  · exact .inl h21
  · have hle : 21 + tot (Ls.take k) ≤ P := by
      rcases h1 with rfl | h1
      · simp [tot]; omega
      · exact h1
    have hlt : k < Ls.length := by
      rcases Nat.lt_or_ge k Ls.length with h | h
      · exact h
      · rw [List.take_of_length_le h] at hle; omega
    exact .inr ⟨hle, hlt, hx hlt⟩
theorem last_cut (file base k P : Nat) (Ls : List (List Nat)) (hok : hdOk file base) (h4 : Ls.length ≤ 2147483648) (h6 : ∀ B ∈ Ls, B.length ≤ 60000) (h : AtK Ls k P) : scn file ((seg file base Ls).take P) = lastS base k P Ls := by
  unfold lastS
  by_cases hP : P < 21
  · rw [if_pos (.inl hP), seg_cut0 _ _ _ _ hP]
  · rcases h with h | ⟨h1, h2, h3⟩
    · omega
    obtain ⟨c, rfl⟩ : ∃ c, P = 21 + tot (Ls.take k) + c := ⟨P - (21 + tot (Ls.take k)), by omega⟩
    rw [seg_cut file base k c Ls hok h4 h6 h2 (by omega)]
    by_cases hk : k < base
    · rw [if_pos hk, if_pos (.inr hk)]
    · rw [if_neg hk, if_neg (by omega)]
theorem last_flip (file base k P r : Nat) (Ls : List (List Nat)) (hok : hdOk file base) (h4 : Ls.length ≤ 2147483648) (h6 : ∀ B ∈ Ls, B.length ≤ 60000) (hB : ∀ B ∈ Ls, ∀ x ∈ B, x < 256) (hr : r < 8) (h : AtK Ls k P) : scn file (flp (seg file base Ls) P r) = lastS base k P Ls := by
  unfold lastS
  by_cases hP : P < 21
  · rw [if_pos (.inl hP), seg_flip0 _ _ _ _ _ hP hr]
  · rcases h with h | ⟨h1, h2, h3⟩
    · omega
    obtain ⟨c, rfl⟩ : ∃ c, P = 21 + tot (Ls.take k) + c := ⟨P - (21 + tot (Ls.take k)), by omega⟩
    rw [seg_flip file base k c r Ls hok h4 h6 hB h2 (by omega) hr]
    by_cases hk : k < base
    · rw [if_pos hk, if_pos (.inr hk)]
    · rw [if_neg hk, if_neg (by omega)]
end Go.Proofs.YtcagbggnlfeadaaGreatDoor
