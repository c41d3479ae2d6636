import Derived.Test.YtcagbggnlfeadaaGreatDoorWLn
namespace Go.Proofs.YtcagbggnlfeadaaGreatDoor
open Go.RowKit Crc

/-- The frames of these bodies, from that index on. -/
def frl : Nat → List (List Nat) → List Nat
  | _, [] => []
  | i, B :: r => frm i B ++ frl (i + 1) r
def seg (file base : Nat) (Ls : List (List Nat)) : List Nat := hdr file base ++ frl 0 Ls
def tot : List (List Nat) → Nat
  | [] => 0
  | B :: r => B.length + 16 + tot r
theorem frl_len (i : Nat) (Ls : List (List Nat)) : (frl i Ls).length = tot Ls := by
  induction Ls generalizing i with
  | nil => rfl
  | cons B r ih => simp only [frl, tot, List.length_append, frm_len, ih]
theorem frl_snoc (Ls : List (List Nat)) (B : List Nat) : ∀ i, frl i (Ls ++ [B]) = frl i Ls ++ frm (i + Ls.length) B := by
  induction Ls with
  | nil => intro i; simp [frl]
  | cons C r ih => intro i; simp only [List.cons_append, frl, ih, List.append_assoc, List.length_cons]; rw [show i + 1 + r.length = i + (r.length + 1) by omega]
theorem tot_append (A B : List (List Nat)) : tot (A ++ B) = tot A + tot B := by
  induction A with
  | nil => simp [tot]
  | cons C r ih => simp only [List.cons_append, tot, ih]; omega
theorem frl_append (A B : List (List Nat)) : ∀ i, frl i (A ++ B) = frl i A ++ frl (i + A.length) B := by
  induction A with
  | nil => intro i; simp [frl]
  | cons C r ih => intro i; simp only [List.cons_append, frl, ih, List.append_assoc, List.length_cons]; rw [show i + 1 + r.length = i + (r.length + 1) by omega]
theorem tot_take_le (Ls : List (List Nat)) (k : Nat) : tot (Ls.take k) ≤ tot Ls := by
  have : tot Ls = tot (Ls.take k) + tot (Ls.drop k) := by rw [← tot_append, List.take_append_drop]
  omega
theorem tot_ge (Ls : List (List Nat)) : 16 * Ls.length ≤ tot Ls := by
  induction Ls with
  | nil => simp [tot]
  | cons C r ih => simp only [List.length_cons, tot]; omega
theorem frl_lt (Ls : List (List Nat)) (h : ∀ B ∈ Ls, ∀ x ∈ B, x < 256) : ∀ i, ∀ x ∈ frl i Ls, x < 256 := by
  induction Ls with
  | nil => intro i x hx; simp [frl] at hx
  | cons C r ih =>
    intro i x hx
    simp only [frl, List.mem_append] at hx
    rcases hx with hx | hx
    · exact frm_lt i C (h C (by simp)) x hx
    · exact ih (fun B hB => h B (by simp [hB])) _ x hx
theorem seg_lt (file base : Nat) (Ls : List (List Nat)) (h : ∀ B ∈ Ls, ∀ x ∈ B, x < 256) : ∀ x ∈ seg file base Ls, x < 256 := by
  intro x hx
  rcases List.mem_append.1 hx with hx | hx
  · exact hdr_lt _ _ x hx
  · exact frl_lt Ls h 0 x hx
theorem seg_len (file base : Nat) (Ls : List (List Nat)) : (seg file base Ls).length = 21 + tot Ls := by
  unfold seg; rw [List.length_append, hdr_len, frl_len]
theorem takeL_snoc (Ls : List (List Nat)) (k : Nat) (h : k < Ls.length) : Ls.take (k + 1) = Ls.take k ++ [Ls.getD k []] := by
  rw [List.take_succ_eq_append_getElem h]; simp [h]
theorem seg_snoc (file base k : Nat) (Ls : List (List Nat)) (h : k < Ls.length) : seg file base (Ls.take (k + 1)) = seg file base (Ls.take k) ++ frm k (Ls.getD k []) := by
  rw [takeL_snoc Ls k h]
  unfold seg
  rw [frl_snoc, List.append_assoc, List.length_take, Nat.min_eq_left (by omega), Nat.zero_add]
theorem mem_getD {Ls : List (List Nat)} {k : Nat} (h : k < Ls.length) : Ls.getD k [] ∈ Ls := by
  rw [List.getD_eq_getElem?_getD, List.getElem?_eq_getElem h]; simp
theorem tot_getD (Ls : List (List Nat)) (k : Nat) (h : k < Ls.length) : tot (Ls.take (k + 1)) = tot (Ls.take k) + ((Ls.getD k []).length + 16) := by
  rw [takeL_snoc Ls k h, tot_append]; simp [tot]
theorem ShowsL.below {lim k : Nat} {w w' : World} {ao : Option Addr} {n cap : Nat} {Ls : List (List Nat)} (h : ShowsL lim w ao n cap Ls) (hb : Below k w w') (hk : lim ≤ k) : ShowsL lim w' ao n cap Ls := by
  obtain ⟨p1, p2, p3, b, off, p5, p6, p7⟩ := h
  refine ⟨p1, p2, p3, b, off, p5, p6, fun i hi => ?_⟩
  obtain ⟨a, m, c, h1, h2⟩ := p7 i hi
  exact ⟨a, m, c, (hb.cell (p := ⟨b, off + i, none⟩) (by have := p6 (by omega); show b < k; omega)).trans h1, h2.below hb hk⟩

theorem below_at {w w' : World} {a : Addr} {v : Value} (h : Below w.heap.size w w') (hc : w.cell? a = some v) : w'.cell? a = some v := (below_none h).cell hc (by simp)

end Go.Proofs.YtcagbggnlfeadaaGreatDoor
