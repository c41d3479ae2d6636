import Derived.Test.YtgdliomkdkjlaaaPLawC
import Derived.Test.YtgdliomkdkjlaaaPLent
import Derived.Deep.RegionWith
namespace Go.Proofs.Ytgdliomkdkjlaaa
open Go.RowKit Crc

theorem Lent.shows1 {wi : World} {gc n : Nat} {B : List Nat} (h : Lent wi gc n B) (hB : ∀ x ∈ B, x < 256) (hl : n ≤ 140737488355328) : Shows (gc + 1) wi (some ⟨gc, 0, none⟩) n (n + 4) B := by
  obtain ⟨h1, h2, h3, h4, b, off, h5, _, h7⟩ := h.shows hB hl
  refine ⟨h1, h2, h3, h4, gc, 0, fun _ => rfl, fun _ => Nat.lt_succ_self _, fun i hi => ?_⟩
  have e := h5 (by omega)
  cases e
  exact h7 i hi
theorem Wr.next {base : Nat} {w w' : World} {p : Nat} {made : Bool} {place why most : Int} {L : List Nat} (h : Wr base w p made place why most L) (hg : w.grownBy w' none) : Wr base w' p made place why most L := by
  obtain ⟨v, hb, hO, hne⟩ := h
  exact ⟨v, (hg.block p (block_lt hb) (by simp)).trans hb, hO.quiet hg, hne⟩

set_option maxRecDepth 10000 in
set_option maxHeartbeats 800000 in
theorem put_text (base lim p : Nat) (f : Fl) (X L : List Nat) (w : World) (hf : f.Ok lim w) (h9 : f.K = 9) (hX : f.enc = some X) (hW : Wr base w p true 0 0 65507 L) (hfit : L.length + X.length ≤ 65507) (hbs : base ≤ w.heap.size) (hl1 : lim ≤ base) (hl2 : lim ≤ p) :
    Calls Try.prog 22 #[.pointer (some ⟨p, 0, none⟩), .agg f.cells] w fun e w' => e = .returned (.tuple #[]) ∧ Wr base w' p true 0 0 65507 (L ++ X) ∧ Below lim w w' := by
  obtain ⟨hN, hK1, hK2, hI1, hI2, hM1, hM2, hB, hS⟩ := hf
  obtain ⟨K, N, I, bo, bn, bc, B, S, M⟩ := f
  simp only at hN hK1 hK2 hI1 hI2 hM1 hM2 hB hS h9
  unfold Fl.cells
  simp only
  clear hB
  subst h9
  have hlw : lim ≤ w.heap.size := by omega
  have hA : ¬ (M < (S.size : Int) ∨ ¬ Ascii S) := by
    intro h
    simp [Fl.enc, h] at hX
  obtain rfl : numB S.size ++ strB S = X := by simpa [Fl.enc, hA] using hX
  have hA2 : Ascii S := Decidable.byContradiction fun h => hA (.inr h)
  have hA1 : (S.size : Int) ≤ M := by
    rcases Int.lt_or_le M (S.size : Int) with h | h
    · exact absurd (.inl h) hA
    · exact h
  rw [List.length_append, strB_len] at hfit
  have HBB : Hid (∀ o, Below lim w (w.alloc o)) := fun o => (below_alloc w o).mono hlw
  have HC := hide (fun o => wText_good base lim p S M 0 65507 L _ hA2 hA1 (hW.alloc o) (by omega) (by omega) (by have := (below_alloc w o).size; omega) hl1 hl2)
  clear hX hA hA2 hW
  rw [← List.append_assoc]
  go_enter Try.func22, Try.ntmps22
  go_wp2_with fail
  refine (HC.out _).mono ?_
  rintro e w1 ⟨rfl, hw1, hb1⟩
  go_wp2
  go_end0
  exact ⟨rfl, hw1, (HBB.out _).trans hb1⟩

end Go.Proofs.Ytgdliomkdkjlaaa
