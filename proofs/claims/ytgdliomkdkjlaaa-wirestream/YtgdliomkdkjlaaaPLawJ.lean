import Derived.Test.YtgdliomkdkjlaaaPLawI
namespace Go.Proofs.Ytgdliomkdkjlaaa
open Go.RowKit Crc

theorem blob_same {lim limb p bn bc : Nat} {bo : Option Addr} {B R : List Nat} {s : RS} {M : Int} {w : World} (hM1 : -9223372036854775808 ≤ M) (hM2 : M < 9223372036854775808) (hB : Shows limb w bo bn bc B) (hlb : limb ≤ p) (hA : (bn : Int) ≤ M) (hR : RdS lim w p s) (hrest : s.rest = numB bn ++ B ++ R) :
    ∀ o : Obj, Calls Try.prog 56 #[.pointer (some ⟨p, 0, none⟩), .int .i64 M] (w.alloc o).drew fun e w1 => ∃ a n c, e = .returned (.slice a n c) ∧ (∀ j, w1.cell? ⟨w.heap.size, j, none⟩ = (w.alloc o).cell? ⟨w.heap.size, j, none⟩) ∧
      Hid (Calls Try.prog 45 #[.slice a n c, .slice bo bn bc] w1 fun e w2 => e = .returned (.bool true) ∧ RdS lim w2 p (s.step ((numB bn).length + bn) 0) ∧ w.grownBy w2 (some p)) := by
  intro o
  have hn := hB.1
  have b0 : blobAt s.rest M = (B, (numB bn).length + bn, 0) := by
    have h := blobAt_numB B R M (by have := hB.2.2.1; omega) (by rw [← hn]; exact hA)
    rw [← hn] at h
    rw [hrest, List.append_assoc]
    exact h
  refine (rBlob_any lim p s M _ (hR.boxed o) hM1 hM2).mono ?_
  rintro e w1 ⟨v, rfl, ho, _, hr, hg⟩
  rw [b0] at ho hr
  obtain ⟨a, c, rfl, hs, _⟩ := ho.form
  obtain ⟨hcs, HP⟩ := after_read rfl hR.plt hg hr
  refine ⟨a, B.length, c, rfl, hcs, ?_⟩
  have hB1 : Shows limb w1 bo bn bc B := hB.kept HP.out.2 (fun g e => by cases e; exact hlb)
  refine (same_any hs hB1).mono ?_
  rintro e w2 ⟨rfl, q, rfl⟩
  exact ⟨rfl, HP.out.1.kept (drew_grown w1 q) (fun g hg => by cases hg), grown_quiet HP.out.2 (drew_grown w1 q)⟩

set_option maxRecDepth 10000 in
set_option maxHeartbeats 800000 in
theorem take_blob (lim limb p : Nat) (f : Fl) (X R : List Nat) (s : RS) (w : World) (hf : f.Ok limb w) (hlb : limb ≤ p) (hk : f.K = 8) (hX : f.enc = some X) (hR : RdS lim w p s) (hrest : s.rest = X ++ R) :
    Calls Try.prog 24 #[.pointer (some ⟨p, 0, none⟩), .agg f.cells] w fun e w' => e = .returned (.bool true) ∧ RdS lim w' p (s.step X.length 0) ∧ w.grownBy w' (some p) := by
  obtain ⟨hN, hK1, hK2, hI1, hI2, hM1, hM2, hB, hS⟩ := hf
  obtain ⟨K, N, I, bo, bn, bc, B, S, M⟩ := f
  simp only at hN hK1 hK2 hI1 hI2 hM1 hM2 hB hS hk
  unfold Fl.cells
  simp only
  subst hk
  have hA : ¬ (M < (bn : Int)) := by
    intro h
    simp [Fl.enc, h] at hX
  obtain rfl : numB bn ++ B = X := by simpa [Fl.enc, hA] using hX
  have HC := hide (blob_same (R := R) hM1 hM2 hB hlb (by omega) hR hrest)
  rw [List.length_append, ← hB.1]
  clear hX hR hrest hA hB
  generalize (numB bn).length + bn = Z at *
  go_enter Try.func24, Try.ntmps24
  go_wp2_with fail
  go_region_with (first | (go_at_call 56; refine (HC.out _).mono ?_; rintro e w1 ⟨a1, n1, c1, rfl, hcs, HP⟩; have hc3 := hcs 3; simp at hc3; clear hcs) | (go_at_call 45; refine HP.out.mono ?_; rintro e w2 ⟨rfl, hr2, hg2⟩))
  all_goals go_wp2
  all_goals go_ret
  all_goals exact ⟨rfl, hr2, hg2⟩
end Go.Proofs.Ytgdliomkdkjlaaa
