import Derived.Test.YtgdliomkdkjlaaaPLawH
import Derived.Test.YtgdliomkdkjlaaaPSame
namespace Go.Proofs.Ytgdliomkdkjlaaa
open Go.RowKit Crc

theorem RdS.boxed {lim p : Nat} {w : World} {s : RS} (h : RdS lim w p s) (o : Obj) : RdS lim (w.alloc o).drew p s :=
  (h.kept (World.grownBy_alloc w o none) (fun g hg => by cases hg)).kept (w' := (w.alloc o).drew) (row := none) ⟨rfl, rfl, rfl, Nat.le_refl _, fun _ _ _ => rfl⟩ (fun g hg => by cases hg)

set_option maxRecDepth 10000 in
set_option maxHeartbeats 800000 in
theorem take_text (lim p : Nat) (f : Fl) (X R : List Nat) (s : RS) (w : World) (hM1 : -9223372036854775808 ≤ f.M) (hM2 : f.M < 9223372036854775808) (hS : f.S.size ≤ 140737488355328) (hk : f.K = 9) (hX : f.enc = some X) (hR : RdS lim w p s) (hrest : s.rest = X ++ R) :
    Calls Try.prog 24 #[.pointer (some ⟨p, 0, none⟩), .agg f.cells] w fun e w' => e = .returned (.bool true) ∧ RdS lim w' p (s.step X.length 0) ∧ w.grownBy w' (some p) := by
  obtain ⟨K, N, I, bo, bn, bc, B, S, M⟩ := f
  simp only at hM1 hM2 hS hk
  unfold Fl.cells
  simp only
  subst hk
  have hA : ¬ (M < (S.size : Int) ∨ ¬ Ascii S) := by
    intro h
    simp [Fl.enc, h] at hX
  obtain rfl : numB S.size ++ strB S = X := by simpa [Fl.enc, hA] using hX
  have hA2 : Ascii S := Decidable.byContradiction fun h => hA (.inr h)
  have hA1 : (S.size : Int) ≤ M := by
    rcases Int.lt_or_le M (S.size : Int) with h | h
    · exact absurd (.inl h) hA
    · exact h
  have b0 : blobAt s.rest M = (strB S, (numB S.size).length + S.size, 0) := by
    have h := blobAt_numB (strB S) R M (by rw [strB_len]; omega) (by rw [strB_len]; exact hA1)
    rw [strB_len] at h
    rw [hrest, List.append_assoc]
    exact h
  have t0 : textAt s.rest M true = (S, (numB S.size).length + S.size, 0) := by
    unfold textAt
    rw [b0]
    simp [strOf_strB]
  have HC : Hid (∀ o : Obj, Calls Try.prog 58 #[.pointer (some ⟨p, 0, none⟩), .int .i64 M] (w.alloc o).drew fun e w1 => e = .returned (.string S) ∧ (∀ j, w1.cell? ⟨w.heap.size, j, none⟩ = (w.alloc o).cell? ⟨w.heap.size, j, none⟩) ∧ Hid (RdS lim w1 p (s.step (numB S.size ++ strB S).length 0) ∧ w.grownBy w1 (some p))) := by
    intro o
    refine (rText_any lim p s M _ (hR.boxed o) hM1 hM2 true ?_).mono ?_
    · rw [b0]
      simp only [strOf_strB]
      exact fun wx => isText_ascii S wx hA2
    · rintro e w1 ⟨rfl, hr, hg⟩
      rw [t0] at hr ⊢
      refine ⟨rfl, ?_⟩
      rw [List.length_append, strB_len]
      exact after_read rfl hR.plt hg hr
  clear hX hR hrest b0 t0 hA hA2
  generalize numB S.size ++ strB S = X at *
  go_enter Try.func24, Try.ntmps24
  go_wp2_with fail
  go_region_with (go_at_call 58; refine (HC.out _).mono ?_; rintro e w1 ⟨rfl, hcs, HP⟩; have hc4 := hcs 4; simp at hc4; clear hcs)
  all_goals go_wp2
  all_goals go_ret
  all_goals exact ⟨rfl, HP.out⟩

set_option maxRecDepth 10000 in
set_option maxHeartbeats 800000 in
theorem take_other (lim p : Nat) (f : Fl) (s : RS) (w : World) (hX : f.enc = some []) (h : ¬ f.K = 1 ∧ ¬ f.K = 2 ∧ ¬ f.K = 3 ∧ ¬ f.K = 4 ∧ ¬ f.K = 5 ∧ ¬ f.K = 6 ∧ ¬ f.K = 7 ∧ ¬ f.K = 8 ∧ ¬ f.K = 9) (hR : RdS lim w p s) :
    Calls Try.prog 24 #[.pointer (some ⟨p, 0, none⟩), .agg f.cells] w fun e w' => e = .returned (.bool true) ∧ RdS lim w' p s ∧ w.grownBy w' (some p) := by
  obtain ⟨K, N, I, bo, bn, bc, B, S, M⟩ := f
  obtain ⟨h1, h2, h3, h4, h5, h6, h7, h8, h9⟩ := h
  simp only at h1 h2 h3 h4 h5 h6 h7 h8 h9
  unfold Fl.cells
  simp only
  have HR := hide (fun o => hR.kept (World.grownBy_alloc w o none) (fun g hg => by cases hg))
  have HG : Hid (∀ o, w.grownBy (w.alloc o) (some p)) := fun o => World.grownBy_alloc w o _
  have e1 : (K == 1) = false := by simp [h1]
  have e2 : (K == 2) = false := by simp [h2]
  have e3 : (K == 3) = false := by simp [h3]
  have e4 : (K == 4) = false := by simp [h4]
  have e5 : (K == 5) = false := by simp [h5]
  have e6 : (K == 6) = false := by simp [h6]
  have e7 : (K == 7) = false := by simp [h7]
  have e8 : (K == 8) = false := by simp [h8]
  have e9 : (K == 9) = false := by simp [h9]
  clear h1 h2 h3 h4 h5 h6 h7 h8 h9 hX hR
  go_enter Try.func24, Try.ntmps24
  go_wp2
  go_ret
  exact ⟨rfl, HR.out _, HG.out _⟩
end Go.Proofs.Ytgdliomkdkjlaaa
