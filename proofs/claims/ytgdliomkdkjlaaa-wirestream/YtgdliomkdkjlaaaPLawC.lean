import Derived.Test.YtgdliomkdkjlaaaPLawA
namespace Go.Proofs.Ytgdliomkdkjlaaa
open Go.RowKit Crc

set_option maxRecDepth 10000 in
set_option maxHeartbeats 1600000 in
theorem put_low (base lim p : Nat) (f : Fl) (X L : List Nat) (w : World) (hf : f.Ok lim w) (h8 : ¬ f.K = 8) (h9 : ¬ f.K = 9) (hX : f.enc = some X) (hW : Wr base w p true 0 0 65507 L) (hfit : L.length + X.length ≤ 65507) (hbs : base ≤ w.heap.size) (hl1 : lim ≤ base) (hl2 : lim ≤ p) :
    Calls Try.prog 22 #[.pointer (some ⟨p, 0, none⟩), .agg f.cells] w fun e w' => e = .returned (.tuple #[]) ∧ Wr base w' p true 0 0 65507 (L ++ X) ∧ Below lim w w' := by
  obtain ⟨hN, hK1, hK2, hI1, hI2, hM1, hM2, hB, hS⟩ := hf
  obtain ⟨K, N, I, bo, bn, bc, B, S, M⟩ := f
  simp only at hN hK1 hK2 hI1 hI2 hM1 hM2 hB hS h8 h9
  unfold Fl.cells
  simp only
  clear hB
  have hlw : lim ≤ w.heap.size := by omega
  have HW := hide (fun o => hW.alloc o)
  have HBB : Hid (∀ o, Below lim w (w.alloc o)) := fun o => (below_alloc w o).mono hlw
  have HBS : Hid (∀ o, base ≤ (w.alloc o).heap.size) := fun o => by have := (below_alloc w o).size; omega
  clear hW
  by_cases h1 : K = 1
  · subst h1
    obtain rfl : big (N % 256) 1 = X := by simpa [Fl.enc] using hX
    rw [big_length] at hfit
    clear h8 h9 hX
    have HC := hide (fun o => wU8_good base lim p (N % 256) ((N : Int) % 256) 0 65507 L _ (by omega) (by omega) (HW.out o) (by omega) (by omega) (HBS.out o) hl1 hl2)
    go_enter Try.func22, Try.ntmps22
    go_wp2_with fail
    refine (HC.out _).mono ?_
    rintro e w1 ⟨rfl, hw1, hb1⟩
    go_wp2
    go_end0
    exact ⟨rfl, hw1, (HBB.out _).trans hb1⟩
  by_cases h2 : K = 2
  · subst h2
    obtain rfl : big (N % 65536) 2 = X := by simpa [Fl.enc] using hX
    rw [big_length] at hfit
    clear h8 h9 hX h1
    have HC := hide (fun o => wU16_good base lim p (N % 65536) ((N : Int) % 65536) 0 65507 L _ (by omega) (by omega) (HW.out o) (by omega) (by omega) (HBS.out o) hl1 hl2)
    go_enter Try.func22, Try.ntmps22
    go_wp2_with fail
    refine (HC.out _).mono ?_
    rintro e w1 ⟨rfl, hw1, hb1⟩
    go_wp2
    go_end0
    exact ⟨rfl, hw1, (HBB.out _).trans hb1⟩
  by_cases h3 : K = 3
  · subst h3
    obtain rfl : big (N % 4294967296) 4 = X := by simpa [Fl.enc] using hX
    rw [big_length] at hfit
    clear h8 h9 hX h1 h2
    have HC := hide (fun o => wU32_good base lim p (N % 4294967296) ((N : Int) % 4294967296) 0 65507 L _ (by omega) (by omega) (HW.out o) (by omega) (by omega) (HBS.out o) hl1 hl2)
    go_enter Try.func22, Try.ntmps22
    go_wp2_with fail
    refine (HC.out _).mono ?_
    rintro e w1 ⟨rfl, hw1, hb1⟩
    go_wp2
    go_end0
    exact ⟨rfl, hw1, (HBB.out _).trans hb1⟩
  by_cases h4 : K = 4
  · subst h4
    obtain rfl : big N 8 = X := by simpa [Fl.enc] using hX
    rw [big_length] at hfit
    clear h8 h9 hX h1 h2 h3
    have HC := hide (fun o => wU64_good base lim p N (N : Int) 0 65507 L _ rfl (HW.out o) (by omega) (by omega) (HBS.out o) hl1 hl2)
    go_enter Try.func22, Try.ntmps22
    go_wp2_with fail
    refine (HC.out _).mono ?_
    rintro e w1 ⟨rfl, hw1, hb1⟩
    go_wp2
    go_end0
    exact ⟨rfl, hw1, (HBB.out _).trans hb1⟩
  by_cases h5 : K = 5
  · subst h5
    obtain rfl : numB N = X := by simpa [Fl.enc] using hX
    clear h8 h9 hX h1 h2 h3 h4
    have HC := hide (fun o => wNum_good base lim p N (N : Int) 0 65507 L _ rfl hN (HW.out o) (by omega) (by omega) (HBS.out o) hl1 hl2)
    go_enter Try.func22, Try.ntmps22
    go_wp2_with fail
    refine (HC.out _).mono ?_
    rintro e w1 ⟨rfl, hw1, hb1⟩
    go_wp2
    go_end0
    exact ⟨rfl, hw1, (HBB.out _).trans hb1⟩
  by_cases h6 : K = 6
  · subst h6
    obtain rfl : big (if N % 2 = 1 then 1 else 0) 1 = X := by simpa [Fl.enc] using hX
    rw [big_length] at hfit
    clear h8 h9 hX h1 h2 h3 h4 h5
    have HC : Hid (∀ o, Calls Try.prog 36 #[.pointer (some ⟨p, 0, none⟩), .bool ((N : Int) % 2 == 1)] (w.alloc o) fun e w' => e = .returned (.tuple #[]) ∧ Wr base w' p true 0 0 65507 (L ++ big (if N % 2 = 1 then 1 else 0) 1) ∧ Below lim (w.alloc o) w') := by
      intro o
      have h := wFlag_good base lim p ((N : Int) % 2 == 1) 0 65507 L _ (HW.out o) (by omega) (by omega) (HBS.out o) hl1 hl2
      have e : (if ((N : Int) % 2 == 1) = true then 1 else 0) = (if N % 2 = 1 then 1 else 0) := by
        by_cases hn : N % 2 = 1
        · have : (N : Int) % 2 = 1 := by omega
          simp [hn, this]
        · have : ¬ (N : Int) % 2 = 1 := by omega
          simp [hn, this]
      rw [e] at h
      exact h
    generalize big (if N % 2 = 1 then 1 else 0) 1 = X at *
    go_enter Try.func22, Try.ntmps22
    go_wp2_with fail
    refine (HC.out _).mono ?_
    rintro e w1 ⟨rfl, hw1, hb1⟩
    go_wp2
    go_end0
    exact ⟨rfl, hw1, (HBB.out _).trans hb1⟩
  by_cases h7 : K = 7
  · subst h7
    have hI : ¬ (I < 0 ∨ M < I) := by
      intro h
      simp [Fl.enc, h] at hX
    obtain rfl : numB I.toNat = X := by simpa [Fl.enc, hI] using hX
    clear h8 h9 hX h1 h2 h3 h4 h5 h6
    have HC := hide (fun o => wCount_good base lim p I.toNat I M 0 65507 L _ (by omega) (by omega) (by omega) (HW.out o) (by omega) (by omega) (HBS.out o) hl1 hl2)
    clear hI
    go_enter Try.func22, Try.ntmps22
    go_wp2_with fail
    refine (HC.out _).mono ?_
    rintro e w1 ⟨rfl, hw1, hb1⟩
    go_wp2
    go_end0
    exact ⟨rfl, hw1, (HBB.out _).trans hb1⟩
  obtain rfl : [] = X := by simpa [Fl.enc, h1, h2, h3, h4, h5, h6, h7, h8, h9] using hX
  have e1 : (K == 1) = false := by simp [h1]
  have e2 : (K == 2) = false := by simp [h2]
  have e3 : (K == 3) = false := by simp [h3]
  have e4 : (K == 4) = false := by simp [h4]
  have e5 : (K == 5) = false := by simp [h5]
  have e6 : (K == 6) = false := by simp [h6]
  have e7 : (K == 7) = false := by simp [h7]
  have e8 : (K == 8) = false := by simp [h8]
  have e9 : (K == 9) = false := by simp [h9]
  clear h1 h2 h3 h4 h5 h6 h7 h8 h9 hX
  go_enter Try.func22, Try.ntmps22
  go_wp2
  go_end0
  exact ⟨rfl, by rw [List.append_nil]; exact HW.out _, HBB.out _⟩
end Go.Proofs.Ytgdliomkdkjlaaa
