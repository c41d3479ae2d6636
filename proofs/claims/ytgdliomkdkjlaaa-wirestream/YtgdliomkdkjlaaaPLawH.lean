import Derived.Test.YtgdliomkdkjlaaaPLawG
namespace Go.Proofs.Ytgdliomkdkjlaaa
open Go.RowKit Crc

set_option maxRecDepth 10000 in
set_option maxHeartbeats 800000 in
theorem take_count (lim p : Nat) (f : Fl) (X R : List Nat) (s : RS) (w : World) (hI2 : f.I < 9223372036854775808) (hM1 : -9223372036854775808 ≤ f.M) (hM2 : f.M < 9223372036854775808) (hk : f.K = 7) (hX : f.enc = some X) (hR : RdS lim w p s) (hrest : s.rest = X ++ R) :
    Calls Try.prog 24 #[.pointer (some ⟨p, 0, none⟩), .agg f.cells] w fun e w' => e = .returned (.bool true) ∧ RdS lim w' p (s.step X.length 0) ∧ w.grownBy w' (some p) := by
  obtain ⟨K, N, I, bo, bn, bc, B, S, M⟩ := f
  simp only at hI2 hM1 hM2 hk
  unfold Fl.cells
  simp only
  subst hk
  have hI : ¬ (I < 0 ∨ M < I) := by
    intro h
    simp [Fl.enc, h] at hX
  obtain ⟨n, rfl⟩ : ∃ n : Nat, I = (n : Int) := ⟨I.toNat, by omega⟩
  obtain rfl : numB n = X := by simpa [Fl.enc, hI] using hX
  have a0 := countAt_numB n R M (by omega) (by omega)
  have a1 : (countAt (numB n ++ R) M).1 = n := by rw [a0]
  have a2 : (countAt (numB n ++ R) M).2 = ((numB n).length, 0) := by rw [a0]
  clear a0
  rw [← hrest] at a1 a2
  have HC : Hid (∀ o : Obj, Calls Try.prog 54 #[.pointer (some ⟨p, 0, none⟩), .int .i64 M] (w.alloc o).drew fun e w1 => e = .returned (.int .i64 (n : Nat)) ∧ (∀ j, w1.cell? ⟨w.heap.size, j, none⟩ = (w.alloc o).cell? ⟨w.heap.size, j, none⟩) ∧ Hid (RdS lim w1 p (s.step (numB n).length 0) ∧ w.grownBy w1 (some p))) := by
    intro o
    have hRa : RdS lim (w.alloc o).drew p s := (hR.kept (World.grownBy_alloc w o none) (fun g hg => by cases hg)).kept (w' := (w.alloc o).drew) (row := none) ⟨rfl, rfl, rfl, Nat.le_refl _, fun _ _ _ => rfl⟩ (fun g hg => by cases hg)
    refine (rCount_any lim p s M _ hRa hM1 hM2).mono ?_
    rintro e w1 ⟨rfl, hr, hg⟩
    rw [a2] at hr
    refine ⟨by rw [a1], ?_⟩
    
    exact after_read rfl hR.plt hg hr
  have HEQ : Hid (((n : Int) == (n : Int)) = true) := by show _ = _; simp
  clear hX hR hrest a1 a2 hI
  go_enter Try.func24, Try.ntmps24
  go_wp2_with fail
  go_region_with (go_at_call 54; refine (HC.out _).mono ?_; rintro e w1 ⟨rfl, hcs, HP⟩; have hc1 := hcs 1; have hc2 := hcs 2; simp at hc1 hc2; clear hcs)
  all_goals go_wp2
  all_goals go_ret
  all_goals first
    | exact ⟨congrArg (fun z => Ending.returned (Value.bool z)) HEQ.out, HP.out⟩
    | exact ⟨rfl, HP.out⟩

set_option maxRecDepth 10000 in
set_option maxHeartbeats 800000 in
theorem take_flag (lim p : Nat) (f : Fl) (X R : List Nat) (s : RS) (w : World) (hk : f.K = 6) (hX : f.enc = some X) (hR : RdS lim w p s) (hrest : s.rest = X ++ R) :
    Calls Try.prog 24 #[.pointer (some ⟨p, 0, none⟩), .agg f.cells] w fun e w' => e = .returned (.bool true) ∧ RdS lim w' p (s.step X.length 0) ∧ w.grownBy w' (some p) := by
  obtain ⟨K, N, I, bo, bn, bc, B, S, M⟩ := f
  simp only at hk
  unfold Fl.cells
  simp only
  subst hk
  obtain rfl : big (if N % 2 = 1 then 1 else 0) 1 = X := by simpa [Fl.enc] using hX
  obtain ⟨bb, hbb⟩ : ∃ bb, bb = ((N : Int) % 2 == 1) := ⟨_, rfl⟩
  have e6 : (if N % 2 = 1 then 1 else 0) = (if bb then 1 else 0) := by
    rw [hbb]
    by_cases hn : N % 2 = 1
    · have : (N : Int) % 2 = 1 := by omega
      simp [hn, this]
    · have : ¬ (N : Int) % 2 = 1 := by omega
      simp [hn, this]
  rw [e6] at hrest ⊢
  obtain ⟨a1, a2⟩ := flag_big bb R
  rw [← hrest] at a1 a2
  have HC : Hid (∀ o : Obj, Calls Try.prog 52 #[.pointer (some ⟨p, 0, none⟩)] (w.alloc o).drew fun e w1 => e = .returned (.bool bb) ∧ (∀ j, w1.cell? ⟨w.heap.size, j, none⟩ = (w.alloc o).cell? ⟨w.heap.size, j, none⟩) ∧ Hid (RdS lim w1 p (s.step (big (if bb then 1 else 0) 1).length 0) ∧ w.grownBy w1 (some p))) := by
    intro o
    have hRa : RdS lim (w.alloc o).drew p s := (hR.kept (World.grownBy_alloc w o none) (fun g hg => by cases hg)).kept (w' := (w.alloc o).drew) (row := none) ⟨rfl, rfl, rfl, Nat.le_refl _, fun _ _ _ => rfl⟩ (fun g hg => by cases hg)
    refine (rFlag_any lim p s _ hRa).mono ?_
    rintro e w1 ⟨rfl, hr, hg⟩
    rw [a2] at hr
    refine ⟨by rw [a1], ?_⟩
    rw [big_length]
    exact after_read rfl hR.plt hg hr
  have HEQ : Hid ((bb == ((N : Int) % 2 == 1)) = true) := by show _ = _; rw [hbb]; simp
  clear hX hR hrest a1 a2 e6 hbb
  generalize big (if bb then 1 else 0) 1 = X at *
  go_enter Try.func24, Try.ntmps24
  go_wp2_with fail
  go_region_with (go_at_call 52; refine (HC.out _).mono ?_; rintro e w1 ⟨rfl, hcs, HP⟩; have hc1 := hcs 1; have hc2 := hcs 2; simp at hc1 hc2; clear hcs)
  all_goals go_wp2
  all_goals go_ret
  all_goals first
    | exact ⟨congrArg (fun z => Ending.returned (Value.bool z)) HEQ.out, HP.out⟩
    | exact ⟨rfl, HP.out⟩

end Go.Proofs.Ytgdliomkdkjlaaa
