import Derived.Test.YtgdliomkdkjlaaaPLawF
namespace Go.Proofs.Ytgdliomkdkjlaaa
open Go.RowKit Crc

set_option maxRecDepth 10000 in
set_option maxHeartbeats 800000 in
theorem take_u8 (lim p : Nat) (f : Fl) (X R : List Nat) (s : RS) (w : World) (hN : f.N < 18446744073709551616) (hk : f.K = 1) (hX : f.enc = some X) (hR : RdS lim w p s) (hrest : s.rest = X ++ R) :
    Calls Try.prog 24 #[.pointer (some ⟨p, 0, none⟩), .agg f.cells] w fun e w' => e = .returned (.bool true) ∧ RdS lim w' p (s.step X.length 0) ∧ w.grownBy w' (some p) := by
  obtain ⟨K, N, I, bo, bn, bc, B, S, M⟩ := f
  simp only at hN hk
  unfold Fl.cells
  simp only
  subst hk
  obtain rfl : big (N % 256) 1 = X := by simpa [Fl.enc] using hX
  obtain ⟨a1, a2⟩ := ahead_big (N % 256) 1 R (by omega)
  rw [← hrest] at a1 a2
  have HC : Hid (∀ o : Obj, Calls Try.prog 66 #[.pointer (some ⟨p, 0, none⟩)] (w.alloc o).drew fun e w1 => e = .returned (.int .u8 ((N % 256 : Nat) : Int)) ∧ (∀ j, w1.cell? ⟨w.heap.size, j, none⟩ = (w.alloc o).cell? ⟨w.heap.size, j, none⟩) ∧ Hid (RdS lim w1 p (s.step (big (N % 256) 1).length 0) ∧ w.grownBy w1 (some p))) := by
    intro o
    have hRa : RdS lim (w.alloc o).drew p s := (hR.kept (World.grownBy_alloc w o none) (fun g hg => by cases hg)).kept (w' := (w.alloc o).drew) (row := none) ⟨rfl, rfl, rfl, Nat.le_refl _, fun _ _ _ => rfl⟩ (fun g hg => by cases hg)
    refine (rU8_any lim p s _ hRa).mono ?_
    rintro e w1 ⟨rfl, hr, hg⟩
    rw [a2] at hr
    refine ⟨by rw [a1], ?_⟩
    rw [big_length]
    exact after_read rfl hR.plt hg hr
  have HEQ : Hid ((((N % 256 : Nat) : Int) == IntKind.u8.wrap (N : Int)) = true) := by show _ = _; simp [IntKind.wrap, IntKind.bits, IntKind.signed]
  clear hX hR hrest a1 a2
  go_enter Try.func24, Try.ntmps24
  go_wp2_with fail
  go_region_with (go_at_call 66; refine (HC.out _).mono ?_; rintro e w1 ⟨rfl, hcs, HP⟩; have hc1 := hcs 1; have hc2 := hcs 2; simp at hc1 hc2; clear hcs)
  all_goals go_wp2
  all_goals go_ret
  all_goals first
    | exact ⟨congrArg (fun z => Ending.returned (Value.bool z)) HEQ.out, HP.out⟩
    | exact ⟨rfl, HP.out⟩

set_option maxRecDepth 10000 in
set_option maxHeartbeats 800000 in
theorem take_u16 (lim p : Nat) (f : Fl) (X R : List Nat) (s : RS) (w : World) (hN : f.N < 18446744073709551616) (hk : f.K = 2) (hX : f.enc = some X) (hR : RdS lim w p s) (hrest : s.rest = X ++ R) :
    Calls Try.prog 24 #[.pointer (some ⟨p, 0, none⟩), .agg f.cells] w fun e w' => e = .returned (.bool true) ∧ RdS lim w' p (s.step X.length 0) ∧ w.grownBy w' (some p) := by
  obtain ⟨K, N, I, bo, bn, bc, B, S, M⟩ := f
  simp only at hN hk
  unfold Fl.cells
  simp only
  subst hk
  obtain rfl : big (N % 65536) 2 = X := by simpa [Fl.enc] using hX
  obtain ⟨a1, a2⟩ := ahead_big (N % 65536) 2 R (by omega)
  rw [← hrest] at a1 a2
  have HC : Hid (∀ o : Obj, Calls Try.prog 67 #[.pointer (some ⟨p, 0, none⟩)] (w.alloc o).drew fun e w1 => e = .returned (.int .u16 ((N % 65536 : Nat) : Int)) ∧ (∀ j, w1.cell? ⟨w.heap.size, j, none⟩ = (w.alloc o).cell? ⟨w.heap.size, j, none⟩) ∧ Hid (RdS lim w1 p (s.step (big (N % 65536) 2).length 0) ∧ w.grownBy w1 (some p))) := by
    intro o
    have hRa : RdS lim (w.alloc o).drew p s := (hR.kept (World.grownBy_alloc w o none) (fun g hg => by cases hg)).kept (w' := (w.alloc o).drew) (row := none) ⟨rfl, rfl, rfl, Nat.le_refl _, fun _ _ _ => rfl⟩ (fun g hg => by cases hg)
    refine (rU16_any lim p s _ hRa).mono ?_
    rintro e w1 ⟨rfl, hr, hg⟩
    rw [a2] at hr
    refine ⟨by rw [a1], ?_⟩
    rw [big_length]
    exact after_read rfl hR.plt hg hr
  have HEQ : Hid ((((N % 65536 : Nat) : Int) == IntKind.u16.wrap (N : Int)) = true) := by show _ = _; simp [IntKind.wrap, IntKind.bits, IntKind.signed]
  clear hX hR hrest a1 a2
  go_enter Try.func24, Try.ntmps24
  go_wp2_with fail
  go_region_with (go_at_call 67; refine (HC.out _).mono ?_; rintro e w1 ⟨rfl, hcs, HP⟩; have hc1 := hcs 1; have hc2 := hcs 2; simp at hc1 hc2; clear hcs)
  all_goals go_wp2
  all_goals go_ret
  all_goals first
    | exact ⟨congrArg (fun z => Ending.returned (Value.bool z)) HEQ.out, HP.out⟩
    | exact ⟨rfl, HP.out⟩

set_option maxRecDepth 10000 in
set_option maxHeartbeats 800000 in
theorem take_u32 (lim p : Nat) (f : Fl) (X R : List Nat) (s : RS) (w : World) (hN : f.N < 18446744073709551616) (hk : f.K = 3) (hX : f.enc = some X) (hR : RdS lim w p s) (hrest : s.rest = X ++ R) :
    Calls Try.prog 24 #[.pointer (some ⟨p, 0, none⟩), .agg f.cells] w fun e w' => e = .returned (.bool true) ∧ RdS lim w' p (s.step X.length 0) ∧ w.grownBy w' (some p) := by
  obtain ⟨K, N, I, bo, bn, bc, B, S, M⟩ := f
  simp only at hN hk
  unfold Fl.cells
  simp only
  subst hk
  obtain rfl : big (N % 4294967296) 4 = X := by simpa [Fl.enc] using hX
  obtain ⟨a1, a2⟩ := ahead_big (N % 4294967296) 4 R (by omega)
  rw [← hrest] at a1 a2
  have HC : Hid (∀ o : Obj, Calls Try.prog 68 #[.pointer (some ⟨p, 0, none⟩)] (w.alloc o).drew fun e w1 => e = .returned (.int .u32 ((N % 4294967296 : Nat) : Int)) ∧ (∀ j, w1.cell? ⟨w.heap.size, j, none⟩ = (w.alloc o).cell? ⟨w.heap.size, j, none⟩) ∧ Hid (RdS lim w1 p (s.step (big (N % 4294967296) 4).length 0) ∧ w.grownBy w1 (some p))) := by
    intro o
    have hRa : RdS lim (w.alloc o).drew p s := (hR.kept (World.grownBy_alloc w o none) (fun g hg => by cases hg)).kept (w' := (w.alloc o).drew) (row := none) ⟨rfl, rfl, rfl, Nat.le_refl _, fun _ _ _ => rfl⟩ (fun g hg => by cases hg)
    refine (rU32_any lim p s _ hRa).mono ?_
    rintro e w1 ⟨rfl, hr, hg⟩
    rw [a2] at hr
    refine ⟨by rw [a1], ?_⟩
    rw [big_length]
    exact after_read rfl hR.plt hg hr
  have HEQ : Hid ((((N % 4294967296 : Nat) : Int) == IntKind.u32.wrap (N : Int)) = true) := by show _ = _; simp [IntKind.wrap, IntKind.bits, IntKind.signed]
  clear hX hR hrest a1 a2
  go_enter Try.func24, Try.ntmps24
  go_wp2_with fail
  go_region_with (go_at_call 68; refine (HC.out _).mono ?_; rintro e w1 ⟨rfl, hcs, HP⟩; have hc1 := hcs 1; have hc2 := hcs 2; simp at hc1 hc2; clear hcs)
  all_goals go_wp2
  all_goals go_ret
  all_goals first
    | exact ⟨congrArg (fun z => Ending.returned (Value.bool z)) HEQ.out, HP.out⟩
    | exact ⟨rfl, HP.out⟩

set_option maxRecDepth 10000 in
set_option maxHeartbeats 800000 in
theorem take_num (lim p : Nat) (f : Fl) (X R : List Nat) (s : RS) (w : World) (hN : f.N < 18446744073709551616) (hk : f.K = 5) (hX : f.enc = some X) (hR : RdS lim w p s) (hrest : s.rest = X ++ R) :
    Calls Try.prog 24 #[.pointer (some ⟨p, 0, none⟩), .agg f.cells] w fun e w' => e = .returned (.bool true) ∧ RdS lim w' p (s.step X.length 0) ∧ w.grownBy w' (some p) := by
  obtain ⟨K, N, I, bo, bn, bc, B, S, M⟩ := f
  simp only at hN hk
  unfold Fl.cells
  simp only
  subst hk
  obtain rfl : numB N = X := by simpa [Fl.enc] using hX
  have a0 := numAt_numB N R hN
  have a1 : (numAt (numB N ++ R)).1 = N := by rw [a0]
  have a2 : (numAt (numB N ++ R)).2 = ((numB N).length, 0) := by rw [a0]
  clear a0
  rw [← hrest] at a1 a2
  have HC : Hid (∀ o : Obj, Calls Try.prog 50 #[.pointer (some ⟨p, 0, none⟩)] (w.alloc o).drew fun e w1 => e = .returned (.int .u64 (N : Nat)) ∧ (∀ j, w1.cell? ⟨w.heap.size, j, none⟩ = (w.alloc o).cell? ⟨w.heap.size, j, none⟩) ∧ Hid (RdS lim w1 p (s.step (numB N).length 0) ∧ w.grownBy w1 (some p))) := by
    intro o
    have hRa : RdS lim (w.alloc o).drew p s := (hR.kept (World.grownBy_alloc w o none) (fun g hg => by cases hg)).kept (w' := (w.alloc o).drew) (row := none) ⟨rfl, rfl, rfl, Nat.le_refl _, fun _ _ _ => rfl⟩ (fun g hg => by cases hg)
    refine (rNum_any lim p s _ hRa).mono ?_
    rintro e w1 ⟨rfl, hr, hg⟩
    rw [a2] at hr
    refine ⟨by rw [a1], ?_⟩
    
    exact after_read rfl hR.plt hg hr
  have HEQ : Hid (((N : Int) == (N : Int)) = true) := by show _ = _; simp
  clear hX hR hrest a1 a2
  go_enter Try.func24, Try.ntmps24
  go_wp2_with fail
  go_region_with (go_at_call 50; refine (HC.out _).mono ?_; rintro e w1 ⟨rfl, hcs, HP⟩; have hc1 := hcs 1; have hc2 := hcs 2; simp at hc1 hc2; clear hcs)
  all_goals go_wp2
  all_goals go_ret
  all_goals first
    | exact ⟨congrArg (fun z => Ending.returned (Value.bool z)) HEQ.out, HP.out⟩
    | exact ⟨rfl, HP.out⟩

end Go.Proofs.Ytgdliomkdkjlaaa
