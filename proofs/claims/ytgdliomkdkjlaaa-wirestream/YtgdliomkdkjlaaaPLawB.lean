import Derived.Test.YtgdliomkdkjlaaaPLawA
import Derived.Deep.RegionWith
namespace Go.Proofs.Ytgdliomkdkjlaaa
open Go.RowKit Crc

set_option maxRecDepth 10000 in
set_option maxHeartbeats 400000 in
theorem size_blob (lim : Nat) (f : Fl) (w : World) (hf : f.Ok lim w) (h8 : f.K = 8) :
    Calls Try.prog 20 #[.agg f.cells] w fun e w' => e = .returned (.int .i64 (sizeI f.enc)) ∧ Below w.heap.size w w' := by
  obtain ⟨hN, hK1, hK2, hI1, hI2, hM1, hM2, hB, hS⟩ := hf
  obtain ⟨K, N, I, bo, bn, bc, B, S, M⟩ := f
  simp only at hN hK1 hK2 hI1 hI2 hM1 hM2 hB hS h8
  unfold Fl.cells
  simp only
  have hbn := hB.2.2.1
  have HBN := hide hB.1
  clear hB
  have HBA : Hid (∀ o q, Below w.heap.size w ((w.alloc o).drewN q)) := fun o q => below_drewN (below_alloc w o)
  have HBB : Hid (∀ o, Below w.heap.size w (w.alloc o)) := fun o => below_alloc w o
  subst h8
  by_cases hM : M < (bn : Int)
  · have HE : Hid (sizeI (Fl.enc ⟨8, N, I, bo, bn, bc, B, S, M⟩) = -1) := by show _ = _; simp [Fl.enc, sizeI, hM]
    have d : decide (M < (bn : Int)) = true := by simp [hM]
    go_enter Try.func20, Try.ntmps20
    go_wp2
    go_ret
    exact ⟨by rw [HE.out]; rfl, HBB.out _⟩
  · have HE : Hid (sizeI (Fl.enc ⟨8, N, I, bo, bn, bc, B, S, M⟩) = ((numB bn).length : Nat) + (bn : Int)) := by show _ = _; simp [Fl.enc, sizeI, hM]; have := HBN.out; omega
    have d : decide (M < (bn : Int)) = false := by simp; omega
    have HG := hide (fun (vi : Int) (wx : World) (h : vi = (bn : Int)) => groups_any bn vi wx h (by omega))
    have hnl : (numB bn).length ≤ 10 := numTo_len 9 bn
    have HWR : Hid (IntKind.i64.wrap (((numB bn).length : Int) + (bn : Int)) = ((numB bn).length : Int) + (bn : Int)) := by show _ = _; simp [IntKind.wrap, IntKind.bits, IntKind.signed]; omega
    generalize (numB bn).length = nl at *
    go_enter Try.func20, Try.ntmps20
    go_wp2_with fail
    go_region_with (go_at_call 64; refine (HG.out _ _ (by first | (rw [IntKind.wrap_u64]; omega) | omega)).mono ?_; rintro e w1 ⟨rfl, rfl⟩)
    all_goals go_wp2
    all_goals go_ret
    all_goals exact ⟨by rw [HE.out]; exact congrArg (fun z => Ending.returned (Value.int .i64 z)) HWR.out, HBA.out _ 1⟩

set_option maxRecDepth 10000 in
set_option maxHeartbeats 400000 in
theorem size_text (lim : Nat) (f : Fl) (w : World) (hf : f.Ok lim w) (h9 : f.K = 9) :
    Calls Try.prog 20 #[.agg f.cells] w fun e w' => e = .returned (.int .i64 (sizeI f.enc)) ∧ Below w.heap.size w w' := by
  obtain ⟨hN, hK1, hK2, hI1, hI2, hM1, hM2, hB, hS⟩ := hf
  obtain ⟨K, N, I, bo, bn, bc, B, S, M⟩ := f
  simp only at hN hK1 hK2 hI1 hI2 hM1 hM2 hB hS h9
  unfold Fl.cells
  simp only
  have hbn := hB.2.2.1
  have HBN := hide hB.1
  clear hB
  have HBA : Hid (∀ o q, Below w.heap.size w ((w.alloc o).drewN q)) := fun o q => below_drewN (below_alloc w o)
  have HBB : Hid (∀ o, Below w.heap.size w (w.alloc o)) := fun o => below_alloc w o
  subst h9
  by_cases hM : M < (S.size : Int)
  · have HE : Hid (sizeI (Fl.enc ⟨9, N, I, bo, bn, bc, B, S, M⟩) = -1) := by show _ = _; simp [Fl.enc, sizeI, hM]
    have d : decide (M < (S.size : Int)) = true := by simp [hM]
    go_enter Try.func20, Try.ntmps20
    go_wp2
    go_ret
    exact ⟨by rw [HE.out]; rfl, HBB.out _⟩
  · have d : decide (M < (S.size : Int)) = false := by simp; omega
    have HA := hide (fun wx => ascii_any S wx (by omega))
    by_cases hA : Ascii S
    · have HE : Hid (sizeI (Fl.enc ⟨9, N, I, bo, bn, bc, B, S, M⟩) = ((numB S.size).length : Nat) + (S.size : Int)) := by show _ = _; simp [Fl.enc, sizeI, hM, hA, strB_len]
      have HA2 : Hid (∀ wx, Calls Try.prog 65 #[.string S] wx fun e w' => e = .returned (.bool true) ∧ w' = wx) := by
        have h := HA.out
        rw [decide_eq_true hA] at h
        exact h
      have HG := hide (fun (vi : Int) (wx : World) (h : vi = (S.size : Int)) => groups_any S.size vi wx h (by omega))
      have hnl : (numB S.size).length ≤ 10 := numTo_len 9 S.size
      have HWR : Hid (IntKind.i64.wrap (((numB S.size).length : Int) + (S.size : Int)) = ((numB S.size).length : Int) + (S.size : Int)) := by show _ = _; simp [IntKind.wrap, IntKind.bits, IntKind.signed]; omega
      clear HA hA
      generalize (numB S.size).length = nl at *
      go_enter Try.func20, Try.ntmps20
      go_wp2_with fail
      refine (HA2.out _).mono ?_
      rintro e w1 ⟨rfl, rfl⟩
      go_wp2_with fail
      go_region_with (go_at_call 64; refine (HG.out _ _ (by first | (rw [IntKind.wrap_u64]; omega) | omega)).mono ?_; rintro e w1 ⟨rfl, rfl⟩)
      all_goals go_wp2
      all_goals go_ret
      all_goals exact ⟨by rw [HE.out]; exact congrArg (fun z => Ending.returned (Value.int .i64 z)) HWR.out, HBA.out _ 1⟩
    · have HE : Hid (sizeI (Fl.enc ⟨9, N, I, bo, bn, bc, B, S, M⟩) = -1) := by show _ = _; simp [Fl.enc, sizeI, hA]
      have HA2 : Hid (∀ wx, Calls Try.prog 65 #[.string S] wx fun e w' => e = .returned (.bool false) ∧ w' = wx) := by
        have h := HA.out
        rw [decide_eq_false hA] at h
        exact h
      clear HA hA
      go_enter Try.func20, Try.ntmps20
      go_wp2_with fail
      refine (HA2.out _).mono ?_
      rintro e w1 ⟨rfl, rfl⟩
      go_wp2
      go_ret
      exact ⟨by rw [HE.out]; rfl, HBB.out _⟩

theorem size_any (lim : Nat) (f : Fl) (w : World) (hf : f.Ok lim w) :
    Calls Try.prog 20 #[.agg f.cells] w fun e w' => e = .returned (.int .i64 (sizeI f.enc)) ∧ Below w.heap.size w w' := by
  by_cases h8 : f.K = 8
  · exact size_blob lim f w hf h8
  · by_cases h9 : f.K = 9
    · exact size_text lim f w hf h9
    · exact size_low lim f w hf h8 h9
end Go.Proofs.Ytgdliomkdkjlaaa
