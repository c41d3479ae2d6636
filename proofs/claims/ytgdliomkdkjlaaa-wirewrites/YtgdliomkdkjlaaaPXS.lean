import Derived.Test.YtgdliomkdkjlaaaPXR
import Derived.Lib.AppendStr
namespace Go.Proofs.Ytgdliomkdkjlaaa
open Go.RowKit Crc

/-- What put says behind bytes that were just made. -/
theorem put_after {base p : Nat} {w w1 : World} {s : WS} (hW : RefW base w p s) (hi : s.Inv) (hbs : base ≤ w.heap.size) {v : Value} {F : List Nat} (y : Int) (hO : Owns w.heap.size w1 v F) (hb : Below w.heap.size w w1) :
    Calls Try.prog 71 #[.pointer (some ⟨p, 0, none⟩), v, .int .i64 y] w1 fun e w' => e = .returned (.tuple #[]) ∧ Hid (RefW base w' p (s.put F y) ∧ Tch 2 w w' p) := by
  obtain ⟨ao, cap, rfl, hS, _⟩ := hO.form
  refine (refPut_any (hW.below hb) hi (Nat.le_trans hbs hb.size) ao _ cap F y hS (Nat.le_refl _)).mono ?_
  rintro e w' ⟨rfl, h⟩
  exact ⟨rfl, h.out.1, Tch.from hb hW.plt h.out.2⟩

set_option maxRecDepth 10000 in
set_option maxHeartbeats 400000 in
theorem refWFixed {base p : Nat} {w : World} {s : WS} (hW : RefW base w p s) (hi : s.Inv) (hbs : base ≤ w.heap.size) (v k : Nat) (vi ki : Int) (hvi : vi = (v : Int)) (hki : ki = (k : Int)) (hk : k ≤ 8) :
    Calls Try.prog 30 #[.pointer (some ⟨p, 0, none⟩), .int .u64 vi, .int .i64 ki] w fun e w' => e = .returned (.tuple #[]) ∧ Hid (RefW base w' p (s.put (big v k) 0) ∧ Tch 2 w w' p) := by
  have HB := hide (big_any v k vi ki w hvi hki hk)
  have HP : Hid (∀ w1 x, Owns w.heap.size w1 x (big v k) → Below w.heap.size w w1 → _) := fun w1 x h1 h2 => put_after hW hi hbs (v := x) 0 h1 h2
  clear hW hi hvi hki
  go_enter Try.func30, Try.ntmps30
  go_wp2_with fail
  refine HB.out.mono ?_
  rintro e w1 ⟨x, rfl, h1, h2⟩
  have HP1 := hide (HP.out w1 x h1 h2)
  obtain ⟨a1, c1, rfl, _, _⟩ := h1.form
  clear h1 h2
  generalize (big v k).length = m at *
  go_wp2_with fail
  refine HP1.out.mono ?_
  rintro e w2 ⟨rfl, H⟩
  go_wp2
  go_end0
  exact ⟨rfl, H⟩

set_option maxRecDepth 10000 in
set_option maxHeartbeats 400000 in
theorem refWNum {base p : Nat} {w : World} {s : WS} (hW : RefW base w p s) (hi : s.Inv) (hbs : base ≤ w.heap.size) (v : Nat) (vi : Int) (hvi : vi = (v : Int)) (hv : v < 18446744073709551616) :
    Calls Try.prog 35 #[.pointer (some ⟨p, 0, none⟩), .int .u64 vi] w fun e w' => e = .returned (.tuple #[]) ∧ Hid (RefW base w' p (s.put (numB v) 0) ∧ Tch 2 w w' p) := by
  have HB := hide (refNumB v vi w hvi hv)
  have HP : Hid (∀ w1 x, Owns w.heap.size w1 x (numB v) → Below w.heap.size w w1 → _) := fun w1 x h1 h2 => put_after hW hi hbs (v := x) 0 h1 h2
  clear hW hi hvi
  go_enter Try.func35, Try.ntmps35
  go_wp2_with fail
  refine HB.out.mono ?_
  rintro e w1 ⟨x, rfl, h1, h2⟩
  have HP1 := hide (HP.out w1 x h1 h2)
  obtain ⟨a1, c1, rfl, _, _⟩ := h1.form
  clear h1 h2
  generalize (numB v).length = m at *
  go_wp2_with fail
  refine HP1.out.mono ?_
  rintro e w2 ⟨rfl, H⟩
  go_wp2
  go_end0
  exact ⟨rfl, H⟩

set_option maxRecDepth 10000 in
set_option maxHeartbeats 400000 in
theorem refWFlag {base p : Nat} {w : World} {s : WS} (hW : RefW base w p s) (hi : s.Inv) (hbs : base ≤ w.heap.size) (b : Bool) :
    Calls Try.prog 37 #[.pointer (some ⟨p, 0, none⟩), .bool b] w fun e w' => e = .returned (.tuple #[]) ∧ Hid (RefW base w' p (s.put (big (if b then 1 else 0) 1) 0) ∧ Tch 2 w w' p) := by
  have HP : Hid (∀ x : Nat, x < 256 → Calls Try.prog 71 #[.pointer (some ⟨p, 0, none⟩), .slice (some ⟨w.heap.size, 0, none⟩) 1 1, .int .i64 0] (w.alloc (.cells #[.int .u8 (x : Int)] 5 (0, 0))) fun e w' => e = .returned (.tuple #[]) ∧ Hid (RefW base w' p (s.put [x] 0) ∧ Tch 2 w w' p)) := by
    intro x hx
    refine put_after hW hi hbs (v := .slice (some ⟨w.heap.size, 0, none⟩) 1 1) 0 ⟨⟨by simp [vals], .inr ⟨w.heap.size, 1, #[.int .u8 (x : Int)], rfl, Nat.le_refl _, heap_alloc_new w _, by simp, by decide, rfl, by simp [vals]⟩⟩, by simp; omega, by simp⟩ ((Below.refl _ w).alloc (Nat.le_refl _) _)
  have HE : Hid (big 1 1 = [1] ∧ big 0 1 = [0]) := ⟨by simp [big, bigTo], by simp [big, bigTo]⟩
  clear hW hi
  cases b
  · rw [show (if false = true then 1 else 0) = 0 from rfl, HE.out.2]
    have HP0 := hide (HP.out 0 (by omega))
    clear HP
    go_enter Try.func37, Try.ntmps37
    go_wp2_with fail
    refine HP0.out.mono ?_
    rintro e w2 ⟨rfl, H⟩
    go_wp2
    go_end0
    exact ⟨rfl, H⟩
  · rw [show (if true = true then 1 else 0) = 1 from rfl, HE.out.1]
    have HP0 := hide (HP.out 1 (by omega))
    clear HP
    go_enter Try.func37, Try.ntmps37
    go_wp2_with fail
    refine HP0.out.mono ?_
    rintro e w2 ⟨rfl, H⟩
    go_wp2
    refine bodyPost_ret (v := .tuple #[]) (by simp [results, Try.results37, go_sem]) rfl ⟨rfl, H⟩

/-- A refusal without bytes. -/
theorem put_none {base p : Nat} {w : World} {s : WS} (hW : RefW base w p s) (hi : s.Inv) (hbs : base ≤ w.heap.size) (F : List Nat) {y : Int} (hy : y ≠ 0) :
    Calls Try.prog 71 #[.pointer (some ⟨p, 0, none⟩), .slice none 0 0, .int .i64 y] w fun e w' => e = .returned (.tuple #[]) ∧ Hid (RefW base w' p (s.put F y) ∧ Tch 2 w w' p) := by
  refine (refPut_any (flim := 0) hW hi hbs none 0 0 [] y shows_none (Nat.zero_le _)).mono ?_
  rintro e w' ⟨rfl, h⟩
  refine ⟨rfl, ?_, h.out.2⟩
  have h1 := h.out.1
  by_cases hs : s.sound
  · rw [WS.put_own hs F hy]
    rw [WS.put_own hs [] hy] at h1
    exact h1
  · rw [WS.put_not hs]
    rw [WS.put_not hs] at h1
    exact h1

set_option maxRecDepth 10000 in
set_option maxHeartbeats 400000 in
theorem refWCount {base p : Nat} {w : World} {s : WS} (hW : RefW base w p s) (hi : s.Inv) (hbs : base ≤ w.heap.size) (n cm : Int) (hn1 : -9223372036854775808 ≤ n) (hn2 : n < 9223372036854775808) :
    Calls Try.prog 39 #[.pointer (some ⟨p, 0, none⟩), .int .i64 n, .int .i64 cm] w fun e w' => e = .returned (.tuple #[]) ∧ Hid (RefW base w' p (s.put (numB n.toNat) (cntY n cm)) ∧ Tch 2 w w' p) := by
  by_cases h : n < 0 ∨ cm < n
  · have HC : Hid (cntY n cm = 21) := by unfold cntY; rw [if_pos h]; rfl
    rw [HC.out]
    have HP := hide (put_none hW hi hbs (numB n.toNat) (y := 21) (by decide))
    have HO : Hid (decide (n < 0) = true ∨ decide (n < 0) = false ∧ decide (cm < n) = true) := by
      show _ ∨ _
      by_cases h0 : n < 0
      · exact .inl (by simp [h0])
      · exact .inr ⟨by simp; omega, by simp; omega⟩
    clear hW hi h
    rcases HO.out with d0 | ⟨d0, d1⟩
    all_goals
      go_enter Try.func39, Try.ntmps39
      go_wp2_with fail
      refine HP.out.mono ?_
      rintro e w2 ⟨rfl, H⟩
      go_wp2
      refine bodyPost_ret (v := .tuple #[]) (by simp [results, Try.results39, go_sem]) rfl ⟨rfl, H⟩
  · have HC : Hid (cntY n cm = 0) := by unfold cntY; rw [if_neg h]; rfl
    rw [HC.out]
    obtain ⟨u, rfl⟩ : ∃ u : Nat, n = (u : Int) := ⟨n.toNat, by omega⟩
    rw [Int.toNat_natCast]
    have HB := hide (refNumB u u w rfl (by omega))
    have HP : Hid (∀ w1 x, Owns w.heap.size w1 x (numB u) → Below w.heap.size w w1 → _) := fun w1 x h1 h2 => put_after hW hi hbs (v := x) 0 h1 h2
    have d0 : decide ((u : Int) < 0) = false := by simp
    have d1 : decide (cm < (u : Int)) = false := by simp; omega
    have hcv : IntKind.u64.wrap (u : Int) = (u : Int) := by simp [IntKind.wrap, IntKind.bits, IntKind.signed]; omega
    have hu63 : (u : Int) < 9223372036854775808 := hn2
    clear hW hi h HC
    go_enter Try.func39, Try.ntmps39
    go_wp2_with fail
    refine HB.out.mono ?_
    rintro e w1 ⟨x, rfl, h1, h2⟩
    have HP1 := hide (HP.out w1 x h1 h2)
    obtain ⟨a1, c1, rfl, _, _⟩ := h1.form
    clear h1 h2
    generalize (numB u).length = m at *
    go_wp2_with fail
    refine HP1.out.mono ?_
    rintro e w2 ⟨rfl, H⟩
    go_wp2
    go_end0
    exact ⟨rfl, H⟩

set_option maxRecDepth 10000 in
set_option maxHeartbeats 400000 in
theorem refWBlob {base p blim : Nat} {w : World} {s : WS} (hW : RefW base w p s) (hi : s.Inv) (hbs : base ≤ w.heap.size) (bo : Option Addr) (n bcap : Nat) (B : List Nat) (cm : Int) (hS : Shows blim w bo n bcap B) (hbl : blim ≤ w.heap.size) (hn : n ≤ 140737488351232) :
    Calls Try.prog 41 #[.pointer (some ⟨p, 0, none⟩), .slice bo n bcap, .int .i64 cm] w fun e w' => e = .returned (.tuple #[]) ∧ Hid (RefW base w' p (s.put (numB n ++ B) (cntY n cm)) ∧ Tch 2 w w' p) := by
  by_cases h : cm < (n : Int)
  · have HC : Hid (cntY n cm = 21) := by unfold cntY; rw [if_pos (.inr h)]; rfl
    rw [HC.out]
    have HP := hide (put_none hW hi hbs (numB n ++ B) (y := 21) (by decide))
    have d1 : decide (cm < (n : Int)) = true := by simp [h]
    clear hW hi h hS
    go_enter Try.func41, Try.ntmps41
    go_wp2_with fail
    refine HP.out.mono ?_
    rintro e w2 ⟨rfl, H⟩
    go_wp2
    refine bodyPost_ret (v := .tuple #[]) (by simp [results, Try.results41, go_sem]) rfl ⟨rfl, H⟩
  · have HC : Hid (cntY n cm = 0) := by unfold cntY; rw [if_neg (by omega)]; rfl
    rw [HC.out]
    have hnl : (numB n).length ≤ 10 := numTo_len 9 n
    have HB := hide (refNumB n n w rfl (by omega))
    have HJN : Hid (∀ w1 a1 c1, Shows w1.heap.size w1 a1 (numB n).length c1 (numB n) → Below w.heap.size w w1 → Calls Try.prog 78 #[.slice a1 (numB n).length c1, .slice bo n bcap] w1 fun e w' => ∃ v, e = .returned v ∧ Hid (Owns w.heap.size w' v (numB n ++ B) ∧ Below w.heap.size w w')) := by
      intro w1 a1 c1 hs1 hb1
      refine (join_any hs1 (Nat.le_refl _) (hS.kept (below_none hb1) (fun g hg => by cases hg)) (Nat.le_trans hbl hb1.size) (by omega)).mono ?_
      rintro e w' ⟨v, rfl, h1, h2⟩
      exact ⟨v, rfl, h1.lower hb1.size, hb1.trans (h2.mono hb1.size)⟩
    have HP : Hid (∀ w1 x, Owns w.heap.size w1 x (numB n ++ B) → Below w.heap.size w w1 → _) := fun w1 x h1 h2 => put_after hW hi hbs (v := x) 0 h1 h2
    have d1 : decide (cm < (n : Int)) = false := by simp; omega
    have hcv : IntKind.u64.wrap (n : Int) = (n : Int) := by simp [IntKind.wrap, IntKind.bits, IntKind.signed]; omega
    clear hW hi h HC hS hnl
    go_enter Try.func41, Try.ntmps41
    go_wp2_with fail
    refine HB.out.mono ?_
    rintro e w1 ⟨x, rfl, h1, h2⟩
    obtain ⟨a1, c1, rfl, hs1, _⟩ := h1.form
    have HJ1 := hide (HJN.out w1 a1 c1 hs1 h2)
    clear h1 h2 hs1 HJN
    generalize (numB n).length = m at *
    go_wp2_with fail
    refine HJ1.out.mono ?_
    rintro e w2 ⟨x2, rfl, H2⟩
    have HP1 := hide (HP.out w2 x2 H2.out.1 H2.out.2)
    obtain ⟨a2, c2, rfl, _, _⟩ := H2.out.1.form
    clear H2 HP
    generalize (numB n ++ B).length = m2 at *
    go_wp2_with fail
    refine HP1.out.mono ?_
    rintro e w3 ⟨rfl, H⟩
    go_wp2
    go_end0
    exact ⟨rfl, H⟩
end Go.Proofs.Ytgdliomkdkjlaaa
