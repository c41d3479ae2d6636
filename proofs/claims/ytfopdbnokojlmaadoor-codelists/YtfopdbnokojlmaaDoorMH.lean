import Derived.Test.YtfopdbnokojlmaaDoorMB
import Derived.Test.YtfopdbnokojlmaaDoorCvR
namespace Go.Proofs.YtfopdbnokojlmaaDoor
open Go.RowKit

/-- The i-th word of a text in which each has a space behind it. -/
def wordG : List Nat → Nat → List Nat → List Nat
  | [], _, _ => []
  | c :: r, i, cur => if c = 32 then (if i = 0 then cur else wordG r (i - 1) []) else wordG r i (cur ++ [c])
theorem drop_step {l : List Nat} {k : Nat} (h : k < l.length) : l.drop k = l[k] :: l.drop (k + 1) := List.drop_eq_getElem_cons h
theorem cur_step {l : List Nat} {f k : Nat} (h : k < l.length) (hf : f ≤ k) : (l.take (k + 1)).drop f = (l.take k).drop f ++ [l[k]] := by
  rw [List.take_add_one, List.getElem?_eq_getElem h, List.drop_append_of_le_length (by rw [List.length_take]; omega)]
  rfl
set_option maxRecDepth 10000 in
set_option maxHeartbeats 1600000 in
theorem wordC (l : List Nat) (hl : ∀ x ∈ l, x < 256) (hn : l.length ≤ 10000) (i : Nat) (hi : i ≤ 10000) (w : World) :
    Calls Tryd.prog 13 #[.string (txt l), .int .i64 (i : Nat)] w fun e w' => e = .returned (.string (txt (wordG l i []))) ∧ w' = w := by
  obtain ⟨R, hR⟩ : ∃ R, wordG l i [] = R := ⟨_, rfl⟩
  rw [hR]
  have HR := hide hR
  have HL := hide hl
  have hsz := txt_size l
  have HX : Hid (∀ f k, (txt l).extract f k = txt ((l.take k).drop f)) := hide (fun f k => txt_extract l f k)
  have HAT : Hid (∀ k (h : k < (txt l).size) (h2 : k < l.length), ((txt l)[k]'h).toNat = l[k]) := hide (fun k h h2 => txt_at l k h h2 (hl _ (List.getElem_mem h2)))
  clear hR hl
  generalize txt l = ts at *
  obtain ⟨n, hn2⟩ : ∃ n, l.length = n := ⟨_, rfl⟩
  rw [hn2] at hsz hn
  have HN := hide hn2
  clear hn2
  go_enter Tryd.func13, Tryd.ntmps13
  go_upto_region 3 with fail
  go_loopw [1, 5, 6] (fun a b c wr => ∃ x f k : Nat, x ≤ 10000 ∧ f ≤ k ∧ k ≤ n ∧ a = .int .i64 (x : Nat) ∧ b = .int .i64 (f : Nat) ∧ c = .int .i64 (k : Nat) ∧ Hid (wordG (l.drop k) x ((l.take k).drop f) = R ∧ wr = w)) (fun _ _ c _ => n - (intOf c).toNat)
  case atStart => exact ⟨i, 0, 0, hi, by omega, by omega, rfl, rfl, rfl, HR.out, rfl⟩
  case round =>
    obtain ⟨x, f, k, hx, hf, hk, rfl, rfl, rfl, HJ⟩ := hrel
    have hwr : wr = w := HJ.out.2
    subst hwr
    by_cases hlt : k < n
    · have hkl : k < l.length := by rw [HN.out]; exact hlt
      have hks : k < ts.size := by omega
      obtain ⟨c, hc⟩ : ∃ c, l[k] = c := ⟨_, rfl⟩
      have hat : (ts[k]'hks).toNat = c := (HAT.out k hks hkl).trans hc
      have hg := HJ.out.1
      rw [drop_step hkl, hc] at hg
      unfold wordG at hg
      by_cases h32 : c = 32
      · subst h32
        rw [if_pos rfl] at hg
        by_cases h0 : x = 0
        · subst h0
          rw [if_pos rfl] at hg
          have hex := HX.out f k
          rw [hg] at hex
          clear hg HJ HX HAT hc HR HL
          go_wp2
          go_ret
          exact ⟨rfl, rfl⟩
        · rw [if_neg h0] at hg
          have HG : Hid (wordG (l.drop (k + 1)) (x - 1) ((l.take (k + 1)).drop (k + 1)) = R) := by
            show _ = _
            have e : (l.take (k + 1)).drop (k + 1) = [] := List.drop_of_length_le (by rw [List.length_take]; omega)
            rw [e]
            exact hg
          have hxi : (x : Int) - 1 = ((x - 1 : Nat) : Int) := by omega
          have hx0 : ¬ (x : Int) = 0 := by omega
          generalize x - 1 = x1 at *
          have hx1 : x1 ≤ 10000 := by omega
          clear hg HJ HX HAT hc HR HL h0
          go_wp2
          go_roundw
          case rel => exact ⟨x1, k + 1, k + 1, hx1, by omega, by omega, by go_num, by go_num, by go_num, HG.out, by trivial⟩
          case measure => simp [intOf]; omega
      · rw [if_neg h32] at hg
        have HG : Hid (wordG (l.drop (k + 1)) x ((l.take (k + 1)).drop f) = R) := by
          show _ = _
          rw [cur_step hkl hf, hc]
          exact hg
        have hci : ¬ (c : Int) = 32 := by omega
        clear hg HJ HX HAT hc HR HL
        go_wp2
        go_roundw
        case rel => exact ⟨x, f, k + 1, hx, by omega, by omega, rfl, rfl, by go_num, HG.out, by trivial⟩
        case measure => simp [intOf]; omega
    · obtain rfl : k = n := by omega
      have hg := HJ.out.1
      rw [List.drop_of_length_le (by rw [HN.out]; exact Nat.le_refl _)] at hg
      have hRe : R = [] := hg.symm
      subst hRe
      clear hg HJ HX HAT HR HL
      go_wp2
      go_ret
      exact ⟨rfl, rfl⟩
def wAll : List Nat := [116, 105, 99, 107, 32, 110, 117, 109, 32, 116, 114, 117, 101, 32, 102, 97, 108, 115, 101, 32, 101, 110, 118, 32, 103, 101, 116, 32, 112, 117, 116, 32, 110, 111, 116, 32, 101, 113, 32, 110, 101, 32, 108, 116, 32, 108, 101, 32, 103, 116, 32, 103, 101, 32, 101, 113, 98, 32, 110, 101, 98, 32, 97, 100, 100, 32, 115, 117, 98, 32, 109, 117, 108, 32, 100, 105, 118, 32, 109, 111, 100, 32, 109, 105, 110, 32, 109, 97, 120, 32, 115, 104, 97, 114, 101, 32, 106, 117, 109, 112, 32, 106, 117, 109, 112, 110, 111, 116, 32, 115, 107, 105, 112, 110, 111, 116, 32, 115, 107, 105, 112, 121, 101, 115, 32, 112, 97, 121, 32, 114, 101, 113, 117, 105, 114, 101, 32, 102, 97, 105, 108, 32, 100, 111, 110, 101, 32]
def eAll : List Nat := [102, 117, 110, 100, 32, 114, 101, 108, 101, 97, 115, 101, 32, 100, 105, 115, 112, 117, 116, 101, 32, 97, 114, 98, 105, 116, 114, 97, 116, 101, 32, 114, 101, 102, 117, 110, 100, 32, 101, 120, 112, 105, 114, 101, 32]
def kAll : List Nat := [110, 117, 109, 32, 98, 111, 111, 108, 32]
theorem wAll_at : ∀ o, o < 33 → 1 ≤ o → wordG wAll (o - 1) [] = wordT.getD o [] := by decide
theorem eAll_at : ∀ o, o < 6 → wordG eAll o [] = evT.getD o [] := by decide
theorem kAll_at (s : Int) (h : s = 0 ∨ s = 1) : txt (wordG kAll s.toNat []) = kdB s := by
  rcases h with rfl | rfl <;> rfl
set_option maxRecDepth 10000 in
theorem WordC (o : Nat) (h1 : 1 ≤ o) (h2 : o ≤ 32) (w : World) : Calls Tryd.prog 14 #[.int .i64 (o : Nat)] w fun e w' => e = .returned (.string (wdB o)) ∧ w' = w := by
  have H := wordC wAll (by decide) (by decide) (o - 1) (by omega) w
  rw [wAll_at o (by omega) h1] at H
  have HW : Hid (Calls Tryd.prog 13 #[.string (txt wAll), .int .i64 ((o : Int) - 1)] w fun e w' => e = .returned (.string (wdB o)) ∧ w' = w) := by
    have e : ((o - 1 : Nat) : Int) = (o : Int) - 1 := by omega
    rw [e] at H
    exact hide H
  clear H
  go_enter Tryd.func14, Tryd.ntmps14
  go_wp2_with fail
  refine HW.out.mono ?_
  rintro e w1 ⟨rfl, rfl⟩
  go_wp2
  go_ret
  exact ⟨rfl, rfl⟩
set_option maxRecDepth 10000 in
theorem InputsC (a : Int) (h0 : 0 ≤ a) (h8 : a < 8) (w : World) : Calls Tryd.prog 15 #[.int .i64 a] w fun e w' => e = .returned (.string (nmB a.toNat)) ∧ w' = w := by
  obtain ⟨c, rfl⟩ := Int.eq_ofNat_of_zero_le h0
  have hc : c = 0 ∨ c = 1 ∨ c = 2 ∨ c = 3 ∨ c = 4 ∨ c = 5 ∨ c = 6 ∨ c = 7 := by omega
  rcases hc with rfl | rfl | rfl | rfl | rfl | rfl | rfl | rfl
  all_goals
    go_enter Tryd.func15, Tryd.ntmps15
    go_wp2
    go_ret
    exact ⟨rfl, rfl⟩
theorem hasArg_eq : ∀ o, o < 33 → 1 ≤ o → (decide (o = 2 ∨ (5 ≤ o ∧ o ≤ 7) ∨ (25 ≤ o ∧ o ≤ 28) ∨ o = 30 ∨ o = 31)) = decide (fArg o ≠ 0) := by decide
set_option maxRecDepth 10000 in
theorem HasArgC (o : Nat) (h1 : 1 ≤ o) (h2 : o ≤ 32) (w : World) : Calls Tryd.prog 16 #[.int .i64 (o : Nat)] w fun e w' => e = .returned (.bool (decide (fArg o ≠ 0))) ∧ w' = w := by
  rw [← hasArg_eq o (by omega) h1]
  have hc : o = 1 ∨ o = 2 ∨ (3 ≤ o ∧ o ≤ 4) ∨ (5 ≤ o ∧ o ≤ 7) ∨ (8 ≤ o ∧ o ≤ 24) ∨ (25 ≤ o ∧ o ≤ 28) ∨ o = 29 ∨ o = 30 ∨ o = 31 ∨ o = 32 := by omega
  rcases hc with rfl | rfl | ⟨q1, q2⟩ | ⟨q1, q2⟩ | ⟨q1, q2⟩ | ⟨q1, q2⟩ | rfl | rfl | rfl | rfl
  · show Calls _ _ _ _ fun e w' => e = .returned (.bool false) ∧ _
    go_enter Tryd.func16, Tryd.ntmps16
    go_wp2
    go_ret
    exact ⟨rfl, rfl⟩
  · show Calls _ _ _ _ fun e w' => e = .returned (.bool true) ∧ _
    go_enter Tryd.func16, Tryd.ntmps16
    go_wp2
    go_ret
    exact ⟨rfl, rfl⟩
  · rw [decide_eq_false (by omega)]
    have d0 : ((o : Int) == 2) = false := beq_eq_false_iff_ne.2 (by omega)
    have d1 : ((o : Int) == 30) = false := beq_eq_false_iff_ne.2 (by omega)
    have d2 : ((o : Int) == 31) = false := beq_eq_false_iff_ne.2 (by omega)
    have d3 : ¬ (5 : Int) ≤ o := by omega
    have d4 : (o : Int) ≤ 7 := by omega
    have d5 : ¬ (25 : Int) ≤ o := by omega
    have d6 : (o : Int) ≤ 28 := by omega
    generalize (o : Int) = oi at *
    go_enter Tryd.func16, Tryd.ntmps16
    go_wp2
    go_ret
    exact ⟨rfl, rfl⟩
  · rw [decide_eq_true (by omega)]
    have d0 : ((o : Int) == 2) = false := beq_eq_false_iff_ne.2 (by omega)
    have d1 : ((o : Int) == 30) = false := beq_eq_false_iff_ne.2 (by omega)
    have d2 : ((o : Int) == 31) = false := beq_eq_false_iff_ne.2 (by omega)
    have d3 : (5 : Int) ≤ o := by omega
    have d4 : (o : Int) ≤ 7 := by omega
    have d5 : ¬ (25 : Int) ≤ o := by omega
    have d6 : (o : Int) ≤ 28 := by omega
    generalize (o : Int) = oi at *
    go_enter Tryd.func16, Tryd.ntmps16
    go_wp2
    go_ret
    exact ⟨rfl, rfl⟩
  · rw [decide_eq_false (by omega)]
    have d0 : ((o : Int) == 2) = false := beq_eq_false_iff_ne.2 (by omega)
    have d1 : ((o : Int) == 30) = false := beq_eq_false_iff_ne.2 (by omega)
    have d2 : ((o : Int) == 31) = false := beq_eq_false_iff_ne.2 (by omega)
    have d3 : (5 : Int) ≤ o := by omega
    have d4 : ¬ (o : Int) ≤ 7 := by omega
    have d5 : ¬ (25 : Int) ≤ o := by omega
    have d6 : (o : Int) ≤ 28 := by omega
    generalize (o : Int) = oi at *
    go_enter Tryd.func16, Tryd.ntmps16
    go_wp2
    go_ret
    exact ⟨rfl, rfl⟩
  · rw [decide_eq_true (by omega)]
    have d0 : ((o : Int) == 2) = false := beq_eq_false_iff_ne.2 (by omega)
    have d1 : ((o : Int) == 30) = false := beq_eq_false_iff_ne.2 (by omega)
    have d2 : ((o : Int) == 31) = false := beq_eq_false_iff_ne.2 (by omega)
    have d3 : (5 : Int) ≤ o := by omega
    have d4 : ¬ (o : Int) ≤ 7 := by omega
    have d5 : (25 : Int) ≤ o := by omega
    have d6 : (o : Int) ≤ 28 := by omega
    generalize (o : Int) = oi at *
    go_enter Tryd.func16, Tryd.ntmps16
    go_wp2
    go_ret
    exact ⟨rfl, rfl⟩
  · show Calls _ _ _ _ fun e w' => e = .returned (.bool false) ∧ _
    go_enter Tryd.func16, Tryd.ntmps16
    go_wp2
    go_ret
    exact ⟨rfl, rfl⟩
  · show Calls _ _ _ _ fun e w' => e = .returned (.bool true) ∧ _
    go_enter Tryd.func16, Tryd.ntmps16
    go_wp2
    go_ret
    exact ⟨rfl, rfl⟩
  · show Calls _ _ _ _ fun e w' => e = .returned (.bool true) ∧ _
    go_enter Tryd.func16, Tryd.ntmps16
    go_wp2
    go_ret
    exact ⟨rfl, rfl⟩
  · show Calls _ _ _ _ fun e w' => e = .returned (.bool false) ∧ _
    go_enter Tryd.func16, Tryd.ntmps16
    go_wp2
    go_ret
    exact ⟨rfl, rfl⟩
end Go.Proofs.YtfopdbnokojlmaaDoor
