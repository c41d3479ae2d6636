import Derived.Test.YthfiafjhnidlkaaBSc
import Derived.Test.YthfiafjhnidlkaaBQu
namespace Go.Proofs.Ythfiafjhnidlkaa
open Go.RowKit

theorem memU_nil {s k : Nat} (h : ∀ i, i < k → s.testBit i = false) : memU s k = [] := by
  unfold memU
  rw [List.map_eq_nil_iff, List.filter_eq_nil_iff]
  intro i hi
  rw [h i (List.mem_range.1 hi)]
  simp
theorem crossB_at {s k : Nat} (hk : k < 32) (h : ∀ i, i < k → s.testBit i = false) (ht : s.testBit k = true) : crossB s = (k : Int) := by
  obtain ⟨t, e⟩ := memU_pre s (k := k + 1) (n := 32) (by omega)
  rw [memU_succ, memU_nil h, if_pos ht, List.nil_append] at e
  unfold crossB
  rw [← e]
  rfl
theorem crossB_no {s : Nat} (h : ∀ i, i < 32 → s.testBit i = false) : crossB s = -1 := by
  unfold crossB
  rw [memU_nil h]
set_option maxRecDepth 10000 in
set_option maxHeartbeats 800000 in
/-- The reference's Cross. -/
theorem refCross (a b : Nat) (ha : a < 4294967296) (hb : b < 4294967296) (w : World) :
    Calls Try.prog 24 #[.int .u32 (a : Nat), .int .u32 (b : Nat)] w fun e w' => e = .returned (.int .i64 (crossB (a &&& b))) ∧ w' = w := by
  have HA := hide (fun k W => refHas a ha k W)
  have HB := hide (fun k W => refHas b hb k W)
  have HX := hide (hasB_nat a)
  have HY := hide (hasB_nat b)
  have HT : Hid (∀ k, (a &&& b).testBit k = (a.testBit k && b.testBit k)) := fun k => Nat.testBit_and a b k
  have HC := hide (fun k hk h ht => crossB_at (s := a &&& b) (k := k) hk h ht)
  have HN := hide (fun h => crossB_no (s := a &&& b) h)
  generalize crossB (a &&& b) = x at *
  generalize a &&& b = ab at *
  go_enter Try.func24, Try.ntmps24
  go_upto_region 2 with fail
  go_loopw [5] (fun i wr => wr = w ∧ ∃ k : Nat, k ≤ 32 ∧ i = .int .i64 (k : Nat) ∧ Hid (∀ j, j < k → ab.testBit j = false)) (fun i _ => 32 - (intOf i).toNat)
  case atStart => exact ⟨rfl, 0, by omega, rfl, fun j hj => absurd hj (by omega)⟩
  case round =>
    obtain ⟨rfl, k, hk, rfl, HJ⟩ := hrel
    by_cases hlt : k < 32
    · have H1 := hide (HA.out (k : Int) wr)
      have H2 := hide (HB.out (k : Int) wr)
      rw [HX.out k hlt] at H1
      rw [HY.out k hlt] at H2
      have HS : Hid (ab.testBit k = false → ∀ j, j < k + 1 → ab.testBit j = false) := fun h j hj => by
        by_cases e : j = k
        · rw [e]; exact h
        · exact HJ.out j (by omega)
      have HE : Hid (ab.testBit k = true → x = (k : Int)) := fun h => HC.out k hlt HJ.out h
      have HTk := hide (HT.out k)
      generalize ab.testBit k = tk at *
      cases h1 : a.testBit k with
      | false =>
        rw [h1] at H1 HTk
        clear h1
        have hz := HTk.out
        rw [Bool.false_and] at hz
        subst hz
        go_wp2_with fail
        refine H1.out.mono ?_
        rintro e w1 ⟨rfl, rfl⟩
        go_wp2
        go_roundw
        case rel => exact ⟨trivial, k + 1, by omega, by go_num, HS.out (by simp)⟩
        case measure => simp [intOf]; omega
      | true =>
        rw [h1] at H1 HTk
        clear h1
        rw [Bool.true_and] at HTk
        cases h2 : b.testBit k with
        | false =>
          rw [h2] at H2 HTk
          clear h2
          have hz := HTk.out
          subst hz
          go_wp2_with fail
          refine H1.out.mono ?_
          rintro e w1 ⟨rfl, rfl⟩
          go_wp2_with fail
          refine H2.out.mono ?_
          rintro e w1 ⟨rfl, rfl⟩
          go_wp2
          go_roundw
          case rel => exact ⟨trivial, k + 1, by omega, by go_num, HS.out (by simp)⟩
          case measure => simp [intOf]; omega
        | true =>
          rw [h2] at H2 HTk
          clear h2
          have HZ := hide (HE.out HTk.out)
          clear HE HTk HS
          go_wp2_with fail
          refine H1.out.mono ?_
          rintro e w1 ⟨rfl, rfl⟩
          go_wp2_with fail
          refine H2.out.mono ?_
          rintro e w1 ⟨rfl, rfl⟩
          go_wp2
          go_ret
          exact ⟨by rw [HZ.out]; rfl, rfl⟩
    · obtain rfl : k = 32 := by omega
      have HZ := hide (HN.out HJ.out)
      go_wp2
      go_ret
      exact ⟨by rw [HZ.out]; rfl, rfl⟩
/-- The members within the group. -/
theorem memU_all {s N : Nat} {m : Nat} (hin : ∀ i, i < N → m.testBit i = true) : ∀ k, k ≤ N → memU (s &&& m) k = memU s k
  | 0, _ => rfl
  | k + 1, h => by rw [memU_succ, memU_succ, memU_all hin k (by omega), Nat.testBit_and, hin k (by omega), Bool.and_true]
theorem maj_len {c : Cf} (hk : c.Ok) (s N : Nat) (hN : 2 * c.f + 1 = (N : Int)) : countB (s &&& allN c.f) = (memU s N).length := by
  have hf := hk.f_cases
  have h1 : ∀ i, i < N → (allN c.f).testBit i = true := by
    have hp : allN c.f = 2 ^ N - 1 := by
      rcases hf with h | h | h
      · rw [h, show N = 3 by omega]; rfl
      · rw [h, show N = 5 by omega]; rfl
      · rw [h, show N = 7 by omega]; rfl
    intro i hi
    rw [hp, Nat.testBit_two_pow_sub_one]
    exact decide_eq_true hi
  have h2 : ∀ i, N ≤ i → (s &&& allN c.f).testBit i = false := fun i hi => by
    rw [Nat.testBit_and, allN_bit c.f hf i (by omega), Bool.and_false]
  unfold countB
  have hN7 : N ≤ 32 := by have := hk.f3; omega
  rw [memU_beyond h2 32 hN7, memU_all h1 N (Nat.le_refl _)]
set_option maxRecDepth 10000 in
set_option maxHeartbeats 800000 in
/-- The reference's Majority. -/
theorem refMajority {w : World} {p : Nat} {c : Cf} (s : Nat) (hs : s < 4294967296) (h : RefG w p c) :
    Calls Try.prog 26 #[.pointer (some ⟨p, 0, none⟩), .int .u32 (s : Nat)] w fun e w' => e = .returned (.bool (c.maj s)) ∧ w' = w := by
  have HN := hide (refNodes h)
  have HQ := hide (refQuorum h)
  have f1 := h.ok.f1
  have f3 := h.ok.f3
  obtain ⟨N, hN⟩ : ∃ N : Nat, 2 * c.f + 1 = (N : Int) := ⟨(2 * c.f + 1).toNat, by omega⟩
  have HV : Hid (c.maj s = decide (((memU s N).length : Int) ≥ c.f + 1)) := by
    show _ = _
    unfold Cf.maj
    rw [maj_len h.ok s N hN]
  have hN7 : N ≤ 7 := by omega
  rw [hN] at HN
  clear hN h
  have HH := hide (fun k W => refHas s hs k W)
  have HM := hide (memU_succ s)
  have HB := hide (hasB_nat s)
  have HL := hide (memU_len s)
  generalize c.maj s = v at *
  generalize c.f + 1 = q at *
  go_enter Try.func26, Try.ntmps26
  go_upto_region 3 with fail
  go_loopw [5, 6] (fun c i wr => wr = w ∧ ∃ k : Nat, k ≤ N ∧ i = .int .i64 (k : Nat) ∧ c = .int .i64 (((memU s k).length : Nat) : Int)) (fun _ i _ => N - (intOf i).toNat)
  case atStart => exact ⟨rfl, 0, by omega, rfl, rfl⟩
  case round =>
    obtain ⟨rfl, k, hk, rfl, rfl⟩ := hrel
    by_cases hlt : k < N
    · have HK := hide (HH.out (k : Int) wr)
      have HMk := hide (congrArg List.length (HM.out k))
      have hl := HL.out k
      rw [HB.out k (by omega)] at HK
      generalize hc : (memU s k).length = c at *
      go_wp2_with fail
      refine HN.out.mono ?_
      rintro e w1 ⟨rfl, rfl⟩
      cases ht : s.testBit k with
      | false =>
        rw [ht] at HK HMk
        clear ht
        go_wp2_with fail
        refine HK.out.mono ?_
        rintro e w1 ⟨rfl, rfl⟩
        go_wp2
        go_roundw
        case rel => exact ⟨trivial, k + 1, by omega, by go_num, by rw [HMk.out, if_neg (by simp), List.append_nil, hc]⟩
        case measure => simp [intOf]; omega
      | true =>
        rw [ht, if_pos rfl, List.length_append, List.length_singleton, hc] at HMk
        rw [ht] at HK
        clear ht
        go_wp2_with fail
        refine HK.out.mono ?_
        rintro e w1 ⟨rfl, rfl⟩
        go_wp2
        go_roundw
        case rel => exact ⟨trivial, k + 1, by omega, by go_num, by rw [HMk.out]; go_num⟩
        case measure => simp [intOf]; omega
    · obtain rfl : k = N := by omega
      generalize ((memU s k).length : Int) = c at *
      go_wp2_with fail
      refine HN.out.mono ?_
      rintro e w1 ⟨rfl, rfl⟩
      go_wp2_with fail
      refine HQ.out.mono ?_
      rintro e w1 ⟨rfl, rfl⟩
      go_wp2
      go_ret
      exact ⟨by rw [HV.out]; rfl, rfl⟩
set_option maxRecDepth 10000 in
set_option maxHeartbeats 400000 in
theorem majority_dead {w : World} {a : Option Addr} (s : Int) (h : Dead w a) :
    Calls Try.prog 25 #[.pointer a, .int .u32 s] w fun e w' => e = .returned (.bool false) ∧ w' = w := by
  have HM := hide (made_dead h)
  clear h
  go_enter Try.func25, Try.ntmps25
  go_wp2_with fail
  refine HM.out.mono ?_
  rintro e w1 ⟨rfl, rfl⟩
  go_wp2
  go_ret
  exact ⟨rfl, rfl⟩
end Go.Proofs.Ythfiafjhnidlkaa
