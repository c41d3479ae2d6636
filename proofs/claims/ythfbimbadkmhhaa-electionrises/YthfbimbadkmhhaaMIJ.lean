import Derived.Test.YthfbimbadkmhhaaMGN
namespace Go.Proofs.Ythfbimbadkmhhaa
open Go.RowKit Crc

set_option maxRecDepth 10000 in
set_option maxHeartbeats 400000 in
theorem belowI (n1 m1 n2 m2 : Int) (w : World) (z : Bool) (hz : z = (decide (n1 < n2) || (decide (n1 = n2) && decide (m1 < m2)))) :
    Calls Try.prog 8 #[.agg #[.int .u64 n1, .int .i64 m1], .agg #[.int .u64 n2, .int .i64 m2]] w fun e w' => e = .returned (.bool z) ∧ Hid (Below w.heap.size w w') := by
  have hB : Hid (∀ o1 o2, Below w.heap.size w ((w.alloc o1).alloc o2)) := fun o1 o2 => ((Below.refl _ _).alloc (Nat.le_refl _) _).alloc (by simp) _
  by_cases h1 : n1 < n2
  · have HZ : Hid (z = true) := by show z = true; rw [hz]; simp [h1]
    clear hz
    go_enter Try.func8, Try.ntmps8
    go_wp2
    go_ret
    exact ⟨by rw [HZ.out]; rfl, hB.out _ _⟩
  · by_cases h2 : n1 = n2
    · subst h2
      by_cases h3 : m1 < m2
      · have HZ : Hid (z = true) := by show z = true; rw [hz]; simp [h3]
        clear hz
        go_enter Try.func8, Try.ntmps8
        go_wp2
        go_ret
        exact ⟨by rw [HZ.out]; rfl, hB.out _ _⟩
      · have HZ : Hid (z = false) := by show z = false; rw [hz]; simp [h3]
        clear hz
        go_enter Try.func8, Try.ntmps8
        go_wp2
        go_ret
        exact ⟨by rw [HZ.out]; rfl, hB.out _ _⟩
    · have HZ : Hid (z = false) := by show z = false; rw [hz]; simp [h1, h2]
      clear hz
      go_enter Try.func8, Try.ntmps8
      go_wp2
      go_ret
      exact ⟨by rw [HZ.out]; rfl, hB.out _ _⟩
set_option maxRecDepth 10000 in
set_option maxHeartbeats 400000 in
/-- The ballot next above. -/
theorem afterI (num : Nat) (node N : Int) (hn : num < 18446744073709551615) (h0 : 0 ≤ node) (h1 : node ≤ 100) (w : World) :
    Calls Try.prog 10 #[.agg #[.int .u64 (num : Nat), .int .i64 node], .int .i64 N] w fun e w' => e = .returned (if node + 1 < N then .agg #[.int .u64 (num : Nat), .int .i64 (node + 1)] else .agg #[.int .u64 ((num + 1 : Nat) : Int), .int .i64 0]) ∧ Hid (Below w.heap.size w w') := by
  obtain ⟨W2, hW2⟩ : ∃ W2, (w.alloc (.cells #[.int .u64 (num : Nat), .int .i64 node] 33)).alloc (.cells #[.int .u64 0, .int .i64 0] 33) = W2 := ⟨_, rfl⟩
  have B2 : Hid (Below w.heap.size w W2) := by rw [← hW2]; exact (below_alloc1 w _).alloc (by simp) _
  have HA : W2.heap[w.heap.size]? = some (.cells #[.int .u64 (num : Nat), .int .i64 node] 33 (0, 0)) ∧ W2.heap[w.heap.size + 1]? = some (.cells #[.int .u64 0, .int .i64 0] 33 (0, 0)) := by rw [← hW2]; exact two_box w _ _
  have z0 := block_cell HA.1 0
  have z1 := block_cell HA.1 1
  have y0 := block_cell HA.2 0
  have y1 := block_cell HA.2 1
  have f0 := block_free HA.2 0
  have f1 := block_free HA.2 1
  have zl := block_lt HA.1
  have yl := block_lt HA.2
  simp at z0 z1 y0 y1
  have HW2 := hide hW2
  have FIN : Hid (∀ a b, Below w.heap.size w ((W2.setCell ⟨w.heap.size + 1, 0, none⟩ a).setCell ⟨w.heap.size + 1, 1, none⟩ b)) := fun a b => (B2.out.setCell (p := ⟨w.heap.size + 1, 0, none⟩) (by simp) a).setCell (p := ⟨w.heap.size + 1, 1, none⟩) (by simp) b
  have hm : ((num + 1 : Nat) : Int) = (num : Int) + 1 := by omega
  rw [hm]
  clear HA hW2 B2 hm
  have hni : (num : Int) < 18446744073709551615 := by omega
  have hn0 : 0 ≤ (num : Int) := by omega
  generalize (num : Int) = ni at *
  by_cases hlt : node + 1 < N
  · have hd : decide (node + 1 < N) = true := decide_eq_true hlt
    rw [if_pos hlt]
    go_enter Try.func10, Try.ntmps10
    go_upto_region 1 with fail
    rw [HW2.out]
    clear HW2
    go_wp2
    refine bodyPost_ret (v := .agg #[.int .u64 ni, .int .i64 (node + 1)]) (by simp [results, Try.results10, go_sem, y0, y1]) rfl ?_
    exact ⟨rfl, FIN.out _ _⟩
  · have hd : decide (node + 1 < N) = false := decide_eq_false hlt
    rw [if_neg hlt]
    go_enter Try.func10, Try.ntmps10
    go_upto_region 1 with fail
    rw [HW2.out]
    clear HW2
    go_wp2
    refine bodyPost_ret (v := .agg #[.int .u64 (ni + 1), .int .i64 0]) (by simp [results, Try.results10, go_sem, y0, y1]) rfl ?_
    exact ⟨rfl, FIN.out _ _⟩
theorem bit_ofJ (s k : Nat) (hs : s < 4294967296) : (bits .and .u32 ((s : Int) / 2 ^ k) 1 == 1) = s.testBit k := by
  have e : ((s : Int) / 2 ^ k) = ((s / 2 ^ k : Nat) : Int) := by
    rw [Int.natCast_ediv, Int.natCast_pow]
    rfl
  have h := u32_and_nat (s / 2 ^ k) 1 (Nat.lt_of_le_of_lt (Nat.div_le_self _ _) hs) (by omega)
  rw [e, show (1 : Int) = ((1 : Nat) : Int) from rfl, h, Nat.and_one_is_mod, Nat.testBit_eq_decide_div_mod_eq]
  by_cases hh : s / 2 ^ k % 2 = 1
  · rw [hh]; simp
  · rw [decide_eq_false hh]
    simp only [beq_eq_false_iff_ne]
    omega
set_option maxRecDepth 10000 in
set_option maxHeartbeats 800000 in
/-- How many of the first replicas are in a set. -/
theorem countI (s n : Nat) (hs : s < 4294967296) (hn : n ≤ 32) (w : World) :
    Calls Try.prog 9 #[.int .u32 (s : Nat), .int .i64 (n : Nat)] w fun e w' => e = .returned (.int .i64 (((memU s n).length : Nat) : Int)) ∧ w' = w := by
  go_enter Try.func9, Try.ntmps9
  go_wp2
  go_loopw [5, 6] (fun c i wr => ∃ k m : Nat, k ≤ n ∧ m ≤ k ∧ i = .int .i64 k ∧ c = .int .i64 m ∧ Hid (m = (memU s k).length ∧ wr = w)) (fun _ i _ => n - (intOf i).toNat)
  case atStart => exact ⟨0, 0, by omega, by omega, rfl, rfl, rfl, rfl⟩
  case round =>
    obtain ⟨k, m, hk, hmk, rfl, rfl, HM⟩ := hrel
    by_cases hlt : k < n
    · have HB := hide (bit_ofJ s k hs)
      have HT := hide (memU_succ s k)
      go_upto_if 17 with fail
      rw [HB.out]
      cases hb : s.testBit k with
      | true =>
        have HN : Hid (m + 1 = (memU s (k + 1)).length ∧ wr = w) := by
          refine ⟨?_, HM.out.2⟩
          rw [HT.out, hb, HM.out.1]
          simp
        go_wp2
        go_roundw
        case rel => exact ⟨k + 1, m + 1, by omega, by omega, by go_num, by go_num, HN.out⟩
        case measure => simp [intOf]; omega
      | false =>
        have HN : Hid (m = (memU s (k + 1)).length ∧ wr = w) := by
          refine ⟨?_, HM.out.2⟩
          rw [HT.out, hb, HM.out.1]
          simp
        go_wp2
        go_roundw
        case rel => exact ⟨k + 1, m, by omega, by omega, by go_num, rfl, HN.out⟩
        case measure => simp [intOf]; omega
    · obtain rfl : k = n := by omega
      go_wp2
      go_ret
      exact ⟨congrArg (fun x : Nat => Ending.returned (.int .i64 (x : Int))) HM.out.1, HM.out.2⟩
end Go.Proofs.Ythfbimbadkmhhaa
