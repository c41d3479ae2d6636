import Derived.Test.YtgaalaoflaklgaaGreatM35
import Derived.Test.YtgaalaoflaklgaaGreatM16
namespace Go.Proofs.YtgaalaoflaklgaaGreat
open Go.RowKit Crc

set_option maxRecDepth 10000 in
theorem mayBallot_no (num : Nat) (node : Int) (w : World) (h : balBad num node) :
    Calls Tryz.prog 40 #[.agg #[.int .u64 (num : Int), .int .i64 node]] w fun e w' => e = .returned (.bool false) ∧ Hid (Below w.heap.size w w') := by
  have HB := hide (below_alloc1 w (.cells #[.int .u64 (num : Int), .int .i64 node] 28))
  by_cases h1 : 1099511627776 < num
  · have d1 : decide ((num : Int) ≤ 1099511627776) = false := by simp; omega
    clear h
    go_enter Tryz.func40, Tryz.ntmps40
    go_wp2
    go_ret
    exact ⟨rfl, HB.out⟩
  · have d1 : decide ((num : Int) ≤ 1099511627776) = true := by simp; omega
    by_cases h2 : node < 0
    · have d2 : decide (node ≥ 0) = false := by simp; omega
      have d2' : decide (0 ≤ node) = false := by simp; omega
      clear h h1
      go_enter Tryz.func40, Tryz.ntmps40
      go_wp2
      go_ret
      exact ⟨rfl, HB.out⟩
    · have d2 : decide (0 ≤ node) = true := by simp; omega
      have h3 : 6 < node := by rcases h with h | h | h <;> omega
      have d3 : decide (node ≤ 6) = false := by simp; omega
      clear h h1
      go_enter Tryz.func40, Tryz.ntmps40
      go_wp2
      go_ret
      exact ⟨rfl, HB.out⟩
set_option maxRecDepth 10000 in
theorem mayBallot_yes (num : Nat) (node : Int) (w : World) (h : ¬ balBad num node) :
    Calls Tryz.prog 40 #[.agg #[.int .u64 (num : Int), .int .i64 node]] w fun e w' => e = .returned (.bool true) ∧ Hid (Below w.heap.size w w') := by
  have HB := hide (below_alloc1 w (.cells #[.int .u64 (num : Int), .int .i64 node] 28))
  have h1 : ¬ 1099511627776 < num := fun e => h (.inl e)
  have h2 : ¬ node < 0 := fun e => h (.inr (.inl e))
  have h3 : ¬ 6 < node := fun e => h (.inr (.inr e))
  have d1 : decide ((num : Int) ≤ 1099511627776) = true := by simp; omega
  have d2 : decide (0 ≤ node) = true := by simp; omega
  have d3 : decide (node ≤ 6) = true := by simp; omega
  clear h h1 h2 h3
  go_enter Tryz.func40, Tryz.ntmps40
  go_wp2
  go_ret
  exact ⟨rfl, HB.out⟩

theorem bGo_yes : ∀ (rs : List Rq) (i : Nat), (bGo rs i).2 = 0 ↔ ∀ r ∈ rs, r.why = 0
  | [], _ => by simp [bGo]
  | r :: t, i => by
    rw [bGo]
    by_cases h : r.why = 0
    · rw [if_pos h, bGo_yes t]; simp [h]
    · rw [if_neg h]; simp [h]

set_option maxRecDepth 10000 in
set_option maxHeartbeats 1600000 in
theorem mayBatch_any {w : World} (stamp : Nat) {ro : Option Addr} {rs : List Rq} {b off : Nat} (rc n : Nat) (hn : rs.length = n) (h : Rqs w.heap.size w ro rs b off) :
    Calls Tryz.prog 7 #[.agg #[.int .u64 (stamp : Int), .slice ro n rc]] w fun e w' => e = .returned (.bool (decide ((bFault stamp rs).2 = 0))) ∧ Hid (Below w.heap.size w w') := by
  have HR := hide h
  have hle := h.le
  have HB := hide (below_alloc1 w (.cells #[.int .u64 (stamp : Int), .slice ro n rc] 25))
  have HC0 : Hid (∀ W, Below (w.heap.size + 1) (w.alloc (.cells #[.int .u64 (stamp : Int), .slice ro n rc] 25)) W → W.cell? ⟨w.heap.size, 1, none⟩ = some (.slice ro n rc)) := fun W hW => by
    refine (hW.cell (p := ⟨w.heap.size, 1, none⟩) (by simp)).trans ?_
    exact World.cell?_alloc_new _ _ _ _
  clear h
  subst hn
  by_cases h1 : 1099511627776 < stamp
  · have HF : Hid (decide ((bFault stamp rs).2 = 0) = false) := by show _ = _; unfold bFault; rw [if_pos h1]; rfl
    have d1 : decide ((1099511627776 : Int) < (stamp : Int)) = true := by simp; omega
    rw [HF.out]
    generalize rs.length = n at *
    go_enter Tryz.func7, Tryz.ntmps7
    go_wp2
    go_ret
    exact ⟨rfl, HB.out⟩
  · have d1 : decide ((1099511627776 : Int) < (stamp : Int)) = false := by simp; omega
    by_cases h2 : 8 < rs.length
    · have HF : Hid (decide ((bFault stamp rs).2 = 0) = false) := by show _ = _; unfold bFault; rw [if_neg h1, if_pos h2]; rfl
      have d2 : decide ((8 : Int) < (rs.length : Int)) = true := by simp; omega
      rw [HF.out]
      generalize rs.length = n at *
      go_enter Tryz.func7, Tryz.ntmps7
      go_wp2
      go_ret
      exact ⟨rfl, HB.out⟩
    · have HF : Hid (bFault stamp rs = bGo rs 0) := by show _ = _; unfold bFault; rw [if_neg h1, if_neg h2]
      have d2 : decide ((8 : Int) < (rs.length : Int)) = false := by simp; omega
      rw [HF.out]
      go_enter Tryz.func7, Tryz.ntmps7
      go_wp2
      go_loopw [3] (fun i wr => ∃ k : Nat, k ≤ rs.length ∧ i = .int .i64 k ∧ Hid ((bGo rs 0).2 = (bGo (rs.drop k) k).2) ∧ Hid (Below w.heap.size w wr) ∧ wr.cell? ⟨w.heap.size, 1, none⟩ = some (.slice ro rs.length rc)) (fun i _ => rs.length - (intOf i).toNat)
      case atStart => exact ⟨0, by omega, rfl, rfl, HB.out, World.cell?_alloc_new _ _ _ _⟩
      case round =>
        obtain ⟨k, hk, rfl, HG, HW, hc1⟩ := hrel
        by_cases hlt : k < rs.length
        · obtain ⟨r, hr, hd, hok, hbl, rfl, c0, c1, c2⟩ := (HR.out.below HW.out).get hlt
          rw [hd] at HG
          obtain ⟨cl, sq, co, cn, cc, C⟩ := r
          simp only at c0 c1 c2
          by_cases g1 : cl < 256
          · have g1' : decide ((cl : Int) < 256) = true := by simp; omega
            have HG2 : Hid (decide ((bGo rs 0).2 = 0) = false) := by rw [HG.out]; show _ = _; simp [bGo, Rq.why, g1]
            clear hr hd hok
            go_wp2
            go_ret
            exact ⟨by rw [HG2.out]; rfl, HW⟩
          · have g1' : decide ((cl : Int) < 256) = false := by simp; omega
            by_cases g2 : 700 < cn
            · have g2' : decide ((700 : Int) < (cn : Int)) = true := by simp; omega
              have HG2 : Hid (decide ((bGo rs 0).2 = 0) = false) := by rw [HG.out]; show _ = _; simp [bGo, Rq.why, g1, g2]
              clear hr hd hok
              go_wp2
              go_ret
              exact ⟨by rw [HG2.out]; rfl, HW⟩
            · have g2' : decide ((700 : Int) < (cn : Int)) = false := by simp; omega
              have HG2 : Hid ((bGo rs 0).2 = (bGo (rs.drop (k + 1)) (k + 1)).2) := by rw [HG.out]; show _ = _; simp [bGo, Rq.why, g1, g2]
              clear hr hd hok
              go_wp2
              go_roundw
              case rel => exact ⟨k + 1, by omega, by go_num, HG2, HW, hc1⟩
              case measure => simp [intOf]; omega
        · obtain rfl : k = rs.length := by omega
          have HG2 : Hid (decide ((bGo rs 0).2 = 0) = true) := by rw [HG.out]; show _ = _; simp [bGo]
          go_wp2
          go_ret
          exact ⟨by rw [HG2.out]; rfl, HW⟩

set_option maxRecDepth 10000 in
theorem sameBytes0 (d : Option Addr) (m c : Nat) (w : World) : Calls Tryz.prog 16 #[.slice d m c, .slice none 0 0] w fun e w' => e = .returned (.bool (decide (m = 0))) ∧ Hid (Below w.heap.size w w') := by
  by_cases h : m = 0
  · subst h
    go_enter Tryz.func16, Tryz.ntmps16
    go_wp2
    go_loopw [5] (fun i wr => i = .int .i64 0 ∧ wr = w) (fun _ _ => 0)
    case atStart => exact ⟨rfl, rfl⟩
    case round =>
      obtain ⟨rfl, rfl⟩ := hrel
      go_wp2
      go_ret
      exact ⟨rfl, Below.refl _ _⟩
  · have d1 : ((m : Int) != 0) = true := by simp; omega
    rw [show decide (m = 0) = false by simp [h]]
    go_enter Tryz.func16, Tryz.ntmps16
    go_wp2
    go_ret
    exact ⟨rfl, Below.refl _ _⟩

set_option maxRecDepth 10000 in
theorem sameBatch0 (st : Nat) (d : Option Addr) (n c : Nat) (w : World) : Calls Tryz.prog 10 #[.agg #[.int .u64 (st : Int), .slice d n c], .agg #[.int .u64 0, .slice none 0 0]] w fun e w' => e = .returned (.bool (decide (st = 0 ∧ n = 0))) ∧ Hid (Below w.heap.size w w') := by
  have HB : Hid (∀ o1 o2, Below w.heap.size w ((w.alloc o1).alloc o2)) := fun o1 o2 => (below_alloc1 w _).alloc (by simp) _
  by_cases h : st = 0
  · subst h
    by_cases h : n = 0
    · subst h
      go_enter Tryz.func10, Tryz.ntmps10
      go_wp2
      go_loopw [5] (fun i wr => i = .int .i64 0 ∧ Hid (Below w.heap.size w wr) ∧ wr.cell? ⟨w.heap.size, 1, none⟩ = some (.slice d 0 c)) (fun _ _ => 0)
      case atStart => exact ⟨rfl, HB.out _ _, by simp⟩
      case round =>
        obtain ⟨rfl, HW, hc⟩ := hrel
        go_wp2
        go_ret
        exact ⟨rfl, HW⟩
    · have d1 : ((n : Int) != 0) = true := by simp; omega
      rw [show decide (0 = 0 ∧ n = 0) = false by simp [h]]
      go_enter Tryz.func10, Tryz.ntmps10
      go_wp2
      go_ret
      exact ⟨rfl, HB.out _ _⟩
  · have d1 : ((st : Int) != 0) = true := by simp; omega
    rw [show decide (st = 0 ∧ n = 0) = false by simp [h]]
    go_enter Tryz.func10, Tryz.ntmps10
    go_wp2
    go_ret
    exact ⟨rfl, HB.out _ _⟩

set_option maxRecDepth 10000 in
set_option maxHeartbeats 1600000 in
theorem sameRec0 (num : Nat) (node : Int) (slot st : Nat) (r1 : Option Addr) (n1 c1 : Nat) (d1 : Option Addr) (m1 e1 : Nat) (w : World) :
    Calls Tryz.prog 14 #[.agg #[.int .i64 0, .int .u64 (num : Int), .int .i64 node, .int .u64 (slot : Int), .int .u64 (st : Int), .slice r1 n1 c1, .slice d1 m1 e1], .agg #[.int .i64 0, .int .u64 0, .int .i64 0, .int .u64 0, .int .u64 0, .slice none 0 0, .slice none 0 0]] w fun e w' => e = .returned (.bool (decide ((num = 0 ∧ node = 0 ∧ slot = 0) ∧ (st = 0 ∧ n1 = 0) ∧ m1 = 0))) ∧ Hid (Below w.heap.size w w') := by
  have HB : Hid (∀ o1 o2, Below w.heap.size w ((w.alloc o1).alloc o2)) := fun o1 o2 => (below_alloc1 w _).alloc (by simp) _
  by_cases h1 : num = 0
  · subst h1
    by_cases h2 : node = 0
    · subst h2
      by_cases h3 : slot = 0
      · subst h3
        obtain ⟨W2, hW2⟩ : ∃ W2, (w.alloc (.cells #[.int .i64 0, .int .u64 0, .int .i64 0, .int .u64 0, .int .u64 (st : Int), .slice r1 n1 c1, .slice d1 m1 e1] 31)).alloc (.cells #[.int .i64 0, .int .u64 0, .int .i64 0, .int .u64 0, .int .u64 0, .slice none 0 0, .slice none 0 0] 31) = W2 := ⟨_, rfl⟩
        have hsz : (w.alloc (.cells #[.int .i64 0, .int .u64 0, .int .i64 0, .int .u64 0, .int .u64 (st : Int), .slice r1 n1 c1, .slice d1 m1 e1] 31)).heap.size = w.heap.size + 1 := by simp
        have b2 : Below w.heap.size w W2 := by rw [← hW2]; exact (below_alloc1 w _).alloc (by simp) _
        have q1 : W2.heap[w.heap.size]? = some (.cells #[.int .i64 0, .int .u64 0, .int .i64 0, .int .u64 0, .int .u64 (st : Int), .slice r1 n1 c1, .slice d1 m1 e1] 31 (0, 0)) := by rw [← hW2]; exact ((World.grownBy_alloc _ _ none).block _ (by rw [hsz]; omega) (by simp)).trans (alloc_at _ _)
        have q2 : W2.heap[w.heap.size + 1]? = some (.cells #[.int .i64 0, .int .u64 0, .int .i64 0, .int .u64 0, .int .u64 0, .slice none 0 0, .slice none 0 0] 31 (0, 0)) := by rw [← hW2, ← hsz]; exact alloc_at _ _
        have HB2 := hide b2
        have Q1 := hide q1
        have Q2 := hide q2
        have HW2 := hide hW2
        clear hW2 b2 q1 q2 hsz
        have HS := hide (fun W => sameBatch0 st r1 n1 c1 W)
        by_cases h4 : st = 0 ∧ n1 = 0
        · have e4 : decide (st = 0 ∧ n1 = 0) = true := by simpa using h4
          have HF : Hid (decide ((0 = 0 ∧ (0 : Int) = 0 ∧ 0 = 0) ∧ (st = 0 ∧ n1 = 0) ∧ m1 = 0) = decide (m1 = 0)) := by show _ = _; simp [h4.1, h4.2]
          rw [HF.out]
          rw [e4] at HS
          clear h4 e4
          go_enter Tryz.func14, Tryz.ntmps14
          go_wp2_with fail
          refine Calls.atW HW2.out ?_
          clear HW2
          refine (HS.out W2).mono ?_
          rintro e w3 ⟨rfl, b3⟩
          have q1 := (b3.out.block _ (block_lt Q1.out)).trans Q1.out
          have q2 := (b3.out.block _ (block_lt Q2.out)).trans Q2.out
          have x6 := block_cell q1 6
          have y6 := block_cell q2 6
          simp at x6 y6
          have HB3 := hide (HB2.out.trans (b3.out.mono HB2.out.size))
          clear q1 q2 b3
          go_wp2_with fail
          clear x6 y6
          refine (sameBytes0 d1 m1 e1 w3).mono ?_
          rintro e w4 ⟨rfl, b4⟩
          go_wp2
          go_ret
          exact ⟨rfl, HB3.out.trans (b4.out.mono HB3.out.size)⟩
        · have e4 : decide (st = 0 ∧ n1 = 0) = false := by simpa using h4
          have HF : Hid (decide ((0 = 0 ∧ (0 : Int) = 0 ∧ 0 = 0) ∧ (st = 0 ∧ n1 = 0) ∧ m1 = 0) = false) := by show _ = _; simp; omega
          rw [HF.out]
          rw [e4] at HS
          clear h4 e4
          go_enter Tryz.func14, Tryz.ntmps14
          go_wp2_with fail
          refine Calls.atW HW2.out ?_
          clear HW2
          refine (HS.out W2).mono ?_
          rintro e w3 ⟨rfl, b3⟩
          have HB3 := hide (HB2.out.trans (b3.out.mono HB2.out.size))
          clear b3
          go_wp2
          go_ret
          exact ⟨rfl, HB3.out⟩
      · have g : ((slot : Int) == 0) = false := by simp; omega
        rw [show decide ((0 = 0 ∧ (0 : Int) = 0 ∧ slot = 0) ∧ (st = 0 ∧ n1 = 0) ∧ m1 = 0) = false by simp [h3]]
        go_enter Tryz.func14, Tryz.ntmps14
        go_wp2
        go_ret
        exact ⟨rfl, HB.out _ _⟩
    · have g : (node == 0) = false := by simp; omega
      rw [show decide ((0 = 0 ∧ node = 0 ∧ slot = 0) ∧ (st = 0 ∧ n1 = 0) ∧ m1 = 0) = false by simp [h2]]
      go_enter Tryz.func14, Tryz.ntmps14
      go_wp2
      go_ret
      exact ⟨rfl, HB.out _ _⟩
  · have g : ((num : Int) == 0) = false := by simp; omega
    rw [show decide ((num = 0 ∧ node = 0 ∧ slot = 0) ∧ (st = 0 ∧ n1 = 0) ∧ m1 = 0) = false by simp [h1]]
    go_enter Tryz.func14, Tryz.ntmps14
    go_wp2
    go_ret
    exact ⟨rfl, HB.out _ _⟩
end Go.Proofs.YtgaalaoflaklgaaGreat
