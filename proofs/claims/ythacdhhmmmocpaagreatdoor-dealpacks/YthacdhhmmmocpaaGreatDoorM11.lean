import Derived.Test.YthacdhhmmmocpaaGreatDoorM10
namespace Go.Proofs.YthacdhhmmmocpaaGreatDoor
open Go.RowKit

/-- The numbers of a command at their fields. -/
def Cd.nums (c : Cd) : Array Value := #[.int .u64 0, .int .u64 (c.deal : Int), .int .u64 (c.acct : Int), .int .u64 (c.to_ : Int), .int .u64 (c.arb : Int), .int .u64 (c.amt : Int), .int .u64 (c.due : Int)]
set_option maxRecDepth 10000 in
set_option maxHeartbeats 800000 in
theorem numbers_any (c : Cd) (w : World) : Calls Tryz.prog 16 #[.agg c.cells] w fun e w' => e = .returned (.agg c.nums) ∧ Hid (Below w.heap.size w w') := by
  unfold Cd.cells Cd.nums
  obtain ⟨verb, deal, acct, to_, arb, amt, due, terms⟩ := c
  simp only
  go_enter Tryz.func16, Tryz.ntmps16
  go_wp2
  refine bodyPost_ret (v := .agg #[.int .u64 0, .int .u64 (deal : Int), .int .u64 (acct : Int), .int .u64 (to_ : Int), .int .u64 (arb : Int), .int .u64 (amt : Int), .int .u64 (due : Int)]) (by simp [results, Tryz.results16, go_sem]) rfl ⟨rfl, ?_⟩
  have s := fun (X : World) (j : Nat) (u : Value) (hx : Below w.heap.size w X) => hx.setCell (p := ⟨w.heap.size + 1, j, none⟩) (by simp) u
  have b0 : ∀ (o1 o2 : Obj), Below w.heap.size w ((w.alloc o1).alloc o2) := fun o1 o2 => ((Below.refl _ w).alloc (Nat.le_refl _) _).alloc (by simp) _
  first
    | exact b0 _ _
    | exact s _ 6 _ (s _ 5 _ (s _ 4 _ (s _ 3 _ (s _ 2 _ (s _ 1 _ (s _ 0 _ (b0 _ _)))))))
/-- The first field that is there though the verb does not use it. -/
def Cd.strayAt (c : Cd) (k : Nat) : Prop := c.num k ≠ 0 ∧ k ∉ fds c.verb
instance (c : Cd) (k : Nat) : Decidable (c.strayAt k) := inferInstanceAs (Decidable (_ ∧ _))
def Cd.stray (c : Cd) : Nat := if c.strayAt 1 then 1 else if c.strayAt 2 then 2 else if c.strayAt 3 then 3 else if c.strayAt 4 then 4 else if c.strayAt 5 then 5 else if c.strayAt 6 then 6 else if c.terms.toList.isEmpty = false ∧ 7 ∉ fds c.verb then 7 else 0
theorem stray_of {c : Cd} {k : Nat} (h1 : 1 ≤ k) (h6 : k ≤ 6) (hn : ∀ j, 1 ≤ j → j < k → ¬ c.strayAt j) (h : c.strayAt k) : c.stray = k := by
  unfold Cd.stray
  rcases (by omega : k = 1 ∨ k = 2 ∨ k = 3 ∨ k = 4 ∨ k = 5 ∨ k = 6) with rfl | rfl | rfl | rfl | rfl | rfl
  · rw [if_pos h]
  · rw [if_neg (hn 1 (by omega) (by omega)), if_pos h]
  · rw [if_neg (hn 1 (by omega) (by omega)), if_neg (hn 2 (by omega) (by omega)), if_pos h]
  · rw [if_neg (hn 1 (by omega) (by omega)), if_neg (hn 2 (by omega) (by omega)), if_neg (hn 3 (by omega) (by omega)), if_pos h]
  · rw [if_neg (hn 1 (by omega) (by omega)), if_neg (hn 2 (by omega) (by omega)), if_neg (hn 3 (by omega) (by omega)), if_neg (hn 4 (by omega) (by omega)), if_pos h]
  · rw [if_neg (hn 1 (by omega) (by omega)), if_neg (hn 2 (by omega) (by omega)), if_neg (hn 3 (by omega) (by omega)), if_neg (hn 4 (by omega) (by omega)), if_neg (hn 5 (by omega) (by omega)), if_pos h]
theorem stray_end {c : Cd} (hn : ∀ j, 1 ≤ j → j < 7 → ¬ c.strayAt j) : c.stray = if c.terms.toList.isEmpty = false ∧ 7 ∉ fds c.verb then 7 else 0 := by
  unfold Cd.stray
  rw [if_neg (hn 1 (by omega) (by omega)), if_neg (hn 2 (by omega) (by omega)), if_neg (hn 3 (by omega) (by omega)), if_neg (hn 4 (by omega) (by omega)), if_neg (hn 5 (by omega) (by omega)), if_neg (hn 6 (by omega) (by omega))]
end Go.Proofs.YthacdhhmmmocpaaGreatDoor
namespace Go.Proofs.YthacdhhmmmocpaaGreatDoor
open Go.RowKit

theorem fds_len (v : Int) : 1 ≤ (fds v).length ∧ (fds v).length ≤ 7 := by
  unfold fds
  repeat' split
  all_goals simp
set_option maxRecDepth 10000 in
set_option maxHeartbeats 1600000 in
theorem stray_any (c : Cd) (h1 : 1 ≤ c.verb) (h2 : c.verb ≤ 13) (w : World) : Calls Tryz.prog 15 #[.agg c.cells] w fun e w' => e = .returned (.int .i64 (c.stray : Int)) ∧ Hid (Below w.heap.size w w') := by
  have HF := hide (fieldsOf_any c.verb h1 h2)
  have HN := hide (numbers_any c)
  have HL := hide (fds_len c.verb)
  have HS0 : Hid (∀ k, 1 ≤ k → k ≤ 6 → (∀ j, 1 ≤ j → j < k → ¬ c.strayAt j) → c.strayAt k → c.stray = k) := fun k h1 h6 hn h => stray_of h1 h6 hn h
  have HS7 : Hid ((∀ j, 1 ≤ j → j < 7 → ¬ c.strayAt j) → c.stray = if c.terms.toList.isEmpty = false ∧ 7 ∉ fds c.verb then 7 else 0) := fun h => stray_end h
  have HC : Hid (∀ (W : World) (b f : Nat), Ints W b (fds c.verb) → Calls Tryz.prog 46 #[.slice (some ⟨b, 0, none⟩) (fds c.verb).length (fds c.verb).length, .int .i64 (f : Int)] W fun e w' => e = .returned (.bool (decide (f ∈ fds c.verb))) ∧ w' = W) := fun W b f hi => contains_any W b (fds c.verb) _ _ rfl (by have := fds_len c.verb; omega) (Nat.le_refl _) hi f
  have HST : Hid (∀ k, c.strayAt k ↔ c.num k ≠ 0 ∧ decide (k ∈ fds c.verb) = false) := fun k => by show _ ∧ _ ↔ _; simp
  generalize hst : c.stray = st at *
  generalize (fds c.verb).length = fl at *
  unfold Cd.cells
  unfold Cd.cells Cd.nums at HN
  obtain ⟨W1, hW1⟩ : ∃ W1, w.alloc (.cells #[.int .i64 c.verb, .int .u64 (c.deal : Int), .int .u64 (c.acct : Int), .int .u64 (c.to_ : Int), .int .u64 (c.arb : Int), .int .u64 (c.amt : Int), .int .u64 (c.due : Int), .string c.terms] 25) = W1 := ⟨_, rfl⟩
  have q1 : W1.heap[w.heap.size]? = some (.cells #[.int .i64 c.verb, .int .u64 (c.deal : Int), .int .u64 (c.acct : Int), .int .u64 (c.to_ : Int), .int .u64 (c.arb : Int), .int .u64 (c.amt : Int), .int .u64 (c.due : Int), .string c.terms] 25 (0, 0)) := by rw [← hW1]; exact alloc_atK _ _
  have b1 : Below w.heap.size w W1 := by rw [← hW1]; exact (Below.refl _ w).alloc (Nat.le_refl _) _
  have Q1 := hide q1
  have B1 := hide b1
  have HW1 := hide hW1
  clear q1 b1 hW1 h1 h2
  obtain ⟨fv, hfv⟩ : ∃ fv, (fieldsV (fds c.verb)).toArray = fv := ⟨_, rfl⟩
  have HIN := hide (ints_new W1 (fds c.verb) 3)
  rw [hfv] at HF HIN
  clear hfv
  go_enter Tryz.func15, Tryz.ntmps15
  go_upto_region 1 with fail
  rw [HW1.out]
  have x0 := block_cell Q1.out 0
  simp at x0
  have hlt := block_lt Q1.out
  go_wp2_with fail
  refine (HF.out W1).mono ?_
  rintro e w2 ⟨rfl, hw2⟩
  have g2 : W1.grownBy w2 none := by rw [hw2]; exact World.grownBy_alloc _ _ none
  have q2 := (g2.block _ (block_lt Q1.out) (by simp)).trans Q1.out
  have I2 : Hid (Ints w2 W1.heap.size (fds c.verb)) := by rw [hw2]; exact HIN.out
  have hlt2 : W1.heap.size < w2.heap.size := by rw [hw2]; simp
  have B2 := hide (B1.out.grown g2 B1.out.size (fun k e => by cases e))
  have Q2 := hide q2
  clear g2 q2 hw2 x0 hlt HF HIN
  generalize W1.heap.size = fb at *

  have x0 := block_cell Q2.out 0
  have x1 := block_cell Q2.out 1
  have x2 := block_cell Q2.out 2
  have x3 := block_cell Q2.out 3
  have x4 := block_cell Q2.out 4
  have x5 := block_cell Q2.out 5
  have x6 := block_cell Q2.out 6
  have x7 := block_cell Q2.out 7
  simp at x0 x1 x2 x3 x4 x5 x6 x7
  have hlt := block_lt Q2.out
  go_wp2_with fail
  refine (HN.out w2).mono ?_
  rintro e w3 ⟨rfl, hb3⟩
  have B3 := hide (B2.out.trans (hb3.out.mono B2.out.size))
  have I3 : Hid (Ints w3 fb (fds c.verb)) := I2.out.heap (hb3.out.block _ hlt2)
  have y7 := (hb3.out.cell (p := ⟨w.heap.size, 7, none⟩) hlt).trans x7
  have hl3 : w.heap.size < w3.heap.size := Nat.lt_of_lt_of_le hlt hb3.out.size
  clear x0 x1 x2 x3 x4 x5 x6 x7 hlt hlt2 hb3 I2 Q2 B2 HN
  go_wp2
  go_loopw [11] (fun i wr => wr = w3 ∧ ∃ k : Nat, k ≤ 7 ∧ i = .int .i64 k ∧ Hid (∀ j, 1 ≤ j → j < k → ¬ c.strayAt j)) (fun i _ => 7 - (intOf i).toNat)
  case atStart => exact ⟨rfl, 0, by omega, rfl, fun j h1 h2 => by omega⟩
  case round =>
    obtain ⟨rfl, k, hk, rfl, HS⟩ := hrel
    by_cases hlt : k < 7
    · have HCC : Hid (∀ f : Nat, Calls Tryz.prog 46 #[.slice (some ⟨fb, 0, none⟩) fl fl, .int .i64 (f : Int)] wr fun e w' => e = .returned (.bool (decide (f ∈ fds c.verb))) ∧ w' = wr) := fun f => HC.out wr fb f I3.out
      rcases (by omega : k = 0 ∨ k = 1 ∨ k = 2 ∨ k = 3 ∨ k = 4 ∨ k = 5 ∨ k = 6) with rfl | rfl | rfl | rfl | rfl | rfl | rfl
      · have i0 : ∀ W : World, (Instr.index 49 (.agg #[.int .u64 0, .int .u64 (c.deal : Int), .int .u64 (c.acct : Int), .int .u64 (c.to_ : Int), .int .u64 (c.arb : Int), .int .u64 (c.amt : Int), .int .u64 (c.due : Int)]) (.int .i64 ((0 : Nat) : Int))).run Tryz.prog W = .ok (.int .u64 0) W := fun W => by kernel_rfl
        have i1 : ∀ W : World, (Instr.index 49 (.agg #[.int .u64 0, .int .u64 (c.deal : Int), .int .u64 (c.acct : Int), .int .u64 (c.to_ : Int), .int .u64 (c.arb : Int), .int .u64 (c.amt : Int), .int .u64 (c.due : Int)]) (.int .i64 0)).run Tryz.prog W = .ok (.int .u64 0) W := fun W => by kernel_rfl
        go_wp2
        go_roundw
        case rel => exact ⟨by first | rfl | trivial, 1, by omega, by go_num, fun j h1 h2 => by omega⟩
        case measure => simp [intOf]
      · obtain ⟨q, hq⟩ : ∃ q : Bool, decide (1 ∈ fds c.verb) = q := ⟨_, rfl⟩
        have i0 : ∀ W : World, (Instr.index 49 (.agg #[.int .u64 0, .int .u64 (c.deal : Int), .int .u64 (c.acct : Int), .int .u64 (c.to_ : Int), .int .u64 (c.arb : Int), .int .u64 (c.amt : Int), .int .u64 (c.due : Int)]) (.int .i64 ((1 : Nat) : Int))).run Tryz.prog W = .ok (.int .u64 (c.deal : Int)) W := fun W => by kernel_rfl
        have i1 : ∀ W : World, (Instr.index 49 (.agg #[.int .u64 0, .int .u64 (c.deal : Int), .int .u64 (c.acct : Int), .int .u64 (c.to_ : Int), .int .u64 (c.arb : Int), .int .u64 (c.amt : Int), .int .u64 (c.due : Int)]) (.int .i64 1)).run Tryz.prog W = .ok (.int .u64 (c.deal : Int)) W := fun W => by kernel_rfl
        have HQ := hide (HCC.out 1)
        rw [hq] at HQ
        have HSK := HST.out 1
        rw [hq] at HSK
        have HSK := hide HSK
        clear hq
        have hnm : c.num 1 = c.deal := rfl
        have NX : Hid (¬ c.strayAt 1 → ∀ j, 1 ≤ j → j < 2 → ¬ c.strayAt j) := fun h j h1 h2 => by
          by_cases hj : j < 1
          · exact HS.out j h1 hj
          · obtain rfl : j = 1 := by omega
            exact h
        have HNM := hide hnm
        clear hnm
        by_cases hz : c.deal = 0
        · have hd : ((c.deal : Int) != 0) = false := by simp [hz]
          have HZ := hide hz
          clear hz
          go_wp2
          go_roundw
          case rel => exact ⟨by first | rfl | trivial, 2, by omega, by go_num, NX.out (fun h => by have := (HSK.out.1 h).1; rw [HNM.out] at this; exact this HZ.out)⟩
          case measure => simp [intOf]
        · have hd : ((c.deal : Int) != 0) = true := by simp; omega
          have HZ := hide hz
          clear hz
          go_wp2_with fail
          refine HQ.out.mono ?_
          rintro e w4 ⟨rfl, hw4⟩
          rw [hw4]
          clear hw4
          cases q with
          | true =>
            go_wp2
            go_roundw
            case rel => exact ⟨by first | rfl | trivial, 2, by omega, by go_num, NX.out (fun h => by have := (HSK.out.1 h).2; simp at this)⟩
            case measure => simp [intOf]
          | false =>
            go_wp2
            go_ret
            have e : st = 1 := (HS0.out _ (by omega) (by omega) HS.out (HSK.out.2 ⟨by rw [HNM.out]; exact HZ.out, by simp⟩))
            exact ⟨by rw [e]; rfl, B3.out⟩
      · obtain ⟨q, hq⟩ : ∃ q : Bool, decide (2 ∈ fds c.verb) = q := ⟨_, rfl⟩
        have i0 : ∀ W : World, (Instr.index 49 (.agg #[.int .u64 0, .int .u64 (c.deal : Int), .int .u64 (c.acct : Int), .int .u64 (c.to_ : Int), .int .u64 (c.arb : Int), .int .u64 (c.amt : Int), .int .u64 (c.due : Int)]) (.int .i64 ((2 : Nat) : Int))).run Tryz.prog W = .ok (.int .u64 (c.acct : Int)) W := fun W => by kernel_rfl
        have i1 : ∀ W : World, (Instr.index 49 (.agg #[.int .u64 0, .int .u64 (c.deal : Int), .int .u64 (c.acct : Int), .int .u64 (c.to_ : Int), .int .u64 (c.arb : Int), .int .u64 (c.amt : Int), .int .u64 (c.due : Int)]) (.int .i64 2)).run Tryz.prog W = .ok (.int .u64 (c.acct : Int)) W := fun W => by kernel_rfl
        have HQ := hide (HCC.out 2)
        rw [hq] at HQ
        have HSK := HST.out 2
        rw [hq] at HSK
        have HSK := hide HSK
        clear hq
        have hnm : c.num 2 = c.acct := rfl
        have NX : Hid (¬ c.strayAt 2 → ∀ j, 1 ≤ j → j < 3 → ¬ c.strayAt j) := fun h j h1 h2 => by
          by_cases hj : j < 2
          · exact HS.out j h1 hj
          · obtain rfl : j = 2 := by omega
            exact h
        have HNM := hide hnm
        clear hnm
        by_cases hz : c.acct = 0
        · have hd : ((c.acct : Int) != 0) = false := by simp [hz]
          have HZ := hide hz
          clear hz
          go_wp2
          go_roundw
          case rel => exact ⟨by first | rfl | trivial, 3, by omega, by go_num, NX.out (fun h => by have := (HSK.out.1 h).1; rw [HNM.out] at this; exact this HZ.out)⟩
          case measure => simp [intOf]
        · have hd : ((c.acct : Int) != 0) = true := by simp; omega
          have HZ := hide hz
          clear hz
          go_wp2_with fail
          refine HQ.out.mono ?_
          rintro e w4 ⟨rfl, hw4⟩
          rw [hw4]
          clear hw4
          cases q with
          | true =>
            go_wp2
            go_roundw
            case rel => exact ⟨by first | rfl | trivial, 3, by omega, by go_num, NX.out (fun h => by have := (HSK.out.1 h).2; simp at this)⟩
            case measure => simp [intOf]
          | false =>
            go_wp2
            go_ret
            have e : st = 2 := (HS0.out _ (by omega) (by omega) HS.out (HSK.out.2 ⟨by rw [HNM.out]; exact HZ.out, by simp⟩))
            exact ⟨by rw [e]; rfl, B3.out⟩
      · obtain ⟨q, hq⟩ : ∃ q : Bool, decide (3 ∈ fds c.verb) = q := ⟨_, rfl⟩
        have i0 : ∀ W : World, (Instr.index 49 (.agg #[.int .u64 0, .int .u64 (c.deal : Int), .int .u64 (c.acct : Int), .int .u64 (c.to_ : Int), .int .u64 (c.arb : Int), .int .u64 (c.amt : Int), .int .u64 (c.due : Int)]) (.int .i64 ((3 : Nat) : Int))).run Tryz.prog W = .ok (.int .u64 (c.to_ : Int)) W := fun W => by kernel_rfl
        have i1 : ∀ W : World, (Instr.index 49 (.agg #[.int .u64 0, .int .u64 (c.deal : Int), .int .u64 (c.acct : Int), .int .u64 (c.to_ : Int), .int .u64 (c.arb : Int), .int .u64 (c.amt : Int), .int .u64 (c.due : Int)]) (.int .i64 3)).run Tryz.prog W = .ok (.int .u64 (c.to_ : Int)) W := fun W => by kernel_rfl
        have HQ := hide (HCC.out 3)
        rw [hq] at HQ
        have HSK := HST.out 3
        rw [hq] at HSK
        have HSK := hide HSK
        clear hq
        have hnm : c.num 3 = c.to_ := rfl
        have NX : Hid (¬ c.strayAt 3 → ∀ j, 1 ≤ j → j < 4 → ¬ c.strayAt j) := fun h j h1 h2 => by
          by_cases hj : j < 3
          · exact HS.out j h1 hj
          · obtain rfl : j = 3 := by omega
            exact h
        have HNM := hide hnm
        clear hnm
        by_cases hz : c.to_ = 0
        · have hd : ((c.to_ : Int) != 0) = false := by simp [hz]
          have HZ := hide hz
          clear hz
          go_wp2
          go_roundw
          case rel => exact ⟨by first | rfl | trivial, 4, by omega, by go_num, NX.out (fun h => by have := (HSK.out.1 h).1; rw [HNM.out] at this; exact this HZ.out)⟩
          case measure => simp [intOf]
        · have hd : ((c.to_ : Int) != 0) = true := by simp; omega
          have HZ := hide hz
          clear hz
          go_wp2_with fail
          refine HQ.out.mono ?_
          rintro e w4 ⟨rfl, hw4⟩
          rw [hw4]
          clear hw4
          cases q with
          | true =>
            go_wp2
            go_roundw
            case rel => exact ⟨by first | rfl | trivial, 4, by omega, by go_num, NX.out (fun h => by have := (HSK.out.1 h).2; simp at this)⟩
            case measure => simp [intOf]
          | false =>
            go_wp2
            go_ret
            have e : st = 3 := (HS0.out _ (by omega) (by omega) HS.out (HSK.out.2 ⟨by rw [HNM.out]; exact HZ.out, by simp⟩))
            exact ⟨by rw [e]; rfl, B3.out⟩
      · obtain ⟨q, hq⟩ : ∃ q : Bool, decide (4 ∈ fds c.verb) = q := ⟨_, rfl⟩
        have i0 : ∀ W : World, (Instr.index 49 (.agg #[.int .u64 0, .int .u64 (c.deal : Int), .int .u64 (c.acct : Int), .int .u64 (c.to_ : Int), .int .u64 (c.arb : Int), .int .u64 (c.amt : Int), .int .u64 (c.due : Int)]) (.int .i64 ((4 : Nat) : Int))).run Tryz.prog W = .ok (.int .u64 (c.arb : Int)) W := fun W => by kernel_rfl
        have i1 : ∀ W : World, (Instr.index 49 (.agg #[.int .u64 0, .int .u64 (c.deal : Int), .int .u64 (c.acct : Int), .int .u64 (c.to_ : Int), .int .u64 (c.arb : Int), .int .u64 (c.amt : Int), .int .u64 (c.due : Int)]) (.int .i64 4)).run Tryz.prog W = .ok (.int .u64 (c.arb : Int)) W := fun W => by kernel_rfl
        have HQ := hide (HCC.out 4)
        rw [hq] at HQ
        have HSK := HST.out 4
        rw [hq] at HSK
        have HSK := hide HSK
        clear hq
        have hnm : c.num 4 = c.arb := rfl
        have NX : Hid (¬ c.strayAt 4 → ∀ j, 1 ≤ j → j < 5 → ¬ c.strayAt j) := fun h j h1 h2 => by
          by_cases hj : j < 4
          · exact HS.out j h1 hj
          · obtain rfl : j = 4 := by omega
            exact h
        have HNM := hide hnm
        clear hnm
        by_cases hz : c.arb = 0
        · have hd : ((c.arb : Int) != 0) = false := by simp [hz]
          have HZ := hide hz
          clear hz
          go_wp2
          go_roundw
          case rel => exact ⟨by first | rfl | trivial, 5, by omega, by go_num, NX.out (fun h => by have := (HSK.out.1 h).1; rw [HNM.out] at this; exact this HZ.out)⟩
          case measure => simp [intOf]
        · have hd : ((c.arb : Int) != 0) = true := by simp; omega
          have HZ := hide hz
          clear hz
          go_wp2_with fail
          refine HQ.out.mono ?_
          rintro e w4 ⟨rfl, hw4⟩
          rw [hw4]
          clear hw4
          cases q with
          | true =>
            go_wp2
            go_roundw
            case rel => exact ⟨by first | rfl | trivial, 5, by omega, by go_num, NX.out (fun h => by have := (HSK.out.1 h).2; simp at this)⟩
            case measure => simp [intOf]
          | false =>
            go_wp2
            go_ret
            have e : st = 4 := (HS0.out _ (by omega) (by omega) HS.out (HSK.out.2 ⟨by rw [HNM.out]; exact HZ.out, by simp⟩))
            exact ⟨by rw [e]; rfl, B3.out⟩
      · obtain ⟨q, hq⟩ : ∃ q : Bool, decide (5 ∈ fds c.verb) = q := ⟨_, rfl⟩
        have i0 : ∀ W : World, (Instr.index 49 (.agg #[.int .u64 0, .int .u64 (c.deal : Int), .int .u64 (c.acct : Int), .int .u64 (c.to_ : Int), .int .u64 (c.arb : Int), .int .u64 (c.amt : Int), .int .u64 (c.due : Int)]) (.int .i64 ((5 : Nat) : Int))).run Tryz.prog W = .ok (.int .u64 (c.amt : Int)) W := fun W => by kernel_rfl
        have i1 : ∀ W : World, (Instr.index 49 (.agg #[.int .u64 0, .int .u64 (c.deal : Int), .int .u64 (c.acct : Int), .int .u64 (c.to_ : Int), .int .u64 (c.arb : Int), .int .u64 (c.amt : Int), .int .u64 (c.due : Int)]) (.int .i64 5)).run Tryz.prog W = .ok (.int .u64 (c.amt : Int)) W := fun W => by kernel_rfl
        have HQ := hide (HCC.out 5)
        rw [hq] at HQ
        have HSK := HST.out 5
        rw [hq] at HSK
        have HSK := hide HSK
        clear hq
        have hnm : c.num 5 = c.amt := rfl
        have NX : Hid (¬ c.strayAt 5 → ∀ j, 1 ≤ j → j < 6 → ¬ c.strayAt j) := fun h j h1 h2 => by
          by_cases hj : j < 5
          · exact HS.out j h1 hj
          · obtain rfl : j = 5 := by omega
            exact h
        have HNM := hide hnm
        clear hnm
        by_cases hz : c.amt = 0
        · have hd : ((c.amt : Int) != 0) = false := by simp [hz]
          have HZ := hide hz
          clear hz
          go_wp2
          go_roundw
          case rel => exact ⟨by first | rfl | trivial, 6, by omega, by go_num, NX.out (fun h => by have := (HSK.out.1 h).1; rw [HNM.out] at this; exact this HZ.out)⟩
          case measure => simp [intOf]
        · have hd : ((c.amt : Int) != 0) = true := by simp; omega
          have HZ := hide hz
          clear hz
          go_wp2_with fail
          refine HQ.out.mono ?_
          rintro e w4 ⟨rfl, hw4⟩
          rw [hw4]
          clear hw4
          cases q with
          | true =>
            go_wp2
            go_roundw
            case rel => exact ⟨by first | rfl | trivial, 6, by omega, by go_num, NX.out (fun h => by have := (HSK.out.1 h).2; simp at this)⟩
            case measure => simp [intOf]
          | false =>
            go_wp2
            go_ret
            have e : st = 5 := (HS0.out _ (by omega) (by omega) HS.out (HSK.out.2 ⟨by rw [HNM.out]; exact HZ.out, by simp⟩))
            exact ⟨by rw [e]; rfl, B3.out⟩
      · obtain ⟨q, hq⟩ : ∃ q : Bool, decide (6 ∈ fds c.verb) = q := ⟨_, rfl⟩
        have i0 : ∀ W : World, (Instr.index 49 (.agg #[.int .u64 0, .int .u64 (c.deal : Int), .int .u64 (c.acct : Int), .int .u64 (c.to_ : Int), .int .u64 (c.arb : Int), .int .u64 (c.amt : Int), .int .u64 (c.due : Int)]) (.int .i64 ((6 : Nat) : Int))).run Tryz.prog W = .ok (.int .u64 (c.due : Int)) W := fun W => by kernel_rfl
        have i1 : ∀ W : World, (Instr.index 49 (.agg #[.int .u64 0, .int .u64 (c.deal : Int), .int .u64 (c.acct : Int), .int .u64 (c.to_ : Int), .int .u64 (c.arb : Int), .int .u64 (c.amt : Int), .int .u64 (c.due : Int)]) (.int .i64 6)).run Tryz.prog W = .ok (.int .u64 (c.due : Int)) W := fun W => by kernel_rfl
        have HQ := hide (HCC.out 6)
        rw [hq] at HQ
        have HSK := HST.out 6
        rw [hq] at HSK
        have HSK := hide HSK
        clear hq
        have hnm : c.num 6 = c.due := rfl
        have NX : Hid (¬ c.strayAt 6 → ∀ j, 1 ≤ j → j < 7 → ¬ c.strayAt j) := fun h j h1 h2 => by
          by_cases hj : j < 6
          · exact HS.out j h1 hj
          · obtain rfl : j = 6 := by omega
            exact h
        have HNM := hide hnm
        clear hnm
        by_cases hz : c.due = 0
        · have hd : ((c.due : Int) != 0) = false := by simp [hz]
          have HZ := hide hz
          clear hz
          go_wp2
          go_roundw
          case rel => exact ⟨by first | rfl | trivial, 7, by omega, by go_num, NX.out (fun h => by have := (HSK.out.1 h).1; rw [HNM.out] at this; exact this HZ.out)⟩
          case measure => simp [intOf]
        · have hd : ((c.due : Int) != 0) = true := by simp; omega
          have HZ := hide hz
          clear hz
          go_wp2_with fail
          refine HQ.out.mono ?_
          rintro e w4 ⟨rfl, hw4⟩
          rw [hw4]
          clear hw4
          cases q with
          | true =>
            go_wp2
            go_roundw
            case rel => exact ⟨by first | rfl | trivial, 7, by omega, by go_num, NX.out (fun h => by have := (HSK.out.1 h).2; simp at this)⟩
            case measure => simp [intOf]
          | false =>
            go_wp2
            go_ret
            have e : st = 6 := (HS0.out _ (by omega) (by omega) HS.out (HSK.out.2 ⟨by rw [HNM.out]; exact HZ.out, by simp⟩))
            exact ⟨by rw [e]; rfl, B3.out⟩
    · obtain rfl : k = 7 := by omega
      clear hlt hk
      have H7 := hide (HS7.out HS.out)
      by_cases he : c.terms.toList.isEmpty = true
      · have e0 : Hid (st = 0) := by
          show _ = _
          rw [H7.out, if_neg (fun h => by rw [he] at h; exact Bool.noConfusion h.1)]
        go_wp2
        go_ret
        exact ⟨by rw [e0.out]; rfl, B3.out⟩
      · have he : c.terms.toList.isEmpty = false := by simpa using he
        obtain ⟨q, hq⟩ : ∃ q : Bool, decide (7 ∈ fds c.verb) = q := ⟨_, rfl⟩
        have HQ := hide (HC.out wr fb 7 I3.out)
        rw [hq] at HQ
        have E7 : Hid (st = if q = true then 0 else 7) := by
          show _ = _
          rw [H7.out, ← hq]
          by_cases hm : 7 ∈ fds c.verb
          · rw [if_neg (fun h => h.2 hm), decide_eq_true hm, if_pos rfl]
          · rw [if_pos ⟨he, hm⟩, decide_eq_false hm, if_neg (by simp)]
        clear hq
        go_wp2_with fail
        refine HQ.out.mono ?_
        rintro e w4 ⟨rfl, hw4⟩
        rw [hw4]
        clear hw4
        cases q with
        | true =>
          go_wp2
          go_ret
          exact ⟨by rw [E7.out]; rfl, B3.out⟩
        | false =>
          go_wp2
          go_ret
          exact ⟨by rw [E7.out]; rfl, B3.out⟩
end Go.Proofs.YthacdhhmmmocpaaGreatDoor
