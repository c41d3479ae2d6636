import Derived.Test.YtmoklddfaocihaaDoorCvB
import Derived.BigQuiet
namespace Go.Proofs.YtmoklddfaocihaaDoor
open Go.RowKit

theorem idx6_0 (a0 a1 a2 a3 a4 a5 : Int) (w : World) : (Instr.index 24 (.agg #[.int .i64 a0, .int .i64 a1, .int .i64 a2, .int .i64 a3, .int .i64 a4, .int .i64 a5]) (.int .i64 0)).run Tryd.prog w = .ok (.int .i64 a0) w := by kernel_rfl
theorem idx6_1 (a0 a1 a2 a3 a4 a5 : Int) (w : World) : (Instr.index 24 (.agg #[.int .i64 a0, .int .i64 a1, .int .i64 a2, .int .i64 a3, .int .i64 a4, .int .i64 a5]) (.int .i64 1)).run Tryd.prog w = .ok (.int .i64 a1) w := by kernel_rfl
theorem idx6_2 (a0 a1 a2 a3 a4 a5 : Int) (w : World) : (Instr.index 24 (.agg #[.int .i64 a0, .int .i64 a1, .int .i64 a2, .int .i64 a3, .int .i64 a4, .int .i64 a5]) (.int .i64 2)).run Tryd.prog w = .ok (.int .i64 a2) w := by kernel_rfl
theorem idx6_3 (a0 a1 a2 a3 a4 a5 : Int) (w : World) : (Instr.index 24 (.agg #[.int .i64 a0, .int .i64 a1, .int .i64 a2, .int .i64 a3, .int .i64 a4, .int .i64 a5]) (.int .i64 3)).run Tryd.prog w = .ok (.int .i64 a3) w := by kernel_rfl
theorem idx6_4 (a0 a1 a2 a3 a4 a5 : Int) (w : World) : (Instr.index 24 (.agg #[.int .i64 a0, .int .i64 a1, .int .i64 a2, .int .i64 a3, .int .i64 a4, .int .i64 a5]) (.int .i64 4)).run Tryd.prog w = .ok (.int .i64 a4) w := by kernel_rfl
theorem idx6_5 (a0 a1 a2 a3 a4 a5 : Int) (w : World) : (Instr.index 24 (.agg #[.int .i64 a0, .int .i64 a1, .int .i64 a2, .int .i64 a3, .int .i64 a4, .int .i64 a5]) (.int .i64 5)).run Tryd.prog w = .ok (.int .i64 a5) w := by kernel_rfl
def entB (p : Pv) (j : Nat) : Option (Int × Int) := if p.en j ≠ -1 ∧ isPl (p.en j) p.n = false then some ((j : Int), 82) else none
def entF (p : Pv) : Option (Int × Int) := firstBad (entB p) 6
set_option maxRecDepth 10000 in
set_option maxHeartbeats 1600000 in
theorem checkEntriesC {lim : Nat} {W : World} {q : Nat} {g : Pg} {p : Pv} (h : WC lim W q g p) : Calls Tryd.prog 83 #[.pointer (some ⟨q, 0, none⟩)] W (Ck W (entF p)) := by
  obtain ⟨c0, c1, c8, ql⟩ := h.cells
  obtain ⟨e0, e1, e2, e3, e4, e5⟩ := h.ents
  obtain ⟨r, hr⟩ : ∃ r, entF p = r := ⟨_, rfl⟩
  rw [hr]
  have HR := hide hr
  clear h c0 c1 hr
  go_enter Tryd.func83, Tryd.ntmps83
  go_wp2
  go_loop [9] (fun i => ∃ j : Nat, j ≤ 6 ∧ i = .int .i64 (j : Nat) ∧ Hid (firstBad (entB p) j = none)) (fun i => 6 - (intOf i).toNat)
  case atStart => exact ⟨0, by omega, rfl, rfl⟩
  case round =>
    obtain ⟨j, hj, rfl, HJ⟩ := hrel
    by_cases hlt : j < 6
    · have HHit : Hid (∀ x y, entB p j = some (x, y) → r = some (x, y)) := fun x y hb => HR.out.symm.trans (firstBad_hit hlt HJ.out hb)
      have HNx : Hid (entB p j = none → firstBad (entB p) (j + 1) = none) := fun hb => firstBad_next HJ.out hb
      unfold entB at HHit HNx
      clear HJ HR
      have h6 : j = 0 ∨ j = 1 ∨ j = 2 ∨ j = 3 ∨ j = 4 ∨ j = 5 := by omega
      rcases h6 with rfl | rfl | rfl | rfl | rfl | rfl
      · have hix := idx6_0 (p.en 0) (p.en 1) (p.en 2) (p.en 3) (p.en 4) (p.en 5)
        generalize p.en 0 = s at *
        have HIP := hide (isPlace_any s p.n W)
        by_cases h0 : s = -1
        · have e7 : (s != -1) = false := by subst h0; rfl
          have H0 := hide h0
          clear h0
          go_wp2
          go_round
          case rel => exact ⟨1, by omega, by go_num, HNx.out (by rw [if_neg (fun h => h.1 H0.out)])⟩
          case measure => simp [intOf]
        · have e7 : (s != -1) = true := by simpa using h0
          go_wp2_with fail
          refine HIP.out.mono ?_
          rintro e w1 ⟨rfl, rfl⟩
          cases hp : isPl s p.n
          · have hr := HHit.out _ _ (if_pos ⟨h0, hp⟩)
            subst hr
            go_wp2_with fail
            refine (giveUp_any _ _ _).mono ?_
            rintro e w2 ⟨g, rfl, G⟩
            go_wp2
            exact ⟨rfl, g, rfl, G⟩
          · go_wp2
            go_round
            case rel => exact ⟨1, by omega, by go_num, HNx.out (by rw [if_neg (fun h => by have := h.2; rw [hp] at this; cases this)])⟩
            case measure => simp [intOf]
      · have hix := idx6_1 (p.en 0) (p.en 1) (p.en 2) (p.en 3) (p.en 4) (p.en 5)
        generalize p.en 1 = s at *
        have HIP := hide (isPlace_any s p.n W)
        by_cases h0 : s = -1
        · have e7 : (s != -1) = false := by subst h0; rfl
          have H0 := hide h0
          clear h0
          go_wp2
          go_round
          case rel => exact ⟨2, by omega, by go_num, HNx.out (by rw [if_neg (fun h => h.1 H0.out)])⟩
          case measure => simp [intOf]
        · have e7 : (s != -1) = true := by simpa using h0
          go_wp2_with fail
          refine HIP.out.mono ?_
          rintro e w1 ⟨rfl, rfl⟩
          cases hp : isPl s p.n
          · have hr := HHit.out _ _ (if_pos ⟨h0, hp⟩)
            subst hr
            go_wp2_with fail
            refine (giveUp_any _ _ _).mono ?_
            rintro e w2 ⟨g, rfl, G⟩
            go_wp2
            exact ⟨rfl, g, rfl, G⟩
          · go_wp2
            go_round
            case rel => exact ⟨2, by omega, by go_num, HNx.out (by rw [if_neg (fun h => by have := h.2; rw [hp] at this; cases this)])⟩
            case measure => simp [intOf]
      · have hix := idx6_2 (p.en 0) (p.en 1) (p.en 2) (p.en 3) (p.en 4) (p.en 5)
        generalize p.en 2 = s at *
        have HIP := hide (isPlace_any s p.n W)
        by_cases h0 : s = -1
        · have e7 : (s != -1) = false := by subst h0; rfl
          have H0 := hide h0
          clear h0
          go_wp2
          go_round
          case rel => exact ⟨3, by omega, by go_num, HNx.out (by rw [if_neg (fun h => h.1 H0.out)])⟩
          case measure => simp [intOf]
        · have e7 : (s != -1) = true := by simpa using h0
          go_wp2_with fail
          refine HIP.out.mono ?_
          rintro e w1 ⟨rfl, rfl⟩
          cases hp : isPl s p.n
          · have hr := HHit.out _ _ (if_pos ⟨h0, hp⟩)
            subst hr
            go_wp2_with fail
            refine (giveUp_any _ _ _).mono ?_
            rintro e w2 ⟨g, rfl, G⟩
            go_wp2
            exact ⟨rfl, g, rfl, G⟩
          · go_wp2
            go_round
            case rel => exact ⟨3, by omega, by go_num, HNx.out (by rw [if_neg (fun h => by have := h.2; rw [hp] at this; cases this)])⟩
            case measure => simp [intOf]
      · have hix := idx6_3 (p.en 0) (p.en 1) (p.en 2) (p.en 3) (p.en 4) (p.en 5)
        generalize p.en 3 = s at *
        have HIP := hide (isPlace_any s p.n W)
        by_cases h0 : s = -1
        · have e7 : (s != -1) = false := by subst h0; rfl
          have H0 := hide h0
          clear h0
          go_wp2
          go_round
          case rel => exact ⟨4, by omega, by go_num, HNx.out (by rw [if_neg (fun h => h.1 H0.out)])⟩
          case measure => simp [intOf]
        · have e7 : (s != -1) = true := by simpa using h0
          go_wp2_with fail
          refine HIP.out.mono ?_
          rintro e w1 ⟨rfl, rfl⟩
          cases hp : isPl s p.n
          · have hr := HHit.out _ _ (if_pos ⟨h0, hp⟩)
            subst hr
            go_wp2_with fail
            refine (giveUp_any _ _ _).mono ?_
            rintro e w2 ⟨g, rfl, G⟩
            go_wp2
            exact ⟨rfl, g, rfl, G⟩
          · go_wp2
            go_round
            case rel => exact ⟨4, by omega, by go_num, HNx.out (by rw [if_neg (fun h => by have := h.2; rw [hp] at this; cases this)])⟩
            case measure => simp [intOf]
      · have hix := idx6_4 (p.en 0) (p.en 1) (p.en 2) (p.en 3) (p.en 4) (p.en 5)
        generalize p.en 4 = s at *
        have HIP := hide (isPlace_any s p.n W)
        by_cases h0 : s = -1
        · have e7 : (s != -1) = false := by subst h0; rfl
          have H0 := hide h0
          clear h0
          go_wp2
          go_round
          case rel => exact ⟨5, by omega, by go_num, HNx.out (by rw [if_neg (fun h => h.1 H0.out)])⟩
          case measure => simp [intOf]
        · have e7 : (s != -1) = true := by simpa using h0
          go_wp2_with fail
          refine HIP.out.mono ?_
          rintro e w1 ⟨rfl, rfl⟩
          cases hp : isPl s p.n
          · have hr := HHit.out _ _ (if_pos ⟨h0, hp⟩)
            subst hr
            go_wp2_with fail
            refine (giveUp_any _ _ _).mono ?_
            rintro e w2 ⟨g, rfl, G⟩
            go_wp2
            exact ⟨rfl, g, rfl, G⟩
          · go_wp2
            go_round
            case rel => exact ⟨5, by omega, by go_num, HNx.out (by rw [if_neg (fun h => by have := h.2; rw [hp] at this; cases this)])⟩
            case measure => simp [intOf]
      · have hix := idx6_5 (p.en 0) (p.en 1) (p.en 2) (p.en 3) (p.en 4) (p.en 5)
        generalize p.en 5 = s at *
        have HIP := hide (isPlace_any s p.n W)
        by_cases h0 : s = -1
        · have e7 : (s != -1) = false := by subst h0; rfl
          have H0 := hide h0
          clear h0
          go_wp2
          go_round
          case rel => exact ⟨6, by omega, by go_num, HNx.out (by rw [if_neg (fun h => h.1 H0.out)])⟩
          case measure => simp [intOf]
        · have e7 : (s != -1) = true := by simpa using h0
          go_wp2_with fail
          refine HIP.out.mono ?_
          rintro e w1 ⟨rfl, rfl⟩
          cases hp : isPl s p.n
          · have hr := HHit.out _ _ (if_pos ⟨h0, hp⟩)
            subst hr
            go_wp2_with fail
            refine (giveUp_any _ _ _).mono ?_
            rintro e w2 ⟨g, rfl, G⟩
            go_wp2
            exact ⟨rfl, g, rfl, G⟩
          · go_wp2
            go_round
            case rel => exact ⟨6, by omega, by go_num, HNx.out (by rw [if_neg (fun h => by have := h.2; rw [hp] at this; cases this)])⟩
            case measure => simp [intOf]
    · obtain rfl : j = 6 := by omega
      have hr : r = none := HR.out.symm.trans HJ.out
      subst hr
      go_wp2
      go_end0
      exact ⟨rfl, Below.refl _ _⟩
/-- May an instruction have its Arg? -/
def argF (p : Pv) (o : Nat) (a : Int) : Bool :=
  if fArg o = 1 then isPl a p.nc else if fArg o = 2 then isPl a 8 else if fArg o = 3 then isPl a p.ns else if fArg o = 4 then isPl a p.n else if fArg o = 5 then decide (1 ≤ a) && decide (a ≤ 999) else decide (a = 0)
theorem isPlace_q (a : Int) (n : Nat) (w : World) : Calls Tryd.prog 41 #[.int .i64 a, .int .i64 (n : Nat)] w fun e w' => e = .returned (.bool (isPl a n)) ∧ ∃ q, w' = w.drewN q := (isPlace_any a n w).mono (fun _ _ h => ⟨h.1, 0, by rw [h.2]; rfl⟩)
theorem fArg_le (o : Nat) (h : o ≤ 32) : fArg o = 0 ∨ fArg o = 1 ∨ fArg o = 2 ∨ fArg o = 3 ∨ fArg o = 4 ∨ fArg o = 5 := by
  have : ∀ o, o ≤ 32 → fArg o = 0 ∨ fArg o = 1 ∨ fArg o = 2 ∨ fArg o = 3 ∨ fArg o = 4 ∨ fArg o = 5 := by decide
  exact this o h
set_option maxRecDepth 10000 in
set_option maxHeartbeats 1600000 in
theorem isArgC {lim : Nat} {W : World} {q : Nat} {g : Pg} {p : Pv} (h : WC lim W q g p) (o : Nat) (ho : o ≤ 32) (a : Int) : Calls Tryd.prog 98 #[.pointer (some ⟨q, 0, none⟩), .agg #[.int .i64 (o : Nat), .int .i64 a]] W fun e w' => e = .returned (.bool (argF p o a)) ∧ Hid (Below W.heap.size W w') := by
  obtain ⟨W1, hW1⟩ : ∃ W1, W.alloc (.cells #[.int .i64 (o : Nat), .int .i64 a] 83) = W1 := ⟨_, rfl⟩
  have B1 : Below W.heap.size W W1 := by rw [← hW1]; exact below_alloc1 W _
  have A1 : W1.heap[W.heap.size]? = some (.cells #[.int .i64 (o : Nat), .int .i64 a] 83 (0, 0)) := by rw [← hW1]; exact alloc_atK _ _
  have h1 := h.kept B1
  obtain ⟨c0, c1, c8, ql⟩ := h1.cells
  have ht := h1.tab.a o ho
  have hz := h1.tab.z
  have z0 := block_cell A1 0
  have z1 := block_cell A1 1
  have zl := block_lt A1
  simp at z0 z1
  have HB : Hid (∀ q, Below W.heap.size W (W1.drewN q)) := fun q => Go.below_drewN B1 q
  have HB1 := hide B1
  have HW1 := hide hW1
  clear h h1 A1 B1 hW1
  have hq0 : 0 < W1.heap.size := by omega
  unfold argF
  have ht' : ∀ x : Nat, fArg o = x → W1.cell? ⟨0, o * 3, none⟩ = some (.int .i64 (x : Nat)) := fun x hx => by rw [ht, hx]
  clear ht
  rcases fArg_le o ho with e | e | e | e | e | e
  · -- none
    have ht : W1.cell? ⟨0, o * 3, none⟩ = some (.int .i64 0) := ht' _ e
    clear ht'
    rw [if_neg (by omega), if_neg (by omega), if_neg (by omega), if_neg (by omega), if_neg (by omega)]
    by_cases h0 : a = 0
    · rw [decide_eq_true h0]
      subst h0
      go_enter Tryd.func98, Tryd.ntmps98
      go_upto_region 1 with fail
      rw [HW1.out]
      go_wp2
      go_ret
      exact ⟨rfl, HB1⟩
    · rw [decide_eq_false h0]
      have e0 : (a == 0) = false := by simpa using h0
      go_enter Tryd.func98, Tryd.ntmps98
      go_upto_region 1 with fail
      rw [HW1.out]
      go_wp2
      go_ret
      exact ⟨rfl, HB1⟩
  · -- kind 1
    have ht : W1.cell? ⟨0, o * 3, none⟩ = some (.int .i64 1) := ht' _ e
    clear ht'
    rw [if_pos e]
    have HIP : Hid (∀ w, Calls Tryd.prog 41 #[.int .i64 a, .int .i64 ((p.nc : Nat) : Int)] w fun e w' => e = .returned (.bool (isPl a p.nc)) ∧ ∃ q, w' = w.drewN q) := fun w => isPlace_q a p.nc w
    generalize isPl a p.nc = rr at *
    go_enter Tryd.func98, Tryd.ntmps98
    go_upto_region 1 with fail
    rw [HW1.out]
    go_wp2_with fail
    go_quiet (first | (go_at_call 41; exact Calls.quiet_of (HIP.out _)))
    go_wp2
    go_ret
    exact ⟨rfl, HB.out _⟩
  · -- kind 2
    have ht : W1.cell? ⟨0, o * 3, none⟩ = some (.int .i64 2) := ht' _ e
    clear ht'
    rw [if_neg (by omega), if_pos e]
    have HIP : Hid (∀ w, Calls Tryd.prog 41 #[.int .i64 a, .int .i64 ((8 : Nat) : Int)] w fun e w' => e = .returned (.bool (isPl a 8)) ∧ ∃ q, w' = w.drewN q) := fun w => isPlace_q a 8 w
    generalize isPl a 8 = rr at *
    go_enter Tryd.func98, Tryd.ntmps98
    go_upto_region 1 with fail
    rw [HW1.out]
    go_wp2_with fail
    refine (HIP.out _).mono ?_
    rintro e w2 ⟨rfl, q2, hw2⟩
    rw [hw2]
    clear hw2
    go_wp2
    go_ret
    exact ⟨rfl, HB.out _⟩
  · -- kind 3
    have ht : W1.cell? ⟨0, o * 3, none⟩ = some (.int .i64 3) := ht' _ e
    clear ht'
    rw [if_neg (by omega), if_neg (by omega), if_pos e]
    have HIP : Hid (∀ w, Calls Tryd.prog 41 #[.int .i64 a, .int .i64 ((p.ns : Nat) : Int)] w fun e w' => e = .returned (.bool (isPl a p.ns)) ∧ ∃ q, w' = w.drewN q) := fun w => isPlace_q a p.ns w
    generalize isPl a p.ns = rr at *
    go_enter Tryd.func98, Tryd.ntmps98
    go_upto_region 1 with fail
    rw [HW1.out]
    go_wp2_with fail
    go_quiet (first | (go_at_call 41; exact Calls.quiet_of (HIP.out _)))
    go_wp2
    go_ret
    exact ⟨rfl, HB.out _⟩
  · -- kind 4
    have ht : W1.cell? ⟨0, o * 3, none⟩ = some (.int .i64 4) := ht' _ e
    clear ht'
    rw [if_neg (by omega), if_neg (by omega), if_neg (by omega), if_pos e]
    have HIP : Hid (∀ w, Calls Tryd.prog 41 #[.int .i64 a, .int .i64 ((p.n : Nat) : Int)] w fun e w' => e = .returned (.bool (isPl a p.n)) ∧ ∃ q, w' = w.drewN q) := fun w => isPlace_q a p.n w
    generalize isPl a p.n = rr at *
    go_enter Tryd.func98, Tryd.ntmps98
    go_upto_region 1 with fail
    rw [HW1.out]
    go_wp2_with fail
    go_quiet (first | (go_at_call 41; exact Calls.quiet_of (HIP.out _)))
    go_wp2
    go_ret
    exact ⟨rfl, HB.out _⟩
  · -- failure
    have ht : W1.cell? ⟨0, o * 3, none⟩ = some (.int .i64 5) := ht' _ e
    clear ht'
    rw [if_neg (by omega), if_neg (by omega), if_neg (by omega), if_neg (by omega), if_pos e]
    by_cases h0 : 1 ≤ a
    · by_cases h9 : a ≤ 999
      · rw [decide_eq_true h0, decide_eq_true h9]
        go_enter Tryd.func98, Tryd.ntmps98
        go_upto_region 1 with fail
        rw [HW1.out]
        go_wp2
        go_ret
        exact ⟨rfl, HB1⟩
      · rw [decide_eq_true h0, decide_eq_false h9]
        go_enter Tryd.func98, Tryd.ntmps98
        go_upto_region 1 with fail
        rw [HW1.out]
        go_wp2
        go_ret
        exact ⟨rfl, HB1⟩
    · rw [decide_eq_false h0]
      go_enter Tryd.func98, Tryd.ntmps98
      go_upto_region 1 with fail
      rw [HW1.out]
      go_wp2
      go_ret
      exact ⟨rfl, HB1⟩
def insB (p : Pv) (j : Nat) : Option (Int × Int) := if isO (p.op j) = false then some ((j : Int), 83) else if argF p (p.op j).toNat (p.arg j) = false then some ((j : Int), 84) else none
def insF (p : Pv) : Option (Int × Int) := firstBad (insB p) p.n
theorem isO_nat {a : Int} (h : isO a = true) : a = ((a.toNat : Nat) : Int) ∧ a.toNat ≤ 32 ∧ 1 ≤ a.toNat := by
  simp [isO] at h
  omega
set_option maxRecDepth 10000 in
set_option maxHeartbeats 1600000 in
theorem checkInsC {lim : Nat} {W : World} {q : Nat} {g : Pg} {p : Pv} (h : WC lim W q g p) : Calls Tryd.prog 84 #[.pointer (some ⟨q, 0, none⟩)] W (Ck W (insF p)) := by
  obtain ⟨c0, c1, c8, ql⟩ := h.cells
  have hli := h.ok.li
  obtain ⟨r, hr⟩ : ∃ r, insF p = r := ⟨_, rfl⟩
  rw [hr]
  have HR := hide hr
  have HH := hide h
  have HA := hide h.ok.hi
  clear h c0 c1 hr
  go_enter Tryd.func84, Tryd.ntmps84
  go_wp2
  clear c8 ql
  go_loopw [10] (fun i wr => ∃ j : Nat, j ≤ p.n ∧ i = .int .i64 (j : Nat) ∧ Hid (firstBad (insB p) j = none ∧ Below W.heap.size W wr)) (fun i _ => p.n - (intOf i).toNat)
  case atStart => exact ⟨0, by omega, rfl, rfl, Below.refl _ _⟩
  case round =>
    obtain ⟨j, hj, rfl, HJ⟩ := hrel
    by_cases hlt : j < p.n
    · have hk := HH.out.kept HJ.out.2
      have vo := hk.ok.vo j hlt
      have va := hk.ok.va j hlt
      obtain ⟨hia, hib⟩ := HA.out (by omega)
      have hbl : g.ib < wr.heap.size := Nat.lt_of_lt_of_le hib hk.le
      have HHit : Hid (∀ x y, insB p j = some (x, y) → r = some (x, y)) := fun x y hb => HR.out.symm.trans (firstBad_hit hlt HJ.out.1 hb)
      have HNx : Hid (insB p j = none → firstBad (insB p) (j + 1) = none) := fun hb => firstBad_next HJ.out.1 hb
      unfold insB at HHit HNx
      rw [hia]
      obtain ⟨W1, hW1⟩ : ∃ W1, wr.alloc (.cells #[.int .i64 (p.op j), .int .i64 (p.arg j)] 83) = W1 := ⟨_, rfl⟩
      have B1 : Below wr.heap.size wr W1 := by rw [← hW1]; exact below_alloc1 wr _
      have A1 : W1.heap[wr.heap.size]? = some (.cells #[.int .i64 (p.op j), .int .i64 (p.arg j)] 83 (0, 0)) := by rw [← hW1]; exact alloc_atK _ _
      have HK1 := hide (hk.kept B1)
      have z0 := block_cell A1 0
      have z1 := block_cell A1 1
      have zl := block_lt A1
      simp at z0 z1
      have HBW : Hid (Below W.heap.size W W1) := HJ.out.2.trans (B1.mono HJ.out.2.size)
      have HIO := hide (isOp_any (p.op j) W1)
      have HIA : Hid (isO (p.op j) = true → Calls Tryd.prog 98 #[.pointer (some ⟨q, 0, none⟩), .agg #[.int .i64 (p.op j), .int .i64 (p.arg j)]] W1 fun e w' => e = .returned (.bool (argF p (p.op j).toNat (p.arg j))) ∧ Hid (Below W1.heap.size W1 w')) := fun hio => by
        have e := isO_nat hio
        have := isArgC HK1.out (p.op j).toNat e.2.1 (p.arg j)
        rw [← e.1] at this
        exact this
      have HW1 := hide hW1
      clear A1 B1 hW1 hk hia HJ HR
      generalize p.op j = oo at *
      generalize p.arg j = aa at *
      go_upto_region 3 with fail
      rw [HW1.out]
      clear HW1 vo va
      go_wp2_with fail
      refine HIO.out.mono ?_
      rintro e w1 ⟨rfl, hw⟩
      rw [hw]
      clear hw
      cases hio : isO oo
      · have hr := HHit.out _ _ (if_pos hio)
        subst hr
        go_wp2_with fail
        refine (giveUp_any _ _ _).mono ?_
        rintro e w2 ⟨g, rfl, G⟩
        have HG : Hid (Ft w2.heap.size w2 (.iface 96 (.pointer (some ⟨g, 0, none⟩))) j 83 ∧ Below W.heap.size W w2) := ⟨G.out.1, HBW.out.trans (G.out.2.mono HBW.out.size)⟩
        go_wp2
        exact ⟨rfl, g, rfl, HG⟩
      · have HIA := hide (HIA.out hio)
        have HHit : Hid (∀ x y, (if argF p oo.toNat aa = false then some ((j : Int), (84 : Int)) else none) = some (x, y) → r = some (x, y)) := fun x y hb => HHit.out x y (by rw [if_neg (by rw [hio]; simp)]; exact hb)
        have HNx : Hid (argF p oo.toNat aa = true → firstBad (insB p) (j + 1) = none) := fun hb => HNx.out (by rw [if_neg (by rw [hio]; simp), if_neg (by rw [hb]; simp)])
        clear hio
        go_wp2_with fail
        refine HIA.out.mono ?_
        rintro e w2 ⟨rfl, G2⟩
        have HBW2 : Hid (Below W.heap.size W w2) := HBW.out.trans (G2.out.mono HBW.out.size)
        cases hia : argF p oo.toNat aa
        · have hr := HHit.out _ _ (if_pos hia)
          subst hr
          go_wp2_with fail
          refine (giveUp_any _ _ _).mono ?_
          rintro e w3 ⟨g, rfl, G⟩
          have HG : Hid (Ft w3.heap.size w3 (.iface 96 (.pointer (some ⟨g, 0, none⟩))) j 84 ∧ Below W.heap.size W w3) := ⟨G.out.1, HBW2.out.trans (G.out.2.mono HBW2.out.size)⟩
          go_wp2
          exact ⟨rfl, g, rfl, HG⟩
        · go_wp2
          go_roundw
          case rel => exact ⟨j + 1, by omega, by go_num, HNx.out hia, HBW2.out⟩
          case measure => simp [intOf]; omega
    · obtain rfl : j = p.n := by omega
      have hr : r = none := HR.out.symm.trans HJ.out.1
      subst hr
      have HB := hide HJ.out.2
      clear HJ
      go_wp2
      go_end0
      exact ⟨rfl, HB.out⟩
end Go.Proofs.YtmoklddfaocihaaDoor
