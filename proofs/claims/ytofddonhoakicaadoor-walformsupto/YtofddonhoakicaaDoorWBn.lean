import Derived.Test.YtofddonhoakicaaDoorWRa
import Derived.Test.YtofddonhoakicaaDoorWLn
namespace Go.Proofs.YtofddonhoakicaaDoor
open Go.RowKit Crc

set_option maxRecDepth 10000 in
set_option maxHeartbeats 800000 in
theorem begins_any {l1 l2 : Nat} {w : World} {a1 a2 : Option Addr} {n1 n2 c1 c2 : Nat} {D H : List Nat} (h1 : Shows l1 w a1 n1 c1 D) (h2 : Shows l2 w a2 n2 c2 H) :
    Calls Tryd.prog 34 #[.slice a1 n1 c1, .slice a2 n2 c2] w fun e w' => e = .returned (.bool (decide (D.take H.length = H))) ∧ ∃ q, w' = w.drewN q := by
  obtain ⟨p1, _, p3, pB, b1, o1, p5, _, p7⟩ := h1
  obtain ⟨q1, _, q3, qB, b2, o2, q5, _, q7⟩ := h2
  by_cases hlen : n1 < n2
  · have HD : Hid (decide (D.take H.length = H) = false) := by
      show _ = _
      simp only [decide_eq_false_iff_not]
      intro e
      have := congrArg List.length e
      rw [List.length_take] at this
      omega
    rw [HD.out]
    clear p5 p7 q5 q7 p1 q1 pB qB
    go_enter Tryd.func34, Tryd.ntmps34
    go_wp2
    go_ret
    exact ⟨rfl, 0, rfl⟩
  have P5 := hide p5
  have Q5 := hide q5
  have P7 := hide p7
  have Q7 := hide q7
  have P1 := hide p1
  have Q1 := hide q1
  have PB := hide pB
  have QB := hide qB
  clear p1 p5 q5 p7 q7 q1 pB qB
  go_enter Tryd.func34, Tryd.ntmps34
  go_wp2
  go_loopw [5] (fun i wr => ∃ k : Nat, k ≤ n2 ∧ i = .int .i64 k ∧ Hid ((∃ q, wr = w.drewN q) ∧ ∀ j, j < k → D.getD j 0 = H.getD j 0)) (fun i _ => n2 - (intOf i).toNat)
  case atStart => exact ⟨0, by omega, rfl, ⟨0, rfl⟩, fun j hj => by omega⟩
  case round =>
    obtain ⟨k, hk, rfl, HQ⟩ := hrel
    by_cases hlt : k < n2
    · obtain rfl := P5.out (by omega)
      obtain rfl := Q5.out (by omega)
      have hx' : wr.cell? ⟨b1, o1 + k, none⟩ = some (.int .u8 ((D.getD k 0 : Nat) : Int)) := by obtain ⟨q, h⟩ := HQ.out.1; rw [h]; exact P7.out k (by omega)
      have hy' : wr.cell? ⟨b2, o2 + k, none⟩ = some (.int .u8 ((H.getD k 0 : Nat) : Int)) := by obtain ⟨q, h⟩ := HQ.out.1; rw [h]; exact Q7.out k hlt
      have hcx := getD_lt D PB.out k
      have hcy := getD_lt H QB.out k
      by_cases hne : D.getD k 0 = H.getD k 0
      · have HE : Hid (∀ j, j < k + 1 → D.getD j 0 = H.getD j 0) := by
          intro j hj
          rcases Nat.lt_or_ge j k with h3 | h3
          · exact HQ.out.2 j h3
          · rw [show j = k by omega]; exact hne
        rw [hne] at hx'
        clear hne hcx
        generalize H.getD k 0 = c at *
        go_wp2
        go_quiet (fail)
        go_wp2
        go_roundw
        case rel =>
          obtain ⟨⟨q, h⟩, -⟩ := HQ.out
          exact ⟨k + 1, by omega, by go_num, ⟨_, by rw [h]; exact World.drewN_drewN _ _ _⟩, HE.out⟩
        case measure => simp [intOf]; omega
      · have HD : Hid (decide (D.take H.length = H) = false) := by
          show _ = _
          simp only [decide_eq_false_iff_not]
          intro e
          apply hne
          have := congrArg (fun l => l.getD k 0) e
          rw [← this, getD_take (by have := Q1.out; omega)]
        have d1 : (((D.getD k 0 : Nat) : Int) != ((H.getD k 0 : Nat) : Int)) = true := by simp only [bne_iff_ne, ne_eq]; exact fun e => hne (Int.ofNat_inj.1 e)
        clear hne
        generalize D.getD k 0 = d at *
        generalize H.getD k 0 = c at *
        go_wp2
        go_quiet (fail)
        go_wp2
        go_ret
        obtain ⟨⟨q, h⟩, -⟩ := HQ.out
        exact ⟨by rw [HD.out]; rfl, _, by rw [h]; exact World.drewN_drewN _ _ _⟩
    · have HD : Hid (decide (D.take H.length = H) = true) := by
        show _ = _
        simp only [decide_eq_true_eq]
        apply List.ext_getElem?
        intro j
        rw [List.getElem?_take]
        by_cases hj : j < H.length
        · rw [if_pos hj]
          have := HQ.out.2 j (by have := Q1.out; omega)
          rw [List.getD_eq_getElem?_getD, List.getD_eq_getElem?_getD, List.getElem?_eq_getElem hj, List.getElem?_eq_getElem (by have := P1.out; have := Q1.out; omega)] at this
          rw [List.getElem?_eq_getElem hj, List.getElem?_eq_getElem (by have := P1.out; have := Q1.out; omega)]
          simpa using this
        · rw [if_neg hj, List.getElem?_eq_none (by omega)]
      have HQ2 := hide HQ.out.1
      clear HQ
      go_wp2
      go_ret
      exact ⟨by rw [HD.out]; rfl, HQ2.out⟩
set_option maxRecDepth 10000 in
set_option maxHeartbeats 800000 in
theorem any_none (fo : Option Addr) (fc : Nat) (w : World) : Calls Tryd.prog 33 #[.agg #[.slice fo 0 fc, .int .i64 0]] w fun e w' => e = .returned (.bool false) ∧ Below w.heap.size w w' := by
  go_enter Tryd.func33, Tryd.ntmps33
  go_wp2
  go_ret
  exact ⟨rfl, (Below.refl _ _).alloc (Nat.le_refl _) _⟩
set_option maxRecDepth 10000 in
set_option maxHeartbeats 800000 in
theorem any_some (fo : Option Addr) (n fc : Nat) (c : Int) (w : World) (hc : c ≠ 0) : Calls Tryd.prog 33 #[.agg #[.slice fo n fc, .int .i64 c]] w fun e w' => e = .returned (.bool true) ∧ Below w.heap.size w w' := by
  have e0 : (c != 0) = true := by simp [hc]
  clear hc
  go_enter Tryd.func33, Tryd.ntmps33
  go_wp2
  go_ret
  exact ⟨rfl, (Below.refl _ _).alloc (Nat.le_refl _) _⟩
set_option maxRecDepth 10000 in
set_option maxHeartbeats 800000 in
theorem kept_any {lim g : Nat} {w : World} {ao : Option Addr} {n cap : Nat} {B : List Nat} (h : Shows lim w ao n cap B) (hL : LentW w g n B) (hl : n ≤ 140737488351232) :
    Calls Tryd.prog 16 #[.slice (some ⟨g, 0, none⟩) n (n + 3), .slice ao n cap] w fun e w' => e = .returned (.bool true) ∧ ∃ q, w' = w.drewN q := by
  have HS := hide (same_any (hL.shows h.2.2.2.1 hl) h)
  have hcell : ∀ j, j < 3 → w.cell? ⟨g, n + j, none⟩ = some (.int .u8 ((161 + j : Nat) : Int)) := by
    intro j hj
    rw [hL.2.cellAt (n + j) (by omega), List.getElem?_append_right (by rw [vals_len]; have := hL.1; omega), vals_len, ← hL.1, Nat.add_sub_cancel_left]
    match j, hj with
    | 0, _ => rfl
    | 1, _ => rfl
    | 2, _ => rfl
  have m0 : w.cell? ⟨g, n, none⟩ = some (.int .u8 161) := hcell 0 (by omega)
  have m1 : w.cell? ⟨g, n + 1, none⟩ = some (.int .u8 162) := hcell 1 (by omega)
  have m2 : w.cell? ⟨g, n + 2, none⟩ = some (.int .u8 163) := hcell 2 (by omega)
  clear hcell h hL
  go_enter Tryd.func16, Tryd.ntmps16
  go_wp2_with fail
  refine HS.out.mono ?_
  rintro e w1 ⟨rfl, q, hw1⟩
  have k0 : w1.cell? ⟨g, n, none⟩ = some (.int .u8 161) := by rw [hw1]; exact m0
  have k1 : w1.cell? ⟨g, n + 1, none⟩ = some (.int .u8 162) := by rw [hw1]; exact m1
  have k2 : w1.cell? ⟨g, n + 2, none⟩ = some (.int .u8 163) := by rw [hw1]; exact m2
  have HW := hide hw1
  clear hw1 m0 m1 m2
  go_wp2
  go_ret
  exact ⟨rfl, q, HW.out⟩
end Go.Proofs.YtofddonhoakicaaDoor
