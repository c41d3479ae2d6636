import Derived.Test.YtiijbboigebhcaaGreatDoorM14
namespace Go.Proofs.YtiijbboigebhcaaGreatDoor
open Go.RowKit Crc

set_option maxRecDepth 10000 in
set_option maxHeartbeats 400000 in
theorem number_Sn (x : Sn) (w : World) : Calls Tryz.prog 95 #[.agg #[.int .u64 (x.cl : Int), .int .u64 (x.sq : Int), .int .u64 (x.st : Int), .int .i64 x.cd, .slice x.co x.cn x.cc]] w fun e w' => e = .returned (.int .u64 (x.cl : Int)) ∧ Hid (Below w.heap.size w w') := by
  have b1 : Hid (∀ o, Below w.heap.size w (w.alloc o)) := fun o => (Below.refl _ w).alloc (Nat.le_refl _) o
  go_enter Tryz.func95, Tryz.ntmps95
  go_wp2
  go_ret
  exact ⟨rfl, b1.out _⟩
theorem len_Sn (x : Sn) : x.cells.length = 5 := rfl
set_option maxRecDepth 10000 in
set_option maxHeartbeats 1600000 in
theorem rising_Sn {base : Nat} {w : World} {ao : Option Addr} {n cap : Nat} {L : List Sn} (most : Nat) (hl : L.length = n) (hn : n ≤ 1000) (h : Rw base w 61 5 Sn.cells (.slice ao n cap) L) : Calls Tryz.prog 94 #[.slice ao n cap, .int .i64 most, .func (.func 95) #[] #[]] w fun e w' => e = .returned (.bool (rises Sn.cl 0 L && decide (n ≤ most))) ∧ Hid (Below w.heap.size w w') := by
  have HR := hide h
  have HL := hide hl
  clear h hl
  go_enter Tryz.func94, Tryz.ntmps94
  go_wp2
  go_loopw [7, 12] (fun v i wr => ∃ k : Nat, k ≤ n ∧ i = .int .i64 k ∧ ∃ a : Nat, v = .int .u64 (a : Int) ∧ Hid (Below w.heap.size w wr ∧ rises Sn.cl a (L.drop k) = rises Sn.cl 0 L)) (fun _ i _ => n - (intOf i).toNat)
  case atStart => exact ⟨0, by omega, rfl, 0, rfl, Below.refl _ _, rfl⟩
  case round =>
    obtain ⟨k, hk, rfl, a, rfl, HS⟩ := hrel
    by_cases hlt : k < n
    · obtain ⟨x, hx, hd⟩ : ∃ x, L[k]? = some x ∧ L.drop k = x :: L.drop (k + 1) := ⟨_, List.getElem?_eq_getElem (by rw [HL.out]; exact hlt), List.drop_eq_getElem_cons (by rw [HL.out]; exact hlt)⟩
      obtain ⟨g, rfl, hgl, -, -, hc⟩ := HR.out.at_ len_Sn hx
      have c0 := (HS.out.1.cell (p := ⟨g, k * 5 + 0, none⟩) hgl).trans (hc 0 _ rfl)
      have c1 := (HS.out.1.cell (p := ⟨g, k * 5 + 1, none⟩) hgl).trans (hc 1 _ rfl)
      have c2 := (HS.out.1.cell (p := ⟨g, k * 5 + 2, none⟩) hgl).trans (hc 2 _ rfl)
      have c3 := (HS.out.1.cell (p := ⟨g, k * 5 + 3, none⟩) hgl).trans (hc 3 _ rfl)
      have c4 := (HS.out.1.cell (p := ⟨g, k * 5 + 4, none⟩) hgl).trans (hc 4 _ rfl)
      simp only [Nat.add_zero] at c0
      have hgw : g < wr.heap.size := Nat.lt_of_lt_of_le hgl HS.out.1.size
      have HDR : Hid (rises Sn.cl 0 L = (decide (a < x.cl) && rises Sn.cl x.cl (L.drop (k + 1)))) := by
        show _ = _
        rw [← HS.out.2, hd, rises]
      have HB := hide HS.out.1
      have HNM : Hid (∀ W, Calls Tryz.prog 95 #[.agg #[.int .u64 (x.cl : Int), .int .u64 (x.sq : Int), .int .u64 (x.st : Int), .int .i64 x.cd, .slice x.co x.cn x.cc]] W fun e w' => e = .returned (.int .u64 (x.cl : Int)) ∧ Hid (Below W.heap.size W w')) := number_Sn x
      clear hc HS hd hx
      obtain ⟨W1, hW1⟩ : ∃ W1, wr.alloc (.cells #[.int .u64 (x.cl : Int), .int .u64 (x.sq : Int), .int .u64 (x.st : Int), .int .i64 x.cd, .slice x.co x.cn x.cc] 61) = W1 := ⟨_, rfl⟩
      have q1 : W1.heap[wr.heap.size]? = some (.cells #[.int .u64 (x.cl : Int), .int .u64 (x.sq : Int), .int .u64 (x.st : Int), .int .i64 x.cd, .slice x.co x.cn x.cc] 61 (0, 0)) := by rw [← hW1]; exact alloc_atN _ _
      have BW : Hid (Below w.heap.size w W1) := by rw [← hW1]; exact HB.out.alloc HB.out.size _
      have Q1 := hide q1
      have d0 := block_cell q1 0
      have d1 := block_cell q1 1
      have d2 := block_cell q1 2
      have d3 := block_cell q1 3
      have d4 := block_cell q1 4
      simp at d0 d1 d2 d3 d4
      have hwW : wr.heap.size < W1.heap.size := block_lt q1
      clear q1 HB
      by_cases hlt2 : a < x.cl
      · have hle : ¬ ((x.cl : Int) ≤ (a : Int)) := by omega
        have HDR : Hid (rises Sn.cl x.cl (L.drop (k + 1)) = rises Sn.cl 0 L) := by
          show _ = _
          rw [HDR.out, decide_eq_true hlt2, Bool.true_and]
        go_wp2_with fail
        refine (HNM.out _).mono ?_
        rintro e w2 ⟨rfl, G2⟩
        have q2 := (G2.out.block _ hwW).trans Q1.out
        have B2 := hide (below_trans1 BW.out G2.out)
        clear d0 d1 d2 d3 d4 hW1
        have d0 := block_cell q2 0
        have d1 := block_cell q2 1
        have d2 := block_cell q2 2
        have d3 := block_cell q2 3
        have d4 := block_cell q2 4
        simp at d0 d1 d2 d3 d4
        clear q2
        go_wp2_with fail
        refine (HNM.out _).mono ?_
        rintro e w3 ⟨rfl, G3⟩
        have B3 := hide (below_trans1 B2.out G3.out)
        clear d0 d1 d2 d3 d4
        go_wp2
        go_roundw
        case rel => exact ⟨k + 1, by omega, by go_num, x.cl, rfl, B3.out, HDR.out⟩
        case measure => simp [intOf]; omega
      · have hle : (x.cl : Int) ≤ (a : Int) := by omega
        have HDR : Hid (rises Sn.cl 0 L = false) := by
          show _ = _
          rw [HDR.out, decide_eq_false hlt2, Bool.false_and]
        go_wp2_with fail
        refine (HNM.out _).mono ?_
        rintro e w2 ⟨rfl, G2⟩
        have B2 := hide (below_trans1 BW.out G2.out)
        clear d0 d1 d2 d3 d4 hW1
        go_wp2
        go_ret
        exact ⟨by rw [HDR.out]; rfl, B2.out⟩
    · obtain rfl : k = n := by omega
      have hr : rises Sn.cl 0 L = true := by
        rw [← HS.out.2, List.drop_of_length_le (by rw [HL.out]; omega)]
        rfl
      have HRR := hide hr
      clear hr
      have hd : decide (k ≤ most) = decide ((k : Int) ≤ (most : Int)) := decide_eq_decide.2 (by omega)
      go_wp2
      go_ret
      exact ⟨by rw [HRR.out, Bool.true_and, hd]; rfl, HS.out.1⟩
end Go.Proofs.YtiijbboigebhcaaGreatDoor
