import Derived.Test.YtiijbboigebhcaaGreatDoorM14
namespace Go.Proofs.YtiijbboigebhcaaGreatDoor
open Go.RowKit Crc

set_option maxRecDepth 10000 in
set_option maxHeartbeats 400000 in
theorem number_De (x : De) (w : World) : Calls Tryz.prog 93 #[.agg #[.int .u64 (x.a : Int), .int .u64 (x.b : Int), .int .u64 (x.c : Int), .int .u64 (x.d : Int), .int .u64 (x.e : Int), .int .u64 (x.f : Int), .int .u64 (x.g : Int), .int .i64 x.ph, .int .u64 (x.p : Int), .int .u64 (x.q : Int), .int .u64 (x.r : Int), .int .u64 (x.z : Int), .string x.t]] w fun e w' => e = .returned (.int .u64 (x.a : Int)) ∧ Hid (Below w.heap.size w w') := by
  have b1 : Hid (∀ o, Below w.heap.size w (w.alloc o)) := fun o => (Below.refl _ w).alloc (Nat.le_refl _) o
  go_enter Tryz.func93, Tryz.ntmps93
  go_wp2
  go_ret
  exact ⟨rfl, b1.out _⟩
theorem len_De (x : De) : x.cells.length = 13 := rfl
set_option maxRecDepth 10000 in
set_option maxHeartbeats 1600000 in
theorem rising_De {base : Nat} {w : World} {ao : Option Addr} {n cap : Nat} {L : List De} (most : Nat) (hl : L.length = n) (hn : n ≤ 1000) (h : Rw base w 58 13 De.cells (.slice ao n cap) L) : Calls Tryz.prog 92 #[.slice ao n cap, .int .i64 most, .func (.func 93) #[] #[]] w fun e w' => e = .returned (.bool (rises De.a 0 L && decide (n ≤ most))) ∧ Hid (Below w.heap.size w w') := by
  have HR := hide h
  have HL := hide hl
  clear h hl
  go_enter Tryz.func92, Tryz.ntmps92
  go_wp2
  go_loopw [7, 12] (fun v i wr => ∃ k : Nat, k ≤ n ∧ i = .int .i64 k ∧ ∃ a : Nat, v = .int .u64 (a : Int) ∧ Hid (Below w.heap.size w wr ∧ rises De.a a (L.drop k) = rises De.a 0 L)) (fun _ i _ => n - (intOf i).toNat)
  case atStart => exact ⟨0, by omega, rfl, 0, rfl, Below.refl _ _, rfl⟩
  case round =>
    obtain ⟨k, hk, rfl, a, rfl, HS⟩ := hrel
    by_cases hlt : k < n
    · obtain ⟨x, hx, hd⟩ : ∃ x, L[k]? = some x ∧ L.drop k = x :: L.drop (k + 1) := ⟨_, List.getElem?_eq_getElem (by rw [HL.out]; exact hlt), List.drop_eq_getElem_cons (by rw [HL.out]; exact hlt)⟩
      obtain ⟨g, rfl, hgl, -, -, hc⟩ := HR.out.at_ len_De hx
      have c0 := (HS.out.1.cell (p := ⟨g, k * 13 + 0, none⟩) hgl).trans (hc 0 _ rfl)
      have c1 := (HS.out.1.cell (p := ⟨g, k * 13 + 1, none⟩) hgl).trans (hc 1 _ rfl)
      have c2 := (HS.out.1.cell (p := ⟨g, k * 13 + 2, none⟩) hgl).trans (hc 2 _ rfl)
      have c3 := (HS.out.1.cell (p := ⟨g, k * 13 + 3, none⟩) hgl).trans (hc 3 _ rfl)
      have c4 := (HS.out.1.cell (p := ⟨g, k * 13 + 4, none⟩) hgl).trans (hc 4 _ rfl)
      have c5 := (HS.out.1.cell (p := ⟨g, k * 13 + 5, none⟩) hgl).trans (hc 5 _ rfl)
      have c6 := (HS.out.1.cell (p := ⟨g, k * 13 + 6, none⟩) hgl).trans (hc 6 _ rfl)
      have c7 := (HS.out.1.cell (p := ⟨g, k * 13 + 7, none⟩) hgl).trans (hc 7 _ rfl)
      have c8 := (HS.out.1.cell (p := ⟨g, k * 13 + 8, none⟩) hgl).trans (hc 8 _ rfl)
      have c9 := (HS.out.1.cell (p := ⟨g, k * 13 + 9, none⟩) hgl).trans (hc 9 _ rfl)
      have c10 := (HS.out.1.cell (p := ⟨g, k * 13 + 10, none⟩) hgl).trans (hc 10 _ rfl)
      have c11 := (HS.out.1.cell (p := ⟨g, k * 13 + 11, none⟩) hgl).trans (hc 11 _ rfl)
      have c12 := (HS.out.1.cell (p := ⟨g, k * 13 + 12, none⟩) hgl).trans (hc 12 _ rfl)
      simp only [Nat.add_zero] at c0
      have hgw : g < wr.heap.size := Nat.lt_of_lt_of_le hgl HS.out.1.size
      have HDR : Hid (rises De.a 0 L = (decide (a < x.a) && rises De.a x.a (L.drop (k + 1)))) := by
        show _ = _
        rw [← HS.out.2, hd, rises]
      have HB := hide HS.out.1
      have HNM : Hid (∀ W, Calls Tryz.prog 93 #[.agg #[.int .u64 (x.a : Int), .int .u64 (x.b : Int), .int .u64 (x.c : Int), .int .u64 (x.d : Int), .int .u64 (x.e : Int), .int .u64 (x.f : Int), .int .u64 (x.g : Int), .int .i64 x.ph, .int .u64 (x.p : Int), .int .u64 (x.q : Int), .int .u64 (x.r : Int), .int .u64 (x.z : Int), .string x.t]] W fun e w' => e = .returned (.int .u64 (x.a : Int)) ∧ Hid (Below W.heap.size W w')) := number_De x
      clear hc HS hd hx
      obtain ⟨W1, hW1⟩ : ∃ W1, wr.alloc (.cells #[.int .u64 (x.a : Int), .int .u64 (x.b : Int), .int .u64 (x.c : Int), .int .u64 (x.d : Int), .int .u64 (x.e : Int), .int .u64 (x.f : Int), .int .u64 (x.g : Int), .int .i64 x.ph, .int .u64 (x.p : Int), .int .u64 (x.q : Int), .int .u64 (x.r : Int), .int .u64 (x.z : Int), .string x.t] 58) = W1 := ⟨_, rfl⟩
      have q1 : W1.heap[wr.heap.size]? = some (.cells #[.int .u64 (x.a : Int), .int .u64 (x.b : Int), .int .u64 (x.c : Int), .int .u64 (x.d : Int), .int .u64 (x.e : Int), .int .u64 (x.f : Int), .int .u64 (x.g : Int), .int .i64 x.ph, .int .u64 (x.p : Int), .int .u64 (x.q : Int), .int .u64 (x.r : Int), .int .u64 (x.z : Int), .string x.t] 58 (0, 0)) := by rw [← hW1]; exact alloc_atN _ _
      have BW : Hid (Below w.heap.size w W1) := by rw [← hW1]; exact HB.out.alloc HB.out.size _
      have Q1 := hide q1
      have d0 := block_cell q1 0
      have d1 := block_cell q1 1
      have d2 := block_cell q1 2
      have d3 := block_cell q1 3
      have d4 := block_cell q1 4
      have d5 := block_cell q1 5
      have d6 := block_cell q1 6
      have d7 := block_cell q1 7
      have d8 := block_cell q1 8
      have d9 := block_cell q1 9
      have d10 := block_cell q1 10
      have d11 := block_cell q1 11
      have d12 := block_cell q1 12
      simp at d0 d1 d2 d3 d4 d5 d6 d7 d8 d9 d10 d11 d12
      have hwW : wr.heap.size < W1.heap.size := block_lt q1
      clear q1 HB
      by_cases hlt2 : a < x.a
      · have hle : ¬ ((x.a : Int) ≤ (a : Int)) := by omega
        have HDR : Hid (rises De.a x.a (L.drop (k + 1)) = rises De.a 0 L) := by
          show _ = _
          rw [HDR.out, decide_eq_true hlt2, Bool.true_and]
        go_wp2_with fail
        refine (HNM.out _).mono ?_
        rintro e w2 ⟨rfl, G2⟩
        have q2 := (G2.out.block _ hwW).trans Q1.out
        have B2 := hide (below_trans1 BW.out G2.out)
        clear d0 d1 d2 d3 d4 d5 d6 d7 d8 d9 d10 d11 d12 hW1
        have d0 := block_cell q2 0
        have d1 := block_cell q2 1
        have d2 := block_cell q2 2
        have d3 := block_cell q2 3
        have d4 := block_cell q2 4
        have d5 := block_cell q2 5
        have d6 := block_cell q2 6
        have d7 := block_cell q2 7
        have d8 := block_cell q2 8
        have d9 := block_cell q2 9
        have d10 := block_cell q2 10
        have d11 := block_cell q2 11
        have d12 := block_cell q2 12
        simp at d0 d1 d2 d3 d4 d5 d6 d7 d8 d9 d10 d11 d12
        clear q2
        go_wp2_with fail
        refine (HNM.out _).mono ?_
        rintro e w3 ⟨rfl, G3⟩
        have B3 := hide (below_trans1 B2.out G3.out)
        clear d0 d1 d2 d3 d4 d5 d6 d7 d8 d9 d10 d11 d12
        go_wp2
        go_roundw
        case rel => exact ⟨k + 1, by omega, by go_num, x.a, rfl, B3.out, HDR.out⟩
        case measure => simp [intOf]; omega
      · have hle : (x.a : Int) ≤ (a : Int) := by omega
        have HDR : Hid (rises De.a 0 L = false) := by
          show _ = _
          rw [HDR.out, decide_eq_false hlt2, Bool.false_and]
        go_wp2_with fail
        refine (HNM.out _).mono ?_
        rintro e w2 ⟨rfl, G2⟩
        have B2 := hide (below_trans1 BW.out G2.out)
        clear d0 d1 d2 d3 d4 d5 d6 d7 d8 d9 d10 d11 d12 hW1
        go_wp2
        go_ret
        exact ⟨by rw [HDR.out]; rfl, B2.out⟩
    · obtain rfl : k = n := by omega
      have hr : rises De.a 0 L = true := by
        rw [← HS.out.2, List.drop_of_length_le (by rw [HL.out]; omega)]
        rfl
      have HRR := hide hr
      clear hr
      have hd : decide (k ≤ most) = decide ((k : Int) ≤ (most : Int)) := decide_eq_decide.2 (by omega)
      go_wp2
      go_ret
      exact ⟨by rw [HRR.out, Bool.true_and, hd]; rfl, HS.out.1⟩
end Go.Proofs.YtiijbboigebhcaaGreatDoor
