import Derived.Test.YtlidehhcoepikaaGreatDoorNPt
import Derived.BigQuiet
namespace Go.Proofs.YtlidehhcoepikaaGreatDoor
open Go.RowKit Crc

set_option maxRecDepth 10000 in
set_option maxHeartbeats 1600000 in
theorem refBk_Ac (x y : Nat) {ao : Option Addr} {an ac : Nat} {ho : Option Addr} {hn hc : Nat} {jo : Option Addr} {jn jc : Nat} {base : Nat} {w : World} {L : List Ac} (h : Rw base w 63 4 Ac.cells (.slice ao an ac) L) (hb : an ≤ 1000) : Calls Tryz.prog 67 #[.agg #[.int .u64 (x : Int), .int .u64 (y : Int), .slice ao an ac, .slice ho hn hc, .slice jo jn jc], .int .i64 2] w fun e w' => e = .returned (.bool (okAc L)) ∧ Hid (Below w.heap.size w w') := by
  obtain ⟨W1, hW1⟩ : ∃ W1, w.alloc (.cells #[.int .u64 (x : Int), .int .u64 (y : Int), .slice ao an ac, .slice ho hn hc, .slice jo jn jc] 27) = W1 := ⟨_, rfl⟩
  have b1 : Below w.heap.size w W1 := by rw [← hW1]; exact (Below.refl _ w).alloc (Nat.le_refl _) _
  have q1 : W1.heap[w.heap.size]? = some (.cells #[.int .u64 (x : Int), .int .u64 (y : Int), .slice ao an ac, .slice ho hn hc, .slice jo jn jc] 27 (0, 0)) := by rw [← hW1]; exact alloc_atN _ _
  have y1 := block_cell q1 2
  simp at y1
  have hwW := block_lt q1
  have HR := hide (h.below b1)
  have HL := hide h.num
  have BB := hide b1
  have HW1 := hide hW1
  clear h b1 q1
  go_enter Tryz.func67, Tryz.ntmps67
  by_cases hlong : 64 < an
  · have hld : decide ((64 : Int) < (an : Int)) = true := decide_eq_true (by omega)
    have HF : Hid (okAc L = false) := by
      show _ = _
      unfold okAc
      rw [HL.out, decide_eq_false (by omega), Bool.and_false]
    go_wp2
    go_ret
    exact ⟨by rw [HF.out]; rfl, BB.out⟩
  · have hld : decide ((64 : Int) < (an : Int)) = false := decide_eq_false (by omega)
    have HF : Hid (okAc L = rises Ac.a 0 L) := by
      show _ = _
      unfold okAc
      rw [HL.out, decide_eq_true (by omega), Bool.and_true]
    go_wp2
    go_loopw [5, 6] (fun v i wr => ∃ k : Nat, k ≤ an ∧ i = .int .i64 k ∧ ∃ a : Nat, v = .int .u64 (a : Int) ∧ Hid (wr = W1 ∧ rises Ac.a a (L.drop k) = rises Ac.a 0 L)) (fun _ i _ => an - (intOf i).toNat)
    case atStart => exact ⟨0, by omega, rfl, 0, rfl, rfl, rfl⟩
    case round =>
      obtain ⟨k, hk, rfl, a, rfl, HS⟩ := hrel
      obtain rfl := HS.out.1
      by_cases hlt : k < an
      · obtain ⟨e, hx, hd⟩ : ∃ e, L[k]? = some e ∧ L.drop k = e :: L.drop (k + 1) := ⟨_, List.getElem?_eq_getElem (by rw [HL.out]; exact hlt), List.drop_eq_getElem_cons (by rw [HL.out]; exact hlt)⟩
        obtain ⟨g, hao, hgl, -, -, hcc⟩ := HR.out.at_ len_Ac hx
        have c0 := hcc 0 _ rfl
        simp only [Nat.add_zero] at c0
        rw [hao] at y1
        have HDR : Hid (rises Ac.a 0 L = (decide (a < e.a) && rises Ac.a e.a (L.drop (k + 1)))) := by
          show _ = _
          rw [← HS.out.2, hd, rises]
        clear hcc HS hd hx
        by_cases hlt2 : a < e.a
        · have hle : decide ((e.a : Int) ≤ (a : Int)) = false := decide_eq_false (by omega)
          have HDR : Hid (rises Ac.a e.a (L.drop (k + 1)) = rises Ac.a 0 L) := by
            show _ = _
            rw [HDR.out, decide_eq_true hlt2, Bool.true_and]
          go_wp2
          go_roundw
          case rel => exact ⟨k + 1, by omega, by go_num, e.a, rfl, by first | exact ⟨rfl, HDR.out⟩ | exact ⟨trivial, HDR.out⟩⟩
          case measure => simp [intOf]; omega
        · have hle : decide ((e.a : Int) ≤ (a : Int)) = true := decide_eq_true (by omega)
          have HDR : Hid (okAc L = false) := by
            show _ = _
            rw [HF.out, HDR.out, decide_eq_false hlt2, Bool.false_and]
          go_wp2
          go_ret
          exact ⟨by rw [HDR.out]; rfl, BB.out⟩
      · obtain rfl : an = k := by omega
        have HRR : Hid (okAc L = true) := by
          show _ = _
          rw [HF.out, ← HS.out.2, List.drop_of_length_le (by rw [HL.out]; omega)]
          rfl
        go_wp2
        go_ret
        exact ⟨by rw [HRR.out]; rfl, BB.out⟩
set_option maxRecDepth 10000 in
set_option maxHeartbeats 1600000 in
theorem refBk_Ho (x y : Nat) {ao : Option Addr} {an ac : Nat} {ho : Option Addr} {hn hc : Nat} {jo : Option Addr} {jn jc : Nat} {base : Nat} {w : World} {L : List Ho} (h : Rw base w 65 3 Ho.cells (.slice ho hn hc) L) (hb : hn ≤ 1000) : Calls Tryz.prog 67 #[.agg #[.int .u64 (x : Int), .int .u64 (y : Int), .slice ao an ac, .slice ho hn hc, .slice jo jn jc], .int .i64 3] w fun e w' => e = .returned (.bool (okHo L)) ∧ Hid (Below w.heap.size w w') := by
  obtain ⟨W1, hW1⟩ : ∃ W1, w.alloc (.cells #[.int .u64 (x : Int), .int .u64 (y : Int), .slice ao an ac, .slice ho hn hc, .slice jo jn jc] 27) = W1 := ⟨_, rfl⟩
  have b1 : Below w.heap.size w W1 := by rw [← hW1]; exact (Below.refl _ w).alloc (Nat.le_refl _) _
  have q1 : W1.heap[w.heap.size]? = some (.cells #[.int .u64 (x : Int), .int .u64 (y : Int), .slice ao an ac, .slice ho hn hc, .slice jo jn jc] 27 (0, 0)) := by rw [← hW1]; exact alloc_atN _ _
  have y1 := block_cell q1 3
  simp at y1
  have hwW := block_lt q1
  have HR := hide (h.below b1)
  have HL := hide h.num
  have BB := hide b1
  have HW1 := hide hW1
  clear h b1 q1
  go_enter Tryz.func67, Tryz.ntmps67
  by_cases hlong : 64 < hn
  · have hld : decide ((64 : Int) < (hn : Int)) = true := decide_eq_true (by omega)
    have HF : Hid (okHo L = false) := by
      show _ = _
      unfold okHo
      rw [HL.out, decide_eq_false (by omega), Bool.and_false]
    go_wp2
    go_ret
    exact ⟨by rw [HF.out]; rfl, BB.out⟩
  · have hld : decide ((64 : Int) < (hn : Int)) = false := decide_eq_false (by omega)
    have HF : Hid (okHo L = rises Ho.a 0 L) := by
      show _ = _
      unfold okHo
      rw [HL.out, decide_eq_true (by omega), Bool.and_true]
    go_wp2
    go_loopw [7, 8] (fun v i wr => ∃ k : Nat, k ≤ hn ∧ i = .int .i64 k ∧ ∃ a : Nat, v = .int .u64 (a : Int) ∧ Hid (wr = W1 ∧ rises Ho.a a (L.drop k) = rises Ho.a 0 L)) (fun _ i _ => hn - (intOf i).toNat)
    case atStart => exact ⟨0, by omega, rfl, 0, rfl, rfl, rfl⟩
    case round =>
      obtain ⟨k, hk, rfl, a, rfl, HS⟩ := hrel
      obtain rfl := HS.out.1
      by_cases hlt : k < hn
      · obtain ⟨e, hx, hd⟩ : ∃ e, L[k]? = some e ∧ L.drop k = e :: L.drop (k + 1) := ⟨_, List.getElem?_eq_getElem (by rw [HL.out]; exact hlt), List.drop_eq_getElem_cons (by rw [HL.out]; exact hlt)⟩
        obtain ⟨g, hao, hgl, -, -, hcc⟩ := HR.out.at_ len_Ho hx
        have c0 := hcc 0 _ rfl
        simp only [Nat.add_zero] at c0
        rw [hao] at y1
        have HDR : Hid (rises Ho.a 0 L = (decide (a < e.a) && rises Ho.a e.a (L.drop (k + 1)))) := by
          show _ = _
          rw [← HS.out.2, hd, rises]
        clear hcc HS hd hx
        by_cases hlt2 : a < e.a
        · have hle : decide ((e.a : Int) ≤ (a : Int)) = false := decide_eq_false (by omega)
          have HDR : Hid (rises Ho.a e.a (L.drop (k + 1)) = rises Ho.a 0 L) := by
            show _ = _
            rw [HDR.out, decide_eq_true hlt2, Bool.true_and]
          go_wp2
          go_roundw
          case rel => exact ⟨k + 1, by omega, by go_num, e.a, rfl, by first | exact ⟨rfl, HDR.out⟩ | exact ⟨trivial, HDR.out⟩⟩
          case measure => simp [intOf]; omega
        · have hle : decide ((e.a : Int) ≤ (a : Int)) = true := decide_eq_true (by omega)
          have HDR : Hid (okHo L = false) := by
            show _ = _
            rw [HF.out, HDR.out, decide_eq_false hlt2, Bool.false_and]
          go_wp2
          go_ret
          exact ⟨by rw [HDR.out]; rfl, BB.out⟩
      · obtain rfl : hn = k := by omega
        have HRR : Hid (okHo L = true) := by
          show _ = _
          rw [HF.out, ← HS.out.2, List.drop_of_length_le (by rw [HL.out]; omega)]
          rfl
        go_wp2
        go_ret
        exact ⟨by rw [HRR.out]; rfl, BB.out⟩
end Go.Proofs.YtlidehhcoepikaaGreatDoor
