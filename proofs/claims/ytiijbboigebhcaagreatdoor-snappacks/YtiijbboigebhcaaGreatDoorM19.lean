import Derived.Test.YtiijbboigebhcaaGreatDoorNSndD
import Derived.Test.YtiijbboigebhcaaGreatDoorNSndS
import Derived.Test.YtiijbboigebhcaaGreatDoorNSndH
import Derived.Test.YtiijbboigebhcaaGreatDoorNRd
namespace Go.Proofs.YtiijbboigebhcaaGreatDoor
open Go.RowKit Crc

def okD1 (x : De) : Bool := decide (1 ≤ x.ph) && decide (x.ph ≤ 8) && decide (x.t.size ≤ 512)
def okDe (L : List De) : Bool := L.all okD1 && (rises De.a 0 L && decide (L.length ≤ 32))
def okS1 (x : Sn) : Bool := decide (0 ≤ x.cd) && decide (x.cd ≤ 1023) && decide (x.cn ≤ 256)
def okSn (L : List Sn) : Bool := L.all okS1 && (rises Sn.cl 0 L && decide (L.length ≤ 16))
theorem Rw.num' {α : Type} {base : Nat} {w : World} {e : TypeId} {z : Nat} {f : α → List Value} {ao : Option Addr} {n cap : Nat} {L : List α} (h : Rw base w e z f (.slice ao n cap) L) : L.length = n := by
  obtain ⟨_, _, e⟩ := h.form
  cases e
  rfl
theorem Rw.below {α : Type} {base : Nat} {w w' : World} {e : TypeId} {z : Nat} {f : α → List Value} {v : Value} {L : List α} (h : Rw base w e z f v L) (hb : Below w.heap.size w w') : Rw base w' e z f v L := h.quiet (below_none hb)
set_option maxRecDepth 10000 in
set_option maxHeartbeats 1600000 in
theorem sound_De {base : Nat} {w : World} {ao : Option Addr} {n cap : Nat} {L : List De} (hn : n ≤ 1000) (h : Rw base w 58 13 De.cells (.slice ao n cap) L) : Calls Tryz.prog 53 #[.slice ao n cap] w fun e w' => e = .returned (.bool (okDe L)) ∧ Hid (Below w.heap.size w w') := by
  have HR := hide h
  have HL := hide h.num'
  clear h
  go_enter Tryz.func53, Tryz.ntmps53
  go_wp2
  go_loopw [7] (fun i wr => ∃ k : Nat, k ≤ n ∧ i = .int .i64 k ∧ Hid (Below w.heap.size w wr ∧ (L.drop k).all okD1 = L.all okD1)) (fun i _ => n - (intOf i).toNat)
  case atStart => exact ⟨0, by omega, rfl, Below.refl _ _, rfl⟩
  case round =>
    obtain ⟨k, hk, rfl, HS⟩ := hrel
    by_cases hlt : k < n
    · obtain ⟨x, hx, hd⟩ : ∃ x, L[k]? = some x ∧ L.drop k = x :: L.drop (k + 1) := ⟨_, List.getElem?_eq_getElem (by rw [HL.out]; exact hlt), List.drop_eq_getElem_cons (by rw [HL.out]; exact hlt)⟩
      have HDR : Hid (L.all okD1 = (okD1 x && (L.drop (k + 1)).all okD1)) := by
        show _ = _
        rw [← HS.out.2, hd, List.all_cons]
      obtain ⟨g, rfl, hgl, -, -, hc⟩ := HR.out.at_ len_De hx
      have c0 := (HS.out.1.cell (p := ⟨g, k * 13 + 0, none⟩) hgl).trans (hc 0 _ rfl)
      have c1 := (HS.out.1.cell (p := ⟨g, k * 13 + 1, none⟩) hgl).trans (hc 1 _ rfl)
      have c2 := (HS.out.1.cell (p := ⟨g, k * 13 + 2, none⟩) hgl).trans (hc 2 _ rfl)
      have c3 := (HS.out.1.cell (p := ⟨g, k * 13 + 3, none⟩) hgl).trans (hc 3 _ rfl)
      have c4 := (HS.out.1.cell (p := ⟨g, k * 13 + 4, none⟩) hgl).trans (hc 4 _ rfl)
      have c5 := (HS.out.1.cell (p := ⟨g, k * 13 + 5, none⟩) hgl).trans (hc 5 _ rfl)
      have c6 := (HS.out.1.cell (p := ⟨g, k * 13 + 6, none⟩) hgl).trans (hc 6 _ rfl)
      have c7 := (HS.out.1.cell (p := ⟨g, k * 13 + 7, none⟩) hgl).trans (hc 7 _ rfl)
      have c8 := (HS.out.1.cell (p := ⟨g, k * 13 + 8, none⟩) hgl).trans (hc 8 _ rfl)
      have c9 := (HS.out.1.cell (p := ⟨g, k * 13 + 9, none⟩) hgl).trans (hc 9 _ rfl)
      have c10 := (HS.out.1.cell (p := ⟨g, k * 13 + 10, none⟩) hgl).trans (hc 10 _ rfl)
      have c11 := (HS.out.1.cell (p := ⟨g, k * 13 + 11, none⟩) hgl).trans (hc 11 _ rfl)
      have c12 := (HS.out.1.cell (p := ⟨g, k * 13 + 12, none⟩) hgl).trans (hc 12 _ rfl)
      simp only [Nat.add_zero] at c0
      have hgw : g < wr.heap.size := Nat.lt_of_lt_of_le hgl HS.out.1.size
      have HB := hide HS.out.1
      obtain ⟨W1, hW1⟩ : ∃ W1, wr.alloc (.cells #[.int .u64 (x.a : Int), .int .u64 (x.b : Int), .int .u64 (x.c : Int), .int .u64 (x.d : Int), .int .u64 (x.e : Int), .int .u64 (x.f : Int), .int .u64 (x.g : Int), .int .i64 x.ph, .int .u64 (x.p : Int), .int .u64 (x.q : Int), .int .u64 (x.r : Int), .int .u64 (x.z : Int), .string x.t] 58) = W1 := ⟨_, rfl⟩
      have q1 : W1.heap[wr.heap.size]? = some (.cells #[.int .u64 (x.a : Int), .int .u64 (x.b : Int), .int .u64 (x.c : Int), .int .u64 (x.d : Int), .int .u64 (x.e : Int), .int .u64 (x.f : Int), .int .u64 (x.g : Int), .int .i64 x.ph, .int .u64 (x.p : Int), .int .u64 (x.q : Int), .int .u64 (x.r : Int), .int .u64 (x.z : Int), .string x.t] 58 (0, 0)) := by rw [← hW1]; exact alloc_atN _ _
      have BW : Hid (Below w.heap.size w W1) := by rw [← hW1]; exact HB.out.alloc HB.out.size _
      have d1 := block_cell q1 7
      have d2 := block_cell q1 12
      simp at d1 d2
      clear hc HS hd hx q1 HB
      by_cases h1 : x.ph < 1
      · have HF : Hid (okDe L = false) := by
          show _ = _
          unfold okDe
          rw [HDR.out]
          unfold okD1
          rw [decide_eq_false (p := 1 ≤ x.ph) (by omega)]
          simp
        have e1 : decide (x.ph < 1) = true := decide_eq_true h1
        go_wp2
        go_ret
        exact ⟨by rw [HF.out]; rfl, BW.out⟩
      · have e1 : decide (x.ph < 1) = false := decide_eq_false h1
        by_cases h2 : 8 < x.ph
        · have HF : Hid (okDe L = false) := by
            show _ = _
            unfold okDe
            rw [HDR.out]
            unfold okD1
            rw [decide_eq_false (p := x.ph ≤ 8) (by omega)]
            simp
          have e2 : decide (8 < x.ph) = true := decide_eq_true h2
          go_wp2
          go_ret
          exact ⟨by rw [HF.out]; rfl, BW.out⟩
        · have e2 : decide (8 < x.ph) = false := decide_eq_false h2
          by_cases h3 : 512 < x.t.size
          · have HF : Hid (okDe L = false) := by
              show _ = _
              unfold okDe
              rw [HDR.out]
              unfold okD1
              rw [decide_eq_false (p := x.t.size ≤ 512) (by omega)]
              simp
            have e3 : decide ((512 : Int) < (x.t.size : Int)) = true := decide_eq_true (by omega)
            go_wp2
            go_ret
            exact ⟨by rw [HF.out]; rfl, BW.out⟩
          · have HF : Hid ((L.drop (k + 1)).all okD1 = L.all okD1) := by
              show _ = _
              rw [HDR.out]
              unfold okD1
              rw [decide_eq_true (p := 1 ≤ x.ph) (by omega), decide_eq_true (p := x.ph ≤ 8) (by omega), decide_eq_true (p := x.t.size ≤ 512) (by omega)]
              simp
            have e3 : decide ((512 : Int) < (x.t.size : Int)) = false := decide_eq_false (by omega)
            clear HDR
            go_wp2
            go_roundw
            case rel => exact ⟨k + 1, by omega, by go_num, BW.out, HF.out⟩
            case measure => simp [intOf]; omega
    · obtain rfl : k = n := by omega
      have HF : Hid (okDe L = (rises De.a 0 L && decide (k ≤ 32))) := by
        show _ = _
        unfold okDe
        rw [← HS.out.2, List.drop_of_length_le (by rw [HL.out]; omega), HL.out]
        rfl
      have HRI := hide (rising_De 32 HL.out hn (HR.out.below HS.out.1))
      have HB := hide HS.out.1
      go_wp2_with fail
      refine HRI.out.mono ?_
      rintro e w1 ⟨rfl, G⟩
      go_wp2
      go_ret
      exact ⟨by rw [HF.out]; rfl, below_trans1 HB.out G.out⟩
end Go.Proofs.YtiijbboigebhcaaGreatDoor
namespace Go.Proofs.YtiijbboigebhcaaGreatDoor
open Go.RowKit Crc

set_option maxRecDepth 10000 in
set_option maxHeartbeats 1600000 in
theorem sound_Sn {base : Nat} {w : World} {ao : Option Addr} {n cap : Nat} {L : List Sn} (hn : n ≤ 1000) (h : Rw base w 61 5 Sn.cells (.slice ao n cap) L) : Calls Tryz.prog 54 #[.slice ao n cap] w fun e w' => e = .returned (.bool (okSn L)) ∧ Hid (Below w.heap.size w w') := by
  have HR := hide h
  have HL := hide h.num'
  clear h
  go_enter Tryz.func54, Tryz.ntmps54
  go_wp2
  go_loopw [7] (fun i wr => ∃ k : Nat, k ≤ n ∧ i = .int .i64 k ∧ Hid (Below w.heap.size w wr ∧ (L.drop k).all okS1 = L.all okS1)) (fun i _ => n - (intOf i).toNat)
  case atStart => exact ⟨0, by omega, rfl, Below.refl _ _, rfl⟩
  case round =>
    obtain ⟨k, hk, rfl, HS⟩ := hrel
    by_cases hlt : k < n
    · obtain ⟨x, hx, hd⟩ : ∃ x, L[k]? = some x ∧ L.drop k = x :: L.drop (k + 1) := ⟨_, List.getElem?_eq_getElem (by rw [HL.out]; exact hlt), List.drop_eq_getElem_cons (by rw [HL.out]; exact hlt)⟩
      have HDR : Hid (L.all okS1 = (okS1 x && (L.drop (k + 1)).all okS1)) := by
        show _ = _
        rw [← HS.out.2, hd, List.all_cons]
      obtain ⟨g, rfl, hgl, -, -, hc⟩ := HR.out.at_ len_Sn hx
      have c0 := (HS.out.1.cell (p := ⟨g, k * 5 + 0, none⟩) hgl).trans (hc 0 _ rfl)
      have c1 := (HS.out.1.cell (p := ⟨g, k * 5 + 1, none⟩) hgl).trans (hc 1 _ rfl)
      have c2 := (HS.out.1.cell (p := ⟨g, k * 5 + 2, none⟩) hgl).trans (hc 2 _ rfl)
      have c3 := (HS.out.1.cell (p := ⟨g, k * 5 + 3, none⟩) hgl).trans (hc 3 _ rfl)
      have c4 := (HS.out.1.cell (p := ⟨g, k * 5 + 4, none⟩) hgl).trans (hc 4 _ rfl)
      simp only [Nat.add_zero] at c0
      have hgw : g < wr.heap.size := Nat.lt_of_lt_of_le hgl HS.out.1.size
      have HB := hide HS.out.1
      obtain ⟨W1, hW1⟩ : ∃ W1, wr.alloc (.cells #[.int .u64 (x.cl : Int), .int .u64 (x.sq : Int), .int .u64 (x.st : Int), .int .i64 x.cd, .slice x.co x.cn x.cc] 61) = W1 := ⟨_, rfl⟩
      have q1 : W1.heap[wr.heap.size]? = some (.cells #[.int .u64 (x.cl : Int), .int .u64 (x.sq : Int), .int .u64 (x.st : Int), .int .i64 x.cd, .slice x.co x.cn x.cc] 61 (0, 0)) := by rw [← hW1]; exact alloc_atN _ _
      have BW : Hid (Below w.heap.size w W1) := by rw [← hW1]; exact HB.out.alloc HB.out.size _
      have d1 := block_cell q1 3
      have d2 := block_cell q1 4
      simp at d1 d2
      clear hc HS hd hx q1 HB
      by_cases h1 : x.cd < 0
      · have HF : Hid (okSn L = false) := by
          show _ = _
          unfold okSn
          rw [HDR.out]
          unfold okS1
          rw [decide_eq_false (p := 0 ≤ x.cd) (by omega)]
          simp
        have e1 : decide (x.cd < 0) = true := decide_eq_true h1
        go_wp2
        go_ret
        exact ⟨by rw [HF.out]; rfl, BW.out⟩
      · have e1 : decide (x.cd < 0) = false := decide_eq_false h1
        by_cases h2 : 1023 < x.cd
        · have HF : Hid (okSn L = false) := by
            show _ = _
            unfold okSn
            rw [HDR.out]
            unfold okS1
            rw [decide_eq_false (p := x.cd ≤ 1023) (by omega)]
            simp
          have e2 : decide (1023 < x.cd) = true := decide_eq_true h2
          go_wp2
          go_ret
          exact ⟨by rw [HF.out]; rfl, BW.out⟩
        · have e2 : decide (1023 < x.cd) = false := decide_eq_false h2
          by_cases h3 : 256 < x.cn
          · have HF : Hid (okSn L = false) := by
              show _ = _
              unfold okSn
              rw [HDR.out]
              unfold okS1
              rw [decide_eq_false (p := x.cn ≤ 256) (by omega)]
              simp
            have e3 : decide ((256 : Int) < (x.cn : Int)) = true := decide_eq_true (by omega)
            go_wp2
            go_ret
            exact ⟨by rw [HF.out]; rfl, BW.out⟩
          · have HF : Hid ((L.drop (k + 1)).all okS1 = L.all okS1) := by
              show _ = _
              rw [HDR.out]
              unfold okS1
              rw [decide_eq_true (p := 0 ≤ x.cd) (by omega), decide_eq_true (p := x.cd ≤ 1023) (by omega), decide_eq_true (p := x.cn ≤ 256) (by omega)]
              simp
            have e3 : decide ((256 : Int) < (x.cn : Int)) = false := decide_eq_false (by omega)
            clear HDR
            go_wp2
            go_roundw
            case rel => exact ⟨k + 1, by omega, by go_num, BW.out, HF.out⟩
            case measure => simp [intOf]; omega
    · obtain rfl : k = n := by omega
      have HF : Hid (okSn L = (rises Sn.cl 0 L && decide (k ≤ 16))) := by
        show _ = _
        unfold okSn
        rw [← HS.out.2, List.drop_of_length_le (by rw [HL.out]; omega), HL.out]
        rfl
      have HRI := hide (rising_Sn 16 HL.out hn (HR.out.below HS.out.1))
      have HB := hide HS.out.1
      go_wp2_with fail
      refine HRI.out.mono ?_
      rintro e w1 ⟨rfl, G⟩
      go_wp2
      go_ret
      exact ⟨by rw [HF.out]; rfl, below_trans1 HB.out G.out⟩
end Go.Proofs.YtiijbboigebhcaaGreatDoor
namespace Go.Proofs.YtiijbboigebhcaaGreatDoor
open Go.RowKit Crc

/-- The place of the first false, or -1. -/
def fstF : List Bool → Int
  | [] => -1
  | true :: r => if fstF r < 0 then -1 else fstF r + 1
  | false :: _ => 0
set_option maxRecDepth 10000 in
set_option maxHeartbeats 1600000 in
theorem index_any (b0 b1 b2 b3 b4 b5 b6 : Bool) (g : Nat) (w : World) (h : w.heap[g]? = some (.cells #[.bool b0, .bool b1, .bool b2, .bool b3, .bool b4, .bool b5, .bool b6] 4 (0, 0))) : Calls Tryz.prog 55 #[.slice (some ⟨g, 0, none⟩) 7 7, .bool false] w fun e w' => e = .returned (.int .i64 (fstF [b0, b1, b2, b3, b4, b5, b6])) ∧ Hid (Below w.heap.size w w') := by
  have HB : Hid (∀ k b, [b0, b1, b2, b3, b4, b5, b6][k]? = some b → w.cell? ⟨g, k, none⟩ = some (.bool b)) := fun k b hb => by
    rw [block_cell h]
    rcases (show k = 0 ∨ k = 1 ∨ k = 2 ∨ k = 3 ∨ k = 4 ∨ k = 5 ∨ k = 6 ∨ 7 ≤ k by omega) with rfl | rfl | rfl | rfl | rfl | rfl | rfl | hk
    · simpa using hb
    · simpa using hb
    · simpa using hb
    · simpa using hb
    · simpa using hb
    · simpa using hb
    · simpa using hb
    · rw [List.getElem?_eq_none (by simpa using hk)] at hb; cases hb
  have HLN : Hid ([b0, b1, b2, b3, b4, b5, b6].length = 7) := rfl
  generalize [b0, b1, b2, b3, b4, b5, b6] = L at *
  clear h
  go_enter Tryz.func55, Tryz.ntmps55
  go_wp2
  go_loopw [8] (fun i wr => ∃ k : Nat, k ≤ 7 ∧ i = .int .i64 k ∧ Hid (wr = w ∧ fstF L = if fstF (L.drop k) < 0 then -1 else fstF (L.drop k) + (k : Int))) (fun i _ => 7 - (intOf i).toNat)
  case atStart => exact ⟨0, by omega, rfl, rfl, by
    show _ = _
    have key : ∀ M : List Bool, fstF M < 0 → fstF M = -1 := fun M hM => by
      cases M with
      | nil => rfl
      | cons b r =>
        cases b with
        | false => exact absurd hM (by simp [fstF])
        | true =>
          unfold fstF at hM ⊢
          split at hM
          · rw [if_pos (by assumption)]
          · rename_i h; omega
    by_cases h : fstF L < 0
    · rw [List.drop_zero, if_pos h]; exact key L h
    · rw [List.drop_zero, if_neg h]; simp⟩
  case round =>
    obtain ⟨k, hk, rfl, HS⟩ := hrel
    obtain rfl := HS.out.1
    by_cases hlt : k < 7
    · obtain ⟨b, hb, hd⟩ : ∃ b, L[k]? = some b ∧ L.drop k = b :: L.drop (k + 1) := ⟨_, List.getElem?_eq_getElem (by rw [HLN.out]; exact hlt), List.drop_eq_getElem_cons (by rw [HLN.out]; exact hlt)⟩
      have c0 := HB.out k b hb
      have HD : Hid (fstF L = if fstF (b :: L.drop (k + 1)) < 0 then -1 else fstF (b :: L.drop (k + 1)) + (k : Int)) := by
        show _ = _
        rw [← hd]
        exact HS.out.2
      clear hb hd HS
      cases b with
      | false =>
        have HF : Hid (fstF L = (k : Int)) := by
          show _ = _
          rw [HD.out, fstF]
          simp
        go_wp2
        go_ret
        exact ⟨by rw [HF.out]; rfl, Below.refl _ _⟩
      | true =>
        have HF : Hid (fstF L = if fstF (L.drop (k + 1)) < 0 then -1 else fstF (L.drop (k + 1)) + ((k + 1 : Nat) : Int)) := by
          show _ = _
          rw [HD.out, fstF]
          generalize fstF (L.drop (k + 1)) = y
          by_cases hy : y < 0
          · rw [if_pos hy, if_pos hy]; simp
          · rw [if_neg hy, if_neg hy, if_neg (by omega)]; omega
        clear HD
        go_wp2
        go_roundw
        case rel => exact ⟨k + 1, by omega, by go_num, by first | exact ⟨rfl, HF.out⟩ | exact ⟨trivial, HF.out⟩⟩
        case measure => simp [intOf]; omega
    · obtain rfl : k = 7 := by omega
      have HF : Hid (fstF L = -1) := by
        show _ = _
        rw [HS.out.2, List.drop_of_length_le (by rw [HLN.out]; omega)]
        rfl
      go_wp2
      go_ret
      exact ⟨by rw [HF.out]; rfl, Below.refl _ _⟩
end Go.Proofs.YtiijbboigebhcaaGreatDoor
