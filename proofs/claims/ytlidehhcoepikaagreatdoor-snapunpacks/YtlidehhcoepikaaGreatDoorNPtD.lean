import Derived.Test.YtlidehhcoepikaaGreatDoorNSndD
import Derived.Test.YtlidehhcoepikaaGreatDoorNSndS
import Derived.Test.YtlidehhcoepikaaGreatDoorNSndH
namespace Go.Proofs.YtlidehhcoepikaaGreatDoor
open Go.RowKit Crc

def okD1 (x : De) : Bool := decide (1 ≤ x.ph) && decide (x.ph ≤ 8) && decide (x.t.size ≤ 512)
def okDe (L : List De) : Bool := L.all okD1 && (rises De.a 0 L && decide (L.length ≤ 32))
def okS1 (x : Sn) : Bool := decide (0 ≤ x.cd) && decide (x.cd ≤ 1023) && decide (x.cn ≤ 256)
def okSn (L : List Sn) : Bool := L.all okS1 && (rises Sn.cl 0 L && decide (L.length ≤ 16))
theorem Rw.num' {α : Type} {base : Nat} {w : World} {e : TypeId} {z : Nat} {f : α → List Value} {ao : Option Addr} {n cap : Nat} {L : List α} (h : Rw base w e z f (.slice ao n cap) L) : L.length = n := by
  obtain ⟨_, _, e⟩ := h.form
  cases e
  rfl
theorem Rw.below {α : Type} {base : Nat} {w w' : World} {e : TypeId} {z : Nat} {f : α → List Value} {v : Value} {L : List α} (h : Rw base w e z f v L) (hb : Below w.heap.size w w') : Rw base w' e z f v L := h.quiet (below_none hb)
set_option maxRecDepth 10000 in
set_option maxHeartbeats 1600000 in
theorem sound_De {base : Nat} {w : World} {ao : Option Addr} {n cap : Nat} {L : List De} (hn : n ≤ 1000) (h : Rw base w 58 13 De.cells (.slice ao n cap) L) : Calls Tryz.prog 53 #[.slice ao n cap] w fun e w' => e = .returned (.bool (okDe L)) ∧ Hid (Below w.heap.size w w') := by
  have HR := hide h
  have HL := hide h.num'
  clear h
  go_enter Tryz.func53, Tryz.ntmps53
  go_wp2
  go_loopw [7] (fun i wr => ∃ k : Nat, k ≤ n ∧ i = .int .i64 k ∧ Hid (Below w.heap.size w wr ∧ (L.drop k).all okD1 = L.all okD1)) (fun i _ => n - (intOf i).toNat)
  case atStart => exact ⟨0, by omega, rfl, Below.refl _ _, rfl⟩
  case round =>
    obtain ⟨k, hk, rfl, HS⟩ := hrel
    by_cases hlt : k < n
    · obtain ⟨x, hx, hd⟩ : ∃ x, L[k]? = some x ∧ L.drop k = x :: L.drop (k + 1) := ⟨_, List.getElem?_eq_getElem (by rw [HL.out]; exact hlt), List.drop_eq_getElem_cons (by rw [HL.out]; exact hlt)⟩
      have HDR : Hid (L.all okD1 = (okD1 x && (L.drop (k + 1)).all okD1)) := by
        show _ = _
        rw [← HS.out.2, hd, List.all_cons]
      obtain ⟨g, rfl, hgl, -, -, hc⟩ := HR.out.at_ len_De hx
      have c0 := (HS.out.1.cell (p := ⟨g, k * 13 + 0, none⟩) hgl).trans (hc 0 _ rfl)
      have c1 := (HS.out.1.cell (p := ⟨g, k * 13 + 1, none⟩) hgl).trans (hc 1 _ rfl)
      have c2 := (HS.out.1.cell (p := ⟨g, k * 13 + 2, none⟩) hgl).trans (hc 2 _ rfl)
      have c3 := (HS.out.1.cell (p := ⟨g, k * 13 + 3, none⟩) hgl).trans (hc 3 _ rfl)
      have c4 := (HS.out.1.cell (p := ⟨g, k * 13 + 4, none⟩) hgl).trans (hc 4 _ rfl)
      have c5 := (HS.out.1.cell (p := ⟨g, k * 13 + 5, none⟩) hgl).trans (hc 5 _ rfl)
      have c6 := (HS.out.1.cell (p := ⟨g, k * 13 + 6, none⟩) hgl).trans (hc 6 _ rfl)
      have c7 := (HS.out.1.cell (p := ⟨g, k * 13 + 7, none⟩) hgl).trans (hc 7 _ rfl)
      have c8 := (HS.out.1.cell (p := ⟨g, k * 13 + 8, none⟩) hgl).trans (hc 8 _ rfl)
      have c9 := (HS.out.1.cell (p := ⟨g, k * 13 + 9, none⟩) hgl).trans (hc 9 _ rfl)
      have c10 := (HS.out.1.cell (p := ⟨g, k * 13 + 10, none⟩) hgl).trans (hc 10 _ rfl)
      have c11 := (HS.out.1.cell (p := ⟨g, k * 13 + 11, none⟩) hgl).trans (hc 11 _ rfl)
      have c12 := (HS.out.1.cell (p := ⟨g, k * 13 + 12, none⟩) hgl).trans (hc 12 _ rfl)
      simp only [Nat.add_zero] at c0
      have hgw : g < wr.heap.size := Nat.lt_of_lt_of_le hgl HS.out.1.size
      have HB := hide HS.out.1
      obtain ⟨W1, hW1⟩ : ∃ W1, wr.alloc (.cells #[.int .u64 (x.a : Int), .int .u64 (x.b : Int), .int .u64 (x.c : Int), .int .u64 (x.d : Int), .int .u64 (x.e : Int), .int .u64 (x.f : Int), .int .u64 (x.g : Int), .int .i64 x.ph, .int .u64 (x.p : Int), .int .u64 (x.q : Int), .int .u64 (x.r : Int), .int .u64 (x.z : Int), .string x.t] 58) = W1 := ⟨_, rfl⟩
      have q1 : W1.heap[wr.heap.size]? = some (.cells #[.int .u64 (x.a : Int), .int .u64 (x.b : Int), .int .u64 (x.c : Int), .int .u64 (x.d : Int), .int .u64 (x.e : Int), .int .u64 (x.f : Int), .int .u64 (x.g : Int), .int .i64 x.ph, .int .u64 (x.p : Int), .int .u64 (x.q : Int), .int .u64 (x.r : Int), .int .u64 (x.z : Int), .string x.t] 58 (0, 0)) := by rw [← hW1]; exact alloc_atN _ _
      have BW : Hid (Below w.heap.size w W1) := by rw [← hW1]; exact HB.out.alloc HB.out.size _
      have d1 := block_cell q1 7
      have d2 := block_cell q1 12
      simp at d1 d2
      clear hc HS hd hx q1 HB
      by_cases h1 : x.ph < 1
      · have HF : Hid (okDe L = false) := by
          show _ = _
          unfold okDe
          rw [HDR.out]
          unfold okD1
          rw [decide_eq_false (p := 1 ≤ x.ph) (by omega)]
          simp
        have e1 : decide (x.ph < 1) = true := decide_eq_true h1
        go_wp2
        go_ret
        exact ⟨by rw [HF.out]; rfl, BW.out⟩
      · have e1 : decide (x.ph < 1) = false := decide_eq_false h1
        by_cases h2 : 8 < x.ph
        · have HF : Hid (okDe L = false) := by
            show _ = _
            unfold okDe
            rw [HDR.out]
            unfold okD1
            rw [decide_eq_false (p := x.ph ≤ 8) (by omega)]
            simp
          have e2 : decide (8 < x.ph) = true := decide_eq_true h2
          go_wp2
          go_ret
          exact ⟨by rw [HF.out]; rfl, BW.out⟩
        · have e2 : decide (8 < x.ph) = false := decide_eq_false h2
          by_cases h3 : 512 < x.t.size
          · have HF : Hid (okDe L = false) := by
              show _ = _
              unfold okDe
              rw [HDR.out]
              unfold okD1
              rw [decide_eq_false (p := x.t.size ≤ 512) (by omega)]
              simp
            have e3 : decide ((512 : Int) < (x.t.size : Int)) = true := decide_eq_true (by omega)
            go_wp2
            go_ret
            exact ⟨by rw [HF.out]; rfl, BW.out⟩
          · have HF : Hid ((L.drop (k + 1)).all okD1 = L.all okD1) := by
              show _ = _
              rw [HDR.out]
              unfold okD1
              rw [decide_eq_true (p := 1 ≤ x.ph) (by omega), decide_eq_true (p := x.ph ≤ 8) (by omega), decide_eq_true (p := x.t.size ≤ 512) (by omega)]
              simp
            have e3 : decide ((512 : Int) < (x.t.size : Int)) = false := decide_eq_false (by omega)
            clear HDR
            go_wp2
            go_roundw
            case rel => exact ⟨k + 1, by omega, by go_num, BW.out, HF.out⟩
            case measure => simp [intOf]; omega
    · obtain rfl : k = n := by omega
      have HF : Hid (okDe L = (rises De.a 0 L && decide (k ≤ 32))) := by
        show _ = _
        unfold okDe
        rw [← HS.out.2, List.drop_of_length_le (by rw [HL.out]; omega), HL.out]
        rfl
      have HRI := hide (rising_De 32 HL.out hn (HR.out.below HS.out.1))
      have HB := hide HS.out.1
      go_wp2_with fail
      refine HRI.out.mono ?_
      rintro e w1 ⟨rfl, G⟩
      go_wp2
      go_ret
      exact ⟨by rw [HF.out]; rfl, below_trans1 HB.out G.out⟩
end Go.Proofs.YtlidehhcoepikaaGreatDoor
