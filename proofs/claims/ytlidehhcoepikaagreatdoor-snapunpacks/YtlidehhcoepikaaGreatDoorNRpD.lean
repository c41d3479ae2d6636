import Derived.Test.YtlidehhcoepikaaGreatDoorNPt
import Derived.BigQuiet
namespace Go.Proofs.YtlidehhcoepikaaGreatDoor
open Go.RowKit Crc

set_option maxRecDepth 10000 in
set_option maxHeartbeats 3200000 in
theorem ref_De {base : Nat} {w : World} {ao : Option Addr} {n cap : Nat} {L : List De} (hn : n ≤ 1000) (h : Rw base w 58 13 De.cells (.slice ao n cap) L) : Calls Tryz.prog 68 #[.slice ao n cap] w fun e w' => e = .returned (.bool (okDe L)) ∧ Hid (Below w.heap.size w w') := by
  have HR := hide h
  have HL := hide h.num
  have BR := hide (Below.refl w.heap.size w)
  clear h
  go_enter Tryz.func68, Tryz.ntmps68
  by_cases hlong : 32 < n
  · have hld : decide ((32 : Int) < (n : Int)) = true := decide_eq_true (by omega)
    have HF : Hid (okDe L = false) := by
      show _ = _
      unfold okDe
      rw [HL.out, decide_eq_false (p := n ≤ 32) (by omega), Bool.and_false, Bool.and_false]
    go_wp2
    go_ret
    exact ⟨by rw [HF.out]; rfl, BR.out⟩
  · have hld : decide ((32 : Int) < (n : Int)) = false := decide_eq_false (by omega)
    have HF : Hid (okDe L = (L.all okD1 && rises De.a 0 L)) := by
      show _ = _
      unfold okDe
      rw [HL.out, decide_eq_true (p := n ≤ 32) (by omega), Bool.and_true]
    go_wp2
    go_loopw [3, 4] (fun v i wr => ∃ k : Nat, k ≤ n ∧ i = .int .i64 k ∧ ∃ a : Nat, v = .int .u64 (a : Int) ∧ Hid (wr = w ∧ ((L.drop k).all okD1 && rises De.a a (L.drop k)) = (L.all okD1 && rises De.a 0 L))) (fun _ i _ => n - (intOf i).toNat)
    case atStart => exact ⟨0, by omega, rfl, 0, rfl, rfl, rfl⟩
    case round =>
      obtain ⟨k, hk, rfl, a, rfl, HS⟩ := hrel
      obtain rfl := HS.out.1
      by_cases hlt : k < n
      · obtain ⟨e, hx, hd⟩ : ∃ e, L[k]? = some e ∧ L.drop k = e :: L.drop (k + 1) := ⟨_, List.getElem?_eq_getElem (by rw [HL.out]; exact hlt), List.drop_eq_getElem_cons (by rw [HL.out]; exact hlt)⟩
        obtain ⟨g, rfl, hgl, -, -, hcc⟩ := HR.out.at_ len_De hx
        have c0 := hcc 0 _ rfl
        have c1 := hcc 7 _ rfl
        have c2 := hcc 12 _ rfl
        simp only [Nat.add_zero] at c0
        have HDR : Hid (okDe L = ((okD1 e && (L.drop (k + 1)).all okD1) && (decide (a < e.a) && rises De.a e.a (L.drop (k + 1))))) := by
          show _ = _
          rw [HF.out, ← HS.out.2, hd, List.all_cons, rises]
        clear hcc HS hd hx
        by_cases h0 : e.a ≤ a
        · have d0 : decide ((e.a : Int) ≤ (a : Int)) = true := decide_eq_true (by omega)
          have HF2 : Hid (okDe L = false) := by
            show _ = _
            rw [HDR.out, decide_eq_false (p := a < e.a) (by omega)]
            simp
          go_wp2
          go_ret
          exact ⟨by rw [HF2.out]; rfl, BR.out⟩
        · have d0 : decide ((e.a : Int) ≤ (a : Int)) = false := decide_eq_false (by omega)
          by_cases h1 : e.ph < 1
          · have d1 : decide (e.ph < 1) = true := decide_eq_true (by omega)
            have HF2 : Hid (okDe L = false) := by
              show _ = _
              rw [HDR.out]
              unfold okD1
              rw [decide_eq_false (p := 1 ≤ e.ph) (by omega)]
              simp
            go_wp2
            go_ret
            exact ⟨by rw [HF2.out]; rfl, BR.out⟩
          · have d1 : decide (e.ph < 1) = false := decide_eq_false (by omega)
            by_cases h2 : 8 < e.ph
            · have d2 : decide (8 < e.ph) = true := decide_eq_true (by omega)
              have HF2 : Hid (okDe L = false) := by
                show _ = _
                rw [HDR.out]
                unfold okD1
                rw [decide_eq_false (p := e.ph ≤ 8) (by omega)]
                simp
              go_wp2
              go_ret
              exact ⟨by rw [HF2.out]; rfl, BR.out⟩
            · have d2 : decide (8 < e.ph) = false := decide_eq_false (by omega)
              by_cases h3 : 512 < e.t.size
              · have d3 : decide ((512 : Int) < (e.t.size : Int)) = true := decide_eq_true (by omega)
                have HF2 : Hid (okDe L = false) := by
                  show _ = _
                  rw [HDR.out]
                  unfold okD1
                  rw [decide_eq_false (p := e.t.size ≤ 512) (by omega)]
                  simp
                go_wp2
                go_ret
                exact ⟨by rw [HF2.out]; rfl, BR.out⟩
              · have d3 : decide ((512 : Int) < (e.t.size : Int)) = false := decide_eq_false (by omega)
                have HF2 : Hid (((L.drop (k + 1)).all okD1 && rises De.a e.a (L.drop (k + 1))) = (L.all okD1 && rises De.a 0 L)) := by
                  show _ = _
                  rw [← HF.out, HDR.out]
                  unfold okD1
                  rw [decide_eq_true (p := 1 ≤ e.ph) (by omega), decide_eq_true (p := e.ph ≤ 8) (by omega), decide_eq_true (p := e.t.size ≤ 512) (by omega), decide_eq_true (p := a < e.a) (by omega)]
                  simp
                clear HDR
                go_wp2
                go_roundw
                case rel => exact ⟨k + 1, by omega, by go_num, e.a, rfl, by first | exact ⟨rfl, HF2.out⟩ | exact ⟨trivial, HF2.out⟩⟩
                case measure => simp [intOf]; omega
      · obtain rfl : n = k := by omega
        have HRR : Hid (okDe L = true) := by
          show _ = _
          rw [HF.out, ← HS.out.2, List.drop_of_length_le (by rw [HL.out]; omega)]
          rfl
        go_wp2
        go_ret
        exact ⟨by rw [HRR.out]; rfl, BR.out⟩
end Go.Proofs.YtlidehhcoepikaaGreatDoor
