import Derived.Test.YtlidehhcoepikaaGreatDoorNPt
import Derived.BigQuiet
import Derived.Test.YtlidehhcoepikaaGreatDoorNRpB
import Derived.Test.YtlidehhcoepikaaGreatDoorNRpJ
import Derived.Test.YtlidehhcoepikaaGreatDoorNRpD
namespace Go.Proofs.YtlidehhcoepikaaGreatDoor
open Go.RowKit Crc

set_option maxRecDepth 10000 in
set_option maxHeartbeats 3200000 in
theorem ref_Sn {base : Nat} {w : World} {ao : Option Addr} {n cap : Nat} {L : List Sn} (hn : n ≤ 1000) (h : Rw base w 61 5 Sn.cells (.slice ao n cap) L) : Calls Tryz.prog 69 #[.slice ao n cap] w fun e w' => e = .returned (.bool (okSn L)) ∧ Hid (Below w.heap.size w w') := by
  have HR := hide h
  have HL := hide h.num
  have BR := hide (Below.refl w.heap.size w)
  clear h
  go_enter Tryz.func69, Tryz.ntmps69
  by_cases hlong : 16 < n
  · have hld : decide ((16 : Int) < (n : Int)) = true := decide_eq_true (by omega)
    have HF : Hid (okSn L = false) := by
      show _ = _
      unfold okSn
      rw [HL.out, decide_eq_false (p := n ≤ 16) (by omega), Bool.and_false, Bool.and_false]
    go_wp2
    go_ret
    exact ⟨by rw [HF.out]; rfl, BR.out⟩
  · have hld : decide ((16 : Int) < (n : Int)) = false := decide_eq_false (by omega)
    have HF : Hid (okSn L = (L.all okS1 && rises Sn.cl 0 L)) := by
      show _ = _
      unfold okSn
      rw [HL.out, decide_eq_true (p := n ≤ 16) (by omega), Bool.and_true]
    go_wp2
    go_loopw [3, 4] (fun v i wr => ∃ k : Nat, k ≤ n ∧ i = .int .i64 k ∧ ∃ a : Nat, v = .int .u64 (a : Int) ∧ Hid (wr = w ∧ ((L.drop k).all okS1 && rises Sn.cl a (L.drop k)) = (L.all okS1 && rises Sn.cl 0 L))) (fun _ i _ => n - (intOf i).toNat)
    case atStart => exact ⟨0, by omega, rfl, 0, rfl, rfl, rfl⟩
    case round =>
      obtain ⟨k, hk, rfl, a, rfl, HS⟩ := hrel
      obtain rfl := HS.out.1
      by_cases hlt : k < n
      · obtain ⟨e, hx, hd⟩ : ∃ e, L[k]? = some e ∧ L.drop k = e :: L.drop (k + 1) := ⟨_, List.getElem?_eq_getElem (by rw [HL.out]; exact hlt), List.drop_eq_getElem_cons (by rw [HL.out]; exact hlt)⟩
        obtain ⟨g, rfl, hgl, -, -, hcc⟩ := HR.out.at_ len_Sn hx
        have c0 := hcc 0 _ rfl
        have c1 := hcc 3 _ rfl
        have c2 := hcc 4 _ rfl
        simp only [Nat.add_zero] at c0
        have HDR : Hid (okSn L = ((okS1 e && (L.drop (k + 1)).all okS1) && (decide (a < e.cl) && rises Sn.cl e.cl (L.drop (k + 1))))) := by
          show _ = _
          rw [HF.out, ← HS.out.2, hd, List.all_cons, rises]
        clear hcc HS hd hx
        by_cases h0 : e.cl ≤ a
        · have d0 : decide ((e.cl : Int) ≤ (a : Int)) = true := decide_eq_true (by omega)
          have HF2 : Hid (okSn L = false) := by
            show _ = _
            rw [HDR.out, decide_eq_false (p := a < e.cl) (by omega)]
            simp
          go_wp2
          go_ret
          exact ⟨by rw [HF2.out]; rfl, BR.out⟩
        · have d0 : decide ((e.cl : Int) ≤ (a : Int)) = false := decide_eq_false (by omega)
          by_cases h1 : e.cd < 0
          · have d1 : decide (e.cd < 0) = true := decide_eq_true (by omega)
            have HF2 : Hid (okSn L = false) := by
              show _ = _
              rw [HDR.out]
              unfold okS1
              rw [decide_eq_false (p := 0 ≤ e.cd) (by omega)]
              simp
            go_wp2
            go_ret
            exact ⟨by rw [HF2.out]; rfl, BR.out⟩
          · have d1 : decide (e.cd < 0) = false := decide_eq_false (by omega)
            by_cases h2 : 1023 < e.cd
            · have d2 : decide (1023 < e.cd) = true := decide_eq_true (by omega)
              have HF2 : Hid (okSn L = false) := by
                show _ = _
                rw [HDR.out]
                unfold okS1
                rw [decide_eq_false (p := e.cd ≤ 1023) (by omega)]
                simp
              go_wp2
              go_ret
              exact ⟨by rw [HF2.out]; rfl, BR.out⟩
            · have d2 : decide (1023 < e.cd) = false := decide_eq_false (by omega)
              by_cases h3 : 256 < e.cn
              · have d3 : decide ((256 : Int) < (e.cn : Int)) = true := decide_eq_true (by omega)
                have HF2 : Hid (okSn L = false) := by
                  show _ = _
                  rw [HDR.out]
                  unfold okS1
                  rw [decide_eq_false (p := e.cn ≤ 256) (by omega)]
                  simp
                go_wp2
                go_ret
                exact ⟨by rw [HF2.out]; rfl, BR.out⟩
              · have d3 : decide ((256 : Int) < (e.cn : Int)) = false := decide_eq_false (by omega)
                have HF2 : Hid (((L.drop (k + 1)).all okS1 && rises Sn.cl e.cl (L.drop (k + 1))) = (L.all okS1 && rises Sn.cl 0 L)) := by
                  show _ = _
                  rw [← HF.out, HDR.out]
                  unfold okS1
                  rw [decide_eq_true (p := 0 ≤ e.cd) (by omega), decide_eq_true (p := e.cd ≤ 1023) (by omega), decide_eq_true (p := e.cn ≤ 256) (by omega), decide_eq_true (p := a < e.cl) (by omega)]
                  simp
                clear HDR
                go_wp2
                go_roundw
                case rel => exact ⟨k + 1, by omega, by go_num, e.cl, rfl, by first | exact ⟨rfl, HF2.out⟩ | exact ⟨trivial, HF2.out⟩⟩
                case measure => simp [intOf]; omega
      · obtain rfl : n = k := by omega
        have HRR : Hid (okSn L = true) := by
          show _ = _
          rw [HF.out, ← HS.out.2, List.drop_of_length_le (by rw [HL.out]; omega)]
          rfl
        go_wp2
        go_ret
        exact ⟨by rw [HRR.out]; rfl, BR.out⟩
end Go.Proofs.YtlidehhcoepikaaGreatDoor
namespace Go.Proofs.YtlidehhcoepikaaGreatDoor
open Go.RowKit Crc

set_option maxRecDepth 10000 in
set_option maxHeartbeats 3200000 in
theorem refPart_any (m : Mi) {base : Nat} {w : World} (hb : m.small) (h : m.Own base w) : Calls Tryz.prog 26 #[.agg #[.int .u64 (m.slot : Int), .int .u64 (m.now : Int), .int .u64 (m.tot : Int), .int .u64 (m.nx : Int), .slice m.ao m.an m.ac, .slice m.ho m.hn m.hc, .slice m.jo m.jn m.jc, .slice m.dO m.dn m.dc, .int .u64 (m.ends : Int), .slice m.so m.sn m.sc]] w fun e w' => e = .returned (.int .i64 m.part) ∧ Hid (Below w.heap.size w w') := by
  obtain ⟨W1, hW1⟩ : ∃ W1, w.alloc (.cells #[.int .u64 (m.slot : Int), .int .u64 (m.now : Int), .int .u64 (m.tot : Int), .int .u64 (m.nx : Int), .slice m.ao m.an m.ac, .slice m.ho m.hn m.hc, .slice m.jo m.jn m.jc, .slice m.dO m.dn m.dc, .int .u64 (m.ends : Int), .slice m.so m.sn m.sc] 33) = W1 := ⟨_, rfl⟩
  have b1 : Below w.heap.size w W1 := by rw [← hW1]; exact (Below.refl _ w).alloc (Nat.le_refl _) _
  have q1 : W1.heap[w.heap.size]? = some (.cells #[.int .u64 (m.slot : Int), .int .u64 (m.now : Int), .int .u64 (m.tot : Int), .int .u64 (m.nx : Int), .slice m.ao m.an m.ac, .slice m.ho m.hn m.hc, .slice m.jo m.jn m.jc, .slice m.dO m.dn m.dc, .int .u64 (m.ends : Int), .slice m.so m.sn m.sc] 33 (0, 0)) := by rw [← hW1]; exact alloc_atN _ _
  have hwW := block_lt q1
  have OW := hide (h.below b1)
  have BB := hide b1
  have CE : Hid (∀ V, Below W1.heap.size W1 V → V.heap[w.heap.size]? = some (.cells #[.int .u64 (m.slot : Int), .int .u64 (m.now : Int), .int .u64 (m.tot : Int), .int .u64 (m.nx : Int), .slice m.ao m.an m.ac, .slice m.ho m.hn m.hc, .slice m.jo m.jn m.jc, .slice m.dO m.dn m.dc, .int .u64 (m.ends : Int), .slice m.so m.sn m.sc] 33 (0, 0)) ∧ Below w.heap.size w V) := fun V hv => ⟨(hv.block _ hwW).trans q1, below_trans1 b1 hv⟩
  have HA : Hid (∀ V, Below W1.heap.size W1 V → Calls Tryz.prog 67 #[.agg #[.int .u64 (m.tot : Int), .int .u64 (m.nx : Int), .slice m.ao m.an m.ac, .slice m.ho m.hn m.hc, .slice m.jo m.jn m.jc], .int .i64 2] V fun e w' => e = .returned (.bool (okAc m.A)) ∧ Hid (Below W1.heap.size W1 w')) := fun V hv => (refBk_Ac _ _ ((OW.out.below hv).bk.a) hb.1).mono fun _ _ ⟨e, G⟩ => ⟨e, below_trans1 hv G.out⟩
  have HH : Hid (∀ V, Below W1.heap.size W1 V → Calls Tryz.prog 67 #[.agg #[.int .u64 (m.tot : Int), .int .u64 (m.nx : Int), .slice m.ao m.an m.ac, .slice m.ho m.hn m.hc, .slice m.jo m.jn m.jc], .int .i64 3] V fun e w' => e = .returned (.bool (okHo m.H)) ∧ Hid (Below W1.heap.size W1 w')) := fun V hv => (refBk_Ho _ _ ((OW.out.below hv).bk.h) hb.2.1).mono fun _ _ ⟨e, G⟩ => ⟨e, below_trans1 hv G.out⟩
  have HJ : Hid (∀ V, Below W1.heap.size W1 V → Calls Tryz.prog 67 #[.agg #[.int .u64 (m.tot : Int), .int .u64 (m.nx : Int), .slice m.ao m.an m.ac, .slice m.ho m.hn m.hc, .slice m.jo m.jn m.jc], .int .i64 4] V fun e w' => e = .returned (.bool (okEn m.J)) ∧ Hid (Below W1.heap.size W1 w')) := fun V hv => (refBk_En _ _ ((OW.out.below hv).bk.j) hb.2.2.1).mono fun _ _ ⟨e, G⟩ => ⟨e, below_trans1 hv G.out⟩
  have HD : Hid (∀ V, Below W1.heap.size W1 V → Calls Tryz.prog 68 #[.slice m.dO m.dn m.dc] V fun e w' => e = .returned (.bool (okDe m.D)) ∧ Hid (Below W1.heap.size W1 w')) := fun V hv => (ref_De hb.2.2.2.1 ((OW.out.below hv).d)).mono fun _ _ ⟨e, G⟩ => ⟨e, below_trans1 hv G.out⟩
  have HS : Hid (∀ V, Below W1.heap.size W1 V → Calls Tryz.prog 69 #[.slice m.so m.sn m.sc] V fun e w' => e = .returned (.bool (okSn m.S)) ∧ Hid (Below W1.heap.size W1 w')) := fun V hv => (ref_Sn hb.2.2.2.2 ((OW.out.below hv).s.row)).mono fun _ _ ⟨e, G⟩ => ⟨e, below_trans1 hv G.out⟩
  have HPT : Hid (m.part = fstF [decide (m.slot ≤ 1099511627776), decide (m.now ≤ 1099511627776), okAc m.A, okHo m.H, okEn m.J, okDe m.D, okSn m.S]) := rfl
  generalize m.part = pt at *
  generalize okAc m.A = b2 at *
  generalize okHo m.H = b3 at *
  generalize okEn m.J = b4 at *
  generalize okDe m.D = b5 at *
  generalize okSn m.S = b6 at *
  have y0 := block_cell q1 0
  have y1 := block_cell q1 1
  have y2 := block_cell q1 2
  have y3 := block_cell q1 3
  have y4 := block_cell q1 4
  have y5 := block_cell q1 5
  have y6 := block_cell q1 6
  have y7 := block_cell q1 7
  have y8 := block_cell q1 8
  have y9 := block_cell q1 9
  simp at y0 y1 y2 y3 y4 y5 y6 y7 y8 y9
  have HW1 := hide hW1
  have R0 := hide (Below.refl W1.heap.size W1)
  clear h hb b1 q1 OW
  go_enter Tryz.func26, Tryz.ntmps26
  by_cases h0 : m.slot ≤ 1099511627776
  · rw [decide_eq_true h0] at HPT
    have e0 : decide ((1099511627776 : Int) < (m.slot : Int)) = false := decide_eq_false (by omega)
    by_cases h1 : m.now ≤ 1099511627776
    · rw [decide_eq_true h1] at HPT
      have e1 : decide ((1099511627776 : Int) < (m.now : Int)) = false := decide_eq_false (by omega)
      go_wp2_with fail
      refine wp_loop_rounds 4 ?_
      rw [rounds_succ]
      go_wp2_with fail
      refine (HA.out _ R0.out).mono ?_
      rintro e v1 ⟨rfl, Gv1⟩
      have Qv1 := hide (CE.out _ Gv1.out)
      clear y0 y1 y2 y3 y4 y5 y6 y7 y8 y9
      have y0 := block_cell Qv1.out.1 0
      have y1 := block_cell Qv1.out.1 1
      have y2 := block_cell Qv1.out.1 2
      have y3 := block_cell Qv1.out.1 3
      have y4 := block_cell Qv1.out.1 4
      have y5 := block_cell Qv1.out.1 5
      have y6 := block_cell Qv1.out.1 6
      have y7 := block_cell Qv1.out.1 7
      have y8 := block_cell Qv1.out.1 8
      have y9 := block_cell Qv1.out.1 9
      simp at y0 y1 y2 y3 y4 y5 y6 y7 y8 y9
      have lv1 := block_lt Qv1.out.1
      cases b2 with
      | false =>
        have HV : Hid (pt = 2) := HPT.out
        clear HPT
        go_wp2
        go_ret
        exact ⟨by rw [HV.out]; rfl, Qv1.out.2⟩
      | true =>
        go_wp2_with fail
        rw [rounds_succ]
        go_wp2_with fail
        refine (HH.out _ Gv1.out).mono ?_
        rintro e v2 ⟨rfl, Gv2⟩
        have Qv2 := hide (CE.out _ Gv2.out)
        clear y0 y1 y2 y3 y4 y5 y6 y7 y8 y9 lv1
        have y0 := block_cell Qv2.out.1 0
        have y1 := block_cell Qv2.out.1 1
        have y2 := block_cell Qv2.out.1 2
        have y3 := block_cell Qv2.out.1 3
        have y4 := block_cell Qv2.out.1 4
        have y5 := block_cell Qv2.out.1 5
        have y6 := block_cell Qv2.out.1 6
        have y7 := block_cell Qv2.out.1 7
        have y8 := block_cell Qv2.out.1 8
        have y9 := block_cell Qv2.out.1 9
        simp at y0 y1 y2 y3 y4 y5 y6 y7 y8 y9
        have lv2 := block_lt Qv2.out.1
        cases b3 with
        | false =>
          have HV : Hid (pt = 3) := HPT.out
          clear HPT
          go_wp2
          go_ret
          exact ⟨by rw [HV.out]; rfl, Qv2.out.2⟩
        | true =>
          go_wp2_with fail
          rw [rounds_succ]
          go_wp2_with fail
          refine (HJ.out _ Gv2.out).mono ?_
          rintro e v3 ⟨rfl, Gv3⟩
          have Qv3 := hide (CE.out _ Gv3.out)
          clear y0 y1 y2 y3 y4 y5 y6 y7 y8 y9 lv2
          have y0 := block_cell Qv3.out.1 0
          have y1 := block_cell Qv3.out.1 1
          have y2 := block_cell Qv3.out.1 2
          have y3 := block_cell Qv3.out.1 3
          have y4 := block_cell Qv3.out.1 4
          have y5 := block_cell Qv3.out.1 5
          have y6 := block_cell Qv3.out.1 6
          have y7 := block_cell Qv3.out.1 7
          have y8 := block_cell Qv3.out.1 8
          have y9 := block_cell Qv3.out.1 9
          simp at y0 y1 y2 y3 y4 y5 y6 y7 y8 y9
          have lv3 := block_lt Qv3.out.1
          cases b4 with
          | false =>
            have HV : Hid (pt = 4) := HPT.out
            clear HPT
            go_wp2
            go_ret
            exact ⟨by rw [HV.out]; rfl, Qv3.out.2⟩
          | true =>
            go_wp2_with fail
            rw [rounds_succ]
            go_wp2_with fail
            refine (HD.out _ Gv3.out).mono ?_
            rintro e v4 ⟨rfl, Gv4⟩
            have Qv4 := hide (CE.out _ Gv4.out)
            clear y0 y1 y2 y3 y4 y5 y6 y7 y8 y9 lv3
            have y0 := block_cell Qv4.out.1 0
            have y1 := block_cell Qv4.out.1 1
            have y2 := block_cell Qv4.out.1 2
            have y3 := block_cell Qv4.out.1 3
            have y4 := block_cell Qv4.out.1 4
            have y5 := block_cell Qv4.out.1 5
            have y6 := block_cell Qv4.out.1 6
            have y7 := block_cell Qv4.out.1 7
            have y8 := block_cell Qv4.out.1 8
            have y9 := block_cell Qv4.out.1 9
            simp at y0 y1 y2 y3 y4 y5 y6 y7 y8 y9
            have lv4 := block_lt Qv4.out.1
            cases b5 with
            | false =>
              have HV : Hid (pt = 5) := HPT.out
              clear HPT
              go_wp2
              go_ret
              exact ⟨by rw [HV.out]; rfl, Qv4.out.2⟩
            | true =>
              go_wp2_with fail
              refine (HS.out _ Gv4.out).mono ?_
              rintro e v5 ⟨rfl, Gv5⟩
              have Qv5 := hide (CE.out _ Gv5.out)
              clear y0 y1 y2 y3 y4 y5 y6 y7 y8 y9 lv4
              have y0 := block_cell Qv5.out.1 0
              have y1 := block_cell Qv5.out.1 1
              have y2 := block_cell Qv5.out.1 2
              have y3 := block_cell Qv5.out.1 3
              have y4 := block_cell Qv5.out.1 4
              have y5 := block_cell Qv5.out.1 5
              have y6 := block_cell Qv5.out.1 6
              have y7 := block_cell Qv5.out.1 7
              have y8 := block_cell Qv5.out.1 8
              have y9 := block_cell Qv5.out.1 9
              simp at y0 y1 y2 y3 y4 y5 y6 y7 y8 y9
              have lv5 := block_lt Qv5.out.1
              cases b6 with
              | false =>
                have HV : Hid (pt = 6) := HPT.out
                clear HPT
                go_wp2
                go_ret
                exact ⟨by rw [HV.out]; rfl, Qv5.out.2⟩
              | true =>
                have HV : Hid (pt = -1) := HPT.out
                clear HPT
                go_wp2
                go_ret
                exact ⟨by rw [HV.out]; rfl, Qv5.out.2⟩
    · rw [decide_eq_false h1] at HPT
      have e1 : decide ((1099511627776 : Int) < (m.now : Int)) = true := decide_eq_true (by omega)
      have HV : Hid (pt = 1) := HPT.out
      clear HPT
      go_wp2
      go_ret
      exact ⟨by rw [HV.out]; rfl, BB.out⟩
  · rw [decide_eq_false h0] at HPT
    have e0 : decide ((1099511627776 : Int) < (m.slot : Int)) = true := decide_eq_true (by omega)
    have HV : Hid (pt = 0) := HPT.out
    clear HPT
    go_wp2
    go_ret
    exact ⟨by rw [HV.out]; rfl, BB.out⟩
end Go.Proofs.YtlidehhcoepikaaGreatDoor
