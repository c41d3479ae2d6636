import Derived.Test.YtiijbboigebhcaaGreatDoorNPt
import Derived.Test.YtiijbboigebhcaaGreatDoorM31
import Derived.BigQuiet
import Derived.Test.YtiijbboigebhcaaGreatDoorM45
import Derived.Test.YtiijbboigebhcaaGreatDoorORpJ
import Derived.Deep.DeepCutAuto
import Derived.Deep.RegionHeld
import Derived.Test.YtiijbboigebhcaaGreatDoorOPh
import Derived.Test.YtiijbboigebhcaaGreatDoorM27
namespace Go.Proofs.YtiijbboigebhcaaGreatDoor
open Go.RowKit Crc

set_option maxRecDepth 10000 in
set_option maxHeartbeats 3200000 in
theorem ref_Dev {w : World} {ao : Option Addr} {n cap : Nat} {L : List De} (hn : n ≤ 1000) (h : Rt w 13 De.cells ao n L) : Calls Tryz.prog 68 #[.slice ao n cap] w fun e w' => e = .returned (.bool (okDe L)) ∧ Hid (Below w.heap.size w w') := by
  have HR := hide h
  have HL := hide h.num
  have BR := hide (Below.refl w.heap.size w)
  clear h
  go_enter Tryz.func68, Tryz.ntmps68
  by_cases hlong : 32 < n
  · have hld : decide ((32 : Int) < (n : Int)) = true := decide_eq_true (by omega)
    have HF : Hid (okDe L = false) := by
      show _ = _
      unfold okDe
      rw [HL.out, decide_eq_false (p := n ≤ 32) (by omega), Bool.and_false, Bool.and_false]
    go_wp2
    go_ret
    exact ⟨by rw [HF.out]; rfl, BR.out⟩
  · have hld : decide ((32 : Int) < (n : Int)) = false := decide_eq_false (by omega)
    have HF : Hid (okDe L = (L.all okD1 && rises De.a 0 L)) := by
      show _ = _
      unfold okDe
      rw [HL.out, decide_eq_true (p := n ≤ 32) (by omega), Bool.and_true]
    go_wp2
    go_loopw [3, 4] (fun v i wr => ∃ k : Nat, k ≤ n ∧ i = .int .i64 k ∧ ∃ a : Nat, v = .int .u64 (a : Int) ∧ Hid (wr = w ∧ ((L.drop k).all okD1 && rises De.a a (L.drop k)) = (L.all okD1 && rises De.a 0 L))) (fun _ i _ => n - (intOf i).toNat)
    case atStart => exact ⟨0, by omega, rfl, 0, rfl, rfl, rfl⟩
    case round =>
      obtain ⟨k, hk, rfl, a, rfl, HS⟩ := hrel
      obtain rfl := HS.out.1
      by_cases hlt : k < n
      · obtain ⟨e, hx, hd⟩ : ∃ e, L[k]? = some e ∧ L.drop k = e :: L.drop (k + 1) := ⟨_, List.getElem?_eq_getElem (by rw [HL.out]; exact hlt), List.drop_eq_getElem_cons (by rw [HL.out]; exact hlt)⟩
        obtain ⟨g, of, rfl, hgl, hcc⟩ := HR.out.at_ len_De hx
        have c0 := hcc 0 _ rfl
        have c1 := hcc 7 _ rfl
        have c2 := hcc 12 _ rfl
        simp only [Nat.add_zero] at c0
        have HDR : Hid (okDe L = ((okD1 e && (L.drop (k + 1)).all okD1) && (decide (a < e.a) && rises De.a e.a (L.drop (k + 1))))) := by
          show _ = _
          rw [HF.out, ← HS.out.2, hd, List.all_cons, rises]
        clear hcc HS hd hx
        by_cases h0 : e.a ≤ a
        · have d0 : decide ((e.a : Int) ≤ (a : Int)) = true := decide_eq_true (by omega)
          have HF2 : Hid (okDe L = false) := by
            show _ = _
            rw [HDR.out, decide_eq_false (p := a < e.a) (by omega)]
            simp
          go_wp2
          go_ret
          exact ⟨by rw [HF2.out]; rfl, BR.out⟩
        · have d0 : decide ((e.a : Int) ≤ (a : Int)) = false := decide_eq_false (by omega)
          by_cases h1 : e.ph < 1
          · have d1 : decide (e.ph < 1) = true := decide_eq_true (by omega)
            have HF2 : Hid (okDe L = false) := by
              show _ = _
              rw [HDR.out]
              unfold okD1
              rw [decide_eq_false (p := 1 ≤ e.ph) (by omega)]
              simp
            go_wp2
            go_ret
            exact ⟨by rw [HF2.out]; rfl, BR.out⟩
          · have d1 : decide (e.ph < 1) = false := decide_eq_false (by omega)
            by_cases h2 : 8 < e.ph
            · have d2 : decide (8 < e.ph) = true := decide_eq_true (by omega)
              have HF2 : Hid (okDe L = false) := by
                show _ = _
                rw [HDR.out]
                unfold okD1
                rw [decide_eq_false (p := e.ph ≤ 8) (by omega)]
                simp
              go_wp2
              go_ret
              exact ⟨by rw [HF2.out]; rfl, BR.out⟩
            · have d2 : decide (8 < e.ph) = false := decide_eq_false (by omega)
              by_cases h3 : 512 < e.t.size
              · have d3 : decide ((512 : Int) < (e.t.size : Int)) = true := decide_eq_true (by omega)
                have HF2 : Hid (okDe L = false) := by
                  show _ = _
                  rw [HDR.out]
                  unfold okD1
                  rw [decide_eq_false (p := e.t.size ≤ 512) (by omega)]
                  simp
                go_wp2
                go_ret
                exact ⟨by rw [HF2.out]; rfl, BR.out⟩
              · have d3 : decide ((512 : Int) < (e.t.size : Int)) = false := decide_eq_false (by omega)
                have HF2 : Hid (((L.drop (k + 1)).all okD1 && rises De.a e.a (L.drop (k + 1))) = (L.all okD1 && rises De.a 0 L)) := by
                  show _ = _
                  rw [← HF.out, HDR.out]
                  unfold okD1
                  rw [decide_eq_true (p := 1 ≤ e.ph) (by omega), decide_eq_true (p := e.ph ≤ 8) (by omega), decide_eq_true (p := e.t.size ≤ 512) (by omega), decide_eq_true (p := a < e.a) (by omega)]
                  simp
                clear HDR
                go_wp2
                go_roundw
                case rel => exact ⟨k + 1, by omega, by go_num, e.a, rfl, by first | exact ⟨rfl, HF2.out⟩ | exact ⟨trivial, HF2.out⟩⟩
                case measure => simp [intOf]; omega
      · obtain rfl : n = k := by omega
        have HRR : Hid (okDe L = true) := by
          show _ = _
          rw [HF.out, ← HS.out.2, List.drop_of_length_le (by rw [HL.out]; omega)]
          rfl
        go_wp2
        go_ret
        exact ⟨by rw [HRR.out]; rfl, BR.out⟩
end Go.Proofs.YtiijbboigebhcaaGreatDoor
namespace Go.Proofs.YtiijbboigebhcaaGreatDoor
open Go.RowKit Crc

set_option maxRecDepth 10000 in
set_option maxHeartbeats 3200000 in
theorem ref_Snv {w : World} {ao : Option Addr} {n cap : Nat} {L : List Sn} (hn : n ≤ 1000) (h : Rt w 5 Sn.cells ao n L) : Calls Tryz.prog 69 #[.slice ao n cap] w fun e w' => e = .returned (.bool (okSn L)) ∧ Hid (Below w.heap.size w w') := by
  have HR := hide h
  have HL := hide h.num
  have BR := hide (Below.refl w.heap.size w)
  clear h
  go_enter Tryz.func69, Tryz.ntmps69
  by_cases hlong : 16 < n
  · have hld : decide ((16 : Int) < (n : Int)) = true := decide_eq_true (by omega)
    have HF : Hid (okSn L = false) := by
      show _ = _
      unfold okSn
      rw [HL.out, decide_eq_false (p := n ≤ 16) (by omega), Bool.and_false, Bool.and_false]
    go_wp2
    go_ret
    exact ⟨by rw [HF.out]; rfl, BR.out⟩
  · have hld : decide ((16 : Int) < (n : Int)) = false := decide_eq_false (by omega)
    have HF : Hid (okSn L = (L.all okS1 && rises Sn.cl 0 L)) := by
      show _ = _
      unfold okSn
      rw [HL.out, decide_eq_true (p := n ≤ 16) (by omega), Bool.and_true]
    go_wp2
    go_loopw [3, 4] (fun v i wr => ∃ k : Nat, k ≤ n ∧ i = .int .i64 k ∧ ∃ a : Nat, v = .int .u64 (a : Int) ∧ Hid (wr = w ∧ ((L.drop k).all okS1 && rises Sn.cl a (L.drop k)) = (L.all okS1 && rises Sn.cl 0 L))) (fun _ i _ => n - (intOf i).toNat)
    case atStart => exact ⟨0, by omega, rfl, 0, rfl, rfl, rfl⟩
    case round =>
      obtain ⟨k, hk, rfl, a, rfl, HS⟩ := hrel
      obtain rfl := HS.out.1
      by_cases hlt : k < n
      · obtain ⟨e, hx, hd⟩ : ∃ e, L[k]? = some e ∧ L.drop k = e :: L.drop (k + 1) := ⟨_, List.getElem?_eq_getElem (by rw [HL.out]; exact hlt), List.drop_eq_getElem_cons (by rw [HL.out]; exact hlt)⟩
        obtain ⟨g, of, rfl, hgl, hcc⟩ := HR.out.at_ len_Sn hx
        have c0 := hcc 0 _ rfl
        have c1 := hcc 3 _ rfl
        have c2 := hcc 4 _ rfl
        simp only [Nat.add_zero] at c0
        have HDR : Hid (okSn L = ((okS1 e && (L.drop (k + 1)).all okS1) && (decide (a < e.cl) && rises Sn.cl e.cl (L.drop (k + 1))))) := by
          show _ = _
          rw [HF.out, ← HS.out.2, hd, List.all_cons, rises]
        clear hcc HS hd hx
        by_cases h0 : e.cl ≤ a
        · have d0 : decide ((e.cl : Int) ≤ (a : Int)) = true := decide_eq_true (by omega)
          have HF2 : Hid (okSn L = false) := by
            show _ = _
            rw [HDR.out, decide_eq_false (p := a < e.cl) (by omega)]
            simp
          go_wp2
          go_ret
          exact ⟨by rw [HF2.out]; rfl, BR.out⟩
        · have d0 : decide ((e.cl : Int) ≤ (a : Int)) = false := decide_eq_false (by omega)
          by_cases h1 : e.cd < 0
          · have d1 : decide (e.cd < 0) = true := decide_eq_true (by omega)
            have HF2 : Hid (okSn L = false) := by
              show _ = _
              rw [HDR.out]
              unfold okS1
              rw [decide_eq_false (p := 0 ≤ e.cd) (by omega)]
              simp
            go_wp2
            go_ret
            exact ⟨by rw [HF2.out]; rfl, BR.out⟩
          · have d1 : decide (e.cd < 0) = false := decide_eq_false (by omega)
            by_cases h2 : 1023 < e.cd
            · have d2 : decide (1023 < e.cd) = true := decide_eq_true (by omega)
              have HF2 : Hid (okSn L = false) := by
                show _ = _
                rw [HDR.out]
                unfold okS1
                rw [decide_eq_false (p := e.cd ≤ 1023) (by omega)]
                simp
              go_wp2
              go_ret
              exact ⟨by rw [HF2.out]; rfl, BR.out⟩
            · have d2 : decide (1023 < e.cd) = false := decide_eq_false (by omega)
              by_cases h3 : 256 < e.cn
              · have d3 : decide ((256 : Int) < (e.cn : Int)) = true := decide_eq_true (by omega)
                have HF2 : Hid (okSn L = false) := by
                  show _ = _
                  rw [HDR.out]
                  unfold okS1
                  rw [decide_eq_false (p := e.cn ≤ 256) (by omega)]
                  simp
                go_wp2
                go_ret
                exact ⟨by rw [HF2.out]; rfl, BR.out⟩
              · have d3 : decide ((256 : Int) < (e.cn : Int)) = false := decide_eq_false (by omega)
                have HF2 : Hid (((L.drop (k + 1)).all okS1 && rises Sn.cl e.cl (L.drop (k + 1))) = (L.all okS1 && rises Sn.cl 0 L)) := by
                  show _ = _
                  rw [← HF.out, HDR.out]
                  unfold okS1
                  rw [decide_eq_true (p := 0 ≤ e.cd) (by omega), decide_eq_true (p := e.cd ≤ 1023) (by omega), decide_eq_true (p := e.cn ≤ 256) (by omega), decide_eq_true (p := a < e.cl) (by omega)]
                  simp
                clear HDR
                go_wp2
                go_roundw
                case rel => exact ⟨k + 1, by omega, by go_num, e.cl, rfl, by first | exact ⟨rfl, HF2.out⟩ | exact ⟨trivial, HF2.out⟩⟩
                case measure => simp [intOf]; omega
      · obtain rfl : n = k := by omega
        have HRR : Hid (okSn L = true) := by
          show _ = _
          rw [HF.out, ← HS.out.2, List.drop_of_length_le (by rw [HL.out]; omega)]
          rfl
        go_wp2
        go_ret
        exact ⟨by rw [HRR.out]; rfl, BR.out⟩
end Go.Proofs.YtiijbboigebhcaaGreatDoor
namespace Go.Proofs.YtiijbboigebhcaaGreatDoor
open Go.RowKit Crc

set_option maxRecDepth 10000 in
set_option maxHeartbeats 3200000 in
theorem refPart_v (m : Mi) {w : World} (hb : m.small) (h : m.Vw w) : Calls Tryz.prog 26 #[.agg #[.int .u64 (m.slot : Int), .int .u64 (m.now : Int), .int .u64 (m.tot : Int), .int .u64 (m.nx : Int), .slice m.ao m.an m.ac, .slice m.ho m.hn m.hc, .slice m.jo m.jn m.jc, .slice m.dO m.dn m.dc, .int .u64 (m.ends : Int), .slice m.so m.sn m.sc]] w fun e w' => e = .returned (.int .i64 m.part) ∧ Hid (Below w.heap.size w w') := by
  obtain ⟨W1, hW1⟩ : ∃ W1, w.alloc (.cells #[.int .u64 (m.slot : Int), .int .u64 (m.now : Int), .int .u64 (m.tot : Int), .int .u64 (m.nx : Int), .slice m.ao m.an m.ac, .slice m.ho m.hn m.hc, .slice m.jo m.jn m.jc, .slice m.dO m.dn m.dc, .int .u64 (m.ends : Int), .slice m.so m.sn m.sc] 33) = W1 := ⟨_, rfl⟩
  have b1 : Below w.heap.size w W1 := by rw [← hW1]; exact (Below.refl _ w).alloc (Nat.le_refl _) _
  have q1 : W1.heap[w.heap.size]? = some (.cells #[.int .u64 (m.slot : Int), .int .u64 (m.now : Int), .int .u64 (m.tot : Int), .int .u64 (m.nx : Int), .slice m.ao m.an m.ac, .slice m.ho m.hn m.hc, .slice m.jo m.jn m.jc, .slice m.dO m.dn m.dc, .int .u64 (m.ends : Int), .slice m.so m.sn m.sc] 33 (0, 0)) := by rw [← hW1]; exact alloc_atN _ _
  have hwW := block_lt q1
  have OW := hide (h.below b1)
  have BB := hide b1
  have CE : Hid (∀ V, Below W1.heap.size W1 V → V.heap[w.heap.size]? = some (.cells #[.int .u64 (m.slot : Int), .int .u64 (m.now : Int), .int .u64 (m.tot : Int), .int .u64 (m.nx : Int), .slice m.ao m.an m.ac, .slice m.ho m.hn m.hc, .slice m.jo m.jn m.jc, .slice m.dO m.dn m.dc, .int .u64 (m.ends : Int), .slice m.so m.sn m.sc] 33 (0, 0)) ∧ Below w.heap.size w V) := fun V hv => ⟨(hv.block _ hwW).trans q1, below_trans1 b1 hv⟩
  have HA : Hid (∀ V, Below W1.heap.size W1 V → Calls Tryz.prog 67 #[.agg #[.int .u64 (m.tot : Int), .int .u64 (m.nx : Int), .slice m.ao m.an m.ac, .slice m.ho m.hn m.hc, .slice m.jo m.jn m.jc], .int .i64 2] V fun e w' => e = .returned (.bool (okAc m.A)) ∧ Hid (Below W1.heap.size W1 w')) := fun V hv => (refBk_Acv _ _ ((OW.out.below hv).bk.a) hb.1).mono fun _ _ ⟨e, G⟩ => ⟨e, below_trans1 hv G.out⟩
  have HH : Hid (∀ V, Below W1.heap.size W1 V → Calls Tryz.prog 67 #[.agg #[.int .u64 (m.tot : Int), .int .u64 (m.nx : Int), .slice m.ao m.an m.ac, .slice m.ho m.hn m.hc, .slice m.jo m.jn m.jc], .int .i64 3] V fun e w' => e = .returned (.bool (okHo m.H)) ∧ Hid (Below W1.heap.size W1 w')) := fun V hv => (refBk_Hov _ _ ((OW.out.below hv).bk.h) hb.2.1).mono fun _ _ ⟨e, G⟩ => ⟨e, below_trans1 hv G.out⟩
  have HJ : Hid (∀ V, Below W1.heap.size W1 V → Calls Tryz.prog 67 #[.agg #[.int .u64 (m.tot : Int), .int .u64 (m.nx : Int), .slice m.ao m.an m.ac, .slice m.ho m.hn m.hc, .slice m.jo m.jn m.jc], .int .i64 4] V fun e w' => e = .returned (.bool (okEn m.J)) ∧ Hid (Below W1.heap.size W1 w')) := fun V hv => (refBk_Env _ _ ((OW.out.below hv).bk.j) hb.2.2.1).mono fun _ _ ⟨e, G⟩ => ⟨e, below_trans1 hv G.out⟩
  have HD : Hid (∀ V, Below W1.heap.size W1 V → Calls Tryz.prog 68 #[.slice m.dO m.dn m.dc] V fun e w' => e = .returned (.bool (okDe m.D)) ∧ Hid (Below W1.heap.size W1 w')) := fun V hv => (ref_Dev hb.2.2.2.1 ((OW.out.below hv).d)).mono fun _ _ ⟨e, G⟩ => ⟨e, below_trans1 hv G.out⟩
  have HS : Hid (∀ V, Below W1.heap.size W1 V → Calls Tryz.prog 69 #[.slice m.so m.sn m.sc] V fun e w' => e = .returned (.bool (okSn m.S)) ∧ Hid (Below W1.heap.size W1 w')) := fun V hv => (ref_Snv hb.2.2.2.2 ((OW.out.below hv).s.row)).mono fun _ _ ⟨e, G⟩ => ⟨e, below_trans1 hv G.out⟩
  have HPT : Hid (m.part = fstF [decide (m.slot ≤ 1099511627776), decide (m.now ≤ 1099511627776), okAc m.A, okHo m.H, okEn m.J, okDe m.D, okSn m.S]) := rfl
  generalize m.part = pt at *
  generalize okAc m.A = b2 at *
  generalize okHo m.H = b3 at *
  generalize okEn m.J = b4 at *
  generalize okDe m.D = b5 at *
  generalize okSn m.S = b6 at *
  have y0 := block_cell q1 0
  have y1 := block_cell q1 1
  have y2 := block_cell q1 2
  have y3 := block_cell q1 3
  have y4 := block_cell q1 4
  have y5 := block_cell q1 5
  have y6 := block_cell q1 6
  have y7 := block_cell q1 7
  have y8 := block_cell q1 8
  have y9 := block_cell q1 9
  simp at y0 y1 y2 y3 y4 y5 y6 y7 y8 y9
  have HW1 := hide hW1
  have R0 := hide (Below.refl W1.heap.size W1)
  clear h hb b1 q1 OW
  go_enter Tryz.func26, Tryz.ntmps26
  by_cases h0 : m.slot ≤ 1099511627776
  · rw [decide_eq_true h0] at HPT
    have e0 : decide ((1099511627776 : Int) < (m.slot : Int)) = false := decide_eq_false (by omega)
    by_cases h1 : m.now ≤ 1099511627776
    · rw [decide_eq_true h1] at HPT
      have e1 : decide ((1099511627776 : Int) < (m.now : Int)) = false := decide_eq_false (by omega)
      go_wp2_with fail
      refine wp_loop_rounds 4 ?_
      rw [rounds_succ]
      go_wp2_with fail
      refine (HA.out _ R0.out).mono ?_
      rintro e v1 ⟨rfl, Gv1⟩
      have Qv1 := hide (CE.out _ Gv1.out)
      clear y0 y1 y2 y3 y4 y5 y6 y7 y8 y9
      have y0 := block_cell Qv1.out.1 0
      have y1 := block_cell Qv1.out.1 1
      have y2 := block_cell Qv1.out.1 2
      have y3 := block_cell Qv1.out.1 3
      have y4 := block_cell Qv1.out.1 4
      have y5 := block_cell Qv1.out.1 5
      have y6 := block_cell Qv1.out.1 6
      have y7 := block_cell Qv1.out.1 7
      have y8 := block_cell Qv1.out.1 8
      have y9 := block_cell Qv1.out.1 9
      simp at y0 y1 y2 y3 y4 y5 y6 y7 y8 y9
      have lv1 := block_lt Qv1.out.1
      cases b2 with
      | false =>
        have HV : Hid (pt = 2) := HPT.out
        clear HPT
        go_wp2
        go_ret
        exact ⟨by rw [HV.out]; rfl, Qv1.out.2⟩
      | true =>
        go_wp2_with fail
        rw [rounds_succ]
        go_wp2_with fail
        refine (HH.out _ Gv1.out).mono ?_
        rintro e v2 ⟨rfl, Gv2⟩
        have Qv2 := hide (CE.out _ Gv2.out)
        clear y0 y1 y2 y3 y4 y5 y6 y7 y8 y9 lv1
        have y0 := block_cell Qv2.out.1 0
        have y1 := block_cell Qv2.out.1 1
        have y2 := block_cell Qv2.out.1 2
        have y3 := block_cell Qv2.out.1 3
        have y4 := block_cell Qv2.out.1 4
        have y5 := block_cell Qv2.out.1 5
        have y6 := block_cell Qv2.out.1 6
        have y7 := block_cell Qv2.out.1 7
        have y8 := block_cell Qv2.out.1 8
        have y9 := block_cell Qv2.out.1 9
        simp at y0 y1 y2 y3 y4 y5 y6 y7 y8 y9
        have lv2 := block_lt Qv2.out.1
        cases b3 with
        | false =>
          have HV : Hid (pt = 3) := HPT.out
          clear HPT
          go_wp2
          go_ret
          exact ⟨by rw [HV.out]; rfl, Qv2.out.2⟩
        | true =>
          go_wp2_with fail
          rw [rounds_succ]
          go_wp2_with fail
          refine (HJ.out _ Gv2.out).mono ?_
          rintro e v3 ⟨rfl, Gv3⟩
          have Qv3 := hide (CE.out _ Gv3.out)
          clear y0 y1 y2 y3 y4 y5 y6 y7 y8 y9 lv2
          have y0 := block_cell Qv3.out.1 0
          have y1 := block_cell Qv3.out.1 1
          have y2 := block_cell Qv3.out.1 2
          have y3 := block_cell Qv3.out.1 3
          have y4 := block_cell Qv3.out.1 4
          have y5 := block_cell Qv3.out.1 5
          have y6 := block_cell Qv3.out.1 6
          have y7 := block_cell Qv3.out.1 7
          have y8 := block_cell Qv3.out.1 8
          have y9 := block_cell Qv3.out.1 9
          simp at y0 y1 y2 y3 y4 y5 y6 y7 y8 y9
          have lv3 := block_lt Qv3.out.1
          cases b4 with
          | false =>
            have HV : Hid (pt = 4) := HPT.out
            clear HPT
            go_wp2
            go_ret
            exact ⟨by rw [HV.out]; rfl, Qv3.out.2⟩
          | true =>
            go_wp2_with fail
            rw [rounds_succ]
            go_wp2_with fail
            refine (HD.out _ Gv3.out).mono ?_
            rintro e v4 ⟨rfl, Gv4⟩
            have Qv4 := hide (CE.out _ Gv4.out)
            clear y0 y1 y2 y3 y4 y5 y6 y7 y8 y9 lv3
            have y0 := block_cell Qv4.out.1 0
            have y1 := block_cell Qv4.out.1 1
            have y2 := block_cell Qv4.out.1 2
            have y3 := block_cell Qv4.out.1 3
            have y4 := block_cell Qv4.out.1 4
            have y5 := block_cell Qv4.out.1 5
            have y6 := block_cell Qv4.out.1 6
            have y7 := block_cell Qv4.out.1 7
            have y8 := block_cell Qv4.out.1 8
            have y9 := block_cell Qv4.out.1 9
            simp at y0 y1 y2 y3 y4 y5 y6 y7 y8 y9
            have lv4 := block_lt Qv4.out.1
            cases b5 with
            | false =>
              have HV : Hid (pt = 5) := HPT.out
              clear HPT
              go_wp2
              go_ret
              exact ⟨by rw [HV.out]; rfl, Qv4.out.2⟩
            | true =>
              go_wp2_with fail
              refine (HS.out _ Gv4.out).mono ?_
              rintro e v5 ⟨rfl, Gv5⟩
              have Qv5 := hide (CE.out _ Gv5.out)
              clear y0 y1 y2 y3 y4 y5 y6 y7 y8 y9 lv4
              have y0 := block_cell Qv5.out.1 0
              have y1 := block_cell Qv5.out.1 1
              have y2 := block_cell Qv5.out.1 2
              have y3 := block_cell Qv5.out.1 3
              have y4 := block_cell Qv5.out.1 4
              have y5 := block_cell Qv5.out.1 5
              have y6 := block_cell Qv5.out.1 6
              have y7 := block_cell Qv5.out.1 7
              have y8 := block_cell Qv5.out.1 8
              have y9 := block_cell Qv5.out.1 9
              simp at y0 y1 y2 y3 y4 y5 y6 y7 y8 y9
              have lv5 := block_lt Qv5.out.1
              cases b6 with
              | false =>
                have HV : Hid (pt = 6) := HPT.out
                clear HPT
                go_wp2
                go_ret
                exact ⟨by rw [HV.out]; rfl, Qv5.out.2⟩
              | true =>
                have HV : Hid (pt = -1) := HPT.out
                clear HPT
                go_wp2
                go_ret
                exact ⟨by rw [HV.out]; rfl, Qv5.out.2⟩
    · rw [decide_eq_false h1] at HPT
      have e1 : decide ((1099511627776 : Int) < (m.now : Int)) = true := decide_eq_true (by omega)
      have HV : Hid (pt = 1) := HPT.out
      clear HPT
      go_wp2
      go_ret
      exact ⟨by rw [HV.out]; rfl, BB.out⟩
  · rw [decide_eq_false h0] at HPT
    have e0 : decide ((1099511627776 : Int) < (m.slot : Int)) = true := decide_eq_true (by omega)
    have HV : Hid (pt = 0) := HPT.out
    clear HPT
    go_wp2
    go_ret
    exact ⟨by rw [HV.out]; rfl, BB.out⟩
end Go.Proofs.YtiijbboigebhcaaGreatDoor
namespace Go.Proofs.YtiijbboigebhcaaGreatDoor
open Go.RowKit Crc

theorem Rt.rs {α : Type} {w : World} {z : Nat} {f : α → List Value} {ao : Option Addr} {n : Nat} {L : List α} (h : Rt w z f ao n L) (hn : n ≤ 1000) : Rs w.heap.size w z f ao n L := ⟨h.len, hn, h.at0⟩
theorem vw_lr {m : Mi} {w : World} (hb : m.small) (h : m.Vw w) : m.Lr w.heap.size w := ⟨h.bk.a.rs hb.1, h.bk.h.rs hb.2.1, h.bk.j.rs hb.2.2.1, h.d.rs hb.2.2.2.1, h.s.row.rs hb.2.2.2.2, h.s.own⟩
theorem fv_box {W : World} {g off : Nat} {s : ByteArray} {T : TypeId} (h : W.heap[g]? = some (.cells #[.slice none 0 0, .int .i64 0] T (0, 0))) (hc : W.cell? ⟨g, off, none⟩ = some (.string s)) : False := by
  rw [block_cell h off] at hc
  rcases off with _ | _ | _
  · simp at hc
  · simp at hc
  · simp at hc
/-- What the reference answers. -/
def RPackQ (m : Mi) (w : World) (e : Ending) (w' : World) : Prop := ∃ ao n cap fo fc, e = .returned (.tuple #[.slice ao n cap, .agg #[.slice fo m.pkL.length fc, .int .i64 m.pkC]]) ∧ Hid (Owns w.heap.size w' (.slice ao n cap) m.pkB ∧ (∃ b off, FV w'.heap.size w' fo m.pkL b off) ∧ Below w.heap.size w w')
theorem pe_new (W : World) : Pe (W.heap.size + 1) W.heap.size [] (W.alloc (.cells #[.slice none 0 0] 81)) := ⟨⟨.slice none 0 0, alloc_atN _ _, Owns.nil _ _, by simp [Value.ownBlock]⟩, by simp, by omega⟩
theorem head5 : big 1364414032 4 ++ big 1 1 = [81, 83, 78, 80, 1] := by decide
set_option maxRecDepth 10000 in
set_option maxHeartbeats 800000 in
theorem rpack_bad (m : Mi) {w : World} (hb : m.small) (h : m.Vw w) (hp : ¬ m.part < 0) : Calls Tryz.prog 8 #[.agg #[.int .u64 (m.slot : Int), .int .u64 (m.now : Int), .int .u64 (m.tot : Int), .int .u64 (m.nx : Int), .slice m.ao m.an m.ac, .slice m.ho m.hn m.hc, .slice m.jo m.jn m.jc, .slice m.dO m.dn m.dc, .int .u64 (m.ends : Int), .slice m.so m.sn m.sc]] w (RPackQ m w) := by
  have e1 : m.pkB = [] := by unfold Mi.pkB; rw [if_neg hp]
  have e2 : m.pkL = [⟨snapN, m.part⟩] := by unfold Mi.pkL; rw [if_neg hp]
  have e3 : m.pkC = 121 := by unfold Mi.pkC; rw [if_neg hp]
  unfold RPackQ
  rw [e1, e2, e3]
  obtain ⟨W1, hW1⟩ : ∃ W1, (w.alloc (.cells #[.int .u64 (m.slot : Int), .int .u64 (m.now : Int), .int .u64 (m.tot : Int), .int .u64 (m.nx : Int), .slice m.ao m.an m.ac, .slice m.ho m.hn m.hc, .slice m.jo m.jn m.jc, .slice m.dO m.dn m.dc, .int .u64 (m.ends : Int), .slice m.so m.sn m.sc] 33)).alloc (.cells #[.slice none 0 0, .int .i64 0] 43) = W1 := ⟨_, rfl⟩
  have s0 : (w.alloc (.cells #[.int .u64 (m.slot : Int), .int .u64 (m.now : Int), .int .u64 (m.tot : Int), .int .u64 (m.nx : Int), .slice m.ao m.an m.ac, .slice m.ho m.hn m.hc, .slice m.jo m.jn m.jc, .slice m.dO m.dn m.dc, .int .u64 (m.ends : Int), .slice m.so m.sn m.sc] 33)).heap.size = w.heap.size + 1 := by simp
  have b1 : Below w.heap.size w W1 := by rw [← hW1]; exact ((Below.refl _ w).alloc (Nat.le_refl _) _).alloc (by simp) _
  have q1 : W1.heap[w.heap.size]? = some (.cells #[.int .u64 (m.slot : Int), .int .u64 (m.now : Int), .int .u64 (m.tot : Int), .int .u64 (m.nx : Int), .slice m.ao m.an m.ac, .slice m.ho m.hn m.hc, .slice m.jo m.jn m.jc, .slice m.dO m.dn m.dc, .int .u64 (m.ends : Int), .slice m.so m.sn m.sc] 33 (0, 0)) := by rw [← hW1]; exact ((World.grownBy_alloc _ _ none).block _ (by rw [s0]; omega) (by simp)).trans (alloc_atN _ _)
  have q2 : W1.heap[w.heap.size + 1]? = some (.cells #[.slice none 0 0, .int .i64 0] 43 (0, 0)) := by rw [← hW1, ← s0]; exact alloc_atN _ _
  have RP := hide (refPart_v m hb (h.below b1))
  have B1 := hide b1
  have Q1 := hide q1
  have Q2 := hide q2
  have HW1 := hide hW1
  have hpd : decide (0 ≤ m.part) = true := by simp; omega
  have HNW : Hid (∀ W, Calls Tryz.prog 27 #[.string snapN, .int .i64 m.part, .int .i64 121] W (FvP W [⟨snapN, m.part⟩] 121)) := fun W => new0 snapN m.part 121 W
  unfold FvP at HNW
  unfold snapN at HNW
  clear e1 e2 e3 s0 b1 q1 q2 hW1 h hb hp
  generalize m.part = pt at *
  go_enter Tryz.func8, Tryz.ntmps8
  go_upto_region 1 with fail
  rw [HW1.out]
  have x0 := block_cell Q1.out 0
  have x1 := block_cell Q1.out 1
  have x2 := block_cell Q1.out 2
  have x3 := block_cell Q1.out 3
  have x4 := block_cell Q1.out 4
  have x5 := block_cell Q1.out 5
  have x6 := block_cell Q1.out 6
  have x7 := block_cell Q1.out 7
  have x8 := block_cell Q1.out 8
  have x9 := block_cell Q1.out 9
  simp at x0 x1 x2 x3 x4 x5 x6 x7 x8 x9
  have hlt := block_lt Q1.out
  go_wp2_with fail
  refine RP.out.mono ?_
  rintro e W2 ⟨rfl, G2⟩
  clear hlt x0 x1 x2 x3 x4 x5 x6 x7 x8 x9
  have B2 := hide (below_trans1 B1.out G2.out)
  have R2 := hide ((G2.out.block _ (block_lt Q2.out)).trans Q2.out)
  clear RP Q1 HW1 Q2
  go_wp2_with fail
  refine (HNW.out W2).mono ?_
  rintro e w3 ⟨fo, fc, rfl, G3⟩
  obtain ⟨b, off, hf, hb3⟩ := G3.out
  have r3 := (hb3.block _ (block_lt R2.out)).trans R2.out
  have y0 := block_cell r3 0
  have y1 := block_cell r3 1
  have g0 := block_free r3 0
  have g1 := block_free r3 1
  simp at y0 y1
  have hl3 := block_lt r3
  have FIN : Hid (∀ u0 u1, (∃ b off, FV ((w3.setCell ⟨w.heap.size + 1, 0, none⟩ u0).setCell ⟨w.heap.size + 1, 1, none⟩ u1).heap.size ((w3.setCell ⟨w.heap.size + 1, 0, none⟩ u0).setCell ⟨w.heap.size + 1, 1, none⟩ u1) fo [⟨snapN, pt⟩] b off) ∧ Below w.heap.size w ((w3.setCell ⟨w.heap.size + 1, 0, none⟩ u0).setCell ⟨w.heap.size + 1, 1, none⟩ u1)) := fun u0 u1 => by
    refine ⟨⟨b, off, ?_⟩, ((B2.out.trans (hb3.mono B2.out.size)).setCell (p := ⟨w.heap.size + 1, 0, none⟩) (Nat.le_succ _) _).setCell (p := ⟨w.heap.size + 1, 1, none⟩) (Nat.le_succ _) _⟩
    have hs : ((w3.setCell ⟨w.heap.size + 1, 0, none⟩ u0).setCell ⟨w.heap.size + 1, 1, none⟩ u1).heap.size = w3.heap.size := by simp
    rw [hs]
    have hbn : b ≠ w.heap.size + 1 := fun e => by
      have := (hf.at_ 0 _ rfl).1
      rw [e] at this
      simp only [Nat.zero_mul, Nat.add_zero] at this
      exact fv_box r3 this
    exact ⟨hf.ad, hf.lt, hf.le, fun i l hl => by
      have k : ∀ i, ((w3.setCell ⟨w.heap.size + 1, 0, none⟩ u0).setCell ⟨w.heap.size + 1, 1, none⟩ u1).cell? ⟨b, i, none⟩ = w3.cell? ⟨b, i, none⟩ := fun i => (World.cell?_setCell_far _ ⟨w.heap.size + 1, 1, none⟩ ⟨b, i, none⟩ u1 (by simpa using hbn.symm)).trans (World.cell?_setCell_far _ ⟨w.heap.size + 1, 0, none⟩ ⟨b, i, none⟩ u0 (by simpa using hbn.symm))
      rw [k, k]
      exact hf.at_ i l hl⟩
  clear r3 hf hb3 G3 B2 R2
  go_wp2
  refine bodyPost_ret (v := .tuple #[.slice none 0 0, .agg #[.slice fo 1 fc, .int .i64 121]]) (by simp [results, Tryz.results8, go_sem, y0, y1]) rfl ?_
  exact ⟨none, 0, 0, fo, fc, rfl, Owns.nil _ _, FIN.out _ _⟩
end Go.Proofs.YtiijbboigebhcaaGreatDoor
