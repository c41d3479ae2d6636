import Derived.Test.YtiijbboigebhcaaGreatDoorNPt
import Derived.Test.YtiijbboigebhcaaGreatDoorM31
import Derived.BigQuiet
namespace Go.Proofs.YtiijbboigebhcaaGreatDoor
open Go.RowKit Crc

set_option maxRecDepth 10000 in
set_option maxHeartbeats 6400000 in
theorem refBk_Env (x y : Nat) {ao : Option Addr} {an ac : Nat} {ho : Option Addr} {hn hc : Nat} {jo : Option Addr} {jn jc : Nat} {w : World} {L : List En} (h : Rt w 5 En.cells jo jn L) (hb : jn ≤ 1000) : Calls Tryz.prog 67 #[.agg #[.int .u64 (x : Int), .int .u64 (y : Int), .slice ao an ac, .slice ho hn hc, .slice jo jn jc], .int .i64 4] w fun e w' => e = .returned (.bool (okEn L)) ∧ Hid (Below w.heap.size w w') := by
  obtain ⟨W1, hW1⟩ : ∃ W1, w.alloc (.cells #[.int .u64 (x : Int), .int .u64 (y : Int), .slice ao an ac, .slice ho hn hc, .slice jo jn jc] 27) = W1 := ⟨_, rfl⟩
  have b1 : Below w.heap.size w W1 := by rw [← hW1]; exact (Below.refl _ w).alloc (Nat.le_refl _) _
  have q1 : W1.heap[w.heap.size]? = some (.cells #[.int .u64 (x : Int), .int .u64 (y : Int), .slice ao an ac, .slice ho hn hc, .slice jo jn jc] 27 (0, 0)) := by rw [← hW1]; exact alloc_atN _ _
  have y1 := block_cell q1 4
  simp at y1
  have HY1 := hide y1
  have hwW := block_lt q1
  have HWW := hide hwW
  have HR := hide (h.below b1)
  have HL := hide h.num
  have BB := hide b1
  have HW1 := hide hW1
  clear h b1 q1
  go_enter Tryz.func67, Tryz.ntmps67
  by_cases hlong : 64 < jn
  · have hld : decide ((64 : Int) < (jn : Int)) = true := decide_eq_true (by omega)
    have HF : Hid (okEn L = false) := by
      show _ = _
      unfold okEn
      rw [HL.out, decide_eq_false (by omega), Bool.and_false]
    go_wp2
    go_ret
    exact ⟨by rw [HF.out]; rfl, BB.out⟩
  · have hld : decide ((64 : Int) < (jn : Int)) = false := decide_eq_false (by omega)
    have HF : Hid (okEn L = okGo none L) := by
      show _ = _
      unfold okEn
      rw [HL.out, decide_eq_true (by omega), Bool.and_true]
    go_wp2
    go_loopw [9] (fun i wr => ∃ k : Nat, k ≤ jn ∧ i = .int .i64 k ∧ Hid ((∃ r, wr = W1.drewN r) ∧ okGo (lastA L k) (L.drop k) = okGo none L)) (fun i _ => jn - (intOf i).toNat)
    case atStart => exact ⟨0, by omega, rfl, ⟨0, rfl⟩, rfl⟩
    case round =>
      obtain ⟨k, hk, rfl, HS⟩ := hrel
      obtain ⟨r, hr⟩ := HS.out.1
      have hhp : wr.heap = W1.heap := by rw [hr]; rfl
      have BB2 : Hid (Below w.heap.size w wr) := by rw [hr]; exact Go.below_drewN BB.out r
      have DN : Hid (∀ q, ∃ r, wr.drewN q = W1.drewN r) := fun q => ⟨r + q, by rw [hr]; simp [World.drewN, Nat.add_assoc]⟩
      have y1 : wr.cell? ⟨w.heap.size, 4, none⟩ = some (.slice jo jn jc) := by simp only [World.cell?, hhp]; exact HY1.out
      have hwW : w.heap.size < wr.heap.size := by rw [hhp]; exact HWW.out
      clear hr hld
      by_cases hlt : k < jn
      · obtain ⟨e, hx, hd⟩ : ∃ e, L[k]? = some e ∧ L.drop k = e :: L.drop (k + 1) := ⟨_, List.getElem?_eq_getElem (by rw [HL.out]; exact hlt), List.drop_eq_getElem_cons (by rw [HL.out]; exact hlt)⟩
        have hax : lastA L (k + 1) = some e.a := by
          show (if k + 1 = 0 then none else (L[k + 1 - 1]?).map En.a) = _
          rw [if_neg (by omega), Nat.add_sub_cancel, hx]
          rfl
        have HDR : Hid (okGo none L = (abv (lastA L k) e.a && (decide (1 ≤ e.k) && decide (e.k ≤ 5)) && okGo (lastA L (k + 1)) (L.drop (k + 1)))) := by
          show _ = _
          rw [← HS.out.2, hd, okGo, hax]
        obtain ⟨g, of, hao, hgl, hcc⟩ := HR.out.at_ len_En hx
        have c0 : wr.cell? ⟨g, of + k * 5, none⟩ = some (.int .u64 (e.a : Int)) := by simp only [World.cell?, hhp]; exact hcc 0 _ rfl
        have c1 : wr.cell? ⟨g, of + k * 5 + 1, none⟩ = some (.int .i64 e.k) := by simp only [World.cell?, hhp]; exact hcc 1 _ rfl
        have hgw : g < wr.heap.size := by rw [hhp]; exact hgl
        have HKEY : Hid (∀ P : Prop, (k = 0 → lastA L k = none → P) → (∀ (j : Nat) (u : En), k = j + 1 → lastA L k = some u.a → wr.cell? ⟨g, of + j * 5, none⟩ = some (.int .u64 (u.a : Int)) → P) → P) := fun P p1 p2 => by
          rcases Nat.eq_zero_or_pos k with e0 | e0
          · exact p1 e0 (by rw [e0]; rfl)
          · obtain ⟨j, rfl⟩ : ∃ j, k = j + 1 := ⟨k - 1, by omega⟩
            have hy : L[j]? = some (L[j]'(by rw [HL.out]; omega)) := List.getElem?_eq_getElem _
            obtain ⟨g', of', hao', hgl', hc'⟩ := HR.out.at_ len_En hy
            rw [hao] at hao'
            cases hao'
            refine p2 j _ rfl ?_ (by simp only [World.cell?, hhp]; exact hc' 0 _ rfl)
            show (if j + 1 = 0 then none else (L[j + 1 - 1]?).map En.a) = _
            rw [if_neg (by omega), Nat.add_sub_cancel, hy]
            rfl
        subst hao
        clear hcc HS hd hx hax hhp
        by_cases h1 : e.k < 1
        · have h1' : decide (1 ≤ e.k) = false := decide_eq_false (by omega)
          have hd1 : decide (e.k < 1) = true := decide_eq_true (by omega)
          have HF2 : Hid (okEn L = false) := by
            show _ = _
            rw [HF.out, HDR.out, h1']
            simp
          clear HDR
          go_wp2_with fail
          go_quiet (fail)
          go_wp2
          go_ret
          exact ⟨by rw [HF2.out]; rfl, Go.below_drewN BB2.out _⟩
        · have h1' : decide (1 ≤ e.k) = true := decide_eq_true (by omega)
          have hd1 : decide (e.k < 1) = false := decide_eq_false (by omega)
          by_cases h2 : 5 < e.k
          · have h2' : decide (e.k ≤ 5) = false := decide_eq_false (by omega)
            have hd2 : decide (5 < e.k) = true := decide_eq_true (by omega)
            have HF2 : Hid (okEn L = false) := by
              show _ = _
              rw [HF.out, HDR.out, h2']
              simp
            clear HDR
            go_wp2_with fail
            go_quiet (fail)
            go_wp2
            go_ret
            exact ⟨by rw [HF2.out]; rfl, Go.below_drewN BB2.out _⟩
          · have h2' : decide (e.k ≤ 5) = true := decide_eq_true (by omega)
            have hd2 : decide (5 < e.k) = false := decide_eq_false (by omega)
            refine HKEY.out _ (fun hk0 hla => ?_) (fun j u hkj hla e0 => ?_)
            · subst hk0
              rw [hla] at HDR
              clear HKEY hla
              have HF2 : Hid (okGo (lastA L (0 + 1)) (L.drop (0 + 1)) = okGo none L) := by
                show _ = _
                rw [HDR.out, h1', h2', abv]
                simp
              clear HDR
              go_wp2_with fail
              go_quiet (fail)
              go_wp2
              go_roundw
              case rel => exact ⟨0 + 1, by omega, by go_num, DN.out _, HF2.out⟩
              case measure => simp [intOf]; omega
            · subst hkj
              rw [hla] at HDR
              clear HKEY hla
              by_cases h0 : e.a ≤ u.a
              · have h0' : abv (some u.a) e.a = false := decide_eq_false (by omega)
                have h0i : decide ((e.a : Int) ≤ (u.a : Int)) = true := decide_eq_true (by omega)
                have HF2 : Hid (okEn L = false) := by
                  show _ = _
                  rw [HF.out, HDR.out, h0']
                  simp
                clear HDR
                go_wp2_with fail
                go_quiet (fail)
                go_wp2
                go_ret
                exact ⟨by rw [HF2.out]; rfl, Go.below_drewN BB2.out _⟩
              · have h0' : abv (some u.a) e.a = true := decide_eq_true (by omega)
                have h0i : decide ((e.a : Int) ≤ (u.a : Int)) = false := decide_eq_false (by omega)
                have HF2 : Hid (okGo (lastA L (j + 1 + 1)) (L.drop (j + 1 + 1)) = okGo none L) := by
                  show _ = _
                  rw [HDR.out, h0', h1', h2']
                  simp
                clear HDR
                go_wp2_with fail
                go_quiet (fail)
                go_wp2
                go_roundw
                case rel => exact ⟨j + 1 + 1, by omega, by go_num, DN.out _, HF2.out⟩
                case measure => simp [intOf]; omega
      · obtain rfl : jn = k := by omega
        have HRR : Hid (okEn L = true) := by
          show _ = _
          rw [HF.out, ← HS.out.2, List.drop_of_length_le (by rw [HL.out]; omega)]
          rfl
        go_wp2
        go_ret
        exact ⟨by rw [HRR.out]; rfl, BB2.out⟩
end Go.Proofs.YtiijbboigebhcaaGreatDoor
