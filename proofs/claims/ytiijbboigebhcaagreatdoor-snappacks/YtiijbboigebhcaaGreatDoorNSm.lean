import Derived.Test.YtiijbboigebhcaaGreatDoorNUn
import Derived.BigQuiet
namespace Go.Proofs.YtiijbboigebhcaaGreatDoor
open Go.RowKit Crc

theorem cell_heap {W W' : World} (h : W'.heap = W.heap) {a : Addr} {v : Value} (hc : W.cell? a = some v) : W'.cell? a = some v := by simp only [World.cell?, h]; exact hc
set_option maxRecDepth 10000 in
set_option maxHeartbeats 3200000 in
theorem sameBook_any (x y : Nat) {base1 base2 : Nat} {w : World} {a1 a2 b1 b2 c1 c2 : Option Addr} {na ac1 ac2 nb bc1 bc2 nc cc1 cc2 : Nat} {A : List Ac} {H : List Ho} {J : List En} (h1 : OwnBk base1 w (.slice a1 na ac1) (.slice b1 nb bc1) (.slice c1 nc cc1) A H J) (h2 : OwnBk base2 w (.slice a2 na ac2) (.slice b2 nb bc2) (.slice c2 nc cc2) A H J) (hna : na ≤ 1000) (hnb : nb ≤ 1000) (hnc : nc ≤ 1000) :
    Calls Tryz.prog 87 #[.agg #[.int .u64 (x : Int), .int .u64 (y : Int), .slice a1 na ac1, .slice b1 nb bc1, .slice c1 nc cc1], .agg #[.int .u64 (x : Int), .int .u64 (y : Int), .slice a2 na ac2, .slice b2 nb bc2, .slice c2 nc cc2]] w fun e w' => e = .returned (.bool true) ∧ Hid (Below w.heap.size w w') := by
  obtain ⟨W2, hW2⟩ : ∃ W2, (w.alloc (.cells #[.int .u64 (x : Int), .int .u64 (y : Int), .slice a1 na ac1, .slice b1 nb bc1, .slice c1 nc cc1] 27)).alloc (.cells #[.int .u64 (x : Int), .int .u64 (y : Int), .slice a2 na ac2, .slice b2 nb bc2, .slice c2 nc cc2] 27) = W2 := ⟨_, rfl⟩
  have e1 : (w.alloc (.cells #[.int .u64 (x : Int), .int .u64 (y : Int), .slice a1 na ac1, .slice b1 nb bc1, .slice c1 nc cc1] 27)).heap.size = w.heap.size + 1 := by simp
  have s2 : W2.heap.size = w.heap.size + 1 + 1 := by rw [← hW2]; simp
  have b0 : Below w.heap.size w W2 := by rw [← hW2]; exact ((Below.refl _ w).alloc (Nat.le_refl _) _).alloc (by simp) _
  have q1 : W2.heap[w.heap.size]? = some (.cells #[.int .u64 (x : Int), .int .u64 (y : Int), .slice a1 na ac1, .slice b1 nb bc1, .slice c1 nc cc1] 27 (0, 0)) := by rw [← hW2]; exact ((World.grownBy_alloc _ _ none).block _ (by rw [e1]; omega) (by simp)).trans (alloc_atN _ _)
  have q2 : W2.heap[w.heap.size + 1]? = some (.cells #[.int .u64 (x : Int), .int .u64 (y : Int), .slice a2 na ac2, .slice b2 nb bc2, .slice c2 nc cc2] 27 (0, 0)) := by rw [← hW2, ← e1]; exact alloc_atN _ _
  have y0 := block_cell q1 0
  have z0 := block_cell q2 0
  have y1 := block_cell q1 1
  have z1 := block_cell q2 1
  have y2 := block_cell q1 2
  have z2 := block_cell q2 2
  have y3 := block_cell q1 3
  have z3 := block_cell q2 3
  have y4 := block_cell q1 4
  have z4 := block_cell q2 4
  simp at y0 z0 y1 z1 y2 z2 y3 z3 y4 z4
  have YAc := hide (And.intro y2 z2)
  have YHo := hide (And.intro y3 z3)
  have YEn := hide (And.intro y4 z4)
  have HSZ : Hid (w.heap.size + 1 < W2.heap.size) := by show _ < _; omega
  have hszz := HSZ.out
  have hszy : w.heap.size < W2.heap.size := by omega
  have BB := hide b0
  have R1 := hide (h1.past (below_none b0) (fun g e => by cases e))
  have R2 := hide (h2.past (below_none b0) (fun g e => by cases e))
  have HLAc := hide h1.a.num'
  have HLHo := hide h1.h.num'
  have HLEn := hide h1.j.num'
  have HW2 := hide hW2
  clear h1 h2 b0 q1 q2 e1 s2
  go_enter Tryz.func87, Tryz.ntmps87
  go_wp2
  go_loopw [5] (fun i wr => ∃ k : Nat, k ≤ na ∧ i = .int .i64 k ∧ Hid (∃ r, wr = W2.drewN r)) (fun i _ => na - (intOf i).toNat)
  case atStart => exact ⟨0, by omega, rfl, 0, rfl⟩
  case round =>
    skip
    obtain ⟨k, hk, rfl, HS⟩ := hrel
    obtain ⟨r, hr⟩ := HS.out
    have hh : wr.heap = W2.heap := by rw [hr]; rfl
    have DN : Hid (∀ q, ∃ r, wr.drewN q = W2.drewN r) := fun q => ⟨r + q, by rw [hr]; simp [World.drewN, Nat.add_assoc]⟩
    have p1 : wr.cell? ⟨w.heap.size, 2, none⟩ = some (.slice a1 na ac1) := by simp only [World.cell?, hh]; exact YAc.out.1
    have p2 : wr.cell? ⟨w.heap.size + 1, 2, none⟩ = some (.slice a2 na ac2) := by simp only [World.cell?, hh]; exact YAc.out.2
    have hl1 : w.heap.size + 1 < wr.heap.size := by rw [hh]; exact HSZ.out
    by_cases hlt : k < na
    · obtain ⟨e, hx⟩ : ∃ e, A[k]? = some e := ⟨_, List.getElem?_eq_getElem (by rw [HLAc.out]; exact hlt)⟩
      obtain ⟨g1, hg1, hgl1, -, -, hc1⟩ := R1.out.a.at_ len_Ac hx
      obtain ⟨g2, hg2, hgl2, -, -, hc2⟩ := R2.out.a.at_ len_Ac hx
      have c0 := cell_heap hh (hc1 0 _ rfl)
      have d0 := cell_heap hh (hc2 0 _ rfl)
      have c1 := cell_heap hh (hc1 1 _ rfl)
      have d1 := cell_heap hh (hc2 1 _ rfl)
      have c2 := cell_heap hh (hc1 2 _ rfl)
      have d2 := cell_heap hh (hc2 2 _ rfl)
      have c3 := cell_heap hh (hc1 3 _ rfl)
      have d3 := cell_heap hh (hc2 3 _ rfl)
      simp only [Nat.add_zero] at c0 d0
      have hw1 : g1 < wr.heap.size := by rw [hh]; exact hgl1
      have hw2 : g2 < wr.heap.size := by rw [hh]; exact hgl2
      subst hg1
      subst hg2
      clear hr hh HS hc1 hc2 hx
      go_wp2_with fail
      go_quiet (fail)
      go_wp2
      go_roundw
      case rel => exact ⟨k + 1, by omega, by go_num, DN.out _⟩
      case measure => simp [intOf]; omega
    · obtain rfl : na = k := by omega
      have DNP : Hid (∃ r, wr = W2.drewN r) := HS.out
      clear hr hh HS DN
      go_wp2
      go_loopw [6] (fun i wr => ∃ k : Nat, k ≤ nb ∧ i = .int .i64 k ∧ Hid (∃ r, wr = W2.drewN r)) (fun i _ => nb - (intOf i).toNat)
      case atStart => exact ⟨0, by omega, rfl, DNP.out⟩
      case round =>
        clear DNP
        obtain ⟨k, hk, rfl, HS⟩ := hrel
        obtain ⟨r, hr⟩ := HS.out
        have hh : wr.heap = W2.heap := by rw [hr]; rfl
        have DN : Hid (∀ q, ∃ r, wr.drewN q = W2.drewN r) := fun q => ⟨r + q, by rw [hr]; simp [World.drewN, Nat.add_assoc]⟩
        have p1 : wr.cell? ⟨w.heap.size, 3, none⟩ = some (.slice b1 nb bc1) := by simp only [World.cell?, hh]; exact YHo.out.1
        have p2 : wr.cell? ⟨w.heap.size + 1, 3, none⟩ = some (.slice b2 nb bc2) := by simp only [World.cell?, hh]; exact YHo.out.2
        have hl1 : w.heap.size + 1 < wr.heap.size := by rw [hh]; exact HSZ.out
        by_cases hlt : k < nb
        · obtain ⟨e, hx⟩ : ∃ e, H[k]? = some e := ⟨_, List.getElem?_eq_getElem (by rw [HLHo.out]; exact hlt)⟩
          obtain ⟨g1, hg1, hgl1, -, -, hc1⟩ := R1.out.h.at_ len_Ho hx
          obtain ⟨g2, hg2, hgl2, -, -, hc2⟩ := R2.out.h.at_ len_Ho hx
          have c0 := cell_heap hh (hc1 0 _ rfl)
          have d0 := cell_heap hh (hc2 0 _ rfl)
          have c1 := cell_heap hh (hc1 1 _ rfl)
          have d1 := cell_heap hh (hc2 1 _ rfl)
          have c2 := cell_heap hh (hc1 2 _ rfl)
          have d2 := cell_heap hh (hc2 2 _ rfl)
          simp only [Nat.add_zero] at c0 d0
          have hw1 : g1 < wr.heap.size := by rw [hh]; exact hgl1
          have hw2 : g2 < wr.heap.size := by rw [hh]; exact hgl2
          subst hg1
          subst hg2
          clear hr hh HS hc1 hc2 hx
          go_wp2_with fail
          go_quiet (fail)
          go_wp2
          go_roundw
          case rel => exact ⟨k + 1, by omega, by go_num, DN.out _⟩
          case measure => simp [intOf]; omega
        · obtain rfl : nb = k := by omega
          have DNP : Hid (∃ r, wr = W2.drewN r) := HS.out
          clear hr hh HS DN
          go_wp2
          go_loopw [7] (fun i wr => ∃ k : Nat, k ≤ nc ∧ i = .int .i64 k ∧ Hid (∃ r, wr = W2.drewN r)) (fun i _ => nc - (intOf i).toNat)
          case atStart => exact ⟨0, by omega, rfl, DNP.out⟩
          case round =>
            clear DNP
            obtain ⟨k, hk, rfl, HS⟩ := hrel
            obtain ⟨r, hr⟩ := HS.out
            have hh : wr.heap = W2.heap := by rw [hr]; rfl
            have DN : Hid (∀ q, ∃ r, wr.drewN q = W2.drewN r) := fun q => ⟨r + q, by rw [hr]; simp [World.drewN, Nat.add_assoc]⟩
            have p1 : wr.cell? ⟨w.heap.size, 4, none⟩ = some (.slice c1 nc cc1) := by simp only [World.cell?, hh]; exact YEn.out.1
            have p2 : wr.cell? ⟨w.heap.size + 1, 4, none⟩ = some (.slice c2 nc cc2) := by simp only [World.cell?, hh]; exact YEn.out.2
            have hl1 : w.heap.size + 1 < wr.heap.size := by rw [hh]; exact HSZ.out
            by_cases hlt : k < nc
            · obtain ⟨e, hx⟩ : ∃ e, J[k]? = some e := ⟨_, List.getElem?_eq_getElem (by rw [HLEn.out]; exact hlt)⟩
              obtain ⟨g1, hg1, hgl1, -, -, hc1⟩ := R1.out.j.at_ len_En hx
              obtain ⟨g2, hg2, hgl2, -, -, hc2⟩ := R2.out.j.at_ len_En hx
              have c0 := cell_heap hh (hc1 0 _ rfl)
              have d0 := cell_heap hh (hc2 0 _ rfl)
              have c1 := cell_heap hh (hc1 1 _ rfl)
              have d1 := cell_heap hh (hc2 1 _ rfl)
              have c2 := cell_heap hh (hc1 2 _ rfl)
              have d2 := cell_heap hh (hc2 2 _ rfl)
              have c3 := cell_heap hh (hc1 3 _ rfl)
              have d3 := cell_heap hh (hc2 3 _ rfl)
              have c4 := cell_heap hh (hc1 4 _ rfl)
              have d4 := cell_heap hh (hc2 4 _ rfl)
              simp only [Nat.add_zero] at c0 d0
              have hw1 : g1 < wr.heap.size := by rw [hh]; exact hgl1
              have hw2 : g2 < wr.heap.size := by rw [hh]; exact hgl2
              subst hg1
              subst hg2
              clear hr hh HS hc1 hc2 hx
              go_wp2_with fail
              go_quiet (fail)
              go_wp2
              go_roundw
              case rel => exact ⟨k + 1, by omega, by go_num, DN.out _⟩
              case measure => simp [intOf]; omega
            · obtain rfl : nc = k := by omega
              have BF : Hid (Below w.heap.size w wr) := by rw [hr]; exact Go.below_drewN BB.out r
              clear hr hh HS DN
              go_wp2
              go_ret
              exact ⟨rfl, BF.out⟩
end Go.Proofs.YtiijbboigebhcaaGreatDoor
