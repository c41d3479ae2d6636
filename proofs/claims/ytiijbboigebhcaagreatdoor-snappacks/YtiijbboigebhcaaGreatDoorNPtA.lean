import Derived.Test.YtiijbboigebhcaaGreatDoorM14
import Derived.Test.YtiijbboigebhcaaGreatDoorNSndH
import Derived.BigQuiet
namespace Go.Proofs.YtiijbboigebhcaaGreatDoor
open Go.RowKit Crc

def okAc (L : List Ac) : Bool := rises Ac.a 0 L && decide (L.length ≤ 64)
def okHo (L : List Ho) : Bool := rises Ho.a 0 L && decide (L.length ≤ 64)
theorem Rw.num {α : Type} {base : Nat} {w : World} {e : TypeId} {z : Nat} {f : α → List Value} {ao : Option Addr} {n cap : Nat} {L : List α} (h : Rw base w e z f (.slice ao n cap) L) : L.length = n := by
  obtain ⟨_, _, e⟩ := h.form
  cases e
  rfl
set_option maxRecDepth 10000 in
theorem sound_Ac {base : Nat} {w : World} {ao : Option Addr} {n cap : Nat} {L : List Ac} (hn : n ≤ 1000) (h : Rw base w 63 4 Ac.cells (.slice ao n cap) L) : Calls Tryz.prog 50 #[.slice ao n cap] w fun e w' => e = .returned (.bool (okAc L)) ∧ Hid (Below w.heap.size w w') := by
  have HR := hide (rising_Ac 64 h.num hn h)
  have HE : Hid (okAc L = (rises Ac.a 0 L && decide (n ≤ 64))) := by
    show _ = _
    rw [← h.num]
    rfl
  clear h
  go_enter Tryz.func50, Tryz.ntmps50
  go_wp2_with fail
  refine HR.out.mono ?_
  rintro e w1 ⟨rfl, G⟩
  go_wp2
  go_ret
  exact ⟨by rw [HE.out]; rfl, G.out⟩
set_option maxRecDepth 10000 in
theorem sound_Ho {base : Nat} {w : World} {ao : Option Addr} {n cap : Nat} {L : List Ho} (hn : n ≤ 1000) (h : Rw base w 65 3 Ho.cells (.slice ao n cap) L) : Calls Tryz.prog 51 #[.slice ao n cap] w fun e w' => e = .returned (.bool (okHo L)) ∧ Hid (Below w.heap.size w w') := by
  have HR := hide (rising_Ho 64 h.num hn h)
  have HE : Hid (okHo L = (rises Ho.a 0 L && decide (n ≤ 64))) := by
    show _ = _
    rw [← h.num]
    rfl
  clear h
  go_enter Tryz.func51, Tryz.ntmps51
  go_wp2_with fail
  refine HR.out.mono ?_
  rintro e w1 ⟨rfl, G⟩
  go_wp2
  go_ret
  exact ⟨by rw [HE.out]; rfl, G.out⟩
/-- Lines: do their numbers rise, and are their kinds right? -/
def abv : Option Nat → Nat → Bool
  | none, _ => true
  | some a, b => decide (a < b)
def okGo : Option Nat → List En → Bool
  | _, [] => true
  | o, x :: r => abv o x.a && (decide (1 ≤ x.k) && decide (x.k ≤ 5)) && okGo (some x.a) r
def okEn (L : List En) : Bool := okGo none L && decide (L.length ≤ 64)
theorem len_En (x : En) : x.cells.length = 5 := rfl
def lastA (L : List En) (k : Nat) : Option Nat := if k = 0 then none else (L[k - 1]?).map En.a
set_option maxRecDepth 10000 in
set_option maxHeartbeats 3200000 in
theorem sound_En {base : Nat} {w : World} {ao : Option Addr} {n cap : Nat} {L : List En} (hn : n ≤ 1000) (h : Rw base w 67 5 En.cells (.slice ao n cap) L) : Calls Tryz.prog 52 #[.slice ao n cap] w fun e w' => e = .returned (.bool (okEn L)) ∧ Hid (Below w.heap.size w w') := by
  have HR := hide h
  have HL := hide h.num
  clear h
  go_enter Tryz.func52, Tryz.ntmps52
  go_wp2
  go_loopw [7] (fun i wr => ∃ k : Nat, k ≤ n ∧ i = .int .i64 k ∧ Hid (Below w.heap.size w wr ∧ okGo (lastA L k) (L.drop k) = okGo none L)) (fun i _ => n - (intOf i).toNat)
  case atStart => exact ⟨0, by omega, rfl, Below.refl _ _, rfl⟩
  case round =>
    obtain ⟨k, hk, rfl, HS⟩ := hrel
    by_cases hlt : k < n
    · obtain ⟨x, hx, hd⟩ : ∃ x, L[k]? = some x ∧ L.drop k = x :: L.drop (k + 1) := ⟨_, List.getElem?_eq_getElem (by rw [HL.out]; exact hlt), List.drop_eq_getElem_cons (by rw [HL.out]; exact hlt)⟩
      have hax : lastA L (k + 1) = some x.a := by
        show (if k + 1 = 0 then none else (L[k + 1 - 1]?).map En.a) = _
        rw [if_neg (by omega), Nat.add_sub_cancel, hx]
        rfl
      have HDR : Hid (okGo none L = (abv (lastA L k) x.a && (decide (1 ≤ x.k) && decide (x.k ≤ 5)) && okGo (lastA L (k + 1)) (L.drop (k + 1)))) := by
        show _ = _
        rw [← HS.out.2, hd, okGo, hax]
      obtain ⟨g, hao, hgl, -, -, hc⟩ := HR.out.at_ len_En hx
      have c0 := (HS.out.1.cell (p := ⟨g, k * 5 + 0, none⟩) hgl).trans (hc 0 _ rfl)
      have c1 := (HS.out.1.cell (p := ⟨g, k * 5 + 1, none⟩) hgl).trans (hc 1 _ rfl)
      have c2 := (HS.out.1.cell (p := ⟨g, k * 5 + 2, none⟩) hgl).trans (hc 2 _ rfl)
      have c3 := (HS.out.1.cell (p := ⟨g, k * 5 + 3, none⟩) hgl).trans (hc 3 _ rfl)
      have c4 := (HS.out.1.cell (p := ⟨g, k * 5 + 4, none⟩) hgl).trans (hc 4 _ rfl)
      simp only [Nat.add_zero] at c0
      have hgw : g < wr.heap.size := Nat.lt_of_lt_of_le hgl HS.out.1.size
      have HB := hide HS.out.1
      obtain ⟨W1, hW1⟩ : ∃ W1, wr.alloc (.cells #[.int .u64 (x.a : Int), .int .i64 x.k, .int .u64 (x.b : Int), .int .u64 (x.c : Int), .int .u64 (x.d : Int)] 67) = W1 := ⟨_, rfl⟩
      have q1 : W1.heap[wr.heap.size]? = some (.cells #[.int .u64 (x.a : Int), .int .i64 x.k, .int .u64 (x.b : Int), .int .u64 (x.c : Int), .int .u64 (x.d : Int)] 67 (0, 0)) := by rw [← hW1]; exact alloc_atN _ _
      have bW : Below w.heap.size w W1 := by rw [← hW1]; exact HB.out.alloc HB.out.size _
      have BW := hide bW
      have d0 := block_cell q1 0
      have d1 := block_cell q1 1
      simp at d0 d1
      have HKEY : Hid (∀ P : Prop, (k = 0 → lastA L k = none → P) → (∀ (j : Nat) (y : En), k = j + 1 → lastA L k = some y.a → W1.cell? ⟨g, j * 5, none⟩ = some (.int .u64 (y.a : Int)) → P) → P) := fun P p1 p2 => by
        rcases Nat.eq_zero_or_pos k with e | e
        · exact p1 e (by rw [e]; rfl)
        · obtain ⟨j, rfl⟩ : ∃ j, k = j + 1 := ⟨k - 1, by omega⟩
          have hy : L[j]? = some (L[j]'(by rw [HL.out]; omega)) := List.getElem?_eq_getElem _
          obtain ⟨g', hao', hgl', -, -, hc'⟩ := HR.out.at_ len_En hy
          rw [hao] at hao'
          cases hao'
          refine p2 j _ rfl ?_ ((bW.cell (p := ⟨g, j * 5 + 0, none⟩) hgl).trans (hc' 0 _ rfl))
          show (if j + 1 = 0 then none else (L[j + 1 - 1]?).map En.a) = _
          rw [if_neg (by omega), Nat.add_sub_cancel, hy]
          rfl
      subst hao
      clear hc HS hd hx q1 HB bW hax
      refine HKEY.out _ (fun hk0 hla => ?_) (fun j y hkj hla e0 => ?_)
      · subst hk0
        rw [hla] at HDR
        clear HKEY hla
        by_cases h1 : x.k < 1
        · have h1' : decide (1 ≤ x.k) = false := decide_eq_false (by omega)
          have hd1 : decide (x.k < 1) = true := decide_eq_true (by omega)
          have HF : Hid (okEn L = false) := by
            show _ = _
            unfold okEn
            rw [HDR.out, h1']
            simp
          clear HDR
          go_wp2_with fail
          go_quiet (fail)
          go_wp2
          go_ret
          exact ⟨by rw [HF.out]; rfl, Go.below_drewN BW.out _⟩
        · have h1' : decide (1 ≤ x.k) = true := decide_eq_true (by omega)
          have hd1 : decide (x.k < 1) = false := decide_eq_false (by omega)
          by_cases h2 : 5 < x.k
          · have h2' : decide (x.k ≤ 5) = false := decide_eq_false (by omega)
            have hd2 : decide (5 < x.k) = true := decide_eq_true (by omega)
            have HF : Hid (okEn L = false) := by
              show _ = _
              unfold okEn
              rw [HDR.out, h2']
              simp
            clear HDR
            go_wp2_with fail
            go_quiet (fail)
            go_wp2
            go_ret
            exact ⟨by rw [HF.out]; rfl, Go.below_drewN BW.out _⟩
          · have h2' : decide (x.k ≤ 5) = true := decide_eq_true (by omega)
            have hd2 : decide (5 < x.k) = false := decide_eq_false (by omega)
            have HF : Hid (okGo (lastA L (0 + 1)) (L.drop (0 + 1)) = okGo none L) := by
              show _ = _
              rw [HDR.out, h1', h2', abv]
              simp
            clear HDR
            go_wp2_with fail
            go_quiet (fail)
            go_wp2
            exact ⟨⟨0 + 1, by omega, by go_num, Go.below_drewN BW.out _, HF.out⟩, by simp [intOf]; omega⟩
      · subst hkj
        rw [hla] at HDR
        clear HKEY hla
        by_cases h0 : x.a ≤ y.a
        · have h0' : abv (some y.a) x.a = false := decide_eq_false (by omega)
          have h0i : decide ((x.a : Int) ≤ (y.a : Int)) = true := decide_eq_true (by omega)
          have HF : Hid (okEn L = false) := by
            show _ = _
            unfold okEn
            rw [HDR.out, h0']
            simp
          clear HDR
          go_wp2_with fail
          go_quiet (fail)
          go_wp2
          go_ret
          exact ⟨by rw [HF.out]; rfl, Go.below_drewN BW.out _⟩
        · have h0' : abv (some y.a) x.a = true := decide_eq_true (by omega)
          have h0i : decide ((x.a : Int) ≤ (y.a : Int)) = false := decide_eq_false (by omega)
          by_cases h1 : x.k < 1
          · have h1' : decide (1 ≤ x.k) = false := decide_eq_false (by omega)
            have hd1 : decide (x.k < 1) = true := decide_eq_true (by omega)
            have HF : Hid (okEn L = false) := by
              show _ = _
              unfold okEn
              rw [HDR.out, h1']
              simp
            clear HDR
            go_wp2_with fail
            go_quiet (fail)
            go_wp2
            go_ret
            exact ⟨by rw [HF.out]; rfl, Go.below_drewN BW.out _⟩
          · have h1' : decide (1 ≤ x.k) = true := decide_eq_true (by omega)
            have hd1 : decide (x.k < 1) = false := decide_eq_false (by omega)
            by_cases h2 : 5 < x.k
            · have h2' : decide (x.k ≤ 5) = false := decide_eq_false (by omega)
              have hd2 : decide (5 < x.k) = true := decide_eq_true (by omega)
              have HF : Hid (okEn L = false) := by
                show _ = _
                unfold okEn
                rw [HDR.out, h2']
                simp
              clear HDR
              go_wp2_with fail
              go_quiet (fail)
              go_wp2
              go_ret
              exact ⟨by rw [HF.out]; rfl, Go.below_drewN BW.out _⟩
            · have h2' : decide (x.k ≤ 5) = true := decide_eq_true (by omega)
              have hd2 : decide (5 < x.k) = false := decide_eq_false (by omega)
              have HF : Hid (okGo (lastA L (j + 1 + 1)) (L.drop (j + 1 + 1)) = okGo none L) := by
                show _ = _
                rw [HDR.out, h0', h1', h2']
                simp
              clear HDR
              go_wp2_with fail
              go_quiet (fail)
              go_wp2
              exact ⟨⟨j + 1 + 1, by omega, by go_num, Go.below_drewN BW.out _, HF.out⟩, by simp [intOf]; omega⟩
    · obtain rfl : k = n := by omega
      have hr : okGo none L = true := by
        rw [← HS.out.2, List.drop_of_length_le (by rw [HL.out]; omega)]
        rfl
      have HRR : Hid (okEn L = decide (k ≤ 64)) := by
        show _ = _
        unfold okEn
        rw [hr, HL.out, Bool.true_and]
      clear hr
      have hd : decide (k ≤ 64) = decide ((k : Int) ≤ 64) := decide_eq_decide.2 (by omega)
      go_wp2
      go_ret
      exact ⟨by rw [HRR.out, hd]; rfl, HS.out.1⟩
end Go.Proofs.YtiijbboigebhcaaGreatDoor
