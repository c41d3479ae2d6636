import Derived.Test.YtmoklddfaocihaaDoorCvO
import Derived.BigQuiet
namespace Go.Proofs.YtmoklddfaocihaaDoor
open Go.RowKit

/-- A list of kinds that lies in a block of ints. -/
def KI (w : World) (v : Value) (l : List Bool) : Prop := ∃ ao cap, v = .slice ao l.length cap ∧ l.length ≤ cap ∧ (0 < l.length → ∃ (b : Nat) (cs : Array Value), ao = some ⟨b, 0, none⟩ ∧ w.heap[b]? = some (.cells cs 3 (0, 0)) ∧ ∀ (j : Nat) (x : Bool), l[j]? = some x → cs[j]? = some (iv x))
theorem KI.nil (w : World) : KI w (.slice none 0 0) [] := ⟨none, 0, rfl, Nat.le_refl _, fun h => by simp at h⟩
theorem KI.kept {w w' : World} {v : Value} {l : List Bool} (h : KI w v l) (hb : ∀ (b : Nat) (cs : Array Value), w.heap[b]? = some (.cells cs 3 (0, 0)) → w'.heap[b]? = w.heap[b]?) : KI w' v l := by
  obtain ⟨ao, cap, h1, h2, h3⟩ := h
  refine ⟨ao, cap, h1, h2, fun e => ?_⟩
  obtain ⟨b, cs, e1, e2, e3⟩ := h3 e
  exact ⟨b, cs, e1, (hb b cs e2).trans e2, e3⟩
theorem KI.below {w w' : World} {v : Value} {l : List Bool} (h : KI w v l) (hb : Below w.heap.size w w') : KI w' v l := h.kept (fun b _ e => hb.block b (block_lt e))
theorem KI.own {base : Nat} {w : World} {v : Value} {l : List Bool} (h : w.ownsRow base 3 1 v l.length (l.map iv)) : KI w v l := by
  rcases h.2 with ⟨h1, h0⟩ | ⟨g, cap, cur, h1, hb, hc, hnc, _, hsz, htk⟩
  · have : l = [] := List.eq_nil_of_length_eq_zero h0
    subst this
    rw [h1]
    exact KI.nil w
  · refine ⟨_, cap, h1, hnc, fun _ => ⟨g, _, rfl, hc, fun j x hx => ?_⟩⟩
    have hj := (List.getElem?_eq_some_iff.1 hx).1
    have h2 : (l.map iv)[j]? = some (iv x) := by rw [List.getElem?_map, hx]; rfl
    rw [← htk, List.getElem?_take, if_pos (by omega)] at h2
    simpa using h2
theorem KI.cell {w : World} {ao : Option Addr} {n cap : Nat} {l : List Bool} (h : KI w (.slice ao n cap) l) : n = l.length ∧ l.length ≤ cap ∧ (0 < l.length → ∃ b, ao = some ⟨b, 0, none⟩ ∧ b < w.heap.size ∧ ∀ (j : Nat) (x : Bool), l[j]? = some x → w.cell? ⟨b, j, none⟩ = some (iv x)) := by
  obtain ⟨ao', cap', h1, h2, h3⟩ := h
  cases h1
  refine ⟨rfl, h2, fun e => ?_⟩
  obtain ⟨b, cs, e1, e2, e3⟩ := h3 e
  exact ⟨b, e1, block_lt e2, fun j x hx => (block_cell e2 j).trans (e3 j x hx)⟩
theorem KI.val {w : World} {v : Value} {l : List Bool} (h : KI w v l) : ∃ ao cap, v = .slice ao l.length cap := by
  obtain ⟨ao, cap, h1, _⟩ := h
  exact ⟨ao, cap, h1⟩
theorem KI.take {w : World} {ao : Option Addr} {cap : Nat} {l : List Bool} (h : KI w (.slice ao l.length cap) l) (r : Nat) (hr : r ≤ l.length) : KI w (.slice ao r cap) (l.take r) := by
  obtain ⟨ao', cap', h1, h2, h3⟩ := h
  cases h1
  refine ⟨ao, cap, by rw [List.length_take, Nat.min_eq_left hr], by rw [List.length_take]; omega, fun e => ?_⟩
  rw [List.length_take] at e
  obtain ⟨b, cs, e1, e2, e3⟩ := h3 (by omega)
  refine ⟨b, cs, e1, e2, fun j x hx => e3 j x ?_⟩
  rw [List.getElem?_take] at hx
  split at hx
  · exact hx
  · cases hx
set_option maxRecDepth 10000 in
set_option maxHeartbeats 1600000 in
theorem copyR {W : World} {v : Value} {l : List Bool} (h : KI W v l) (hl : l.length ≤ 2048) : Calls Tryd.prog 73 #[v] W fun e w' => ∃ v', e = .returned v' ∧ Hid (w'.ownsRow W.heap.size 3 1 v' l.length (l.map iv) ∧ Below W.heap.size W w') := by
  obtain ⟨i0, hi, hz0, hz1, hz2⟩ := info_parts Tryd.infoI
  obtain ⟨ao, cap, rfl⟩ := h.val
  have hcap := h.cell.2.1
  have HK := hide h.cell.2.2
  clear h
  go_enter Tryd.func73, Tryd.ntmps73
  go_upto_region 3 with fail
  go_loopw [3, 4] (fun v i wr => ∃ j : Nat, j ≤ l.length ∧ i = .int .i64 (j : Nat) ∧ Hid (wr.ownsRow W.heap.size 3 1 v j ((l.take j).map iv) ∧ Below W.heap.size W wr)) (fun _ i _ => l.length - (intOf i).toNat)
  case atStart => exact ⟨0, by omega, rfl, World.ownsRow_nil _ _ _ _, Below.refl _ _⟩
  case round =>
    obtain ⟨j, hj, rfl, HJ⟩ := hrel
    by_cases hlt : j < l.length
    · obtain ⟨b, hao, hbl, hc⟩ := HK.out (by omega)
      obtain ⟨x, hx⟩ : ∃ x, l[j]? = some x := ⟨_, List.getElem?_eq_getElem hlt⟩
      have hv := hc j x hx
      have hv2 : wr.cell? ⟨b, j, none⟩ = some (iv x) := (HJ.out.2.cell (p := ⟨b, j, none⟩) hbl).trans hv
      have hbl2 : b < wr.heap.size := Nat.lt_of_lt_of_le hbl HJ.out.2.size
      have HOW : Hid (∀ o, (wr.alloc o).ownsRow W.heap.size 3 1 u3 j ((l.take j).map iv)) := fun o => row_quietT HJ.out.1 (World.grownBy_alloc _ _ none)
      have HSZ : Hid (∀ o, W.heap.size ≤ (wr.alloc o).heap.size) := fun o => by
        have := HJ.out.2.size
        simp
        omega
      have HNX : Hid (∀ o v' w', w'.ownsRow W.heap.size 3 1 v' (j + 1) ((l.take j).map iv ++ [iv x]) → (wr.alloc o).grownBy w' u3.ownBlock → w'.ownsRow W.heap.size 3 1 v' (j + 1) ((l.take (j + 1)).map iv) ∧ Below W.heap.size W w') := fun o v' w' h1 h2 => by
        refine ⟨?_, ?_⟩
        · rw [List.take_add_one, hx, List.map_append]; exact h1
        · exact (HJ.out.2.alloc HJ.out.2.size o).grown h2 (HSZ.out o) (fun g e => (HJ.out.1.lt g e).1)
      subst hao
      clear HJ HK hc hv
      unfold iv at hv2
      go_wp2_with (at_builtin; refine wpList_append_own _ rfl (.tmp 11) (.tmp 16) 23 rfl W.heap.size 3 i0 (.int .i64 0) 1 8 Tryd.underlying23 hi hz0 hz1 hz2 rfl (by decide) u3 j _ rfl (HOW.out _) ⟨wr.heap.size, 0, none⟩ 1 1 [iv x] rfl rfl (cell_one_new _ _ _) (by simp [Value.oneCell', iv]) (by unfold maxLen; omega) (by omega) (HSZ.out _) ?_; intro v' w5 ho hg _)
      have HN := hide (HNX.out _ _ _ ho hg)
      clear ho hg
      go_roundw
      case rel => exact ⟨j + 1, by omega, by go_num, HN.out⟩
      case measure => simp [intOf]; omega
    · obtain rfl : j = l.length := by omega
      have hrow := HJ.out
      rw [List.take_length] at hrow
      have HD := hide hrow
      clear hrow HJ HK
      go_wp2
      go_ret
      exact ⟨_, rfl, HD⟩
theorem iv_ne (a b : Bool) : ((if a then (1 : Int) else 0) != (if b then 1 else 0)) = (a != b) := by cases a <;> cases b <;> rfl
set_option maxRecDepth 10000 in
set_option maxHeartbeats 1600000 in
theorem sameR {W : World} {v u : Value} {l m : List Bool} (h : KI W v l) (h2 : KI W u m) (hl : l.length ≤ 2048) (hm : m.length ≤ 2048) : Calls Tryd.prog 101 #[v, u] W fun e w' => e = .returned (.bool (decide (l = m))) ∧ Hid (Below W.heap.size W w') := by
  obtain ⟨ao, cap, rfl⟩ := h.val
  obtain ⟨bo, cap2, rfl⟩ := h2.val
  have hcap := h.cell.2.1
  have HK := hide h.cell.2.2
  have hcap2 := h2.cell.2.1
  have HK2 := hide h2.cell.2.2
  clear h h2
  obtain ⟨r, hr⟩ : ∃ r, decide (l = m) = r := ⟨_, rfl⟩
  rw [hr]
  have HR := hide hr
  clear hr
  go_enter Tryd.func101, Tryd.ntmps101
  by_cases hle : l.length = m.length
  · have HLE := hide hle
    have e1 : ((l.length : Int) != (m.length : Int)) = false := by simp [hle]
    clear hle
    go_upto_region 4 with fail
    go_loopw [5] (fun i wr => ∃ j : Nat, j ≤ l.length ∧ i = .int .i64 (j : Nat) ∧ Hid (l.take j = m.take j ∧ Below W.heap.size W wr)) (fun i _ => l.length - (intOf i).toNat)
    case atStart => exact ⟨0, by omega, rfl, rfl, Below.refl _ _⟩
    case round =>
      obtain ⟨j, hj, rfl, HJ⟩ := hrel
      by_cases hlt : j < l.length
      · obtain ⟨b, hao, hbl, hc⟩ := HK.out (by omega)
        have hlm : j < m.length := HLE.out ▸ hlt
        obtain ⟨b2, hbo, hbl2, hc2⟩ := HK2.out (by omega)
        obtain ⟨x, hx⟩ : ∃ x, l[j]? = some x := ⟨_, List.getElem?_eq_getElem hlt⟩
        obtain ⟨y, hy⟩ : ∃ y, m[j]? = some y := ⟨_, List.getElem?_eq_getElem hlm⟩
        have hv : wr.cell? ⟨b, j, none⟩ = some (iv x) := (HJ.out.2.cell (p := ⟨b, j, none⟩) hbl).trans (hc j x hx)
        have hv2 : wr.cell? ⟨b2, j, none⟩ = some (iv y) := (HJ.out.2.cell (p := ⟨b2, j, none⟩) hbl2).trans (hc2 j y hy)
        have hbw : b < wr.heap.size := Nat.lt_of_lt_of_le hbl HJ.out.2.size
        have hbw2 : b2 < wr.heap.size := Nat.lt_of_lt_of_le hbl2 HJ.out.2.size
        have HB := hide HJ.out.2
        have HT := hide HJ.out.1
        have HX := hide hx
        have HY := hide hy
        subst hao
        subst hbo
        clear HJ HK HK2 hc hc2 hbl hbl2 hx hy
        unfold iv at hv hv2
        have hne := iv_ne x y
        generalize (if x = true then (1 : Int) else 0) = xi at *
        generalize (if y = true then (1 : Int) else 0) = yi at *
        by_cases hxy : x = y
        · have HD : Hid (l.take (j + 1) = m.take (j + 1) ∧ Below W.heap.size W wr.drew) := ⟨by rw [List.take_add_one, List.take_add_one, HX.out, HY.out, HT.out, hxy], HB.out.drew⟩
          have e2 : (xi != yi) = false := by rw [hne]; simpa using hxy
          clear hne
          go_upto_region 6 with fail
          go_region
          go_wp2
          go_roundw
          case rel => exact ⟨j + 1, by omega, by go_num, HD.out⟩
          case measure => simp [intOf]; omega
        · have hr : r = false := by
            rw [← HR.out]
            refine decide_eq_false (fun e => hxy ?_)
            have := HX.out
            rw [e, HY.out] at this
            cases this
            rfl
          subst hr
          have e2 : (xi != yi) = true := by rw [hne]; simpa using hxy
          clear hne
          go_upto_region 6 with fail
          go_region
          go_wp2
          go_ret
          exact ⟨rfl, HB.out.drew⟩
      · obtain rfl : j = l.length := by omega
        have hr : r = true := by
          rw [← HR.out]
          refine decide_eq_true ?_
          have := HJ.out.1
          rwa [List.take_length, HLE.out, List.take_length] at this
        subst hr
        have HB := hide HJ.out.2
        clear HJ HK HK2
        go_wp2
        go_ret
        exact ⟨rfl, HB⟩
  · have e1 : ((l.length : Int) != (m.length : Int)) = true := by simp; omega
    have hr : r = false := by rw [← HR.out]; exact decide_eq_false (fun e => hle (by rw [e]))
    subst hr
    clear hle
    go_wp2
    go_ret
    exact ⟨rfl, Below.refl _ _⟩
end Go.Proofs.YtmoklddfaocihaaDoor
