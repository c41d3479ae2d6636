import Derived.Test.YtmoklddfaocihaaDoorCvA
namespace Go.Proofs.YtmoklddfaocihaaDoor
open Go.RowKit

/-- The walk ahead of its going through. -/
structure WC (lim : Nat) (W : World) (q : Nat) (g : Pg) (p : Pv) : Prop where
  blk : ∃ x, W.heap[q]? = some (.cells (g.cs p ++ [x]).toArray 145 (0, 0))
  ok : g.Ok p lim W
  lq : lim ≤ q
  tab : Tab W
  l2 : 3 < lim
  le : lim ≤ W.heap.size
theorem WC.kept {lim : Nat} {W W' : World} {q : Nat} {g : Pg} {p : Pv} (h : WC lim W q g p) (hb : Below W.heap.size W W') : WC lim W' q g p := by
  obtain ⟨x, hx⟩ := h.blk
  exact ⟨⟨x, (hb.block _ (block_lt hx)).trans hx⟩, h.ok.kept hb h.le, h.lq, h.tab.below hb (Nat.lt_of_lt_of_le h.l2 h.le), h.l2, Nat.le_trans h.le hb.size⟩
theorem WC.cells {lim : Nat} {W : World} {q : Nat} {g : Pg} {p : Pv} (h : WC lim W q g p) : W.cell? ⟨q, 0, none⟩ = some (.slice g.ca p.nc g.cc) ∧ W.cell? ⟨q, 1, none⟩ = some (.slice g.sa p.ns g.sc) ∧ W.cell? ⟨q, 8, none⟩ = some (.slice g.ia p.n g.ic) ∧ q < W.heap.size := by
  obtain ⟨x, hx⟩ := h.blk
  exact ⟨block_cell hx 0, block_cell hx 1, block_cell hx 8, block_lt hx⟩
theorem WC.ents {lim : Nat} {W : World} {q : Nat} {g : Pg} {p : Pv} (h : WC lim W q g p) : W.cell? ⟨q, 2, none⟩ = some (.int .i64 (p.en 0)) ∧ W.cell? ⟨q, 3, none⟩ = some (.int .i64 (p.en 1)) ∧ W.cell? ⟨q, 4, none⟩ = some (.int .i64 (p.en 2)) ∧ W.cell? ⟨q, 5, none⟩ = some (.int .i64 (p.en 3)) ∧ W.cell? ⟨q, 6, none⟩ = some (.int .i64 (p.en 4)) ∧ W.cell? ⟨q, 7, none⟩ = some (.int .i64 (p.en 5)) := by
  obtain ⟨x, hx⟩ := h.blk
  exact ⟨block_cell hx 2, block_cell hx 3, block_cell hx 4, block_cell hx 5, block_cell hx 6, block_cell hx 7⟩
/-- What becomes of a check. -/
def Ck (w : World) (r : Option (Int × Int)) (e : Ending) (w' : World) : Prop := match r with
  | none => e = .returned (.tuple #[]) ∧ Hid (Below w.heap.size w w')
  | some (a, y) => Gu w a y e w'
def sizeF (p : Pv) : Option (Int × Int) := if 256 < p.nc then some (0, 80) else if 128 < p.ns then some (1, 80) else if 1024 < p.n then some (2, 80) else none
set_option maxRecDepth 10000 in
set_option maxHeartbeats 800000 in
theorem checkSizesC {lim : Nat} {W : World} {q : Nat} {g : Pg} {p : Pv} (h : WC lim W q g p) : Calls Tryd.prog 81 #[.pointer (some ⟨q, 0, none⟩)] W (Ck W (sizeF p)) := by
  obtain ⟨c0, c1, c8, ql⟩ := h.cells
  have hlc := h.ok.lc
  have hls := h.ok.ls
  have hli := h.ok.li
  clear h
  unfold sizeF
  generalize p.nc = nc at *
  generalize p.ns = ns at *
  generalize p.n = n at *
  by_cases h1 : 256 < nc
  · rw [if_pos h1]
    unfold Ck Gu
    go_enter Tryd.func81, Tryd.ntmps81
    go_wp2_with fail
    refine (giveUp_any _ _ _).mono ?_
    rintro e w1 ⟨g, rfl, G⟩
    go_wp2
    exact ⟨rfl, g, rfl, G⟩
  · rw [if_neg h1]
    by_cases h2 : 128 < ns
    · rw [if_pos h2]
      unfold Ck Gu
      go_enter Tryd.func81, Tryd.ntmps81
      go_wp2_with fail
      refine (giveUp_any _ _ _).mono ?_
      rintro e w1 ⟨g, rfl, G⟩
      go_wp2
      exact ⟨rfl, g, rfl, G⟩
    · rw [if_neg h2]
      by_cases h3 : 1024 < n
      · rw [if_pos h3]
        unfold Ck Gu
        go_enter Tryd.func81, Tryd.ntmps81
        go_wp2_with fail
        refine (giveUp_any _ _ _).mono ?_
        rintro e w1 ⟨g, rfl, G⟩
        go_wp2
        exact ⟨rfl, g, rfl, G⟩
      · rw [if_neg h3]
        unfold Ck
        go_enter Tryd.func81, Tryd.ntmps81
        go_wp2
        go_end0
        exact ⟨rfl, Below.refl _ _⟩
/-- The first of so many places that is bad. -/
def firstBad (bad : Nat → Option (Int × Int)) : Nat → Option (Int × Int)
  | 0 => none
  | j + 1 => (firstBad bad j).or (bad j)
theorem firstBad_stays {bad : Nat → Option (Int × Int)} {j n : Nat} {r : Int × Int} (hj : j ≤ n) (h : firstBad bad j = some r) : firstBad bad n = some r := by
  induction n with
  | zero =>
    obtain rfl : j = 0 := by omega
    exact h
  | succ n ih =>
    by_cases e : j = n + 1
    · subst e; exact h
    · unfold firstBad; rw [ih (by omega)]; rfl
theorem firstBad_hit {bad : Nat → Option (Int × Int)} {j n : Nat} {r : Int × Int} (hj : j < n) (h0 : firstBad bad j = none) (h : bad j = some r) : firstBad bad n = some r :=
  firstBad_stays (j := j + 1) hj (by unfold firstBad; rw [h0, h]; rfl)
theorem firstBad_next {bad : Nat → Option (Int × Int)} {j : Nat} (h0 : firstBad bad j = none) (h : bad j = none) : firstBad bad (j + 1) = none := by unfold firstBad; rw [h0, h]; rfl
def slotB (p : Pv) (j : Nat) : Option (Int × Int) := if p.S j ≠ 0 ∧ p.S j ≠ 1 then some ((j : Int), 81) else none
def slotF (p : Pv) : Option (Int × Int) := firstBad (slotB p) p.ns
set_option maxRecDepth 10000 in
set_option maxHeartbeats 800000 in
theorem checkSlotsC {lim : Nat} {W : World} {q : Nat} {g : Pg} {p : Pv} (h : WC lim W q g p) : Calls Tryd.prog 82 #[.pointer (some ⟨q, 0, none⟩)] W (Ck W (slotF p)) := by
  obtain ⟨c0, c1, c8, ql⟩ := h.cells
  have hls := h.ok.ls
  have HA := hide h.ok.hs
  have HV := hide h.ok.vs
  have HL := hide h.le
  obtain ⟨r, hr⟩ : ∃ r, slotF p = r := ⟨_, rfl⟩
  rw [hr]
  have HR := hide hr
  clear h c0 c8 hr
  go_enter Tryd.func82, Tryd.ntmps82
  go_wp2
  go_loop [10] (fun i => ∃ j : Nat, j ≤ p.ns ∧ i = .int .i64 (j : Nat) ∧ Hid (firstBad (slotB p) j = none)) (fun i => p.ns - (intOf i).toNat)
  case atStart => exact ⟨0, by omega, rfl, rfl⟩
  case round =>
    obtain ⟨j, hj, rfl, HJ⟩ := hrel
    by_cases hlt : j < p.ns
    · have hv := HV.out j hlt
      obtain ⟨hsa, hsb⟩ := HA.out (by omega)
      have hbl : g.sb < W.heap.size := Nat.lt_of_lt_of_le hsb HL.out
      have HHit : Hid (∀ x y, slotB p j = some (x, y) → r = some (x, y)) := fun x y hb => HR.out.symm.trans (firstBad_hit hlt HJ.out hb)
      have HNx : Hid (slotB p j = none → firstBad (slotB p) (j + 1) = none) := fun hb => firstBad_next HJ.out hb
      unfold slotB at HHit HNx
      rw [hsa] at *
      generalize p.S j = s at *
      by_cases h0 : s = 0
      · subst h0
        go_wp2
        go_round
        case rel => exact ⟨j + 1, by omega, by go_num, HNx.out (by simp)⟩
        case measure => simp [intOf]; omega
      · by_cases h1 : s = 1
        · subst h1
          go_wp2
          go_round
          case rel => exact ⟨j + 1, by omega, by go_num, HNx.out (by simp)⟩
          case measure => simp [intOf]; omega
        · have hr := HHit.out j 81 (by rw [if_pos ⟨h0, h1⟩])
          have e0 : (s != 0) = true := by simpa using h0
          have e1 : (s != 1) = true := by simpa using h1
          subst hr
          go_wp2_with fail
          refine (giveUp_any _ _ _).mono ?_
          rintro e w1 ⟨g, rfl, G⟩
          go_wp2
          exact ⟨rfl, g, rfl, G⟩
    · obtain rfl : j = p.ns := by omega
      have hr : r = none := HR.out.symm.trans HJ.out
      subst hr
      go_wp2
      go_end0
      exact ⟨rfl, Below.refl _ _⟩
end Go.Proofs.YtmoklddfaocihaaDoor
