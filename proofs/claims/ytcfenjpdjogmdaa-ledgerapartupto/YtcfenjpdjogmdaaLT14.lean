import Derived.Test.YtcfenjpdjogmdaaLT13
import Derived.Deep.CutBlock
import Derived.Deep.DeepCutAuto
import Derived.Test.YtcfenjpdjogmdaaLT09
import Derived.Test.YtcfenjpdjogmdaaLT10
import Derived.Test.YtcfenjpdjogmdaaLT11
import Derived.Test.YtcfenjpdjogmdaaLT12
namespace Go.Proofs.Ytcfenjpdjogmdaa
open Go.RowKit

/-- Between i and j lies what is not yet told; ahead of i nothing is above p, behind j all is. -/
structure EqR (a b p i j : Nat) (D : Nat → Nat) : Prop where
  ai : a < i
  ij : i ≤ j + 1
  jb : j < b
  pa : D a = p
  lo : ∀ k, a ≤ k → k < i → D k ≤ p
  hi : ∀ k, j < k → k < b → p < D k
theorem EqR.up {a b p i j : Nat} {D : Nat → Nat} (h : EqR a b p i j D) (hij : i ≤ j) (hl : ¬ p < D i) : EqR a b p (i + 1) j D := ⟨by have := h.ai; omega, by omega, h.jb, h.pa, fun k h1 h2 => by
  by_cases e : k = i
  · rw [e]; omega
  · exact h.lo k h1 (by omega), h.hi⟩
theorem EqR.down {a b p i j : Nat} {D : Nat → Nat} (h : EqR a b p i (j + 1) D) (hij : i ≤ j + 1) (hl : p < D (j + 1)) : EqR a b p i j D := ⟨h.ai, hij, by have := h.jb; omega, h.pa, h.lo, fun k h1 h2 => by
  by_cases e : k = j + 1
  · rw [e]; exact hl
  · exact h.hi k (by omega) h2⟩
theorem EqR.swap {a b p i j : Nat} {D : Nat → Nat} (h : EqR a b p i (j + 1) D) (hij : i < j + 1) (hi : p < D i) (hj : D (j + 1) ≤ p) : EqR a b p (i + 1) j (swp D i (j + 1)) := by
  have ha := h.ai
  have hb := h.jb
  refine ⟨by omega, by omega, by omega, ?_, fun k h1 h2 => ?_, fun k h1 h2 => ?_⟩
  · rw [swp_o D (by omega) (by omega)]; exact h.pa
  · by_cases e : k = i
    · rw [e, swp_l]; exact hj
    · rw [swp_o D e (by omega)]; exact h.lo k h1 (by omega)
  · by_cases e : k = j + 1
    · rw [e, swp_r]; exact hi
    · rw [swp_o D (by omega) e]; exact h.hi k (by omega) h2
set_option maxRecDepth 100000 in
set_option maxHeartbeats 1000000 in
theorem partEqZ (B g cap n a b c : Nat) (D0 : Nat → Nat) (hn : n < 2305843009213693952) (hac : a ≤ c) (hcb : c < b) (hbn : b ≤ n) (w : World) (hr : RowF w g cap n D0) (hB : B ≤ g) (hlo : ∀ k, a ≤ k → k < b → D0 c ≤ D0 k) :
    Calls Try.prog 90 #[.slice (some ⟨g, 0, none⟩) n cap, .int .i64 (a : Nat), .int .i64 (b : Nat), .int .i64 (c : Nat)] w fun e w' => ∃ m : Nat, e = .returned (.int .i64 (m : Nat)) ∧ Hid (∃ D, a < m ∧ m ≤ b ∧ (∀ k, a ≤ k → k < m → D k = D0 c) ∧ (∀ k, m ≤ k → k < b → D0 c < D k) ∧ ZS B w g cap n a b D0 w' D) := by
  have HL := hide lessZ
  obtain ⟨x, hx⟩ : ∃ x, D0 a = x := ⟨_, rfl⟩
  obtain ⟨z, hz⟩ : ∃ z, D0 c = z := ⟨_, rfl⟩
  obtain ⟨l, hle⟩ : ∃ l, b = l + 1 := ⟨b - 1, by omega⟩
  subst hle
  have Z0 := hide (ZS.begin a (l + 1) hr hB)
  have a0 : w.cell? ⟨g, a, none⟩ = some (.int .u64 (x : Int)) := by rw [← hx]; exact hr.cell (by omega)
  have a1 : w.cell? ⟨g, c, none⟩ = some (.int .u64 (z : Int)) := by rw [← hz]; exact hr.cell (by omega)
  have a2 : g < w.heap.size := hr.lt
  have a3 := hr.free a
  have a4 := hr.free c
  go_enter Try.func90, Try.ntmps90
  go_upto_region 1 with fail
  go_cut [] (fun wx => Hid (ZS B w g cap n a (l + 1) D0 wx (swp D0 a c)))
  case first =>
    by_cases hac' : a = c
    · subst hac'
      have exz : x = z := by rw [← hx, ← hz]
      subst exz
      have NX : Hid (∀ V, ZS B w g cap n a (l + 1) D0 V D0 → ZS B w g cap n a (l + 1) D0 ((V.setCell ⟨g, a, none⟩ (.int .u64 (x : Int))).setCell ⟨g, a, none⟩ (.int .u64 (x : Int))) (swp D0 a a)) := fun V hV => by
        have h := hV.swap (i := a) (j := a) (by omega) (by omega) (by omega) (by omega)
        rw [hx] at h
        exact h
      clear hx hz hr hlo a1 a4
      go_region
      go_wp2
      go_meet
      case rel => exact NX.out _ Z0.out.drew
    · have NX : Hid (∀ V, ZS B w g cap n a (l + 1) D0 V D0 → ZS B w g cap n a (l + 1) D0 ((V.setCell ⟨g, a, none⟩ (.int .u64 (z : Int))).setCell ⟨g, c, none⟩ (.int .u64 (x : Int))) (swp D0 a c)) := fun V hV => by
        have h := hV.swap (i := a) (j := c) (by omega) (by omega) (by omega) (by omega)
        rw [hx, hz] at h
        exact h
      clear hx hz hr hlo
      go_region
      go_wp2
      go_meet
      case rel => exact NX.out _ Z0.out.drew
  case rest =>
  clear a0 a1 a2 a3 a4 Z0
  have I0 : Hid (∃ D, EqR a (l + 1) z (a + 1) l D ∧ ZS B w g cap n a (l + 1) D0 wc D) := ⟨swp D0 a c, ⟨by omega, by omega, by omega, by rw [swp_l]; exact hz, fun k h1 h2 => by
    have e : k = a := by omega
    rw [e, swp_l, hz]; exact Nat.le_refl _, fun k h1 h2 => by omega⟩, hcut.out⟩
  have HLO : Hid (∀ k, a ≤ k → k < l + 1 → z ≤ D0 k) := fun k h1 h2 => by rw [← hz]; exact hlo k h1 h2
  have HZE := hide hz
  have hal : a ≤ l := by omega
  clear hx hz hr hlo hcut hcb hac
  go_wp2
  go_loopw [9, 10] (fun s t wr => ∃ i j : Nat, i ≤ j + 1 ∧ a < i ∧ j ≤ l ∧ s = .int .i64 (i : Nat) ∧ t = .int .i64 (j : Nat) ∧ Hid (∃ D, EqR a (l + 1) z i j D ∧ ZS B w g cap n a (l + 1) D0 wr D)) (fun s t _ => (intOf t + 1 - intOf s).toNat)
  case atStart => exact ⟨a + 1, l, by omega, by omega, by omega, by go_num, rfl, I0.out⟩
  case round =>
    obtain ⟨i, j, hij, hai, hjl, rfl, rfl, HJ⟩ := hrel
    clear I0
    obtain ⟨wo, hwo⟩ : ∃ wo, wo = wr := ⟨_, rfl⟩
    subst hwo
    go_upto_block 2 with fail
    go_cut [9] (fun s wx => ∃ i' : Nat, i ≤ i' ∧ i' ≤ j + 1 ∧ s = .int .i64 (i' : Nat) ∧ Hid (∃ D, EqR a (l + 1) z i' j D ∧ (j < i' ∨ z < D i') ∧ ZS B w g cap n a (l + 1) D0 wx D))
    case first =>
      go_wp2
      go_loopw [9] (fun s wr => ∃ i' : Nat, i ≤ i' ∧ i' ≤ j + 1 ∧ s = .int .i64 (i' : Nat) ∧ Hid (∃ D, EqR a (l + 1) z i' j D ∧ ZS B w g cap n a (l + 1) D0 wr D)) (fun s _ => j + 1 - (intOf s).toNat)
      case atStart => exact ⟨i, Nat.le_refl _, hij, rfl, HJ.out⟩
      case round =>
        clear HJ
        obtain ⟨i', h1, h2, rfl, HJ⟩ := hrel
        by_cases hle : i' ≤ j
        · obtain ⟨D, hE, hZ⟩ := HJ.out
          have y0 : wr.cell? ⟨g, a, none⟩ = some (.int .u64 (z : Int)) := by rw [← hE.pa]; exact hZ.row.cell (by omega)
          obtain ⟨v, hv⟩ : ∃ v, D i' = v := ⟨_, rfl⟩
          have y1 : wr.cell? ⟨g, i', none⟩ = some (.int .u64 (v : Int)) := by rw [← hv]; exact hZ.row.cell (by have := hE.jb; have := hE.ij; omega)
          have y2 : g < wr.heap.size := hZ.row.lt
          by_cases hd : z < v
          · have FIN : Hid (∀ q, ∃ D, EqR a (l + 1) z i' j D ∧ (j < i' ∨ z < D i') ∧ ZS B w g cap n a (l + 1) D0 (wr.drewN q) D) := fun q => ⟨D, hE, .inr (by rw [hv]; exact hd), hZ.drewN q⟩
            clear hE hZ HJ hv
            go_upto_region 3 with fail
            go_quiet (first | (go_at_call 89; refine Calls.quiet_of_same (HL.out _ _ _)))
            go_wp2
            go_meet
            case rel => exact ⟨i', h1, h2, rfl, FIN.out _⟩
          · have NX : Hid (∀ q, ∃ D, EqR a (l + 1) z (i' + 1) j D ∧ ZS B w g cap n a (l + 1) D0 (wr.drewN q) D) := fun q => ⟨D, hE.up hle (by rw [hv]; exact hd), hZ.drewN q⟩
            clear hE hZ HJ hv
            go_upto_region 3 with fail
            go_quiet (first | (go_at_call 89; refine Calls.quiet_of_same (HL.out _ _ _)))
            go_wp2
            go_roundw
            case rel => exact ⟨i' + 1, by omega, by omega, by go_num, NX.out _⟩
            case measure => simp [intOf]; omega
        · have FIN : Hid (∀ q, ∃ D, EqR a (l + 1) z i' j D ∧ (j < i' ∨ z < D i') ∧ ZS B w g cap n a (l + 1) D0 (wr.drewN q) D) := fun q => by
            obtain ⟨D, g1, g2⟩ := HJ.out
            exact ⟨D, g1, .inl (by omega), g2.drewN q⟩
          clear HJ
          go_upto_region 3 with fail
          go_quiet (fail)
          go_wp2
          go_meet
          case rel => exact ⟨i', h1, h2, rfl, FIN.out _⟩
    case rest =>
    clear HJ
    obtain ⟨i2, k1, k2, rfl, HJ⟩ := hcut
    go_upto_block 4 with fail
    go_cut [10] (fun s wx => ∃ j' : Nat, j' ≤ j ∧ i2 ≤ j' + 1 ∧ s = .int .i64 (j' : Nat) ∧ Hid (∃ D, EqR a (l + 1) z i2 j' D ∧ (j' < i2 ∨ (z < D i2 ∧ D j' ≤ z)) ∧ ZS B w g cap n a (l + 1) D0 wx D))
    case first =>
      go_wp2
      go_loopw [10] (fun s wr => ∃ j' : Nat, j' ≤ j ∧ i2 ≤ j' + 1 ∧ s = .int .i64 (j' : Nat) ∧ Hid (∃ D, EqR a (l + 1) z i2 j' D ∧ (j' < i2 ∨ z < D i2) ∧ ZS B w g cap n a (l + 1) D0 wr D)) (fun s _ => (intOf s).toNat)
      case atStart => exact ⟨j, Nat.le_refl _, k2, rfl, HJ.out⟩
      case round =>
        clear HJ
        obtain ⟨j', h1, h2, rfl, HJ0⟩ := hrel
        by_cases hle : i2 ≤ j'
        · obtain ⟨s, rfl⟩ : ∃ s, j' = s + 1 := ⟨j' - 1, by omega⟩
          have hleI : (i2 : Int) ≤ (s : Int) + 1 := by omega
          have HGT : Hid (∃ D, EqR a (l + 1) z i2 (s + 1) D ∧ z < D i2 ∧ ZS B w g cap n a (l + 1) D0 wr D) := by
            obtain ⟨D, g1, g2, g3⟩ := HJ0.out
            exact ⟨D, g1, by omega, g3⟩
          obtain ⟨D, hE, hG, hZ⟩ := HGT.out
          have y0 : wr.cell? ⟨g, a, none⟩ = some (.int .u64 (z : Int)) := by rw [← hE.pa]; exact hZ.row.cell (by omega)
          obtain ⟨v, hv⟩ : ∃ v, D (s + 1) = v := ⟨_, rfl⟩
          have y1 : wr.cell? ⟨g, s + 1, none⟩ = some (.int .u64 (v : Int)) := by rw [← hv]; exact hZ.row.cell (by omega)
          have y2 : g < wr.heap.size := hZ.row.lt
          by_cases hd : z < v
          · have NX : Hid (∀ q, ∃ D, EqR a (l + 1) z i2 s D ∧ (s < i2 ∨ z < D i2) ∧ ZS B w g cap n a (l + 1) D0 (wr.drewN q) D) := fun q => ⟨D, hE.down hle (by rw [hv]; exact hd), .inr hG, hZ.drewN q⟩
            clear hE hZ HJ0 hv hG HGT
            go_upto_region 5 with fail
            go_quiet (first | (go_at_call 89; refine Calls.quiet_of_same (HL.out _ _ _)))
            go_wp2
            go_roundw
            case rel => exact ⟨s, by omega, by omega, by go_num, NX.out _⟩
            case measure => simp [intOf]
          · have FIN : Hid (∀ q, ∃ D, EqR a (l + 1) z i2 (s + 1) D ∧ (s + 1 < i2 ∨ (z < D i2 ∧ D (s + 1) ≤ z)) ∧ ZS B w g cap n a (l + 1) D0 (wr.drewN q) D) := fun q => ⟨D, hE, .inr ⟨hG, by rw [hv]; omega⟩, hZ.drewN q⟩
            clear hE hZ HJ0 hv hG HGT
            go_upto_region 5 with fail
            go_quiet (first | (go_at_call 89; refine Calls.quiet_of_same (HL.out _ _ _)))
            go_wp2
            go_meet
            case rel => exact ⟨s + 1, h1, h2, rfl, FIN.out _⟩
        · have FIN : Hid (∀ q, ∃ D, EqR a (l + 1) z i2 j' D ∧ (j' < i2 ∨ (z < D i2 ∧ D j' ≤ z)) ∧ ZS B w g cap n a (l + 1) D0 (wr.drewN q) D) := fun q => by
            obtain ⟨D, g1, g2, g3⟩ := HJ0.out
            exact ⟨D, g1, .inl (by omega), g3.drewN q⟩
          clear HJ0
          go_upto_region 5 with fail
          go_quiet (fail)
          go_wp2
          go_meet
          case rel => exact ⟨j', h1, h2, rfl, FIN.out _⟩
    case rest =>
    clear HJ
    obtain ⟨j2, m1, m2, rfl, HJ⟩ := hcut
    by_cases hgt : j2 < i2
    · have FIN : Hid (∃ D, a < i2 ∧ i2 ≤ l + 1 ∧ (∀ k, a ≤ k → k < i2 → D k = D0 c) ∧ (∀ k, i2 ≤ k → k < l + 1 → D0 c < D k) ∧ ZS B w g cap n a (l + 1) D0 wc D) := by
        obtain ⟨D, hE, hx, hZ⟩ := HJ.out
        refine ⟨D, hE.ai, by omega, fun k h1 h2 => ?_, fun k h1 h2 => ?_, hZ⟩
        · have h3 := hE.lo k h1 h2
          have h4 := hZ.perm.all (P := fun v => z ≤ v) HLO.out k h1 (by omega)
          rw [HZE.out]
          show D k = z
          omega
        · rw [HZE.out]
          exact hE.hi k (by omega) h2
      clear HJ
      go_wp2
      go_ret
      exact ⟨i2, rfl, FIN.out⟩
    · obtain ⟨s, rfl⟩ : ∃ s, j2 = s + 1 := ⟨j2 - 1, by omega⟩
      obtain ⟨D, hE, hx, hZ⟩ := HJ.out
      have hlt : i2 < s + 1 := by
        by_cases e : i2 = s + 1
        · rw [e] at hx
          omega
        · omega
      obtain ⟨u, hu⟩ : ∃ u, D i2 = u := ⟨_, rfl⟩
      obtain ⟨v, hv⟩ : ∃ v, D (s + 1) = v := ⟨_, rfl⟩
      have b0 : wc.cell? ⟨g, i2, none⟩ = some (.int .u64 (u : Int)) := by rw [← hu]; exact hZ.row.cell (by omega)
      have b1 : wc.cell? ⟨g, s + 1, none⟩ = some (.int .u64 (v : Int)) := by rw [← hv]; exact hZ.row.cell (by omega)
      have b2 : g < wc.heap.size := hZ.row.lt
      have b3 := hZ.row.free i2
      have b4 := hZ.row.free (s + 1)
      have HZ := hide hZ
      have NX : Hid (∀ V, ZS B w g cap n a (l + 1) D0 V D → ∃ D, EqR a (l + 1) z (i2 + 1) s D ∧ ZS B w g cap n a (l + 1) D0 ((V.setCell ⟨g, i2, none⟩ (.int .u64 (v : Int))).setCell ⟨g, s + 1, none⟩ (.int .u64 (u : Int))) D) := fun V hV => by
        refine ⟨_, hE.swap hlt (by omega) (by omega), ?_⟩
        have h := hV.swap (i := i2) (j := s + 1) (by omega) (by omega) (by omega) (by omega)
        rw [hu, hv] at h
        exact h
      clear hE hx hZ HJ hu hv
      go_upto_region 8 with fail
      go_region
      go_wp2
      go_roundw
      case rel => exact ⟨i2 + 1, s, by omega, by omega, by omega, by go_num, by go_num, NX.out _ HZ.out.drew⟩
      case measure => simp [intOf]; omega
end Go.Proofs.Ytcfenjpdjogmdaa
namespace Go.Proofs.Ytcfenjpdjogmdaa
open Go.RowKit

/-- What breakPatterns owes. -/
def BreakOk (B g cap n : Nat) : Prop := ∀ (a b : Nat) (D : Nat → Nat) (V : World), a + 12 < b → b ≤ n → RowF V g cap n D → Calls Try.prog 85 #[.slice (some ⟨g, 0, none⟩) n cap, .int .i64 (a : Nat), .int .i64 (b : Nat)] V fun e w' => e = .returned (.tuple #[]) ∧ Hid (∃ D', ZS B V g cap n a b D w' D')
theorem PdR.of {B : Nat} {w : World} {g cap n a b p q : Nat} {D0 D D' : Nat → Nat} {W W' : World} (h : PdR a b p q D) (hz : ZS B w g cap n a b D0 W D) (h' : ZS B W g cap n p q D W' D') : PdR a b p q D' ∧ ZS B w g cap n a b D0 W' D' := ⟨h.perm h'.perm, hz.call h' h.ap h.qb⟩
set_option maxRecDepth 100000 in
set_option maxHeartbeats 4000000 in
theorem pdqZ (B g cap n : Nat) (hn : n < 2305843009213693952) (hB : B ≤ g) (hbk : BreakOk B g cap n) : ∀ (d a b : Nat) (lim : Int) (D0 : Nat → Nat) (w : World), b - a = d → a ≤ b → b ≤ n → RowF w g cap n D0 → PreR a b D0 →
    Calls Try.prog 81 #[.slice (some ⟨g, 0, none⟩) n cap, .int .i64 (a : Nat), .int .i64 (b : Nat), .int .i64 lim] w fun e w' => e = .returned (.tuple #[]) ∧ Hid (∃ D, SortR a b D ∧ ZS B w g cap n a b D0 w' D) := by
  intro d
  induction d using Nat.strongRecOn with
  | _ d IH0 =>
  intro a b lim D0 w hd hab hbn hr hpre
  have IH : Hid (∀ (a' b' : Nat) (lim : Int) (D0 : Nat → Nat) (w : World), b' - a' < b - a → a' ≤ b' → b' ≤ n → RowF w g cap n D0 → PreR a' b' D0 →
    Calls Try.prog 81 #[.slice (some ⟨g, 0, none⟩) n cap, .int .i64 (a' : Nat), .int .i64 (b' : Nat), .int .i64 lim] w fun e w' => e = .returned (.tuple #[]) ∧ Hid (∃ D, SortR a' b' D ∧ ZS B w g cap n a' b' D0 w' D)) := fun a' b' lim D0 w h => IH0 (b' - a') (by omega) a' b' lim D0 w rfl
  have HL := hide lessZ
  have HBK := hide hbk
  have HBG := hide hB
  have I0 : Hid (∃ D, PdR a b a b D ∧ ZS B w g cap n a b D0 w D) := ⟨D0, PdR.start hab hpre, ZS.begin a b hr hB⟩
  clear IH0 hr hpre hbk hB hd
  go_enter Try.func81, Try.ntmps81
  go_wp2
  go_loopw [1, 2, 3, 8, 9] (fun sa sb sl s8 s9 wr => ∃ (p q : Nat) (lm : Int) (wb wp : Bool), sa = .int .i64 (p : Nat) ∧ sb = .int .i64 (q : Nat) ∧ sl = .int .i64 lm ∧ s8 = .bool wb ∧ s9 = .bool wp ∧ Hid (∃ D, PdR a b p q D ∧ ZS B w g cap n a b D0 wr D)) (fun sa sb _ _ _ _ => (intOf sb - intOf sa).toNat)
  case atStart => exact ⟨a, b, lim, true, true, rfl, rfl, rfl, rfl, rfl, I0.out⟩
  case round =>
    obtain ⟨p, q, lm, wb, wp, rfl, rfl, rfl, rfl, rfl, HJ⟩ := hrel
    clear I0
    obtain ⟨hap, hpq, hqb⟩ : a ≤ p ∧ p ≤ q ∧ q ≤ b := by
      obtain ⟨D, h1, h2⟩ := HJ.out
      exact ⟨h1.ap, h1.pq, h1.qb⟩
    by_cases hlen : q ≤ p + 12
    · obtain ⟨D, hP, hZ⟩ := HJ.out
      have HC := hide (isortZ B g cap n p q D (by omega) hpq (by omega) wr hZ.row HBG.out)
      have HF : Hid (∀ D' V, SortR p q D' → ZS B wr g cap n p q D V D' → SortR a b D' ∧ ZS B w g cap n a b D0 V D') := fun D' V h1 h2 => ⟨hP.fin D' h2.perm h1, hZ.call h2 hP.ap hP.qb⟩
      clear hP hZ HJ
      go_wp2_with fail
      refine HC.out.mono ?_
      rintro e w2 ⟨rfl, G⟩
      have FIN : Hid (∃ D, SortR a b D ∧ ZS B w g cap n a b D0 w2 D) := by
        obtain ⟨D', g1, g2⟩ := G.out
        exact ⟨D', HF.out D' w2 g1 g2⟩
      clear HC HF G
      go_wp2
      refine bodyPost_ret (results_none rfl _ _ _) rfl ?_
      exact ⟨rfl, FIN.out⟩
    · by_cases hlm : lm = 0
      · subst hlm
        obtain ⟨D, hP, hZ⟩ := HJ.out
        have HC := hide (heapZ B g cap n p q D hn (by omega) (by omega) wr hZ.row HBG.out)
        have HF : Hid (∀ D' V, SortR p q D' → ZS B wr g cap n p q D V D' → SortR a b D' ∧ ZS B w g cap n a b D0 V D') := fun D' V h1 h2 => ⟨hP.fin D' h2.perm h1, hZ.call h2 hP.ap hP.qb⟩
        clear hP hZ HJ
        go_wp2_with fail
        refine HC.out.mono ?_
        rintro e w2 ⟨rfl, G⟩
        have FIN : Hid (∃ D, SortR a b D ∧ ZS B w g cap n a b D0 w2 D) := by
          obtain ⟨D', g1, g2⟩ := G.out
          exact ⟨D', HF.out D' w2 g1 g2⟩
        clear HC HF G
        go_wp2
        refine bodyPost_ret (results_none rfl _ _ _) rfl ?_
        exact ⟨rfl, FIN.out⟩
      · have dl : (lm == 0) = false := by simp [hlm]
        go_upto_if 35 with fail
        clear hlm dl
        go_cut [3] from 19 to 133 (fun s wx => (∃ lm : Int, s = .int .i64 lm) ∧ Hid (∃ D, PdR a b p q D ∧ ZS B w g cap n a b D0 wx D))
        case first =>
          cases wb with
          | true =>
            go_wp2
            go_meet
            case rel => exact ⟨⟨_, rfl⟩, HJ.out⟩
          | false =>
            obtain ⟨D, hP, hZ⟩ := HJ.out
            have HC := hide (HBK.out p q D wr (by omega) (by omega) hZ.row)
            have HF := hide (fun D' V (h : ZS B wr g cap n p q D V D') => hP.of hZ h)
            clear hP hZ HJ
            go_wp2_with fail
            refine HC.out.mono ?_
            rintro e w2 ⟨rfl, G⟩
            have NX : Hid (∃ D, PdR a b p q D ∧ ZS B w g cap n a b D0 w2 D) := by
              obtain ⟨D', g1⟩ := G.out
              exact ⟨D', HF.out D' w2 g1⟩
            clear HC HF G
            go_wp2
            go_meet
            case rel => exact ⟨⟨_, rfl⟩, NX.out⟩
        case rest =>
        clear HJ
        obtain ⟨⟨lm2, rfl⟩, HJ⟩ := hcut
        obtain ⟨D, hP, hZ⟩ := HJ.out
        have HC := hide (chooseZ B g cap n p q D (by omega) (by omega) hn HBG.out wc hZ.row)
        have HF : Hid (∀ V, RowF V g cap n D → Below B wc V → ∃ D, PdR a b p q D ∧ ZS B w g cap n a b D0 V D) := fun V h1 h2 => ⟨D, hP, h1, hZ.perm, hZ.bel.trans h2, hZ.bg⟩
        clear hP hZ HJ
        go_wp2_with fail
        refine HC.out.mono ?_
        rintro e w3 ⟨x, hh, rfl, G⟩
        have HJ := hide (HF.out w3 G.out.2.2.1 G.out.2.2.2)
        obtain ⟨hx1, hx2⟩ : p ≤ x ∧ x < q := ⟨G.out.1, G.out.2.1⟩
        clear HC HF G
        go_upto_if 50 with fail
        go_cut [11, 12] from 19 to 133 (fun s t wx => ∃ x : Nat, p ≤ x ∧ x < q ∧ s = .int .i64 (x : Nat) ∧ (∃ hh : Int, t = .int .i64 hh) ∧ Hid (∃ D, PdR a b p q D ∧ ZS B w g cap n a b D0 wx D))
        case first =>
          by_cases h2 : hh = 2
          · subst h2
            obtain ⟨D, hP, hZ⟩ := HJ.out
            have HC := hide (reverseZ B g cap n p q D hn (by omega) (by omega) w3 hZ.row HBG.out)
            have HF := hide (fun D' V (h : ZS B w3 g cap n p q D V D') => hP.of hZ h)
            clear hP hZ HJ
            go_wp2_with fail
            refine HC.out.mono ?_
            rintro e w4 ⟨rfl, G⟩
            have NX : Hid (∃ D, PdR a b p q D ∧ ZS B w g cap n a b D0 w4 D) := by
              obtain ⟨D', g1⟩ := G.out
              exact ⟨D', HF.out D' w4 g1⟩
            clear HC HF G
            go_wp2
            go_meet
            case rel => exact ⟨q - 1 - (x - p), by omega, by omega, by go_num, ⟨_, rfl⟩, NX.out⟩
          · have d2 : (hh == 2) = false := by simp [h2]
            go_wp2
            go_meet
            case rel => exact ⟨x, hx1, hx2, rfl, ⟨_, rfl⟩, HJ.out⟩
        case rest =>
        clear HJ hx1 hx2
        obtain ⟨x, hx1, hx2, rfl, ⟨hh, rfl⟩, HJ⟩ := hcut
        go_upto_region 15 with fail
        go_cut [68] from 19 to 133 (fun s wx => (∃ bb : Bool, s = .bool bb) ∧ Hid (∃ D, PdR a b p q D ∧ ZS B w g cap n a b D0 wx D))
        case first =>
          cases wb with
          | false =>
            go_wp2
            go_meet
            case rel => exact ⟨⟨_, rfl⟩, HJ.out⟩
          | true =>
            cases wp with
            | false =>
              go_wp2
              go_meet
              case rel => exact ⟨⟨_, rfl⟩, HJ.out⟩
            | true =>
              go_wp2
              go_meet
              case rel => exact ⟨⟨_, rfl⟩, HJ.out⟩
        case rest =>
        clear HJ
        obtain ⟨⟨bb, rfl⟩, HJ⟩ := hcut
        go_upto_if 68 with fail
        go_cut [] from 19 to 133 (fun wx => Hid (∃ D, PdR a b p q D ∧ ZS B w g cap n a b D0 wx D))
        case first =>
          cases bb with
          | false =>
            go_wp2
            go_meet
            case rel => exact HJ.out
          | true =>
            obtain ⟨D, hP, hZ⟩ := HJ.out
            have HC := hide (partialZ B g cap n p q D hn (by omega) (by omega) wc hZ.row HBG.out hP.pre)
            have HF := hide (fun D' V (h : ZS B wc g cap n p q D V D') => hP.of hZ h)
            have HF2 := hide hP.fin
            clear hP hZ HJ
            go_wp2_with fail
            refine HC.out.mono ?_
            rintro e w4 (⟨rfl, G⟩ | ⟨rfl, G⟩)
            · have FIN : Hid (∃ D, SortR a b D ∧ ZS B w g cap n a b D0 w4 D) := by
                obtain ⟨D', g1, g2⟩ := G.out
                exact ⟨D', HF2.out D' g2.perm g1, (HF.out D' w4 g2).2⟩
              clear HC HF HF2 G
              go_wp2
              refine bodyPost_ret (results_none rfl _ _ _) rfl ?_
              exact ⟨rfl, FIN.out⟩
            · have NX : Hid (∃ D, PdR a b p q D ∧ ZS B w g cap n a b D0 w4 D) := by
                obtain ⟨D', g1⟩ := G.out
                exact ⟨D', HF.out D' w4 g1⟩
              clear HC HF HF2 G
              go_wp2
              go_meet
              case rel => exact NX.out
        case rest =>
        clear HJ
        have HJ : Hid (∃ D, PdR a b p q D ∧ ZS B w g cap n a b D0 wc D) := hcut
        clear hcut
        go_upto_region 17 with fail
        go_cut [87] from 19 to 133 (fun s wx => ∃ bb : Bool, s = .bool bb ∧ Hid (∃ D, PdR a b p q D ∧ (bb = true → ∀ k, p ≤ k → k < q → D x ≤ D k) ∧ ZS B w g cap n a b D0 wx D))
        case first =>
          obtain ⟨D, hP, hZ⟩ := HJ.out
          cases p with
          | zero =>
            have FIN : Hid (∀ m, ∃ D, PdR a b 0 q D ∧ (false = true → ∀ k, 0 ≤ k → k < q → D x ≤ D k) ∧ ZS B w g cap n a b D0 (wc.drewN m) D) := fun m => ⟨D, hP, fun h => (Bool.false_ne_true h).elim, hZ.drewN m⟩
            clear hP hZ HJ
            go_quiet (fail)
            go_wp2
            go_meet
            case rel => exact ⟨false, rfl, FIN.out _⟩
          | succ r =>
            obtain ⟨u, hu⟩ : ∃ u, D r = u := ⟨_, rfl⟩
            obtain ⟨v, hv⟩ : ∃ v, D x = v := ⟨_, rfl⟩
            have y0 : wc.cell? ⟨g, r, none⟩ = some (.int .u64 (u : Int)) := by rw [← hu]; exact hZ.row.cell (by omega)
            have y1 : wc.cell? ⟨g, x, none⟩ = some (.int .u64 (v : Int)) := by rw [← hv]; exact hZ.row.cell (by omega)
            have hgl : g < wc.heap.size := hZ.row.lt
            have hrn : r + 1 < n := by omega
            have hxn : x < n := by omega
            have hr0 : (0 : Int) < (r : Int) + 1 := by omega
            by_cases hd : u < v
            · have FIN : Hid (∀ m, ∃ D, PdR a b (r + 1) q D ∧ (false = true → ∀ k, r + 1 ≤ k → k < q → D x ≤ D k) ∧ ZS B w g cap n a b D0 (wc.drewN m) D) := fun m => ⟨D, hP, fun h => (Bool.false_ne_true h).elim, hZ.drewN m⟩
              clear hP hZ HJ hu hv
              go_quiet (first | (go_at_call 89; refine Calls.quiet_of_same (HL.out _ _ _)))
              go_wp2
              go_meet
              case rel => exact ⟨false, rfl, FIN.out _⟩
            · have FIN : Hid (∀ m, ∃ D, PdR a b (r + 1) q D ∧ (∀ k, r + 1 ≤ k → k < q → D x ≤ D k) ∧ ZS B w g cap n a b D0 (wc.drewN m) D) := fun m => ⟨D, hP, fun k k1 k2 => by
                rcases hP.pre with h | h
                · omega
                · have h3 := h k k1 k2
                  rw [Nat.add_sub_cancel, hu] at h3
                  rw [hv]
                  omega, hZ.drewN m⟩
              clear hP hZ HJ hu hv
              go_quiet (first | (go_at_call 89; refine Calls.quiet_of_same (HL.out _ _ _)))
              go_wp2
              go_meet
              case rel =>
                obtain ⟨D, g1, g2, g3⟩ := FIN.out nq
                exact ⟨true, rfl, D, g1, fun _ => g2, g3⟩
        case rest =>
        clear HJ
        obtain ⟨bb, rfl, HJ⟩ := hcut
        cases bb with
        | true =>
          obtain ⟨D, hP, hE, hZ⟩ := HJ.out
          have HC := hide (partEqZ B g cap n p q x D hn hx1 hx2 (by omega) wc hZ.row HBG.out (hE rfl))
          have HF : Hid (∀ m V, (∃ D', p < m ∧ m ≤ q ∧ (∀ k, p ≤ k → k < m → D' k = D x) ∧ (∀ k, m ≤ k → k < q → D x < D' k) ∧ ZS B wc g cap n p q D V D') → p < m ∧ m ≤ q ∧ ∃ D', PdR a b m q D' ∧ ZS B w g cap n a b D0 V D') := fun m V ⟨D', g1, g2, g3, g4, g5⟩ => ⟨g1, g2, D', hP.eq g5.perm g1 g2 g3 g4, hZ.call g5 hP.ap hP.qb⟩
          clear hP hE hZ HJ
          go_wp2_with fail
          refine HC.out.mono ?_
          rintro e w4 ⟨m, rfl, G⟩
          obtain ⟨hm1, hm2, hJ⟩ := HF.out m w4 G.out
          have NX := hide hJ
          clear HC HF G hJ
          go_wp2
          go_roundw
          case rel => exact ⟨m, q, lm2, wb, wp, rfl, rfl, rfl, rfl, rfl, NX.out⟩
          case measure => (simp [intOf] <;> omega)
        | false =>
          obtain ⟨D, hP, hE, hZ⟩ := HJ.out
          have HC := hide (partZ B g cap n p q x D hn hx1 hx2 (by omega) wc hZ.row HBG.out)
          have HF : Hid (∀ m V, (∃ D', p ≤ m ∧ m < q ∧ (∀ k, p ≤ k → k < m → D' k < D' m) ∧ (∀ k, m < k → k < q → D' m ≤ D' k) ∧ ZS B wc g cap n p q D V D') → p ≤ m ∧ m < q ∧ ∃ D', RowF V g cap n D' ∧ PreR p m D' ∧ PreR (m + 1) q D' ∧ (∀ D2 U, ZS B V g cap n p m D' U D2 → SortR p m D2 → PdR a b (m + 1) q D2 ∧ ZS B w g cap n a b D0 U D2) ∧ (∀ D2 U, ZS B V g cap n (m + 1) q D' U D2 → SortR (m + 1) q D2 → PdR a b p m D2 ∧ ZS B w g cap n a b D0 U D2)) := fun m V ⟨D', g1, g2, g3, g4, g5⟩ => by
            have hz := hZ.call g5 hP.ap hP.qb
            refine ⟨g1, g2, D', g5.row, ((hP.pre.perm g5.perm)).less (by omega), .inr fun k k1 k2 => ?_, fun D2 U u1 u2 => ⟨hP.left g5.perm g1 g2 g3 g4 u1.perm u2, hz.call u1 hP.ap (by omega)⟩, fun D2 U u1 u2 => ⟨hP.right g5.perm g1 g2 g3 g4 u1.perm u2, hz.call u1 (by omega) hP.qb⟩⟩
            rw [Nat.add_sub_cancel]
            exact g4 k (by omega) k2
          clear hP hE hZ HJ
          go_wp2_with fail
          refine HC.out.mono ?_
          rintro e w4 ⟨m, tt, rfl, G⟩
          obtain ⟨hm1, hm2, D', hr', hpl, hpr, HL2, HR2⟩ := HF.out m w4 G.out
          by_cases hlr : m + m < p + q
          · have HC2 := hide (IH.out p m lm2 D' w4 (by omega) hm1 (by omega) hr' hpl)
            have HG := hide HL2
            clear HC HF G hr' hpl hpr HL2 HR2
            go_wp2_with fail
            refine HC2.out.mono ?_
            rintro e w5 ⟨rfl, G⟩
            have NX : Hid (∃ D, PdR a b (m + 1) q D ∧ ZS B w g cap n a b D0 w5 D) := by
              obtain ⟨D2, g1, g2⟩ := G.out
              exact ⟨D2, HG.out D2 w5 g2 g1⟩
            clear HC2 HG G
            go_wp2
            go_roundw
            case rel => exact ⟨m + 1, q, lm2, _, tt, by go_num, rfl, rfl, rfl, rfl, NX.out⟩
            case measure => (simp [intOf] <;> omega)
          · have HC2 := hide (IH.out (m + 1) q lm2 D' w4 (by omega) (by omega) (by omega) hr' hpr)
            have HG := hide HR2
            clear HC HF G hr' hpl hpr HL2 HR2
            go_wp2_with fail
            refine HC2.out.mono ?_
            rintro e w5 ⟨rfl, G⟩
            have NX : Hid (∃ D, PdR a b p m D ∧ ZS B w g cap n a b D0 w5 D) := by
              obtain ⟨D2, g1, g2⟩ := G.out
              exact ⟨D2, HG.out D2 w5 g2 g1⟩
            clear HC2 HG G
            go_wp2
            go_roundw
            case rel => exact ⟨p, m, lm2, _, tt, rfl, rfl, rfl, rfl, rfl, NX.out⟩
            case measure => (simp [intOf] <;> omega)
end Go.Proofs.Ytcfenjpdjogmdaa
