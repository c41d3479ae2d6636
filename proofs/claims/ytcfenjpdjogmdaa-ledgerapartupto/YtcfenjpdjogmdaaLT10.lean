import Derived.Test.YtcfenjpdjogmdaaLT13
import Derived.Deep.CutBlock
import Derived.Deep.DeepCutAuto
namespace Go.Proofs.Ytcfenjpdjogmdaa
open Go.RowKit

/-- Between i and j lies what is not yet told; ahead of i all is below p, behind j nothing is. -/
structure PartR (a b p i j : Nat) (D : Nat → Nat) : Prop where
  ai : a < i
  ij : i ≤ j + 1
  jb : j < b
  pa : D a = p
  lo : ∀ k, a < k → k < i → D k < p
  hi : ∀ k, j < k → k < b → p ≤ D k
theorem PartR.up {a b p i j : Nat} {D : Nat → Nat} (h : PartR a b p i j D) (hij : i ≤ j) (hl : D i < p) : PartR a b p (i + 1) j D := ⟨by have := h.ai; omega, by omega, h.jb, h.pa, fun k h1 h2 => by
  by_cases e : k = i
  · rw [e]; exact hl
  · exact h.lo k h1 (by omega), h.hi⟩
theorem PartR.down {a b p i j : Nat} {D : Nat → Nat} (h : PartR a b p i (j + 1) D) (hij : i ≤ j + 1) (hl : p ≤ D (j + 1)) : PartR a b p i j D := ⟨h.ai, hij, by have := h.jb; omega, h.pa, h.lo, fun k h1 h2 => by
  by_cases e : k = j + 1
  · rw [e]; exact hl
  · exact h.hi k (by omega) h2⟩
theorem PartR.swap {a b p i j : Nat} {D : Nat → Nat} (h : PartR a b p i (j + 1) D) (hij : i < j + 1) (hi : p ≤ D i) (hj : D (j + 1) < p) : PartR a b p (i + 1) j (swp D i (j + 1)) := by
  have ha := h.ai
  have hb := h.jb
  refine ⟨by omega, by omega, by omega, ?_, fun k h1 h2 => ?_, fun k h1 h2 => ?_⟩
  · rw [swp_o D (by omega) (by omega)]; exact h.pa
  · by_cases e : k = i
    · rw [e, swp_l]; exact hj
    · rw [swp_o D e (by omega)]; exact h.lo k h1 (by omega)
  · by_cases e : k = j + 1
    · rw [e, swp_r]; exact hi
    · rw [swp_o D (by omega) e]; exact h.hi k (by omega) h2
theorem PartR.finL {a b p i j : Nat} {D : Nat → Nat} (h : PartR a b p i j D) (hji : j < i) : ∀ k, a ≤ k → k < j → swp D j a k < swp D j a j := fun k h1 h2 => by
  rw [swp_l, h.pa]
  by_cases e : k = a
  · rw [e, swp_r]; exact h.lo j (by omega) hji
  · rw [swp_o D (by omega) e]; exact h.lo k (by omega) (by omega)
theorem PartR.finR {a b p i j : Nat} {D : Nat → Nat} (h : PartR a b p i j D) (hji : j < i) : ∀ k, j < k → k < b → swp D j a j ≤ swp D j a k := fun k h1 h2 => by
  have := h.ai
  have := h.ij
  rw [swp_l, h.pa, swp_o D (by omega) (by omega)]
  exact h.hi k h1 h2
set_option maxRecDepth 100000 in
set_option maxHeartbeats 2000000 in
theorem partZ (B g cap n a b c : Nat) (D0 : Nat → Nat) (hn : n < 2305843009213693952) (hac : a ≤ c) (hcb : c < b) (hbn : b ≤ n) (w : World) (hr : RowF w g cap n D0) (hB : B ≤ g) :
    Calls Try.prog 91 #[.slice (some ⟨g, 0, none⟩) n cap, .int .i64 (a : Nat), .int .i64 (b : Nat), .int .i64 (c : Nat)] w fun e w' => ∃ (m : Nat) (t : Bool), e = .returned (.tuple #[.int .i64 (m : Nat), .bool t]) ∧ Hid (∃ D, a ≤ m ∧ m < b ∧ (∀ k, a ≤ k → k < m → D k < D m) ∧ (∀ k, m < k → k < b → D m ≤ D k) ∧ ZS B w g cap n a b D0 w' D) := by
  have HL := hide lessZ
  obtain ⟨x, hx⟩ : ∃ x, D0 a = x := ⟨_, rfl⟩
  obtain ⟨z, hz⟩ : ∃ z, D0 c = z := ⟨_, rfl⟩
  obtain ⟨l, hle⟩ : ∃ l, b = l + 1 := ⟨b - 1, by omega⟩
  subst hle
  have Z0 := hide (ZS.begin a (l + 1) hr hB)
  have a0 : w.cell? ⟨g, a, none⟩ = some (.int .u64 (x : Int)) := by rw [← hx]; exact hr.cell (by omega)
  have a1 : w.cell? ⟨g, c, none⟩ = some (.int .u64 (z : Int)) := by rw [← hz]; exact hr.cell (by omega)
  have a2 : g < w.heap.size := hr.lt
  have a3 := hr.free a
  have a4 := hr.free c
  go_enter Try.func91, Try.ntmps91
  go_upto_region 1 with fail
  go_cut [] (fun wx => Hid (ZS B w g cap n a (l + 1) D0 wx (swp D0 a c)))
  case first =>
    by_cases hac' : a = c
    · subst hac'
      have exz : x = z := by rw [← hx, ← hz]
      subst exz
      have NX : Hid (∀ V, ZS B w g cap n a (l + 1) D0 V D0 → ZS B w g cap n a (l + 1) D0 ((V.setCell ⟨g, a, none⟩ (.int .u64 (x : Int))).setCell ⟨g, a, none⟩ (.int .u64 (x : Int))) (swp D0 a a)) := fun V hV => by
        have h := hV.swap (i := a) (j := a) (by omega) (by omega) (by omega) (by omega)
        rw [hx] at h
        exact h
      clear hx hz hr a1 a4
      go_region
      go_wp2
      go_meet
      case rel => exact NX.out _ Z0.out.drew
    · have NX : Hid (∀ V, ZS B w g cap n a (l + 1) D0 V D0 → ZS B w g cap n a (l + 1) D0 ((V.setCell ⟨g, a, none⟩ (.int .u64 (z : Int))).setCell ⟨g, c, none⟩ (.int .u64 (x : Int))) (swp D0 a c)) := fun V hV => by
        have h := hV.swap (i := a) (j := c) (by omega) (by omega) (by omega) (by omega)
        rw [hx, hz] at h
        exact h
      clear hx hz hr
      go_region
      go_wp2
      go_meet
      case rel => exact NX.out _ Z0.out.drew
  case rest =>
  clear a0 a1 a2 a3 a4 Z0
  have HJ : Hid (∃ D, PartR a (l + 1) z (a + 1) l D ∧ ZS B w g cap n a (l + 1) D0 wc D) := ⟨swp D0 a c, ⟨by omega, by omega, by omega, by rw [swp_l]; exact hz, fun k h1 h2 => by omega, fun k h1 h2 => by omega⟩, hcut.out⟩
  have hal : a ≤ l := by omega
  clear hx hz hr hcut hcb hac
  obtain ⟨i, hie⟩ : ∃ i, a + 1 = i := ⟨_, rfl⟩
  have IE : Hid ((a : Int) + 1 = (i : Int)) := by show _ = _; omega
  have hij : i ≤ l + 1 := by omega
  have hai : a < i := by omega
  rw [hie] at HJ
  clear hie
  go_upto_block 0 with fail
  go_cut [10] (fun s wx => ∃ i' : Nat, i ≤ i' ∧ i' ≤ l + 1 ∧ s = .int .i64 (i' : Nat) ∧ Hid (∃ D, PartR a (l + 1) z i' l D ∧ (l < i' ∨ z ≤ D i') ∧ ZS B w g cap n a (l + 1) D0 wx D))
  case first =>
    go_wp2
    go_loopw [10] (fun s wr => ∃ i' : Nat, i ≤ i' ∧ i' ≤ l + 1 ∧ s = .int .i64 (i' : Nat) ∧ Hid (∃ D, PartR a (l + 1) z i' l D ∧ ZS B w g cap n a (l + 1) D0 wr D)) (fun s _ => l + 1 - (intOf s).toNat)
    case atStart => exact ⟨i, Nat.le_refl _, hij, by rw [← IE.out], HJ.out⟩
    case round =>
      clear HJ
      obtain ⟨i', h1, h2, rfl, HJ⟩ := hrel
      by_cases hle : i' ≤ l
      · obtain ⟨D, hE, hZ⟩ := HJ.out
        have y0 : wr.cell? ⟨g, a, none⟩ = some (.int .u64 (z : Int)) := by rw [← hE.pa]; exact hZ.row.cell (by omega)
        obtain ⟨v, hv⟩ : ∃ v, D i' = v := ⟨_, rfl⟩
        have y1 : wr.cell? ⟨g, i', none⟩ = some (.int .u64 (v : Int)) := by rw [← hv]; exact hZ.row.cell (by have := hE.jb; have := hE.ij; omega)
        have y2 : g < wr.heap.size := hZ.row.lt
        by_cases hd : v < z
        · have NX : Hid (∀ q, ∃ D, PartR a (l + 1) z (i' + 1) l D ∧ ZS B w g cap n a (l + 1) D0 (wr.drewN q) D) := fun q => ⟨D, hE.up hle (by rw [hv]; exact hd), hZ.drewN q⟩
          clear hE hZ HJ hv
          go_upto_region 3 with fail
          go_quiet (first | (go_at_call 89; refine Calls.quiet_of_same (HL.out _ _ _)))
          go_wp2
          go_roundw
          case rel => exact ⟨i' + 1, by omega, by omega, by go_num, NX.out _⟩
          case measure => simp [intOf]; omega
        · have FIN : Hid (∀ q, ∃ D, PartR a (l + 1) z i' l D ∧ (l < i' ∨ z ≤ D i') ∧ ZS B w g cap n a (l + 1) D0 (wr.drewN q) D) := fun q => ⟨D, hE, .inr (by rw [hv]; omega), hZ.drewN q⟩
          clear hE hZ HJ hv
          go_upto_region 3 with fail
          go_quiet (first | (go_at_call 89; refine Calls.quiet_of_same (HL.out _ _ _)))
          go_wp2
          go_meet
          case rel => exact ⟨i', h1, h2, rfl, FIN.out _⟩
      · have FIN : Hid (∀ q, ∃ D, PartR a (l + 1) z i' l D ∧ (l < i' ∨ z ≤ D i') ∧ ZS B w g cap n a (l + 1) D0 (wr.drewN q) D) := fun q => by
          obtain ⟨D, g1, g2⟩ := HJ.out
          exact ⟨D, g1, .inl (by omega), g2.drewN q⟩
        clear HJ
        go_upto_region 3 with fail
        go_quiet (fail)
        go_wp2
        go_meet
        case rel => exact ⟨i', h1, h2, rfl, FIN.out _⟩
  case rest =>
  clear HJ
  obtain ⟨i2, k1, k2, rfl, HJ⟩ := hcut
  go_upto_block 2 with fail
  go_cut [11] (fun s wx => ∃ j' : Nat, j' ≤ l ∧ i2 ≤ j' + 1 ∧ s = .int .i64 (j' : Nat) ∧ Hid (∃ D, PartR a (l + 1) z i2 j' D ∧ (j' < i2 ∨ (z ≤ D i2 ∧ D j' < z)) ∧ ZS B w g cap n a (l + 1) D0 wx D))
  case first =>
    go_wp2
    go_loopw [11] (fun s wr => ∃ j' : Nat, j' ≤ l ∧ i2 ≤ j' + 1 ∧ s = .int .i64 (j' : Nat) ∧ Hid (∃ D, PartR a (l + 1) z i2 j' D ∧ (j' < i2 ∨ z ≤ D i2) ∧ ZS B w g cap n a (l + 1) D0 wr D)) (fun s _ => (intOf s).toNat)
    case atStart => exact ⟨l, Nat.le_refl _, k2, rfl, HJ.out⟩
    case round =>
      clear HJ
      obtain ⟨j', h1, h2, rfl, HJ0⟩ := hrel
      by_cases hle : i2 ≤ j'
      · obtain ⟨s, rfl⟩ : ∃ s, j' = s + 1 := ⟨j' - 1, by omega⟩
        have hleI : (i2 : Int) ≤ (s : Int) + 1 := by omega
        have HGT : Hid (∃ D, PartR a (l + 1) z i2 (s + 1) D ∧ z ≤ D i2 ∧ ZS B w g cap n a (l + 1) D0 wr D) := by
          obtain ⟨D, g1, g2, g3⟩ := HJ0.out
          exact ⟨D, g1, by omega, g3⟩
        obtain ⟨D, hE, hG, hZ⟩ := HGT.out
        have y0 : wr.cell? ⟨g, a, none⟩ = some (.int .u64 (z : Int)) := by rw [← hE.pa]; exact hZ.row.cell (by omega)
        obtain ⟨v, hv⟩ : ∃ v, D (s + 1) = v := ⟨_, rfl⟩
        have y1 : wr.cell? ⟨g, s + 1, none⟩ = some (.int .u64 (v : Int)) := by rw [← hv]; exact hZ.row.cell (by omega)
        have y2 : g < wr.heap.size := hZ.row.lt
        by_cases hd : v < z
        · have FIN : Hid (∀ q, ∃ D, PartR a (l + 1) z i2 (s + 1) D ∧ (s + 1 < i2 ∨ (z ≤ D i2 ∧ D (s + 1) < z)) ∧ ZS B w g cap n a (l + 1) D0 (wr.drewN q) D) := fun q => ⟨D, hE, .inr ⟨hG, by rw [hv]; exact hd⟩, hZ.drewN q⟩
          clear hE hZ HJ0 hv hG HGT
          go_upto_region 5 with fail
          go_quiet (first | (go_at_call 89; refine Calls.quiet_of_same (HL.out _ _ _)))
          go_wp2
          go_meet
          case rel => exact ⟨s + 1, h1, h2, rfl, FIN.out _⟩
        · have NX : Hid (∀ q, ∃ D, PartR a (l + 1) z i2 s D ∧ (s < i2 ∨ z ≤ D i2) ∧ ZS B w g cap n a (l + 1) D0 (wr.drewN q) D) := fun q => ⟨D, hE.down hle (by rw [hv]; omega), .inr hG, hZ.drewN q⟩
          clear hE hZ HJ0 hv hG HGT
          go_upto_region 5 with fail
          go_quiet (first | (go_at_call 89; refine Calls.quiet_of_same (HL.out _ _ _)))
          go_wp2
          go_roundw
          case rel => exact ⟨s, by omega, by omega, by go_num, NX.out _⟩
          case measure => simp [intOf]
      · have FIN : Hid (∀ q, ∃ D, PartR a (l + 1) z i2 j' D ∧ (j' < i2 ∨ (z ≤ D i2 ∧ D j' < z)) ∧ ZS B w g cap n a (l + 1) D0 (wr.drewN q) D) := fun q => by
          obtain ⟨D, g1, g2, g3⟩ := HJ0.out
          exact ⟨D, g1, .inl (by omega), g3.drewN q⟩
        clear HJ0
        go_upto_region 5 with fail
        go_quiet (fail)
        go_wp2
        go_meet
        case rel => exact ⟨j', h1, h2, rfl, FIN.out _⟩
  case rest =>
  clear HJ
  obtain ⟨j2, m1, m2, rfl, HJ⟩ := hcut
  by_cases hgt : j2 < i2
  · obtain ⟨D, hE, hx, hZ⟩ := HJ.out
    have haj : a ≤ j2 := by have := hE.ai; omega
    obtain ⟨v, hv⟩ : ∃ v, D j2 = v := ⟨_, rfl⟩
    have b0 : wc.cell? ⟨g, a, none⟩ = some (.int .u64 (z : Int)) := by rw [← hE.pa]; exact hZ.row.cell (by omega)
    have b1 : wc.cell? ⟨g, j2, none⟩ = some (.int .u64 (v : Int)) := by rw [← hv]; exact hZ.row.cell (by omega)
    have b2 : g < wc.heap.size := hZ.row.lt
    have b3 := hZ.row.free j2
    have b4 := hZ.row.free a
    have HZ := hide hZ
    have FIN : Hid (∀ V, ZS B w g cap n a (l + 1) D0 V D → ∃ D', a ≤ j2 ∧ j2 < l + 1 ∧ (∀ k, a ≤ k → k < j2 → D' k < D' j2) ∧ (∀ k, j2 < k → k < l + 1 → D' j2 ≤ D' k) ∧ ZS B w g cap n a (l + 1) D0 ((V.setCell ⟨g, j2, none⟩ (.int .u64 (z : Int))).setCell ⟨g, a, none⟩ (.int .u64 (v : Int))) D') := fun V hV => by
      have h := hV.swap (i := j2) (j := a) haj (by omega) (by omega) (by omega)
      rw [hv, hE.pa] at h
      exact ⟨_, haj, by omega, hE.finL hgt, hE.finR hgt, h⟩
    by_cases hja : j2 = a
    · subst hja
      have ezv : z = v := by rw [← hE.pa, hv]
      subst ezv
      clear hE hx hZ HJ hv b1 b4 haj
      go_upto_region 8 with fail
      go_region
      go_wp2
      go_ret2
      exact ⟨j2, true, rfl, FIN.out _ HZ.out.drew⟩
    · clear hE hx hZ HJ hv haj
      go_upto_region 8 with fail
      go_region
      go_wp2
      go_ret2
      exact ⟨j2, true, rfl, FIN.out _ HZ.out.drew⟩
  · obtain ⟨s, rfl⟩ : ∃ s, j2 = s + 1 := ⟨j2 - 1, by omega⟩
    obtain ⟨D, hE, hx, hZ⟩ := HJ.out
    have hlt : i2 < s + 1 := by
      by_cases e : i2 = s + 1
      · rw [e] at hx
        omega
      · omega
    have hia := hE.ai
    obtain ⟨u, hu⟩ : ∃ u, D i2 = u := ⟨_, rfl⟩
    obtain ⟨v, hv⟩ : ∃ v, D (s + 1) = v := ⟨_, rfl⟩
    have b0 : wc.cell? ⟨g, i2, none⟩ = some (.int .u64 (u : Int)) := by rw [← hu]; exact hZ.row.cell (by omega)
    have b1 : wc.cell? ⟨g, s + 1, none⟩ = some (.int .u64 (v : Int)) := by rw [← hv]; exact hZ.row.cell (by omega)
    have b2 : g < wc.heap.size := hZ.row.lt
    have b3 := hZ.row.free i2
    have b4 := hZ.row.free (s + 1)
    have HZ := hide hZ
    have NX : Hid (∀ V, ZS B w g cap n a (l + 1) D0 V D → ∃ D, PartR a (l + 1) z (i2 + 1) s D ∧ ZS B w g cap n a (l + 1) D0 ((V.setCell ⟨g, i2, none⟩ (.int .u64 (v : Int))).setCell ⟨g, s + 1, none⟩ (.int .u64 (u : Int))) D) := fun V hV => by
      refine ⟨_, hE.swap hlt (by omega) (by omega), ?_⟩
      have h := hV.swap (i := i2) (j := s + 1) (by omega) (by omega) (by omega) (by omega)
      rw [hu, hv] at h
      exact h
    clear hE hx hZ HJ hu hv
    go_upto_region 10 with fail
    go_region
    have I1 : Hid (∃ i j : Nat, i ≤ j + 1 ∧ a < i ∧ j ≤ l ∧ i = i2 + 1 ∧ j = s) := ⟨i2 + 1, s, by omega, by omega, by omega, rfl, rfl⟩
    go_wp2
    go_loopw [10, 11] (fun s t wr => ∃ i j : Nat, i ≤ j + 1 ∧ a < i ∧ j ≤ l ∧ s = .int .i64 (i : Nat) ∧ t = .int .i64 (j : Nat) ∧ Hid (∃ D, PartR a (l + 1) z i j D ∧ ZS B w g cap n a (l + 1) D0 wr D)) (fun s t _ => (intOf t + 1 - intOf s).toNat)
    case atStart => exact ⟨i2 + 1, s, by omega, by omega, by omega, by go_num, by go_num, NX.out _ HZ.out.drew⟩
    case round =>
      clear NX HZ I1 b0 b1 b2 b3 b4 hlt hia m1 m2 k1 k2 hgt hij hai IE
      obtain ⟨i, j, hij, hai, hjl, rfl, rfl, HJ⟩ := hrel
      obtain ⟨wo, hwo⟩ : ∃ wo, wo = wr := ⟨_, rfl⟩
      subst hwo
      go_upto_block 6 with fail
      go_cut [10] (fun s wx => ∃ i' : Nat, i ≤ i' ∧ i' ≤ j + 1 ∧ s = .int .i64 (i' : Nat) ∧ Hid (∃ D, PartR a (l + 1) z i' j D ∧ (j < i' ∨ z ≤ D i') ∧ ZS B w g cap n a (l + 1) D0 wx D))
      case first =>
        go_wp2
        go_loopw [10] (fun s wr => ∃ i' : Nat, i ≤ i' ∧ i' ≤ j + 1 ∧ s = .int .i64 (i' : Nat) ∧ Hid (∃ D, PartR a (l + 1) z i' j D ∧ ZS B w g cap n a (l + 1) D0 wr D)) (fun s _ => j + 1 - (intOf s).toNat)
        case atStart => exact ⟨i, Nat.le_refl _, hij, rfl, HJ.out⟩
        case round =>
          clear HJ
          obtain ⟨i', h1, h2, rfl, HJ⟩ := hrel
          by_cases hle : i' ≤ j
          · obtain ⟨D, hE, hZ⟩ := HJ.out
            have y0 : wr.cell? ⟨g, a, none⟩ = some (.int .u64 (z : Int)) := by rw [← hE.pa]; exact hZ.row.cell (by omega)
            obtain ⟨v, hv⟩ : ∃ v, D i' = v := ⟨_, rfl⟩
            have y1 : wr.cell? ⟨g, i', none⟩ = some (.int .u64 (v : Int)) := by rw [← hv]; exact hZ.row.cell (by have := hE.jb; have := hE.ij; omega)
            have y2 : g < wr.heap.size := hZ.row.lt
            by_cases hd : v < z
            · have NX : Hid (∀ q, ∃ D, PartR a (l + 1) z (i' + 1) j D ∧ ZS B w g cap n a (l + 1) D0 (wr.drewN q) D) := fun q => ⟨D, hE.up hle (by rw [hv]; exact hd), hZ.drewN q⟩
              clear hE hZ HJ hv
              go_upto_region 13 with fail
              go_quiet (first | (go_at_call 89; refine Calls.quiet_of_same (HL.out _ _ _)))
              go_wp2
              go_roundw
              case rel => exact ⟨i' + 1, by omega, by omega, by go_num, NX.out _⟩
              case measure => simp [intOf]; omega
            · have FIN : Hid (∀ q, ∃ D, PartR a (l + 1) z i' j D ∧ (j < i' ∨ z ≤ D i') ∧ ZS B w g cap n a (l + 1) D0 (wr.drewN q) D) := fun q => ⟨D, hE, .inr (by rw [hv]; omega), hZ.drewN q⟩
              clear hE hZ HJ hv
              go_upto_region 13 with fail
              go_quiet (first | (go_at_call 89; refine Calls.quiet_of_same (HL.out _ _ _)))
              go_wp2
              go_meet
              case rel => exact ⟨i', h1, h2, rfl, FIN.out _⟩
          · have FIN : Hid (∀ q, ∃ D, PartR a (l + 1) z i' j D ∧ (j < i' ∨ z ≤ D i') ∧ ZS B w g cap n a (l + 1) D0 (wr.drewN q) D) := fun q => by
              obtain ⟨D, g1, g2⟩ := HJ.out
              exact ⟨D, g1, .inl (by omega), g2.drewN q⟩
            clear HJ
            go_upto_region 13 with fail
            go_quiet (fail)
            go_wp2
            go_meet
            case rel => exact ⟨i', h1, h2, rfl, FIN.out _⟩
      case rest =>
      clear HJ
      obtain ⟨i2, k1, k2, rfl, HJ⟩ := hcut
      go_upto_block 8 with fail
      go_cut [11] (fun s wx => ∃ j' : Nat, j' ≤ j ∧ i2 ≤ j' + 1 ∧ s = .int .i64 (j' : Nat) ∧ Hid (∃ D, PartR a (l + 1) z i2 j' D ∧ (j' < i2 ∨ (z ≤ D i2 ∧ D j' < z)) ∧ ZS B w g cap n a (l + 1) D0 wx D))
      case first =>
        go_wp2
        go_loopw [11] (fun s wr => ∃ j' : Nat, j' ≤ j ∧ i2 ≤ j' + 1 ∧ s = .int .i64 (j' : Nat) ∧ Hid (∃ D, PartR a (l + 1) z i2 j' D ∧ (j' < i2 ∨ z ≤ D i2) ∧ ZS B w g cap n a (l + 1) D0 wr D)) (fun s _ => (intOf s).toNat)
        case atStart => exact ⟨j, Nat.le_refl _, k2, rfl, HJ.out⟩
        case round =>
          clear HJ
          obtain ⟨j', h1, h2, rfl, HJ0⟩ := hrel
          by_cases hle : i2 ≤ j'
          · obtain ⟨s, rfl⟩ : ∃ s, j' = s + 1 := ⟨j' - 1, by omega⟩
            have hleI : (i2 : Int) ≤ (s : Int) + 1 := by omega
            have HGT : Hid (∃ D, PartR a (l + 1) z i2 (s + 1) D ∧ z ≤ D i2 ∧ ZS B w g cap n a (l + 1) D0 wr D) := by
              obtain ⟨D, g1, g2, g3⟩ := HJ0.out
              exact ⟨D, g1, by omega, g3⟩
            obtain ⟨D, hE, hG, hZ⟩ := HGT.out
            have y0 : wr.cell? ⟨g, a, none⟩ = some (.int .u64 (z : Int)) := by rw [← hE.pa]; exact hZ.row.cell (by omega)
            obtain ⟨v, hv⟩ : ∃ v, D (s + 1) = v := ⟨_, rfl⟩
            have y1 : wr.cell? ⟨g, s + 1, none⟩ = some (.int .u64 (v : Int)) := by rw [← hv]; exact hZ.row.cell (by omega)
            have y2 : g < wr.heap.size := hZ.row.lt
            by_cases hd : v < z
            · have FIN : Hid (∀ q, ∃ D, PartR a (l + 1) z i2 (s + 1) D ∧ (s + 1 < i2 ∨ (z ≤ D i2 ∧ D (s + 1) < z)) ∧ ZS B w g cap n a (l + 1) D0 (wr.drewN q) D) := fun q => ⟨D, hE, .inr ⟨hG, by rw [hv]; exact hd⟩, hZ.drewN q⟩
              clear hE hZ HJ0 hv hG HGT
              go_upto_region 15 with fail
              go_quiet (first | (go_at_call 89; refine Calls.quiet_of_same (HL.out _ _ _)))
              go_wp2
              go_meet
              case rel => exact ⟨s + 1, h1, h2, rfl, FIN.out _⟩
            · have NX : Hid (∀ q, ∃ D, PartR a (l + 1) z i2 s D ∧ (s < i2 ∨ z ≤ D i2) ∧ ZS B w g cap n a (l + 1) D0 (wr.drewN q) D) := fun q => ⟨D, hE.down hle (by rw [hv]; omega), .inr hG, hZ.drewN q⟩
              clear hE hZ HJ0 hv hG HGT
              go_upto_region 15 with fail
              go_quiet (first | (go_at_call 89; refine Calls.quiet_of_same (HL.out _ _ _)))
              go_wp2
              go_roundw
              case rel => exact ⟨s, by omega, by omega, by go_num, NX.out _⟩
              case measure => simp [intOf]
          · have FIN : Hid (∀ q, ∃ D, PartR a (l + 1) z i2 j' D ∧ (j' < i2 ∨ (z ≤ D i2 ∧ D j' < z)) ∧ ZS B w g cap n a (l + 1) D0 (wr.drewN q) D) := fun q => by
              obtain ⟨D, g1, g2, g3⟩ := HJ0.out
              exact ⟨D, g1, .inl (by omega), g3.drewN q⟩
            clear HJ0
            go_upto_region 15 with fail
            go_quiet (fail)
            go_wp2
            go_meet
            case rel => exact ⟨j', h1, h2, rfl, FIN.out _⟩
      case rest =>
      clear HJ
      obtain ⟨j2, m1, m2, rfl, HJ⟩ := hcut
      by_cases hgt : j2 < i2
      · obtain ⟨D, hE, hx, hZ⟩ := HJ.out
        have haj : a ≤ j2 := by have := hE.ai; omega
        obtain ⟨v, hv⟩ : ∃ v, D j2 = v := ⟨_, rfl⟩
        have b0 : wc.cell? ⟨g, a, none⟩ = some (.int .u64 (z : Int)) := by rw [← hE.pa]; exact hZ.row.cell (by omega)
        have b1 : wc.cell? ⟨g, j2, none⟩ = some (.int .u64 (v : Int)) := by rw [← hv]; exact hZ.row.cell (by omega)
        have b2 : g < wc.heap.size := hZ.row.lt
        have b3 := hZ.row.free j2
        have b4 := hZ.row.free a
        have HZ := hide hZ
        have FIN : Hid (∀ V, ZS B w g cap n a (l + 1) D0 V D → ∃ D', a ≤ j2 ∧ j2 < l + 1 ∧ (∀ k, a ≤ k → k < j2 → D' k < D' j2) ∧ (∀ k, j2 < k → k < l + 1 → D' j2 ≤ D' k) ∧ ZS B w g cap n a (l + 1) D0 ((V.setCell ⟨g, j2, none⟩ (.int .u64 (z : Int))).setCell ⟨g, a, none⟩ (.int .u64 (v : Int))) D') := fun V hV => by
          have h := hV.swap (i := j2) (j := a) haj (by omega) (by omega) (by omega)
          rw [hv, hE.pa] at h
          exact ⟨_, haj, by omega, hE.finL hgt, hE.finR hgt, h⟩
        by_cases hja : j2 = a
        · subst hja
          have ezv : z = v := by rw [← hE.pa, hv]
          subst ezv
          clear hE hx hZ HJ hv b1 b4 haj
          go_upto_region 21 with fail
          go_region
          go_wp2
          go_ret2
          exact ⟨j2, false, rfl, FIN.out _ HZ.out.drew⟩
        · clear hE hx hZ HJ hv haj
          go_upto_region 21 with fail
          go_region
          go_wp2
          go_ret2
          exact ⟨j2, false, rfl, FIN.out _ HZ.out.drew⟩
      · obtain ⟨s, rfl⟩ : ∃ s, j2 = s + 1 := ⟨j2 - 1, by omega⟩
        obtain ⟨D, hE, hx, hZ⟩ := HJ.out
        have hlt : i2 < s + 1 := by
          by_cases e : i2 = s + 1
          · rw [e] at hx
            omega
          · omega
        have hia := hE.ai
        obtain ⟨u, hu⟩ : ∃ u, D i2 = u := ⟨_, rfl⟩
        obtain ⟨v, hv⟩ : ∃ v, D (s + 1) = v := ⟨_, rfl⟩
        have b0 : wc.cell? ⟨g, i2, none⟩ = some (.int .u64 (u : Int)) := by rw [← hu]; exact hZ.row.cell (by omega)
        have b1 : wc.cell? ⟨g, s + 1, none⟩ = some (.int .u64 (v : Int)) := by rw [← hv]; exact hZ.row.cell (by omega)
        have b2 : g < wc.heap.size := hZ.row.lt
        have b3 := hZ.row.free i2
        have b4 := hZ.row.free (s + 1)
        have HZ := hide hZ
        have NX : Hid (∀ V, ZS B w g cap n a (l + 1) D0 V D → ∃ D, PartR a (l + 1) z (i2 + 1) s D ∧ ZS B w g cap n a (l + 1) D0 ((V.setCell ⟨g, i2, none⟩ (.int .u64 (v : Int))).setCell ⟨g, s + 1, none⟩ (.int .u64 (u : Int))) D) := fun V hV => by
          refine ⟨_, hE.swap hlt (by omega) (by omega), ?_⟩
          have h := hV.swap (i := i2) (j := s + 1) (by omega) (by omega) (by omega) (by omega)
          rw [hu, hv] at h
          exact h
        clear hE hx hZ HJ hu hv
        go_upto_region 18 with fail
        go_region
        go_wp2
        go_roundw
        case rel => exact ⟨i2 + 1, s, by omega, by omega, by omega, by go_num, by go_num, NX.out _ HZ.out.drew⟩
        case measure => simp [intOf]; omega
end Go.Proofs.Ytcfenjpdjogmdaa
