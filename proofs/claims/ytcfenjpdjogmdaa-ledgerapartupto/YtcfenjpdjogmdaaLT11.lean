import Derived.Test.YtcfenjpdjogmdaaLT12
import Derived.Deep.CutBlock
import Derived.Deep.DeepCutAuto
namespace Go.Proofs.Ytcfenjpdjogmdaa
open Go.RowKit

theorem SortR.snoc {a i : Nat} {D : Nat → Nat} (h : SortR a (i + 1) D) (hl : ¬ D (i + 1) < D i) : SortR a (i + 2) D := fun p q h1 h2 h3 => by
  by_cases e : q = i + 1
  · by_cases e' : p = i + 1
    · rw [e, e']; exact Nat.le_refl _
    · have := h p i h1 (by omega) (by omega)
      rw [e]
      omega
  · exact h p q h1 h2 (by omega)
set_option maxRecDepth 100000 in
set_option maxHeartbeats 2000000 in
theorem partialZ (B g cap n a b : Nat) (D0 : Nat → Nat) (hn : n < 2305843009213693952) (hab : a < b) (hbn : b ≤ n) (w : World) (hr : RowF w g cap n D0) (hB : B ≤ g) (hpre : a = 0 ∨ ∀ k, a ≤ k → k < b → D0 (a - 1) ≤ D0 k) :
    Calls Try.prog 88 #[.slice (some ⟨g, 0, none⟩) n cap, .int .i64 (a : Nat), .int .i64 (b : Nat)] w fun e w' => (e = .returned (.bool true) ∧ Hid (∃ D, SortR a b D ∧ ZS B w g cap n a b D0 w' D)) ∨ (e = .returned (.bool false) ∧ Hid (∃ D, ZS B w g cap n a b D0 w' D)) := by
  have HL := hide lessZ
  have HP : Hid (∀ W D, ZS B w g cap n a b D0 W D → a = 0 ∨ D (a - 1) ≤ D a) := fun W D h => by
    rcases hpre with h0 | h0
    · exact .inl h0
    · by_cases e : a = 0
      · exact .inl e
      · refine .inr ?_
        rw [h.perm.out (i := a - 1) (.inl (by omega))]
        exact h.perm.all (P := fun v => D0 (a - 1) ≤ v) h0 a (Nat.le_refl _) hab
  have I0 : Hid (∃ D, SortR a (a + 1) D ∧ ZS B w g cap n a b D0 w D) := ⟨D0, SortR.none _ (by omega), ZS.begin a b hr hB⟩
  clear hr hB hpre
  go_enter Try.func88, Try.ntmps88
  go_wp2
  go_loopw [7, 8, 9, 10] (fun s u _ _ wr => ∃ i t : Nat, a < i ∧ i ≤ b ∧ t ≤ 5 ∧ s = .int .i64 (i : Nat) ∧ u = .int .i64 (t : Nat) ∧ Hid (∃ D, SortR a i D ∧ ZS B w g cap n a b D0 wr D)) (fun _ u _ _ _ => 5 - (intOf u).toNat)
  case atStart => exact ⟨a + 1, 0, by omega, by omega, by omega, by go_num, rfl, I0.out⟩
  case round =>
    obtain ⟨i, t, hai, hib, ht, rfl, rfl, HJ⟩ := hrel
    clear I0
    by_cases ht5 : t < 5
    · obtain ⟨wo, hwo⟩ : ∃ wo, wo = wr := ⟨_, rfl⟩
      subst hwo
      have d5 : decide ((t : Int) < 5) = true := decide_eq_true (by omega)
      go_upto_block 2 with fail
      have HT5 := hide ht5
      clear ht5
      go_cut [7] (fun s wx => ∃ q : Nat, a ≤ q ∧ q + 1 ≤ b ∧ s = .int .i64 ((q + 1 : Nat) : Int) ∧ Hid (∃ D, SortR a (q + 1) D ∧ (q + 1 = b ∨ D (q + 1) < D q) ∧ ZS B w g cap n a b D0 wx D))
      case first =>
        go_wp2
        go_loopw [7] (fun s wr => ∃ q : Nat, a ≤ q ∧ q + 1 ≤ b ∧ s = .int .i64 ((q + 1 : Nat) : Int) ∧ Hid (∃ D, SortR a (q + 1) D ∧ ZS B w g cap n a b D0 wr D)) (fun s _ => b - (intOf s).toNat)
        case atStart =>
          obtain ⟨q, rfl⟩ : ∃ q, i = q + 1 := ⟨i - 1, by omega⟩
          exact ⟨q, by omega, hib, rfl, HJ.out⟩
        case round =>
          clear HJ hai hib
          obtain ⟨q, h1, h2, rfl, HJ⟩ := hrel
          by_cases hqb : q + 1 < b
          · have hqI : (q : Int) + 1 < (b : Int) := by omega
            obtain ⟨D, hS, hZ⟩ := HJ.out
            obtain ⟨x, hx⟩ : ∃ x, D (q + 1) = x := ⟨_, rfl⟩
            obtain ⟨z, hz⟩ : ∃ z, D q = z := ⟨_, rfl⟩
            have y0 : wr.cell? ⟨g, q + 1, none⟩ = some (.int .u64 (x : Int)) := by rw [← hx]; exact hZ.row.cell (by omega)
            have y1 : wr.cell? ⟨g, q, none⟩ = some (.int .u64 (z : Int)) := by rw [← hz]; exact hZ.row.cell (by omega)
            have hgl : g < wr.heap.size := hZ.row.lt
            have hqn : q + 1 < n := by omega
            by_cases hd : x < z
            · have FIN : Hid (∀ m, ∃ D, SortR a (q + 1) D ∧ (q + 1 = b ∨ D (q + 1) < D q) ∧ ZS B w g cap n a b D0 (wr.drewN m) D) := fun m => ⟨D, hS, .inr (by rw [hx, hz]; exact hd), hZ.drewN m⟩
              clear hS hZ HJ hx hz
              go_upto_region 5 with fail
              go_quiet (first | (go_at_call 89; refine Calls.quiet_of_same (HL.out _ _ _)))
              go_wp2
              go_meet
              case rel => exact ⟨q, h1, h2, rfl, FIN.out _⟩
            · have NX : Hid (∀ m, ∃ D, SortR a (q + 2) D ∧ ZS B w g cap n a b D0 (wr.drewN m) D) := fun m => ⟨D, hS.snoc (by rw [hx, hz]; exact hd), hZ.drewN m⟩
              clear hS hZ HJ hx hz
              go_upto_region 5 with fail
              go_quiet (first | (go_at_call 89; refine Calls.quiet_of_same (HL.out _ _ _)))
              go_wp2
              go_roundw
              case rel => exact ⟨q + 1, by omega, by omega, by go_num, NX.out _⟩
              case measure => simp [intOf]; omega
          · have FIN : Hid (∀ m, ∃ D, SortR a (q + 1) D ∧ (q + 1 = b ∨ D (q + 1) < D q) ∧ ZS B w g cap n a b D0 (wr.drewN m) D) := fun m => by
              obtain ⟨D, g1, g2⟩ := HJ.out
              exact ⟨D, g1, .inl (by omega), g2.drewN m⟩
            have hqI : ((q : Int) + 1 < (b : Int)) = False := eq_false (by omega)
            clear HJ
            go_upto_region 5 with fail
            go_quiet (fail)
            go_wp2
            go_meet
            case rel => exact ⟨q, h1, h2, rfl, FIN.out _⟩
      case rest =>
      clear HJ hai hib
      obtain ⟨q, k1, k2, rfl, HJ⟩ := hcut
      by_cases hqb : q + 1 = b
      · have FIN : Hid (∃ D, SortR a b D ∧ ZS B w g cap n a b D0 wc D) := by
          obtain ⟨D, g1, g2, g3⟩ := HJ.out
          exact ⟨D, by rw [← hqb]; exact g1, g3⟩
        have dq : ((q : Int) + 1 == (b : Int)) = true := by simp only [beq_iff_eq]; omega
        clear HJ hqb
        go_wp2
        go_ret
        exact .inl ⟨rfl, FIN.out⟩
      · have dq : ((q : Int) + 1 == (b : Int)) = false := by simp only [beq_eq_false_iff_ne, ne_eq]; omega
        by_cases h50 : b < a + 50
        · have FIN : Hid (∃ D, ZS B w g cap n a b D0 wc D) := by
            obtain ⟨D, g1, g2, g3⟩ := HJ.out
            exact ⟨D, g3⟩
          clear HJ
          go_wp2
          go_ret
          exact .inr ⟨rfl, FIN.out⟩
        · obtain ⟨D, hS, hg, hZ⟩ := HJ.out
          have hlt : D (q + 1) < D q := by omega
          obtain ⟨x, hx⟩ : ∃ x, D (q + 1) = x := ⟨_, rfl⟩
          obtain ⟨z, hz⟩ : ∃ z, D q = z := ⟨_, rfl⟩
          have a0 : wc.cell? ⟨g, q + 1, none⟩ = some (.int .u64 (x : Int)) := by rw [← hx]; exact hZ.row.cell (by omega)
          have a1 : wc.cell? ⟨g, q, none⟩ = some (.int .u64 (z : Int)) := by rw [← hz]; exact hZ.row.cell (by omega)
          have a2 : g < wc.heap.size := hZ.row.lt
          have a3 := hZ.row.free (q + 1)
          have a4 := hZ.row.free q
          have HZ := hide hZ
          have NX : Hid (∀ V, ZS B w g cap n a b D0 V D → ∃ D, SortR a q D ∧ ZS B w g cap n a b D0 ((V.setCell ⟨g, q + 1, none⟩ (.int .u64 (z : Int))).setCell ⟨g, q, none⟩ (.int .u64 (x : Int))) D) := fun V hV => by
            refine ⟨swp D (q + 1) q, fun p r p1 p2 p3 => ?_, ?_⟩
            · rw [swp_o D (by omega) (by omega), swp_o D (by omega) (by omega)]
              exact hS p r p1 p2 (by omega)
            · have h := hV.swap (i := q + 1) (j := q) (by omega) (by omega) (by omega) (by omega)
              rw [hx, hz] at h
              exact h
          clear hS hg hZ hlt hx hz HJ
          have hq1 : q + 1 < b := by omega
          go_upto_region 11 with fail
          go_cut [] (fun wx => Hid (∃ D, SortR a q D ∧ ZS B w g cap n a b D0 wx D))
          case first =>
            go_region
            go_wp2
            go_meet
            case rel => exact NX.out _ HZ.out.drew
          case rest =>
          clear a0 a1 a2 a3 a4 HZ NX
          have HC : Hid (∃ D, SortR a q D ∧ ZS B w g cap n a b D0 wc D) := hcut
          clear hcut
          by_cases h2 : a + 1 ≤ q
          · go_upto_block 4 with fail
            go_cut [9] (fun _ wx => Hid (∃ D, SortR a (q + 1) D ∧ ZS B w g cap n a b D0 wx D))
            case first =>
              go_wp2
              go_loopw [9] (fun s wr => ∃ p : Nat, a ≤ p ∧ p ≤ q ∧ s = .int .i64 (p : Nat) ∧ Hid (∃ D, InsR a q p D ∧ ZS B w g cap n a b D0 wr D)) (fun s _ => (intOf s).toNat)
              case atStart =>
                obtain ⟨D, g1, g2⟩ := HC.out
                exact ⟨q, by omega, Nat.le_refl _, by go_num, D, InsR.start g1, g2⟩
              case round =>
                clear HC
                obtain ⟨p, h1, h3, rfl, HS⟩ := hrel
                cases p with
                | zero =>
                  have FIN : Hid (∃ D, SortR a (q + 1) D ∧ ZS B w g cap n a b D0 wr D) := by
                    obtain ⟨D, g1, g2⟩ := HS.out
                    exact ⟨D, g1.done (by omega) (.inl (by omega)), g2⟩
                  clear HS
                  go_wp2
                  go_meet
                  case rel => exact FIN.out
                | succ r =>
                  obtain ⟨D, hI, hZ⟩ := HS.out
                  obtain ⟨x, hx⟩ : ∃ x, D (r + 1) = x := ⟨_, rfl⟩
                  obtain ⟨z, hz⟩ : ∃ z, D r = z := ⟨_, rfl⟩
                  have y0 : wr.cell? ⟨g, r + 1, none⟩ = some (.int .u64 (x : Int)) := by rw [← hx]; exact hZ.row.cell (by omega)
                  have y1 : wr.cell? ⟨g, r, none⟩ = some (.int .u64 (z : Int)) := by rw [← hz]; exact hZ.row.cell (by omega)
                  have hgl : g < wr.heap.size := hZ.row.lt
                  have hrn : r + 1 < n := by omega
                  have HZ := hide hZ
                  by_cases hd : x < z
                  · have har : a ≤ r := by
                      rcases HP.out _ _ hZ with e | e
                      · omega
                      · by_cases e2 : r + 1 = a
                        · rw [← e2, Nat.add_sub_cancel, hx, hz] at e
                          omega
                        · omega
                    have NX : Hid (∀ V, ZS B w g cap n a b D0 V D → ∃ D, InsR a q r D ∧ ZS B w g cap n a b D0 ((V.setCell ⟨g, r + 1, none⟩ (.int .u64 (z : Int))).setCell ⟨g, r, none⟩ (.int .u64 (x : Int))) D) := fun V hV => by
                      refine ⟨_, hI.step har h3 (by rw [hx, hz]; exact hd), ?_⟩
                      have h := hV.swap (i := r + 1) (j := r) (by omega) (by omega) (by omega) (by omega)
                      rw [hx, hz] at h
                      exact h
                    clear hI hZ hx hz HS
                    go_upto_region 16 with fail
                    go_quiet (first | (go_at_call 89; refine Calls.quiet_of_same (HL.out _ _ _)))
                    go_upto_region 17 with fail
                    have HI4 := hide (HZ.out.drewN nq)
                    have a0 : (wr.drewN nq).cell? ⟨g, r + 1, none⟩ = some (.int .u64 (x : Int)) := by simpa using y0
                    have a1 : (wr.drewN nq).cell? ⟨g, r, none⟩ = some (.int .u64 (z : Int)) := by simpa using y1
                    have a2 : g < (wr.drewN nq).heap.size := by simpa using hgl
                    have a3 := HI4.out.row.free (r + 1)
                    have a4 := HI4.out.row.free r
                    clear y0 y1 hgl HZ
                    generalize wr.drewN nq = W4 at *
                    go_region
                    go_wp2
                    go_roundw
                    case rel => exact ⟨r, har, by omega, by go_num, NX.out _ HI4.out.drew⟩
                    case measure => simp [intOf]
                  · have FIN : Hid (∀ m, ∃ D, SortR a (q + 1) D ∧ ZS B w g cap n a b D0 (wr.drewN m) D) := fun m => ⟨D, hI.done h3 (.inr (by simp only [Nat.add_sub_cancel]; rw [hx, hz]; exact hd)), hZ.drewN m⟩
                    clear hI hZ hx hz HS HZ
                    go_upto_region 16 with fail
                    go_quiet (first | (go_at_call 89; refine Calls.quiet_of_same (HL.out _ _ _)))
                    go_wp2
                    go_meet
                    case rel => exact FIN.out _
            case rest =>
            clear HC
            have HS : Hid (∃ D, SortR a (q + 1) D ∧ ZS B w g cap n a b D0 wc D) := hcut
            clear hcut
            by_cases hbi : q + 3 ≤ b
            · go_upto_block 6 with fail
              go_wp2
              obtain ⟨wo, hwo⟩ : ∃ wo, wo = wc := ⟨_, rfl⟩
              go_loopw [10] (fun s wr => ∃ p : Nat, q + 2 ≤ p ∧ p ≤ b ∧ s = .int .i64 (p : Nat) ∧ Hid (∃ D, SortR a (q + 1) D ∧ ZS B w g cap n a b D0 wr D)) (fun s _ => b - (intOf s).toNat)
              case atStart => exact ⟨q + 2, Nat.le_refl _, by omega, by go_num, HS.out⟩
              case round =>
                clear HS hwo
                obtain ⟨p, h1, h2, rfl, HS⟩ := hrel
                by_cases hpb : p < b
                · obtain ⟨r, rfl⟩ : ∃ r, p = r + 1 := ⟨p - 1, by omega⟩
                  obtain ⟨D, hS, hZ⟩ := HS.out
                  obtain ⟨x, hx⟩ : ∃ x, D (r + 1) = x := ⟨_, rfl⟩
                  obtain ⟨z, hz⟩ : ∃ z, D r = z := ⟨_, rfl⟩
                  have y0 : wr.cell? ⟨g, r + 1, none⟩ = some (.int .u64 (x : Int)) := by rw [← hx]; exact hZ.row.cell (by omega)
                  have y1 : wr.cell? ⟨g, r, none⟩ = some (.int .u64 (z : Int)) := by rw [← hz]; exact hZ.row.cell (by omega)
                  have hgl : g < wr.heap.size := hZ.row.lt
                  have hrn : r + 1 < n := by omega
                  have HZ := hide hZ
                  by_cases hd : x < z
                  · have NX : Hid (∀ V, ZS B w g cap n a b D0 V D → ∃ D, SortR a (q + 1) D ∧ ZS B w g cap n a b D0 ((V.setCell ⟨g, r + 1, none⟩ (.int .u64 (z : Int))).setCell ⟨g, r, none⟩ (.int .u64 (x : Int))) D) := fun V hV => by
                      refine ⟨swp D (r + 1) r, hS.same (fun k k1 k2 => swp_o D (by omega) (by omega)), ?_⟩
                      have h := hV.swap (i := r + 1) (j := r) (by omega) (by omega) (by omega) (by omega)
                      rw [hx, hz] at h
                      exact h
                    clear hS hZ hx hz HS
                    go_upto_region 22 with fail
                    go_quiet (first | (go_at_call 89; refine Calls.quiet_of_same (HL.out _ _ _)))
                    go_upto_region 23 with fail
                    have HI4 := hide (HZ.out.drewN nq)
                    have a0 : (wr.drewN nq).cell? ⟨g, r + 1, none⟩ = some (.int .u64 (x : Int)) := by simpa using y0
                    have a1 : (wr.drewN nq).cell? ⟨g, r, none⟩ = some (.int .u64 (z : Int)) := by simpa using y1
                    have a2 : g < (wr.drewN nq).heap.size := by simpa using hgl
                    have a3 := HI4.out.row.free (r + 1)
                    have a4 := HI4.out.row.free r
                    clear y0 y1 hgl HZ
                    generalize wr.drewN nq = W4 at *
                    go_region
                    go_wp2
                    go_roundw
                    case rel => exact ⟨r + 2, by omega, by omega, by go_num, NX.out _ HI4.out.drew⟩
                    case measure => simp [intOf]; omega
                  · have FIN : Hid (∀ m, ∃ D, SortR a (q + 1) D ∧ ZS B w g cap n a b D0 (wr.drewN m) D) := fun m => ⟨D, hS, hZ.drewN m⟩
                    clear hS hZ hx hz HS HZ
                    go_upto_region 22 with fail
                    go_quiet (first | (go_at_call 89; refine Calls.quiet_of_same (HL.out _ _ _)))
                    go_wp2
                    go_roundw
                    case rel => exact ⟨q + 1, t + 1, by omega, by omega, by have := HT5.out; omega, by go_num, by go_num, FIN.out _⟩
                    case measure => (have := HT5.out; simp [intOf] <;> omega)
                · have FIN : Hid (∀ m : Nat, ∃ D, SortR a (q + 1) D ∧ ZS B w g cap n a b D0 wr D) := fun _ => HS.out
                  clear HS
                  go_wp2
                  go_roundw
                  case rel => exact ⟨q + 1, t + 1, by omega, by omega, by have := HT5.out; omega, by go_num, by go_num, FIN.out 0⟩
                  case measure => (have := HT5.out; simp [intOf] <;> omega)
            · have FIN : Hid (∀ m : Nat, ∃ D, SortR a (q + 1) D ∧ ZS B w g cap n a b D0 wc D) := fun _ => HS.out
              clear HS
              go_wp2
              go_roundw
              case rel => exact ⟨q + 1, t + 1, by omega, by omega, by have := HT5.out; omega, by go_num, by go_num, FIN.out 0⟩
              case measure => (have := HT5.out; simp [intOf] <;> omega)
          · have HS : Hid (∃ D, SortR a (q + 1) D ∧ ZS B w g cap n a b D0 wc D) := by
              obtain ⟨D, g1, g2⟩ := HC.out
              exact ⟨D, SortR.none _ (by omega), g2⟩
            clear HC
            by_cases hbi : q + 3 ≤ b
            · go_upto_block 6 with fail
              go_wp2
              obtain ⟨wo, hwo⟩ : ∃ wo, wo = wc := ⟨_, rfl⟩
              go_loopw [10] (fun s wr => ∃ p : Nat, q + 2 ≤ p ∧ p ≤ b ∧ s = .int .i64 (p : Nat) ∧ Hid (∃ D, SortR a (q + 1) D ∧ ZS B w g cap n a b D0 wr D)) (fun s _ => b - (intOf s).toNat)
              case atStart => exact ⟨q + 2, Nat.le_refl _, by omega, by go_num, HS.out⟩
              case round =>
                clear HS hwo
                obtain ⟨p, h1, h2, rfl, HS⟩ := hrel
                by_cases hpb : p < b
                · obtain ⟨r, rfl⟩ : ∃ r, p = r + 1 := ⟨p - 1, by omega⟩
                  obtain ⟨D, hS, hZ⟩ := HS.out
                  obtain ⟨x, hx⟩ : ∃ x, D (r + 1) = x := ⟨_, rfl⟩
                  obtain ⟨z, hz⟩ : ∃ z, D r = z := ⟨_, rfl⟩
                  have y0 : wr.cell? ⟨g, r + 1, none⟩ = some (.int .u64 (x : Int)) := by rw [← hx]; exact hZ.row.cell (by omega)
                  have y1 : wr.cell? ⟨g, r, none⟩ = some (.int .u64 (z : Int)) := by rw [← hz]; exact hZ.row.cell (by omega)
                  have hgl : g < wr.heap.size := hZ.row.lt
                  have hrn : r + 1 < n := by omega
                  have HZ := hide hZ
                  by_cases hd : x < z
                  · have NX : Hid (∀ V, ZS B w g cap n a b D0 V D → ∃ D, SortR a (q + 1) D ∧ ZS B w g cap n a b D0 ((V.setCell ⟨g, r + 1, none⟩ (.int .u64 (z : Int))).setCell ⟨g, r, none⟩ (.int .u64 (x : Int))) D) := fun V hV => by
                      refine ⟨swp D (r + 1) r, hS.same (fun k k1 k2 => swp_o D (by omega) (by omega)), ?_⟩
                      have h := hV.swap (i := r + 1) (j := r) (by omega) (by omega) (by omega) (by omega)
                      rw [hx, hz] at h
                      exact h
                    clear hS hZ hx hz HS
                    go_upto_region 22 with fail
                    go_quiet (first | (go_at_call 89; refine Calls.quiet_of_same (HL.out _ _ _)))
                    go_upto_region 23 with fail
                    have HI4 := hide (HZ.out.drewN nq)
                    have a0 : (wr.drewN nq).cell? ⟨g, r + 1, none⟩ = some (.int .u64 (x : Int)) := by simpa using y0
                    have a1 : (wr.drewN nq).cell? ⟨g, r, none⟩ = some (.int .u64 (z : Int)) := by simpa using y1
                    have a2 : g < (wr.drewN nq).heap.size := by simpa using hgl
                    have a3 := HI4.out.row.free (r + 1)
                    have a4 := HI4.out.row.free r
                    clear y0 y1 hgl HZ
                    generalize wr.drewN nq = W4 at *
                    go_region
                    go_wp2
                    go_roundw
                    case rel => exact ⟨r + 2, by omega, by omega, by go_num, NX.out _ HI4.out.drew⟩
                    case measure => simp [intOf]; omega
                  · have FIN : Hid (∀ m, ∃ D, SortR a (q + 1) D ∧ ZS B w g cap n a b D0 (wr.drewN m) D) := fun m => ⟨D, hS, hZ.drewN m⟩
                    clear hS hZ hx hz HS HZ
                    go_upto_region 22 with fail
                    go_quiet (first | (go_at_call 89; refine Calls.quiet_of_same (HL.out _ _ _)))
                    go_wp2
                    go_roundw
                    case rel => exact ⟨q + 1, t + 1, by omega, by omega, by have := HT5.out; omega, by go_num, by go_num, FIN.out _⟩
                    case measure => (have := HT5.out; simp [intOf] <;> omega)
                · have FIN : Hid (∀ m : Nat, ∃ D, SortR a (q + 1) D ∧ ZS B w g cap n a b D0 wr D) := fun _ => HS.out
                  clear HS
                  go_wp2
                  go_roundw
                  case rel => exact ⟨q + 1, t + 1, by omega, by omega, by have := HT5.out; omega, by go_num, by go_num, FIN.out 0⟩
                  case measure => (have := HT5.out; simp [intOf] <;> omega)
            · omega
    · have FIN : Hid (∃ D, ZS B w g cap n a b D0 wr D) := by
        obtain ⟨D, g1, g2⟩ := HJ.out
        exact ⟨D, g2⟩
      clear HJ
      go_wp2
      go_ret
      exact .inr ⟨rfl, FIN.out⟩
end Go.Proofs.Ytcfenjpdjogmdaa
