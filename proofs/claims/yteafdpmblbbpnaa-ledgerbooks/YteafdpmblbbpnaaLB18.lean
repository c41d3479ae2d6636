import Derived.Test.YteafdpmblbbpnaaLB11
import Derived.Test.YteafdpmblbbpnaaLB17
import Derived.Test.YteafdpmblbbpnaaLB12
import Derived.Test.YteafdpmblbbpnaaLB13
import Derived.Test.YteafdpmblbbpnaaLB15
import Derived.Test.YteafdpmblbbpnaaLB16
namespace Go.Proofs.Yteafdpmblbbpnaa
open Go.RowKit

/-- What breakPatterns owes. -/
def BreakOk (B g cap n : Nat) : Prop := ∀ (a b : Nat) (D : Nat → Nat) (V : World), a + 12 < b → b ≤ n → RowF V g cap n D → Calls Try.prog 82 #[.slice (some ⟨g, 0, none⟩) n cap, .int .i64 (a : Nat), .int .i64 (b : Nat)] V fun e w' => e = .returned (.tuple #[]) ∧ Hid (∃ D', ZS B V g cap n a b D w' D')
theorem PdR.of {B : Nat} {w : World} {g cap n a b p q : Nat} {D0 D D' : Nat → Nat} {W W' : World} (h : PdR a b p q D) (hz : ZS B w g cap n a b D0 W D) (h' : ZS B W g cap n p q D W' D') : PdR a b p q D' ∧ ZS B w g cap n a b D0 W' D' := ⟨h.perm h'.perm, hz.call h' h.ap h.qb⟩
set_option maxRecDepth 100000 in
set_option maxHeartbeats 4000000 in
theorem pdqZ (B g cap n : Nat) (hn : n < 2305843009213693952) (hB : B ≤ g) (hbk : BreakOk B g cap n) : ∀ (d a b : Nat) (lim : Int) (D0 : Nat → Nat) (w : World), b - a = d → a ≤ b → b ≤ n → RowF w g cap n D0 → PreR a b D0 →
    Calls Try.prog 71 #[.slice (some ⟨g, 0, none⟩) n cap, .int .i64 (a : Nat), .int .i64 (b : Nat), .int .i64 lim] w fun e w' => e = .returned (.tuple #[]) ∧ Hid (∃ D, SortR a b D ∧ ZS B w g cap n a b D0 w' D) := by
  intro d
  induction d using Nat.strongRecOn with
  | _ d IH0 =>
  intro a b lim D0 w hd hab hbn hr hpre
  have IH : Hid (∀ (a' b' : Nat) (lim : Int) (D0 : Nat → Nat) (w : World), b' - a' < b - a → a' ≤ b' → b' ≤ n → RowF w g cap n D0 → PreR a' b' D0 →
    Calls Try.prog 71 #[.slice (some ⟨g, 0, none⟩) n cap, .int .i64 (a' : Nat), .int .i64 (b' : Nat), .int .i64 lim] w fun e w' => e = .returned (.tuple #[]) ∧ Hid (∃ D, SortR a' b' D ∧ ZS B w g cap n a' b' D0 w' D)) := fun a' b' lim D0 w h => IH0 (b' - a') (by omega) a' b' lim D0 w rfl
  have HL := hide lessZ
  have HBK := hide hbk
  have HBG := hide hB
  have I0 : Hid (∃ D, PdR a b a b D ∧ ZS B w g cap n a b D0 w D) := ⟨D0, PdR.start hab hpre, ZS.begin a b hr hB⟩
  clear IH0 hr hpre hbk hB hd
  go_enter Try.func71, Try.ntmps71
  go_wp2
  go_loopw [1, 2, 3, 8, 9] (fun sa sb sl s8 s9 wr => ∃ (p q : Nat) (lm : Int) (wb wp : Bool), sa = .int .i64 (p : Nat) ∧ sb = .int .i64 (q : Nat) ∧ sl = .int .i64 lm ∧ s8 = .bool wb ∧ s9 = .bool wp ∧ Hid (∃ D, PdR a b p q D ∧ ZS B w g cap n a b D0 wr D)) (fun sa sb _ _ _ _ => (intOf sb - intOf sa).toNat)
  case atStart => exact ⟨a, b, lim, true, true, rfl, rfl, rfl, rfl, rfl, I0.out⟩
  case round =>
    obtain ⟨p, q, lm, wb, wp, rfl, rfl, rfl, rfl, rfl, HJ⟩ := hrel
    clear I0
    obtain ⟨hap, hpq, hqb⟩ : a ≤ p ∧ p ≤ q ∧ q ≤ b := by
      obtain ⟨D, h1, h2⟩ := HJ.out
      exact ⟨h1.ap, h1.pq, h1.qb⟩
    by_cases hlen : q ≤ p + 12
    · obtain ⟨D, hP, hZ⟩ := HJ.out
      have HC := hide (isortZ B g cap n p q D (by omega) hpq (by omega) wr hZ.row HBG.out)
      have HF : Hid (∀ D' V, SortR p q D' → ZS B wr g cap n p q D V D' → SortR a b D' ∧ ZS B w g cap n a b D0 V D') := fun D' V h1 h2 => ⟨hP.fin D' h2.perm h1, hZ.call h2 hP.ap hP.qb⟩
      clear hP hZ HJ
      go_wp2_with fail
      refine HC.out.mono ?_
      rintro e w2 ⟨rfl, G⟩
      have FIN : Hid (∃ D, SortR a b D ∧ ZS B w g cap n a b D0 w2 D) := by
        obtain ⟨D', g1, g2⟩ := G.out
        exact ⟨D', HF.out D' w2 g1 g2⟩
      clear HC HF G
      go_wp2
      refine bodyPost_ret (results_none rfl _ _ _) rfl ?_
      exact ⟨rfl, FIN.out⟩
    · by_cases hlm : lm = 0
      · subst hlm
        obtain ⟨D, hP, hZ⟩ := HJ.out
        have HC := hide (heapZ B g cap n p q D hn (by omega) (by omega) wr hZ.row HBG.out)
        have HF : Hid (∀ D' V, SortR p q D' → ZS B wr g cap n p q D V D' → SortR a b D' ∧ ZS B w g cap n a b D0 V D') := fun D' V h1 h2 => ⟨hP.fin D' h2.perm h1, hZ.call h2 hP.ap hP.qb⟩
        clear hP hZ HJ
        go_wp2_with fail
        refine HC.out.mono ?_
        rintro e w2 ⟨rfl, G⟩
        have FIN : Hid (∃ D, SortR a b D ∧ ZS B w g cap n a b D0 w2 D) := by
          obtain ⟨D', g1, g2⟩ := G.out
          exact ⟨D', HF.out D' w2 g1 g2⟩
        clear HC HF G
        go_wp2
        refine bodyPost_ret (results_none rfl _ _ _) rfl ?_
        exact ⟨rfl, FIN.out⟩
      · have dl : (lm == 0) = false := by simp [hlm]
        go_upto_if 35 with fail
        clear hlm dl
        go_cut [3] from 19 to 133 (fun s wx => (∃ lm : Int, s = .int .i64 lm) ∧ Hid (∃ D, PdR a b p q D ∧ ZS B w g cap n a b D0 wx D))
        case first =>
          cases wb with
          | true =>
            go_wp2
            go_meet
            case rel => exact ⟨⟨_, rfl⟩, HJ.out⟩
          | false =>
            obtain ⟨D, hP, hZ⟩ := HJ.out
            have HC := hide (HBK.out p q D wr (by omega) (by omega) hZ.row)
            have HF := hide (fun D' V (h : ZS B wr g cap n p q D V D') => hP.of hZ h)
            clear hP hZ HJ
            go_wp2_with fail
            refine HC.out.mono ?_
            rintro e w2 ⟨rfl, G⟩
            have NX : Hid (∃ D, PdR a b p q D ∧ ZS B w g cap n a b D0 w2 D) := by
              obtain ⟨D', g1⟩ := G.out
              exact ⟨D', HF.out D' w2 g1⟩
            clear HC HF G
            go_wp2
            go_meet
            case rel => exact ⟨⟨_, rfl⟩, NX.out⟩
        case rest =>
        clear HJ
        obtain ⟨⟨lm2, rfl⟩, HJ⟩ := hcut
        obtain ⟨D, hP, hZ⟩ := HJ.out
        have HC := hide (chooseZ B g cap n p q D (by omega) (by omega) hn HBG.out wc hZ.row)
        have HF : Hid (∀ V, RowF V g cap n D → Below B wc V → ∃ D, PdR a b p q D ∧ ZS B w g cap n a b D0 V D) := fun V h1 h2 => ⟨D, hP, h1, hZ.perm, hZ.bel.trans h2, hZ.bg⟩
        clear hP hZ HJ
        go_wp2_with fail
        refine HC.out.mono ?_
        rintro e w3 ⟨x, hh, rfl, G⟩
        have HJ := hide (HF.out w3 G.out.2.2.1 G.out.2.2.2)
        obtain ⟨hx1, hx2⟩ : p ≤ x ∧ x < q := ⟨G.out.1, G.out.2.1⟩
        clear HC HF G
        go_upto_if 50 with fail
        go_cut [11, 12] from 19 to 133 (fun s t wx => ∃ x : Nat, p ≤ x ∧ x < q ∧ s = .int .i64 (x : Nat) ∧ (∃ hh : Int, t = .int .i64 hh) ∧ Hid (∃ D, PdR a b p q D ∧ ZS B w g cap n a b D0 wx D))
        case first =>
          by_cases h2 : hh = 2
          · subst h2
            obtain ⟨D, hP, hZ⟩ := HJ.out
            have HC := hide (reverseZ B g cap n p q D hn (by omega) (by omega) w3 hZ.row HBG.out)
            have HF := hide (fun D' V (h : ZS B w3 g cap n p q D V D') => hP.of hZ h)
            clear hP hZ HJ
            go_wp2_with fail
            refine HC.out.mono ?_
            rintro e w4 ⟨rfl, G⟩
            have NX : Hid (∃ D, PdR a b p q D ∧ ZS B w g cap n a b D0 w4 D) := by
              obtain ⟨D', g1⟩ := G.out
              exact ⟨D', HF.out D' w4 g1⟩
            clear HC HF G
            go_wp2
            go_meet
            case rel => exact ⟨q - 1 - (x - p), by omega, by omega, by go_num, ⟨_, rfl⟩, NX.out⟩
          · have d2 : (hh == 2) = false := by simp [h2]
            go_wp2
            go_meet
            case rel => exact ⟨x, hx1, hx2, rfl, ⟨_, rfl⟩, HJ.out⟩
        case rest =>
        clear HJ hx1 hx2
        obtain ⟨x, hx1, hx2, rfl, ⟨hh, rfl⟩, HJ⟩ := hcut
        go_upto_region 15 with fail
        go_cut [68] from 19 to 133 (fun s wx => (∃ bb : Bool, s = .bool bb) ∧ Hid (∃ D, PdR a b p q D ∧ ZS B w g cap n a b D0 wx D))
        case first =>
          cases wb with
          | false =>
            go_wp2
            go_meet
            case rel => exact ⟨⟨_, rfl⟩, HJ.out⟩
          | true =>
            cases wp with
            | false =>
              go_wp2
              go_meet
              case rel => exact ⟨⟨_, rfl⟩, HJ.out⟩
            | true =>
              go_wp2
              go_meet
              case rel => exact ⟨⟨_, rfl⟩, HJ.out⟩
        case rest =>
        clear HJ
        obtain ⟨⟨bb, rfl⟩, HJ⟩ := hcut
        go_upto_if 68 with fail
        go_cut [] from 19 to 133 (fun wx => Hid (∃ D, PdR a b p q D ∧ ZS B w g cap n a b D0 wx D))
        case first =>
          cases bb with
          | false =>
            go_wp2
            go_meet
            case rel => exact HJ.out
          | true =>
            obtain ⟨D, hP, hZ⟩ := HJ.out
            have HC := hide (partialZ B g cap n p q D hn (by omega) (by omega) wc hZ.row HBG.out hP.pre)
            have HF := hide (fun D' V (h : ZS B wc g cap n p q D V D') => hP.of hZ h)
            have HF2 := hide hP.fin
            clear hP hZ HJ
            go_wp2_with fail
            refine HC.out.mono ?_
            rintro e w4 (⟨rfl, G⟩ | ⟨rfl, G⟩)
            · have FIN : Hid (∃ D, SortR a b D ∧ ZS B w g cap n a b D0 w4 D) := by
                obtain ⟨D', g1, g2⟩ := G.out
                exact ⟨D', HF2.out D' g2.perm g1, (HF.out D' w4 g2).2⟩
              clear HC HF HF2 G
              go_wp2
              refine bodyPost_ret (results_none rfl _ _ _) rfl ?_
              exact ⟨rfl, FIN.out⟩
            · have NX : Hid (∃ D, PdR a b p q D ∧ ZS B w g cap n a b D0 w4 D) := by
                obtain ⟨D', g1⟩ := G.out
                exact ⟨D', HF.out D' w4 g1⟩
              clear HC HF HF2 G
              go_wp2
              go_meet
              case rel => exact NX.out
        case rest =>
        clear HJ
        have HJ : Hid (∃ D, PdR a b p q D ∧ ZS B w g cap n a b D0 wc D) := hcut
        clear hcut
        go_upto_region 17 with fail
        go_cut [87] from 19 to 133 (fun s wx => ∃ bb : Bool, s = .bool bb ∧ Hid (∃ D, PdR a b p q D ∧ (bb = true → ∀ k, p ≤ k → k < q → D x ≤ D k) ∧ ZS B w g cap n a b D0 wx D))
        case first =>
          obtain ⟨D, hP, hZ⟩ := HJ.out
          cases p with
          | zero =>
            have FIN : Hid (∀ m, ∃ D, PdR a b 0 q D ∧ (false = true → ∀ k, 0 ≤ k → k < q → D x ≤ D k) ∧ ZS B w g cap n a b D0 (wc.drewN m) D) := fun m => ⟨D, hP, fun h => (Bool.false_ne_true h).elim, hZ.drewN m⟩
            clear hP hZ HJ
            go_quiet (fail)
            go_wp2
            go_meet
            case rel => exact ⟨false, rfl, FIN.out _⟩
          | succ r =>
            obtain ⟨u, hu⟩ : ∃ u, D r = u := ⟨_, rfl⟩
            obtain ⟨v, hv⟩ : ∃ v, D x = v := ⟨_, rfl⟩
            have y0 : wc.cell? ⟨g, r, none⟩ = some (.int .u64 (u : Int)) := by rw [← hu]; exact hZ.row.cell (by omega)
            have y1 : wc.cell? ⟨g, x, none⟩ = some (.int .u64 (v : Int)) := by rw [← hv]; exact hZ.row.cell (by omega)
            have hgl : g < wc.heap.size := hZ.row.lt
            have hrn : r + 1 < n := by omega
            have hxn : x < n := by omega
            have hr0 : (0 : Int) < (r : Int) + 1 := by omega
            by_cases hd : u < v
            · have FIN : Hid (∀ m, ∃ D, PdR a b (r + 1) q D ∧ (false = true → ∀ k, r + 1 ≤ k → k < q → D x ≤ D k) ∧ ZS B w g cap n a b D0 (wc.drewN m) D) := fun m => ⟨D, hP, fun h => (Bool.false_ne_true h).elim, hZ.drewN m⟩
              clear hP hZ HJ hu hv
              go_quiet (first | (go_at_call 86; refine Calls.quiet_of_same (HL.out _ _ _)))
              go_wp2
              go_meet
              case rel => exact ⟨false, rfl, FIN.out _⟩
            · have FIN : Hid (∀ m, ∃ D, PdR a b (r + 1) q D ∧ (∀ k, r + 1 ≤ k → k < q → D x ≤ D k) ∧ ZS B w g cap n a b D0 (wc.drewN m) D) := fun m => ⟨D, hP, fun k k1 k2 => by
                rcases hP.pre with h | h
                · omega
                · have h3 := h k k1 k2
                  rw [Nat.add_sub_cancel, hu] at h3
                  rw [hv]
                  omega, hZ.drewN m⟩
              clear hP hZ HJ hu hv
              go_quiet (first | (go_at_call 86; refine Calls.quiet_of_same (HL.out _ _ _)))
              go_wp2
              go_meet
              case rel =>
                obtain ⟨D, g1, g2, g3⟩ := FIN.out nq
                exact ⟨true, rfl, D, g1, fun _ => g2, g3⟩
        case rest =>
        clear HJ
        obtain ⟨bb, rfl, HJ⟩ := hcut
        cases bb with
        | true =>
          obtain ⟨D, hP, hE, hZ⟩ := HJ.out
          have HC := hide (partEqZ B g cap n p q x D hn hx1 hx2 (by omega) wc hZ.row HBG.out (hE rfl))
          have HF : Hid (∀ m V, (∃ D', p < m ∧ m ≤ q ∧ (∀ k, p ≤ k → k < m → D' k = D x) ∧ (∀ k, m ≤ k → k < q → D x < D' k) ∧ ZS B wc g cap n p q D V D') → p < m ∧ m ≤ q ∧ ∃ D', PdR a b m q D' ∧ ZS B w g cap n a b D0 V D') := fun m V ⟨D', g1, g2, g3, g4, g5⟩ => ⟨g1, g2, D', hP.eq g5.perm g1 g2 g3 g4, hZ.call g5 hP.ap hP.qb⟩
          clear hP hE hZ HJ
          go_wp2_with fail
          refine HC.out.mono ?_
          rintro e w4 ⟨m, rfl, G⟩
          obtain ⟨hm1, hm2, hJ⟩ := HF.out m w4 G.out
          have NX := hide hJ
          clear HC HF G hJ
          go_wp2
          go_roundw
          case rel => exact ⟨m, q, lm2, wb, wp, rfl, rfl, rfl, rfl, rfl, NX.out⟩
          case measure => (simp [intOf] <;> omega)
        | false =>
          obtain ⟨D, hP, hE, hZ⟩ := HJ.out
          have HC := hide (partZ B g cap n p q x D hn hx1 hx2 (by omega) wc hZ.row HBG.out)
          have HF : Hid (∀ m V, (∃ D', p ≤ m ∧ m < q ∧ (∀ k, p ≤ k → k < m → D' k < D' m) ∧ (∀ k, m < k → k < q → D' m ≤ D' k) ∧ ZS B wc g cap n p q D V D') → p ≤ m ∧ m < q ∧ ∃ D', RowF V g cap n D' ∧ PreR p m D' ∧ PreR (m + 1) q D' ∧ (∀ D2 U, ZS B V g cap n p m D' U D2 → SortR p m D2 → PdR a b (m + 1) q D2 ∧ ZS B w g cap n a b D0 U D2) ∧ (∀ D2 U, ZS B V g cap n (m + 1) q D' U D2 → SortR (m + 1) q D2 → PdR a b p m D2 ∧ ZS B w g cap n a b D0 U D2)) := fun m V ⟨D', g1, g2, g3, g4, g5⟩ => by
            have hz := hZ.call g5 hP.ap hP.qb
            refine ⟨g1, g2, D', g5.row, ((hP.pre.perm g5.perm)).less (by omega), .inr fun k k1 k2 => ?_, fun D2 U u1 u2 => ⟨hP.left g5.perm g1 g2 g3 g4 u1.perm u2, hz.call u1 hP.ap (by omega)⟩, fun D2 U u1 u2 => ⟨hP.right g5.perm g1 g2 g3 g4 u1.perm u2, hz.call u1 (by omega) hP.qb⟩⟩
            rw [Nat.add_sub_cancel]
            exact g4 k (by omega) k2
          clear hP hE hZ HJ
          go_wp2_with fail
          refine HC.out.mono ?_
          rintro e w4 ⟨m, tt, rfl, G⟩
          obtain ⟨hm1, hm2, D', hr', hpl, hpr, HL2, HR2⟩ := HF.out m w4 G.out
          by_cases hlr : m + m < p + q
          · have HC2 := hide (IH.out p m lm2 D' w4 (by omega) hm1 (by omega) hr' hpl)
            have HG := hide HL2
            clear HC HF G hr' hpl hpr HL2 HR2
            go_wp2_with fail
            refine HC2.out.mono ?_
            rintro e w5 ⟨rfl, G⟩
            have NX : Hid (∃ D, PdR a b (m + 1) q D ∧ ZS B w g cap n a b D0 w5 D) := by
              obtain ⟨D2, g1, g2⟩ := G.out
              exact ⟨D2, HG.out D2 w5 g2 g1⟩
            clear HC2 HG G
            go_wp2
            go_roundw
            case rel => exact ⟨m + 1, q, lm2, _, tt, by go_num, rfl, rfl, rfl, rfl, NX.out⟩
            case measure => (simp [intOf] <;> omega)
          · have HC2 := hide (IH.out (m + 1) q lm2 D' w4 (by omega) (by omega) (by omega) hr' hpr)
            have HG := hide HR2
            clear HC HF G hr' hpl hpr HL2 HR2
            go_wp2_with fail
            refine HC2.out.mono ?_
            rintro e w5 ⟨rfl, G⟩
            have NX : Hid (∃ D, PdR a b p m D ∧ ZS B w g cap n a b D0 w5 D) := by
              obtain ⟨D2, g1, g2⟩ := G.out
              exact ⟨D2, HG.out D2 w5 g2 g1⟩
            clear HC2 HG G
            go_wp2
            go_roundw
            case rel => exact ⟨p, m, lm2, _, tt, rfl, rfl, rfl, rfl, rfl, NX.out⟩
            case measure => (simp [intOf] <;> omega)
end Go.Proofs.Yteafdpmblbbpnaa
