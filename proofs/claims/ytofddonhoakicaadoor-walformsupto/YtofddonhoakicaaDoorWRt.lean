import Derived.Test.YtofddonhoakicaaDoorWRs
import Derived.Deep.DeepCutAuto
namespace Go.Proofs.YtofddonhoakicaaDoor
open Go.RowKit Crc

attribute [local irreducible] hdr scn frm hdr0 frs

set_option maxRecDepth 10000 in
set_option maxHeartbeats 4000000 in
theorem rscan_any {lim : Nat} {w : World} {ao : Option Addr} {n cap file : Nat} {D : List Nat} (h : Shows lim w ao n cap D) (hl : n ≤ 17179869184) (hlim : lim ≤ w.heap.size) :
    Calls Tryd.prog 17 #[.int .u64 file, .slice ao n cap] w fun e w' => RscR w.heap.size (scn file D) e w' ∧ Below w.heap.size w w' := by
  obtain ⟨i0, hinf, hz0, hz1, hz2⟩ := info_parts Tryd.infoL
  have HS := hide h
  have HN : Hid (n = D.length) := h.1
  have hcap : n ≤ cap := h.2.1
  clear h
  go_enter Tryd.func17, Tryd.ntmps17
  go_wp2
  go_loopw [8, 9] (fun s8 s9 wr => ∃ (k : Nat) (x : Int), k ≤ 65 ∧ s9 = .int .i64 k ∧ s8 = .int .i64 x ∧ -1 ≤ x ∧ Hid (x = bAt file k D) ∧ Hid (Below w.heap.size w wr)) (fun _ s _ => 65 - (intOf s).toNat)
  case atStart => exact ⟨0, -1, by omega, rfl, rfl, by omega, (bAt_zero file D).symm, Below.refl _ _⟩
  case round =>
    obtain ⟨k, x, hk, rfl, rfl, hx, HX, HB⟩ := hrel
    by_cases hlt : k ≤ 64
    · by_cases hfile : 0 < file ∧ file ≤ 4611686018427387904
      · have HH := hide (refHeader_ok file k wr ⟨hfile, hlt⟩)
        have hhl := hdr_len file k
        unfold BfP at HH
        rw [hhl] at HH
        have HBG := hide (hd_beg file k D hfile hlt)
        have HHL := hide hhl
        clear hhl
        go_wp2_with fail
        refine HH.out.mono ?_
        rintro e w1 ⟨a1, c1, fo, fc, rfl, G1⟩
        have O1 := hide G1.out.1
        have B1 : Hid (Below w.heap.size w w1) := HB.out.trans (G1.out.2.2.mono HB.out.size)
        clear G1 HH
        go_wp2_with fail
        refine (any_none _ _ _).mono ?_
        rintro e w2 ⟨rfl, hb2⟩
        have hb12 : Below w1.heap.size w1 w2 := below_trans1 ((Below.refl _ w1).alloc (Nat.le_refl _) _) hb2
        have O2 := hide (O1.out.quiet (below_none hb12))
        have B2 : Hid (Below w.heap.size w w2) := B1.out.trans (hb12.mono B1.out.size)
        have HBE := hide (begins_any (HS.out.below B2.out hlim) (owns_shows O2.out HHL.out.symm))
        obtain ⟨r, hr⟩ : ∃ r, r = decide (D.take (hdr file k).length = hdr file k) := ⟨_, rfl⟩
        rw [← hr] at HBE
        have HR := hide hr
        clear hb2 hb12 O1 B1 hr
        go_wp2_with fail
        go_loud (refine HBE.out.mono ?_)
        rintro e w3 ⟨rfl, q, hw3⟩
        have B3 : Hid (Below w.heap.size w w3) := by rw [hw3]; exact Go.below_drewN B2.out q
        clear hw3 HBE O2 B2
        cases r with
        | false =>
          have HN2 : Hid (x = bAt file (k + 1) D) := by
            show _ = _
            rw [bAt_miss (fun e => by have := HR.out; rw [decide_eq_true (HBG.out.2 e)] at this; cases this)]
            exact HX.out
          clear HX HB
          go_wp2
          go_roundw
          case rel => exact ⟨k + 1, x, by omega, by go_num, rfl, hx, HN2.out, B3.out⟩
          case measure => simp [intOf]; omega
        | true =>
          have HN2 : Hid ((k : Int) = bAt file (k + 1) D) := by
            show _ = _
            rw [bAt_hit (HBG.out.1 (of_decide_eq_true HR.out.symm))]
          clear HX HB
          go_wp2
          go_roundw
          case rel => exact ⟨k + 1, k, by omega, by go_num, rfl, by omega, HN2.out, B3.out⟩
          case measure => simp [intOf]; omega
      · have HH := hide (refHeader_no file k wr (fun e => hfile e.1))
        unfold BfP at HH
        have HN2 : Hid (x = bAt file (k + 1) D) := by
          show _ = _
          rw [bAt_miss (fun e => hfile e.1.1.1)]
          exact HX.out
        obtain ⟨c, hc⟩ : ∃ c, c = hdNo file := ⟨_, rfl⟩
        rw [← hc] at HH
        have hc0 : c ≠ 0 := by rw [hc]; unfold hdNo; rw [if_neg hfile]; decide
        clear hc HX hfile
        go_wp2_with fail
        refine HH.out.mono ?_
        rintro e w1 ⟨a1, c1, fo, fc, rfl, G1⟩
        have B1 : Hid (Below w.heap.size w w1) := HB.out.trans (G1.out.2.2.mono HB.out.size)
        clear G1 HH
        go_wp2_with fail
        go_loud (refine (any_some _ _ _ c _ hc0).mono ?_)
        rintro e w2 ⟨rfl, hb2⟩
        have B2 : Hid (Below w.heap.size w w2) := by
          have hb12 : Below w1.heap.size w1 w2 := below_trans1 ((Below.refl _ w1).alloc (Nat.le_refl _) _) hb2
          exact B1.out.trans (hb12.mono B1.out.size)
        clear hb2 B1 HB hc0
        go_wp2
        go_roundw
        case rel => exact ⟨k + 1, x, by omega, by go_num, rfl, hx, HN2.out, B2.out⟩
        case measure => simp [intOf]; omega
    · have HE : Hid (x = if hdIs file D then (bsOf D : Int) else -1) := by
        show _ = _
        rw [← bAt_end, HX.out, show k = 65 by omega]
      clear HX
      by_cases hh : hdIs file D
      · have HHD := hide hh
        have hxb : x = (bsOf D : Int) := by rw [HE.out, if_pos hh]
        have hB64 := hdIs_le hh
        have h21 : 21 ≤ n := by have := hdIs_len hh; have := HN.out; omega
        obtain ⟨Bz, hBz⟩ : ∃ Bz, Bz = bsOf D := ⟨_, rfl⟩
        rw [← hBz] at hxb hB64
        have HBZ := hide hBz
        subst hxb
        have HSC : Hid (scn file D = if (frs (D.drop 21).length (D.drop 21) 0).1.length < Bz then none else some (Bz, (frs (D.drop 21).length (D.drop 21) 0).1, 21 + (frs (D.drop 21).length (D.drop 21) 0).2)) := by
          show _ = _
          unfold scn
          rw [if_neg (by have := HN.out; omega), if_neg (by simpa using hh), hBz]
        obtain ⟨-, -, -, hDB, b, off, hao, hbl, hcl⟩ := HS.out
        obtain rfl := hao (by omega)
        have hbl' := hbl (by omega)
        have HDB := hide hDB
        have HCL := hide hcl
        clear hao hbl hcl hDB HE hh hBz
        go_wp2
        go_loopw [12, 13] (fun v e wr => ∃ (E k : Nat) (ab : Option Addr) (cb : Nat), E ≤ n ∧ 21 ≤ E ∧ k * 16 ≤ E ∧ e = .int .i64 E ∧ v = .slice ab k cb ∧ Hid (∃ xs Ls f, k = Ls.length ∧ RsInv w.heap.size w D wr v E xs Ls f)) (fun _ e _ => n - (intOf e).toNat)
        case atStart =>
          refine ⟨21, 0, none, 0, by omega, by omega, by omega, rfl, rfl, [], [], (D.drop 21).length, rfl, OwnM.nil _ _, HB.out, ?_, by rw [List.length_drop]; omega⟩
          simp
        case round =>
          obtain ⟨E, k, ab, cb, hE, hE21, hk, rfl, rfl, HR⟩ := hrel
          clear HB
          obtain ⟨m, hm⟩ : ∃ m, n = E + m := ⟨n - E, by omega⟩
          subst hm
          have HSZ : Hid (w.heap.size ≤ wr.heap.size) := by obtain ⟨xs, Ls, f, _, h⟩ := HR.out; exact h.2.1.size
          by_cases h16 : m < 16
          · have HST : Hid (∃ xs Ls, k = Ls.length ∧ (E : Int) = ((21 + (frs (D.drop 21).length (D.drop 21) 0).2 : Nat) : Int) ∧ Ls = (frs (D.drop 21).length (D.drop 21) 0).1 ∧ OwnM w.heap.size wr (.slice ab k cb) xs Ls ∧ Below w.heap.size w wr) := by
              obtain ⟨xs, Ls, f, hk', h⟩ := HR.out
              have hwn : whole (D.drop E) Ls.length = none := by exact whole_short _ _ (by rw [List.length_drop, ← HN.out]; omega)
              have hst := h.stop hE21 hwn HSZ.out (Below.refl _ _)
              have e := h.stopL hwn
              exact ⟨xs, Ls, hk', hst.1, e.symm, by rw [← e]; exact hst.2.1, hst.2.2⟩
            clear HR
            by_cases hkb : k < Bz
            · go_wp2
              refine bodyPost_ret (v := .tuple #[.int .i64 0, .slice none 0 0, .int .i64 0, .int .i64 167]) (by simp [results, Tryd.results17, go_sem]) rfl ?_
              obtain ⟨xs, Ls, h1, h2, h3, h4, h5⟩ := HST.out
              rw [HSC.out, if_pos (by rw [← h3, ← h1]; exact hkb)]
              exact ⟨rfl, h5⟩
            · go_wp2
              refine bodyPost_ret (v := .tuple #[.int .i64 (Bz : Int), .slice ab k cb, .int .i64 (E : Int), .int .i64 0]) (by simp [results, Tryd.results17, go_sem]) rfl ?_
              obtain ⟨xs, Ls, h1, h2, h3, h4, h5⟩ := HST.out
              rw [HSC.out, if_neg (by rw [← h3, ← h1]; exact hkb)]
              exact ⟨⟨_, xs, by rw [h2], by rw [← h3]; exact h4⟩, h5⟩
          · obtain ⟨R, hR⟩ : ∃ R, R = D.drop E := ⟨_, rfl⟩
            have HRl : Hid (m = R.length) := by show _ = _; rw [hR, List.length_drop, ← HN.out]; omega
            have HRB : Hid (∀ x ∈ R, x < 256) := fun x hx => HDB.out x (List.mem_of_mem_drop (hR ▸ hx))
            have HBw : Hid (Below w.heap.size w wr) := by obtain ⟨xs, Ls, f, _, h⟩ := HR.out; exact h.2.1
            have HRC : Hid (∀ i, i < m → wr.cell? ⟨b, off + E + i, none⟩ = some (.int .u8 ((R.getD i 0 : Nat) : Int))) := by
              intro i hi
              rw [hR, getD_drop, Nat.add_assoc]
              exact (HBw.out.cell (p := ⟨b, off + (E + i), none⟩) (by show b < w.heap.size; omega)).trans (HCL.out (E + i) (by omega))
            have HRR := hide hR
            clear hR
            have k0 := HRC.out 0 (by omega)
            have k1 := HRC.out 1 (by omega)
            have k2 := HRC.out 2 (by omega)
            have k3 := HRC.out 3 (by omega)
            simp only [Nat.add_zero, Nat.add_assoc] at k0 k1 k2 k3
            have g0 := getD_lt R HRB.out 0
            have g1 := getD_lt R HRB.out 1
            have g2 := getD_lt R HRB.out 2
            have g3 := getD_lt R HRB.out 3
            have HZ := hide (hi_take4 R (by have := HRl.out; omega))
            generalize R.getD 0 0 = c0 at *
            generalize R.getD 1 0 = c1 at *
            generalize R.getD 2 0 = c2 at *
            generalize R.getD 3 0 = c3 at *
            obtain ⟨z, hz⟩ : ∃ z, z = c0 * 16777216 + c1 * 65536 + c2 * 256 + c3 := ⟨_, rfl⟩
            have hzq : (c0 : Int) * 16777216 + (c1 : Int) * 65536 + (c2 : Int) * 256 + (c3 : Int) = (z : Int) := by omega
            have hz32 : z < 4294967296 := by omega
            have HZ2 : Hid (z = hi (R.take 4)) := by show _ = _; rw [HZ.out]; exact hz
            clear hz HZ
            go_wp2
            go_quiet (fail)
            have HV : Hid (Below wr.heap.size wr (wr.drewN nq)) := Go.below_drewN (Below.refl _ _) nq
            generalize wr.drewN nq = W0 at *
            clear k0 k1 k2 k3 hzq g0 g1 g2 g3
            have HW : Hid (60000 < z ∨ m < 16 + z → whole R k = none) := by
              intro hor
              unfold whole
              rw [← HRl.out, ← HZ2.out, if_neg (by omega)]
              split
              · rfl
              · split
                · rfl
                · rw [if_neg (show ¬ 2147483647 < k by omega)]
                  by_cases h6 : 60000 < z
                  · rw [if_pos h6]
                  · rw [if_neg h6, if_pos (by omega)]
            by_cases hz6 : 60000 < z
            · have HST : Hid (∃ xs Ls, k = Ls.length ∧ (E : Int) = ((21 + (frs (D.drop 21).length (D.drop 21) 0).2 : Nat) : Int) ∧ Ls = (frs (D.drop 21).length (D.drop 21) 0).1 ∧ OwnM w.heap.size W0 (.slice ab k cb) xs Ls ∧ Below w.heap.size w W0) := by
                obtain ⟨xs, Ls, f, hk', h⟩ := HR.out
                have hwn : whole (D.drop E) Ls.length = none := by rw [← HRR.out, ← hk']; exact HW.out (.inl hz6)
                have hst := h.stop hE21 hwn HSZ.out HV.out
                have e := h.stopL hwn
                exact ⟨xs, Ls, hk', hst.1, e.symm, by rw [← e]; exact hst.2.1, hst.2.2⟩
              clear HR
              by_cases hkb : k < Bz
              · go_wp2
                refine bodyPost_ret (v := .tuple #[.int .i64 0, .slice none 0 0, .int .i64 0, .int .i64 167]) (by simp [results, Tryd.results17, go_sem]) rfl ?_
                obtain ⟨xs, Ls, h1, h2, h3, h4, h5⟩ := HST.out
                rw [HSC.out, if_pos (by rw [← h3, ← h1]; exact hkb)]
                exact ⟨rfl, h5⟩
              · go_wp2
                refine bodyPost_ret (v := .tuple #[.int .i64 (Bz : Int), .slice ab k cb, .int .i64 (E : Int), .int .i64 0]) (by simp [results, Tryd.results17, go_sem]) rfl ?_
                obtain ⟨xs, Ls, h1, h2, h3, h4, h5⟩ := HST.out
                rw [HSC.out, if_neg (by rw [← h3, ← h1]; exact hkb)]
                exact ⟨⟨_, xs, by rw [h2], by rw [← h3]; exact h4⟩, h5⟩
            · by_cases hzm : m < 16 + z
              · have HST : Hid (∃ xs Ls, k = Ls.length ∧ (E : Int) = ((21 + (frs (D.drop 21).length (D.drop 21) 0).2 : Nat) : Int) ∧ Ls = (frs (D.drop 21).length (D.drop 21) 0).1 ∧ OwnM w.heap.size W0 (.slice ab k cb) xs Ls ∧ Below w.heap.size w W0) := by
                  obtain ⟨xs, Ls, f, hk', h⟩ := HR.out
                  have hwn : whole (D.drop E) Ls.length = none := by rw [← HRR.out, ← hk']; exact HW.out (.inr hzm)
                  have hst := h.stop hE21 hwn HSZ.out HV.out
                  have e := h.stopL hwn
                  exact ⟨xs, Ls, hk', hst.1, e.symm, by rw [← e]; exact hst.2.1, hst.2.2⟩
                clear HR
                by_cases hkb : k < Bz
                · go_wp2
                  refine bodyPost_ret (v := .tuple #[.int .i64 0, .slice none 0 0, .int .i64 0, .int .i64 167]) (by simp [results, Tryd.results17, go_sem]) rfl ?_
                  obtain ⟨xs, Ls, h1, h2, h3, h4, h5⟩ := HST.out
                  rw [HSC.out, if_pos (by rw [← h3, ← h1]; exact hkb)]
                  exact ⟨rfl, h5⟩
                · go_wp2
                  refine bodyPost_ret (v := .tuple #[.int .i64 (Bz : Int), .slice ab k cb, .int .i64 (E : Int), .int .i64 0]) (by simp [results, Tryd.results17, go_sem]) rfl ?_
                  obtain ⟨xs, Ls, h1, h2, h3, h4, h5⟩ := HST.out
                  rw [HSC.out, if_neg (by rw [← h3, ← h1]; exact hkb)]
                  exact ⟨⟨_, xs, by rw [h2], by rw [← h3]; exact h4⟩, h5⟩
              · have hSub : ∀ V, Below wr.heap.size wr V → ∀ lo k c, lo + k ≤ m → k ≤ c → Shows lim V (some ⟨b, off + E + lo, none⟩) k c ((R.drop lo).take k) := fun V hV lo k c h1 h2 => shows_sub HRl.out (by omega) HRB.out hbl' (fun i hi => below_at hV (HRC.out i hi)) lo k c h1 h2
                have HSub := hide hSub
                have HCP := hide (copy_any (hSub W0 HV.out 12 z (cap - (E + 12)) (by omega) (by omega)) (by have := HV.out.size; have := HSZ.out; omega))
                rw [Nat.add_assoc off E 12] at HCP
                clear hSub HW
                go_upto_region 15 with fail
                go_wp2_with fail
                go_loud (refine HCP.out.mono ?_)
                rintro e W1 ⟨v1, rfl, ho1, hb1⟩
                obtain ⟨body, hbody⟩ : ∃ body, body = (R.drop 12).take z := ⟨_, rfl⟩
                have hblen : body.length = z := by rw [hbody, List.length_take, List.length_drop, ← HRl.out]; omega
                have HFB := hide (frm_beg k z R HRB.out HZ2.out (by omega) (by have := HRl.out; omega) (by omega))
                rw [← hbody] at ho1 HFB
                have HBO := hide hbody
                have B1 : Hid (Below wr.heap.size wr W1) := HV.out.trans (hb1.mono HV.out.size)
                have O1 : Hid (Owns wr.heap.size W1 v1 body) := ho1.lower HV.out.size
                obtain ⟨a1, c1', hv1, hs1, -⟩ := ho1.form
                rw [hblen] at hv1 hs1
                subst hv1
                have hflen : (frm k body).length = z + 16 := by rw [frm_len, hblen]
                have HFR := hide (refFrame_ok (i := k) hs1 (Nat.le_refl _) (by omega) (by omega))
                unfold BfP at HFR
                rw [hflen] at HFR HFB
                have HFL := hide hflen
                clear ho1 hb1 hs1 hbody hblen hflen HCP HV
                go_wp2_with fail
                refine HFR.out.mono ?_
                rintro e W2 ⟨a2, c2', fo, fc, rfl, G2⟩
                have O2 := hide G2.out.1
                have B2 : Hid (Below wr.heap.size wr W2) := B1.out.trans (G2.out.2.2.mono B1.out.size)
                have O1' := hide (O1.out.quiet (below_none G2.out.2.2))
                obtain ⟨r, hr⟩ : ∃ r, r = decide (R.take (z + 16) = frm k body) := ⟨_, rfl⟩
                have HBE : Hid (∀ o, Calls Tryd.prog 34 #[.slice (some ⟨b, off + E, none⟩) m (cap - E), .slice a2 (z + 16) c2'] (W2.alloc o) fun e w' => e = .returned (.bool r) ∧ ∃ q, w' = (W2.alloc o).drewN q) := by
                  intro o
                  have hBo : Below wr.heap.size wr (W2.alloc o) := B2.out.alloc B2.out.size o
                  have s1 := HSub.out (W2.alloc o) hBo 0 m (cap - E) (by omega) (by omega)
                  rw [Nat.add_zero, List.drop_zero, List.take_of_length_le (by have := HRl.out; omega)] at s1
                  have s2 := owns_shows (O2.out.quiet (World.grownBy_alloc W2 o none)) HFL.out.symm
                  have := begins_any s1 s2
                  rw [HFL.out, ← hr] at this
                  exact this
                have HR3 := hide hr
                have HNW : Hid (r = false → whole R k = none) := by
                  intro hrf
                  rcases hwo : whole R k with _ | z'
                  · rfl
                  · exfalso
                    have hz' : z' = z := by
                      have := whole_size hwo
                      rw [this]; exact HZ2.out.symm
                    rw [hz'] at hwo
                    rw [hr, decide_eq_true (HFB.out.2 hwo)] at hrf
                    cases hrf
                have hce : ¬ cap = E := by omega
                clear G2 HFR hr B1 O1
                go_wp2_with fail
                go_loud (refine (HBE.out _).mono ?_)
                rintro e W3 ⟨rfl, q, hW3⟩
                have hb23 : Below W2.heap.size W2 W3 := by rw [hW3]; exact Go.below_drewN ((Below.refl _ _).alloc (Nat.le_refl _) _) q
                have B3 : Hid (Below wr.heap.size wr W3) := B2.out.trans (hb23.mono B2.out.size)
                have O3 := hide (O1'.out.quiet (below_none hb23))
                clear hW3 hb23 HBE B2 O1' O2
                cases r with
                | false =>
                  have HST : Hid (∃ xs Ls, k = Ls.length ∧ (E : Int) = ((21 + (frs (D.drop 21).length (D.drop 21) 0).2 : Nat) : Int) ∧ Ls = (frs (D.drop 21).length (D.drop 21) 0).1 ∧ OwnM w.heap.size W3 (.slice ab k cb) xs Ls ∧ Below w.heap.size w W3) := by
                    obtain ⟨xs, Ls, f, hk', h⟩ := HR.out
                    have hwn : whole (D.drop E) Ls.length = none := by rw [← HRR.out, ← hk']; exact HNW.out rfl
                    have hst := h.stop hE21 hwn HSZ.out B3.out
                    have e := h.stopL hwn
                    exact ⟨xs, Ls, hk', hst.1, e.symm, by rw [← e]; exact hst.2.1, hst.2.2⟩
                  clear HR
                  by_cases hkb : k < Bz
                  · go_wp2
                    refine bodyPost_ret (v := .tuple #[.int .i64 0, .slice none 0 0, .int .i64 0, .int .i64 167]) (by simp [results, Tryd.results17, go_sem]) rfl ?_
                    obtain ⟨xs, Ls, h1, h2, h3, h4, h5⟩ := HST.out
                    rw [HSC.out, if_pos (by rw [← h3, ← h1]; exact hkb)]
                    exact ⟨rfl, h5⟩
                  · go_wp2
                    refine bodyPost_ret (v := .tuple #[.int .i64 (Bz : Int), .slice ab k cb, .int .i64 (E : Int), .int .i64 0]) (by simp [results, Tryd.results17, go_sem]) rfl ?_
                    obtain ⟨xs, Ls, h1, h2, h3, h4, h5⟩ := HST.out
                    rw [HSC.out, if_neg (by rw [← h3, ← h1]; exact hkb)]
                    exact ⟨⟨_, xs, by rw [h2], by rw [← h3]; exact h4⟩, h5⟩
                | true =>
                  have HWS : Hid (whole R k = some z) := HFB.out.1 (of_decide_eq_true HR3.out.symm)
                  obtain ⟨xs, Ls, f, hk', hI⟩ := HR.out
                  have HKL := hide hk'
                  have HI := hide hI
                  have HRW : Hid (W3.ownsRow w.heap.size 25 1 (.slice ab k cb) k xs) := by
                    have := (hI.1.quiet (below_none B3.out)).row
                    rw [← hk'] at this
                    exact this
                  have HSZ3 : Hid (w.heap.size ≤ W3.heap.size) := by show _ ≤ _; have := B3.out.size; have := HSZ.out; omega
                  clear hk' hI HR
                  go_wp2_with (first
                    | (at_builtin; go_loud (refine wpList_append_moved _ rfl (.tmp 106) (.tmp 108) 23 rfl w.heap.size 25 i0 (.slice none 0 0) 1 24 Tryd.underlying23 hinf hz0 hz1 hz2 rfl (by omega) (.slice ab k cb) k xs rfl (HRW.out.alloc _) ⟨W3.heap.size, 0, none⟩ 1 1 [.slice a1 z c1'] rfl rfl (cell_one_new _ _ _) (Shade.one _ rfl) (by omega) (by unfold maxLen; omega) (by omega) (by have := HSZ3.out; simp; omega) ?_; intro v5 W5 hown5 hext5 hdis; clear hdis; have HOW5 := hide hown5; have HEX5 := hide hext5; clear hown5 hext5)))
                  go_roundw
                  case rel =>
                    have hR4 : Owns wr.heap.size W3 (.slice a1 z c1') (((D.drop E).drop 12).take z) := by
                      have := O3.out
                      rw [HBO.out, HRR.out] at this
                      exact this
                    obtain ⟨f', hI'⟩ := HI.out.more hE21 (by rw [← HKL.out, ← HRR.out]; exact HWS.out) HSZ.out B3.out hR4 (by rw [← HKL.out]; exact HOW5.out) HEX5.out
                    obtain ⟨a5, c5, hv5⟩ := hI'.1.form
                    refine ⟨E + (16 + z), k + 1, a5, c5, by omega, by omega, by omega, by go_num, ?_, xs ++ [.slice a1 z c1'], _, f', ?_, hI'⟩
                    · rw [hv5, List.length_append, ← HKL.out]; rfl
                    · rw [List.length_append, ← HKL.out]; rfl
                  case measure => simp [intOf]; omega
      · have hx1 : x = -1 := by rw [HE.out, if_neg hh]
        have HSC : Hid (scn file D = none) := by
          show _ = _
          unfold scn
          split
          · rfl
          · first | rfl | rw [if_pos hh]
        subst hx1
        clear hh HE
        go_wp2
        refine bodyPost_ret (v := .tuple #[.int .i64 0, .slice none 0 0, .int .i64 0, .int .i64 167]) (by simp [results, Tryd.results17, go_sem]) rfl ?_
        rw [HSC.out]
        exact ⟨rfl, HB.out⟩
end Go.Proofs.YtofddonhoakicaaDoor
