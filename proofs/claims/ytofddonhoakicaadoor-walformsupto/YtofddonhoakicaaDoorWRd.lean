import Derived.Test.YtofddonhoakicaaDoorWRo
namespace Go.Proofs.YtofddonhoakicaaDoor
open Go.RowKit Crc

attribute [local irreducible] seg frl hdr hdr0 flp scn tot big frm low4 Crc.sum

set_option maxRecDepth 10000 in
set_option maxHeartbeats 4000000 in
theorem reads_walk {lim : Nat} {w : World} {ao : Option Addr} {n cap file base : Nat} {Ls : List (List Nat)} (at_ : Int) (turn : Bool) (h : ShowsL lim w ao n cap Ls) (hlim : lim ≤ w.heap.size) (h0 : 0 < lim) (hok : hdOk file base) (hT : Table w) (ha1 : -9223372036854775808 ≤ at_) (ha2 : at_ ≤ 9223372036854775807) :
    Calls Tryd.prog 3 #[.int .u64 file, .int .i64 base, .slice ao n cap, .int .i64 at_, .bool turn] w fun e w' => e = .returned (.bool true) ∧ Below w.heap.size w w' := by
  have HS := hide h
  have HT := hide hT
  have HOK := hide hok
  have e0 : ((file : Int) == 0) = false := by have := hok.1; simp; omega
  have f1 : file ≤ 4611686018427387904 := hok.1.2
  have f2 : 0 < file := hok.1.1
  have b1 : base ≤ 64 := hok.2
  clear h hT hok
  go_enter Tryd.func3, Tryd.ntmps3
  go_wp2_with fail
  obtain ⟨k3, k5⟩ := alloc_op w (.slice ao n cap)
  have hb0 : Below w.heap.size w (w.alloc (.cells #[.int .i64 0, .int .u64 0, .int .i64 0, .slice none 0 0, .slice none 0 0, .slice ao n cap] 28)) := (Below.refl _ _).alloc (Nat.le_refl _) _
  generalize w.alloc (.cells #[.int .i64 0, .int .u64 0, .int .i64 0, .slice none 0 0, .slice none 0 0, .slice ao n cap] 28) = W at *
  have HB0 := hide hb0
  have HSW : Hid (ShowsL lim W ao n cap Ls) := HS.out.below hb0 hlim
  have HLI := hide (little_any HSW.out k3 k5)
  clear k3 k5 hb0 HS
  refine HLI.out.mono ?_
  rintro e w1 ⟨r, rfl, hr, rfl⟩
  have HR := hide hr
  clear hr HLI
  cases r with
  | false =>
    go_wp2
    go_ret
    exact ⟨rfl, HB0.out⟩
  | true =>
    have HN : Hid (n = Ls.length) := HSW.out.1
    have hn47 : n ≤ 140737488355328 := HSW.out.2.2.1
    go_wp2
    go_loopw [11] (fun i wr => ∃ k : Nat, k ≤ n ∧ i = .int .i64 k ∧ Hid (wr = w1) ∧ Hid (∀ j, j < k → (Ls.getD j []).length ≤ 60000)) (fun i _ => n - (intOf i).toNat)
    case atStart => exact ⟨0, by omega, rfl, rfl, fun j hj => by omega⟩
    case round =>
      obtain ⟨k, hk, rfl, HW, H6⟩ := hrel
      have hw := HW.out
      subst hw
      by_cases hlt : k < n
      · obtain ⟨-, -, -, b, off, p5, -, p7⟩ := HSW.out
        obtain rfl := p5 (by omega)
        obtain ⟨ax, mx, cx, kx, sx⟩ := p7 k hlt
        have hm : mx ≤ 140737488355328 := sx.2.2.1
        have HM : Hid (mx = (Ls.getD k []).length) := sx.1
        clear p5 p7 sx
        by_cases h6 : 60000 < mx
        · go_wp2
          go_ret
          exact ⟨rfl, HB0.out⟩
        · go_wp2
          go_roundw
          case rel =>
            refine ⟨k + 1, by omega, by go_num, trivial, fun j hj => ?_⟩
            rcases Nat.lt_or_ge j k with h | h
            · exact H6.out j h
            · rw [show j = k by omega, ← HM.out]; omega
          case measure => simp [intOf]; omega
      · have H6' : Hid (∀ B ∈ Ls, B.length ≤ 60000) := by
          intro B hB
          obtain ⟨j, hj, rfl⟩ := List.getElem_of_mem hB
          have := H6.out j (by have := HN.out; omega)
          rw [List.getD_eq_getElem?_getD, List.getElem?_eq_getElem hj] at this
          exact this
        have HTT : Hid (tot Ls ≤ 268435392) := by show tot Ls ≤ _; simpa using (HR.out H6'.out).symm
        clear HR H6 HW
        have ht := HTT.out
        have htg := tot_ge Ls
        rw [← HN.out] at htg
        have hn24 : n ≤ 16777216 := by omega
        have HSG := hide (seg_len file base Ls)
        have HLD := hide (laid_any HSW.out (by have := HB0.out.size; omega) h0 HOK.out H6'.out (by omega) (HT.out.below HB0.out (by omega)))
        obtain ⟨t, hteq⟩ : ∃ t, t = tot Ls := ⟨_, rfl⟩
        rw [← hteq] at ht HSG
        have HTE := hide hteq
        clear htg hteq HTT
        go_wp2_with fail
        refine HLD.out.mono ?_
        rintro e w2 ⟨v2, rfl, ho2, hb2⟩
        obtain ⟨a2, c2, hv2, hs2, -⟩ := ho2.form
        rw [HSG.out] at hv2 hs2
        subst hv2
        have HB2 : Hid (Below w.heap.size w w2) := HB0.out.trans (hb2.mono HB0.out.size)
        have HS2 : Hid (ShowsL lim w2 ao n cap Ls) := HSW.out.below hb2 (by have := HB0.out.size; omega)
        have HD2 := hide hs2
        clear ho2 hb2 hs2 HLD HSW HB0
        have HL3 := hide (lend_sh HD2.out (Nat.le_refl _) (by omega))
        go_wp2_with fail
        go_loud (refine HL3.out.mono ?_)
        rintro e w3 ⟨rfl, hL3, hb3⟩
        have HSB : Hid (∀ x ∈ seg file base Ls, x < 256) := HD2.out.2.2.2.1
        have HBB : Hid (∀ B ∈ Ls, ∀ x ∈ B, x < 256) := by
          intro B hB
          obtain ⟨j, hj, rfl⟩ := List.getElem_of_mem hB
          obtain ⟨-, -, -, b, off, -, -, p7⟩ := HS2.out
          obtain ⟨a, m, c, -, q⟩ := p7 j (by have := HN.out; omega)
          have := q.2.2.2.1
          rw [List.getD_eq_getElem?_getD, List.getElem?_eq_getElem hj] at this
          exact this
        have HT2 : Hid (Table w2) := HT.out.below HB2.out (by omega)
        have h02 : 0 < w2.heap.size := by have := HB2.out.size; omega
        have HSC := hide (scan_any (file := file) (hL3.shows HSB.out (by omega)) (by omega) (Nat.le_refl _) (by omega) (HT2.out.below hb3 h02))
        rw [seg_scn file base Ls HOK.out (by have := HN.out; omega) H6'.out, ← HN.out] at HSC
        have HB3 : Hid (Below w.heap.size w w3) := HB2.out.trans (hb3.mono HB2.out.size)
        have HB23 := hide hb3
        clear hL3 hb3 HL3
        go_wp2_with fail
        go_loud (refine HSC.out.mono ?_)
        rintro e w4 ⟨he, hb4⟩
        by_cases hbn : n < base
        · rw [if_pos hbn] at he
          obtain rfl := he
          have HB4 : Hid (Below w.heap.size w w4) := HB3.out.trans (hb4.mono HB3.out.size)
          clear hb4 HSC
          go_wp2
          go_ret
          exact ⟨rfl, HB4.out⟩
        · rw [if_neg hbn] at he
          obtain ⟨v4, xs, rfl, hO4⟩ := he
          obtain ⟨a4, c4, hv4⟩ := hO4.form
          rw [← HN.out] at hv4
          subst hv4
          have HB4 : Hid (Below w.heap.size w w4) := HB3.out.trans (hb4.mono HB3.out.size)
          have HB24 : Hid (Below w2.heap.size w2 w4) := HB23.out.trans (hb4.mono HB23.out.size)
          have HLL : Hid (ShowsL w4.heap.size w4 a4 n c4 Ls) := hO4.shows (by omega)
          have HSA := hide (sameAll_any HLL.out (HS2.out.below HB24.out (by have := HB2.out.size; omega)))
          rw [← HTE.out]
          clear hO4 hb4 HSC HLL
          go_wp2_with fail
          go_loud (refine HSA.out.mono ?_)
          rintro e w5 ⟨rfl, q, hw5⟩
          have HB5 : Hid (Below w.heap.size w w5) := by rw [hw5]; exact Go.below_drewN HB4.out q
          have HB25 : Hid (Below w2.heap.size w2 w5) := by rw [hw5]; exact Go.below_drewN HB24.out q
          have HD5 := hide (HD2.out.below HB25.out (Nat.le_refl _))
          have HL5 := hide (lend_sh HD5.out HB25.out.size (by omega))
          clear hw5 HSA HB4 HB24 HB3 HB23
          go_wp2_with fail
          go_loud (refine HL5.out.mono ?_)
          rintro e w6 ⟨rfl, hL6, hb6⟩
          have HB6 : Hid (Below w.heap.size w w6) := HB5.out.trans (hb6.mono HB5.out.size)
          have HB26 : Hid (Below w2.heap.size w2 w6) := HB25.out.trans (hb6.mono HB25.out.size)
          have HSC := hide (scan_any (file := file + 1) (hL6.shows HSB.out (by omega)) (by omega) (Nat.le_refl _) (by omega) (HT2.out.below HB26.out h02))
          rw [seg_other file base Ls, show ((file + 1 : Nat) : Int) = (file : Int) + 1 by omega] at HSC
          clear hL6 hb6 HL5 HB5 HB25 HD5
          go_wp2_with fail
          go_loud (refine HSC.out.mono ?_)
          rintro e w7 ⟨he, hb7⟩
          obtain rfl := he
          have HB7 : Hid (Below w.heap.size w w7) := HB6.out.trans (hb7.mono HB6.out.size)
          have HB27 : Hid (Below w2.heap.size w2 w7) := HB26.out.trans (hb7.mono HB26.out.size)
          clear hb7 HSC HB6 HB26
          go_upto_if 121 with fail
          go_cut [3] from 122 to 124 (fun s3 V => (∃ Z : Nat, Z ≤ 9223372036854775807 ∧ s3 = .int .i64 Z) ∧ Hid (V = w7))
          case first =>
            by_cases hneg : at_ < 0
            · go_wp2
              go_meet
              exact ⟨⟨(-(at_ + 1)).toNat, by omega, by congr 1; omega⟩, rfl⟩
            · go_wp2
              go_meet
              exact ⟨⟨at_.toNat, by omega, by congr 1; omega⟩, rfl⟩
          case rest =>
          obtain ⟨⟨Z, hZ, rfl⟩, hwc⟩ := hcut
          have hwc' := hwc.out
          subst hwc'
          clear hwc
          go_upto_region 21 with fail
          go_cut [3] from 125 to 128 (fun s3 V => (∃ P : Nat, P < 21 + t ∧ s3 = .int .i64 P) ∧ Hid (V = wc))
          case first =>
            go_wp2
            go_meet
            exact ⟨⟨Z % (21 + t), Nat.mod_lt _ (by omega), by congr 1⟩, rfl⟩
          case rest =>
          obtain ⟨⟨P, hP, rfl⟩, hwc⟩ := hcut
          have hwc' := hwc.out
          subst hwc'
          clear hwc
          go_wp2
          go_loopw [21, 22] (fun a i wr => ∃ (k T : Nat), k ≤ n ∧ i = .int .i64 k ∧ a = .int .i64 T ∧ T ≤ 21 + t ∧ 21 ≤ T ∧ Hid (k = 0 ∨ T ≤ P) ∧ Hid (wr = wc) ∧ Hid (T = 21 + tot (Ls.take k))) (fun _ i _ => n - (intOf i).toNat)
          case atStart => exact ⟨0, 21, by omega, rfl, rfl, by omega, by omega, .inl rfl, rfl, by show _ = _; simp [tot]⟩
          case round =>
            obtain ⟨k, T, hk, rfl, rfl, hT1, hT2, HT3, HW, HTK⟩ := hrel
            have hw := HW.out
            subst hw
            clear HW
            by_cases hgo : k < n ∧ T + (Ls.getD k []).length + 16 ≤ P
            · obtain ⟨hlt, hge⟩ := hgo
              obtain ⟨-, -, -, b, off, p5, -, p7⟩ := HS2.out.below HB27.out (by have := HB2.out.size; omega)
              obtain rfl := p5 (by omega)
              obtain ⟨ax, mx, cx, kx, sx⟩ := p7 k hlt
              have hmx : mx = (Ls.getD k []).length := sx.1
              have HM := hide hmx
              have HTS : Hid (T + (mx + 16) = 21 + tot (Ls.take (k + 1))) := by
                show _ = _
                rw [tot_getD Ls k (by have := HN.out; omega), ← hmx, HTK.out]; omega
              rw [← hmx] at hge
              clear p5 p7 sx hmx
              go_wp2
              go_roundw
              case rel =>
                refine ⟨k + 1, T + (mx + 16), by omega, by go_num, by go_num, ?_, by omega, .inr (by omega), trivial, HTS.out⟩
                omega
              case measure => simp [intOf]; omega
            · have HAT : Hid (AtK Ls k P) := by
                refine atK_of ?_ (by rw [← HTE.out]; exact hP) (by have := HN.out; omega) (fun hlt => ?_)
                · rw [← HTK.out]; exact HT3.out
                · rw [← HTK.out]; have := HN.out; omega
              have HLS : Hid (k ≤ Ls.length) := by show k ≤ _; have := HN.out; omega
              have HSk : Hid (ShowsL lim w2 ao k cap (Ls.take k)) := by
                obtain ⟨p1, p2, p3, b, off, p5, p6, p7⟩ := HS2.out
                refine ⟨by rw [List.length_take]; have := HLS.out; omega, by omega, by omega, b, off, fun h => p5 (by omega), fun h => p6 (by omega), fun i hi => ?_⟩
                obtain ⟨a, m, c, q1, q2⟩ := p7 i (by omega)
                refine ⟨a, m, c, q1, ?_⟩
                have e : (Ls.take k).getD i [] = Ls.getD i [] := by rw [List.getD_eq_getElem?_getD, List.getD_eq_getElem?_getD, List.getElem?_take, if_pos hi]
                rw [e]; exact q2
              have hkc : k ≤ cap := by have := HS2.out.2.1; omega
              have HD7 := hide (HD2.out.below HB27.out (Nat.le_refl _))
              have HL7 := hide (lend_sh HD7.out HB27.out.size (by omega))
              have hkn : k = n ∨ k < n := by omega
              rcases hkn with hkn | hkn
              · have hkn' : ¬ k < n := by omega
                have HKN := hide hkn
                clear hgo HT3 hkn
                go_upto_region 26 with fail
                have HSc : Hid (∀ V v8 D8, Below w2.heap.size w2 V → Shows V.heap.size V (some ⟨wr.heap.size, 0, none⟩) v8 (21 + t + 3) D8 → v8 ≤ 21 + t → scn file D8 = lastS base k P Ls → Calls Tryd.prog 7 #[.int .u64 file, .slice (some ⟨wr.heap.size, 0, none⟩) v8 (21 + t + 3)] V fun e w' => ScnR V.heap.size (lastS base k P Ls) e w' ∧ Below V.heap.size V w') := by
                  intro V v8 D8 hbV hsh h8 hsc
                  rw [← hsc]
                  exact scan_any hsh (by omega) (Nat.le_refl _) (by omega) (HT2.out.below hbV h02)
                go_wp2_with fail
                refine HL7.out.mono ?_
                rintro e w8 ⟨rfl, hL8, hb8⟩
                have HO8 := hide (hL8.owns HSB.out (by omega))
                have HB28 : Hid (Below w2.heap.size w2 w8) := HB27.out.trans (hb8.mono HB27.out.size)
                have HB8 : Hid (Below w.heap.size w w8) := HB7.out.trans (hb8.mono HB7.out.size)
                have hg8 : Hid (w2.heap.size ≤ wr.heap.size) := HB27.out.size
                clear hL8 hb8 HL7 HD7
                cases turn with
                | false =>
                  have HC8 : Hid (Calls Tryd.prog 7 #[.int .u64 file, .slice (some ⟨wr.heap.size, 0, none⟩) P (21 + t + 3)] w8 fun e w' => ScnR w8.heap.size (lastS base k P Ls) e w' ∧ Below w8.heap.size w8 w') := by
                    refine HSc.out w8 P ((seg file base Ls).take P) HB28.out ?_ (by omega) (last_cut file base k P Ls HOK.out (by have := HN.out; omega) H6'.out HAT.out)
                    have s8 := owns_shows HO8.out HSG.out.symm
                    obtain ⟨q1, q2, q3, q4, bb, oo, q5, q6, q7⟩ := s8
                    have hl : 21 + t = (seg file base Ls).length := HSG.out.symm
                    refine ⟨by rw [List.length_take]; omega, by omega, by omega, fun x hx => q4 x (List.mem_of_mem_take hx), bb, oo, fun h => q5 (by omega), fun h => q6 (by omega), fun i hi => ?_⟩
                    rw [getD_take hi]
                    exact q7 i (by omega)
                  have HBV := hide HB8.out
                  have HB2V := hide HB28.out
                  clear HB8 HB28
                  go_wp2_with fail
                  refine HC8.out.mono ?_
                  rintro e w9 ⟨he, hb9⟩
                  have HB9 : Hid (Below w.heap.size w w9) := HBV.out.trans (hb9.mono HBV.out.size)
                  have HB29 : Hid (Below w2.heap.size w2 w9) := HB2V.out.trans (hb9.mono HB2V.out.size)
                  clear hb9 HC8 HBV HB2V
                  by_cases hla : P < 21 ∨ k < base
                  · unfold lastS at he
                    rw [if_pos hla] at he
                    obtain rfl := he
                    by_cases hP21 : P < 21
                    · clear hla
                      go_wp2
                      go_ret
                      exact ⟨rfl, HB9.out⟩
                    · have := HKN.out
                      omega
                  · unfold lastS at he
                    rw [if_neg hla] at he
                    obtain ⟨v9, ys, rfl, hO9⟩ := he
                    obtain ⟨a9, c9, hv9⟩ := hO9.form
                    have hlk : (Ls.take k).length = k := by rw [List.length_take]; have := HLS.out; omega
                    rw [hlk] at hv9
                    subst hv9
                    rw [← HTK.out]
                    have HSA := hide (sameAll_any (hO9.shows (by omega)) (HSk.out.below HB29.out (by have := HB2.out.size; omega)))
                    have hP21 : ¬ P < 21 := by omega
                    have hkb : ¬ k < base := by omega
                    clear hO9 hla hlk
                    go_wp2_with fail
                    refine HSA.out.mono ?_
                    rintro e w10 ⟨rfl, q10, hw10⟩
                    have HB10 : Hid (Below w.heap.size w w10) := by rw [hw10]; exact Go.below_drewN HB9.out q10
                    clear hw10
                    go_wp2
                    go_ret
                    exact ⟨rfl, HB10.out⟩
                | true =>
                  obtain ⟨r, hr8⟩ : ∃ r, r = n % 8 := ⟨_, rfl⟩
                  have e4 : (n : Int) % 8 = (r : Int) := by omega
                  have hrl : r < 8 := by omega
                  have HCL : Hid (w8.cell? ⟨wr.heap.size, P, none⟩ = some (.int .u8 (((seg file base Ls).getD P 0 : Nat) : Int))) := by
                    have := HO8.out.1
                    rw [HSG.out] at this
                    exact owned_cells this P hP
                  have hcl := HCL.out
                  have hc256 : (seg file base Ls).getD P 0 < 256 := getD_lt _ HSB.out P
                  have hfz : w8.frozen? ⟨wr.heap.size, P, none⟩ = false := by
                    have := HO8.out.1
                    rw [HSG.out] at this
                    exact this.frozenAt _
                  have HXR : Hid (bits .xor .u8 (((seg file base Ls).getD P 0 : Nat) : Int) ((2 : Int) ^ r % (256 : Int)) = (((seg file base Ls).getD P 0 ^^^ 2 ^ r : Nat) : Int)) := flip_bits _ r hrl hc256
                  have HST8 : Hid (Owns wr.heap.size (w8.setCell ⟨wr.heap.size, P, none⟩ (.int .u8 (((seg file base Ls).getD P 0 ^^^ 2 ^ r : Nat) : Int))) (.slice (some ⟨wr.heap.size, 0, none⟩) (21 + t) (21 + t + 3)) (flp (seg file base Ls) P r) ∧ w8.grownBy (w8.setCell ⟨wr.heap.size, P, none⟩ (.int .u8 (((seg file base Ls).getD P 0 ^^^ 2 ^ r : Nat) : Int))) (some wr.heap.size)) := by
                    have := HO8.out.1
                    rw [HSG.out] at this
                    have h2 := this.stored P (.int .u8 (((seg file base Ls).getD P 0 ^^^ 2 ^ r : Nat) : Int))
                    refine ⟨⟨?_, flp_lt _ _ _ hrl HSB.out, by rw [flp_len, HSG.out]; omega⟩, h2.2⟩
                    rw [flp_len, HSG.out]
                    unfold flp
                    rw [vals_set]
                    exact h2.1
                  have HLF : Hid (scn file (flp (seg file base Ls) P r) = lastS base k P Ls) := last_flip file base k P r Ls HOK.out (by have := HN.out; omega) H6'.out HBB.out hrl HAT.out
                  clear HCL hr8
                  generalize (seg file base Ls).getD P 0 = c at *
                  go_upto_region 30 with fail
                  rw [HXR.out]
                  generalize w8.setCell ⟨wr.heap.size, P, none⟩ (.int .u8 ((c ^^^ 2 ^ r : Nat) : Int)) = V at *
                  have HBV : Hid (Below w.heap.size w V) := HB8.out.grown HST8.out.2 HB8.out.size (fun g hg => by cases hg; have := HB2.out.size; have := hg8.out; omega)
                  have HB2V : Hid (Below w2.heap.size w2 V) := HB28.out.grown HST8.out.2 HB28.out.size (fun g hg => by cases hg; exact hg8.out)
                  have HC8 : Hid (Calls Tryd.prog 7 #[.int .u64 file, .slice (some ⟨wr.heap.size, 0, none⟩) (21 + t) (21 + t + 3)] V fun e w' => ScnR V.heap.size (lastS base k P Ls) e w' ∧ Below V.heap.size V w') := by
                    refine HSc.out V (21 + t) _ HB2V.out ?_ (by omega) HLF.out
                    exact owns_shows HST8.out.1 (by rw [flp_len]; exact HSG.out.symm)
                  clear HST8 HB8 HB28 HSc hcl hfz HXR e4
                  go_wp2_with fail
                  refine HC8.out.mono ?_
                  rintro e w9 ⟨he, hb9⟩
                  have HB9 : Hid (Below w.heap.size w w9) := HBV.out.trans (hb9.mono HBV.out.size)
                  have HB29 : Hid (Below w2.heap.size w2 w9) := HB2V.out.trans (hb9.mono HB2V.out.size)
                  clear hb9 HC8 HBV HB2V
                  by_cases hla : P < 21 ∨ k < base
                  · unfold lastS at he
                    rw [if_pos hla] at he
                    obtain rfl := he
                    by_cases hP21 : P < 21
                    · clear hla
                      go_wp2
                      go_ret
                      exact ⟨rfl, HB9.out⟩
                    · have := HKN.out
                      omega
                  · unfold lastS at he
                    rw [if_neg hla] at he
                    obtain ⟨v9, ys, rfl, hO9⟩ := he
                    obtain ⟨a9, c9, hv9⟩ := hO9.form
                    have hlk : (Ls.take k).length = k := by rw [List.length_take]; have := HLS.out; omega
                    rw [hlk] at hv9
                    subst hv9
                    rw [← HTK.out]
                    have HSA := hide (sameAll_any (hO9.shows (by omega)) (HSk.out.below HB29.out (by have := HB2.out.size; omega)))
                    have hP21 : ¬ P < 21 := by omega
                    have hkb : ¬ k < base := by omega
                    clear hO9 hla hlk
                    go_wp2_with fail
                    refine HSA.out.mono ?_
                    rintro e w10 ⟨rfl, q10, hw10⟩
                    have HB10 : Hid (Below w.heap.size w w10) := by rw [hw10]; exact Go.below_drewN HB9.out q10
                    clear hw10
                    go_wp2
                    go_ret
                    exact ⟨rfl, HB10.out⟩
              · obtain ⟨-, -, -, b, off, p5, -, p7⟩ := HS2.out.below HB27.out (by have := HB2.out.size; omega)
                obtain rfl := p5 (by omega)
                obtain ⟨ax, mx, cx, kx, sx⟩ := p7 k hkn
                have hmx : mx = (Ls.getD k []).length := sx.1
                have hm47 : mx ≤ 140737488355328 := sx.2.2.1
                have hgt : P < T + mx + 16 := by omega
                clear p5 p7 sx hmx hgo HT3
                go_upto_region 26 with fail
                have HSc : Hid (∀ V v8 D8, Below w2.heap.size w2 V → Shows V.heap.size V (some ⟨wr.heap.size, 0, none⟩) v8 (21 + t + 3) D8 → v8 ≤ 21 + t → scn file D8 = lastS base k P Ls → Calls Tryd.prog 7 #[.int .u64 file, .slice (some ⟨wr.heap.size, 0, none⟩) v8 (21 + t + 3)] V fun e w' => ScnR V.heap.size (lastS base k P Ls) e w' ∧ Below V.heap.size V w') := by
                  intro V v8 D8 hbV hsh h8 hsc
                  rw [← hsc]
                  exact scan_any hsh (by omega) (Nat.le_refl _) (by omega) (HT2.out.below hbV h02)
                go_wp2_with fail
                refine HL7.out.mono ?_
                rintro e w8 ⟨rfl, hL8, hb8⟩
                have HO8 := hide (hL8.owns HSB.out (by omega))
                have HB28 : Hid (Below w2.heap.size w2 w8) := HB27.out.trans (hb8.mono HB27.out.size)
                have HB8 : Hid (Below w.heap.size w w8) := HB7.out.trans (hb8.mono HB7.out.size)
                have hg8 : Hid (w2.heap.size ≤ wr.heap.size) := HB27.out.size
                clear hL8 hb8 HL7 HD7
                cases turn with
                | false =>
                  have HC8 : Hid (Calls Tryd.prog 7 #[.int .u64 file, .slice (some ⟨wr.heap.size, 0, none⟩) P (21 + t + 3)] w8 fun e w' => ScnR w8.heap.size (lastS base k P Ls) e w' ∧ Below w8.heap.size w8 w') := by
                    refine HSc.out w8 P ((seg file base Ls).take P) HB28.out ?_ (by omega) (last_cut file base k P Ls HOK.out (by have := HN.out; omega) H6'.out HAT.out)
                    have s8 := owns_shows HO8.out HSG.out.symm
                    obtain ⟨q1, q2, q3, q4, bb, oo, q5, q6, q7⟩ := s8
                    have hl : 21 + t = (seg file base Ls).length := HSG.out.symm
                    refine ⟨by rw [List.length_take]; omega, by omega, by omega, fun x hx => q4 x (List.mem_of_mem_take hx), bb, oo, fun h => q5 (by omega), fun h => q6 (by omega), fun i hi => ?_⟩
                    rw [getD_take hi]
                    exact q7 i (by omega)
                  have HBV := hide HB8.out
                  have HB2V := hide HB28.out
                  clear HB8 HB28
                  go_wp2_with fail
                  refine HC8.out.mono ?_
                  rintro e w9 ⟨he, hb9⟩
                  have HB9 : Hid (Below w.heap.size w w9) := HBV.out.trans (hb9.mono HBV.out.size)
                  have HB29 : Hid (Below w2.heap.size w2 w9) := HB2V.out.trans (hb9.mono HB2V.out.size)
                  clear hb9 HC8 HBV HB2V
                  by_cases hla : P < 21 ∨ k < base
                  · unfold lastS at he
                    rw [if_pos hla] at he
                    obtain rfl := he
                    by_cases hP21 : P < 21
                    · clear hla
                      go_wp2
                      go_ret
                      exact ⟨rfl, HB9.out⟩
                    · have hkb : k < base := by omega
                      clear hla
                      go_wp2
                      go_ret
                      exact ⟨rfl, HB9.out⟩
                  · unfold lastS at he
                    rw [if_neg hla] at he
                    obtain ⟨v9, ys, rfl, hO9⟩ := he
                    obtain ⟨a9, c9, hv9⟩ := hO9.form
                    have hlk : (Ls.take k).length = k := by rw [List.length_take]; have := HLS.out; omega
                    rw [hlk] at hv9
                    subst hv9
                    rw [← HTK.out]
                    have HSA := hide (sameAll_any (hO9.shows (by omega)) (HSk.out.below HB29.out (by have := HB2.out.size; omega)))
                    have hP21 : ¬ P < 21 := by omega
                    have hkb : ¬ k < base := by omega
                    clear hO9 hla hlk
                    go_wp2_with fail
                    refine HSA.out.mono ?_
                    rintro e w10 ⟨rfl, q10, hw10⟩
                    have HB10 : Hid (Below w.heap.size w w10) := by rw [hw10]; exact Go.below_drewN HB9.out q10
                    clear hw10
                    go_wp2
                    go_ret
                    exact ⟨rfl, HB10.out⟩
                | true =>
                  obtain ⟨r, hr8⟩ : ∃ r, r = n % 8 := ⟨_, rfl⟩
                  have e4 : (n : Int) % 8 = (r : Int) := by omega
                  have hrl : r < 8 := by omega
                  have HCL : Hid (w8.cell? ⟨wr.heap.size, P, none⟩ = some (.int .u8 (((seg file base Ls).getD P 0 : Nat) : Int))) := by
                    have := HO8.out.1
                    rw [HSG.out] at this
                    exact owned_cells this P hP
                  have hcl := HCL.out
                  have hc256 : (seg file base Ls).getD P 0 < 256 := getD_lt _ HSB.out P
                  have hfz : w8.frozen? ⟨wr.heap.size, P, none⟩ = false := by
                    have := HO8.out.1
                    rw [HSG.out] at this
                    exact this.frozenAt _
                  have HXR : Hid (bits .xor .u8 (((seg file base Ls).getD P 0 : Nat) : Int) ((2 : Int) ^ r % (256 : Int)) = (((seg file base Ls).getD P 0 ^^^ 2 ^ r : Nat) : Int)) := flip_bits _ r hrl hc256
                  have HST8 : Hid (Owns wr.heap.size (w8.setCell ⟨wr.heap.size, P, none⟩ (.int .u8 (((seg file base Ls).getD P 0 ^^^ 2 ^ r : Nat) : Int))) (.slice (some ⟨wr.heap.size, 0, none⟩) (21 + t) (21 + t + 3)) (flp (seg file base Ls) P r) ∧ w8.grownBy (w8.setCell ⟨wr.heap.size, P, none⟩ (.int .u8 (((seg file base Ls).getD P 0 ^^^ 2 ^ r : Nat) : Int))) (some wr.heap.size)) := by
                    have := HO8.out.1
                    rw [HSG.out] at this
                    have h2 := this.stored P (.int .u8 (((seg file base Ls).getD P 0 ^^^ 2 ^ r : Nat) : Int))
                    refine ⟨⟨?_, flp_lt _ _ _ hrl HSB.out, by rw [flp_len, HSG.out]; omega⟩, h2.2⟩
                    rw [flp_len, HSG.out]
                    unfold flp
                    rw [vals_set]
                    exact h2.1
                  have HLF : Hid (scn file (flp (seg file base Ls) P r) = lastS base k P Ls) := last_flip file base k P r Ls HOK.out (by have := HN.out; omega) H6'.out HBB.out hrl HAT.out
                  clear HCL hr8
                  generalize (seg file base Ls).getD P 0 = c at *
                  go_upto_region 30 with fail
                  rw [HXR.out]
                  generalize w8.setCell ⟨wr.heap.size, P, none⟩ (.int .u8 ((c ^^^ 2 ^ r : Nat) : Int)) = V at *
                  have HBV : Hid (Below w.heap.size w V) := HB8.out.grown HST8.out.2 HB8.out.size (fun g hg => by cases hg; have := HB2.out.size; have := hg8.out; omega)
                  have HB2V : Hid (Below w2.heap.size w2 V) := HB28.out.grown HST8.out.2 HB28.out.size (fun g hg => by cases hg; exact hg8.out)
                  have HC8 : Hid (Calls Tryd.prog 7 #[.int .u64 file, .slice (some ⟨wr.heap.size, 0, none⟩) (21 + t) (21 + t + 3)] V fun e w' => ScnR V.heap.size (lastS base k P Ls) e w' ∧ Below V.heap.size V w') := by
                    refine HSc.out V (21 + t) _ HB2V.out ?_ (by omega) HLF.out
                    exact owns_shows HST8.out.1 (by rw [flp_len]; exact HSG.out.symm)
                  clear HST8 HB8 HB28 HSc hcl hfz HXR e4
                  go_wp2_with fail
                  refine HC8.out.mono ?_
                  rintro e w9 ⟨he, hb9⟩
                  have HB9 : Hid (Below w.heap.size w w9) := HBV.out.trans (hb9.mono HBV.out.size)
                  have HB29 : Hid (Below w2.heap.size w2 w9) := HB2V.out.trans (hb9.mono HB2V.out.size)
                  clear hb9 HC8 HBV HB2V
                  by_cases hla : P < 21 ∨ k < base
                  · unfold lastS at he
                    rw [if_pos hla] at he
                    obtain rfl := he
                    by_cases hP21 : P < 21
                    · clear hla
                      go_wp2
                      go_ret
                      exact ⟨rfl, HB9.out⟩
                    · have hkb : k < base := by omega
                      clear hla
                      go_wp2
                      go_ret
                      exact ⟨rfl, HB9.out⟩
                  · unfold lastS at he
                    rw [if_neg hla] at he
                    obtain ⟨v9, ys, rfl, hO9⟩ := he
                    obtain ⟨a9, c9, hv9⟩ := hO9.form
                    have hlk : (Ls.take k).length = k := by rw [List.length_take]; have := HLS.out; omega
                    rw [hlk] at hv9
                    subst hv9
                    rw [← HTK.out]
                    have HSA := hide (sameAll_any (hO9.shows (by omega)) (HSk.out.below HB29.out (by have := HB2.out.size; omega)))
                    have hP21 : ¬ P < 21 := by omega
                    have hkb : ¬ k < base := by omega
                    clear hO9 hla hlk
                    go_wp2_with fail
                    refine HSA.out.mono ?_
                    rintro e w10 ⟨rfl, q10, hw10⟩
                    have HB10 : Hid (Below w.heap.size w w10) := by rw [hw10]; exact Go.below_drewN HB9.out q10
                    clear hw10
                    go_wp2
                    go_ret
                    exact ⟨rfl, HB10.out⟩
end Go.Proofs.YtofddonhoakicaaDoor
