import Derived.Test.YtofddonhoakicaaDoorWFu
namespace Go.Proofs.YtofddonhoakicaaDoor
open Go.RowKit Crc

theorem lent_below {w w' : World} {g n k : Nat} {B : List Nat} (h : LentW w g n B) (hb : Below k w w') (hk : g < k) : LentW w' g n B := by
  refine ⟨h.1, ?_⟩
  obtain ⟨cur, p1, p2, p3, p4⟩ := own_block h.2
  rcases h.2.2 with ⟨e, _⟩ | ⟨g', cap, cur', e, q1, q2, q3, q4, q5, q6⟩
  · cases e
  · cases e
    exact ⟨h.2.1, .inr ⟨g, _, cur', rfl, q1, (hb.block g hk).trans q2, q3, q4, q5, q6⟩⟩
theorem frs_bound (f : Nat) : ∀ (D : List Nat) (i : Nat), 16 * (frs f D i).1.length ≤ D.length ∧ ∀ B ∈ (frs f D i).1, B.length ≤ D.length := by
  induction f with
  | zero => intro D i; simp [frs]
  | succ f ih =>
    intro D i
    rcases h : whole D i with _ | z
    · rw [frs_none _ _ _ h]; simp
    · rw [frs_some _ _ _ _ h]
      have hl := whole_len h
      obtain ⟨h1, h2⟩ := ih (D.drop (16 + z)) (i + 1)
      rw [List.length_drop] at h1 h2
      refine ⟨by simp only [List.length_cons]; omega, fun B hB => ?_⟩
      rcases List.mem_cons.1 hB with rfl | hB
      · rw [List.length_take, List.length_drop]; omega
      · have := h2 B hB; omega
theorem scn_bound {file : Nat} {D : List Nat} {bz gz : Nat} {Ls : List (List Nat)} (h : scn file D = some (bz, Ls, gz)) (hl : D.length ≤ 1099511627776) : Ls.length ≤ 1099511627776 ∧ ∀ j, (Ls.getD j []).length ≤ 1099511627776 := by
  unfold scn at h
  split at h
  · cases h
  · split at h
    · cases h
    · split at h
      · cases h
      · cases h
        obtain ⟨h1, h2⟩ := frs_bound (D.drop 21).length (D.drop 21) 0
        have hdl : (D.drop 21).length ≤ D.length := by rw [List.length_drop]; omega
        refine ⟨by omega, fun j => ?_⟩
        rw [List.getD_eq_getElem?_getD]
        cases e : (frs (D.drop 21).length (D.drop 21) 0).1[j]? with
        | none => simp
        | some B =>
          have := h2 B (List.mem_of_getElem? e)
          simp; omega

attribute [local irreducible] hdr scn frm hdr0 frs

set_option maxRecDepth 10000 in
set_option maxHeartbeats 4000000 in
theorem forms_walk {w : World} {ab ad : Option Addr} {nb cb nd cd file : Nat} {Bb Dd : List Nat} (base index : Int) (hf : file < 18446744073709551616) (hb : Shows w.heap.size w ab nb cb Bb) (hd : Shows w.heap.size w ad nd cd Dd) (hlb : nb ≤ 140737488351232) (hld : nd ≤ 17179869184) (h0 : 0 < w.heap.size) (hT : Table w) :
    Calls Tryd.prog 4 #[.int .u64 file, .int .i64 base, .int .i64 index, .slice ab nb cb, .slice ad nd cd] w fun e w' => e = .returned (.bool true) ∧ Below w.heap.size w w' := by
  obtain ⟨B1, L1, c1, hH1, hH2⟩ := header_both file base hf
  obtain ⟨B2, L2, c2, hF1, hF2⟩ := frame_both index nb Bb
  unfold EfP at hH1 hF1
  unfold BfP at hH2 hF2
  obtain ⟨n1, hn1⟩ : ∃ n1, n1 = B1.length := ⟨_, rfl⟩
  obtain ⟨n2, hn2⟩ : ∃ n2, n2 = B2.length := ⟨_, rfl⟩
  obtain ⟨l1, hl1⟩ : ∃ l1, L1.length = l1 := ⟨_, rfl⟩
  obtain ⟨l2, hl2⟩ : ∃ l2, L2.length = l2 := ⟨_, rfl⟩
  rw [← hn1] at hH1 hH2
  rw [← hn2] at hF1 hF2
  rw [hl1] at hH2
  rw [hl2] at hF2
  have HH1 := hide (hH1 w h0 hT)
  have HH2 := hide hH2
  have HF1 := hide hF1
  have HF2 := hide hF2
  have HN1 := hide hn1
  have HN2 := hide hn2
  have HL1 := hide hl1
  have HL2 := hide hl2
  have HBs := hide hb
  have HDs := hide hd
  have HT := hide hT
  clear hH1 hH2 hF1 hF2 hn1 hn2 hl1 hl2 hb hd hT
  go_enter Tryd.func4, Tryd.ntmps4
  go_wp2_with fail
  refine HH1.out.mono ?_
  rintro e w1 ⟨a1, k1, ev1, rfl, G1⟩
  obtain ⟨o1, er1, b1⟩ := G1.out
  have O1 := hide o1
  have E1 := hide er1
  have W1 := hide b1
  clear o1 er1 b1 G1 HH1
  go_wp2_with fail
  refine (HH2.out w1).mono ?_
  rintro e w2 ⟨a2, k2, f2, q2, rfl, G2⟩
  obtain ⟨o2, ⟨fb2, fo2, fv2⟩, b2⟩ := G2.out
  obtain ⟨V2, hV2⟩ : ∃ V2, w2.alloc (.cells #[.slice f2 l1 q2, .int .i64 c1] 44) = V2 := ⟨_, rfl⟩
  have hp2 : V2.heap[w2.heap.size]? = some (.cells #[.slice f2 l1 q2, .int .i64 c1] 44 (0, 0)) := by rw [← hV2]; exact alloc_atK _ _
  have b12 : Below w1.heap.size w1 V2 := by rw [← hV2]; exact b2.alloc b2.size _
  have b2V : Below w2.heap.size w2 V2 := by rw [← hV2]; exact (Below.refl _ _).alloc (Nat.le_refl _) _
  have WV := hide (below_trans1 W1.out b12)
  have OV1 := hide (O1.out.quiet (below_none b12))
  have OV2 := hide (o2.quiet (below_none b2V))
  have EV1 := hide (E1.out.below b12)
  have FV2 : Hid (FV V2.heap.size V2 f2 L1 fb2 fo2) := (fv2.below b2V).wide b2V.size
  have HIs := hide (is_any l1 q2 HL1.out EV1.out FV2.out)
  have HP2 := hide hp2
  have HVV := hide hV2
  have hszp : w.heap.size ≤ w2.heap.size := (below_trans1 W1.out b2).size
  clear o2 fv2 b2 b12 b2V G2 E1 O1 W1 hV2 EV1 FV2 hp2 HH2
  go_upto_region 3 with fail
  rw [HVV.out]
  clear HVV
  generalize w2.heap.size = p at *
  have y0 : V2.cell? ⟨p, 0, none⟩ = some (.slice f2 l1 q2) := by have := block_cell HP2.out 0; simpa using this
  have y1 : V2.cell? ⟨p, 1, none⟩ = some (.int .i64 c1) := by have := block_cell HP2.out 1; simpa using this
  go_wp2_with fail
  go_loud (refine HIs.out.mono ?_)
  rintro e w3 ⟨rfl, G3⟩
  have b3 := G3.out
  have HSM := hide (sameO HN1.out (OV1.out.quiet (below_none b3)) (OV2.out.quiet (below_none b3)))
  have W3 := hide (below_trans1 WV.out b3)
  have P3 : Hid (w3.heap[p]? = some (.cells #[.slice f2 l1 q2, .int .i64 c1] 44 (0, 0))) := (b3.block _ (block_lt HP2.out)).trans HP2.out
  clear b3 G3 HIs OV1 OV2 WV HP2 y0 y1
  go_wp2_with fail
  go_loud (refine HSM.out.mono ?_)
  rintro e w4 ⟨rfl, q4, hw4⟩
  have W4 : Hid (Below w.heap.size w w4) := by rw [hw4]; exact Go.below_drewN W3.out q4
  have P4 : Hid (w4.heap[p]? = some (.cells #[.slice f2 l1 q2, .int .i64 c1] 44 (0, 0))) := by rw [hw4]; exact P3.out
  clear hw4 HSM W3 P3
  have HLn := hide (lend_sh (HBs.out.below W4.out (Nat.le_refl _)) W4.out.size hlb)
  go_wp2_with fail
  refine HLn.out.mono ?_
  rintro e w5 ⟨rfl, hL5, b5⟩
  have W5 := hide (below_trans1 W4.out b5)
  have P5 : Hid (w5.heap[p]? = some (.cells #[.slice f2 l1 q2, .int .i64 c1] 44 (0, 0))) := (b5.block _ (block_lt P4.out)).trans P4.out
  have L5 := hide hL5
  have hg5 : p < w4.heap.size := block_lt P4.out
  have hBB : ∀ x ∈ Bb, x < 256 := HBs.out.2.2.2.1
  have HFr := hide (HF1.out w5 _ _ _ (hL5.shows hBB hlb) (Nat.le_refl _) (by have := W5.out.size; omega) (HT.out.below W5.out h0))
  clear hL5 b5 HLn W4 P4
  go_wp2_with fail
  go_loud (refine HFr.out.mono ?_)
  rintro e w6 ⟨a6, k6, ev6, rfl, G6⟩
  obtain ⟨o6, er6, b6⟩ := G6.out
  have W6 := hide (below_trans1 W5.out b6)
  have P6 : Hid (w6.heap[p]? = some (.cells #[.slice f2 l1 q2, .int .i64 c1] 44 (0, 0))) := (b6.block _ (block_lt P5.out)).trans P5.out
  have L6 : Hid (LentW w6 w4.heap.size nb Bb) := L5.out.kept (below_none b6) (by simp)
  have O6 := hide o6
  have E6 := hide er6
  have hs45 : w4.heap.size < w5.heap.size := L5.out.lt
  have HRF := hide (HF2.out w6 _ _ _ (HBs.out.below W6.out (Nat.le_refl _)) W6.out.size)
  clear o6 er6 b6 G6 HFr HF1 L5 P5 HF2
  go_wp2_with fail
  refine HRF.out.mono ?_
  rintro e w7 ⟨a7, k7, f7, q7, rfl, G7⟩
  obtain ⟨o7, ⟨fb7, fo7, fv7⟩, b7⟩ := G7.out
  have W7 := hide (below_trans1 W6.out b7)
  have p7 : w7.heap[p]? = some (.cells #[.slice f2 l1 q2, .int .i64 c1] 44 (0, 0)) := (b7.block _ (block_lt P6.out)).trans P6.out
  have hs6 : p < w6.heap.size := block_lt P6.out
  have y0 : w7.cell? ⟨p, 0, none⟩ = some (.slice f2 l1 q2) := by have := block_cell p7 0; simpa using this
  have y1 : w7.cell? ⟨p, 1, none⟩ = some (.int .i64 c1) := by have := block_cell p7 1; simpa using this
  have g0 := block_free p7 0
  have g1 := block_free p7 1
  have hg8 : w7.grownBy ((w7.setCell ⟨p, 0, none⟩ (.slice f7 l2 q7)).setCell ⟨p, 1, none⟩ (.int .i64 c2)) (some p) := grown_trans (grown_set w7 p 0 _) (grown_set _ p 1 _)
  have O8b := hide (owns_far (O6.out.quiet (below_none b7)) hg8 (by omega))
  have O8y := hide (owns_far o7 hg8 hs6)
  have E8 := hide ((E6.out.below b7).grown hg8 p7 nosA)
  have FV8 : Hid (FV ((w7.setCell ⟨p, 0, none⟩ (.slice f7 l2 q7)).setCell ⟨p, 1, none⟩ (.int .i64 c2)).heap.size ((w7.setCell ⟨p, 0, none⟩ (.slice f7 l2 q7)).setCell ⟨p, 1, none⟩ (.int .i64 c2)) f7 L2 fb7 fo7) := (fv_grownN fv7 hg8 (fv_neN fv7 p7 nosA)).wide hg8.size
  have L8 : Hid (LentW ((w7.setCell ⟨p, 0, none⟩ (.slice f7 l2 q7)).setCell ⟨p, 1, none⟩ (.int .i64 c2)) w4.heap.size nb Bb) := (L6.out.kept (below_none b7) (by simp)).kept hg8 (by simp; omega)
  have W8 : Hid (Below w.heap.size w ((w7.setCell ⟨p, 0, none⟩ (.slice f7 l2 q7)).setCell ⟨p, 1, none⟩ (.int .i64 c2))) := W7.out.grown hg8 W7.out.size (fun k hk => by cases hk; exact hszp)
  have z0 : ((w7.setCell ⟨p, 0, none⟩ (.slice f7 l2 q7)).setCell ⟨p, 1, none⟩ (.int .i64 c2)).cell? ⟨p, 0, none⟩ = some (.slice f7 l2 q7) := (World.cell?_setCell_other _ _ _ _ (by simp)).trans (World.cell?_setCell_same _ _ _ y0)
  have z1 : ((w7.setCell ⟨p, 0, none⟩ (.slice f7 l2 q7)).setCell ⟨p, 1, none⟩ (.int .i64 c2)).cell? ⟨p, 1, none⟩ = some (.int .i64 c2) := World.cell?_setCell_same _ _ _ ((World.cell?_setCell_other _ _ _ _ (by simp)).trans y1)
  have hl7 := block_lt p7
  clear o7 fv7 b7 G7 HRF O6 E6 L6 W6 W7 P6 p7 hg8
  go_upto_region 8 with fail
  generalize (w7.setCell ⟨p, 0, none⟩ (.slice f7 l2 q7)).setCell ⟨p, 1, none⟩ (.int .i64 c2) = w8 at *
  clear y0 y1 g0 g1 hl7
  have HIs := hide (is_any l2 q7 HL2.out E8.out FV8.out)
  go_wp2_with fail
  go_loud (refine HIs.out.mono ?_)
  rintro e w9 ⟨rfl, G9⟩
  have b9 := G9.out
  have HSM := hide (sameO HN2.out (O8b.out.quiet (below_none b9)) (O8y.out.quiet (below_none b9)))
  have W9 := hide (below_trans1 W8.out b9)
  have L9 : Hid (LentW w9 w4.heap.size nb Bb) := L8.out.kept (below_none b9) (by simp)
  clear b9 G9 HIs O8b O8y E8 FV8 L8 W8 z0 z1
  go_wp2_with fail
  refine HSM.out.mono ?_
  rintro e w10 ⟨rfl, q10, hw10⟩
  have W10 : Hid (Below w.heap.size w w10) := by rw [hw10]; exact Go.below_drewN W9.out q10
  have L10 : Hid (LentW w10 w4.heap.size nb Bb) := by rw [hw10]; exact L9.out.kept (drew_grown w9 q10) (by simp)
  have HK := hide (kept_any (HBs.out.below W10.out (Nat.le_refl _)) L10.out hlb)
  clear hw10 HSM W9 L9
  go_wp2_with fail
  refine HK.out.mono ?_
  rintro e w11 ⟨rfl, q11, hw11⟩
  have W11 : Hid (Below w.heap.size w w11) := by rw [hw11]; exact Go.below_drewN W10.out q11
  clear hw11 HK W10 L10
  have HLn := hide (lend_sh (HDs.out.below W11.out (Nat.le_refl _)) W11.out.size (by omega))
  go_wp2_with fail
  refine HLn.out.mono ?_
  rintro e w12 ⟨rfl, hL12, b12⟩
  have W12 := hide (below_trans1 W11.out b12)
  have L12 := hide hL12
  have hDB : ∀ x ∈ Dd, x < 256 := HDs.out.2.2.2.1
  have HSc := hide (scan_any (file := file) (hL12.shows hDB (by omega)) (by omega) (Nat.le_refl _) hf (HT.out.below W12.out h0))
  have hs12 : w11.heap.size < w12.heap.size := hL12.lt
  have W12s : Hid (w.heap.size ≤ w12.heap.size) := W12.out.size
  clear hL12 b12 HLn W11
  go_wp2_with fail
  refine HSc.out.mono ?_
  rintro e w13 ⟨hr13, b13⟩
  have W13 := hide (below_trans1 W12.out b13)
  have L13 : Hid (LentW w13 w11.heap.size nd Dd) := L12.out.kept (below_none b13) (by simp)
  have HRs := hide (rscan_any (file := file) (HDs.out.below W13.out (Nat.le_refl _)) hld W13.out.size)
  have B13 := hide b13
  clear b13 HSc W12
  cases hS : scn file Dd with
  | none =>
    rw [hS] at hr13 HRs
    obtain rfl := hr13
    clear hS
    go_wp2_with fail
    refine HRs.out.mono ?_
    rintro e w14 ⟨hr14, b14⟩
    obtain rfl := hr14
    have W14 := hide (below_trans1 W13.out b14)
    have L14 : Hid (LentW w14 w11.heap.size nd Dd) := L13.out.kept (below_none b14) (by simp)
    have HSA := hide (sameAll_any ((OwnM.nil 0 w14).shows (by omega)) ((OwnM.nil 0 w14).shows (by omega)))
    clear b14 HRs W13 L13
    go_wp2_with fail
    go_loud (refine HSA.out.mono ?_)
    rintro e w15 ⟨rfl, q15, hw15⟩
    have W15 : Hid (Below w.heap.size w w15) := by rw [hw15]; exact Go.below_drewN W14.out q15
    have L15 : Hid (LentW w15 w11.heap.size nd Dd) := by rw [hw15]; exact L14.out.kept (drew_grown w14 q15) (by simp)
    have HK := hide (kept_any (HDs.out.below W15.out (Nat.le_refl _)) L15.out (by omega))
    clear hw15 HSA W14 L14
    go_wp2_with fail
    go_loud (refine HK.out.mono ?_)
    rintro e w16 ⟨rfl, q16, hw16⟩
    have W16 : Hid (Below w.heap.size w w16) := by rw [hw16]; exact Go.below_drewN W15.out q16
    have L16 : Hid (LentW w16 w11.heap.size nd Dd) := by rw [hw16]; exact L15.out.kept (drew_grown w15 q16) (by simp)
    have HAp := hide (apart_any (OwnL.nil w16.heap.size w16) rfl (by omega) (Nat.le_refl _) (fun j => by simp))
    clear hw16 HK W15 L15
    go_wp2_with fail
    go_loud (refine HAp.out.mono ?_)
    rintro e w17 ⟨rfl, b17⟩
    have W17 := hide (below_trans1 W16.out b17)
    have L17 : Hid (LentW w17 w11.heap.size nd Dd) := L16.out.kept (below_none b17) (by simp)
    have HK := hide (kept_any (HDs.out.below W17.out (Nat.le_refl _)) L17.out (by omega))
    clear b17 HAp W16 L16
    go_wp2_with fail
    refine HK.out.mono ?_
    rintro e w18 ⟨rfl, q18, hw18⟩
    have W18 : Hid (Below w.heap.size w w18) := by rw [hw18]; exact Go.below_drewN W17.out q18
    clear hw18 HK W17 L17
    go_wp2
    go_ret
    exact ⟨rfl, W18.out⟩
  | some r =>
    obtain ⟨bz, Ls, gz⟩ := r
    rw [hS] at hr13 HRs
    have hlen : Ls.length ≤ 1099511627776 ∧ ∀ j, (Ls.getD j []).length ≤ 1099511627776 := scn_bound hS (by have := HDs.out.1; omega)
    obtain ⟨v13, xs13, rfl, hO13⟩ := hr13
    obtain ⟨a13, k13, hv13⟩ := hO13.form
    subst hv13
    have OL13 := hide hO13
    have hl1 := hlen.1
    have HL2' := hide hlen.2
    have HLs : Hid (Ls.length = Ls.length) := rfl
    clear hS hO13 hlen
    go_wp2_with fail
    refine HRs.out.mono ?_
    rintro e w14 ⟨hr14, b14⟩
    obtain ⟨v14, xs14, rfl, hO14⟩ := hr14
    obtain ⟨a14, k14, hv14⟩ := hO14.form
    subst hv14
    have W14 := hide (below_trans1 W13.out b14)
    have L14 : Hid (LentW w14 w11.heap.size nd Dd) := L13.out.kept (below_none b14) (by simp)
    have OL14 := hide (OL13.out.quiet (below_none b14))
    have HSA := hide (sameAll_any (OL14.out.shows (by omega)) (hO14.shows (by omega)))
    have B14 := hide (below_trans1 B13.out b14)
    clear b14 HRs W13 L13 hO14 OL13 B13
    generalize hnl : Ls.length = nl at *
    have HNL := hide hnl
    clear hnl HLs
    go_wp2_with fail
    go_loud (refine HSA.out.mono ?_)
    rintro e w15 ⟨rfl, q15, hw15⟩
    have W15 : Hid (Below w.heap.size w w15) := by rw [hw15]; exact Go.below_drewN W14.out q15
    have L15 : Hid (LentW w15 w11.heap.size nd Dd) := by rw [hw15]; exact L14.out.kept (drew_grown w14 q15) (by simp)
    have OL15 : Hid (OwnL w12.heap.size w15 (.slice a13 nl k13) xs13 Ls) := by rw [hw15]; exact OL14.out.quiet (drew_grown w14 q15)
    have B15 : Hid (Below w12.heap.size w12 w15) := by rw [hw15]; exact Go.below_drewN B14.out q15
    have HK := hide (kept_any (HDs.out.below W15.out (Nat.le_refl _)) L15.out (by omega))
    clear hw15 HSA W14 L14 OL14 B14
    go_wp2_with fail
    go_loud (refine HK.out.mono ?_)
    rintro e w16 ⟨rfl, q16, hw16⟩
    have W16 : Hid (Below w.heap.size w w16) := by rw [hw16]; exact Go.below_drewN W15.out q16
    have L16 : Hid (LentW w16 w11.heap.size nd Dd) := by rw [hw16]; exact L15.out.kept (drew_grown w15 q16) (by simp)
    have OL16 : Hid (OwnL w12.heap.size w16 (.slice a13 nl k13) xs13 Ls) := by rw [hw16]; exact OL15.out.quiet (drew_grown w15 q16)
    have B16 : Hid (Below w12.heap.size w12 w16) := by rw [hw16]; exact Go.below_drewN B15.out q16
    have HAp := hide (apart_any OL16.out HNL.out hl1 B16.out.size HL2'.out)
    clear hw16 HK W15 L15 OL15 B15
    go_wp2_with fail
    go_loud (refine HAp.out.mono ?_)
    rintro e w17 ⟨rfl, b17⟩
    have W17 : Hid (Below w.heap.size w w17) := W16.out.trans (b17.mono (by have := W12s.out; omega))
    have L17 : Hid (LentW w17 w11.heap.size nd Dd) := lent_below L16.out b17 hs12
    have HK := hide (kept_any (HDs.out.below W17.out (Nat.le_refl _)) L17.out (by omega))
    clear b17 HAp W16 L16
    go_wp2_with fail
    refine HK.out.mono ?_
    rintro e w18 ⟨rfl, q18, hw18⟩
    have W18 : Hid (Below w.heap.size w w18) := by rw [hw18]; exact Go.below_drewN W17.out q18
    clear hw18 HK W17 L17
    go_wp2
    go_ret
    exact ⟨rfl, W18.out⟩
end Go.Proofs.YtofddonhoakicaaDoor
