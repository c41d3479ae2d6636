import Derived.Test.YtlnfkooimpmahaaGreatM50
namespace Go.Proofs.YtlnfkooimpmahaaGreat
open Go.RowKit Crc

set_option maxRecDepth 10000 in
set_option maxHeartbeats 3200000 in
theorem recordRead_any {lim : Nat} {w : World} {ao : Option Addr} {n cap : Nat} {B : List Nat} (h : Shows lim w ao n cap B) (hl : lim ≤ w.heap.size) (hn : n ≤ 140737488351232) :
    Calls Tryz.prog 12 #[.slice ao n cap] w fun e w' => e = .returned (.bool true) ∧ Hid (Below w.heap.size w w') := by
  obtain ⟨i0, hi, hz0, hz1, hz2⟩ := info_parts infoSl
  have hB256 : Hid (∀ x ∈ B, x < 256) := h.2.2.2.1
  have HN : Hid (n = B.length) := h.1
  have HS : Hid (∀ W, Below w.heap.size w W → Shows W.heap.size W ao n cap B) := fun W hb => (h.wide hl).belowL hb |>.wide hb.size
  have hok := recV_ok B
  obtain ⟨num, node, slot, st, V, D, hrv⟩ : ∃ num node slot st V D, recV B = ⟨num, node, slot, st, V, D⟩ := ⟨_, _, _, _, _, _, rfl⟩
  obtain ⟨K, hK⟩ : ∃ K, recK B = K := ⟨_, rfl⟩
  obtain ⟨N, hN⟩ : ∃ N, V.length = N := ⟨_, rfl⟩
  obtain ⟨M, hM⟩ : ∃ M, D.length = M := ⟨_, rfl⟩
  have H1 := hide (decRR h hl hK hrv hN hM)
  have HDP : Hid (∀ (W : World) (ao : Option Addr) (n cap : Nat), Shows W.heap.size W ao n cap B → Calls Tryz.prog 31 #[.slice ao n cap] W fun e w' => ∃ (vo : Option Addr) (vc : Nat) (do_ : Option Addr) (dc : Nat) (x : Value), e = .returned (.tuple #[.agg #[.int .i64 (K : Int), .int .u64 (num : Int), .int .i64 (node : Int), .int .u64 (slot : Int), .int .u64 (st : Int), .slice vo N vc, .slice do_ M dc], x]) ∧ Hid (ErrV w' x (recC B) (recA B) ∧ Below W.heap.size W w' ∧ ∃ rs, Bt W.heap.size w' (.slice vo N vc) rs ∧ rs.map Rq.val = V ∧ Owns W.heap.size w' (.slice do_ M dc) D ∧ ∀ r ∈ rs, r.sl.ownBlock = none ∨ r.sl.ownBlock ≠ (Value.slice do_ M dc).ownBlock)) := fun W ao n cap h => decRP h (Nat.le_refl _) hK hrv hN hM
  rw [hrv] at hok
  have HOK := hide hok
  have HN8 : Hid (N ≤ 8) := by show N ≤ 8; rw [← hN]; exact hok.1
  clear h hl hok hrv hK hN hM
  generalize recC B = c at *
  generalize recA B = a at *
  go_enter Tryz.func12, Tryz.ntmps12
  go_wp2_with fail
  refine H1.out.mono ?_
  rintro e w1 ⟨vo, vc, do_, dc, rfl, G1⟩
  obtain ⟨W2, hW2⟩ : ∃ W2, (w1.alloc (.cells #[.int .i64 (K : Int), .int .u64 (num : Int), .int .i64 (node : Int), .int .u64 (slot : Int), .int .u64 (st : Int), .slice vo N vc, .slice do_ M dc] 31)).alloc (.cells #[.int .i64 c, .int .i64 a] 33) = W2 := ⟨_, rfl⟩
  have S2 : Hid (∃ rs, Rx w.heap.size w1.heap.size K num node slot st N M vo vc do_ dc V D rs W2 ∧ NoB (w1.heap.size + 1) c a W2 ∧ Below w.heap.size w W2 ∧ W2.heap.size = w1.heap.size + 2) := by
    obtain ⟨hb, rs, h1, h2, h3⟩ := G1.out
    have hbx := (Rx.new (K := K) (num := num) (node := node) (slot := slot) (st := st) h1 h2 h3 hb.size).quiet (World.grownBy_alloc _ (.cells #[.int .i64 c, .int .i64 a] 33) none)
    rw [hW2] at hbx
    have e1 : (w1.alloc (.cells #[.int .i64 (K : Int), .int .u64 (num : Int), .int .i64 (node : Int), .int .u64 (slot : Int), .int .u64 (st : Int), .slice vo N vc, .slice do_ M dc] 31)).heap.size = w1.heap.size + 1 := by simp
    refine ⟨rs, hbx, ⟨?_, ?_⟩, ?_, by rw [← hW2]; simp⟩
    · rw [← hW2, ← e1]; exact World.cell?_alloc_new _ _ _ _
    · rw [← hW2, ← e1]; exact World.cell?_alloc_new _ _ _ _
    · rw [← hW2]; exact (hb.alloc hb.size _).alloc (by rw [e1]; have := hb.size; omega) _
  have HW2 := hide hW2
  clear hW2 G1
  go_wp2_with fail
  refine Calls.atW HW2.out ?_
  generalize w1.heap.size = p at *
  clear HW2 H1
  obtain ⟨rsv, BV, NO, HB2, hs2⟩ := S2.out
  clear S2
  refine (lend_sh (HS.out W2 HB2) (Nat.le_refl _)).mono ?_
  rintro e w3 ⟨rfl, hL3, hB3⟩
  have BV3 := hide (BV.quiet (below_none hB3))
  have NO3 := hide (NO.quiet (below_none hB3))
  have BEL3 := hide (HB2.trans (hB3.mono HB2.size))
  have L3 := hide hL3
  have hs3 := hB3.size
  have hp2 : p < W2.heap.size := by omega
  clear BV NO HB2 hL3 hB3 hs2
  generalize W2.heap.size = gc at *
  go_wp2_with fail
  refine (HDP.out w3 _ _ _ (L3.out.shows hB256.out (by omega))).mono ?_
  rintro e w4 ⟨go', gv, eo, ec, x, rfl, G4⟩
  have S5 : Hid (∃ rsg, Ar w p gc w3.heap.size w4.heap.size K num node slot st N M vo vc do_ dc go' gv eo ec V D rsv rsg c a n B (w4.alloc (.cells #[.int .i64 (K : Int), .int .u64 (num : Int), .int .i64 (node : Int), .int .u64 (slot : Int), .int .u64 (st : Int), .slice go' N gv, .slice eo M ec] 31)) ∧ ErrV (w4.alloc (.cells #[.int .i64 (K : Int), .int .u64 (num : Int), .int .i64 (node : Int), .int .u64 (slot : Int), .int .u64 (st : Int), .slice go' N gv, .slice eo M ec] 31)) x c a ∧ ∀ r ∈ rsg, r.sl.ownBlock = none ∨ r.sl.ownBlock ≠ (Value.slice eo M ec).ownBlock) := by
    obtain ⟨h1, h2, rsg, h3, h4, h5, h6⟩ := G4.out
    have gA := World.grownBy_alloc w4 (.cells #[.int .i64 (K : Int), .int .u64 (num : Int), .int .i64 (node : Int), .int .u64 (slot : Int), .int .u64 (st : Int), .slice go' N gv, .slice eo M ec] 31) none
    have g3 := grown_quiet (below_none h2) gA
    exact ⟨rsg, ⟨BV3.out.quiet g3, Rx.new h3 h4 h5 h2.size, NO3.out.quiet g3, L3.out.next g3 (by simp), BEL3.out.grown g3 BEL3.out.size (fun k e => by cases e)⟩, h1.quiet gA, h6⟩
  have hg3 : gc < w3.heap.size := by
    obtain ⟨cur, hg, _⟩ := own_block L3.out.2
    exact block_lt hg
  have h34 : w3.heap.size ≤ w4.heap.size := G4.out.2.1.size
  obtain ⟨rsg, A5, E5, AP⟩ := S5.out
  have A5 := hide A5
  have E5 := hide E5
  have AP := hide AP
  have hwp : w.heap.size ≤ p := A5.out.v.hlo
  clear S5 G4 BV3 NO3 L3 BEL3 hs3
  go_wp2_with fail
  generalize w4.alloc (.cells #[.int .i64 (K : Int), .int .u64 (num : Int), .int .i64 (node : Int), .int .u64 (slot : Int), .int .u64 (st : Int), .slice go' N gv, .slice eo M ec] 31) = W5 at *
  generalize w3.heap.size = lo2 at *
  generalize w4.heap.size = p2 at *
  refine (told_any E5.out).mono ?_
  rintro e w6 ⟨rfl, q6, hq6⟩
  have A6 := hide (A5.out.quiet (W' := w6) (by rw [hq6]; exact drew_grown _ _))
  clear hq6 A5 E5
  obtain ⟨v0, v1, v2, v3, v4, v5, v6⟩ := A6.out.v.cells
  obtain ⟨g0, g1, g2, g3, g4, g5, g6⟩ := A6.out.g.cells
  go_wp2_with fail
  clear v0 v1 v2 v3 v4 v5 v6 g0 g1 g2 g3 g4 g5 g6
  have SM := sameX A6.out.g A6.out.v
  unfold SameR at SM
  refine SM.mono ?_
  clear SM
  rintro e w7 ⟨rfl, hb7⟩
  have A7 := hide (A6.out.quiet (below_none hb7.out))
  clear hb7 A6
  obtain ⟨n0, n1⟩ := A7.out.no
  go_wp2_with fail
  clear n0 n1
  refine (kept_sh (HS.out w7 A7.out.bel) A7.out.l).mono ?_
  rintro e w8 ⟨rfl, q8, hq8⟩
  have A8 := hide (A7.out.quiet (W' := w8) (by rw [hq8]; exact drew_grown _ _))
  clear hq8 A7
  go_wp2_with fail
  refine (spoil_any (A8.out.l.ownsB hB256.out hn) (by have := HN.out; omega) 13 13 rfl (by omega)).mono ?_
  rintro e w9 ⟨rfl, hg9⟩
  have S9 : Hid (Rx w.heap.size p K num node slot st N M vo vc do_ dc V D rsv w9 ∧ Rx lo2 p2 K num node slot st N M go' gv eo ec V D rsg w9 ∧ Below w.heap.size w w9) := by
    have o9 := out_grown hg9
    refine ⟨A8.out.v.out o9 (fun g e => ?_), A8.out.g.out o9 (fun g e => ?_), A8.out.bel.trans (o9.toBelow (fun g e => ?_) A8.out.bel.size)⟩
    · have e : gc = g := Option.some.inj e
      omega
    · have e : gc = g := Option.some.inj e
      omega
    · have e : gc = g := Option.some.inj e
      omega
  clear hg9 A8
  go_wp2_with fail
  refine (lend_sh (HS.out w9 S9.out.2.2) (Nat.le_refl _)).mono ?_
  rintro e w10 ⟨rfl, hL10, hB10⟩
  have S10 : Hid (Rx w.heap.size p K num node slot st N M vo vc do_ dc V D rsv w10 ∧ Rx lo2 p2 K num node slot st N M go' gv eo ec V D rsg w10 ∧ Below w.heap.size w w10) := by
    have o9 := below_none hB10
    exact ⟨S9.out.1.quiet o9, S9.out.2.1.quiet o9, S9.out.2.2.grown o9 S9.out.2.2.size (fun k e => by cases e)⟩
  have L10 := hide hL10
  clear hL10 hB10 S9
  generalize w9.heap.size = gd at *
  go_wp2_with fail
  refine (HDP.out w10 _ _ _ (L10.out.shows hB256.out (by omega))).mono ?_
  rintro e w11 ⟨ho, hv, fo, fc, x2, rfl, G11⟩
  have S12 : Hid (∃ rsh, Rx w.heap.size p K num node slot st N M vo vc do_ dc V D rsv (w11.alloc (.cells #[.int .i64 (K : Int), .int .u64 (num : Int), .int .i64 (node : Int), .int .u64 (slot : Int), .int .u64 (st : Int), .slice ho N hv, .slice fo M fc] 31)) ∧ Rx lo2 p2 K num node slot st N M go' gv eo ec V D rsg (w11.alloc (.cells #[.int .i64 (K : Int), .int .u64 (num : Int), .int .i64 (node : Int), .int .u64 (slot : Int), .int .u64 (st : Int), .slice ho N hv, .slice fo M fc] 31)) ∧ Below w.heap.size w (w11.alloc (.cells #[.int .i64 (K : Int), .int .u64 (num : Int), .int .i64 (node : Int), .int .u64 (slot : Int), .int .u64 (st : Int), .slice ho N hv, .slice fo M fc] 31)) ∧ Rx w10.heap.size w11.heap.size K num node slot st N M ho hv fo fc V D rsh (w11.alloc (.cells #[.int .i64 (K : Int), .int .u64 (num : Int), .int .i64 (node : Int), .int .u64 (slot : Int), .int .u64 (st : Int), .slice ho N hv, .slice fo M fc] 31)) ∧ p2 < w10.heap.size) := by
    obtain ⟨_, h2, rsh, h3, h4, h5, _⟩ := G11.out
    have gA := World.grownBy_alloc w11 (.cells #[.int .i64 (K : Int), .int .u64 (num : Int), .int .i64 (node : Int), .int .u64 (slot : Int), .int .u64 (st : Int), .slice ho N hv, .slice fo M fc] 31) none
    have g3 := grown_quiet (below_none h2) gA
    exact ⟨rsh, S10.out.1.quiet g3, S10.out.2.1.quiet g3, S10.out.2.2.grown g3 S10.out.2.2.size (fun k e => by cases e), Rx.new h3 h4 h5 h2.size, block_lt S10.out.2.1.box⟩
  obtain ⟨rsh, BV, BG, BL, BH, hp3⟩ := S12.out
  have BV := hide BV
  have BG := hide BG
  have BL := hide BL
  have BH := hide BH
  clear S12 S10 G11 L10
  obtain ⟨v0, v1, v2, v3, v4, v5, v6⟩ := BV.out.cells
  obtain ⟨g0, g1, g2, g3, g4, g5, g6⟩ := BG.out.cells
  go_wp2_with fail
  clear v0 v1 v2 v3 v4 v5 v6 g0 g1 g2 g3 g4 g5 g6
  generalize w11.alloc (.cells #[.int .i64 (K : Int), .int .u64 (num : Int), .int .i64 (node : Int), .int .u64 (slot : Int), .int .u64 (st : Int), .slice ho N hv, .slice fo M fc] 31) = W12 at *
  have h3 := BH.out.hlo
  generalize w10.heap.size = lo3 at *
  generalize w11.heap.size = p3 at *
  have hlo2 : lo2 ≤ p2 := BG.out.hlo
  have CE : Hid (C3 p2 p p3 K num node slot st N M go' gv eo ec vo vc do_ dc ho hv fo fc W12) := ⟨BG.out.cells, BV.out.cells, BH.out.cells⟩
  have HSM : Hid (Calls Tryz.prog 9 #[.agg #[.int .i64 (K : Int), .int .u64 (num : Int), .int .i64 (node : Int), .int .u64 (slot : Int), .int .u64 (st : Int), .slice go' N gv, .slice eo M ec], .agg #[.int .i64 (K : Int), .int .u64 (num : Int), .int .i64 (node : Int), .int .u64 (slot : Int), .int .u64 (st : Int), .slice vo N vc, .slice do_ M dc]] W12.drew fun e w' => e = .returned (.bool true) ∧ Hid (Below W12.drew.heap.size W12.drew w')) := sameX (BG.out.quiet (drew1 _)) (BV.out.quiet (drew1 _))
  have HCM : Hid (∀ W, Rx lo2 p2 K num node slot st N M go' gv eo ec V D rsg W → Calls Tryz.prog 34 #[.agg #[.int .u64 (st : Int), .slice go' N gv]] W fun e w' => ∃ v, e = .returned v ∧ Hid (Sls W.heap.size w' v rsg.length (rsg.map Rq.sl) ∧ Below W.heap.size W w')) := by
    intro W h
    obtain ⟨a1, k1, f1, b1, r1⟩ := h.bt.form
    have h := cmds_any st k1 r1
    rw [← f1] at h
    exact h
  have R15 : Hid (rsg.length = N) := by
    obtain ⟨a1, k1, f1, _⟩ := BG.out.bt.form
    cases f1
    rfl
  have hlen8 : rsg.length ≤ 8 := by rw [R15.out]; exact HN8.out
  have HPL : Hid (p < lo2 ∧ p2 < lo3) := ⟨by omega, by omega⟩
  clear hwp hg3 h34
  go_region_held_law (fun w' => (w'.cell? ⟨p2, 0, none⟩ = some (.int .i64 (K : Int)) ∧ w'.cell? ⟨p2, 1, none⟩ = some (.int .u64 (num : Int)) ∧ w'.cell? ⟨p2, 2, none⟩ = some (.int .i64 (node : Int)) ∧ w'.cell? ⟨p2, 3, none⟩ = some (.int .u64 (slot : Int)) ∧ w'.cell? ⟨p2, 4, none⟩ = some (.int .u64 (st : Int)) ∧ w'.cell? ⟨p2, 5, none⟩ = some (.slice go' N gv) ∧ w'.cell? ⟨p2, 6, none⟩ = some (.slice eo M ec)) ∧ (w'.cell? ⟨p, 0, none⟩ = some (.int .i64 (K : Int)) ∧ w'.cell? ⟨p, 1, none⟩ = some (.int .u64 (num : Int)) ∧ w'.cell? ⟨p, 2, none⟩ = some (.int .i64 (node : Int)) ∧ w'.cell? ⟨p, 3, none⟩ = some (.int .u64 (slot : Int)) ∧ w'.cell? ⟨p, 4, none⟩ = some (.int .u64 (st : Int)) ∧ w'.cell? ⟨p, 5, none⟩ = some (.slice vo N vc) ∧ w'.cell? ⟨p, 6, none⟩ = some (.slice do_ M dc)) ∧ (w'.cell? ⟨p3, 0, none⟩ = some (.int .i64 (K : Int)) ∧ w'.cell? ⟨p3, 1, none⟩ = some (.int .u64 (num : Int)) ∧ w'.cell? ⟨p3, 2, none⟩ = some (.int .i64 (node : Int)) ∧ w'.cell? ⟨p3, 3, none⟩ = some (.int .u64 (slot : Int)) ∧ w'.cell? ⟨p3, 4, none⟩ = some (.int .u64 (st : Int)) ∧ w'.cell? ⟨p3, 5, none⟩ = some (.slice ho N hv) ∧ w'.cell? ⟨p3, 6, none⟩ = some (.slice fo M fc))) (first | exact CE.out | exact CE.out.quiet (World.grownBy_alloc _ _ none) | exact CE.out.quiet (drew1 _))
    (first
      | (go_at_call_of 9 (Value.slice go' N gv); refine HSM.out.mono ?_; rintro e w13 ⟨rfl, b13⟩; obtain ⟨BV13, BG13, BH13, BL13, HP13, CE⟩ := aft13 BV.out BG.out BH.out BL.out b13.out)
      | (go_at_call 34; refine (HCM.out _ ?_).mono ?_; (first | exact BG13.out | exact BG13.out.quiet (World.grownBy_alloc _ _ none)); rintro e w14 ⟨lv, rfl, G14⟩; (first | (obtain ⟨BV14, BG14, BH14, BL14, SL14, CE⟩ := aft14 BV13.out BG13.out BH13.out BL13.out G14.out.1 G14.out.2) | (obtain ⟨BV14, BG14, BH14, BL14, SL14, CE, CN14⟩ := aft14b BV13.out BG13.out BH13.out BL13.out G14.out.1 G14.out.2)))
      | (refine step_append_ownG (by rfl) (.tmp 65) (.tmp 68) 100 rfl w13.heap.size 29 i0 (.slice none 0 0) 1 24 Tryz.underlying100 hi hz0 hz1 hz2 rfl (by decide) lv rsg.length (rsg.map Rq.sl) (by simp [Act.eval]) (row_quiet SL14.out.1 (World.grownBy_alloc w14 (.cells #[.slice eo M ec] 29) none)) ⟨w14.heap.size, 0, none⟩ 1 1 [.slice eo M ec] (by simp [Act.eval]) rfl (cell_one_new _ _ _) (by simp [Value.oneCell']) (by unfold maxLen; omega) (by omega) (by have := SL14.out.2; simp; omega) ?_; intro v' w15 ho15 hg15; obtain ⟨BV15, BG15, BH15, BL15, F15, CE⟩ := aft15 BV14.out BG14.out BH14.out BL14.out SL14.out.1 HP13.out AP.out HOK.out ho15 hg15)
      | (refine step_append_ownG (by rfl) (.tmp 65) (.tmp 68) 100 rfl w13.heap.size 29 i0 (.slice none 0 0) 1 24 Tryz.underlying100 hi hz0 hz1 hz2 rfl (by decide) lv rsg.length (rsg.map Rq.sl) (by simp [Act.eval]) SL14.out.1 ⟨w13.heap.size, 0, none⟩ 1 1 [.slice eo M ec] (by simp [Act.eval]) rfl CN14.out (by simp [Value.oneCell']) (by unfold maxLen; omega) (by omega) (by have := SL14.out.2; omega) ?_; intro v' w15 ho15 hg15; obtain ⟨BV15, BG15, BH15, BL15, F15, CE⟩ := aft15b BV14.out BG14.out BH14.out BL14.out SL14.out.1 HP13.out AP.out HOK.out ho15 hg15)
      | (go_at_call 33; refine (free_any F15.out).mono ?_; rintro e w16 ⟨rfl, O16⟩; obtain ⟨BV16, BH16, BL16, SG16, HFR, CE⟩ := aft16 BV15.out BG15.out BH15.out BL15.out O16.out HPL.out R15.out HN8.out)
      | (go_at_call 35; refine HFR.out.mono ?_; rintro e w17 ⟨rfl, O17⟩; obtain ⟨BV17, BH17, BL17, HSM17, CE⟩ := aft17 BV16.out BH16.out BL16.out SG16.out O17.out HPL.out)
      | (go_at_call_of 9 (Value.slice ho N hv); refine HSM17.out.mono ?_; rintro e w18 ⟨rfl, b18⟩; obtain ⟨BL18, CE⟩ := aft18 BL17.out CE.out b18.out))
  all_goals go_wp2
  all_goals go_ret
  all_goals exact ⟨rfl, BL18.out⟩
end Go.Proofs.YtlnfkooimpmahaaGreat
