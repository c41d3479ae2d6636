import Derived.Test.YtldhafpeigdloaaGreatDoorM50
namespace Go.Proofs.YtldhafpeigdloaaGreatDoor
open Go.RowKit Crc

/-- What stands all along: the box with the message. -/
structure Mx (w : World) (cs : List Value) (W : World) : Prop where
  bel : Below w.heap.size w W
  q0 : W.heap[w.heap.size]? = some (.cells cs.toArray 36 (0, 0))
theorem Mx.next {w : World} {cs : List Value} {W W' : World} (h : Mx w cs W) (hb : Below W.heap.size W W') : Mx w cs W' := ⟨h.bel.trans (hb.mono h.bel.size), (hb.block _ (block_lt h.q0)).trans h.q0⟩
theorem Mx.quiet {w : World} {cs : List Value} {W W' : World} (h : Mx w cs W) (hg : W.grownBy W' none) : Mx w cs W' := ⟨h.bel.grown hg h.bel.size (fun k e => by cases e), (hg.block _ (block_lt h.q0) (by simp)).trans h.q0⟩
theorem mx_new (w : World) (cs : List Value) : Mx w cs (w.alloc (.cells cs.toArray 36)) := ⟨below_alloc1 w _, alloc_at w _⟩

set_option maxRecDepth 10000 in
set_option maxHeartbeats 1600000 in
theorem one_walk {w : World} (m : Mg) (hm : m.Ok w.heap.size w) (h0 : 0 < w.heap.size) (hT : ∀ w1 : World, Below w.heap.size w w1 → Table w1) {bo : Option Addr} {bn bc : Nat} {BB : List Nat} (hb : Shows w.heap.size w bo bn bc BB) :
    Calls Tryz.prog 3 #[.agg m.R.toArray, .slice bo bn bc] w fun e w' => e = .returned (.bool true) ∧ Below w.heap.size w w' := by
  have HM : Hid (∀ W, Below w.heap.size w W → m.Ok W.heap.size W) := fun W h => (hm.below h).wide h.size
  have HBB : Hid (∀ W, Below w.heap.size w W → Shows W.heap.size W bo bn bc BB) := fun W h => (hb.belowL h).wide h.size
  have HZ : Hid (∀ W, Below w.heap.size w W → 0 < W.heap.size ∧ ∀ w1 : World, Below W.heap.size W w1 → Table w1) := fun W h => ⟨Nat.lt_of_lt_of_le h0 h.size, fun w1 h1 => hT w1 (h.trans (h1.mono h.size))⟩
  have HL : Hid (m.R.length = 49) := Mg.len hm.rl
  have HSZ : Hid ((Tryz.prog.info? 36).map (·.size) = some m.R.length) := by show _ = _; rw [HL.out]; kernel_rfl
  have S1 := hide (mx_new w m.R)
  clear hm hb h0 hT
  obtain ⟨W1, hW1⟩ : ∃ W1, w.alloc (.cells m.R.toArray 36) = W1 := ⟨_, rfl⟩
  have HW1 := hide hW1
  rw [hW1] at S1
  clear hW1
  generalize hcs : m.R = cs at *
  have HCS := hide hcs
  clear hcs
  have HC1 : Hid (Calls Tryz.prog 6 #[.agg cs.toArray] W1 fun e w' => ∃ x : Mg, e = .returned (.agg x.R.toArray) ∧ Hid (Copied W1 m x w')) := by rw [← HCS.out]; exact copyMsg_any m (HM.out W1 S1.out.bel)
  go_enter Tryz.func3, Tryz.ntmps3
  go_upto_region 1 with fail
  rw [HW1.out]
  have RG1 := hide (blk_range S1.out.q0)
  go_step
  refine wpList_load_mid rfl 36 _ rfl w.heap.size 0 rfl cs _ RG1.out Tryz.underlying36 rfl HSZ.out ?_
  simp only [Act.put, List.setIfInBounds_toArray, List.set_cons_zero, List.set_cons_succ]
  go_wp2_with fail
  refine HC1.out.mono ?_
  rintro e w2 ⟨x, rfl, G2⟩
  have S2 := hide (S1.out.next G2.out.bel)
  have HE := hide (encm_any x G2.out.ok G2.out.co (HZ.out w2 S2.out.bel).1 (HZ.out w2 S2.out.bel).2)
  unfold EncPost at HE
  go_wp2_with fail
  refine HE.out.mono ?_
  clear HE
  rintro e w3 ⟨fv, xx, rfl, G3⟩
  obtain ⟨g1, g2, g3⟩ := G3.out
  have S3 := hide (S2.out.next g3)
  obtain ⟨fo, fc, rfl, hsh, -⟩ := g1.form
  obtain ⟨bb, hbb, hxx⟩ := errV_two g2
  have HSH := hide hsh
  have HBE := hide hbb
  have HG := hide G2.out
  have HMAY : Hid (∀ W, Below w.heap.size w W → Calls Tryz.prog 7 #[.agg cs.toArray] W fun e w' => e = .returned (.bool bb) ∧ Hid (Below W.heap.size W w')) := fun W hW => by
    have h0 := mayMsg_any (w := W) m (HM.out W hW)
    have e : decide ((mNo m).1 = 0) = bb := by
      have e1 := mNo_iff (HM.out W hW)
      have e2 := mNo_iff HG.out.ok
      rw [HG.out.mv, HG.out.kind, HG.out.pos, ← e1] at e2
      cases bb with
      | true => exact decide_eq_true (e2.1 (HBE.out.1 rfl))
      | false => exact decide_eq_false (fun e => Bool.noConfusion (HBE.out.2 (e2.2 e)))
    rw [e, HCS.out] at h0
    exact h0
  have HL3 : Hid (bb = false → (mRes x).length = 0) := fun e => by
    unfold mRes
    rw [if_neg (fun h => by rw [e] at hbb; exact Bool.noConfusion (hbb.2 h))]
    rfl
  clear hsh hbb g1 g2 g3 G3 G2 S1 S2 HC1 RG1 HW1
  generalize hL : (mRes x).length = L at *
  have HLL := hide hL
  clear hL
  have RG3 := hide (blk_range S3.out.q0)
  go_upto_region 2 with fail
  go_step
  refine wpList_load_mid rfl 36 _ rfl w.heap.size 0 rfl cs _ RG3.out Tryz.underlying36 rfl HSZ.out ?_
  simp only [Act.put, List.setIfInBounds_toArray, List.set_cons_zero, List.set_cons_succ]
  go_wp2_with fail
  refine (HMAY.out w3 S3.out.bel).mono ?_
  rintro e w4 ⟨rfl, hb4⟩
  have S4 := hide (S3.out.next hb4.out)
  have SH4 := hide ((HSH.out.belowL hb4.out).wide hb4.out.size)
  clear hb4 RG3 HSH
  rcases hxx with ⟨rfl, rfl⟩ | ⟨g, rfl, rfl⟩
  · have WH := hide (whole HG.out.ok (HBE.out.1 rfl) SH4.out.2.2.2.1)
    clear HMAY HL3 HBE S3
    go_wp2_with fail
    refine (lend_to SH4.out).mono ?_
    rintro e w5 ⟨g5, rfl, G5⟩
    have S5 := hide (S4.out.next G5.out.2.2.2)
    have HD := hide (dec_any G5.out.1 (HZ.out w5 S5.out.bel).1 (HZ.out w5 S5.out.bel).2)
    unfold DecP at HD
    clear G5 SH4 S4
    go_wp2_with fail
    refine HD.out.mono ?_
    clear HD
    rintro e w6 ⟨cs6, x6, b6, rfl, hx6, G6⟩
    obtain ⟨l6, o6, be6, if6, rd6⟩ := G6.out
    obtain ⟨h1, h2, h3, h4, h5, h6, h7, h8, h9, h10⟩ := WH.out
    rw [h7] at if6 rd6
    have e6 : b6 = true := if6.2 ⟨h6, h8⟩
    subst e6
    obtain rfl : x6 = .nilIface := by
      rcases hx6 with ⟨h, _⟩ | ⟨_, _, h⟩
      · exact h
      · cases h
    obtain ⟨m6, r6⟩ := rd6 rfl
    have R6 : Hid (cs6 = m6.R ∧ m6.Ok w6.heap.size w6 ∧ m6.kind = m.kind ∧ m6.pos ∧ m.pos ∧ m6.mv = m.mv) := ⟨r6.cs, r6.ok, by rw [r6.kind, h10]; exact HG.out.kind, r6.pos, HG.out.pos.1 h1, by rw [r6.mv, h9]; exact HG.out.mv⟩
    have S6 := hide (S5.out.next be6)
    have HL6 := hide l6
    have HO6 := hide o6
    have HSZ6 : Hid ((Tryz.prog.info? 36).map (·.size) = some cs6.length) := by show _ = _; rw [HL6.out]; kernel_rfl
    clear l6 o6 be6 if6 rd6 h1 h2 h3 h4 h5 h6 h7 h8 h9 h10 r6 hx6 G6 WH S5
    go_upto_region 7 with (refine wpList_store_box rfl 36 _ _ rfl cs6 rfl rfl (by rw [HL6.out]; rfl) HSZ6.out HO6.out ?_; intro W7 g7 rb7)
    have S7 := hide (S6.out.quiet g7)
    have B67 : Hid (Below w6.heap.size w6 W7) := (Below.refl _ _).grown g7 (Nat.le_refl _) (fun k e => by cases e)
    have RA7 := hide (blk_range rb7)
    have RB7 := hide (blk_range S7.out.q0)
    have SM : Hid (Calls Tryz.prog 10 #[.agg cs6.toArray, .agg cs.toArray] W7 fun e w' => e = .returned (.bool true) ∧ Hid (Below W7.heap.size W7 w')) := by
      rw [R6.out.1, ← HCS.out]
      exact sameMsg_of m6 m ((R6.out.2.1.below B67.out).wide B67.out.size) (HM.out W7 S7.out.bel) R6.out.2.2.1 R6.out.2.2.2.1 R6.out.2.2.2.2.1 R6.out.2.2.2.2.2
    clear g7 rb7 S6 R6 B67
    go_upto_region 9 with (first
      | (refine wpList_load_midG (by rfl) 36 (.tmp 7) rfl w6.heap.size 0 rfl cs6 _ RA7.out Tryz.underlying36 rfl HSZ6.out ?_)
      | (refine wpList_load_midG (by rfl) 36 (.tmp 2) rfl w.heap.size 0 rfl cs _ RB7.out Tryz.underlying36 rfl HSZ.out ?_)
      | (go_at_call 10; refine SM.out.mono ?_; rintro e w8 ⟨rfl, hb8⟩))
    have S8 := hide (S7.out.next hb8.out)
    clear hb8 SM RA7 RB7 S7
    go_wp2_with fail
    refine (lend_to (HBB.out w8 S8.out.bel)).mono ?_
    rintro e w9 ⟨g9, rfl, G9⟩
    have S9 := hide (S8.out.next G9.out.2.2.2)
    have HD := hide (dec_any G9.out.1 (HZ.out w9 S9.out.bel).1 (HZ.out w9 S9.out.bel).2)
    unfold DecP at HD
    clear G9 S8
    go_wp2_with fail
    refine HD.out.mono ?_
    clear HD
    rintro e w10 ⟨cs10, x10, b10, rfl, hx10, G10⟩
    obtain ⟨l10, o10, be10, -, rd10⟩ := G10.out
    have S10 := hide (S9.out.next be10)
    have HL10 := hide l10
    have HO10 := hide o10
    have HRD := hide rd10
    have HSZ10 : Hid ((Tryz.prog.info? 36).map (·.size) = some cs10.length) := by show _ = _; rw [HL10.out]; kernel_rfl
    clear l10 o10 be10 rd10 G10 S9
    go_upto_region 10 with (refine wpList_store_box rfl 36 _ _ rfl cs10 rfl rfl (by rw [HL10.out]; rfl) HSZ10.out HO10.out ?_; intro W11 g11 rb11)
    have S11 := hide (S10.out.quiet g11)
    have B11 : Hid (Below w10.heap.size w10 W11) := (Below.refl _ _).grown g11 (Nat.le_refl _) (fun k e => by cases e)
    have Q11 := hide rb11
    have HLB : Hid (w10.heap.size < W11.heap.size) := block_lt rb11
    clear g11 rb11
    rcases hx10 with ⟨rfl, rfl⟩ | ⟨g, rfl, rfl⟩
    · obtain ⟨m10, r10⟩ := HRD.out rfl
      have R10 : Hid (cs10 = m10.R ∧ m10.Ok W11.heap.size W11 ∧ m10.Co W11.heap.size ∧ (mNo m10).1 = 0 ∧ mRes m10 = BB) := by
        have ok := r10.ok
        have hk : m10.kind.toNat = BB.getD 3 0 := by rw [r10.kind]; exact Int.toNat_natCast _
        have hno : (mNo m10).1 = 0 := (mNo_iff ok).2 ⟨r10.pos, by rw [hk]; exact r10.may⟩
        refine ⟨r10.cs, (ok.below B11.out).wide B11.out.size, r10.co.wide B11.out.size, hno, ?_⟩
        unfold mRes
        rw [if_pos hno, hk]
        exact r10.bytes.symm
      have HE : Hid (Calls Tryz.prog 5 #[.agg cs10.toArray] W11 (EncPost m10 W11)) := by
        rw [R10.out.1]
        exact encm_any m10 R10.out.2.1 R10.out.2.2.1 (HZ.out W11 S11.out.bel).1 (HZ.out W11 S11.out.bel).2
      unfold EncPost at HE
      have RG11 := hide (blk_range Q11.out)
      clear r10 HRD B11
      go_upto_region 12 with fail
      go_step
      refine wpList_load_mid rfl 36 _ rfl w10.heap.size 0 rfl cs10 _ RG11.out Tryz.underlying36 rfl HSZ10.out ?_
      simp only [Act.put, List.setIfInBounds_toArray, List.set_cons_zero, List.set_cons_succ]
      go_wp2_with fail
      refine HE.out.mono ?_
      clear HE
      rintro e w12 ⟨fv2, xx2, rfl, G12⟩
      obtain ⟨g1, g2, g3⟩ := G12.out
      rw [R10.out.2.2.2.1] at g2
      obtain rfl := errV_none g2
      rw [R10.out.2.2.2.2] at g1
      obtain ⟨fo2, fc2, rfl, hsh2, -⟩ := g1.form
      have S12 := hide (S11.out.next g3)
      have RG12 := hide (blk_range ((g3.block _ HLB.out).trans Q11.out))
      have SB : Hid (Calls Tryz.prog 11 #[.slice fo2 BB.length fc2, .slice bo bn bc] w12 fun e w' => e = .returned (.bool true) ∧ ∃ q, w' = w12.drewN q) := same_any hsh2 (HBB.out w12 S12.out.bel)
      have HMY : Hid (∀ q, Calls Tryz.prog 7 #[.agg cs10.toArray] (w12.drewN q) fun e w' => e = .returned (.bool true) ∧ Hid (Below w.heap.size w w')) := fun q => by
        have b12 : Below w12.heap.size w12 (w12.drewN q) := ⟨rfl, rfl, rfl, Nat.le_refl _, fun _ _ => rfl⟩
        have h0 := mayMsg_any (w := w12.drewN q) m10 (((R10.out.2.1.below g3).wide g3.size).below b12)
        rw [decide_eq_true R10.out.2.2.2.1, ← R10.out.1] at h0
        exact h0.mono (fun _ _ h => ⟨h.1, S12.out.bel.trans ((b12.trans h.2.out).mono S12.out.bel.size)⟩)
      have RGQ : Hid (∀ q, (w12.drewN q).rangeAt w10.heap.size 0 cs10) := fun q => RG12.out
      generalize BB.length = LB at *
      clear g1 g2 g3 hsh2 G12 Q11 RG11 R10
      go_wp2_with (first
        | (refine wpList_load_midG (by rfl) 36 (.tmp 8) rfl w10.heap.size 0 rfl cs10 _ (RGQ.out q13) Tryz.underlying36 rfl HSZ10.out ?_)
        | (go_at_call 11; refine SB.out.mono ?_; rintro e w13 ⟨rfl, q13, rfl⟩)
        | (go_at_call 7; refine (HMY.out q13).mono ?_; rintro e w14 ⟨rfl, hb14⟩))
      go_ret
      exact ⟨rfl, hb14.out⟩
    · go_wp2
      go_ret
      exact ⟨rfl, S11.out.bel⟩
  · have hL0 := HL3.out rfl
    subst hL0
    go_wp2
    go_ret
    exact ⟨rfl, S4.out.bel⟩
end Go.Proofs.YtldhafpeigdloaaGreatDoor
