import Derived.Test.YtcagbggnlfeadaaGreatDoorWLs
import Derived.WalkMore
import Derived.Deep.DeepCutAuto
namespace Go.Proofs.YtcagbggnlfeadaaGreatDoor
open Go.RowKit Crc

theorem shows_sub {lim : Nat} {w : World} {b off n : Nat} {R : List Nat} (hn : n = R.length) (hl : n ≤ 140737488355328) (hB : ∀ x ∈ R, x < 256) (hb : b < lim) (hc : ∀ i, i < n → w.cell? ⟨b, off + i, none⟩ = some (.int .u8 ((R.getD i 0 : Nat) : Int)))
    (lo k c : Nat) (h : lo + k ≤ n) (hk : k ≤ c) : Shows lim w (some ⟨b, off + lo, none⟩) k c ((R.drop lo).take k) := by
  refine ⟨by rw [List.length_take, List.length_drop]; omega, hk, by omega, fun x hx => hB x (List.mem_of_mem_drop (List.mem_of_mem_take hx)), b, off + lo, fun _ => rfl, fun _ => hb, fun i hi => ?_⟩
  rw [getD_take hi, getD_drop, Nat.add_assoc]
  exact hc (lo + i) (by omega)
theorem high_sh {lim : Nat} {w : World} {ao : Option Addr} {n cap : Nat} {B : List Nat} (h : Shows lim w ao n cap B) (h8 : n ≤ 8) :
    Calls Tryz.prog 69 #[.slice ao n cap] w fun e w' => e = .returned (.int .u64 (hi B : Nat)) ∧ w' = w := by
  obtain ⟨h1, h2, h3, h4, b, off, h5, h6, h7⟩ := h
  exact high_all b off ao B n cap w h5 h1 h8 h4 h7
theorem copied_bd {lim : Nat} {w : World} {ao : Option Addr} {n cap : Nat} {B : List Nat} (h : Shows lim w ao n cap B) (hlim : lim ≤ w.heap.size) :
    Calls Tryz.prog 38 #[.slice ao n cap] w fun e w' => ∃ v, e = .returned v ∧ Bd w.heap.size w' v B ∧ Below w.heap.size w w' := by
  obtain ⟨h1, h2, h3, h4, b, off, h5, h6, h7⟩ := h
  refine (copied_any b off ao B n cap w h5 h1 h3 (fun h => Nat.lt_of_lt_of_le (h6 h) hlim) h7).mono ?_
  rintro e w' ⟨v, he, hv, _, hf⟩
  refine ⟨v, he, ⟨⟨hf.1, h4, by omega⟩, ?_⟩, hf.2⟩
  rcases hv with hv | hv
  · exact .inl hv
  · exact .inr ⟨w.heap.size, by rw [hv, h1]⟩
theorem Shows.below {lim k : Nat} {w w' : World} {ao : Option Addr} {n cap : Nat} {B : List Nat} (h : Shows lim w ao n cap B) (hb : Below k w w') (hk : lim ≤ k) : Shows lim w' ao n cap B := by
  obtain ⟨p1, p2, p3, p4, b, off, p5, p6, p7⟩ := h
  exact ⟨p1, p2, p3, p4, b, off, p5, p6, fun i hi => (hb.cell (p := ⟨b, off + i, none⟩) (by have := p6 (by omega); show b < k; omega)).trans (p7 i hi)⟩

def WfInv (base : Nat) (w : World) (D : List Nat) (wr : World) (v : Value) (E : Nat) (xs : List Value) (Ls : List (List Nat)) (f : Nat) : Prop :=
  OwnL base wr v xs Ls ∧ Below base w wr ∧ frs D.length D 0 = (Ls ++ (frs f (D.drop E) Ls.length).1, E + (frs f (D.drop E) Ls.length).2) ∧ D.length ≤ E + f

/-- The loop ends here. -/
theorem WfInv.stop {base : Nat} {w : World} {D : List Nat} {wr : World} {v : Value} {E : Nat} {xs : List Value} {Ls : List (List Nat)} {f : Nat} (h : WfInv base w D wr v E xs Ls f) (hw : whole (D.drop E) Ls.length = none) (hb : base ≤ wr.heap.size) {V : World} (hV : Below wr.heap.size wr V) :
    (E : Int) = ((frs D.length D 0).2 : Int) ∧ OwnL base V v xs (frs D.length D 0).1 ∧ Below base w V := by
  obtain ⟨h1, h2, h3, h4⟩ := h
  rw [frs_none _ _ _ hw] at h3
  rw [h3]
  refine ⟨by simp, by rw [List.append_nil]; exact h1.quiet (below_none hV), h2.trans (hV.mono hb)⟩
/-- One round more. -/
theorem WfInv.more {base : Nat} {w : World} {D : List Nat} {wr : World} {v : Value} {E : Nat} {xs : List Value} {Ls : List (List Nat)} {f z : Nat} (h : WfInv base w D wr v E xs Ls f) (hw : whole (D.drop E) Ls.length = some z) (hb : base ≤ wr.heap.size)
    {V V' V2 : World} {x v' : Value} (hV : Below wr.heap.size wr V) (hV' : Below V.heap.size V V') (hx : Bd V.heap.size V' x (((D.drop E).drop 12).take z)) {o : Obj}
    (hr : V2.ownsRow base 37 1 v' (Ls.length + 1) (xs ++ [x])) (he : Ext (V'.alloc o) V2 v v') :
    ∃ f', WfInv base w D V2 v' (E + (16 + z)) (xs ++ [x]) (Ls ++ [((D.drop E).drop 12).take z]) f' := by
  obtain ⟨h1, h2, h3, h4⟩ := h
  have hlen := whole_len hw
  rw [List.length_drop] at hlen
  obtain ⟨f', rfl⟩ : ∃ f', f = f' + 1 := ⟨f - 1, by omega⟩
  refine ⟨f', ?_, ?_, ?_, by omega⟩
  · exact OwnL.snoc (w := V) (w1 := V'.alloc o) (h1.quiet (below_none hV)) (below_none (hV'.alloc hV'.size _)) ⟨hx.1.quiet (World.grownBy_alloc _ _ _), hx.2⟩ (by have := hV.size; omega) hr he.1
  · refine (((h2.trans (hV.mono hb)).trans (hV'.mono (by have := hV.size; omega))).alloc (by have := hV.size; have := hV'.size; omega) o).grown he.1 (by have := hV.size; have := hV'.size; simp; omega) (fun k hk => (h1.row.lt k hk).1)
  · rw [h3, frs_some _ _ _ _ hw]
    have e : (D.drop E).drop (16 + z) = D.drop (E + (16 + z)) := by rw [List.drop_drop]
    have e2 : ∀ X : List Nat, (Ls ++ [X]).length = Ls.length + 1 := fun X => by simp
    rw [e, e2]
    refine Prod.ext ?_ ?_
    · simp
    · show E + (16 + z + _) = E + (16 + z) + _
      omega

set_option maxRecDepth 10000 in
set_option maxHeartbeats 4000000 in
theorem wholeFrames_any {lim : Nat} {w : World} {b off n cap : Nat} {D : List Nat} (hn : n = D.length) (hl : n ≤ 1099511627776) (hcap : n ≤ cap) (hB : ∀ x ∈ D, x < 256) (hb : b < lim) (hlim : lim ≤ w.heap.size) (hT : Table w)
    (hc : ∀ i, i < n → w.cell? ⟨b, off + i, none⟩ = some (.int .u8 ((D.getD i 0 : Nat) : Int))) :
    Calls Tryz.prog 63 #[.int .i64 0, .slice (some ⟨b, off, none⟩) n cap] w fun e w' => ∃ v xs, e = .returned (.tuple #[v, .int .i64 ((frs D.length D 0).2 : Int)]) ∧ OwnL w.heap.size w' v xs (frs D.length D 0).1 ∧ Below w.heap.size w w' := by
  obtain ⟨i0, hinf, hz0, hz1, hz2⟩ := info_parts Tryz.infoL
  have HN := hide hn
  have HB := hide hB
  have HT := hide hT
  have HC := hide hc
  clear hn hB hT hc
  go_enter Tryz.func63, Tryz.ntmps63
  go_wp2
  go_step3
  go_wp2
  go_step3
  go_wp2
  go_loopw [0, 4, 5] (fun ix v e wr => ∃ (E k : Nat) (ab : Option Addr) (cb : Nat), E ≤ n ∧ k * 16 ≤ E ∧ ix = .int .i64 k ∧ e = .int .i64 E ∧ v = .slice ab k cb ∧ Hid (∃ xs Ls f, k = Ls.length ∧ WfInv w.heap.size w D wr v E xs Ls f)) (fun _ _ e _ => n - (intOf e).toNat)
  case atStart =>
    refine ⟨0, 0, none, 0, by omega, by omega, rfl, rfl, rfl, [], [], D.length, rfl, OwnL.nil _ _, Below.refl _ _, ?_, by omega⟩
    simp
  case round =>
    obtain ⟨E, k, ab, cb, hE, hk, rfl, rfl, rfl, HR⟩ := hrel
    obtain ⟨m, hm⟩ : ∃ m, n = E + m := ⟨n - E, by omega⟩
    subst hm
    have HSZ : Hid (w.heap.size ≤ wr.heap.size) := by obtain ⟨xs, Ls, f, _, h⟩ := HR.out; exact h.2.1.size
    by_cases h16 : m < 16
    · have HST : Hid (∃ xs, (E : Int) = ((frs D.length D 0).2 : Int) ∧ OwnL w.heap.size wr (.slice ab k cb) xs (frs D.length D 0).1 ∧ Below w.heap.size w wr) := by
        obtain ⟨xs, Ls, f, hk', h⟩ := HR.out
        refine ⟨xs, h.stop ?_ HSZ.out (Below.refl _ _)⟩
        unfold whole
        rw [if_pos (by rw [List.length_drop, ← HN.out]; omega)]
      clear HR HC HN
      by_cases hce : cap = E
      · subst hce
        go_wp2
        try rw [Exit.noGoto_ret]
        go_ret2
        obtain ⟨xs, h1, h2, h3⟩ := HST.out
        exact ⟨_, xs, by rw [← h1]; rfl, h2, h3⟩
      · go_wp2
        try rw [Exit.noGoto_ret]
        go_ret2
        obtain ⟨xs, h1, h2, h3⟩ := HST.out
        exact ⟨_, xs, by rw [← h1]; rfl, h2, h3⟩
    · have hce : ¬ cap = E := by omega
      obtain ⟨R, hR⟩ : ∃ R, R = D.drop E := ⟨_, rfl⟩
      have HRl : Hid (m = R.length) := by show _ = _; rw [hR, List.length_drop, ← HN.out]; omega
      have HRB : Hid (∀ x ∈ R, x < 256) := fun x hx => HB.out x (List.mem_of_mem_drop (hR ▸ hx))
      have HBw : Hid (∀ V, Below wr.heap.size wr V → Below w.heap.size w V) := by
        intro V hV
        obtain ⟨xs, Ls, f, _, h⟩ := HR.out
        exact h.2.1.trans (hV.mono HSZ.out)
      have HRC : Hid (∀ V, Below wr.heap.size wr V → ∀ i, i < m → V.cell? ⟨b, off + E + i, none⟩ = some (.int .u8 ((R.getD i 0 : Nat) : Int))) := by
        intro V hV i hi
        rw [hR, getD_drop, Nat.add_assoc]
        exact ((HBw.out V hV).cell (p := ⟨b, off + (E + i), none⟩) (by show b < w.heap.size; omega)).trans (HC.out (E + i) (by omega))
      have HSub : Hid (∀ V, Below wr.heap.size wr V → ∀ lo k c, lo + k ≤ m → k ≤ c → Shows lim V (some ⟨b, off + E + lo, none⟩) k c ((R.drop lo).take k)) := fun V hV lo k c h1 h2 => shows_sub HRl.out (by omega) HRB.out hb (HRC.out V hV) lo k c h1 h2
      have HTV : Hid (∀ V, Below wr.heap.size wr V → Table V) := fun V hV => HT.out.below (HBw.out V hV) (by omega)
      have HRR := hide hR
      clear hR HC HRC
      obtain ⟨r4, hr4⟩ : ∃ r4, r4 = decide (low4 (Crc.sum (R.take 8)) = (R.drop 8).take 4) := ⟨_, rfl⟩
      have HS4 : Hid (∀ V, Hid (Below wr.heap.size wr V) → Calls Tryz.prog 72 #[.slice (some ⟨b, off + E, none⟩) 8 (cap - E), .slice (some ⟨b, off + E + 8, none⟩) 4 (cap - E - 8)] V fun e w' => e = .returned (.bool r4) ∧ Hid (Below wr.heap.size wr w')) := by
        intro V hV
        have s1 := HSub.out V hV.out 0 8 (cap - E) (by omega) (by omega)
        have s2 := HSub.out V hV.out 8 4 (cap - E - 8) (by omega) (by omega)
        rw [List.drop_zero, Nat.add_zero] at s1
        refine (summed_any s1 s2 (HTV.out V hV.out)).mono ?_
        rintro e w' ⟨h1, h2⟩
        exact ⟨by rw [h1, hr4], hV.out.trans (h2.mono hV.out.size)⟩
      have HR4 := hide hr4
      have SDR : Hid (Hid (Below wr.heap.size wr wr.drew)) := Go.below_drewN (Below.refl _ _) 1
      clear hr4
      go_upto_region 3 with fail
      go_cut [17] from 18 to 23 (fun s15 V => s15 = .bool (!r4) ∧ Hid (Below wr.heap.size wr V))
      case first =>
        go_region_held (fun V : World => Hid (Below wr.heap.size wr V)) (first | with_reducible exact SDR.out | with_reducible exact G)
          (first
            | (go_at_call 72; refine (HS4.out _ (by assumption)).mono ?_; rintro e W ⟨rfl, G⟩))
        all_goals
          go_wp2_with fail
          go_meet
          exact ⟨rfl, G⟩
      case rest =>
      obtain ⟨rfl, G⟩ := hcut
      generalize wc = W at *
      have HG := hide G.out
      clear G HS4 SDR
      cases r4 with
      | false =>
        have HST : Hid (∃ xs, (E : Int) = ((frs D.length D 0).2 : Int) ∧ OwnL w.heap.size W (.slice ab k cb) xs (frs D.length D 0).1 ∧ Below w.heap.size w W) := by
          obtain ⟨xs, Ls, f, hk', h⟩ := HR.out
          refine ⟨xs, h.stop ?_ HSZ.out HG.out⟩
          rw [← HRR.out]
          unfold whole
          rw [if_neg (by rw [← HRl.out]; omega), if_pos (by simpa using HR4.out.symm)]
        clear HR HN
        go_wp2
        try rw [Exit.noGoto_ret]
        go_ret2
        obtain ⟨xs, h1, h2, h3⟩ := HST.out
        exact ⟨_, xs, by rw [← h1]; rfl, h2, h3⟩
      | true =>
        have HH5 : Hid (Calls Tryz.prog 69 #[.slice (some ⟨b, off + E + 4, none⟩) 4 (cap - E - 4)] W fun e w' => e = .returned (.int .u64 (hi ((R.drop 4).take 4) : Nat)) ∧ w' = W) := high_sh (HSub.out W HG.out 4 4 (cap - E - 4) (by omega) (by omega)) (by omega)
        have HH6 : Hid (Calls Tryz.prog 69 #[.slice (some ⟨b, off + E, none⟩) 4 (cap - E)] W fun e w' => e = .returned (.int .u64 (hi (R.take 4) : Nat)) ∧ w' = W) := by
          have := high_sh (HSub.out W HG.out 0 4 (cap - E) (by omega) (by omega)) (by omega)
          rw [List.drop_zero, Nat.add_zero] at this
          exact this
        have HW : Hid (whole R k = if ¬ hi ((R.drop 4).take 4) = k then none else if 2147483647 < k then none else if 60000 < hi (R.take 4) then none else if m < 16 + hi (R.take 4) then none else if ¬ low4 (Crc.sum ((R.drop 12).take (hi (R.take 4)))) = (R.drop (12 + hi (R.take 4))).take 4 then none else some (hi (R.take 4))) := by
          show _ = _
          unfold whole
          rw [if_neg (by rw [← HRl.out]; omega), if_neg (by simpa using HR4.out.symm), ← HRl.out]
        have hz32 : hi (R.take 4) < 4294967296 := by
          have := hi_lt (R.take 4) (fun x hx => HRB.out x (List.mem_of_mem_take hx))
          rw [List.length_take, show min 4 R.length = 4 by have := HRl.out; omega] at this
          omega
        have hx32 : hi ((R.drop 4).take 4) < 4294967296 := by
          have := hi_lt ((R.drop 4).take 4) (fun x hx => HRB.out x (List.mem_of_mem_drop (List.mem_of_mem_take hx)))
          rw [List.length_take, List.length_drop, show min 4 (R.length - 4) = 4 by have := HRl.out; omega] at this
          omega
        generalize hzz : hi (R.take 4) = z at *
        generalize hi ((R.drop 4).take 4) = x at *
        have HZZ := hide hzz
        clear hzz HR4
        have hk40 : k ≤ 68719476736 := by omega
        go_wp2_with fail
        go_loud (refine HH5.out.mono ?_)
        rintro e W1 ⟨rfl, rfl⟩
        by_cases hxk : x = k
        · subst hxk
          go_wp2_with fail
          go_loud (refine HH6.out.mono ?_)
          rintro e W1 ⟨rfl, rfl⟩
          by_cases hfar : 2147483647 < x
          · have HST : Hid (∃ xs, (E : Int) = ((frs D.length D 0).2 : Int) ∧ OwnL w.heap.size W1 (.slice ab x cb) xs (frs D.length D 0).1 ∧ Below w.heap.size w W1) := by
              obtain ⟨xs, Ls, f, hk', h⟩ := HR.out
              refine ⟨xs, h.stop ?_ HSZ.out HG.out⟩
              rw [← HRR.out, ← hk', HW.out, if_neg (by simp), if_pos hfar]
            have HNF := hide (noFrame_far x z hfar W1)
            clear HR HN
            go_wp2_with fail
            refine HNF.out.mono ?_
            rintro e W2 ⟨rfl, rfl⟩
            go_wp2
            try rw [Exit.noGoto_ret]
            go_ret2
            obtain ⟨xs, h1, h2, h3⟩ := HST.out
            exact ⟨_, xs, by rw [← h1]; rfl, h2, h3⟩
          by_cases hz6 : 60000 < z
          · have HST : Hid (∃ xs, (E : Int) = ((frs D.length D 0).2 : Int) ∧ OwnL w.heap.size W1 (.slice ab x cb) xs (frs D.length D 0).1 ∧ Below w.heap.size w W1) := by
              obtain ⟨xs, Ls, f, hk', h⟩ := HR.out
              refine ⟨xs, h.stop ?_ HSZ.out HG.out⟩
              rw [← HRR.out, ← hk', HW.out, if_neg (by simp), if_neg hfar, if_pos hz6]
            have HNF := hide (noFrame_long x z (by omega) hz6 W1)
            clear HR HN
            go_wp2_with fail
            refine HNF.out.mono ?_
            rintro e W2 ⟨rfl, rfl⟩
            go_wp2
            try rw [Exit.noGoto_ret]
            go_ret2
            obtain ⟨xs, h1, h2, h3⟩ := HST.out
            exact ⟨_, xs, by rw [← h1]; rfl, h2, h3⟩
          · obtain ⟨P, hP⟩ : ∃ P, m = P + 16 := ⟨m - 16, by omega⟩
            have he : (m : Int) - 16 = (P : Int) := by omega
            have HP := hide hP
            have hP40 : P ≤ 1099511627776 := by omega
            clear hP
            have HNF := hide (noFrame_ok x z (by omega) (by omega) W1)
            go_wp2_with fail
            refine HNF.out.mono ?_
            rintro e W1 ⟨rfl, rfl⟩
            clear HNF
            by_cases hPz : P < z
            · have HST : Hid (∃ xs, (E : Int) = ((frs D.length D 0).2 : Int) ∧ OwnL w.heap.size W1 (.slice ab x cb) xs (frs D.length D 0).1 ∧ Below w.heap.size w W1) := by
                obtain ⟨xs, Ls, f, hk', h⟩ := HR.out
                refine ⟨xs, h.stop ?_ HSZ.out HG.out⟩
                rw [← HRR.out, ← hk', HW.out, if_neg (by simp), if_neg hfar, if_neg hz6, if_pos (by have := HP.out; omega)]
              clear HR HN
              go_wp2
              try rw [Exit.noGoto_ret]
              go_ret2
              obtain ⟨xs, h1, h2, h3⟩ := HST.out
              exact ⟨_, xs, by rw [← h1]; rfl, h2, h3⟩
            · have hzm : 16 + z ≤ m := by have := HP.out; omega
              go_upto_region 8 with fail
              obtain ⟨Q, hQ⟩ : ∃ Q, Q = 12 + z := ⟨_, rfl⟩
              have hq : IntKind.u64.wrap ((12 : Int) + (z : Int)) = (Q : Int) := by simp [IntKind.wrap, IntKind.bits, IntKind.signed]; omega
              have HQ := hide hQ
              have q1 : 12 ≤ Q := by omega
              have q2 : Q + 4 ≤ m := by omega
              have q3 : ¬ cap - E = Q := by omega
              have q4 : ¬ cap - E = 12 := by omega
              have q5 : Q ≤ cap - E := by omega
              have q6 : m ≤ cap - E := by omega
              clear hQ
              go_quiet (fail)
              have HG2 : Hid (Below wr.heap.size wr (W1.drewN nq)) := HG.out.trans ((Go.below_drewN (Below.refl _ _) nq).mono HG.out.size)
              clear HG
              generalize W1.drewN nq = W2 at *
              clear hq
              obtain ⟨r9, hr9⟩ : ∃ r9, r9 = decide (low4 (Crc.sum ((R.drop 12).take (Q - 12))) = (R.drop Q).take 4) := ⟨_, rfl⟩
              have HS9 : Hid (Calls Tryz.prog 72 #[.slice (some ⟨b, off + E + 12, none⟩) (Q - 12) (cap - E - 12), .slice (some ⟨b, off + E + Q, none⟩) 4 (cap - E - Q)] W2 fun e w' => e = .returned (.bool r9) ∧ Hid (Below wr.heap.size wr w')) := by
                refine (summed_any (HSub.out W2 HG2.out 12 (Q - 12) (cap - E - 12) (by omega) (by omega)) (HSub.out W2 HG2.out Q 4 (cap - E - Q) (by omega) (by omega)) (HTV.out W2 HG2.out)).mono ?_
                rintro e w' ⟨h1, h2⟩
                exact ⟨by rw [h1, hr9], HG2.out.trans (h2.mono HG2.out.size)⟩
              have HR9 := hide hr9
              have hQz : Q - 12 = z := by have := HQ.out; omega
              have HQz := hide hQz
              clear hr9 hQz HH5 HH6
              go_wp2_with fail
              refine HS9.out.mono ?_
              rintro e W3 ⟨rfl, G3⟩
              clear HS9 HG2
              cases r9 with
              | false =>
                have HST : Hid (∃ xs, (E : Int) = ((frs D.length D 0).2 : Int) ∧ OwnL w.heap.size W3 (.slice ab x cb) xs (frs D.length D 0).1 ∧ Below w.heap.size w W3) := by
                  obtain ⟨xs, Ls, f, hk', h⟩ := HR.out
                  refine ⟨xs, h.stop ?_ HSZ.out G3.out⟩
                  rw [← HRR.out, ← hk', HW.out, if_neg (by simp), if_neg hfar, if_neg hz6, if_neg (by omega), if_pos]
                  have := HR9.out
                  rw [HQz.out, HQ.out] at this
                  simpa using this.symm
                clear HR HN
                go_wp2
                try rw [Exit.noGoto_ret]
                go_ret2
                obtain ⟨xs, h1, h2, h3⟩ := HST.out
                exact ⟨_, xs, by rw [← h1]; rfl, h2, h3⟩
              | true =>
                have HWS : Hid (whole R x = some z) := by
                  show _ = _
                  rw [HW.out, if_neg (by simp), if_neg hfar, if_neg hz6, if_neg (by omega), if_neg]
                  have := HR9.out
                  rw [HQz.out, HQ.out] at this
                  simpa using this.symm
                have HCP := hide (copied_bd (HSub.out W3 G3.out 12 (Q - 12) (cap - E - 12) (by omega) (by omega)) (by have := G3.out.size; have := HSZ.out; omega))
                go_wp2_with fail
                refine HCP.out.mono ?_
                rintro e W4 ⟨y, rfl, hy, hb4⟩
                have HY := hide hy
                have HB4 := hide hb4
                clear hy hb4 HCP HW HR9
                obtain ⟨xs, Ls, f, hk', hI⟩ := HR.out
                have HKL := hide hk'
                have HI := hide hI
                have HOW : Hid (OwnL w.heap.size W4 (.slice ab x cb) xs Ls) := (hI.1.quiet (below_none G3.out)).quiet (below_none HB4.out)
                have HSZ4 : Hid (w.heap.size ≤ W4.heap.size) := by show _ ≤ _; have := G3.out.size; have := HSZ.out; have := HB4.out.size; omega
                have HRW : Hid (W4.ownsRow w.heap.size 37 1 (.slice ab x cb) x xs) := by have := HOW.out.row; rw [← HKL.out] at this; exact this
                obtain ⟨ya, yc, hyf, -, -⟩ := HY.out.1.form
                generalize (List.take (Q - 12) (List.drop 12 R)).length = yn at hyf
                subst hyf
                clear hk' hI HR
                go_wp2_with (first
                  | (at_builtin; refine wpList_append_moved _ rfl (.tmp 59) (.tmp 62) 31 rfl w.heap.size 37 i0 (.slice none 0 0) 1 24 Tryz.underlying31 hinf hz0 hz1 hz2 rfl (by omega) (.slice ab x cb) x xs rfl (HRW.out.alloc _) ⟨W4.heap.size, 0, none⟩ 1 1 [.slice ya yn yc] rfl rfl (cell_one_new _ _ _) (Shade.one _ rfl) (by omega) (by unfold maxLen; omega) (by omega) (by have := HSZ4.out; simp; omega) ?_; intro v5 W5 hown5 hext5 hdis; clear hdis; have HOW5 := hide hown5; have HEX5 := hide hext5; clear hown5 hext5))
                go_roundw
                case rel =>
                  have hR4 : Bd W3.heap.size W4 (.slice ya yn yc) (((D.drop E).drop 12).take z) := by
                    have := HY.out
                    rw [HQz.out, HRR.out] at this
                    exact this
                  obtain ⟨f', hI'⟩ := HI.out.more (by rw [← HKL.out, ← HRR.out]; exact HWS.out) HSZ.out G3.out HB4.out hR4 (by rw [← HKL.out]; exact HOW5.out) HEX5.out
                  obtain ⟨a5, c5, hv5⟩ := hI'.1.form
                  refine ⟨E + (16 + z), x + 1, a5, c5, by omega, by omega, by go_num, by go_num, ?_, xs ++ [.slice ya yn yc], _, f', ?_, hI'⟩
                  · rw [hv5, List.length_append, ← HKL.out]; rfl
                  · rw [List.length_append, ← HKL.out]; rfl
                case measure => simp [intOf]; omega
        · have d5 : ((x : Int) != (k : Int)) = true := by simp; omega
          have HST : Hid (∃ xs, (E : Int) = ((frs D.length D 0).2 : Int) ∧ OwnL w.heap.size W1 (.slice ab k cb) xs (frs D.length D 0).1 ∧ Below w.heap.size w W1) := by
            obtain ⟨xs, Ls, f, hk', h⟩ := HR.out
            refine ⟨xs, h.stop ?_ HSZ.out HG.out⟩
            rw [← HRR.out, ← hk', HW.out, if_pos hxk]
          clear HR HN
          go_wp2
          try rw [Exit.noGoto_ret]
          go_ret2
          obtain ⟨xs, h1, h2, h3⟩ := HST.out
          exact ⟨_, xs, by rw [← h1]; rfl, h2, h3⟩
end Go.Proofs.YtcagbggnlfeadaaGreatDoor
