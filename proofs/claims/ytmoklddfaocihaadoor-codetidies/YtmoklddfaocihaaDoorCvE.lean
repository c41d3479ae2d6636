import Derived.Test.YtmoklddfaocihaaDoorCvD
namespace Go.Proofs.YtmoklddfaocihaaDoor
open Go.RowKit

theorem Hd.up {lim : Nat} {W W' : World} {q hb : Nat} {g : Pg} {p : Pv} {frm : Nat} {r : Except Int Kn} {e : Ending} {w' : World} (h : Hd lim W' q hb g p frm r e w') (hg : W.grownBy W' (some hb)) : Hd lim W q hb g p frm r e w' := by
  cases r with
  | ok k => exact ⟨h.1, h.2.out.1, grown_tr hg h.2.out.2⟩
  | error y =>
    obtain ⟨g', h1, h2⟩ := h
    exact ⟨g', h1, h2.out.1, grown_tr hg h2.out.2⟩
theorem eqKn (o : Option (List Bool)) (l : List Bool) (w : World) : (binOp .eql 124 (.agg #[.bool o.isSome, .string (ktx (kin o))]) (.agg #[.bool true, .string (ktx l)])).run Tryd.prog w = .ok (.bool (decide (o = some l))) w := by
  rw [eqSh]
  cases o with
  | none => simp
  | some m =>
    by_cases h : m = l
    · subst h
      simp [kin]
    · have h2 : ¬ (ktx m).toList = (ktx l).toList := by rw [ktx_eq]; exact h
      simp only [kin, Option.getD_some, Option.isSome_some, Option.some.injEq, decide_eq_false h, beq_eq_false_iff_ne.2 h2, Bool.and_false]
set_option maxRecDepth 10000 in
set_option maxHeartbeats 1600000 in
theorem handC {lim : Nat} {W : World} {q hb : Nat} {g : Pg} {p : Pv} {k : Kn} (h : WK lim W q hb g p k) (frm d : Nat) (l : List Bool) :
    Calls Tryd.prog 103 #[.pointer (some ⟨q, 0, none⟩), .int .i64 (frm : Nat), .int .i64 (d : Nat), .string (ktx l)] W (Hd lim W q hb g p frm (handF p k frm d l)) := by
  obtain ⟨W1, hW1⟩ : ∃ W1, W.alloc (.cells #[.bool true, .string (ktx l)] 124) = W1 := ⟨_, rfl⟩
  have B1 : Below W.heap.size W W1 := by rw [← hW1]; exact below_alloc1 W _
  have A1 : W1.heap[W.heap.size]? = some (.cells #[.bool true, .string (ktx l)] 124 (0, 0)) := by rw [← hW1]; exact alloc_atK _ _
  have h1 := h.kept B1
  have G1 := grown_of_below B1 (some hb)
  obtain ⟨c0, c1, c8, c9, ql⟩ := h1.cells
  have z0 := block_cell A1 0
  have z1 := block_cell A1 1
  have zl := block_lt A1
  simp at z0 z1
  have hli := h.ok.li
  have H1 := hide h1
  have HG1 := hide G1
  have HW1 := hide hW1
  have HGU : Hid (∀ y e w', Gu W1 frm y e w' → Hd lim W q hb g p frm (.error y) e w') := fun y e w' ⟨g', h1, h2⟩ => ⟨g', h1, h2.out.1, grown_tr G1 (grown_of_below h2.out.2 _)⟩
  clear h h1 A1 B1 hW1 G1 c0 c1
  unfold handF
  by_cases hn : p.n ≤ d
  · rw [if_pos hn]
    go_enter Tryd.func103, Tryd.ntmps103
    go_upto_region 1 with fail
    rw [HW1.out]
    by_cases hfd : d ≤ frm
    · go_wp2_with fail
      refine (giveUp_any _ _ _).mono ?_
      intro e w1 hgu
      have HD := hide (HGU.out _ _ _ hgu)
      obtain ⟨g', rfl, -⟩ := hgu
      go_wp2
      exact ⟨rfl, HD.out⟩
    · go_wp2_with fail
      refine (giveUp_any _ _ _).mono ?_
      intro e w1 hgu
      have HD := hide (HGU.out _ _ _ hgu)
      obtain ⟨g', rfl, -⟩ := hgu
      go_wp2
      exact ⟨rfl, HD.out⟩
  · rw [if_neg hn]
    have hdn : d < p.n := by omega
    have vo := H1.out.ok.vo d hdn
    obtain ⟨hia, hib⟩ := H1.out.ok.hi (by omega)
    have hbl : g.ib < W1.heap.size := Nat.lt_of_lt_of_le hib H1.out.le
    obtain ⟨s0, s1, f0, f1, sl⟩ := H1.out.shape d hdn
    rw [hia] at c8
    by_cases hfd : d ≤ frm
    · by_cases ho : p.op d = 1
      · rw [if_neg (by intro h; exact h.2 ho)]
        by_cases hk : k d = some l
        · rw [if_pos hk]
          have FIN : Hid (∀ n, Hd lim W q hb g p frm (.ok k) (.returned (.tuple #[])) (W1.drewN n)) := fun n => ⟨rfl, H1.out.kept (Go.below_drewN (Below.refl _ _) n), grown_tr HG1.out (grown_of_below (Go.below_drewN (Below.refl _ _) n) _)⟩
          have heq := eqKn (k d) l
          rw [decide_eq_true hk] at heq
          generalize (k d).isSome = kb at *
          generalize ktx (kin (k d)) = ks at *
          clear hk
          go_enter Tryd.func103, Tryd.ntmps103
          go_upto_region 1 with fail
          rw [HW1.out]
          go_upto_region 7 with fail
          go_region
          go_wp2
          go_end0
          exact FIN.out 1
        · rw [if_neg hk, if_pos (Or.inl hfd)]
          have HGU : Hid (∀ y e w', Gu W1.drew frm y e w' → Hd lim W q hb g p frm (.error y) e w') := fun y e w' ⟨g', h1, h2⟩ => ⟨g', h1, h2.out.1, grown_tr HG1.out (grown_of_below ((Below.refl W1.heap.size W1).drew.trans h2.out.2) _)⟩
          have heq := eqKn (k d) l
          rw [decide_eq_false hk] at heq
          generalize (k d).isSome = kb at *
          generalize ktx (kin (k d)) = ks at *
          clear hk
          go_enter Tryd.func103, Tryd.ntmps103
          go_upto_region 1 with fail
          rw [HW1.out]
          go_upto_region 7 with fail
          go_region
          go_wp2_with fail
          refine (giveUp_any _ _ _).mono ?_
          intro e w1 hgu
          have HD := hide (HGU.out _ _ _ hgu)
          obtain ⟨g', rfl, -⟩ := hgu
          go_wp2
          exact ⟨rfl, HD.out⟩
      · rw [if_pos ⟨hfd, ho⟩]
        have e1 : (p.op d != 1) = true := by simpa using ho
        clear s0 s1 f0 f1 sl
        generalize p.op d = oo at *
        go_enter Tryd.func103, Tryd.ntmps103
        go_upto_region 1 with fail
        rw [HW1.out]
        go_wp2_with fail
        refine (giveUp_any _ _ _).mono ?_
        intro e w1 hgu
        have HD := hide (HGU.out _ _ _ hgu)
        obtain ⟨g', rfl, -⟩ := hgu
        go_wp2
        exact ⟨rfl, HD.out⟩
    · rw [if_neg (by intro h; exact hfd h.1)]
      by_cases hk : k d = some l
      · rw [if_pos hk]
        have FIN : Hid (∀ n, Hd lim W q hb g p frm (.ok k) (.returned (.tuple #[])) (W1.drewN n)) := fun n => ⟨rfl, H1.out.kept (Go.below_drewN (Below.refl _ _) n), grown_tr HG1.out (grown_of_below (Go.below_drewN (Below.refl _ _) n) _)⟩
        have heq := eqKn (k d) l
        rw [decide_eq_true hk] at heq
        generalize (k d).isSome = kb at *
        generalize ktx (kin (k d)) = ks at *
        clear hk
        go_enter Tryd.func103, Tryd.ntmps103
        go_upto_region 1 with fail
        rw [HW1.out]
        go_upto_region 7 with fail
        go_region
        go_wp2
        go_end0
        exact FIN.out 1
      · rw [if_neg hk]
        by_cases hs : (k d).isSome = true
        · rw [if_pos (Or.inr hs)]
          have HGU : Hid (∀ y e w', Gu W1.drew frm y e w' → Hd lim W q hb g p frm (.error y) e w') := fun y e w' ⟨g', h1, h2⟩ => ⟨g', h1, h2.out.1, grown_tr HG1.out (grown_of_below ((Below.refl W1.heap.size W1).drew.trans h2.out.2) _)⟩
          have heq := eqKn (k d) l
          rw [decide_eq_false hk] at heq
          rw [hs] at s0 heq
          generalize ktx (kin (k d)) = ks at *
          clear hk
          go_enter Tryd.func103, Tryd.ntmps103
          go_upto_region 1 with fail
          rw [HW1.out]
          go_upto_region 7 with fail
          go_region
          go_wp2_with fail
          refine (giveUp_any _ _ _).mono ?_
          intro e w1 hgu
          have HD := hide (HGU.out _ _ _ hgu)
          obtain ⟨g', rfl, -⟩ := hgu
          go_wp2
          exact ⟨rfl, HD.out⟩
        · rw [if_neg (fun h => h.elim hfd hs)]
          have hs : (k d).isSome = false := by simpa using hs
          have heq := eqKn (k d) l
          rw [decide_eq_false hk] at heq
          have HST := hide (H1.out.set d hdn l)
          have FIN : Hid (∀ n, Hd lim W q hb g p frm (.ok (updK k d l)) (.returned (.tuple #[])) (((W1.setCell ⟨hb, d * 2, none⟩ (.bool true)).setCell ⟨hb, d * 2 + 1, none⟩ (.string (ktx l))).drewN n)) := fun n => ⟨rfl, HST.out.1.kept (Go.below_drewN (Below.refl _ _) n), grown_tr (grown_tr HG1.out HST.out.2) (grown_of_below (Go.below_drewN (Below.refl _ _) n) _)⟩
          rw [hs] at s0 heq
          generalize ktx (kin (k d)) = ks at *
          clear hk hs
          go_enter Tryd.func103, Tryd.ntmps103
          go_upto_region 1 with fail
          rw [HW1.out]
          go_upto_region 7 with fail
          go_region
          go_upto_region 2 with fail
          go_region
          go_wp2
          go_end0
          exact FIN.out 2
end Go.Proofs.YtmoklddfaocihaaDoor
