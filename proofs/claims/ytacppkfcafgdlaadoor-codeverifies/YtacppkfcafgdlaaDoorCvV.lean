import Derived.Test.YtacppkfcafgdlaaDoorCvU
namespace Go.Proofs.YtacppkfcafgdlaaDoor
open Go.RowKit

theorem KI.kl {w : World} {v : Value} {l : List Bool} (h : KI w v l) : KL w.heap.size w v l := by
  obtain ⟨ao, cap, h1, h2, h3⟩ := h
  by_cases e : 0 < l.length
  · obtain ⟨b, cs, e1, e2, e3⟩ := h3 e
    exact ⟨ao, cap, b, 0, h1, h2, fun _ => ⟨e1, block_lt e2⟩, fun j x hx => by rw [Nat.zero_add]; exact (block_cell e2 j).trans (e3 j x hx)⟩
  · refine ⟨ao, cap, 0, 0, h1, h2, fun x => absurd x e, fun j x hx => ?_⟩
    have := (List.getElem?_eq_some_iff.1 hx).1
    omega
/-- What the reference's Shape answers. -/
def ShR (W : World) (r : Except (Int × Int) (List Bool × Bool)) (e : Ending) (w' : World) : Prop := match r with
  | .ok (l, b) => ∃ v, e = .returned (.tuple #[v, .bool b, .agg #[.slice none 0 0, .int .i64 0]]) ∧ Hid (KL w'.heap.size w' v l ∧ Below W.heap.size W w')
  | .error (a, y) => ∃ ao cap, e = .returned (.tuple #[.slice none 0 0, .bool false, .agg #[.slice ao 1 cap, .int .i64 y]]) ∧ Hid (∃ b off, FV w'.heap.size w' ao [⟨⟨#[99, 111, 100, 101]⟩, a⟩] b off ∧ Below W.heap.size W w')
theorem ver_kb {p : Pv} {k : Kn} (hk : verF p = .ok k) : KB k := by
  rw [verF_stat] at hk
  cases e : statF p with
  | some y => rw [e] at hk; cases hk
  | none => rw [e] at hk; exact goF_kb hk
set_option maxRecDepth 10000 in
set_option maxHeartbeats 6400000 in
theorem shapeR {W : World} {g : Pg} {p : Pv} (h : g.Ok p W.heap.size W) (at_ : Int) : Calls Tryd.prog 9 #[.agg (g.cs p).toArray, .int .i64 at_] W (ShR W (shF p at_)) := by
  obtain ⟨W2, hW2⟩ : ∃ W2, (W.alloc (.cells (g.cs p).toArray 27)).alloc (.cells #[.slice none 0 0, .int .i64 0] 35) = W2 := ⟨_, rfl⟩
  have HS := hide (fm_new h hW2)
  have HW2 := hide hW2
  have HF := hide (verifiedR (HS.out.ok.wide HS.out.bel.size))
  have hli := h.li
  have HCS : Hid (g.cs p = [.slice g.ca p.nc g.cc, .slice g.sa p.ns g.sc, .int .i64 (p.en 0), .int .i64 (p.en 1), .int .i64 (p.en 2), .int .i64 (p.en 3), .int .i64 (p.en 4), .int .i64 (p.en 5), .slice g.ia p.n g.ic]) := rfl
  rw [HCS.out] at HW2 HF ⊢
  obtain ⟨r, hr⟩ : ∃ r, shF p at_ = r := ⟨_, rfl⟩
  rw [hr]
  have HR := hide hr
  clear h hW2 hr
  obtain ⟨y0, y1, y2, y3, y4, y5, y6, y7, y8⟩ := HS.out.cells
  have yl := block_lt HS.out.prg
  go_enter Tryd.func9, Tryd.ntmps9
  go_upto_region 1 with fail
  rw [HW2.out]
  clear HW2
  go_wp2_with fail
  refine HF.out.mono ?_
  intro e w3 hh
  clear y0 y1 y2 y3 y4 y5 y6 y7 y8 yl
  cases hv : verF p with
  | error z =>
    obtain ⟨a, y⟩ := z
    have hr : r = .error (a, y) := by rw [← HR.out]; unfold shF; rw [hv]
    subst hr
    rw [hv] at hh
    obtain ⟨q, ao, cap, rfl, hne, G⟩ := hh
    obtain ⟨b, off, hf, hb⟩ := G.out
    obtain ⟨w4, hw4⟩ : ∃ w4, w3.alloc (.cells #[.slice ao 1 cap, .int .i64 y] 35) = w4 := ⟨_, rfl⟩
    have B4 : Below w3.heap.size w3 w4 := by rw [← hw4]; exact below_alloc1 _ _
    have A4 : w4.heap[w3.heap.size]? = some (.cells #[.slice ao 1 cap, .int .i64 y] 35 (0, 0)) := by rw [← hw4]; exact alloc_atK _ _
    have HS4 := hide ((HS.out.next hb).next B4)
    have HF4 := hide (hf.next B4)
    have t0 := block_cell A4 0
    have t1 := block_cell A4 1
    have tl := block_lt A4
    simp at t0 t1
    have HA4 := hide A4
    have HW4 := hide hw4
    clear hw4 G A4 B4 HF HS hf hb hv
    go_upto_region 2 with fail
    rw [HW4.out]
    clear HW4
    go_wp2_with fail
    refine (anyYes ao 1 cap y hne w4).mono ?_
    rintro e w5 ⟨rfl, G5⟩
    have A5 := (G5.out.block _ (block_lt HA4.out)).trans HA4.out
    have u0 := block_cell A5 0
    have u1 := block_cell A5 1
    have ul := block_lt A5
    simp at u0 u1
    have HS3 := hide (HS4.out.next G5.out)
    have z0 := block_cell HS3.out.res 0
    have z1 := block_cell HS3.out.res 1
    have f0 := block_free HS3.out.res 0
    have f1 := block_free HS3.out.res 1
    have zl := block_lt HS3.out.res
    simp at z0 z1
    have HD : Hid (FV ((w5.setCell ⟨W.heap.size + 1, 0, none⟩ (.slice ao 1 cap)).setCell ⟨W.heap.size + 1, 1, none⟩ (.int .i64 y)).drew.heap.size ((w5.setCell ⟨W.heap.size + 1, 0, none⟩ (.slice ao 1 cap)).setCell ⟨W.heap.size + 1, 1, none⟩ (.int .i64 y)).drew ao [⟨⟨#[99, 111, 100, 101]⟩, a⟩] b off ∧ Below W.heap.size W ((w5.setCell ⟨W.heap.size + 1, 0, none⟩ (.slice ao 1 cap)).setCell ⟨W.heap.size + 1, 1, none⟩ (.int .i64 y)).drew) := by
      have h1 := rf_end HS3.out.res (by simp) HS3.out.bel (HF4.out.next G5.out) cap y
      exact ⟨h1.1.next (Below.refl _ _).drew, h1.2.drew⟩
    clear A5 t0 t1 tl HS4 HS3 HF4 HA4 G5
    go_upto_region 3 with fail
    go_region
    go_wp2
    refine bodyPost_ret (v := .tuple #[.slice none 0 0, .bool false, .agg #[.slice ao 1 cap, .int .i64 y]]) (by simp [results, Tryd.results9, go_sem, z0, z1]) rfl ?_
    exact ⟨ao, cap, rfl, b, off, HD.out⟩
  | ok k =>
    rw [hv] at hh
    obtain ⟨q, rfl, G⟩ := hh
    obtain ⟨w4, hw4⟩ : ∃ w4, w3.alloc (.cells #[.slice none 0 0, .int .i64 0] 35) = w4 := ⟨_, rfl⟩
    have B4 : Below w3.heap.size w3 w4 := by rw [← hw4]; exact below_alloc1 _ _
    have A4 : w4.heap[w3.heap.size]? = some (.cells #[.slice none 0 0, .int .i64 0] 35 (0, 0)) := by rw [← hw4]; exact alloc_atK _ _
    have HS4 := hide ((HS.out.next G.out.2).next B4)
    have HR4 : Hid (0 < p.n → ∃ ba bs ca cc, RW W.heap.size w4 q ba bs ca cc g p k) := fun h0 => by
      obtain ⟨ba, bs, ca, cc, hrw⟩ := G.out.1 h0
      exact ⟨ba, bs, ca, cc, (hrw.kept B4).low HS.out.bel.size HS4.out.ok⟩
    have t0 := block_cell A4 0
    have t1 := block_cell A4 1
    have tl := block_lt A4
    simp at t0 t1
    have HW4 := hide hw4
    have HVK := hide hv
    clear hw4 G A4 B4 HF HS hv
    go_upto_region 2 with fail
    rw [HW4.out]
    clear HW4
    go_wp2_with fail
    refine (anyNo w4).mono ?_
    rintro e w5 ⟨rfl, G5⟩
    have HS3 := hide (HS4.out.next G5.out)
    obtain ⟨_, _, _, _, _, _, _, _, y8⟩ := HS3.out.cells
    have yl := block_lt HS3.out.prg
    clear t0 t1 tl
    cases hp : isPl at_ p.n
    · have hr : r = .error (at_, 84) := by rw [← HR.out]; unfold shF; rw [HVK.out]; simp [hp]
      subst hr
      have hcond : at_ < 0 ∨ (p.n : Int) ≤ at_ := by simp [isPl] at hp; omega
      clear hp
      by_cases hneg : at_ < 0
      · have d1 : decide (at_ < 0) = true := decide_eq_true hneg
        clear hcond hneg
        go_wp2_with fail
        refine (refuseR _ _ _).mono ?_
        rintro e w6 ⟨ao, cap, rfl, G⟩
        obtain ⟨b, off, hf, hb⟩ := G.out
        have HS3 := hide (HS3.out.next hb)
        have z0 := block_cell HS3.out.res 0
        have z1 := block_cell HS3.out.res 1
        have f0 := block_free HS3.out.res 0
        have f1 := block_free HS3.out.res 1
        have zl := block_lt HS3.out.res
        simp at z0 z1
        have HD := hide (rf_end HS3.out.res (by simp) HS3.out.bel hf cap 84)
        clear HS3 G hf hb
        go_wp2
        refine bodyPost_ret (v := .tuple #[.slice none 0 0, .bool false, .agg #[.slice ao 1 cap, .int .i64 84]]) (by simp [results, Tryd.results9, go_sem, z0, z1]) rfl ?_
        exact ⟨ao, cap, rfl, b, off, HD.out⟩
      · have d1 : decide (at_ < 0) = false := decide_eq_false hneg
        have d2 : decide ((p.n : Int) ≤ at_) = true := decide_eq_true (by omega)
        clear hcond hneg
        go_wp2_with fail
        refine (refuseR _ _ _).mono ?_
        rintro e w6 ⟨ao, cap, rfl, G⟩
        obtain ⟨b, off, hf, hb⟩ := G.out
        have HS3 := hide (HS3.out.next hb)
        have z0 := block_cell HS3.out.res 0
        have z1 := block_cell HS3.out.res 1
        have f0 := block_free HS3.out.res 0
        have f1 := block_free HS3.out.res 1
        have zl := block_lt HS3.out.res
        simp at z0 z1
        have HD := hide (rf_end HS3.out.res (by simp) HS3.out.bel hf cap 84)
        clear HS3 G hf hb
        go_wp2
        refine bodyPost_ret (v := .tuple #[.slice none 0 0, .bool false, .agg #[.slice ao 1 cap, .int .i64 84]]) (by simp [results, Tryd.results9, go_sem, z0, z1]) rfl ?_
        exact ⟨ao, cap, rfl, b, off, HD.out⟩
    · obtain ⟨t, ht, htn⟩ : ∃ t : Nat, at_ = (t : Int) ∧ t < p.n := ⟨_, (isPl_nat hp).1, (isPl_nat hp).2⟩
      have hr : r = .ok (kin (k t), (k t).isSome) := by rw [← HR.out]; unfold shF; rw [HVK.out]; simp only [hp, if_true]; rw [ht]; simp
      subst ht
      have hlen := ver_kb HVK.out t
      obtain ⟨ba, bs, ca, cc, hrw4⟩ := HR4.out (by omega)
      have HRW := hide (hrw4.kept G5.out)
      obtain ⟨q0, q1, ql, a0, af, al, bl, sv, b0, hki⟩ := HRW.out.at_ t htn
      have HKI := hide hki
      have hca := HRW.out.hca
      have hcc := HRW.out.hcc
      subst hr
      generalize kin (k t) = l at *
      generalize (k t).isSome = kb at *
      have HCP := hide (copyR (HKI.out.below (w' := w5.drew) (Below.refl _ _).drew) (by omega))
      have HS0 : Hid ((fun (w : World) => w.cell? ⟨q, 0, none⟩ = some (.slice (some ⟨ba, 0, none⟩) p.n ca) ∧ w.cell? ⟨q, 1, none⟩ = some (.slice (some ⟨bs, 0, none⟩) p.n cc) ∧ q < w.heap.size ∧ w.cell? ⟨ba, t, none⟩ = some (.bool kb) ∧ ba < w.heap.size ∧ w.cell? ⟨bs, t, none⟩ = some sv ∧ bs < w.heap.size) w5.drew) := ⟨q0, q1, ql, a0, al, b0, bl⟩
      have HS5 : Hid (∀ w, Below w5.drew.heap.size w5.drew w → (fun (w : World) => w.cell? ⟨q, 0, none⟩ = some (.slice (some ⟨ba, 0, none⟩) p.n ca) ∧ w.cell? ⟨q, 1, none⟩ = some (.slice (some ⟨bs, 0, none⟩) p.n cc) ∧ q < w.heap.size ∧ w.cell? ⟨ba, t, none⟩ = some (.bool kb) ∧ ba < w.heap.size ∧ w.cell? ⟨bs, t, none⟩ = some sv ∧ bs < w.heap.size) w) := fun w hb => by
        have hx := (HS0.out)
        have c : ∀ {b : Nat} {o : Nat} {x : Value}, b < w5.heap.size → w5.drew.cell? ⟨b, o, none⟩ = some x → w.cell? ⟨b, o, none⟩ = some x := fun hlt e => (hb.cell (p := ⟨_, _, none⟩) hlt).trans e
        have sz : w5.heap.size ≤ w.heap.size := hb.size
        exact ⟨c ql q0, c ql q1, by omega, c al a0, by omega, c bl b0, by omega⟩
      have HZ : Hid (∀ w, Below w5.drew.heap.size w5.drew w → w.cell? ⟨W.heap.size + 1, 0, none⟩ = some (.slice none 0 0) ∧ w.cell? ⟨W.heap.size + 1, 1, none⟩ = some (.int .i64 0) ∧ w.frozen? ⟨W.heap.size + 1, 0, none⟩ = false ∧ w.frozen? ⟨W.heap.size + 1, 1, none⟩ = false ∧ W.heap.size + 1 < w.heap.size) := fun w hb => by
        have := ((HS3.out.next (Below.refl _ _).drew).next hb).res
        exact ⟨block_cell this 0, block_cell this 1, block_free this 0, block_free this 1, block_lt this⟩
      have HE : Hid (∀ (w5' : World) (v : Value), w5'.ownsRow w5.drew.heap.size 3 1 v l.length (l.map iv) → Below w5.drew.heap.size w5.drew w5' → KL ((w5'.setCell ⟨W.heap.size + 1, 0, none⟩ (.slice none 0 0)).setCell ⟨W.heap.size + 1, 1, none⟩ (.int .i64 0)).heap.size ((w5'.setCell ⟨W.heap.size + 1, 0, none⟩ (.slice none 0 0)).setCell ⟨W.heap.size + 1, 1, none⟩ (.int .i64 0)) v l ∧ Below W.heap.size W ((w5'.setCell ⟨W.heap.size + 1, 0, none⟩ (.slice none 0 0)).setCell ⟨W.heap.size + 1, 1, none⟩ (.int .i64 0))) := fun w5' v ho hb => by
        have hm := (HS3.out.next (Below.refl _ _).drew).next hb
        have gg := grown_tr (grown_set w5' (W.heap.size + 1) 0 (.slice none 0 0)) (grown_set (w5'.setCell ⟨W.heap.size + 1, 0, none⟩ (.slice none 0 0)) (W.heap.size + 1) 1 (.int .i64 0))
        refine ⟨((KI.own ho).kept (fun b cs e => gg.block b (block_lt e) (fun x => ?_))).kl, (hm.bel.setCell (p := ⟨W.heap.size + 1, 0, none⟩) (by simp) _).setCell (p := ⟨W.heap.size + 1, 1, none⟩) (by simp) _⟩
        cases x
        rw [hm.res] at e
        simp at e
      have HNE : Hid (q ≠ W.heap.size + 1 ∧ ba ≠ W.heap.size + 1 ∧ bs ≠ W.heap.size + 1) := by
        have hres := HS3.out.res
        obtain ⟨c1, a1, _⟩ := HRW.out.rowA
        obtain ⟨c2, b1, _⟩ := HRW.out.rowB
        have bk := HRW.out.blk
        refine ⟨fun e => ?_, fun e => ?_, fun e => ?_⟩
        · rw [e, hres] at bk; simp at bk
        · rw [e, hres] at a1; simp at a1
        · rw [e, hres] at b1; simp at b1
      have HS6 : Hid (∀ w : World, (fun (w : World) => w.cell? ⟨q, 0, none⟩ = some (.slice (some ⟨ba, 0, none⟩) p.n ca) ∧ w.cell? ⟨q, 1, none⟩ = some (.slice (some ⟨bs, 0, none⟩) p.n cc) ∧ q < w.heap.size ∧ w.cell? ⟨ba, t, none⟩ = some (.bool kb) ∧ ba < w.heap.size ∧ w.cell? ⟨bs, t, none⟩ = some sv ∧ bs < w.heap.size) w → (fun (w : World) => w.cell? ⟨q, 0, none⟩ = some (.slice (some ⟨ba, 0, none⟩) p.n ca) ∧ w.cell? ⟨q, 1, none⟩ = some (.slice (some ⟨bs, 0, none⟩) p.n cc) ∧ q < w.heap.size ∧ w.cell? ⟨ba, t, none⟩ = some (.bool kb) ∧ ba < w.heap.size ∧ w.cell? ⟨bs, t, none⟩ = some sv ∧ bs < w.heap.size) ((w.setCell ⟨W.heap.size + 1, 0, none⟩ (.slice none 0 0)).setCell ⟨W.heap.size + 1, 1, none⟩ (.int .i64 0))) := fun w hh => by
        obtain ⟨n1, n2, n3⟩ := HNE.out
        obtain ⟨c0, c1, cl, c2, c3, c4, c5⟩ := hh
        have far : ∀ {b o : Nat} {x : Value}, b ≠ W.heap.size + 1 → w.cell? ⟨b, o, none⟩ = some x → ((w.setCell ⟨W.heap.size + 1, 0, none⟩ (.slice none 0 0)).setCell ⟨W.heap.size + 1, 1, none⟩ (.int .i64 0)).cell? ⟨b, o, none⟩ = some x := fun hne e => by
          rw [World.cell?_setCell_far _ _ _ _ (fun x => hne x.symm), World.cell?_setCell_far _ _ _ _ (fun x => hne x.symm)]; exact e
        exact ⟨far n1 c0, far n1 c1, by simpa using cl, far n2 c2, by simpa using c3, far n3 c4, by simpa using c5⟩
      have d1 : decide (((t : Nat) : Int) < 0) = false := decide_eq_false (by omega)
      have d2 : decide ((p.n : Int) ≤ (t : Int)) = false := decide_eq_false (by omega)
      clear hp hki HKI hrw4 HR4 HS4 G5 HVK HR hlen q0 q1 ql a0 af al bl b0 HRW
      go_upto_region 6 with fail
      clear d1 d2 y8
      refine wp_region_held_drew (S := fun (w : World) => w.cell? ⟨q, 0, none⟩ = some (.slice (some ⟨ba, 0, none⟩) p.n ca) ∧ w.cell? ⟨q, 1, none⟩ = some (.slice (some ⟨bs, 0, none⟩) p.n cc) ∧ q < w.heap.size ∧ w.cell? ⟨ba, t, none⟩ = some (.bool kb) ∧ ba < w.heap.size ∧ w.cell? ⟨bs, t, none⟩ = some sv ∧ bs < w.heap.size) (by kernel_rfl) HS0.out (fun hH => ?_)
      refine wpAnyH_take (i := 0) (oi := { dst := some 28, op := Op.move (Operand.tmp 7), type := 54, pos := "verify.go:246", after := #[], guard := none }) (v := .pointer (some ⟨q, 0, none⟩)) rfl (by kernel_rfl) (by kernel_rfl) (by kernel_rfl) (fun _ _ _ h => h) (Or.inl ⟨by rfl, fun w' hSw => ?_⟩) hH ?_
      · go_simp
      simp only [Act.put, List.setIfInBounds_toArray, List.set_cons_zero, List.set_cons_succ]
      refine wpAnyH_take (i := 1) (oi := { dst := some 29, op := Op.nilCheck (Operand.tmp 28), type := 0, pos := "verify.go:246", after := #[{ on := 0, ground := Ground.data }], guard := none }) (v := .pointer (some ⟨q, 0, none⟩)) rfl (by kernel_rfl) (by kernel_rfl) (by kernel_rfl) (fun _ _ _ h => h) (Or.inl ⟨by rfl, fun w' hSw => ?_⟩) hH ?_
      · go_simp
      simp only [Act.put, List.setIfInBounds_toArray, List.set_cons_zero, List.set_cons_succ]
      refine wpAnyH_take (i := 2) (oi := { dst := some 30, op := Op.fieldAddr 63 (Operand.tmp 29) 1, type := 0, pos := "verify.go:246", after := #[{ on := 1, ground := Ground.data }], guard := none }) (v := .pointer (some ⟨q, 1, none⟩)) rfl (by kernel_rfl) (by kernel_rfl) (by kernel_rfl) (fun _ _ _ h => h) (Or.inl ⟨by rfl, fun w' hSw => ?_⟩) hH ?_
      · go_simp
      simp only [Act.put, List.setIfInBounds_toArray, List.set_cons_zero, List.set_cons_succ]
      refine wpAnyH_take (i := 3) (oi := { dst := some 31, op := Op.load 61 (Operand.tmp 30), type := 61, pos := "verify.go:246", after := #[{ on := 2, ground := Ground.data }], guard := none }) (v := .slice (some ⟨bs, 0, none⟩) p.n cc) rfl (by kernel_rfl) (by kernel_rfl) (by kernel_rfl) (fun _ _ _ h => h) (Or.inl ⟨by rfl, fun w' hSw => ?_⟩) hH ?_
      · obtain ⟨c0, c1, cl, c2, c3, c4, c5⟩ := hSw
        go_simp
      simp only [Act.put, List.setIfInBounds_toArray, List.set_cons_zero, List.set_cons_succ]
      refine wpAnyH_take (i := 4) (oi := { dst := some 32, op := Op.move (Operand.tmp 1), type := 3, pos := "verify.go:246", after := #[], guard := none }) (v := .int .i64 (t : Nat)) rfl (by kernel_rfl) (by kernel_rfl) (by kernel_rfl) (fun _ _ _ h => h) (Or.inl ⟨by rfl, fun w' hSw => ?_⟩) hH ?_
      · go_simp
      simp only [Act.put, List.setIfInBounds_toArray, List.set_cons_zero, List.set_cons_succ]
      refine wpAnyH_take (i := 5) (oi := { dst := some 33, op := Op.indexAddr 61 (Operand.tmp 31) (Operand.tmp 32), type := 0, pos := "verify.go:246", after := #[{ on := 3, ground := Ground.data }, { on := 4, ground := Ground.data }], guard := none }) (v := .pointer (some ⟨bs, t, none⟩)) rfl (by kernel_rfl) (by kernel_rfl) (by kernel_rfl) (fun _ _ _ h => h) (Or.inl ⟨by rfl, fun w' hSw => ?_⟩) hH ?_
      · go_simp
      simp only [Act.put, List.setIfInBounds_toArray, List.set_cons_zero, List.set_cons_succ]
      refine wpAnyH_take (i := 6) (oi := { dst := some 34, op := Op.load 23 (Operand.tmp 33), type := 23, pos := "verify.go:246", after := #[{ on := 5, ground := Ground.data }], guard := none }) (v := sv) rfl (by kernel_rfl) (by kernel_rfl) (by kernel_rfl) (fun _ _ _ h => h) (Or.inl ⟨by rfl, fun w' hSw => ?_⟩) hH ?_
      · obtain ⟨c0, c1, cl, c2, c3, c4, c5⟩ := hSw
        go_simp
      simp only [Act.put, List.setIfInBounds_toArray, List.set_cons_zero, List.set_cons_succ]
      refine wpAnyH_take (i := 8) (oi := { dst := some 36, op := Op.move (Operand.tmp 7), type := 54, pos := "verify.go:246", after := #[{ on := 16, ground := Ground.gcOnly Departure.lateStores }], guard := none }) (v := .pointer (some ⟨q, 0, none⟩)) rfl (by kernel_rfl) (by kernel_rfl) (by kernel_rfl) (fun _ _ _ h => h) (Or.inl ⟨by rfl, fun w' hSw => ?_⟩) hH ?_
      · go_simp
      simp only [Act.put, List.setIfInBounds_toArray, List.set_cons_zero, List.set_cons_succ]
      refine wpAnyH_take (i := 9) (oi := { dst := some 37, op := Op.nilCheck (Operand.tmp 36), type := 0, pos := "verify.go:246", after := #[{ on := 8, ground := Ground.data }, { on := 16, ground := Ground.gcOnly Departure.lateStores }], guard := none }) (v := .pointer (some ⟨q, 0, none⟩)) rfl (by kernel_rfl) (by kernel_rfl) (by kernel_rfl) (fun _ _ _ h => h) (Or.inl ⟨by rfl, fun w' hSw => ?_⟩) hH ?_
      · go_simp
      simp only [Act.put, List.setIfInBounds_toArray, List.set_cons_zero, List.set_cons_succ]
      refine wpAnyH_take (i := 10) (oi := { dst := some 38, op := Op.fieldAddr 63 (Operand.tmp 37) 0, type := 0, pos := "verify.go:246", after := #[{ on := 9, ground := Ground.data }, { on := 16, ground := Ground.gcOnly Departure.lateStores }], guard := none }) (v := .pointer (some ⟨q, 0, none⟩)) rfl (by kernel_rfl) (by kernel_rfl) (by kernel_rfl) (fun _ _ _ h => h) (Or.inl ⟨by rfl, fun w' hSw => ?_⟩) hH ?_
      · go_simp
      simp only [Act.put, List.setIfInBounds_toArray, List.set_cons_zero, List.set_cons_succ]
      refine wpAnyH_take (i := 11) (oi := { dst := some 39, op := Op.load 60 (Operand.tmp 38), type := 60, pos := "verify.go:246", after := #[{ on := 10, ground := Ground.data }, { on := 16, ground := Ground.gcOnly Departure.lateStores }], guard := none }) (v := .slice (some ⟨ba, 0, none⟩) p.n ca) rfl (by kernel_rfl) (by kernel_rfl) (by kernel_rfl) (fun _ _ _ h => h) (Or.inl ⟨by rfl, fun w' hSw => ?_⟩) hH ?_
      · obtain ⟨c0, c1, cl, c2, c3, c4, c5⟩ := hSw
        go_simp
      simp only [Act.put, List.setIfInBounds_toArray, List.set_cons_zero, List.set_cons_succ]
      refine wpAnyH_take (i := 12) (oi := { dst := some 40, op := Op.move (Operand.tmp 1), type := 3, pos := "verify.go:246", after := #[{ on := 16, ground := Ground.gcOnly Departure.lateStores }], guard := none }) (v := .int .i64 (t : Nat)) rfl (by kernel_rfl) (by kernel_rfl) (by kernel_rfl) (fun _ _ _ h => h) (Or.inl ⟨by rfl, fun w' hSw => ?_⟩) hH ?_
      · go_simp
      simp only [Act.put, List.setIfInBounds_toArray, List.set_cons_zero, List.set_cons_succ]
      refine wpAnyH_take (i := 13) (oi := { dst := some 41, op := Op.indexAddr 60 (Operand.tmp 39) (Operand.tmp 40), type := 0, pos := "verify.go:246", after := #[{ on := 11, ground := Ground.data }, { on := 12, ground := Ground.data }, { on := 16, ground := Ground.gcOnly Departure.lateStores }], guard := none }) (v := .pointer (some ⟨ba, t, none⟩)) rfl (by kernel_rfl) (by kernel_rfl) (by kernel_rfl) (fun _ _ _ h => h) (Or.inl ⟨by rfl, fun w' hSw => ?_⟩) hH ?_
      · go_simp
      simp only [Act.put, List.setIfInBounds_toArray, List.set_cons_zero, List.set_cons_succ]
      refine wpAnyH_take (i := 14) (oi := { dst := some 42, op := Op.load 4 (Operand.tmp 41), type := 4, pos := "verify.go:246", after := #[{ on := 13, ground := Ground.data }, { on := 16, ground := Ground.gcOnly Departure.lateStores }], guard := none }) (v := .bool kb) rfl (by kernel_rfl) (by kernel_rfl) (by kernel_rfl) (fun _ _ _ h => h) (Or.inl ⟨by rfl, fun w' hSw => ?_⟩) hH ?_
      · obtain ⟨c0, c1, cl, c2, c3, c4, c5⟩ := hSw
        go_simp
      simp only [Act.put, List.setIfInBounds_toArray, List.set_cons_zero, List.set_cons_succ]
      refine wpAnyH_take (i := 15) (oi := { dst := some 43, op := Op.build 35 #[], type := 35, pos := "verify.go:246", after := #[{ on := 17, ground := Ground.gcOnly Departure.lateStores }], guard := none }) (v := .agg #[.slice none 0 0, .int .i64 0]) rfl (by kernel_rfl) (by kernel_rfl) (by kernel_rfl) (fun _ _ _ h => h) (Or.inl ⟨by rfl, fun w' hSw => ?_⟩) hH ?_
      · go_simp
      simp only [Act.put, List.setIfInBounds_toArray, List.set_cons_zero, List.set_cons_succ]
      refine wpAnyH_ready (rs := [7]) (by kernel_rfl) (by simp) ?_
      refine AllReadyH.cons rfl (fun K hK => ?_) AllReadyH.nil
      go_simp
      go_wp2_with fail
      refine (HCP.out).mono ?_
      rintro e w6 ⟨v5, rfl, G5⟩
      go_wp2_with fail
      refine hK.out _ _ (HS5.out _ G5.out.2) (fun hG5 => ?_)
      clear hK K
      refine wpAnyH_take (i := 16) (oi := { dst := some 4, op := Op.assign (Operand.tmp 35), type := 23, pos := "verify.go:246", after := #[{ on := 7, ground := Ground.data }, { on := 7, ground := Ground.chain }, { on := 0, ground := Ground.phase }, { on := 1, ground := Ground.phase }, { on := 2, ground := Ground.phase }, { on := 3, ground := Ground.phase }, { on := 4, ground := Ground.phase }, { on := 5, ground := Ground.phase }, { on := 6, ground := Ground.phase }, { on := 7, ground := Ground.phase }, { on := 8, ground := Ground.textOnly Departure.lateStores }, { on := 9, ground := Ground.textOnly Departure.lateStores }, { on := 10, ground := Ground.textOnly Departure.lateStores }, { on := 11, ground := Ground.textOnly Departure.lateStores }, { on := 12, ground := Ground.textOnly Departure.lateStores }, { on := 13, ground := Ground.textOnly Departure.lateStores }, { on := 14, ground := Ground.textOnly Departure.lateStores }, { on := 15, ground := Ground.textOnly Departure.lateStores }], guard := none }) (v := v5) rfl (by kernel_rfl) (by kernel_rfl) (by kernel_rfl) (fun _ _ _ h => h) (Or.inl ⟨by rfl, fun w' hSw => ?_⟩) hG5 ?_
      · go_simp
      simp only [Act.put, List.setIfInBounds_toArray, List.set_cons_zero, List.set_cons_succ]
      refine wpAnyH_take (i := 17) (oi := { dst := some 5, op := Op.assign (Operand.tmp 42), type := 4, pos := "verify.go:246", after := #[{ on := 14, ground := Ground.data }, { on := 16, ground := Ground.chain }, { on := 0, ground := Ground.phase }, { on := 1, ground := Ground.phase }, { on := 2, ground := Ground.phase }, { on := 3, ground := Ground.phase }, { on := 4, ground := Ground.phase }, { on := 5, ground := Ground.phase }, { on := 6, ground := Ground.phase }, { on := 7, ground := Ground.phase }, { on := 8, ground := Ground.phase }, { on := 9, ground := Ground.phase }, { on := 10, ground := Ground.phase }, { on := 11, ground := Ground.phase }, { on := 12, ground := Ground.phase }, { on := 13, ground := Ground.phase }, { on := 14, ground := Ground.phase }, { on := 15, ground := Ground.textOnly Departure.lateStores }, { on := 16, ground := Ground.phase }], guard := none }) (v := .bool kb) rfl (by kernel_rfl) (by kernel_rfl) (by kernel_rfl) (fun _ _ _ h => h) (Or.inl ⟨by rfl, fun w' hSw => ?_⟩) hG5 ?_
      · go_simp
      simp only [Act.put, List.setIfInBounds_toArray, List.set_cons_zero, List.set_cons_succ]
      obtain ⟨z0, z1, f0, f1, zl⟩ := HZ.out _ G5.out.2
      have HEND := hide (HE.out _ _ G5.out.1 G5.out.2)
      refine wpAnyH_ready (rs := [18]) (by kernel_rfl) (by simp) ?_
      refine AllReadyH.cons rfl (fun K hK => ?_) AllReadyH.nil
      go_simp
      go_wp2_with fail
      refine hK.out _ _ (HS6.out _ hG5) (fun hG6 => ?_)
      clear hK K
      refine wpAnyH_done (by kernel_rfl) ?_ _
      go_wp2
      refine bodyPost_ret (v := .tuple #[v5, .bool kb, .agg #[.slice none 0 0, .int .i64 0]]) (by simp [results, Tryd.results9, go_sem, z0, z1]) rfl ?_
      exact ⟨v5, rfl, HEND⟩
end Go.Proofs.YtacppkfcafgdlaaDoor
