import Derived.Test.YtmoklddfaocihaaDoorMH
namespace Go.Proofs.YtmoklddfaocihaaDoor
open Go.RowKit

set_option maxRecDepth 10000 in
set_option maxHeartbeats 3200000 in
/-- The reference's walk of a program without instructions. -/
theorem walk0 {W : World} {g : Pg} {p : Pv} (hw : Wf p) (h0 : p.n = 0) : Calls Tryd.prog 58 #[.agg (g.cs p).toArray] W fun e w' => ∃ q, e = .returned (.tuple #[.pointer (some ⟨q, 0, none⟩), .agg #[.slice none 0 0, .int .i64 0]]) ∧ Hid (w'.heap[q]? = some (.cells #[.slice none 0 0, .slice none 0 0] 118 (0, 0)) ∧ Below W.heap.size W w') := by
  obtain ⟨W3, hW3⟩ : ∃ W3, ((W.alloc (.cells (g.cs p).toArray 27)).alloc (.cells #[.slice none 0 0, .int .i64 0] 30)).alloc (.cells #[.slice none 0 0, .slice none 0 0] 118) = W3 := ⟨_, rfl⟩
  have HL0 := hide (l1_new hW3)
  have HW3 := hide hW3
  have HCS : Hid (g.cs p = [.slice g.ca p.nc g.cc, .slice g.sa p.ns g.sc, .int .i64 (p.en 0), .int .i64 (p.en 1), .int .i64 (p.en 2), .int .i64 (p.en 3), .int .i64 (p.en 4), .int .i64 (p.en 5), .slice g.ia p.n g.ic]) := rfl
  rw [HCS.out] at HW3 ⊢
  have HEN : Hid (∀ e, e < 6 → p.en e = -1) := fun e he => by
    rcases hw.en e he with q | q
    · exact q
    · have := (isPl_nat q).2
      omega
  have HN0 := hide h0
  clear hW3 hw h0
  go_enter Tryd.func58, Tryd.ntmps58
  go_upto_region 2 with fail
  rw [HW3.out]
  clear HW3
  generalize hq : W.heap.size + 1 + 1 = q at *
  generalize hrb : W.heap.size + 1 = rb at *
  have HQL : Hid (W.heap.size ≤ rb) := by show _ ≤ _; omega
  clear hrb hq
  go_upto_region 3 with fail
  go_loopw [5] (fun i wr => i = .int .i64 0 ∧ Hid (L1 W rb q g p 0 0 (.slice none 0 0) (.slice none 0 0) wr)) (fun _ _ => 0)
  case atStart => exact ⟨rfl, HL0.out⟩
  case round =>
    obtain ⟨rfl, HJ⟩ := hrel
    clear HL0
    have y8 := block_cell HJ.out.prg 8
    have yl := block_lt HJ.out.prg
    simp [Pg.cs] at y8
    rw [HN0.out] at y8
    go_upto_region 8 with fail
    clear y8 yl
    have HJ0 := hide HJ.out
    clear HJ
    go_loopw [6] (fun i wr => ∃ j : Nat, j ≤ 6 ∧ i = .int .i64 (j : Nat) ∧ Hid (L1 W rb q g p 0 0 (.slice none 0 0) (.slice none 0 0) wr)) (fun i _ => 6 - (intOf i).toNat)
    case atStart => exact ⟨0, by omega, rfl, HJ0.out⟩
    case round =>
      obtain ⟨j, hj, rfl, HJ⟩ := hrel
      clear HJ0
      by_cases hlt : j < 6
      · have e0 := (block_cell HJ.out.prg (2 + j)).trans (cs_en g p hlt)
        have yl := block_lt HJ.out.prg
        rw [HEN.out j hlt] at e0
        have HK := hide HJ.out
        clear HJ
        go_wp2
        go_roundw
        case rel => exact ⟨j + 1, by omega, by go_num, HK.out⟩
        case measure => simp [intOf]; omega
      · obtain rfl : j = 6 := by omega
        go_upto_region 13 with fail
        have HJ0 := hide HJ.out
        clear HJ
        go_loopw [7] (fun i wr => i = .int .i64 0 ∧ Hid (L1 W rb q g p 0 0 (.slice none 0 0) (.slice none 0 0) wr)) (fun _ _ => 0)
        case atStart => exact ⟨rfl, HJ0.out⟩
        case round =>
          obtain ⟨rfl, HJ⟩ := hrel
          clear HJ0
          have y8 := block_cell HJ.out.prg 8
          have yl := block_lt HJ.out.prg
          simp [Pg.cs] at y8
          rw [HN0.out] at y8
          have z0 := block_cell HJ.out.res 0
          have z1 := block_cell HJ.out.res 1
          have f0 := block_free HJ.out.res 0
          have f1 := block_free HJ.out.res 1
          have zl := block_lt HJ.out.res
          simp at z0 z1
          have HD : Hid (((wr.setCell ⟨rb, 0, none⟩ (.slice none 0 0)).setCell ⟨rb, 1, none⟩ (.int .i64 0)).heap[q]? = some (.cells #[.slice none 0 0, .slice none 0 0] 118 (0, 0)) ∧ Below W.heap.size W ((wr.setCell ⟨rb, 0, none⟩ (.slice none 0 0)).setCell ⟨rb, 1, none⟩ (.int .i64 0))) := by
            refine ⟨?_, (HJ.out.bel.setCell (p := ⟨rb, 0, none⟩) HQL.out _).setCell (p := ⟨rb, 1, none⟩) HQL.out _⟩
            have hg := grown_tr (grown_set wr rb 0 (.slice none 0 0)) (grown_set (wr.setCell ⟨rb, 0, none⟩ (.slice none 0 0)) rb 1 (.int .i64 0))
            refine (hg.block _ (block_lt HJ.out.wlk) (fun x => ?_)).trans HJ.out.wlk
            cases x
            have h1 := HJ.out.wlk
            rw [HJ.out.res] at h1
            cases h1
          clear HJ
          go_wp2
          refine bodyPost_ret (v := .tuple #[.pointer (some ⟨q, 0, none⟩), .agg #[.slice none 0 0, .int .i64 0]]) (by simp [results, Tryd.results58, go_sem, z0, z1]) rfl ?_
          exact ⟨q, rfl, HD⟩
end Go.Proofs.YtmoklddfaocihaaDoor
namespace Go.Proofs.YtmoklddfaocihaaDoor
open Go.RowKit

theorem Kp.next {W W' : World} {ao : Option Addr} {kb ko n : Nat} {K : Nat → Bool} (h : Kp W ao kb ko n K) (hb : Below W.heap.size W W') : Kp W' ao kb ko n K :=
  ⟨fun e => ⟨(h.ad e).1, Nat.lt_of_lt_of_le (h.ad e).2 hb.size⟩, fun j hj => (hb.cell (p := ⟨kb, ko + j, none⟩) (h.ad (by omega)).2).trans (h.v j hj)⟩
/-- The walk of a good program, as reached wants it. -/
theorem walkOk {W : World} {g : Pg} {p : Pv} {k : Kn} (h : g.Ok p W.heap.size W) (hv : verF p = .ok k) : Calls Tryd.prog 58 #[.agg (g.cs p).toArray] W fun e w' => ∃ q ao kb cap, e = .returned (.tuple #[.pointer (some ⟨q, 0, none⟩), .agg #[.slice none 0 0, .int .i64 0]]) ∧ Hid (w'.cell? ⟨q, 0, none⟩ = some (.slice ao p.n cap) ∧ q < w'.heap.size ∧ Kp w' ao kb 0 p.n (kOf k) ∧ Below W.heap.size W w') := by
  have hst : statF p = none := (ver_wf hv).stat
  have hgo : goF p p.n = .ok k := by
    rw [verF_stat, hst] at hv
    exact hv
  by_cases h0 : p.n = 0
  · refine (walk0 (g := g) (Wf.of hst) h0).mono ?_
    rintro e w' ⟨q, rfl, G⟩
    refine ⟨q, none, 0, 0, rfl, ?_, block_lt G.out.1, ⟨fun x => by omega, fun j hj => by omega⟩, G.out.2⟩
    rw [h0]
    exact block_cell G.out.1 0
  · have hr := walkR h hst
    rw [hgo] at hr
    refine hr.mono ?_
    rintro e w' ⟨q, rfl, G⟩
    obtain ⟨ba, bs, ca, cc, hrw⟩ := G.out.1 (by omega)
    obtain ⟨cs, a1, a2⟩ := hrw.rowA
    refine ⟨q, some ⟨ba, 0, none⟩, ba, ca, rfl, block_cell hrw.blk 0, block_lt hrw.blk, ⟨fun _ => ⟨rfl, block_lt a1⟩, fun j hj => ?_⟩, G.out.2⟩
    rw [Nat.zero_add]
    exact (block_cell a1 j).trans (a2 j hj)
set_option maxRecDepth 10000 in
set_option maxHeartbeats 6400000 in
/-- The reference's reached. -/
theorem reachedR {W : World} {g : Pg} {p : Pv} {k : Kn} (h : g.Ok p W.heap.size W) (hv : verF p = .ok k) :
    Calls Tryd.prog 25 #[.agg (g.cs p).toArray] W fun e w' => ∃ g', e = .returned (.agg (g'.cs (cutF p (kOf k))).toArray) ∧ Hid (Po W.heap.size g' (cutF p (kOf k)) w' ∧ Below W.heap.size W w') := by
  have hwf : Wf p := ver_wf hv
  obtain ⟨W2, hW2⟩ : ∃ W2, (W.alloc (.cells (g.cs p).toArray 27)).alloc (.cells zP 27) = W2 := ⟨_, rfl⟩
  obtain ⟨p2, r2, B2⟩ := two_new hW2
  have HCS : Hid (∀ (g : Pg) (p : Pv), g.cs p = [.slice g.ca p.nc g.cc, .slice g.sa p.ns g.sc, .int .i64 (p.en 0), .int .i64 (p.en 1), .int .i64 (p.en 2), .int .i64 (p.en 3), .int .i64 (p.en 4), .int .i64 (p.en 5), .slice g.ia p.n g.ic]) := fun _ _ => rfl
  have HZ : Hid (zP = #[.slice none 0 0, .slice none 0 0, .int .i64 0, .int .i64 0, .int .i64 0, .int .i64 0, .int .i64 0, .int .i64 0, .slice none 0 0]) := rfl
  have HWK := hide (walkOk ((h.kept B2 (Nat.le_refl _)).wide B2.size) hv)
  have HCT : Hid (∀ (w : World) ao kb cap, Below W2.heap.size W2 w → Kp w ao kb 0 p.n (kOf k) → Calls Tryd.prog 27 #[.agg #[.slice g.ca p.nc g.cc, .slice g.sa p.ns g.sc, .int .i64 (p.en 0), .int .i64 (p.en 1), .int .i64 (p.en 2), .int .i64 (p.en 3), .int .i64 (p.en 4), .int .i64 (p.en 5), .slice g.ia p.n g.ic], .slice ao p.n cap] w fun e w' => ∃ g', e = .returned (.agg (g'.cs (cutF p (kOf k))).toArray) ∧ Hid (Po W.heap.size g' (cutF p (kOf k)) w' ∧ Below W.heap.size W w' ∧ w'.heap[W.heap.size + 1]? = some (.cells zP 27 (0, 0)))) := fun w ao kb cap hb hk => by
    have B3 := B2.trans (hb.mono B2.size)
    refine (cutR (cap := cap) ((h.kept B3 (Nat.le_refl _)).wide B3.size) hwf hk).mono ?_
    rintro e w' ⟨g', rfl, G⟩
    exact ⟨g', rfl, G.out.1.low B3.size, B3.trans (G.out.2.mono B3.size), (G.out.2.block _ (Nat.lt_of_lt_of_le (block_lt r2) hb.size)).trans ((hb.block _ (block_lt r2)).trans r2)⟩
  have y0 := block_cell p2 0
  have y1 := block_cell p2 1
  have y2 := block_cell p2 2
  have y3 := block_cell p2 3
  have y4 := block_cell p2 4
  have y5 := block_cell p2 5
  have y6 := block_cell p2 6
  have y7 := block_cell p2 7
  have y8 := block_cell p2 8
  have yl := block_lt p2
  simp [Pg.cs] at y0 y1 y2 y3 y4 y5 y6 y7 y8
  have HP2 := hide p2
  have HW2 := hide hW2
  rw [HCS.out g p, HZ.out] at HW2
  rw [HCS.out g p] at HWK ⊢
  clear h hv hwf hW2 p2 r2 B2
  obtain ⟨qq, hqq⟩ : ∃ qq, cutF p (kOf k) = qq := ⟨_, rfl⟩
  rw [hqq] at HCT ⊢
  clear hqq
  go_enter Tryd.func25, Tryd.ntmps25
  go_upto_region 1 with fail
  rw [HW2.out]
  clear HW2
  go_wp2_with fail
  refine HWK.out.mono ?_
  rintro e w3 ⟨q, ao, kb, cap, rfl, G3⟩
  clear HWK y0 y1 y2 y3 y4 y5 y6 y7 y8 yl
  obtain ⟨w4, hw4⟩ : ∃ w4, w3.alloc (.cells #[.slice none 0 0, .int .i64 0] 30) = w4 := ⟨_, rfl⟩
  have hb4 : Below w3.heap.size w3 w4 := by rw [← hw4]; exact below_alloc1 _ _
  have B4 := G3.out.2.2.2.trans (hb4.mono G3.out.2.2.2.size)
  have HCC := hide (HCT.out w4.drew ao kb cap B4.drew ((G3.out.2.2.1.next hb4).next (Below.refl _ _).drew))
  have p4 := (B4.block _ (block_lt HP2.out)).trans HP2.out
  have qc : w4.cell? ⟨q, 0, none⟩ = some (.slice ao p.n cap) := (hb4.cell (p := ⟨q, 0, none⟩) G3.out.2.1).trans G3.out.1
  have ql : q < w4.heap.size := Nat.lt_of_lt_of_le G3.out.2.1 hb4.size
  have y0 := block_cell p4 0
  have y1 := block_cell p4 1
  have y2 := block_cell p4 2
  have y3 := block_cell p4 3
  have y4 := block_cell p4 4
  have y5 := block_cell p4 5
  have y6 := block_cell p4 6
  have y7 := block_cell p4 7
  have y8 := block_cell p4 8
  have yl := block_lt p4
  simp [Pg.cs] at y0 y1 y2 y3 y4 y5 y6 y7 y8
  have HW4 := hide hw4
  clear hw4 hb4 B4 p4 G3 HP2 HCT
  go_upto_region 2 with fail
  rw [HW4.out]
  clear HW4
  go_region_with (go_at_call 27; refine HCC.out.mono ?_; rintro e w5 ⟨g', rfl, G5⟩; rw [HCS.out g' qq]; have r5 := G5.out.2.2; have t0 := block_cell r5 0; have t1 := block_cell r5 1; have t2 := block_cell r5 2; have t3 := block_cell r5 3; have t4 := block_cell r5 4; have t5 := block_cell r5 5; have t6 := block_cell r5 6; have t7 := block_cell r5 7; have t8 := block_cell r5 8; have f0 := block_free r5 0; have f1 := block_free r5 1; have f2 := block_free r5 2; have f3 := block_free r5 3; have f4 := block_free r5 4; have f5 := block_free r5 5; have f6 := block_free r5 6; have f7 := block_free r5 7; have f8 := block_free r5 8; have tl := block_lt r5; simp [zP] at t0 t1 t2 t3 t4 t5 t6 t7 t8; clear r5)
  all_goals
    clear y0 y1 y2 y3 y4 y5 y6 y7 y8 yl qc ql t0 t1 t2 t3 t4 t5 t6 t7 t8 f0 f1 f2 f3 f4 f5 f6 f7 f8 tl
    generalize hwf : World.setCell _ ⟨W.heap.size + 1, 8, none⟩ _ = wf
    have HX : Hid (wf.heap[W.heap.size + 1]? = some (.cells #[.slice g'.ca qq.nc g'.cc, .slice g'.sa qq.ns g'.sc, .int .i64 (qq.en 0), .int .i64 (qq.en 1), .int .i64 (qq.en 2), .int .i64 (qq.en 3), .int .i64 (qq.en 4), .int .i64 (qq.en 5), .slice g'.ia qq.n g'.ic] 27 (0, 0)) ∧ Po W.heap.size g' qq wf ∧ Below W.heap.size W wf) := by
      obtain ⟨b1, b2⟩ := set9_blk G5.out.2.2 rfl (.slice g'.ca qq.nc g'.cc) (.slice g'.sa qq.ns g'.sc) (.int .i64 (qq.en 0)) (.int .i64 (qq.en 1)) (.int .i64 (qq.en 2)) (.int .i64 (qq.en 3)) (.int .i64 (qq.en 4)) (.int .i64 (qq.en 5)) (.slice g'.ia qq.n g'.ic)
      unfold set9 at b1 b2
      rw [hwf] at b1 b2
      exact ⟨b1, G5.out.1.off G5.out.2.2 (by decide) (by decide) (by decide) b2, G5.out.2.1.trans ((Below.refl _ w5).grown b2 G5.out.2.1.size (fun x hx => by cases hx; omega))⟩
    clear hwf G5
    have hblk := HX.out.1
    have c0 := block_cell hblk 0
    have c1 := block_cell hblk 1
    have c2 := block_cell hblk 2
    have c3 := block_cell hblk 3
    have c4 := block_cell hblk 4
    have c5 := block_cell hblk 5
    have c6 := block_cell hblk 6
    have c7 := block_cell hblk 7
    have c8 := block_cell hblk 8
    simp at c0 c1 c2 c3 c4 c5 c6 c7 c8
    clear hblk
    go_wp2
    refine bodyPost_ret (v := .agg #[.slice g'.ca qq.nc g'.cc, .slice g'.sa qq.ns g'.sc, .int .i64 (qq.en 0), .int .i64 (qq.en 1), .int .i64 (qq.en 2), .int .i64 (qq.en 3), .int .i64 (qq.en 4), .int .i64 (qq.en 5), .slice g'.ia qq.n g'.ic]) (by simp [results, Tryd.results25, go_sem, c0, c1, c2, c3, c4, c5, c6, c7, c8]) rfl ?_
    exact ⟨g', by rw [HCS.out g' qq], HX.out.2⟩
end Go.Proofs.YtmoklddfaocihaaDoor
namespace Go.Proofs.YtmoklddfaocihaaDoor
open Go.RowKit

/-- The constants that are kept, as a row. -/
def uC (p : Pv) (x : Nat) : Int := p.C (sel (usd p) p.nc x)
/-- The world of the reference's consts behind its copy. -/
structure Co (W : World) (g : Pg) (p : Pv) (cb : Nat) (v0 a1 vi : Value) (c : Nat) (a : Nat → Int) (w : World) : Prop where
  pb : w.heap[W.heap.size]? = some (.cells (g.cs p).toArray 27 (0, 0))
  rb : w.heap[W.heap.size + 1]? = some (.cells zP 27 (0, 0))
  bx : w.heap[cb]? = some (.cells #[v0, a1, .int .i64 (p.en 0), .int .i64 (p.en 1), .int .i64 (p.en 2), .int .i64 (p.en 3), .int .i64 (p.en 4), .int .i64 (p.en 5), vi] 27 (0, 0))
  n1 : cb ≠ W.heap.size
  n2 : cb ≠ W.heap.size + 1
  n3 : W.heap.size ≤ cb
  u : w.ownsRow W.heap.size 42 1 v0 c (nums .u64 (uC p) c)
  s : w.ownsRow W.heap.size 3 1 a1 p.ns (nums .i64 p.S p.ns)
  i : Irow w W.heap.size vi p.n p.op a
  bel : Below W.heap.size W w
section
variable {W : World} {g : Pg} {p : Pv} {cb : Nat} {v0 a1 vi : Value} {c : Nat} {a : Nat → Int} {w w' : World}
theorem Co.next (h : Co W g p cb v0 a1 vi c a w) (hb : Below w.heap.size w w') : Co W g p cb v0 a1 vi c a w' :=
  ⟨(hb.block _ (block_lt h.pb)).trans h.pb, (hb.block _ (block_lt h.rb)).trans h.rb, (hb.block _ (block_lt h.bx)).trans h.bx, h.n1, h.n2, h.n3, own_keep h.u hb, own_keep h.s hb, own_keep h.i hb, h.bel.trans (hb.mono h.bel.size)⟩
/-- An append to the constants. -/
theorem Co.app {v0' : Value} {o : Obj} (h : Co W g p cb v0 a1 vi c a w) (ho : w'.ownsRow W.heap.size 42 1 v0' (c + 1) (nums .u64 (uC p) (c + 1))) (hg : (w.alloc o).grownBy w' v0.ownBlock) : Co W g p cb v0' a1 vi (c + 1) a (w'.setCell ⟨cb, 0, none⟩ v0') ∧ w'.heap[cb]? = some (.cells #[v0, a1, .int .i64 (p.en 0), .int .i64 (p.en 1), .int .i64 (p.en 2), .int .i64 (p.en 3), .int .i64 (p.en 4), .int .i64 (p.en 5), vi] 27 (0, 0)) ∧ w'.heap[W.heap.size]? = some (.cells (g.cs p).toArray 27 (0, 0)) ∧ Below W.heap.size W w' := by
  have hn := h.next (below_alloc1 w o)
  have off : ∀ {t : TypeId} {q : Nat} {cs : Array Value}, (42 : TypeId) ≠ t → (w.alloc o).heap[q]? = some (.cells cs t (0, 0)) → w'.heap[q]? = (w.alloc o).heap[q]? := fun ht hq => hg.block _ (block_lt hq) (fun x => own_off2 hn.u ht hq x.symm)
  have row : ∀ {t : TypeId} {v : Value} {n sz : Nat} {xs : List Value}, (42 : TypeId) ≠ t → (w.alloc o).ownsRow W.heap.size t sz v n xs → w'.ownsRow W.heap.size t sz v n xs := fun ht hr => by
    refine hr.kept hg ?_
    cases e : Value.ownBlock _ with
    | none => exact .inl rfl
    | some b =>
      obtain ⟨_, cs, hc⟩ := own_typ2 hr e
      exact .inr (fun x => own_off2 hn.u ht hc x.symm)
  have b1 := (off (by decide) hn.bx).trans hn.bx
  have p1 := (off (by decide) hn.pb).trans hn.pb
  have r1 := (off (by decide) hn.rb).trans hn.rb
  have hb : Below W.heap.size W w' := hn.bel.trans ((Below.refl _ _).grown hg hn.bel.size (fun x hx => (hn.u.lt x hx).1))
  refine ⟨?_, b1, p1, hb⟩
  have hg2 := grown_setT w' cb 0 v0'
  have b2 : (w'.setCell ⟨cb, 0, none⟩ v0').heap[cb]? = some (.cells #[v0', a1, .int .i64 (p.en 0), .int .i64 (p.en 1), .int .i64 (p.en 2), .int .i64 (p.en 3), .int .i64 (p.en 4), .int .i64 (p.en 5), vi] 27 (0, 0)) := by
    simp [World.setCell, Array.getElem?_modify, b1]
  exact ⟨(hg2.block _ (block_lt p1) (by simpa using fun e => h.n1 e.symm)).trans p1, (hg2.block _ (block_lt r1) (by simpa using fun e => h.n2 e.symm)).trans r1, b2, h.n1, h.n2, h.n3, own_offT ho b1 (by decide) hg2, own_offT (row (by decide) hn.s) b1 (by decide) hg2, own_offT (row (by decide) hn.i) b1 (by decide) hg2, hb.trans ((Below.refl _ w').setCell (p := ⟨cb, 0, none⟩) h.n3 v0')⟩
/-- An argument is changed. -/
theorem Co.arg {gb cap j : Nat} {x : Int} (h : Co W g p cb v0 a1 (.slice (some ⟨gb, 0, none⟩) p.n cap) c a w) (hj : j < p.n) : Co W g p cb v0 a1 (.slice (some ⟨gb, 0, none⟩) p.n cap) c (fun y => if y = j then x else a y) (w.setCell ⟨gb, j * 2 + 1, none⟩ (.int .i64 x)) := by
  have hg := grown_setT w gb (j * 2 + 1) (.int .i64 x)
  have hi := irow_set (x := x) h.i hj
  obtain ⟨hgb, cs, hc⟩ := own_typ2 h.i (b := gb) rfl
  have off : ∀ {t : TypeId} {q : Nat} {cs : Array Value}, (83 : TypeId) ≠ t → w.heap[q]? = some (.cells cs t (0, 0)) → (w.setCell ⟨gb, j * 2 + 1, none⟩ (.int .i64 x)).heap[q]? = w.heap[q]? := fun ht hq => hg.block _ (block_lt hq) (fun y => own_off2 h.i ht hq (by rw [y]; rfl))
  exact ⟨(off (by decide) h.pb).trans h.pb, (off (by decide) h.rb).trans h.rb, (off (by decide) h.bx).trans h.bx, h.n1, h.n2, h.n3, own_offT h.u hc (by decide) hg, own_offT h.s hc (by decide) hg, hi, h.bel.trans ((Below.refl _ w).setCell (p := ⟨gb, j * 2 + 1, none⟩) hgb _)⟩
theorem Co.congr {a' : Nat → Int} (h : Co W g p cb v0 a1 vi c a w) (ha : ∀ y, y < p.n → a y = a' y) : Co W g p cb v0 a1 vi c a' w :=
  ⟨h.pb, h.rb, h.bx, h.n1, h.n2, h.n3, h.u, h.s, irow_congr h.i (fun _ _ => rfl) ha, h.bel⟩
/-- The end of the reference's consts. -/
theorem Co.fin (h : Co W g p cb v0 a1 vi (cnt (usd p) p.nc) (constF p).arg w) (hw : Wf p) : ∃ g' : Pg, v0 = .slice g'.ca (cnt (usd p) p.nc) g'.cc ∧ a1 = .slice g'.sa p.ns g'.sc ∧ vi = .slice g'.ia p.n g'.ic ∧ Po W.heap.size g' (constF p) (set9 w (W.heap.size + 1) v0 a1 (.int .i64 (p.en 0)) (.int .i64 (p.en 1)) (.int .i64 (p.en 2)) (.int .i64 (p.en 3)) (.int .i64 (p.en 4)) (.int .i64 (p.en 5)) vi) ∧ Below W.heap.size W (set9 w (W.heap.size + 1) v0 a1 (.int .i64 (p.en 0)) (.int .i64 (p.en 1)) (.int .i64 (p.en 2)) (.int .i64 (p.en 3)) (.int .i64 (p.en 4)) (.int .i64 (p.en 5)) vi) := by
  have G := set9_grown w (W.heap.size + 1) v0 a1 (.int .i64 (p.en 0)) (.int .i64 (p.en 1)) (.int .i64 (p.en 2)) (.int .i64 (p.en 3)) (.int .i64 (p.en 4)) (.int .i64 (p.en 5)) vi
  obtain ⟨g', e1, e2, e3, e4⟩ := po_mk (B := W.heap.size) (p := constF p) (own_offT h.u h.rb (by decide) G) (own_offT h.s h.rb (by decide) G) (own_offT h.i h.rb (by decide) G) (Nat.le_trans (cnt_le _ _) hw.sz.1) hw.sz.2.1 hw.sz.2.2
  exact ⟨g', e1, e2, e3, e4, h.bel.trans (below_of_grown G (by omega) h.bel.size)⟩
end
end Go.Proofs.YtmoklddfaocihaaDoor
namespace Go.Proofs.YtmoklddfaocihaaDoor
open Go.RowKit

/-- The arguments where the first k constants have been gone through; where j instructions of the next have. -/
def aO (p : Pv) (k : Nat) (y : Nat) : Int := if p.op y = 2 ∧ p.arg y < (k : Int) then ((cnt (usd p) (p.arg y).toNat : Nat) : Int) else p.arg y
def aI (p : Pv) (k j : Nat) (y : Nat) : Int := if (p.op y = 2 ∧ p.arg y = (k : Int)) ∧ y < j then ((cnt (usd p) k : Nat) : Int) else aO p k y
theorem aI_next {p : Pv} {k j y : Nat} : aI p k (j + 1) y = if y = j then (if p.op j = 2 ∧ p.arg j = (k : Int) then ((cnt (usd p) k : Nat) : Int) else aI p k j j) else aI p k j y := by
  unfold aI
  by_cases e : y = j
  · subst e
    rw [if_pos rfl]
    by_cases q : p.op y = 2 ∧ p.arg y = (k : Int)
    · rw [if_pos ⟨q, by omega⟩, if_pos q]
    · rw [if_neg (fun h => q h.1), if_neg q, if_neg (fun h => q h.1)]
  · rw [if_neg e]
    by_cases q : (p.op y = 2 ∧ p.arg y = (k : Int)) ∧ y < j
    · rw [if_pos ⟨q.1, by omega⟩, if_pos q]
    · rw [if_neg (fun h => q ⟨h.1, by omega⟩), if_neg q]
theorem aI_end {p : Pv} {k y : Nat} (hy : y < p.n) : aI p k p.n y = aO p (k + 1) y := by
  unfold aI aO
  by_cases o : p.op y = 2
  · by_cases a : p.arg y = (k : Int)
    · rw [if_pos ⟨⟨o, a⟩, hy⟩, if_pos ⟨o, by omega⟩, a]
      rfl
    · rw [if_neg (fun h => a h.1.2)]
      by_cases b : p.arg y < (k : Int)
      · rw [if_pos ⟨o, b⟩, if_pos ⟨o, by omega⟩]
      · rw [if_neg (fun h => b h.2), if_neg (fun h => by omega)]
  · rw [if_neg (fun h => o h.1.1), if_neg (fun h => o h.1), if_neg (fun h => o h.1)]
theorem aO_zero {p : Pv} (hw : Wf p) {y : Nat} (hy : y < p.n) : p.arg y = aO p 0 y := by
  unfold aO
  by_cases o : p.op y = 2
  · have hpl : isPl (p.arg y) p.nc = true := by
      have := (hw.ins y hy).a
      rw [o] at this
      simpa [argF, fArg, formT] using this
    have hpn := isPl_nat hpl
    rw [if_neg (fun h => by omega)]
  · rw [if_neg (fun h => o h.1)]
theorem aO_end {p : Pv} (hw : Wf p) {y : Nat} (hy : y < p.n) : aO p p.nc y = (constF p).arg y := by
  show _ = if p.op y = 2 then _ else _
  unfold aO
  by_cases o : p.op y = 2
  · have hpl : isPl (p.arg y) p.nc = true := by
      have := (hw.ins y hy).a
      rw [o] at this
      simpa [argF, fArg, formT] using this
    have hpn := isPl_nat hpl
    rw [if_pos ⟨o, by omega⟩, if_pos o]
  · rw [if_neg (fun h => o h.1), if_neg o]
section
variable {W : World} {g : Pg} {p : Pv} {cb : Nat} {v0 a1 vi : Value} {w : World} {k j : Nat}
theorem Co.beg (h : Co W g p cb v0 a1 vi (cnt (usd p) k) (aO p k) w) : Co W g p cb v0 a1 vi (cnt (usd p) k) (aI p k 0) w := h.congr (fun y _ => by unfold aI; rw [if_neg (fun h => by omega)])
theorem Co.skipK {ck : Nat} (h : Co W g p cb v0 a1 vi ck (aI p k j) w) (hn : ¬ p.op j = 2 ∨ ¬ p.arg j = (k : Int)) : Co W g p cb v0 a1 vi ck (aI p k (j + 1)) w := h.congr (fun y _ => by
  rw [aI_next]
  by_cases e : y = j
  · subst e
    rw [if_pos rfl, if_neg (fun h => by rcases hn with q | q; exact q h.1; exact q h.2)]
  · rw [if_neg e])
theorem Co.argK {ck gb cap : Nat} (hc : cnt (usd p) k = ck) (h : Co W g p cb v0 a1 (.slice (some ⟨gb, 0, none⟩) p.n cap) ck (aI p k j) w) (hj : j < p.n) (o : p.op j = 2) (a : p.arg j = (k : Int)) : Co W g p cb v0 a1 (.slice (some ⟨gb, 0, none⟩) p.n cap) ck (aI p k (j + 1)) (w.setCell ⟨gb, j * 2 + 1, none⟩ (.int .i64 (ck : Nat))) := (h.arg (x := ((ck : Nat) : Int)) hj).congr (fun y _ => by
  rw [aI_next, hc]
  by_cases e : y = j
  · rw [if_pos e, if_pos e, if_pos ⟨o, a⟩]
  · rw [if_neg e, if_neg e])
theorem Co.endN {ck : Nat} (hc : cnt (usd p) k = ck) (h : Co W g p cb v0 a1 vi ck (aI p k p.n) w) (hk : usedB p k p.n = false) : Co W g p cb v0 a1 vi (cnt (usd p) (k + 1)) (aO p (k + 1)) w := by
  have hk2 : usd p k = false := hk
  rw [cnt_not hk2, hc]
  exact h.congr (fun y hy => aI_end hy)
end
theorem co_new {W : World} {g g' : Pg} {p : Pv} {w w6 : World} (pb : w.heap[W.heap.size]? = some (.cells (g.cs p).toArray 27 (0, 0))) (rb : w.heap[W.heap.size + 1]? = some (.cells zP 27 (0, 0))) (bel : Below W.heap.size W w) (hp : Po W.heap.size g' p w) (hf : Wf p) (hw : w.alloc (.cells #[.slice none 0 0, .slice g'.sa p.ns g'.sc, .int .i64 (p.en 0), .int .i64 (p.en 1), .int .i64 (p.en 2), .int .i64 (p.en 3), .int .i64 (p.en 4), .int .i64 (p.en 5), .slice g'.ia p.n g'.ic] 27) = w6) : Co W g p w.heap.size (.slice none 0 0) (.slice g'.sa p.ns g'.sc) (.slice g'.ia p.n g'.ic) (cnt (usd p) 0) (aO p 0) w6 := by
  have hb : Below w.heap.size w w6 := by rw [← hw]; exact below_alloc1 _ _
  have hx : w6.heap[w.heap.size]? = some (.cells #[.slice none 0 0, .slice g'.sa p.ns g'.sc, .int .i64 (p.en 0), .int .i64 (p.en 1), .int .i64 (p.en 2), .int .i64 (p.en 3), .int .i64 (p.en 4), .int .i64 (p.en 5), .slice g'.ia p.n g'.ic] 27 (0, 0)) := by rw [← hw]; exact alloc_atK w _
  exact ⟨(hb.block _ (block_lt pb)).trans pb, (hb.block _ (block_lt rb)).trans rb, hx, Nat.ne_of_gt (block_lt pb), Nat.ne_of_gt (block_lt rb), bel.size, World.ownsRow_nil _ _ _ _, own_keep hp.s hb, irow_congr (own_keep hp.i hb) (fun _ _ => rfl) (fun y hy => aO_zero hf hy), bel.trans (hb.mono bel.size)⟩
set_option maxRecDepth 10000 in
set_option maxHeartbeats 12800000 in
/-- The reference's consts. -/
theorem constsR {W : World} {g : Pg} {p : Pv} (h : g.Ok p W.heap.size W) (hw : Wf p) :
    Calls Tryd.prog 28 #[.agg (g.cs p).toArray] W fun e w' => ∃ g', e = .returned (.agg (g'.cs (constF p)).toArray) ∧ Hid (Po W.heap.size g' (constF p) w' ∧ Below W.heap.size W w') := by
  obtain ⟨iU, hU, hU0, hU1, hU2⟩ := info_parts Tryd.infoU
  obtain ⟨W2, hW2⟩ : ∃ W2, (W.alloc (.cells (g.cs p).toArray 27)).alloc (.cells zP 27) = W2 := ⟨_, rfl⟩
  obtain ⟨p2, r2, B2⟩ := two_new hW2
  have hn := hw.sz.2.2
  have hnc := hw.sz.1
  have HWF := hide hw
  have HOK := hide h
  have HW2 := hide hW2
  have HCS : Hid (∀ (g : Pg) (p : Pv), g.cs p = [.slice g.ca p.nc g.cc, .slice g.sa p.ns g.sc, .int .i64 (p.en 0), .int .i64 (p.en 1), .int .i64 (p.en 2), .int .i64 (p.en 3), .int .i64 (p.en 4), .int .i64 (p.en 5), .slice g.ia p.n g.ic]) := fun _ _ => rfl
  have HZ : Hid (zP = #[.slice none 0 0, .slice none 0 0, .int .i64 0, .int .i64 0, .int .i64 0, .int .i64 0, .int .i64 0, .int .i64 0, .slice none 0 0]) := rfl
  have HCP : Hid (Calls Tryd.prog 38 #[.agg #[.slice g.ca p.nc g.cc, .slice g.sa p.ns g.sc, .int .i64 (p.en 0), .int .i64 (p.en 1), .int .i64 (p.en 2), .int .i64 (p.en 3), .int .i64 (p.en 4), .int .i64 (p.en 5), .slice g.ia p.n g.ic]] W2 fun e w' => ∃ g' : Pg, e = .returned (.agg #[.slice g'.ca p.nc g'.cc, .slice g'.sa p.ns g'.sc, .int .i64 (p.en 0), .int .i64 (p.en 1), .int .i64 (p.en 2), .int .i64 (p.en 3), .int .i64 (p.en 4), .int .i64 (p.en 5), .slice g'.ia p.n g'.ic]) ∧ Hid (Po W.heap.size g' p w' ∧ w'.heap[W.heap.size]? = some (.cells (g.cs p).toArray 27 (0, 0)) ∧ w'.heap[W.heap.size + 1]? = some (.cells zP 27 (0, 0)) ∧ Below W.heap.size W w')) := by
    refine (copyR9 ((h.kept B2 (Nat.le_refl _)).wide B2.size) hw.sz.1 hw.sz.2.1 hw.sz.2.2).mono ?_
    rintro e w' ⟨g', rfl, q1, q2⟩
    exact ⟨g', rfl, q1.low B2.size, (q2.block _ (block_lt p2)).trans p2, (q2.block _ (block_lt r2)).trans r2, B2.trans (q2.mono B2.size)⟩
  have y0 := block_cell p2 0
  have y1 := block_cell p2 1
  have y2 := block_cell p2 2
  have y3 := block_cell p2 3
  have y4 := block_cell p2 4
  have y5 := block_cell p2 5
  have y6 := block_cell p2 6
  have y7 := block_cell p2 7
  have y8 := block_cell p2 8
  have yl := block_lt p2
  simp [Pg.cs] at y0 y1 y2 y3 y4 y5 y6 y7 y8
  rw [HCS.out g p, HZ.out] at HW2
  rw [HCS.out g p]
  clear h hw hW2 p2 r2 B2
  go_enter Tryd.func28, Tryd.ntmps28
  go_upto_region 1 with fail
  rw [HW2.out]
  clear HW2
  go_wp2_with fail
  refine HCP.out.mono ?_
  rintro e w5 ⟨g', rfl, G5⟩
  clear y0 y1 y2 y3 y4 y5 y6 y7 y8 yl HCP
  go_upto_region 3 with fail
  obtain ⟨w6, hw6⟩ : ∃ w6, w5.alloc (.cells #[.slice none 0 0, .slice g'.sa p.ns g'.sc, .int .i64 (p.en 0), .int .i64 (p.en 1), .int .i64 (p.en 2), .int .i64 (p.en 3), .int .i64 (p.en 4), .int .i64 (p.en 5), .slice g'.ia p.n g'.ic] 27) = w6 := ⟨_, rfl⟩
  have HU0 := hide (co_new G5.out.2.1 G5.out.2.2.1 G5.out.2.2.2 G5.out.1 HWF.out hw6)
  rw [hw6]
  clear hw6 G5
  generalize w5.heap.size = cb at *
  obtain ⟨ia, ic, hiv⟩ : ∃ ia ic, Value.slice g'.ia p.n g'.ic = .slice ia p.n ic := ⟨_, _, rfl⟩
  rw [hiv] at HU0
  clear hiv
  go_upto_block 0 with fail
  go_cut [4, 5, 6] from 10 (fun _ _ _ V => Hid (∃ v0, Co W g p cb v0 (.slice g'.sa p.ns g'.sc) (.slice ia p.n ic) (cnt (usd p) p.nc) (constF p).arg V))
  case first =>
    go_wp2
    go_loopw [4] (fun i wr => ∃ k : Nat, k ≤ p.nc ∧ i = .int .i64 (k : Nat) ∧ ∃ v0, Hid (Co W g p cb v0 (.slice g'.sa p.ns g'.sc) (.slice ia p.n ic) (cnt (usd p) k) (aO p k) wr)) (fun i _ => p.nc - (intOf i).toNat)
    case atStart => exact ⟨0, by omega, rfl, _, HU0.out⟩
    case round =>
      obtain ⟨k, hk, rfl, v0, HJ⟩ := hrel
      clear HU0
      have y0 := block_cell HJ.out.pb 0
      have yl := block_lt HJ.out.pb
      simp [Pg.cs] at y0
      by_cases hlt : k < p.nc
      · obtain ⟨va, vc, hv0⟩ := own_val HJ.out.u
        subst hv0
        have HJ2 := hide (HJ.out.beg)
        obtain ⟨ck, hck⟩ : ∃ ck, cnt (usd p) k = ck := ⟨_, rfl⟩
        have hcl : ck ≤ 256 := by have := cnt_le (usd p) k; omega
        rw [hck] at HJ2
        clear HJ
        have HJ := hide HJ2.out
        clear HJ2
        go_upto_region 8 with fail
        clear y0 yl
        go_loopw [5, 6] (fun u i wr => ∃ j : Nat, j ≤ p.n ∧ i = .int .i64 (j : Nat) ∧ u = .bool (usedB p k j) ∧ Hid (Co W g p cb (.slice va ck vc) (.slice g'.sa p.ns g'.sc) (.slice ia p.n ic) ck (aI p k j) wr)) (fun _ i _ => p.n - (intOf i).toNat)
        case atStart => exact ⟨0, by omega, rfl, rfl, HJ.out⟩
        case round =>
          obtain ⟨j, hj, rfl, rfl, HI⟩ := hrel
          clear HJ
          have y8 := block_cell HI.out.pb 8
          have yl := block_lt HI.out.pb
          simp [Pg.cs] at y8
          by_cases hlj : j < p.n
          · obtain ⟨_, _, hq, _, hrow⟩ := irow_val HI.out.i
            cases hq
            obtain ⟨gb, hao, _, hgl, hce2⟩ := hrow (by omega)
            subst hao
            obtain ⟨_, c1, c2⟩ := hce2 j hlj
            have z0 := block_cell HI.out.bx 0
            have z8 := block_cell HI.out.bx 8
            have zl := block_lt HI.out.bx
            simp at z0 z8
            have ok := HOK.out.kept HI.out.bel (Nat.le_refl _)
            obtain ⟨hia, hil⟩ := ok.hi (by omega)
            have hv := ok.vo j hlj
            have hv2 := ok.va j hlj
            have hl2 : g.ib < wr.heap.size := Nat.lt_of_lt_of_le hil HI.out.bel.size
            rw [hia] at y8
            clear hia hil ok hrow hce2
            by_cases o2 : p.op j = 2
            · by_cases a2 : p.arg j = (k : Int)
              · have H6 : Hid (Co W g p cb (.slice va ck vc) (.slice g'.sa p.ns g'.sc) (.slice (some ⟨gb, 0, none⟩) p.n ic) ck (aI p k (j + 1)) (wr.setCell ⟨gb, j * 2 + 1, none⟩ (.int .i64 (ck : Nat)))) := Co.argK hck HI.out hlj o2 a2
                have HU1 : Hid (usedB p k (j + 1) = true) := by show (usedB p k j || _) = true; simp [o2, a2]
                rw [o2] at hv
                rw [a2] at hv2
                generalize aI p k j j = x at *
                clear HI o2 a2
                generalize usedB p k j = ub at *
                go_wp2
                go_roundw
                case rel => exact ⟨j + 1, by omega, by go_num, by rw [HU1.out], H6.out⟩
                case measure => simp [intOf]; omega
              · have H6 := hide (HI.out.skipK (Or.inr a2))
                have HU1 : Hid (usedB p k (j + 1) = usedB p k j) := by show (usedB p k j || _) = _; simp [a2]
                rw [o2] at hv
                clear HI o2 z0 z8 zl c1 c2 hgl
                generalize p.arg j = aj at *
                generalize usedB p k j = ub at *
                go_wp2
                go_roundw
                case rel => exact ⟨j + 1, by omega, by go_num, by rw [HU1.out], H6.out⟩
                case measure => simp [intOf]; omega
            · have H6 := hide (HI.out.skipK (Or.inl o2))
              have HU1 : Hid (usedB p k (j + 1) = usedB p k j) := by show (usedB p k j || _) = _; simp [o2]
              clear HI z0 z8 zl c1 c2 hgl
              generalize p.op j = oj at *
              generalize usedB p k j = ub at *
              go_wp2
              go_roundw
              case rel => exact ⟨j + 1, by omega, by go_num, by rw [HU1.out], H6.out⟩
              case measure => simp [intOf]; omega
          · obtain rfl : j = p.n := by omega
            obtain ⟨ub, hub⟩ : ∃ ub, usedB p k p.n = ub := ⟨_, rfl⟩
            rw [hub]
            obtain ⟨wi, hwi⟩ : ∃ wi, wi = wr := ⟨_, rfl⟩
            cases ub with
            | false =>
              have H6 := hide (Co.endN hck HI.out hub)
              clear HI hub
              go_wp2
              go_roundw
              case rel => exact ⟨k + 1, by omega, by go_num, _, H6.out⟩
              case measure => simp [intOf]; omega
            | true =>
              subst hwi
              obtain ⟨hia, hib⟩ := HOK.out.hc (by omega)
              have HIA := hide hia
              have HLD := hide (HI.out.next (Below.refl _ _).drew)
              have HHUB := hide hub
              have HCK := hide hck
              clear HI hub hia hck
              have HS1 : Hid ((fun (w : World) => w.heap[cb]? = some (.cells #[.slice va ck vc, .slice g'.sa p.ns g'.sc, .int .i64 (p.en 0), .int .i64 (p.en 1), .int .i64 (p.en 2), .int .i64 (p.en 3), .int .i64 (p.en 4), .int .i64 (p.en 5), .slice ia p.n ic] 27 (0, 0)) ∧ w.heap[W.heap.size]? = some (.cells (g.cs p).toArray 27 (0, 0)) ∧ Below W.heap.size W w) wi.drew) := ⟨HLD.out.bx, HLD.out.pb, HLD.out.bel⟩
              have HS2 : Hid (∀ o, (fun (w : World) => w.heap[cb]? = some (.cells #[.slice va ck vc, .slice g'.sa p.ns g'.sc, .int .i64 (p.en 0), .int .i64 (p.en 1), .int .i64 (p.en 2), .int .i64 (p.en 3), .int .i64 (p.en 4), .int .i64 (p.en 5), .slice ia p.n ic] 27 (0, 0)) ∧ w.heap[W.heap.size]? = some (.cells (g.cs p).toArray 27 (0, 0)) ∧ Below W.heap.size W w) (wi.drew.alloc o)) := fun o => by
                have hh := HLD.out.next (below_alloc1 wi.drew o)
                exact ⟨hh.bx, hh.pb, hh.bel⟩
              have HOW : Hid (∀ o, (wi.drew.alloc o).ownsRow W.heap.size 42 1 (.slice va ck vc) ck (nums .u64 (uC p) ck)) := fun o => (HLD.out.next (below_alloc1 wi.drew o)).u
              have HSZ : Hid (∀ o, W.heap.size ≤ (wi.drew.alloc o).heap.size) := fun o => (HLD.out.next (below_alloc1 wi.drew o)).bel.size
              have HNX : Hid (∀ v' w9 ob, w9.ownsRow W.heap.size 42 1 v' (ck + 1) (nums .u64 (uC p) ck ++ [.int .u64 (p.C k)]) → (wi.drew.alloc ob).grownBy w9 (Value.slice va ck vc).ownBlock → Co W g p cb v' (.slice g'.sa p.ns g'.sc) (.slice ia p.n ic) (cnt (usd p) (k + 1)) (aO p (k + 1)) (w9.setCell ⟨cb, 0, none⟩ v') ∧ w9.heap[cb]? = some (.cells #[.slice va ck vc, .slice g'.sa p.ns g'.sc, .int .i64 (p.en 0), .int .i64 (p.en 1), .int .i64 (p.en 2), .int .i64 (p.en 3), .int .i64 (p.en 4), .int .i64 (p.en 5), .slice ia p.n ic] 27 (0, 0)) ∧ w9.heap[W.heap.size]? = some (.cells (g.cs p).toArray 27 (0, 0)) ∧ Below W.heap.size W w9) := fun v' w9 ob ho hg => by
                have hk : usd p k = true := HHUB.out
                have e : uC p ck = p.C k := by show p.C (sel (usd p) p.nc ck) = _; rw [← HCK.out, sel_cnt hlt hk]
                rw [← e, ← nums_next] at ho
                have q := HLD.out.app ho hg
                refine ⟨?_, q.2⟩
                rw [cnt_next hk, HCK.out]
                exact q.1.congr (fun y hy => aI_end hy)
              clear HLD
              go_upto_region 14 with fail
              clear y8 yl
              refine wp_region_L 10 (fun (w : World) => w.heap[cb]? = some (.cells #[.slice va ck vc, .slice g'.sa p.ns g'.sc, .int .i64 (p.en 0), .int .i64 (p.en 1), .int .i64 (p.en 2), .int .i64 (p.en 3), .int .i64 (p.en 4), .int .i64 (p.en 5), .slice ia p.n ic] 27 (0, 0)) ∧ w.heap[W.heap.size]? = some (.cells (g.cs p).toArray 27 (0, 0)) ∧ Below W.heap.size W w) (fun _ => True) (by kernel_rfl) HS1.out trivial (fun hS0 => ?_)
              refine wpAnyL_take (i := 0) (oi := { dst := some 50, op := Op.fieldAddr 27 (Operand.tmp 3) 0, type := 0, pos := "verify.go:341", after := #[], guard := none }) (v := .pointer (some ⟨cb, 0, none⟩)) rfl (by decide) (by kernel_rfl) (by kernel_rfl) (by kernel_rfl) (fun _ _ _ h => h) (Or.inl ⟨by rfl, fun w2 hSw => ?_⟩) hS0 (fun hS1 => ?_)
              · go_simp
              simp only [Act.put, List.setIfInBounds_toArray, List.set_cons_zero, List.set_cons_succ]
              clear hS0
              refine wpAnyL_take1 (i := 1) (oi := { dst := some 51, op := Op.load 22 (Operand.tmp 50), type := 22, pos := "verify.go:341", after := #[{ on := 0, ground := Ground.data }], guard := none }) (v := .slice va ck vc) rfl (by decide) (by kernel_rfl) (by kernel_rfl) (by kernel_rfl) (fun _ _ _ h => h) (Or.inl ⟨by rfl, fun w2 hSw => ?_⟩) hS1 (by kernel_rfl) rfl (by kernel_rfl) (fun hS2 => ?_)
              · obtain ⟨hbx, hpg, hbl⟩ := hSw
                have k0 := block_cell hbx 0
                have kl := block_lt hbx
                simp at k0
                go_simp
              simp only [Act.put, List.setIfInBounds_toArray, List.set_cons_zero, List.set_cons_succ]
              clear hS1
              refine wpAnyL_take (i := 2) (oi := { dst := some 52, op := Op.fieldAddr 27 (Operand.tmp 1) 0, type := 0, pos := "verify.go:341", after := #[], guard := none }) (v := .pointer (some ⟨W.heap.size, 0, none⟩)) rfl (by decide) (by kernel_rfl) (by kernel_rfl) (by kernel_rfl) (fun _ _ _ h => h) (Or.inl ⟨by rfl, fun w2 hSw => ?_⟩) hS2 (fun hS3 => ?_)
              · go_simp
              simp only [Act.put, List.setIfInBounds_toArray, List.set_cons_zero, List.set_cons_succ]
              clear hS2
              refine wpAnyL_take1 (i := 3) (oi := { dst := some 53, op := Op.load 22 (Operand.tmp 52), type := 22, pos := "verify.go:341", after := #[{ on := 2, ground := Ground.data }], guard := none }) (v := .slice (some ⟨g.cb, g.co, none⟩) p.nc g.cc) rfl (by decide) (by kernel_rfl) (by kernel_rfl) (by kernel_rfl) (fun _ _ _ h => h) (Or.inl ⟨by rfl, fun w2 hSw => ?_⟩) hS3 (by kernel_rfl) rfl (by kernel_rfl) (fun hS4 => ?_)
              · obtain ⟨hbx, hpg, hbl⟩ := hSw
                have k0 := block_cell hpg 0
                have kl := block_lt hpg
                simp [Pg.cs, HIA.out] at k0
                go_simp
              simp only [Act.put, List.setIfInBounds_toArray, List.set_cons_zero, List.set_cons_succ]
              clear hS3
              refine wpAnyL_take (i := 4) (oi := { dst := some 54, op := Op.move (Operand.tmp 4), type := 3, pos := "verify.go:341", after := #[], guard := none }) (v := .int .i64 (k : Nat)) rfl (by decide) (by kernel_rfl) (by kernel_rfl) (by kernel_rfl) (fun _ _ _ h => h) (Or.inl ⟨by rfl, fun w2 hSw => ?_⟩) hS4 (fun hS5 => ?_)
              · go_simp
              simp only [Act.put, List.setIfInBounds_toArray, List.set_cons_zero, List.set_cons_succ]
              clear hS4
              refine wpAnyL_take (i := 5) (oi := { dst := some 55, op := Op.indexAddr 22 (Operand.tmp 53) (Operand.tmp 54), type := 0, pos := "verify.go:341", after := #[{ on := 3, ground := Ground.data }, { on := 4, ground := Ground.data }], guard := none }) (v := .pointer (some ⟨g.cb, g.co + k, none⟩)) rfl (by decide) (by kernel_rfl) (by kernel_rfl) (by kernel_rfl) (fun _ _ _ h => h) (Or.inl ⟨by rfl, fun w2 hSw => ?_⟩) hS5 (fun hS6 => ?_)
              · go_simp
              simp only [Act.put, List.setIfInBounds_toArray, List.set_cons_zero, List.set_cons_succ]
              clear hS5
              refine wpAnyL_take1 (i := 6) (oi := { dst := some 56, op := Op.load 42 (Operand.tmp 55), type := 42, pos := "verify.go:341", after := #[{ on := 5, ground := Ground.data }], guard := none }) (v := .int .u64 (p.C k)) rfl (by decide) (by kernel_rfl) (by kernel_rfl) (by kernel_rfl) (fun _ _ _ h => h) (Or.inl ⟨by rfl, fun w2 hSw => ?_⟩) hS6 (by kernel_rfl) rfl (by kernel_rfl) (fun hS7 => ?_)
              · obtain ⟨hbx, hpg, hbl⟩ := hSw
                have e0 := (hbl.cell (p := ⟨g.cb, _, none⟩) hib).trans (HOK.out.vc k hlt)
                have kl : g.cb < w2.heap.size := Nat.lt_of_lt_of_le hib hbl.size
                go_simp
              simp only [Act.put, List.setIfInBounds_toArray, List.set_cons_zero, List.set_cons_succ]
              clear hS6
              clear hS7
              refine wpAnyL_one (i := 7) (o := { dst := some 57, op := Op.buildSlice 22 1 #[(0, Operand.tmp 56)], type := 22, pos := "verify.go:341", after := #[{ on := 6, ground := Ground.data }], guard := none }) (by kernel_rfl) rfl (fun K hK => ?_)
              go_simp
              go_wp2_with fail
              refine hK.out _ _ ⟨fun _ => HS2.out _, trivial⟩ ?_
              clear hK K
              obtain ⟨v8, w8, hrun, ho8, hg8, _⟩ := run_append_own (P := Tryd.prog) (wi.drew.alloc (.cells #[.int .u64 (p.C k)] 42)) W.heap.size 22 22 42 iU (.int .u64 0) 1 8 Tryd.underlying22 hU hU0 hU1 hU2 rfl (by decide) (.slice va ck vc) ck _ (HOW.out _) ⟨wi.drew.heap.size, 0, none⟩ 1 1 [.int .u64 (p.C k)] rfl (cell_one_new _ _ _) (by simp [Value.oneCell']) (by unfold maxLen; omega) (by omega) (HSZ.out _)
              have hst := HNX.out _ _ _ ho8 hg8
              obtain ⟨ao8, cap8, hv8⟩ := own_val2 ho8
              have z0 := block_cell hst.2.1 0
              have zf := block_free hst.2.1 0
              have zl := block_lt hst.2.1
              simp at z0
              have HST := hide hst
              clear hst ho8 hg8
              refine wpAnyL_one (i := 8) (o := { dst := some 58, op := Op.call { callee := Callee.builtin Builtin.append, args := #[Operand.tmp 51, Operand.tmp 57], argTypes := #[22, 22] }, type := 22, pos := "verify.go:341", after := #[{ on := 1, ground := Ground.data }, { on := 7, ground := Ground.data }], guard := none }) (by kernel_rfl) rfl (fun K hK => ?_)
              rw [if_pos (by kernel_rfl)]
              refine wp_append1 (.tmp 51) (.tmp 57) 22 rfl (v := .slice va ck vc) (v' := v8) (w' := w8) rfl rfl hrun ?_
              simp only [Act.put, List.setIfInBounds_toArray]
              refine hK.out _ _ ⟨fun _ => ⟨HST.out.2.1, HST.out.2.2.1, HST.out.2.2.2⟩, trivial⟩ ?_
              clear hK K hrun
              subst hv8
              have hS9 : SSg 10 (fun (w : World) => w.heap[cb]? = some (.cells #[.slice va ck vc, .slice g'.sa p.ns g'.sc, .int .i64 (p.en 0), .int .i64 (p.en 1), .int .i64 (p.en 2), .int .i64 (p.en 3), .int .i64 (p.en 4), .int .i64 (p.en 5), .slice ia p.n ic] 27 (0, 0)) ∧ w.heap[W.heap.size]? = some (.cells (g.cs p).toArray 27 (0, 0)) ∧ Below W.heap.size W w) (fun _ => True) #[true, true, true, true, true, true, true, true, true, false, false] w8 := ⟨fun _ => ⟨HST.out.2.1, HST.out.2.2.1, HST.out.2.2.2⟩, trivial⟩
              refine wpAnyL_take (i := 9) (oi := { dst := some 59, op := Op.fieldAddr 27 (Operand.tmp 3) 0, type := 0, pos := "verify.go:341", after := #[{ on := 0, ground := Ground.phase }, { on := 1, ground := Ground.phase }, { on := 2, ground := Ground.phase }, { on := 3, ground := Ground.phase }, { on := 4, ground := Ground.phase }, { on := 5, ground := Ground.phase }, { on := 6, ground := Ground.phase }, { on := 7, ground := Ground.phase }, { on := 8, ground := Ground.phase }], guard := none }) (v := .pointer (some ⟨cb, 0, none⟩)) rfl (by decide) (by kernel_rfl) (by kernel_rfl) (by kernel_rfl) (fun _ _ _ h => h) (Or.inl ⟨by rfl, fun w2 hSw => ?_⟩) hS9 (fun hS10 => ?_)
              · go_simp
              simp only [Act.put, List.setIfInBounds_toArray, List.set_cons_zero, List.set_cons_succ]
              clear hS9
              clear hS10
              refine wpAnyL_one (i := 10) (o := { dst := none, op := Op.store 22 (Operand.tmp 59) (Operand.tmp 58), type := 0, pos := "verify.go:341", after := #[{ on := 9, ground := Ground.data }, { on := 8, ground := Ground.data }, { on := 8, ground := Ground.chain }, { on := 0, ground := Ground.phase }, { on := 1, ground := Ground.phase }, { on := 2, ground := Ground.phase }, { on := 3, ground := Ground.phase }, { on := 4, ground := Ground.phase }, { on := 5, ground := Ground.phase }, { on := 6, ground := Ground.phase }, { on := 7, ground := Ground.phase }, { on := 8, ground := Ground.phase }], guard := none }) (by kernel_rfl) rfl (fun K hK => ?_)
              go_simp
              go_wp2_with fail
              refine hK.out _ _ ⟨fun h => (by cases (show true = false from h)), trivial⟩ ?_
              clear hK K
              refine wpAnyL_done (by kernel_rfl) ?_ _
              have HNX2 := hide HST.out.1
              clear HST z0 zf zl
              go_wp2
              go_roundw
              case rel => exact ⟨k + 1, by omega, by go_num, _, HNX2.out⟩
              case measure => simp [intOf]; omega
      · obtain rfl : k = p.nc := by omega
        go_wp2
        go_meet
        case rel => exact ⟨_, HJ.out.congr (fun y hy => aO_end HWF.out hy)⟩
  case rest =>
  obtain ⟨v0, HU1⟩ := hcut.out
  have HU := hide HU1
  clear HU0 HU1 hcut
  obtain ⟨g2, e1, e2, e3, hf⟩ := HU.out.fin HWF.out
  have HF := hide hf
  clear hf
  rw [e1, e2, e3] at HU HF
  clear e1 e2 e3
  have z0 := block_cell HU.out.bx 0
  have z1 := block_cell HU.out.bx 1
  have z2 := block_cell HU.out.bx 2
  have z3 := block_cell HU.out.bx 3
  have z4 := block_cell HU.out.bx 4
  have z5 := block_cell HU.out.bx 5
  have z6 := block_cell HU.out.bx 6
  have z7 := block_cell HU.out.bx 7
  have z8 := block_cell HU.out.bx 8
  have zl := block_lt HU.out.bx
  have r0 := block_cell HU.out.rb 0
  have f0 := block_free HU.out.rb 0
  have r1 := block_cell HU.out.rb 1
  have f1 := block_free HU.out.rb 1
  have r2 := block_cell HU.out.rb 2
  have f2 := block_free HU.out.rb 2
  have r3 := block_cell HU.out.rb 3
  have f3 := block_free HU.out.rb 3
  have r4 := block_cell HU.out.rb 4
  have f4 := block_free HU.out.rb 4
  have r5 := block_cell HU.out.rb 5
  have f5 := block_free HU.out.rb 5
  have r6 := block_cell HU.out.rb 6
  have f6 := block_free HU.out.rb 6
  have r7 := block_cell HU.out.rb 7
  have f7 := block_free HU.out.rb 7
  have r8 := block_cell HU.out.rb 8
  have f8 := block_free HU.out.rb 8
  have rl := block_lt HU.out.rb
  simp at z0 z1 z2 z3 z4 z5 z6 z7 z8
  simp [zP] at r0 r1 r2 r3 r4 r5 r6 r7 r8
  have HR9 := hide (set9_blk HU.out.rb rfl (.slice g2.ca (cnt (usd p) p.nc) g2.cc) (.slice g2.sa p.ns g2.sc) (.int .i64 (p.en 0)) (.int .i64 (p.en 1)) (.int .i64 (p.en 2)) (.int .i64 (p.en 3)) (.int .i64 (p.en 4)) (.int .i64 (p.en 5)) (.slice g2.ia p.n g2.ic)).1
  have HV : Hid (g2.cs (constF p) = [.slice g2.ca (cnt (usd p) p.nc) g2.cc, .slice g2.sa p.ns g2.sc, .int .i64 (p.en 0), .int .i64 (p.en 1), .int .i64 (p.en 2), .int .i64 (p.en 3), .int .i64 (p.en 4), .int .i64 (p.en 5), .slice g2.ia p.n g2.ic]) := rfl
  clear HU
  generalize cnt (usd p) p.nc = m at *
  go_wp2
  have hr9 := HR9.out
  have q0 := block_cell hr9 0
  have q1 := block_cell hr9 1
  have q2 := block_cell hr9 2
  have q3 := block_cell hr9 3
  have q4 := block_cell hr9 4
  have q5 := block_cell hr9 5
  have q6 := block_cell hr9 6
  have q7 := block_cell hr9 7
  have q8 := block_cell hr9 8
  unfold set9 at q0 q1 q2 q3 q4 q5 q6 q7 q8
  simp only [List.getElem?_toArray, List.getElem?_cons_zero, List.getElem?_cons_succ] at q0 q1 q2 q3 q4 q5 q6 q7 q8
  refine bodyPost_ret (v := .agg #[.slice g2.ca m g2.cc, .slice g2.sa p.ns g2.sc, .int .i64 (p.en 0), .int .i64 (p.en 1), .int .i64 (p.en 2), .int .i64 (p.en 3), .int .i64 (p.en 4), .int .i64 (p.en 5), .slice g2.ia p.n g2.ic]) (by simp [results, Tryd.results28, go_sem, q0, q1, q2, q3, q4, q5, q6, q7, q8]) rfl ?_
  exact ⟨g2, by rw [HV.out], HF.out⟩
end Go.Proofs.YtmoklddfaocihaaDoor
