import Derived.Test.YtggpaljilpbmhaaGreatDoorY71
namespace Go.Proofs.YtggpaljilpbmhaaGreatDoor
open Go.RowKit

/-- Taking out idle jumps: the program that is left. -/
structure Wi (W : World) (B : Nat) (p : Pv) (g : Pg) (q : Pv) (f : Nat) (w : World) : Prop where
 pb : w.heap[W.heap.size]? = some (.cells (g.cs q).toArray 27 (0, 0))
 rb : w.heap[W.heap.size + 1]? = some (.cells zP 27 (0, 0))
 po : Po B g q w
 wf : Wf q
 eq : idleF f q = idleF p.n p
 le : q.n ≤ f
 tab : Tab w
 bel : Below W.heap.size W w
 lb : B ≤ W.heap.size
 z : 10 < W.heap.size
theorem Wi.next {W : World} {B : Nat} {p : Pv} {g : Pg} {q : Pv} {f : Nat} {w w' : World} (h : Wi W B p g q f w) (hb : Below w.heap.size w w') : Wi W B p g q f w' :=
 ⟨(hb.block _ (block_lt h.pb)).trans h.pb, (hb.block _ (block_lt h.rb)).trans h.rb, h.po.next hb, h.wf, h.eq, h.le, h.tab.below hb h.tab.z, h.bel.trans (hb.mono h.bel.size), h.lb, h.z⟩
def mesW (b : Nat) (w : World) : Nat := match w.cell? ⟨b, 8, none⟩ with
 | some (.slice _ n _) => n
 | _ => 0
set_option maxRecDepth 10000 in
set_option maxHeartbeats 6400000 in
theorem withoutC {W : World} {B : Nat} {g : Pg} {p : Pv} (h : Po B g p W) (hw : Wf p) (hT : Tab W) (hB : B ≤ W.heap.size) :
  Calls Tryz.prog 25 #[.agg (g.cs p).toArray] W fun e w' => ∃ g', e = .returned (.agg (g'.cs (idleF p.n p)).toArray) ∧ Hid (Po B g' (idleF p.n p) w' ∧ Below W.heap.size W w') := by
 have hmf : ∀ (fn : Fn) (first cap : Array Value) (w : World), (Instr.makeFunc fn first cap).run Tryz.prog w = .ok (.func fn first cap) w := fun _ _ _ _ => rfl
 obtain ⟨W2, hW2⟩ : ∃ W2, (W.alloc (.cells (g.cs p).toArray 27)).alloc (.cells zP 27) = W2 := ⟨_, rfl⟩
 obtain ⟨p2, r2, B2⟩ := two_new hW2
 have H0 : Hid (Wi W B p g p p.n W2) := ⟨p2, r2, h.next B2, hw, rfl, Nat.le_refl _, hT.below B2 hT.z, B2, hB, hT.z⟩
 have HW2 := hide hW2
 have HCS : Hid (∀ (g : Pg) (p : Pv), g.cs p = [.slice g.ca p.nc g.cc, .slice g.sa p.ns g.sc, .int .i64 (p.en 0), .int .i64 (p.en 1), .int .i64 (p.en 2), .int .i64 (p.en 3), .int .i64 (p.en 4), .int .i64 (p.en 5), .slice g.ia p.n g.ic]) := fun _ _ => rfl
 have HZ : Hid (zP = #[.slice none 0 0, .slice none 0 0, .int .i64 0, .int .i64 0, .int .i64 0, .int .i64 0, .int .i64 0, .int .i64 0, .slice none 0 0]) := rfl
 rw [HCS.out g p, HZ.out] at HW2
 rw [HCS.out g p]
 clear h hw hT hB hW2 p2 r2 B2
 go_enter Tryz.func25, Tryz.ntmps25
 go_upto_block 0 with fail
 rw [HW2.out]
 clear HW2
 go_wp2
 go_loopw [] (fun wr => ∃ (g' : Pg) (q : Pv) (f : Nat), Hid (Wi W B p g' q f wr)) (fun wr => mesW W.heap.size wr)
 case atStart => exact ⟨g, p, p.n, H0.out⟩
 case round =>
  obtain ⟨g', q, f, HI⟩ := hrel
  clear H0
  have z8 := block_cell HI.out.pb 8
  have zl := block_lt HI.out.pb
  simp [Pg.cs] at z8
  have HID := hide (idleC HI.out.po.ok HI.out.wf.sz.2.2)
  go_wp2_with fail
  refine HID.out.mono ?_
  rintro e w2 ⟨rfl, G2⟩
  obtain ⟨w3, hw3⟩ : ∃ w3, w2.alloc (.cells #[.int .i64 (idI (fstI q q.n))] 3) = w3 := ⟨_, rfl⟩
  have B3 : Below w2.heap.size w2 w3 := by rw [← hw3]; exact below_alloc1 _ _
  have A3 : w3.heap[w2.heap.size]? = some (.cells #[.int .i64 (idI (fstI q q.n))] 3 (0, 0)) := by rw [← hw3]; exact alloc_atK _ _
  have HI3 := hide ((HI.out.next G2.out).next B3)
  have HMS : Hid (mesW W.heap.size wr = q.n) := by
   show _ = _
   unfold mesW
   rw [z8]
  have i0 := block_cell A3 0
  have il := block_lt A3
  simp at i0
  have HW3 := hide hw3
  have HA3 := hide A3
  clear hw3 B3 A3 G2 HID HI z8 zl
  go_upto_region 2 with fail
  rw [HW3.out]
  clear HW3
  have HP3 := hide HI3.out.pb
  have y0 := block_cell HP3.out 0
  have y1 := block_cell HP3.out 1
  have y2 := block_cell HP3.out 2
  have y3 := block_cell HP3.out 3
  have y4 := block_cell HP3.out 4
  have y5 := block_cell HP3.out 5
  have y6 := block_cell HP3.out 6
  have y7 := block_cell HP3.out 7
  have y8 := block_cell HP3.out 8
  have yl := block_lt HP3.out
  simp [Pg.cs] at y0 y1 y2 y3 y4 y5 y6 y7 y8
  cases hfi : fstI q q.n with
  | none =>
   rw [hfi] at i0
   have i0 : w3.cell? ⟨w2.heap.size, 0, none⟩ = some (.int .i64 (-1)) := i0
   have heq : idleF p.n p = q := by rw [← HI3.out.eq]; exact idleF_none hfi
   have HR3 := hide HI3.out.rb
   have HS9 : Hid (∀ wf, set9 w3 (W.heap.size + 1) (.slice g'.ca q.nc g'.cc) (.slice g'.sa q.ns g'.sc) (.int .i64 (q.en 0)) (.int .i64 (q.en 1)) (.int .i64 (q.en 2)) (.int .i64 (q.en 3)) (.int .i64 (q.en 4)) (.int .i64 (q.en 5)) (.slice g'.ia q.n g'.ic) = wf → wf.heap[W.heap.size + 1]? = some (.cells (g'.cs q).toArray 27 (0, 0)) ∧ Po B g' (idleF p.n p) wf ∧ Below W.heap.size W wf) := fun wf hwf => by
    obtain ⟨q1, q2⟩ := set9_blk HI3.out.rb rfl (.slice g'.ca q.nc g'.cc) (.slice g'.sa q.ns g'.sc) (.int .i64 (q.en 0)) (.int .i64 (q.en 1)) (.int .i64 (q.en 2)) (.int .i64 (q.en 3)) (.int .i64 (q.en 4)) (.int .i64 (q.en 5)) (.slice g'.ia q.n g'.ic)
    rw [hwf] at q1 q2
    rw [heq]
    exact ⟨q1, HI3.out.po.off HI3.out.rb (by decide) (by decide) (by decide) q2, HI3.out.bel.trans ((Below.refl _ w3).grown q2 HI3.out.bel.size (fun x hx => by cases hx; omega))⟩
   have t0 := block_cell HR3.out 0
   have t1 := block_cell HR3.out 1
   have t2 := block_cell HR3.out 2
   have t3 := block_cell HR3.out 3
   have t4 := block_cell HR3.out 4
   have t5 := block_cell HR3.out 5
   have t6 := block_cell HR3.out 6
   have t7 := block_cell HR3.out 7
   have t8 := block_cell HR3.out 8
   have f0 := block_free HR3.out 0
   have f1 := block_free HR3.out 1
   have f2 := block_free HR3.out 2
   have f3 := block_free HR3.out 3
   have f4 := block_free HR3.out 4
   have f5 := block_free HR3.out 5
   have f6 := block_free HR3.out 6
   have f7 := block_free HR3.out 7
   have f8 := block_free HR3.out 8
   have tl := block_lt HR3.out
   simp [zP] at t0 t1 t2 t3 t4 t5 t6 t7 t8
   have HEQ := hide heq
   clear HI3 HA3 hfi heq HP3 HR3
   go_wp2
   generalize hwf : World.setCell _ ⟨W.heap.size + 1, 8, none⟩ _ = wf
   obtain ⟨hblk, hpo, hbel⟩ := HS9.out wf hwf
   have c0 := block_cell hblk 0
   have c1 := block_cell hblk 1
   have c2 := block_cell hblk 2
   have c3 := block_cell hblk 3
   have c4 := block_cell hblk 4
   have c5 := block_cell hblk 5
   have c6 := block_cell hblk 6
   have c7 := block_cell hblk 7
   have c8 := block_cell hblk 8
   simp [Pg.cs] at c0 c1 c2 c3 c4 c5 c6 c7 c8
   have HE : Hid (Po B g' (idleF p.n p) wf ∧ Below W.heap.size W wf) := ⟨hpo, hbel⟩
   refine bodyPost_ret (v := .agg #[.slice g'.ca q.nc g'.cc, .slice g'.sa q.ns g'.sc, .int .i64 (q.en 0), .int .i64 (q.en 1), .int .i64 (q.en 2), .int .i64 (q.en 3), .int .i64 (q.en 4), .int .i64 (q.en 5), .slice g'.ia q.n g'.ic]) (by simp [results, Tryz.results25, go_sem, c0, c1, c2, c3, c4, c5, c6, c7, c8]) rfl ?_
   exact ⟨g', by rw [HEQ.out]; rfl, HE⟩
  | some i =>
   rw [hfi] at i0
   have i0 : w3.cell? ⟨w2.heap.size, 0, none⟩ = some (.int .i64 ((i : Nat) : Int)) := i0
   have HFC := hide (filtC (W := w3) (g := g') (p := q) HI3.out.po.ok HI3.out.tab HI3.out.wf 58 (.pointer (some ⟨w2.heap.size, 0, none⟩)) (butK i) (fun a w => by kernel_rfl) (fun x w _ hbl => otherC ((hbl.cell (p := ⟨w2.heap.size, 0, none⟩) (block_lt HA3.out)).trans i0) x))
   obtain ⟨iw1, iw2, _⟩ := idle_wf HI3.out.wf hfi
   have HIW := hide (And.intro iw1 iw2)
   have HFI := hide hfi
   rw [HCS.out g' q] at HFC
   clear iw1 iw2 hfi
   go_wp2_with fail
   refine HFC.out.mono ?_
   rintro e w5 ⟨g2, rfl, G5⟩
   have HB5 := hide G5.out.2
   have HP5 : Hid (w5.heap[W.heap.size]? = some (.cells (g'.cs q).toArray 27 (0, 0))) := (HB5.out.block _ (block_lt HI3.out.pb)).trans HI3.out.pb
   have HS9 : Hid (∀ wf, set9 w5 W.heap.size (.slice g2.ca (cutF q (butK i)).nc g2.cc) (.slice g2.sa (cutF q (butK i)).ns g2.sc) (.int .i64 ((cutF q (butK i)).en 0)) (.int .i64 ((cutF q (butK i)).en 1)) (.int .i64 ((cutF q (butK i)).en 2)) (.int .i64 ((cutF q (butK i)).en 3)) (.int .i64 ((cutF q (butK i)).en 4)) (.int .i64 ((cutF q (butK i)).en 5)) (.slice g2.ia (cutF q (butK i)).n g2.ic) = wf → ∃ (ga : Pg) (qa : Pv) (fa : Nat), Wi W B p ga qa fa wf ∧ mesW W.heap.size wf + 1 = q.n) := fun wf hwf => by
    obtain ⟨q1, q2⟩ := set9_blk HP5.out (by rfl) (.slice g2.ca (cutF q (butK i)).nc g2.cc) (.slice g2.sa (cutF q (butK i)).ns g2.sc) (.int .i64 ((cutF q (butK i)).en 0)) (.int .i64 ((cutF q (butK i)).en 1)) (.int .i64 ((cutF q (butK i)).en 2)) (.int .i64 ((cutF q (butK i)).en 3)) (.int .i64 ((cutF q (butK i)).en 4)) (.int .i64 ((cutF q (butK i)).en 5)) (.slice g2.ia (cutF q (butK i)).n g2.ic)
    rw [hwf] at q1 q2
    have hb5 : Below W.heap.size w3 w5 := HB5.out.mono HI3.out.bel.size
    have bb := HI3.out.bel.trans hb5
    have bw : Below W.heap.size w5 wf := (Below.refl _ w5).grown q2 bb.size (fun x hx => by cases hx; omega)
    obtain ⟨f1, hf1⟩ : ∃ f1, f = f1 + 1 := ⟨f - 1, by have := HI3.out.le; have := HIW.out.2; omega⟩
    refine ⟨g2, (cutF q (butK i)), f1, ⟨q1, ?_, ?_, HIW.out.1, ?_, ?_, ?_, bb.trans bw, HI3.out.lb, HI3.out.z⟩, ?_⟩
    ·have r5 : w5.heap[W.heap.size + 1]? = some (.cells zP 27 (0, 0)) := (HB5.out.block _ (block_lt HI3.out.rb)).trans HI3.out.rb
     exact (q2.block _ (block_lt r5) (by simp)).trans r5
    ·exact (G5.out.1.low (Nat.le_trans HI3.out.lb HI3.out.bel.size)).off HP5.out (by decide) (by decide) (by decide) q2
    ·rw [← HI3.out.eq, hf1, idleF_some HFI.out]
    ·have := HI3.out.le
     have := HIW.out.2
     omega
    ·exact (HI3.out.tab.below hb5 HI3.out.z).below bw HI3.out.z
    ·unfold mesW
     rw [block_cell q1 8]
     exact HIW.out.2
   have t0 := block_cell HP5.out 0
   have t1 := block_cell HP5.out 1
   have t2 := block_cell HP5.out 2
   have t3 := block_cell HP5.out 3
   have t4 := block_cell HP5.out 4
   have t5 := block_cell HP5.out 5
   have t6 := block_cell HP5.out 6
   have t7 := block_cell HP5.out 7
   have t8 := block_cell HP5.out 8
   have f0 := block_free HP5.out 0
   have f1 := block_free HP5.out 1
   have f2 := block_free HP5.out 2
   have f3 := block_free HP5.out 3
   have f4 := block_free HP5.out 4
   have f5 := block_free HP5.out 5
   have f6 := block_free HP5.out 6
   have f7 := block_free HP5.out 7
   have f8 := block_free HP5.out 8
   have tl := block_lt HP5.out
   simp [Pg.cs] at t0 t1 t2 t3 t4 t5 t6 t7 t8
   rw [HCS.out g2 (cutF q (butK i))]
   clear HFC G5 HI3 HA3 HP3 HB5 HP5 HIW HFI y0 y1 y2 y3 y4 y5 y6 y7 y8 yl i0 il
   go_wp2
   generalize hwf : World.setCell _ ⟨W.heap.size, 8, none⟩ _ = wf
   obtain ⟨ga, qa, fa, w1, w2'⟩ := HS9.out wf hwf
   have HX := hide w1
   have HY := hide w2'
   clear w1 w2' HS9 hwf
   go_roundw
   case rel => exact ⟨ga, qa, fa, HX.out⟩
   case measure => have := HY.out; have := HMS.out; omega
end Go.Proofs.YtggpaljilpbmhaaGreatDoor
namespace Go.Proofs.YtggpaljilpbmhaaGreatDoor
open Go.RowKit

theorem usedB_next {p : Pv} {c j : Nat} : usedB p c (j + 1) = (usedB p c j || (decide (p.op j = 2) && decide (p.arg j = (c : Int)))) := rfl
theorem used_yes {p : Pv} {c j : Nat} (hj : j < p.n) (h1 : p.op j = 2) (h2 : p.arg j = (c : Int)) : usd p c = true := usedB_true.2 ⟨j, hj, h1, h2⟩
set_option maxRecDepth 10000 in
set_option maxHeartbeats 3200000 in
theorem indexC {W : World} {g : Pg} {p : Pv} (h : g.Ok p W.heap.size W) (hn : p.n ≤ 1024) (c : Nat) :
  Calls Tryz.prog 117 #[.slice g.ia p.n g.ic, .agg #[.int .i64 2, .int .i64 (c : Nat)]] W fun e w' => ∃ x : Int, e = .returned (.int .i64 x) ∧ Hid (decide (0 ≤ x) = usd p c ∧ Below W.heap.size W w') := by
 obtain ⟨W1, hW1⟩ : ∃ W1, W.alloc (.cells #[.int .i64 2, .int .i64 (c : Nat)] 42) = W1 := ⟨_, rfl⟩
 have B1 : Below W.heap.size W W1 := by rw [← hW1]; exact below_alloc1 W _
 have A1 : W1.heap[W.heap.size]? = some (.cells #[.int .i64 2, .int .i64 (c : Nat)] 42 (0, 0)) := by rw [← hW1]; exact alloc_atK _ _
 have HOK := hide h
 have HW1 := hide hW1
 have HA1 := hide A1
 have HB1 := hide B1
 clear h hW1 A1 B1
 obtain ⟨ca, sa, ia, cc, sc, ic, cb, co, sb, so, ib, io⟩ := g
 simp only
 go_enter Tryz.func117, Tryz.ntmps117
 go_upto_region 1 with fail
 rw [HW1.out]
 clear HW1
 go_wp2
 go_loopw [8] (fun i wr => ∃ j : Nat, j ≤ p.n ∧ i = .int .i64 (j : Nat) ∧ Hid (usedB p c j = false ∧ Below W1.heap.size W1 wr)) (fun i _ => p.n - (intOf i).toNat)
 case atStart => exact ⟨0, by omega, rfl, rfl, Below.refl _ _⟩
 case round =>
  obtain ⟨j, hj, rfl, HJ⟩ := hrel
  have HBL := hide (HB1.out.trans (HJ.out.2.mono HB1.out.size))
  by_cases hlt : j < p.n
  ·have hok := HOK.out.kept HBL.out (Nat.le_refl _)
   obtain ⟨hia, hil⟩ := hok.hi (by show 0 < p.n; omega)
   have hia : ia = some ⟨ib, io, none⟩ := hia
   have hil : ib < W.heap.size := hil
   have hv : wr.cell? ⟨ib, io + j * 2, none⟩ = some (.int .i64 (p.op j)) := hok.vo j hlt
   have hv2 : wr.cell? ⟨ib, io + j * 2 + 1, none⟩ = some (.int .i64 (p.arg j)) := hok.va j hlt
   have hl2 : ib < wr.heap.size := Nat.lt_of_lt_of_le hil HBL.out.size
   have a2 := (HJ.out.2.block _ (block_lt HA1.out)).trans HA1.out
   have n0 := block_cell a2 0
   have n1 := block_cell a2 1
   have nl := block_lt a2
   simp at n0 n1
   have HU := hide HJ.out.1
   have HBD : Hid (Below W1.heap.size W1 wr.drew) := HJ.out.2.drew
   have HBE : Hid (Below W.heap.size W wr.drew) := HBL.out.drew
   by_cases hy : p.op j = 2 ∧ p.arg j = (c : Int)
   ·have HUS : Hid (usd p c = true) := used_yes hlt hy.1 hy.2
    rw [hy.1] at hv
    rw [hy.2] at hv2
    clear HJ hok a2 hy
    subst hia
    go_upto_region 4 with fail
    go_region
    all_goals
     go_wp2
     go_ret
     exact ⟨_, rfl, hide ⟨by rw [HUS.out]; exact decide_eq_true (by omega), HBE.out⟩⟩
   ·have HN : Hid (usedB p c (j + 1) = false) := by
     show _ = _
     rw [usedB_next, HU.out]
     simp
     exact fun q1 q2 => hy ⟨q1, q2⟩
    obtain ⟨oj, hoj⟩ : ∃ oj, p.op j = oj := ⟨_, rfl⟩
    obtain ⟨aj, haj⟩ : ∃ aj, p.arg j = aj := ⟨_, rfl⟩
    rw [hoj, haj] at hy
    rw [hoj] at hv
    rw [haj] at hv2
    clear HJ hok a2 hoj haj
    subst hia
    by_cases o2 : oj = 2
    ·have a1 : ((c : Int) == aj) = false := beq_eq_false_iff_ne.2 (fun q => hy ⟨o2, q.symm⟩)
     subst o2
     clear hy
     go_upto_region 4 with fail
     go_region
     all_goals
      go_wp2
      go_roundw
      case rel => exact ⟨j + 1, by omega, by go_num, HN.out, HBD.out⟩
      case measure => simp [intOf]; omega
    ·have a1 : ((2 : Int) == oj) = false := beq_eq_false_iff_ne.2 (fun q => o2 q.symm)
     clear hy o2
     go_upto_region 4 with fail
     go_region
     all_goals
      go_wp2
      go_roundw
      case rel => exact ⟨j + 1, by omega, by go_num, HN.out, HBD.out⟩
      case measure => simp [intOf]; omega
  ·obtain rfl : j = p.n := by omega
   have HUS : Hid (usd p c = false) := HJ.out.1
   clear HJ
   go_wp2
   go_ret
   exact ⟨_, rfl, hide ⟨by rw [HUS.out]; rfl, HBL.out⟩⟩
set_option maxRecDepth 10000 in
theorem containsC {W : World} {g : Pg} {p : Pv} (h : g.Ok p W.heap.size W) (hn : p.n ≤ 1024) (c : Nat) :
  Calls Tryz.prog 59 #[.slice g.ia p.n g.ic, .agg #[.int .i64 2, .int .i64 (c : Nat)]] W fun e w' => e = .returned (.bool (usd p c)) ∧ Hid (Below W.heap.size W w') := by
 obtain ⟨W1, hW1⟩ : ∃ W1, W.alloc (.cells #[.int .i64 2, .int .i64 (c : Nat)] 42) = W1 := ⟨_, rfl⟩
 have B1 : Below W.heap.size W W1 := by rw [← hW1]; exact below_alloc1 W _
 have A1 : W1.heap[W.heap.size]? = some (.cells #[.int .i64 2, .int .i64 (c : Nat)] 42 (0, 0)) := by rw [← hW1]; exact alloc_atK _ _
 have HIX := hide (indexC (W := W1) ((h.kept B1 (Nat.le_refl _)).wide B1.size) hn c)
 have n0 := block_cell A1 0
 have n1 := block_cell A1 1
 have nl := block_lt A1
 simp at n0 n1
 have HW1 := hide hW1
 have HB1 := hide B1
 clear h hW1 A1 B1
 generalize usd p c = u at *
 go_enter Tryz.func59, Tryz.ntmps59
 go_upto_region 1 with fail
 rw [HW1.out]
 clear HW1
 go_wp2_with fail
 refine HIX.out.mono ?_
 rintro e w2 ⟨x, rfl, G2⟩
 have HD := hide (HB1.out.trans (G2.out.2.mono HB1.out.size))
 cases u with
 | true =>
  have hx : 0 ≤ x := of_decide_eq_true G2.out.1
  clear HIX G2 n0 n1 nl
  go_wp2
  go_ret
  exact ⟨rfl, HD⟩
 | false =>
  have hx : decide (0 ≤ x) = false := G2.out.1
  clear HIX G2 n0 n1 nl
  go_wp2
  go_ret
  exact ⟨rfl, HD⟩
end Go.Proofs.YtggpaljilpbmhaaGreatDoor
namespace Go.Proofs.YtggpaljilpbmhaaGreatDoor
open Go.RowKit

/-- A program with other arguments. -/
def pA (p : Pv) (a : Nat → Int) : Pv := ⟨p.nc, p.ns, p.n, p.C, p.S, p.en, p.op, a⟩
/-- The constants that are used: under way. -/
structure Tr (W : World) (B : Nat) (g : Pg) (p : Pv) (j mb : Nat) (v : Value) (a : Nat → Int) (w : World) : Prop where
 pb : w.heap[W.heap.size]? = some (.cells (g.cs p).toArray 27 (0, 0))
 mo : ∃ ms : Array Value, w.heap[mb]? = some (.cells ms 3 (0, 0)) ∧ ms.size = p.nc ∧ ∀ i, i < j → ms[i]? = some (.int .i64 ((cnt (usd p) i : Nat) : Int))
 mn : W.heap.size ≤ mb
 us : w.ownsRow W.heap.size 28 1 v (cnt (usd p) j) (nums .u64 (fun x => p.C (sel (usd p) p.nc x)) (cnt (usd p) j))
 po : Po B g (pA p a) w
 far : (∀ x, (Value.slice g.ca p.nc g.cc).ownBlock = some x → x < W.heap.size) ∧ (∀ x, (Value.slice g.sa p.ns g.sc).ownBlock = some x → x < W.heap.size) ∧ (∀ x, (Value.slice g.ia p.n g.ic).ownBlock = some x → x < W.heap.size)
 bel : Below B W w
 sz : W.heap.size ≤ w.heap.size
 lb : B ≤ W.heap.size
/-- Rows that lie below stay, whatever turns above. -/
theorem own_farJ {w w' : World} {B n sz k : Nat} {t : TypeId} {v : Value} {xs : List Value} (h : w.ownsRow B t sz v n xs) (ha : ∀ x, v.ownBlock = some x → x < k) {row : Option Nat} (hg : w.grownBy w' row) (hr : ∀ x, row = some x → k ≤ x) : w'.ownsRow B t sz v n xs := by
 refine World.ownsRow.kept h hg ?_
 cases e : v.ownBlock with
 | none => exact .inl rfl
 | some x =>
  right
  intro q
  have h1 := ha x e
  have h2 := hr x q.symm
  omega
theorem Po.far {w w' : World} {B k : Nat} {g : Pg} {p : Pv} (h : Po B g p w) (hc : ∀ x, (Value.slice g.ca p.nc g.cc).ownBlock = some x → x < k) (hs : ∀ x, (Value.slice g.sa p.ns g.sc).ownBlock = some x → x < k) (hi : ∀ x, (Value.slice g.ia p.n g.ic).ownBlock = some x → x < k) {row : Option Nat} (hg : w.grownBy w' row) (hr : ∀ x, row = some x → k ≤ x) : Po B g p w' :=
 h.remake rfl rfl rfl (own_farJ h.c hc hg hr) (own_farJ h.s hs hg hr) (own_farJ h.i hi hg hr)
theorem Tr.next {W : World} {B : Nat} {g : Pg} {p : Pv} {j mb : Nat} {v : Value} {a : Nat → Int} {w w' : World} (h : Tr W B g p j mb v a w) (hb : Below w.heap.size w w') : Tr W B g p j mb v a w' := by
 obtain ⟨ms, q1, q2⟩ := h.mo
 exact ⟨(hb.block _ (block_lt h.pb)).trans h.pb, ⟨ms, (hb.block _ (block_lt q1)).trans q1, q2⟩, h.mn, own_keep h.us hb, h.po.next hb, h.far, h.bel.trans (hb.mono (Nat.le_trans h.lb h.sz)), Nat.le_trans h.sz hb.size, h.lb⟩
theorem Tr.move {W : World} {B : Nat} {g : Pg} {p : Pv} {j mb : Nat} {v : Value} {a : Nat → Int} {w : World} (h : Tr W B g p j mb v a w) (hj : j < p.nc) : (∃ ms : Array Value, (w.setCell ⟨mb, j, none⟩ (.int .i64 ((cnt (usd p) j : Nat) : Int))).heap[mb]? = some (.cells ms 3 (0, 0)) ∧ ms.size = p.nc ∧ ∀ i, i < j + 1 → ms[i]? = some (.int .i64 ((cnt (usd p) i : Nat) : Int))) ∧ Tr W B g p j mb v a (w.setCell ⟨mb, j, none⟩ (.int .i64 ((cnt (usd p) j : Nat) : Int))) := by
 obtain ⟨ms, q1, q2, q3⟩ := h.mo
 have hg := grown_setT w mb j (.int .i64 ((cnt (usd p) j : Nat) : Int))
 have ne1 : W.heap.size ≠ mb := fun x => by have := h.pb; rw [x, q1] at this; cases this
 have hb : Below B w (w.setCell ⟨mb, j, none⟩ (.int .i64 ((cnt (usd p) j : Nat) : Int))) := (Below.refl _ w).setCell (p := ⟨mb, j, none⟩) (Nat.le_trans h.lb h.mn) _
 have hm : (w.setCell ⟨mb, j, none⟩ (.int .i64 ((cnt (usd p) j : Nat) : Int))).heap[mb]? = some (.cells (ms.setIfInBounds j (.int .i64 ((cnt (usd p) j : Nat) : Int))) 3 (0, 0)) := by simp [World.setCell, Array.getElem?_modify, q1]
 have hv : ∀ i, i < j + 1 → (ms.setIfInBounds j (.int .i64 ((cnt (usd p) j : Nat) : Int)))[i]? = some (.int .i64 ((cnt (usd p) i : Nat) : Int)) := fun i hi => by
  by_cases eq : i = j
  ·subst eq
   simp [q2, hj]
  ·rw [Array.getElem?_setIfInBounds_ne (fun x => eq x.symm)]
   exact q3 i (by omega)
 refine ⟨⟨_, hm, by simpa using q2, hv⟩, (hg.block _ (block_lt h.pb) (by simpa using ne1)).trans h.pb, ⟨_, hm, by simpa using q2, fun i hi => hv i (by omega)⟩, h.mn, own_offT h.us q1 (by decide) hg, h.po.far h.far.1 h.far.2.1 h.far.2.2 hg (fun x hx => by cases hx; exact h.mn), h.far, h.bel.trans hb, Nat.le_trans h.sz hg.size, h.lb⟩
/-- A constant is kept or not. -/
theorem Tr.skip {W : World} {B : Nat} {g : Pg} {p : Pv} {j mb : Nat} {v : Value} {a : Nat → Int} {w : World} (h : Tr W B g p j mb v a w) (hm : ∃ ms : Array Value, w.heap[mb]? = some (.cells ms 3 (0, 0)) ∧ ms.size = p.nc ∧ ∀ i, i < j + 1 → ms[i]? = some (.int .i64 ((cnt (usd p) i : Nat) : Int))) (hk : usd p j = false) : Tr W B g p (j + 1) mb v a w := by
 have e : cnt (usd p) (j + 1) = cnt (usd p) j := by show cnt (usd p) j + (if usd p j then 1 else 0) = _; rw [hk]; rfl
 exact ⟨h.pb, hm, h.mn, by rw [e]; exact h.us, h.po, h.far, h.bel, h.sz, h.lb⟩
theorem Tr.app {W : World} {B : Nat} {g : Pg} {p : Pv} {j mb : Nat} {v v' : Value} {a : Nat → Int} {w w' : World} (h : Tr W B g p j mb v a w) (hm : ∃ ms : Array Value, w.heap[mb]? = some (.cells ms 3 (0, 0)) ∧ ms.size = p.nc ∧ ∀ i, i < j + 1 → ms[i]? = some (.int .i64 ((cnt (usd p) i : Nat) : Int))) (hj : j < p.nc) (hk : usd p j = true) (hg : w.grownBy w' v.ownBlock) (ho : w'.ownsRow W.heap.size 28 1 v' (cnt (usd p) j + 1) (nums .u64 (fun x => p.C (sel (usd p) p.nc x)) (cnt (usd p) j) ++ [.int .u64 (p.C j)])) : Tr W B g p (j + 1) mb v' a w' := by
 obtain ⟨ms, q1, q2⟩ := hm
 have off : ∀ (q : Nat) (cs : Array Value) (t : TypeId), w.heap[q]? = some (.cells cs t (0, 0)) → t ≠ 28 → w'.heap[q]? = w.heap[q]? := fun q cs t hq ht => by
  refine hg.block q (block_lt hq) (fun x => ?_)
  rcases h.us.2 with ⟨rfl, _⟩ | ⟨g', cap, cur, rfl, _, hc, _⟩
  ·cases x
  ·simp [Value.ownBlock] at x
   subst x
   rw [hc] at hq
   cases hq
   exact ht rfl
 refine ⟨(off _ _ _ h.pb (by decide)).trans h.pb, ⟨ms, (off _ _ _ q1 (by decide)).trans q1, q2⟩, h.mn, ?_, h.po.far h.far.1 h.far.2.1 h.far.2.2 hg (fun x hx => (h.us.lt x hx).1), h.far, h.bel.trans ((Below.refl _ w).grown hg (Nat.le_trans h.lb h.sz) (fun x hx => Nat.le_trans h.lb (h.us.lt x hx).1)), Nat.le_trans h.sz hg.size, h.lb⟩
 rw [cnt_next hk, nums_next, sel_cnt hj hk]
 exact ho
theorem Tr.arg {W : World} {B : Nat} {g : Pg} {p : Pv} {j mb : Nat} {v : Value} {a a' : Nat → Int} {w : World} {gb i : Nat} {x : Int} (h : Tr W B g p j mb v a w) (hia : g.ia = some ⟨gb, 0, none⟩) (hi : i < p.n) (ha : ∀ y, y < p.n → (if y = i then x else a y) = a' y) : Tr W B g p j mb v a' (w.setCell ⟨gb, i * 2 + 1, none⟩ (.int .i64 x)) := by
 obtain ⟨ms, q1, q2⟩ := h.mo
 have hg := grown_setT w gb (i * 2 + 1) (.int .i64 x)
 have hrow : Irow w B (.slice (some ⟨gb, 0, none⟩) p.n g.ic) p.n p.op a := by have := h.po.i; rw [hia] at this; exact this
 obtain ⟨cur, hq⟩ : ∃ cur, w.heap[gb]? = some (.cells cur 42 (0, 0)) := by
  rcases hrow.2 with ⟨e, _⟩ | ⟨g', cap, cur, e, _, hc, _⟩
  ·cases e
  ·cases e; exact ⟨cur, hc⟩
 have hlt := World.ownsRow.lt hrow gb rfl
 have off : ∀ (q : Nat) (cs : Array Value) (t : TypeId), w.heap[q]? = some (.cells cs t (0, 0)) → t ≠ 42 → (w.setCell ⟨gb, i * 2 + 1, none⟩ (.int .i64 x)).heap[q]? = w.heap[q]? := fun q cs t hqq ht => by
  refine hg.block q (block_lt hqq) (fun e => ?_)
  cases e
  rw [hq] at hqq
  cases hqq
  exact ht rfl
 have hb : Below B w (w.setCell ⟨gb, i * 2 + 1, none⟩ (.int .i64 x)) := (Below.refl _ w).setCell (p := ⟨gb, i * 2 + 1, none⟩) hlt.1 _
 refine ⟨(off _ _ _ h.pb (by decide)).trans h.pb, ⟨ms, (off _ _ _ q1 (by decide)).trans q1, q2⟩, h.mn, own_offT h.us hq (by decide) hg, ?_, h.far, h.bel.trans hb, Nat.le_trans h.sz hg.size, h.lb⟩
 refine h.po.remake (p' := pA p a') rfl rfl rfl (own_offT h.po.c hq (by decide) hg) (own_offT h.po.s hq (by decide) hg) ?_
 show Irow _ B (.slice g.ia p.n g.ic) p.n p.op a'
 rw [hia]
 exact irow_congr (irow_set hrow hi) (fun _ _ => rfl) ha
theorem Tr.congr {W : World} {B : Nat} {g : Pg} {p : Pv} {j mb : Nat} {v : Value} {a a' : Nat → Int} {w : World} (h : Tr W B g p j mb v a w) (ha : ∀ y, y < p.n → a y = a' y) : Tr W B g p j mb v a' w :=
 ⟨h.pb, h.mo, h.mn, h.us, h.po.remake (p' := pA p a') rfl rfl rfl h.po.c h.po.s (irow_congr h.po.i (fun _ _ => rfl) ha), h.far, h.bel, h.sz, h.lb⟩
theorem Tr.cells {W : World} {B : Nat} {g : Pg} {p : Pv} {j mb : Nat} {v : Value} {a : Nat → Int} {w : World} (h : Tr W B g p j mb v a w) : w.cell? ⟨W.heap.size, 0, none⟩ = some (.slice g.ca p.nc g.cc) ∧ w.cell? ⟨W.heap.size, 8, none⟩ = some (.slice g.ia p.n g.ic) ∧ W.heap.size < w.heap.size :=
 ⟨block_cell h.pb 0, block_cell h.pb 8, block_lt h.pb⟩
theorem Tr.mcell {W : World} {B : Nat} {g : Pg} {p : Pv} {j mb : Nat} {v : Value} {a : Nat → Int} {w : World} (h : Tr W B g p j mb v a w) : mb < w.heap.size ∧ (∀ i, i < j → w.cell? ⟨mb, i, none⟩ = some (.int .i64 ((cnt (usd p) i : Nat) : Int))) ∧ ∀ i, i < p.nc → (∃ u, w.cell? ⟨mb, i, none⟩ = some u) ∧ w.frozen? ⟨mb, i, none⟩ = false := by
 obtain ⟨ms, q1, q2, q3⟩ := h.mo
 refine ⟨block_lt q1, fun i hi => (block_cell q1 i).trans (q3 i hi), fun i hi => ⟨?_, block_free q1 i⟩⟩
 rw [block_cell q1 i]
 exact ⟨_, Array.getElem?_eq_getElem (by omega)⟩
theorem tr_born {W W1 w0 : World} {B : Nat} {g : Pg} {p : Pv} (h : Po B g p W) (hB : B ≤ W.heap.size) (hW : W.alloc (.cells (g.cs p).toArray 27) = W1) (ho : w0.ownsRow W1.heap.size 3 1 (.slice (some ⟨W1.heap.size, 0, none⟩) p.nc p.nc) p.nc (madeCells #[.int .i64 0] (p.nc * 1)).toList) (hg : W1.grownBy w0 none) : Tr W B g p 0 W1.heap.size (.slice none 0 0) p.arg w0 := by
 have B1 : Below W.heap.size W W1 := by rw [← hW]; exact below_alloc1 W _
 have p1 : W1.heap[W.heap.size]? = some (.cells (g.cs p).toArray 27 (0, 0)) := by rw [← hW]; exact alloc_atK _ _
 have b0 : Below W1.heap.size W1 w0 := ⟨hg.os, hg.tape, hg.output, hg.size, fun k hk => hg.block k hk (by simp)⟩
 have bel := B1.trans (b0.mono B1.size)
 refine ⟨(b0.block _ (block_lt p1)).trans p1, ?_, B1.size, World.ownsRow_nil _ _ _ _, (h.next B1).next b0, ⟨fun x hx => (h.c.lt x hx).2, fun x hx => (h.s.lt x hx).2, fun x hx => (World.ownsRow.lt h.i x hx).2⟩, bel.mono hB, bel.size, hB⟩
 rcases ho.2 with ⟨e, _⟩ | ⟨g', cap, cur, e, _, hq, _, _, hsz, _⟩
 ·cases e
 ·cases e
  exact ⟨cur, hq, by omega, fun i hi => by omega⟩
end Go.Proofs.YtggpaljilpbmhaaGreatDoor
