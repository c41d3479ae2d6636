import Derived.Test.YtggpaljilpbmhaaGreatDoorY72
namespace Go.Proofs.YtggpaljilpbmhaaGreatDoor
open Go.RowKit

set_option maxRecDepth 10000 in
set_option maxHeartbeats 12800000 in
theorem trimC {W : World} {B : Nat} {g : Pg} {p : Pv} (h : Po B g p W) (hw : Wf p) (hB : B ≤ W.heap.size) :
  Calls Tryz.prog 26 #[.agg (g.cs p).toArray] W fun e w' => ∃ va vp mb, e = .returned (.slice va (cnt (usd p) p.nc) vp) ∧ Hid (Tr W B g p p.nc mb (.slice va (cnt (usd p) p.nc) vp) (constF p).arg w') := by
 obtain ⟨i0, hi, hz0, hz1, hz2⟩ := info_parts Tryz.infoI
 obtain ⟨i1, hi', hz0', hz1', hz2'⟩ := info_parts Tryz.infoU6
 have HZN := hide (And.intro hi' (And.intro hz0' (And.intro hz1' hz2')))
 clear hi' hz0' hz1' hz2'
 obtain ⟨W1, hW1⟩ : ∃ W1, W.alloc (.cells (g.cs p).toArray 27) = W1 := ⟨_, rfl⟩
 have A1 : W1.heap[W.heap.size]? = some (.cells (g.cs p).toArray 27 (0, 0)) := by rw [← hW1]; exact alloc_atK _ _
 have HBN := hide (fun w0 => tr_born (w0 := w0) h hB hW1)
 have hnc := hw.sz.1
 have hnn := hw.sz.2.2
 have HWF := hide hw
 have y0 := block_cell A1 0
 have yl := block_lt A1
 simp [Pg.cs] at y0
 have HW1 := hide hW1
 have HCS : Hid (g.cs p = [.slice g.ca p.nc g.cc, .slice g.sa p.ns g.sc, .int .i64 (p.en 0), .int .i64 (p.en 1), .int .i64 (p.en 2), .int .i64 (p.en 3), .int .i64 (p.en 4), .int .i64 (p.en 5), .slice g.ia p.n g.ic]) := rfl
 rw [HCS.out] at HW1 ⊢
 clear h hw hB hW1 A1
 go_enter Tryz.func26, Tryz.ntmps26
 go_upto_region 1 with fail
 rw [HW1.out]
 clear HW1
 go_upto_region 3 with (at_make; refine wpList_make_full _ rfl _ _ 23 rfl W1.heap.size 3 i0 _ 1 Tryz.underlying23 hi hz0 hz1 .i64 .i64 _ _ p.nc rfl rfl rfl rfl (by rw [hz2]; omega) (by unfold maxLen; omega) (Nat.le_refl _) ?_; intro w0 hown0 hgrow0)
 have HF0 := hide (HBN.out w0 hown0 hgrow0)
 clear hown0 hgrow0 HBN y0 yl
 generalize W1.heap.size = mb at *
 obtain ⟨y0, y8, yl⟩ := HF0.out.cells
 obtain ⟨ca, sa, ia, cc, sc, ic, cb, co, sb, so, ib, io⟩ := g
 simp only at *
 go_upto_block 0 with fail
 go_cut [3, 5, 6] from 16 (fun v _ _ V => Hid (Tr W B ⟨ca, sa, ia, cc, sc, ic, cb, co, sb, so, ib, io⟩ p p.nc mb v p.arg V))
 case first =>
  clear y0 y8 yl
  go_wp2
  go_loopw [3, 16] (fun v i wr => ∃ j : Nat, j ≤ p.nc ∧ i = .int .i64 (j : Nat) ∧ Hid (Tr W B ⟨ca, sa, ia, cc, sc, ic, cb, co, sb, so, ib, io⟩ p j mb v p.arg wr)) (fun _ i _ => p.nc - (intOf i).toNat)
  case atStart => exact ⟨0, by omega, rfl, HF0.out⟩
  case round =>
   obtain ⟨j, hj, rfl, HJ⟩ := hrel
   clear HF0
   by_cases hlt : j < p.nc
   ·obtain ⟨ao, cp, hu3⟩ := own_val HJ.out.us
    subst hu3
    obtain ⟨ml, _, mc⟩ := HJ.out.mcell
    obtain ⟨⟨u, mu⟩, mf⟩ := mc j hlt
    have hct : cnt (usd p) j ≤ 256 := Nat.le_trans (cnt_le (usd p) j) (by omega)
    obtain ⟨hca, _⟩ := HJ.out.po.ok.hc (by show 0 < p.nc; omega)
    have hca : ca = some ⟨cb, co, none⟩ := hca
    have hv : wr.cell? ⟨cb, co + j, none⟩ = some (.int .u64 (p.C j)) := HJ.out.po.ok.vc j hlt
    have hl2 : cb < wr.heap.size := (HJ.out.po.ok.hc (by show 0 < p.nc; omega)).2
    obtain ⟨w4, hw4⟩ : ∃ w4, wr.setCell ⟨mb, j, none⟩ (.int .i64 ((cnt (usd p) j : Nat) : Int)) = w4 := ⟨_, rfl⟩
    have hmv := HJ.out.move hlt
    rw [hw4] at hmv
    have HMV := hide hmv
    have HW4 := hide hw4
    have HCO := hide (containsC (W := w4) (p := p) hmv.2.po.ok hnn j)
    obtain ⟨x0, x8, xl⟩ := hmv.2.cells
    simp only at x8
    clear HJ mc hw4 hmv
    subst hca
    obtain ⟨kj, hkj⟩ : ∃ kj, usd p j = kj := ⟨_, rfl⟩
    rw [hkj] at HCO
    have HKJ := hide hkj
    clear hkj
    go_upto_region 7 with fail
    rw [HW4.out]
    clear HW4 mu mf ml hv hl2
    go_wp2_with fail
    refine HCO.out.mono ?_
    rintro e w5 ⟨rfl, G5⟩
    have HM5 : Hid (∃ ms : Array Value, w5.heap[mb]? = some (.cells ms 3 (0, 0)) ∧ ms.size = p.nc ∧ ∀ i, i < j + 1 → ms[i]? = some (.int .i64 ((cnt (usd p) i : Nat) : Int))) := by
     obtain ⟨ms, q1, q2⟩ := HMV.out.1
     exact ⟨ms, (G5.out.block _ (block_lt q1)).trans q1, q2⟩
    have H5 := hide (HMV.out.2.next G5.out)
    clear HCO G5 HMV x0 x8 xl
    cases kj with
    | false =>
     have H6 := hide (H5.out.skip HM5.out HKJ.out)
     clear H5 HM5
     go_wp2
     go_roundw
     case rel => exact ⟨j + 1, by omega, by go_num, H6.out⟩
     case measure => simp [intOf]; omega
    | true =>
     have HOW : Hid (∀ ob, (w5.alloc ob).ownsRow W.heap.size 28 1 (.slice ao (cnt (usd p) j) cp) (cnt (usd p) j) (nums .u64 (fun x => p.C (sel (usd p) p.nc x)) (cnt (usd p) j))) := fun ob => (H5.out.next (below_alloc1 w5 ob)).us
     have HSZ : Hid (∀ ob, W.heap.size ≤ (w5.alloc ob).heap.size) := fun ob => by
      have := H5.out.sz
      simp
      omega
     have HNX : Hid (∀ v' w6 ob, w6.ownsRow W.heap.size 28 1 v' (cnt (usd p) j + 1) (nums .u64 (fun x => p.C (sel (usd p) p.nc x)) (cnt (usd p) j) ++ [.int .u64 (p.C j)]) → (w5.alloc ob).grownBy w6 (Value.slice ao (cnt (usd p) j) cp).ownBlock → Tr W B ⟨some ⟨cb, co, none⟩, sa, ia, cc, sc, ic, cb, co, sb, so, ib, io⟩ p (j + 1) mb v' p.arg w6) := fun v' w6 ob ho hg => by
      refine (H5.out.next (below_alloc1 w5 ob)).app ?_ hlt HKJ.out hg ho
      obtain ⟨ms, q1, q2⟩ := HM5.out
      exact ⟨ms, ((below_alloc1 w5 ob).block _ (block_lt q1)).trans q1, q2⟩
     clear H5 HM5
     generalize p.C j = cj at *
     go_wp2_with (at_builtin; refine wpList_append_own _ rfl (.tmp 31) (.tmp 33) 22 rfl W.heap.size 28 i1 _ 1 8 Tryz.underlying22 HZN.out.1 HZN.out.2.1 HZN.out.2.2.1 HZN.out.2.2.2 rfl (by decide) (.slice ao (cnt (usd p) j) cp) (cnt (usd p) j) _ rfl (HOW.out _) ⟨w5.heap.size, 0, none⟩ 1 1 [.int .u64 cj] rfl rfl (cells_newK w5 [.int .u64 cj] 28) (by simp [Value.oneCell']) (by unfold maxLen; omega) (by omega) (HSZ.out _) ?_; intro v' w6 ho hg _)
     have H6 := hide (HNX.out _ _ _ ho hg)
     clear ho hg HNX HOW HSZ
     go_wp2
     go_roundw
     case rel => exact ⟨j + 1, by omega, by go_num, H6.out⟩
     case measure => simp [intOf]; omega
   ·obtain rfl : j = p.nc := by omega
    go_wp2
    go_meet
    case rel => exact HJ.out
 case rest =>
 clear HF0 y0 y8 yl
 have HF0 := hide hcut.out
 clear hcut
 obtain ⟨va, vp, hu3⟩ := own_val HF0.out.us
 subst hu3
 obtain ⟨y0, y8, yl⟩ := HF0.out.cells
 simp only at y8
 go_upto_block 2 with fail
 go_cut [7, 8] from 39 (fun _ _ V => Hid (Tr W B ⟨ca, sa, ia, cc, sc, ic, cb, co, sb, so, ib, io⟩ p p.nc mb (.slice va (cnt (usd p) p.nc) vp) (constF p).arg V))
 case first =>
  clear y0 y8 yl
  go_wp2
  go_loopw [39] (fun i wr => ∃ j : Nat, j ≤ p.n ∧ i = .int .i64 (j : Nat) ∧ Hid (Tr W B ⟨ca, sa, ia, cc, sc, ic, cb, co, sb, so, ib, io⟩ p p.nc mb (.slice va (cnt (usd p) p.nc) vp) (fun x => if x < j ∧ p.op x = 2 then ((cnt (usd p) (p.arg x).toNat : Nat) : Int) else p.arg x) wr)) (fun i _ => p.n - (intOf i).toNat)
  case atStart => exact ⟨0, by omega, rfl, HF0.out.congr (fun y _ => by rw [if_neg (fun q => by omega)])⟩
  case round =>
   obtain ⟨j, hj, rfl, HJ⟩ := hrel
   clear HF0
   by_cases hlt : j < p.n
   ·obtain ⟨_, _, hq, _, hrow⟩ := irow_val HJ.out.po.i
    cases hq
    obtain ⟨gb, hao, _, hgl, hce2⟩ := hrow (by show 0 < p.n; omega)
    have hao : ia = some ⟨gb, 0, none⟩ := hao
    subst hao
    have hii := HWF.out.ins _ hlt
    have hop := op_nat hii
    obtain ⟨e0, e1, c2⟩ := hce2 j hlt
    have c0 : wr.cell? ⟨gb, j * 2, none⟩ = some (.int .i64 (p.op j)) := e0
    have c1 : wr.cell? ⟨gb, j * 2 + 1, none⟩ = some (.int .i64 (p.arg j)) := by
     have c1 : wr.cell? ⟨gb, j * 2 + 1, none⟩ = some (.int .i64 (if j < j ∧ p.op j = 2 then ((cnt (usd p) (p.arg j).toNat : Nat) : Int) else p.arg j)) := e1
     rw [if_neg (fun q => by omega)] at c1
     exact c1
    clear e0 e1
    obtain ⟨wn, hwn⟩ : ∃ wn, wr.alloc (.cells #[.int .i64 (p.op j), .int .i64 (p.arg j)] 42) = wn := ⟨_, rfl⟩
    have hbn : Below wr.heap.size wr wn := by rw [← hwn]; exact below_alloc1 _ _
    have han : wn.heap[wr.heap.size]? = some (.cells #[.int .i64 (p.op j), .int .i64 (p.arg j)] 42 (0, 0)) := by rw [← hwn]; exact alloc_atK _ _
    have HN1 := hide (HJ.out.next hbn)
    have n0 := block_cell han 0
    have n1 := block_cell han 1
    have nl := block_lt han
    simp at n0 n1
    have HWN := hide hwn
    have HIN := hide hii
    clear hwn hbn han HJ hce2 hop hii hrow
    by_cases o2 : p.op j = 2
    ·have hpl : isPl (p.arg j) p.nc = true := by
      have := HIN.out.a
      rw [o2] at this
      simpa [argF, fArg, formT] using this
     have hpn := isPl_nat hpl
     obtain ⟨t, ht⟩ : ∃ t : Nat, p.arg j = t := ⟨_, hpn.1⟩
     have htn : t < p.nc := by have := hpn.2; rw [ht] at this; simpa using this
     have HND : Hid (Tr W B ⟨ca, sa, some ⟨gb, 0, none⟩, cc, sc, ic, cb, co, sb, so, ib, io⟩ p p.nc mb (.slice va (cnt (usd p) p.nc) vp) (fun x => if x < j ∧ p.op x = 2 then ((cnt (usd p) (p.arg x).toNat : Nat) : Int) else p.arg x) wn.drew) := HN1.out.next (Below.drew (Below.refl _ wn))
     have H6 : Hid (Tr W B ⟨ca, sa, some ⟨gb, 0, none⟩, cc, sc, ic, cb, co, sb, so, ib, io⟩ p p.nc mb (.slice va (cnt (usd p) p.nc) vp) (fun x => if x < j + 1 ∧ p.op x = 2 then ((cnt (usd p) (p.arg x).toNat : Nat) : Int) else p.arg x) (wn.drew.setCell ⟨gb, j * 2 + 1, none⟩ (.int .i64 ((cnt (usd p) t : Nat) : Int)))) := HND.out.arg rfl hlt (fun y _ => by
      by_cases q : y = j
      ·subst q
       rw [if_pos rfl, if_pos ⟨by omega, o2⟩, ht]
       rfl
      ·rw [if_neg q]
       by_cases q2 : y < j
       ·by_cases q3 : p.op y = 2
        ·rw [if_pos ⟨q2, q3⟩, if_pos ⟨by omega, q3⟩]
        ·rw [if_neg (fun q => q3 q.2), if_neg (fun q => q3 q.2)]
       ·rw [if_neg (fun q => q2 q.1), if_neg (fun q => by omega)])
     obtain ⟨ml, mc, _⟩ := HN1.out.mcell
     have mt := mc t htn
     obtain ⟨x0, x8, xl⟩ := HN1.out.cells
     simp only at x8
     obtain ⟨_, _, hq, hmc, hrow⟩ := irow_val HN1.out.po.i
     cases hq
     obtain ⟨_, hq, _, hgl3, hce3⟩ := hrow (by show 0 < p.n; omega)
     have hq : (some ⟨gb, 0, none⟩ : Option Addr) = _ := hq
     cases hq
     obtain ⟨d0, d1, d2⟩ := hce3 j hlt
     rw [ht] at n1 c1 HWN
     rw [o2] at n0 c0 HWN
     clear HN1 mc hrow hce3 hpl hpn ht HIN d0 HND x0 o2
     generalize cnt (usd p) t = ct at *
     go_upto_region 13 with fail
     rw [HWN.out]
     clear HWN c0 c1 c2 hgl
     go_upto_region 14 with fail
     go_region
     all_goals
      go_wp2
      go_roundw
      case rel => exact ⟨j + 1, by omega, by go_num, H6.out⟩
      case measure => simp [intOf]; omega
    ·have H6 : Hid (Tr W B ⟨ca, sa, some ⟨gb, 0, none⟩, cc, sc, ic, cb, co, sb, so, ib, io⟩ p p.nc mb (.slice va (cnt (usd p) p.nc) vp) (fun x => if x < j + 1 ∧ p.op x = 2 then ((cnt (usd p) (p.arg x).toNat : Nat) : Int) else p.arg x) wn) := HN1.out.congr (fun y _ => by
      by_cases q : y = j
      ·subst q
       rw [if_neg (fun q => o2 q.2), if_neg (fun q => o2 q.2)]
      ·by_cases q2 : y < j
       ·by_cases q3 : p.op y = 2
        ·rw [if_pos ⟨q2, q3⟩, if_pos ⟨by omega, q3⟩]
        ·rw [if_neg (fun q => q3 q.2), if_neg (fun q => q3 q.2)]
       ·rw [if_neg (fun q => q2 q.1), if_neg (fun q => by omega)])
     obtain ⟨oj, hoj⟩ : ∃ oj, p.op j = oj := ⟨_, rfl⟩
     rw [hoj] at n0 c0 HWN o2
     have b2 : (oj == 2) = false := beq_eq_false_iff_ne.2 o2
     clear HN1 HIN hoj o2
     go_upto_region 13 with fail
     rw [HWN.out]
     clear HWN c0 c1 c2 hgl
     go_wp2
     go_roundw
     case rel => exact ⟨j + 1, by omega, by go_num, H6.out⟩
     case measure => simp [intOf]; omega
   ·obtain rfl : j = p.n := by omega
    go_wp2
    go_meet
    case rel => exact HJ.out.congr (fun y hy => by
     show _ = (if p.op y = 2 then _ else _)
     by_cases q : p.op y = 2
     ·rw [if_pos ⟨hy, q⟩, if_pos q]
     ·rw [if_neg (fun z => q z.2), if_neg q])
 case rest =>
 clear HF0 y0 y8 yl
 have HF0 := hide hcut.out
 clear hcut
 go_wp2
 go_ret
 exact ⟨va, vp, mb, rfl, HF0⟩
end Go.Proofs.YtggpaljilpbmhaaGreatDoor
namespace Go.Proofs.YtggpaljilpbmhaaGreatDoor
open Go.RowKit

set_option maxRecDepth 10000 in
theorem shortNil {W : World} {ao : Option Addr} {cap : Nat} : Calls Tryz.prog 24 #[.slice ao 0 cap] W fun e w' => e = .returned (.tuple #[]) ∧ w' = W := by
 go_enter Tryz.func24, Tryz.ntmps24
 go_wp2
 go_loopw [5] (fun i wr => i = .int .i64 0 ∧ wr = W) (fun _ _ => 0)
 case atStart => exact ⟨rfl, rfl⟩
 case round =>
  obtain ⟨rfl, rfl⟩ := hrel
  go_wp2
  go_end0
  exact ⟨rfl, rfl⟩
/-- shortenWays of a program of new memory, every place of which is reached. -/
theorem shortAny {W : World} {B : Nat} {g : Pg} {p : Pv} {k : Kn} (h : Po B g p W) (hw : Wf p) (hf : Flow p k) (hall : ∀ i, i < p.n → (k i).isSome = true) (hT : Tab W) (hz : 10 < B) (hB : B ≤ W.heap.size) :
  Calls Tryz.prog 24 #[.slice g.ia p.n g.ic] W fun e w' => e = .returned (.tuple #[]) ∧ Hid (Po B g (shortF p) w' ∧ Below B W w' ∧ W.heap.size ≤ w'.heap.size) := by
 by_cases e0 : p.n = 0
 ·rw [e0]
  refine shortNil.mono ?_
  rintro e w' ⟨rfl, rfl⟩
  refine ⟨rfl, h.remake (p' := shortF p) rfl rfl rfl h.c h.s ?_, Below.refl _ _, Nat.le_refl _⟩
  show Irow w' B (.slice g.ia p.n g.ic) p.n p.op _
  exact irow_congr h.i (fun _ _ => rfl) (fun y hy => by omega)
 ·obtain ⟨_, _, hq, _, hrow⟩ := irow_val h.i
  cases hq
  obtain ⟨gb, hia, _⟩ := hrow (by omega)
  have hi := h.i
  rw [hia] at hi
  rw [hia]
  refine (shortC hw hf hall hT hz hi).mono ?_
  rintro e w' ⟨rfl, G⟩
  obtain ⟨cur, hq⟩ : ∃ cur, W.heap[gb]? = some (.cells cur 42 (0, 0)) := by
   rcases hi.2 with ⟨e, _⟩ | ⟨g', cap, cur, e, _, hc, _⟩
   ·cases e
   ·cases e; exact ⟨cur, hc⟩
  refine ⟨rfl, h.remake (p' := shortF p) rfl rfl rfl (own_offT h.c hq (by decide) G.out.gr) (own_offT h.s hq (by decide) G.out.gr) ?_, G.out.bel, G.out.gr.size⟩
  show Irow w' B (.slice g.ia p.n g.ic) p.n p.op _
  rw [hia]
  exact G.out.row
/-- Tidying under way: the boxes, the program. -/
structure Ty (W : World) (B : Nat) (g : Pg) (p : Pv) (w : World) : Prop where
 pb : w.heap[W.heap.size]? = some (.cells (g.cs p).toArray 27 (0, 0))
 rb : w.heap[W.heap.size + 1]? = some (.cells zP 27 (0, 0))
 po : Po B g p w
 tab : Tab w
 bel : Below W.heap.size W w
 lb : B ≤ w.heap.size
 hB : W.heap.size + 2 = B
 z : 10 < W.heap.size
/-- The program is replaced. -/
theorem Ty.put {W : World} {B : Nat} {g : Pg} {p : Pv} {w w' : World} {cs : Array Value} (hp : w.heap[W.heap.size]? = some (.cells cs 27 (0, 0))) (hc : cs.size = 9) (hr : w.heap[W.heap.size + 1]? = some (.cells zP 27 (0, 0))) (hpo : Po B g p w) (hT : Tab w) (hb : Below W.heap.size W w) (hl : B ≤ w.heap.size) (hB : W.heap.size + 2 = B) (hz : 10 < W.heap.size)
  (hwf : set9 w W.heap.size (.slice g.ca p.nc g.cc) (.slice g.sa p.ns g.sc) (.int .i64 (p.en 0)) (.int .i64 (p.en 1)) (.int .i64 (p.en 2)) (.int .i64 (p.en 3)) (.int .i64 (p.en 4)) (.int .i64 (p.en 5)) (.slice g.ia p.n g.ic) = w') : Ty W B g p w' := by
 obtain ⟨q1, q2⟩ := set9_blk hp hc (.slice g.ca p.nc g.cc) (.slice g.sa p.ns g.sc) (.int .i64 (p.en 0)) (.int .i64 (p.en 1)) (.int .i64 (p.en 2)) (.int .i64 (p.en 3)) (.int .i64 (p.en 4)) (.int .i64 (p.en 5)) (.slice g.ia p.n g.ic)
 rw [hwf] at q1 q2
 have bw : Below W.heap.size w w' := (Below.refl _ w).grown q2 (by omega) (fun x hx => by cases hx; omega)
 exact ⟨q1, (q2.block _ (block_lt hr) (by simp)).trans hr, hpo.off hp (by decide) (by decide) (by decide) q2, hT.below bw hz, hb.trans bw, Nat.le_trans hl q2.size, hB, hz⟩
/-- What Tidy answers. -/
def Tdy (W : World) (p : Pv) (r : Except (Int × Int) Kn) (e : Ending) (w' : World) : Prop := match r with
 | .ok k => ∃ k2 g', e = .returned (.tuple #[.agg (g'.cs (tidF p k k2)).toArray, .nilIface]) ∧ Hid (verF (shortF (cutF p (kOf k))) = .ok k2 ∧ Po W.heap.size g' (tidF p k k2) w' ∧ Below W.heap.size W w')
 | .error (a, y) => ∃ g, e = .returned (.tuple #[.agg zP, .iface 74 (.pointer (some ⟨g, 0, none⟩))]) ∧ Hid (Ft w'.heap.size w' (.iface 74 (.pointer (some ⟨g, 0, none⟩))) a y ∧ Below W.heap.size W w')
end Go.Proofs.YtggpaljilpbmhaaGreatDoor
namespace Go.Proofs.YtggpaljilpbmhaaGreatDoor
open Go.RowKit

theorem fin_ty {W w9 w10 wa : World} {B mb vp : Nat} {va : Option Addr} {g : Pg} {q : Pv} (hy : Ty W B g q w9) (hw : Wf q) (ht : Tr w9 B g q q.nc mb (.slice va (cnt (usd q) q.nc) vp) (constF q).arg w10) (ha : w10.setCell ⟨W.heap.size, 0, none⟩ (.slice va (cnt (usd q) q.nc) vp) = wa) :
  wa.heap[W.heap.size]? = some (.cells #[.slice va (cnt (usd q) q.nc) vp, .slice g.sa q.ns g.sc, .int .i64 (q.en 0), .int .i64 (q.en 1), .int .i64 (q.en 2), .int .i64 (q.en 3), .int .i64 (q.en 4), .int .i64 (q.en 5), .slice g.ia q.n g.ic] 27 (0, 0)) ∧ wa.heap[W.heap.size + 1]? = some (.cells zP 27 (0, 0)) ∧ ∀ wf, set9 wa (W.heap.size + 1) (.slice va (cnt (usd q) q.nc) vp) (.slice g.sa q.ns g.sc) (.int .i64 (q.en 0)) (.int .i64 (q.en 1)) (.int .i64 (q.en 2)) (.int .i64 (q.en 3)) (.int .i64 (q.en 4)) (.int .i64 (q.en 5)) (.slice g.ia q.n g.ic) = wf → wf.heap[W.heap.size + 1]? = some (.cells #[.slice va (cnt (usd q) q.nc) vp, .slice g.sa q.ns g.sc, .int .i64 (q.en 0), .int .i64 (q.en 1), .int .i64 (q.en 2), .int .i64 (q.en 3), .int .i64 (q.en 4), .int .i64 (q.en 5), .slice g.ia q.n g.ic] 27 (0, 0)) ∧ ∃ g' : Pg, g'.cs (constF q) = [.slice va (cnt (usd q) q.nc) vp, .slice g.sa q.ns g.sc, .int .i64 (q.en 0), .int .i64 (q.en 1), .int .i64 (q.en 2), .int .i64 (q.en 3), .int .i64 (q.en 4), .int .i64 (q.en 5), .slice g.ia q.n g.ic] ∧ Po W.heap.size g' (constF q) wf ∧ Below W.heap.size W wf := by
 have hlt : W.heap.size < B := by have := hy.hB; omega
 have p10 : w10.heap[W.heap.size]? = some (.cells (g.cs q).toArray 27 (0, 0)) := (ht.bel.block _ hlt).trans hy.pb
 have r10 : w10.heap[W.heap.size + 1]? = some (.cells zP 27 (0, 0)) := (ht.bel.block _ (by have := hy.hB; omega)).trans hy.rb
 have hg := grown_setT w10 W.heap.size 0 (.slice va (cnt (usd q) q.nc) vp)
 rw [ha] at hg
 have pa : wa.heap[W.heap.size]? = some (.cells #[.slice va (cnt (usd q) q.nc) vp, .slice g.sa q.ns g.sc, .int .i64 (q.en 0), .int .i64 (q.en 1), .int .i64 (q.en 2), .int .i64 (q.en 3), .int .i64 (q.en 4), .int .i64 (q.en 5), .slice g.ia q.n g.ic] 27 (0, 0)) := by
  rw [← ha]
  simp [World.setCell, Array.getElem?_modify, p10, Pg.cs]
 have ra : wa.heap[W.heap.size + 1]? = some (.cells zP 27 (0, 0)) := (hg.block _ (block_lt r10) (by simp)).trans r10
 refine ⟨pa, ra, fun wf hwf => ?_⟩
 obtain ⟨q1, q2⟩ := set9_blk ra rfl (.slice va (cnt (usd q) q.nc) vp) (.slice g.sa q.ns g.sc) (.int .i64 (q.en 0)) (.int .i64 (q.en 1)) (.int .i64 (q.en 2)) (.int .i64 (q.en 3)) (.int .i64 (q.en 4)) (.int .i64 (q.en 5)) (.slice g.ia q.n g.ic)
 rw [hwf] at q1 q2
 refine ⟨q1, ?_⟩
 have bb : Below W.heap.size W w10 := hy.bel.trans (ht.bel.mono (by omega))
 have b1 : Below W.heap.size w10 wa := (Below.refl _ w10).grown hg bb.size (fun x hx => by cases hx; omega)
 have b2 : Below W.heap.size wa wf := (Below.refl _ wa).grown q2 (bb.trans b1).size (fun x hx => by cases hx; omega)
 obtain ⟨g', e1, e2, e3, e4⟩ := po_mk (B := W.heap.size) (p := constF q) (w := wf) (own_offT (own_offT (own_low ht.us (show W.heap.size ≤ w9.heap.size from hy.bel.size)) p10 (by decide) hg) ra (by decide) q2) (own_offT (own_offT (own_low ht.po.s (by omega)) p10 (by decide) hg) ra (by decide) q2) (own_offT (own_offT (own_low ht.po.i (by omega)) p10 (by decide) hg) ra (by decide) q2) (Nat.le_trans (cnt_le _ _) hw.sz.1) hw.sz.2.1 hw.sz.2.2
 refine ⟨g', ?_, e4, (bb.trans b1).trans b2⟩
 show [_, _, _, _, _, _, _, _, _] = _
 rw [← e1, ← e2, ← e3]
 rfl
set_option maxRecDepth 10000 in
set_option maxHeartbeats 12800000 in
theorem tidyC {W : World} {g : Pg} {p : Pv} (h : g.Ok p W.heap.size W) (hT : Tab W) :
  Calls Tryz.prog 7 #[.agg (g.cs p).toArray] W (Tdy W p (verF p)) := by
 obtain ⟨W2, hW2⟩ : ∃ W2, (W.alloc (.cells (g.cs p).toArray 27)).alloc (.cells zP 27) = W2 := ⟨_, rfl⟩
 obtain ⟨p2, r2, B2⟩ := two_new hW2
 have s2 : W.heap.size + 2 = W2.heap.size := by rw [← hW2]; simp
 have HRC := hide (reachedC ((h.kept B2 (Nat.le_refl _)).wide B2.size) (hT.below B2 hT.z))
 have y0 := block_cell p2 0
 have y1 := block_cell p2 1
 have y2 := block_cell p2 2
 have y3 := block_cell p2 3
 have y4 := block_cell p2 4
 have y5 := block_cell p2 5
 have y6 := block_cell p2 6
 have y7 := block_cell p2 7
 have y8 := block_cell p2 8
 have yl := block_lt p2
 simp [Pg.cs] at y0 y1 y2 y3 y4 y5 y6 y7 y8
 have HP2 := hide p2
 have HR2 := hide r2
 have HB2 := hide B2
 have HS2 := hide s2
 have HTB := hide hT
 have HW2 := hide hW2
 obtain ⟨r, hr⟩ : ∃ r, verF p = r := ⟨_, rfl⟩
 have HVR := hide hr
 rw [hr] at HRC ⊢
 have HCS : Hid (∀ (g : Pg) (p : Pv), g.cs p = [.slice g.ca p.nc g.cc, .slice g.sa p.ns g.sc, .int .i64 (p.en 0), .int .i64 (p.en 1), .int .i64 (p.en 2), .int .i64 (p.en 3), .int .i64 (p.en 4), .int .i64 (p.en 5), .slice g.ia p.n g.ic]) := fun _ _ => rfl
 have HZ : Hid (zP = #[.slice none 0 0, .slice none 0 0, .int .i64 0, .int .i64 0, .int .i64 0, .int .i64 0, .int .i64 0, .int .i64 0, .slice none 0 0]) := rfl
 rw [HCS.out g p, HZ.out] at HW2
 rw [HCS.out g p] at HRC ⊢
 clear h hT hW2 p2 r2 B2 hr s2
 go_enter Tryz.func7, Tryz.ntmps7
 go_upto_region 1 with fail
 rw [HW2.out]
 clear HW2
 go_wp2_with fail
 refine HRC.out.mono ?_
 intro e w3 hh
 cases r with
 | error z =>
  obtain ⟨a, y⟩ := z
  obtain ⟨gf, rfl, G⟩ := hh
  rw [HZ.out]
  have p3 : w3.heap[W.heap.size]? = some (.cells (g.cs p).toArray 27 (0, 0)) := (G.out.2.block _ (block_lt HP2.out)).trans HP2.out
  have r3 : w3.heap[W.heap.size + 1]? = some (.cells zP 27 (0, 0)) := (G.out.2.block _ (block_lt HR2.out)).trans HR2.out
  have HS9 : Hid (∀ w4, set9 w3 W.heap.size (.slice none 0 0) (.slice none 0 0) (.int .i64 0) (.int .i64 0) (.int .i64 0) (.int .i64 0) (.int .i64 0) (.int .i64 0) (.slice none 0 0) = w4 → w4.heap[W.heap.size + 1]? = some (.cells zP 27 (0, 0)) ∧ Ft w4.heap.size w4 (.iface 74 (.pointer (some ⟨gf, 0, none⟩))) a y ∧ Below W.heap.size W w4) := fun w4 hwf => by
   obtain ⟨q1, q2⟩ := set9_blk p3 (by rfl) (.slice none 0 0) (.slice none 0 0) (.int .i64 0) (.int .i64 0) (.int .i64 0) (.int .i64 0) (.int .i64 0) (.int .i64 0) (.slice none 0 0)
   rw [hwf] at q1 q2
   have bb := HB2.out.trans (G.out.2.mono HB2.out.size)
   exact ⟨(q2.block _ (block_lt r3) (by simp)).trans r3, ft_off G.out.1 p3 (fun x => by simp [Pg.cs]) q2, bb.trans ((Below.refl _ w3).grown q2 bb.size (fun x hx => by cases hx; omega))⟩
  have t0 := block_cell p3 0
  have t1 := block_cell p3 1
  have t2 := block_cell p3 2
  have t3 := block_cell p3 3
  have t4 := block_cell p3 4
  have t5 := block_cell p3 5
  have t6 := block_cell p3 6
  have t7 := block_cell p3 7
  have t8 := block_cell p3 8
  have f0 := block_free p3 0
  have f1 := block_free p3 1
  have f2 := block_free p3 2
  have f3 := block_free p3 3
  have f4 := block_free p3 4
  have f5 := block_free p3 5
  have f6 := block_free p3 6
  have f7 := block_free p3 7
  have f8 := block_free p3 8
  have tl := block_lt p3
  simp [Pg.cs] at t0 t1 t2 t3 t4 t5 t6 t7 t8
  clear G HRC p3 r3 y0 y1 y2 y3 y4 y5 y6 y7 y8 yl
  go_upto_region 2 with fail
  generalize hw4 : World.setCell _ ⟨W.heap.size, 8, none⟩ _ = w4
  obtain ⟨r4, ft4, b4⟩ := HS9.out w4 hw4
  have HT9 : Hid (∀ wf, set9 w4 (W.heap.size + 1) (.slice none 0 0) (.slice none 0 0) (.int .i64 0) (.int .i64 0) (.int .i64 0) (.int .i64 0) (.int .i64 0) (.int .i64 0) (.slice none 0 0) = wf → wf.heap[W.heap.size + 1]? = some (.cells zP 27 (0, 0)) ∧ Ft wf.heap.size wf (.iface 74 (.pointer (some ⟨gf, 0, none⟩))) a y ∧ Below W.heap.size W wf) := fun wf hwf => by
   obtain ⟨q1, q2⟩ := set9_blk r4 rfl (.slice none 0 0) (.slice none 0 0) (.int .i64 0) (.int .i64 0) (.int .i64 0) (.int .i64 0) (.int .i64 0) (.int .i64 0) (.slice none 0 0)
   rw [hwf] at q1 q2
   exact ⟨q1, ft_off ft4 r4 (fun x => by simp [zP]) q2, b4.trans ((Below.refl _ w4).grown q2 b4.size (fun x hx => by cases hx; omega))⟩
  clear hw4 HS9 t0 t1 t2 t3 t4 t5 t6 t7 t8 f0 f1 f2 f3 f4 f5 f6 f7 f8 tl
  have t0 := block_cell r4 0
  have t1 := block_cell r4 1
  have t2 := block_cell r4 2
  have t3 := block_cell r4 3
  have t4 := block_cell r4 4
  have t5 := block_cell r4 5
  have t6 := block_cell r4 6
  have t7 := block_cell r4 7
  have t8 := block_cell r4 8
  have f0 := block_free r4 0
  have f1 := block_free r4 1
  have f2 := block_free r4 2
  have f3 := block_free r4 3
  have f4 := block_free r4 4
  have f5 := block_free r4 5
  have f6 := block_free r4 6
  have f7 := block_free r4 7
  have f8 := block_free r4 8
  have tl := block_lt r4
  simp [zP] at t0 t1 t2 t3 t4 t5 t6 t7 t8
  clear r4 ft4 b4
  go_wp2
  generalize hwf : World.setCell _ ⟨W.heap.size + 1, 8, none⟩ _ = wf
  obtain ⟨hblk, hft, hbel⟩ := HT9.out wf hwf
  have c0 := block_cell hblk 0
  have c1 := block_cell hblk 1
  have c2 := block_cell hblk 2
  have c3 := block_cell hblk 3
  have c4 := block_cell hblk 4
  have c5 := block_cell hblk 5
  have c6 := block_cell hblk 6
  have c7 := block_cell hblk 7
  have c8 := block_cell hblk 8
  simp [zP] at c0 c1 c2 c3 c4 c5 c6 c7 c8
  have HE : Hid (Ft wf.heap.size wf (.iface 74 (.pointer (some ⟨gf, 0, none⟩))) a y ∧ Below W.heap.size W wf) := ⟨hft, hbel⟩
  refine bodyPost_ret (v := .tuple #[.agg #[.slice none 0 0, .slice none 0 0, .int .i64 0, .int .i64 0, .int .i64 0, .int .i64 0, .int .i64 0, .int .i64 0, .slice none 0 0], .iface 74 (.pointer (some ⟨gf, 0, none⟩))]) (by simp [results, Tryz.results7, go_sem, c0, c1, c2, c3, c4, c5, c6, c7, c8]) rfl ?_
  exact ⟨gf, rfl, HE⟩
 | ok k =>
  obtain ⟨g1, rfl, G⟩ := hh
  obtain ⟨k2, hk2⟩ := short_ver HVR.out
  obtain ⟨cw1, k1, cv1, call⟩ := cut_ver HVR.out
  have cf1 := flow_of cv1
  have HK2 := hide hk2
  have HCU := hide (And.intro cw1 (And.intro cf1 call))
  clear hk2 cw1 cv1 call cf1
  have p3 : w3.heap[W.heap.size]? = some (.cells (g.cs p).toArray 27 (0, 0)) := (G.out.2.block _ (block_lt HP2.out)).trans HP2.out
  have HTY : Hid (∀ w4, set9 w3 W.heap.size (.slice g1.ca (cutF p (kOf k)).nc g1.cc) (.slice g1.sa (cutF p (kOf k)).ns g1.sc) (.int .i64 ((cutF p (kOf k)).en 0)) (.int .i64 ((cutF p (kOf k)).en 1)) (.int .i64 ((cutF p (kOf k)).en 2)) (.int .i64 ((cutF p (kOf k)).en 3)) (.int .i64 ((cutF p (kOf k)).en 4)) (.int .i64 ((cutF p (kOf k)).en 5)) (.slice g1.ia (cutF p (kOf k)).n g1.ic) = w4 → Ty W W2.heap.size g1 (cutF p (kOf k)) w4) := fun w4 hwf => by
   have r3 : w3.heap[W.heap.size + 1]? = some (.cells zP 27 (0, 0)) := (G.out.2.block _ (block_lt HR2.out)).trans HR2.out
   have bb := HB2.out.trans (G.out.2.mono HB2.out.size)
   exact Ty.put p3 (by rfl) r3 G.out.1 (HTB.out.below bb HTB.out.z) bb G.out.2.size HS2.out HTB.out.z hwf
  have t0 := block_cell p3 0
  have t1 := block_cell p3 1
  have t2 := block_cell p3 2
  have t3 := block_cell p3 3
  have t4 := block_cell p3 4
  have t5 := block_cell p3 5
  have t6 := block_cell p3 6
  have t7 := block_cell p3 7
  have t8 := block_cell p3 8
  have f0 := block_free p3 0
  have f1 := block_free p3 1
  have f2 := block_free p3 2
  have f3 := block_free p3 3
  have f4 := block_free p3 4
  have f5 := block_free p3 5
  have f6 := block_free p3 6
  have f7 := block_free p3 7
  have f8 := block_free p3 8
  have tl := block_lt p3
  simp [Pg.cs] at t0 t1 t2 t3 t4 t5 t6 t7 t8
  rw [HCS.out g1 (cutF p (kOf k))]
  clear G HRC p3 y0 y1 y2 y3 y4 y5 y6 y7 y8 yl
  go_upto_region 2 with fail
  generalize hw4 : World.setCell _ ⟨W.heap.size, 8, none⟩ _ = w4
  have H4 := hide (HTY.out w4 hw4)
  clear hw4 HTY t0 t1 t2 t3 t4 t5 t6 t7 t8 f0 f1 f2 f3 f4 f5 f6 f7 f8 tl
  have x8 := block_cell H4.out.pb 8
  have xl := block_lt H4.out.pb
  simp [Pg.cs] at x8
  have HSH := hide (shortAny H4.out.po HCU.out.1 HCU.out.2.1 HCU.out.2.2 H4.out.tab (by have := H4.out.hB; have := H4.out.z; omega) H4.out.lb)
  go_wp2_with fail
  refine HSH.out.mono ?_
  rintro e w5 ⟨rfl, G5⟩
  have H5 : Hid (Ty W W2.heap.size g1 (shortF (cutF p (kOf k))) w5) := by
   have hl : W.heap.size + 1 < W2.heap.size := by have := HS2.out; omega
   have bb : Below W.heap.size w4 w5 := G5.out.2.1.mono (by omega)
   exact ⟨(G5.out.2.1.block _ (by omega)).trans H4.out.pb, (G5.out.2.1.block _ hl).trans H4.out.rb, G5.out.1, H4.out.tab.below bb H4.out.z, H4.out.bel.trans bb, Nat.le_trans H4.out.lb G5.out.2.2, H4.out.hB, H4.out.z⟩
  clear G5 HSH H4 x8 xl
  have HR5 := hide (reachedC H5.out.po.ok H5.out.tab)
  rw [HK2.out, HCS.out g1 (shortF (cutF p (kOf k)))] at HR5
  have HP5 := hide H5.out.pb
  have y0 := block_cell HP5.out 0
  have y1 := block_cell HP5.out 1
  have y2 := block_cell HP5.out 2
  have y3 := block_cell HP5.out 3
  have y4 := block_cell HP5.out 4
  have y5 := block_cell HP5.out 5
  have y6 := block_cell HP5.out 6
  have y7 := block_cell HP5.out 7
  have y8 := block_cell HP5.out 8
  have yl := block_lt HP5.out
  simp [Pg.cs] at y0 y1 y2 y3 y4 y5 y6 y7 y8
  go_wp2_with fail
  refine HR5.out.mono ?_
  rintro e w6 ⟨g2, rfl, G6⟩
  have HTY : Hid (∀ w7, set9 w6 W.heap.size (.slice g2.ca (cutF (shortF (cutF p (kOf k))) (kOf k2)).nc g2.cc) (.slice g2.sa (cutF (shortF (cutF p (kOf k))) (kOf k2)).ns g2.sc) (.int .i64 ((cutF (shortF (cutF p (kOf k))) (kOf k2)).en 0)) (.int .i64 ((cutF (shortF (cutF p (kOf k))) (kOf k2)).en 1)) (.int .i64 ((cutF (shortF (cutF p (kOf k))) (kOf k2)).en 2)) (.int .i64 ((cutF (shortF (cutF p (kOf k))) (kOf k2)).en 3)) (.int .i64 ((cutF (shortF (cutF p (kOf k))) (kOf k2)).en 4)) (.int .i64 ((cutF (shortF (cutF p (kOf k))) (kOf k2)).en 5)) (.slice g2.ia (cutF (shortF (cutF p (kOf k))) (kOf k2)).n g2.ic) = w7 → Ty W W2.heap.size g2 (cutF (shortF (cutF p (kOf k))) (kOf k2)) w7) := fun w7 hwf => by
   have bb : Below W.heap.size w5 w6 := G6.out.2.mono H5.out.bel.size
   exact Ty.put ((G6.out.2.block _ (block_lt H5.out.pb)).trans H5.out.pb) (by rfl) ((G6.out.2.block _ (block_lt H5.out.rb)).trans H5.out.rb) (G6.out.1.low H5.out.lb) (H5.out.tab.below bb H5.out.z) (H5.out.bel.trans bb) (Nat.le_trans H5.out.lb G6.out.2.size) H5.out.hB H5.out.z hwf
  have HP6 : Hid (w6.heap[W.heap.size]? = some (.cells (g1.cs (shortF (cutF p (kOf k)))).toArray 27 (0, 0))) := (G6.out.2.block _ (block_lt H5.out.pb)).trans H5.out.pb
  have t0 := block_cell HP6.out 0
  have t1 := block_cell HP6.out 1
  have t2 := block_cell HP6.out 2
  have t3 := block_cell HP6.out 3
  have t4 := block_cell HP6.out 4
  have t5 := block_cell HP6.out 5
  have t6 := block_cell HP6.out 6
  have t7 := block_cell HP6.out 7
  have t8 := block_cell HP6.out 8
  have f0 := block_free HP6.out 0
  have f1 := block_free HP6.out 1
  have f2 := block_free HP6.out 2
  have f3 := block_free HP6.out 3
  have f4 := block_free HP6.out 4
  have f5 := block_free HP6.out 5
  have f6 := block_free HP6.out 6
  have f7 := block_free HP6.out 7
  have f8 := block_free HP6.out 8
  have tl := block_lt HP6.out
  simp [Pg.cs] at t0 t1 t2 t3 t4 t5 t6 t7 t8
  rw [HCS.out g2 (cutF (shortF (cutF p (kOf k))) (kOf k2))]
  clear G6 HR5 H5 HP5 HP6 y0 y1 y2 y3 y4 y5 y6 y7 y8 yl
  go_upto_region 6 with fail
  generalize hw7 : World.setCell _ ⟨W.heap.size, 8, none⟩ _ = w7
  have H7 := hide (HTY.out w7 hw7)
  clear hw7 HTY t0 t1 t2 t3 t4 t5 t6 t7 t8 f0 f1 f2 f3 f4 f5 f6 f7 f8 tl
  have HW3 : Hid (Wf (cutF (shortF (cutF p (kOf k))) (kOf k2))) := (cut_ver HK2.out).1
  have HWO := hide (withoutC H7.out.po HW3.out H7.out.tab H7.out.lb)
  rw [HCS.out g2 (cutF (shortF (cutF p (kOf k))) (kOf k2))] at HWO
  have HP7 := hide H7.out.pb
  have y0 := block_cell HP7.out 0
  have y1 := block_cell HP7.out 1
  have y2 := block_cell HP7.out 2
  have y3 := block_cell HP7.out 3
  have y4 := block_cell HP7.out 4
  have y5 := block_cell HP7.out 5
  have y6 := block_cell HP7.out 6
  have y7 := block_cell HP7.out 7
  have y8 := block_cell HP7.out 8
  have yl := block_lt HP7.out
  simp [Pg.cs] at y0 y1 y2 y3 y4 y5 y6 y7 y8
  go_wp2_with fail
  refine HWO.out.mono ?_
  rintro e w8 ⟨g3, rfl, G8⟩
  have HTY : Hid (∀ w9, set9 w8 W.heap.size (.slice g3.ca (idleF (cutF (shortF (cutF p (kOf k))) (kOf k2)).n (cutF (shortF (cutF p (kOf k))) (kOf k2))).nc g3.cc) (.slice g3.sa (idleF (cutF (shortF (cutF p (kOf k))) (kOf k2)).n (cutF (shortF (cutF p (kOf k))) (kOf k2))).ns g3.sc) (.int .i64 ((idleF (cutF (shortF (cutF p (kOf k))) (kOf k2)).n (cutF (shortF (cutF p (kOf k))) (kOf k2))).en 0)) (.int .i64 ((idleF (cutF (shortF (cutF p (kOf k))) (kOf k2)).n (cutF (shortF (cutF p (kOf k))) (kOf k2))).en 1)) (.int .i64 ((idleF (cutF (shortF (cutF p (kOf k))) (kOf k2)).n (cutF (shortF (cutF p (kOf k))) (kOf k2))).en 2)) (.int .i64 ((idleF (cutF (shortF (cutF p (kOf k))) (kOf k2)).n (cutF (shortF (cutF p (kOf k))) (kOf k2))).en 3)) (.int .i64 ((idleF (cutF (shortF (cutF p (kOf k))) (kOf k2)).n (cutF (shortF (cutF p (kOf k))) (kOf k2))).en 4)) (.int .i64 ((idleF (cutF (shortF (cutF p (kOf k))) (kOf k2)).n (cutF (shortF (cutF p (kOf k))) (kOf k2))).en 5)) (.slice g3.ia (idleF (cutF (shortF (cutF p (kOf k))) (kOf k2)).n (cutF (shortF (cutF p (kOf k))) (kOf k2))).n g3.ic) = w9 → Ty W W2.heap.size g3 (idleF (cutF (shortF (cutF p (kOf k))) (kOf k2)).n (cutF (shortF (cutF p (kOf k))) (kOf k2))) w9) := fun w9 hwf => by
   have bb : Below W.heap.size w7 w8 := G8.out.2.mono H7.out.bel.size
   exact Ty.put ((G8.out.2.block _ (block_lt H7.out.pb)).trans H7.out.pb) (by rfl) ((G8.out.2.block _ (block_lt H7.out.rb)).trans H7.out.rb) G8.out.1 (H7.out.tab.below bb H7.out.z) (H7.out.bel.trans bb) (Nat.le_trans H7.out.lb G8.out.2.size) H7.out.hB H7.out.z hwf
  have HP8 : Hid (w8.heap[W.heap.size]? = some (.cells (g2.cs (cutF (shortF (cutF p (kOf k))) (kOf k2))).toArray 27 (0, 0))) := (G8.out.2.block _ (block_lt H7.out.pb)).trans H7.out.pb
  have t0 := block_cell HP8.out 0
  have t1 := block_cell HP8.out 1
  have t2 := block_cell HP8.out 2
  have t3 := block_cell HP8.out 3
  have t4 := block_cell HP8.out 4
  have t5 := block_cell HP8.out 5
  have t6 := block_cell HP8.out 6
  have t7 := block_cell HP8.out 7
  have t8 := block_cell HP8.out 8
  have f0 := block_free HP8.out 0
  have f1 := block_free HP8.out 1
  have f2 := block_free HP8.out 2
  have f3 := block_free HP8.out 3
  have f4 := block_free HP8.out 4
  have f5 := block_free HP8.out 5
  have f6 := block_free HP8.out 6
  have f7 := block_free HP8.out 7
  have f8 := block_free HP8.out 8
  have tl := block_lt HP8.out
  simp [Pg.cs] at t0 t1 t2 t3 t4 t5 t6 t7 t8
  rw [HCS.out g3 (idleF (cutF (shortF (cutF p (kOf k))) (kOf k2)).n (cutF (shortF (cutF p (kOf k))) (kOf k2)))]
  have HW4 : Hid (Wf (idleF (cutF (shortF (cutF p (kOf k))) (kOf k2)).n (cutF (shortF (cutF p (kOf k))) (kOf k2)))) := idleF_wf HW3.out
  have HTD : Hid (tidF p k k2 = constF (idleF (cutF (shortF (cutF p (kOf k))) (kOf k2)).n (cutF (shortF (cutF p (kOf k))) (kOf k2)))) := rfl
  clear G8 HWO H7 HP7 HP8 HW3 y0 y1 y2 y3 y4 y5 y6 y7 y8 yl
  generalize (idleF (cutF (shortF (cutF p (kOf k))) (kOf k2)).n (cutF (shortF (cutF p (kOf k))) (kOf k2))) = q at *
  go_upto_region 9 with fail
  generalize hw9 : World.setCell _ ⟨W.heap.size, 8, none⟩ _ = w9
  have H9 := hide (HTY.out w9 hw9)
  clear hw9 HTY t0 t1 t2 t3 t4 t5 t6 t7 t8 f0 f1 f2 f3 f4 f5 f6 f7 f8 tl
  have HTR := hide (trimC H9.out.po HW4.out H9.out.lb)
  rw [HCS.out g3 q] at HTR
  have HP9 := hide H9.out.pb
  have y0 := block_cell HP9.out 0
  have y1 := block_cell HP9.out 1
  have y2 := block_cell HP9.out 2
  have y3 := block_cell HP9.out 3
  have y4 := block_cell HP9.out 4
  have y5 := block_cell HP9.out 5
  have y6 := block_cell HP9.out 6
  have y7 := block_cell HP9.out 7
  have y8 := block_cell HP9.out 8
  have yl := block_lt HP9.out
  simp [Pg.cs] at y0 y1 y2 y3 y4 y5 y6 y7 y8
  go_wp2_with fail
  refine HTR.out.mono ?_
  rintro e w10 ⟨va, vp, mb, rfl, G10⟩
  have HFT := hide (fun wa => fin_ty (wa := wa) H9.out HW4.out G10.out)
  have HP10 : Hid (w10.heap[W.heap.size]? = some (.cells (g3.cs q).toArray 27 (0, 0))) := (G10.out.bel.block _ (by have := H9.out.hB; omega)).trans H9.out.pb
  have t0 := block_cell HP10.out 0
  have f0 := block_free HP10.out 0
  have tl := block_lt HP10.out
  simp [Pg.cs] at t0
  clear G10 HTR H9 HP9 HP10 y0 y1 y2 y3 y4 y5 y6 y7 y8 yl
  go_upto_region 10 with fail
  generalize hwa : World.setCell _ ⟨W.heap.size, 0, none⟩ _ = wa
  obtain ⟨pa, ra, hfin⟩ := HFT.out wa hwa
  have HFN := hide hfin
  clear hwa HFT hfin t0 f0 tl
  have y0 := block_cell pa 0
  have y1 := block_cell pa 1
  have y2 := block_cell pa 2
  have y3 := block_cell pa 3
  have y4 := block_cell pa 4
  have y5 := block_cell pa 5
  have y6 := block_cell pa 6
  have y7 := block_cell pa 7
  have y8 := block_cell pa 8
  have yl := block_lt pa
  simp at y0 y1 y2 y3 y4 y5 y6 y7 y8
  have t0 := block_cell ra 0
  have t1 := block_cell ra 1
  have t2 := block_cell ra 2
  have t3 := block_cell ra 3
  have t4 := block_cell ra 4
  have t5 := block_cell ra 5
  have t6 := block_cell ra 6
  have t7 := block_cell ra 7
  have t8 := block_cell ra 8
  have f0 := block_free ra 0
  have f1 := block_free ra 1
  have f2 := block_free ra 2
  have f3 := block_free ra 3
  have f4 := block_free ra 4
  have f5 := block_free ra 5
  have f6 := block_free ra 6
  have f7 := block_free ra 7
  have f8 := block_free ra 8
  have tl := block_lt ra
  simp [zP] at t0 t1 t2 t3 t4 t5 t6 t7 t8
  clear pa ra
  go_wp2
  generalize hwf : World.setCell _ ⟨W.heap.size + 1, 8, none⟩ _ = wf
  obtain ⟨hblk, g', hcs, hpo, hbel⟩ := HFN.out wf hwf
  have c0 := block_cell hblk 0
  have c1 := block_cell hblk 1
  have c2 := block_cell hblk 2
  have c3 := block_cell hblk 3
  have c4 := block_cell hblk 4
  have c5 := block_cell hblk 5
  have c6 := block_cell hblk 6
  have c7 := block_cell hblk 7
  have c8 := block_cell hblk 8
  simp at c0 c1 c2 c3 c4 c5 c6 c7 c8
  have HE : Hid (verF (shortF (cutF p (kOf k))) = .ok k2 ∧ Po W.heap.size g' (tidF p k k2) wf ∧ Below W.heap.size W wf) := ⟨HK2.out, by rw [HTD.out]; exact hpo, hbel⟩
  refine bodyPost_ret (v := .tuple #[.agg #[.slice va (cnt (usd q) q.nc) vp, .slice g3.sa q.ns g3.sc, .int .i64 (q.en 0), .int .i64 (q.en 1), .int .i64 (q.en 2), .int .i64 (q.en 3), .int .i64 (q.en 4), .int .i64 (q.en 5), .slice g3.ia q.n g3.ic], .nilIface]) (by simp [results, Tryz.results7, go_sem, c0, c1, c2, c3, c4, c5, c6, c7, c8]) rfl ?_
  exact ⟨k2, g', by rw [HTD.out, hcs], HE⟩
end Go.Proofs.YtggpaljilpbmhaaGreatDoor
