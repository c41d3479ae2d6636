import Derived.Test.YtggpaljilpbmhaaGreatDoorZ31
import Derived.Test.YtggpaljilpbmhaaGreatDoorZ34
namespace Go.Proofs.YtggpaljilpbmhaaGreatDoor
open Go.RowKit

/-- The fault of an instruction that is refused. -/
def fzI (pos : Nat) (B : List Nat) : Fz :=
 if aheadW B 1 = 0 then (if isO (hi (aheadV B 1) : Nat) = true then fzP ((pos + 1 : Nat) : Int) 84 (numAt (B.drop 1)) else fzO pos 83) else fzW pos (aheadW B 1)
set_option maxRecDepth 10000 in
set_option maxHeartbeats 3200000 in
theorem insX {lim rp : Nat} {w : World} {B : List Nat} {pos : Nat} (h : RdS lim w rp (rsU B pos)) (hg : ErrT w) (hT : Tab w) (hz : 10 < rp) : Calls Tryz.prog 106 #[.agg #[.pointer (some ⟨rp, 0, none⟩)]] w (RdX lim rp B pos (inR (B.drop pos)).2.2.1 (inR (B.drop pos)).2.2.2 (fzI pos (B.drop pos)) (.agg #[.int .i64 ((inR (B.drop pos)).1 : Nat), .int .i64 ((inR (B.drop pos)).2.1 : Nat)]) w) := by
 obtain ⟨W1, hW1⟩ : ∃ W1, (w.alloc (.cells #[.pointer (some ⟨rp, 0, none⟩)] 185)).alloc (.cells #[.int .i64 0, .int .i64 0] 42) = W1 := ⟨_, rfl⟩
 obtain ⟨q0, q1, b1⟩ := two_box2L w _ _ _ _ hW1
 have hR : RdS lim W1 rp (rsU B pos) := h.kept (row := none) (grown_belowU b1) (fun g e => by cases e)
 have HAT := hide (rAtP (po := some ⟨rp, 0, none⟩) (.inr ⟨rp, rfl, hR⟩))
 have hg1 : ErrT W1 := (b1.cell (p := ⟨1, 0, none⟩) hg.lt).trans hg
 have hne : 1 ≠ rp := by omega
 have HOC := hide (octetX hR hg1 hne)
 have HW1 := hide hW1
 have HB1 := hide (grown_weakU (grown_belowU b1) rp)
 have HQ0 := hide q0
 have HQ1 := hide q1
 have HG1 := hide hg1
 have HT1 : Hid (Tab W1) := hT.below b1 hT.z
 have hpl : w.heap.size ≠ rp ∧ w.heap.size + 1 ≠ rp := by have := h.plt; omega
 have HNE := hide hpl
 have HPLT : Hid (rp < w.heap.size) := h.plt
 have hrl : rp < W1.heap.size := Nat.lt_of_lt_of_le h.plt b1.size
 have HZ := hide (And.intro hz hrl)
 have ho256 : hi (aheadV (B.drop pos) 1) < 256 := by have := hi_take_lt (k := 1) (rest_lt h).1; rw [rsU_rest] at this; simpa using this
 have z0 := block_cell q0 0
 have zl := block_lt q0
 simp at z0
 obtain ⟨r, hr⟩ : ∃ r, inR (B.drop pos) = r := ⟨_, rfl⟩
 have HR := hide hr
 obtain ⟨fz, hfz⟩ : ∃ f, fzI pos (B.drop pos) = f := ⟨_, rfl⟩
 have HFZ := hide hfz
 obtain ⟨o, ho⟩ : ∃ o, hi (aheadV (B.drop pos) 1) = o := ⟨_, rfl⟩
 obtain ⟨wo, hwo⟩ : ∃ wo, aheadW (B.drop pos) 1 = wo := ⟨_, rfl⟩
 have HOW := hide (And.intro ho hwo)
 rw [ho, hwo] at HOC
 rw [ho] at ho256
 rw [hr, hfz]
 clear hfz hW1 b1 q0 q1 hR h hg hne hr hg1 hT hpl hz hrl ho hwo
 go_enter Tryz.func106, Tryz.ntmps106
 go_upto_region 1 with fail
 rw [HW1.out]
 clear HW1
 go_wp2_with fail
 refine HAT.out.mono ?_
 rintro x w2 ⟨rfl, rfl⟩
 clear HAT
 go_wp2_with fail
 refine HOC.out.mono ?_
 rintro x w3 ⟨G3, h3⟩
 have HB3 : Hid (w.grownBy w3 (some rp)) := grown_trans (row := some rp) HB1.out G3.out
 have HT3 : Hid (Tab w3) := tab_grownU HT1.out HZ.out.1 HZ.out.2 G3.out
 have HG3 : Hid (ErrT w3) := err_grownU HG1.out HZ.out.1 G3.out
 have hq0 := (G3.out.block _ (block_lt HQ0.out) (by simpa using HNE.out.1)).trans HQ0.out
 have hq1 := (G3.out.block _ (block_lt HQ1.out) (by simpa using HNE.out.2)).trans HQ1.out
 have HP0 := hide hq0
 have HP1 := hide hq1
 clear hq0 hq1 G3 HQ0 HQ1 HT1 HG1 HB1 HOC
 rcases h3 with ⟨hw, rfl, hR3⟩ | ⟨hw, gf, rfl, HCH⟩
 ·subst hw
  have hu : IntKind.i64.wrap ((o : Nat) : Int) = ((o : Nat) : Int) := by simp [IntKind.wrap, IntKind.bits, IntKind.signed]; omega
  have HR3 := hide hR3.out
  clear hR3 z0 zl
  go_upto_region 3 with fail
  obtain ⟨w4, hw4⟩ : ∃ w', w3.alloc (.cells #[.int .i64 (o : Nat), .int .i64 0] 42) = w' := ⟨_, rfl⟩
  have b4 : Below w3.heap.size w3 w4 := by rw [← hw4]; exact below_alloc1 _ _
  have a4 : w4.heap[w3.heap.size]? = some (.cells #[.int .i64 (o : Nat), .int .i64 0] 42 (0, 0)) := by rw [← hw4]; exact alloc_atK _ _
  rw [hw4]
  clear hw4
  obtain ⟨nb, hnb⟩ : ∃ b, w3.heap.size = b := ⟨_, rfl⟩
  rw [hnb] at a4 ⊢
  have HR4 : Hid (RdS lim w4 rp (rsU B (pos + 1))) := HR3.out.kept (row := none) (grown_belowU b4) (fun g e => by cases e)
  have HB4 : Hid (w.grownBy w4 (some rp)) := grown_trans (row := some rp) HB3.out (grown_weakU (grown_belowU b4) rp)
  have HT4 : Hid (Tab w4) := HT3.out.below b4 HT3.out.z
  have HG4 : Hid (ErrT w4) := (b4.cell (p := ⟨1, 0, none⟩) HG3.out.lt).trans HG3.out
  have HP04 := hide ((b4.block _ (block_lt HP0.out)).trans HP0.out)
  have HP14 := hide ((b4.block _ (block_lt HP1.out)).trans HP1.out)
  have HA4 := hide a4
  have HNB : Hid (w.heap.size + 1 < nb ∧ rp < nb) := ⟨by have := block_lt HP1.out; omega, by have := HR3.out.plt; omega⟩
  clear b4 a4 hnb HR3 HB3 HT3 HG3 HP0 HP1
  have y0 := block_cell HA4.out 0
  have y1 := block_cell HA4.out 1
  have yl := block_lt HA4.out
  simp at y0 y1
  go_wp2_with fail
  refine (isOp_any _ _).mono ?_
  rintro x w5 ⟨rfl, rfl⟩
  cases hio : isO ((o : Nat) : Int) with
  | false =>
   have HRW : Hid (r.2.2.2 = 1) := by
    have : r.2.2.2 = 1 := by rw [← HR.out]; unfold inR; simp only [HOW.out.1, HOW.out.2]; rw [if_pos trivial, if_neg (by rw [hio]; decide)]
    exact this
   have HFX : Hid (fzI pos (B.drop pos) = fzO pos 83) := by
    have : fzI pos (B.drop pos) = fzO pos 83 := by unfold fzI; simp only [HOW.out.1, HOW.out.2]; rw [if_pos trivial, if_neg (by rw [hio]; decide)]
    exact this
   clear hio
   go_wp2_with fail
   refine (giveUp_any _ _ _).mono ?_
   rintro x w6 ⟨gf, rfl, G6⟩
   have HB6 : Hid (w.grownBy w6 (some rp)) := grown_trans (row := some rp) HB4.out (grown_weakU (grown_belowU G6.out.2) rp)
   have HC6 : Hid (Chain w6.heap.size w6 fz.1 (.iface 74 (.pointer (some ⟨gf, 0, none⟩))) fz.2) := by
    rw [← HFZ.out, HFX.out]
    exact G6.out.1
   clear G6 HB4 y0 y1 yl
   go_wp2
   exact ⟨rfl, HB6, .inr ⟨by rw [HRW.out]; decide, gf, rfl, HC6⟩⟩
  | true =>
   have ho32 : o ≤ 32 := by simp [isO] at hio; omega
   have t0 := HT4.out.a o ho32
   by_cases hfa : fArg o = 0
   ·have HRW : Hid (r = (o, 0, 1, 0)) := by
     have : r = (o, 0, 1, 0) := by rw [← HR.out]; unfold inR; simp only [HOW.out.1, HOW.out.2]; rw [if_pos hfa, if_pos hfa, if_pos trivial, if_pos hio, if_pos hfa]
     exact this
    rw [hfa] at t0
    clear hio hfa
    go_upto_region 7 with fail
    have e0 := block_cell HP14.out 0
    have e1 := block_cell HP14.out 1
    have f0 := block_free HP14.out 0
    have f1 := block_free HP14.out 1
    have el := block_lt HP14.out
    simp at e0 e1
    clear t0
    go_wp2
    generalize hwf : World.setCell _ _ _ = wf
    have HX : Hid (wf.heap[w.heap.size + 1]? = some (.cells #[.int .i64 (o : Nat), .int .i64 0] 42 (0, 0)) ∧ w5.grownBy wf (some (w.heap.size + 1))) := by
     rw [← hwf]
     refine ⟨?_, grown_tr (grown_setT _ _ _ _) (grown_setT _ _ _ _)⟩
     simp [World.setCell, Array.getElem?_modify, HP14.out]
    have c0 := block_cell HX.out.1 0
    have c1 := block_cell HX.out.1 1
    simp at c0 c1
    refine bodyPost_ret (v := .agg #[.int .i64 (o : Nat), .int .i64 0]) (by simp [results, Tryz.results106, go_sem, c0, c1]) rfl ?_
    rw [HRW.out]
    exact ⟨grown_newU HB4.out HX.out.2 (by omega), .inl ⟨rfl, rfl, HR4.out.kept HX.out.2 (fun g e => by cases e; exact ⟨Nat.le_trans HR4.out.limp (by have := HPLT.out; omega), fun q => HNE.out.2 q⟩)⟩⟩
   ·have hfb2 : ((fArg o : Int) != 0) = true := by simp; omega
    have HPC : Hid (Calls Tryz.prog 105 #[.agg #[.pointer (some ⟨rp, 0, none⟩)], .int .u64 1023, .int .i64 84] w5 (RdX lim rp B (pos + 1) (numAt (B.drop (pos + 1))).2.1 (plW 1023 (numAt (B.drop (pos + 1)))) (fzP ((pos + 1 : Nat) : Int) 84 (numAt (B.drop (pos + 1)))) (.int .i64 ((numAt (B.drop (pos + 1))).1 : Nat)) w5)) := placeX HR4.out HG4.out (by have := HZ.out.1; omega) 1023 (by decide) 84
    have d0 := block_cell HP04.out 0
    have dl := block_lt HP04.out
    simp at d0
    clear HP04
    obtain ⟨rr, hrr⟩ : ∃ rr, numAt (B.drop (pos + 1)) = rr := ⟨_, rfl⟩
    obtain ⟨a, sz, wa⟩ := rr
    have HRW : Hid (r = (o, a, 1 + sz, plW 1023 (a, sz, wa))) := by
     have : r = (o, a, 1 + sz, plW 1023 (a, sz, wa)) := by
      rw [← HR.out]; unfold inR; simp only [HOW.out.1, HOW.out.2, List.drop_drop]; rw [if_neg hfa, if_neg hfa, if_pos trivial, if_pos hio, if_neg hfa, hrr]
     exact this
    have HFX : Hid (fzI pos (B.drop pos) = fzP ((pos + 1 : Nat) : Int) 84 (a, sz, wa)) := by
     have : fzI pos (B.drop pos) = fzP ((pos + 1 : Nat) : Int) 84 (a, sz, wa) := by unfold fzI; simp only [HOW.out.1, HOW.out.2, List.drop_drop]; rw [if_pos trivial, if_pos hio, hrr]
     exact this
    rw [hrr] at HPC
    generalize fArg o = fo at t0 hfb2 hfa
    clear hio hfa hrr
    go_wp2_with fail
    refine HPC.out.mono ?_
    rintro x w6 ⟨G6, h6⟩
    have HB6 : Hid (w.grownBy w6 (some rp)) := grown_trans (row := some rp) HB4.out G6.out
    rcases h6 with ⟨hw6, rfl, hR6⟩ | ⟨hw6, gf, rfl, HCH⟩
    ·have HW6 := hide hw6
     have HR6 := hide hR6.out
     have HP6 := hide ((G6.out.block _ (block_lt HP14.out) (by simpa using HNE.out.2)).trans HP14.out)
     have HA6 := hide ((G6.out.block _ yl (by have := HNB.out; simp; omega)).trans HA4.out)
     clear d0 dl
     clear hw6 hR6 G6 HPC y0 y1 yl t0 hfb2 HP14 HA4 HR4 HB4 HT4 HG4
     have y0 := block_cell HA6.out 0
     have y1 := block_cell HA6.out 1
     have g0 := block_free HA6.out 0
     have g1 := block_free HA6.out 1
     have yl := block_lt HA6.out
     simp at y0 y1
     go_upto_region 7 with fail
     generalize hwg : World.setCell _ _ _ = wg
     have HA7 : Hid (wg.heap[nb]? = some (.cells #[.int .i64 (o : Nat), .int .i64 (a : Nat)] 42 (0, 0)) ∧ w6.grownBy wg (some nb)) := by
      rw [← hwg]
      refine ⟨?_, grown_setT _ _ _ _⟩
      simp [World.setCell, Array.getElem?_modify, HA6.out]
     have HP7 := hide ((HA7.out.2.block _ (block_lt HP6.out) (by have := HNB.out; simp; omega)).trans HP6.out)
     have HR7 : Hid (RdS lim wg rp (rsU B (pos + 1 + sz))) := HR6.out.kept HA7.out.2 (fun g e => by cases e; exact ⟨Nat.le_trans HR6.out.limp (by have := HNB.out; omega), by have := HNB.out; omega⟩)
     have HB7 := hide (grown_newU HB6.out HA7.out.2 (by have := HNB.out; omega))
     clear y0 y1 g0 g1 yl hwg HA6 HP6 HR6 HB6
     have y0 := block_cell HA7.out.1 0
     have y1 := block_cell HA7.out.1 1
     have yl := block_lt HA7.out.1
     have e0 := block_cell HP7.out 0
     have e1 := block_cell HP7.out 1
     have f0 := block_free HP7.out 0
     have f1 := block_free HP7.out 1
     have el := block_lt HP7.out
     simp at y0 y1 e0 e1
     go_wp2
     generalize hwf : World.setCell _ _ _ = wf
     have HX : Hid (wf.heap[w.heap.size + 1]? = some (.cells #[.int .i64 (o : Nat), .int .i64 (a : Nat)] 42 (0, 0)) ∧ wg.grownBy wf (some (w.heap.size + 1))) := by
      rw [← hwf]
      refine ⟨?_, grown_tr (grown_setT _ _ _ _) (grown_setT _ _ _ _)⟩
      simp [World.setCell, Array.getElem?_modify, HP7.out]
     have c0 := block_cell HX.out.1 0
     have c1 := block_cell HX.out.1 1
     simp at c0 c1
     refine bodyPost_ret (v := .agg #[.int .i64 (o : Nat), .int .i64 (a : Nat)]) (by simp [results, Tryz.results106, go_sem, c0, c1]) rfl ?_
     rw [HRW.out]
     refine ⟨grown_newU HB7.out HX.out.2 (by omega), .inl ⟨HW6.out, rfl, ?_⟩⟩
     have hk := HR7.out.kept HX.out.2 (fun g e => by cases e; exact ⟨Nat.le_trans HR7.out.limp (by have := HR7.out.plt; have := HNE.out; have := block_lt HX.out.1; have := HPLT.out; omega), fun q => HNE.out.2 q⟩)
     rw [Nat.add_assoc] at hk
     exact hk
    ·have HW6 := hide hw6
     have HC6 : Hid (Chain w6.heap.size w6 fz.1 (.iface 74 (.pointer (some ⟨gf, 0, none⟩))) fz.2) := by
      rw [← HFZ.out, HFX.out]
      exact HCH
     clear hw6 G6 HPC y0 y1 yl t0 hfb2 d0 dl HCH
     go_wp2
     exact ⟨rfl, HB6, .inr ⟨by rw [HRW.out]; exact HW6.out, gf, rfl, HC6⟩⟩
 ·have HRW : Hid (r.2.2.2 ≠ 0) := by
   have : r.2.2.2 ≠ 0 := by rw [← HR.out]; unfold inR; simp only [HOW.out.2]; rw [if_neg hw]; exact hw
   exact this
  have HC3 : Hid (Chain w3.heap.size w3 fz.1 (.iface 74 (.pointer (some ⟨gf, 0, none⟩))) fz.2) := by
   have e : fzI pos (B.drop pos) = fzW pos wo := by unfold fzI; simp only [HOW.out.2]; rw [if_neg hw]
   rw [← HFZ.out, e, ← HOW.out.2]
   rw [HOW.out.2]
   exact HCH
  clear hw z0 zl HCH
  go_wp2
  exact ⟨rfl, HB3, .inr ⟨HRW.out, gf, rfl, HC3⟩⟩
end Go.Proofs.YtggpaljilpbmhaaGreatDoor
namespace Go.Proofs.YtggpaljilpbmhaaGreatDoor
open Go.RowKit

theorem leaves_congr {P : Program} {fn : Func} {t1 t2 : Array Value} {R : Ending → World → Prop} (h : ∀ w, (results fn t1).run P w = (results fn t2).run P w) : ∀ (ds : List Deferred) (u : FrameMode) (w : World), Leaves P fn t1 R ds u w → Leaves P fn t2 R ds u w
 | [], u, w, hl => by
  cases u with
  | run => exact hl
  | returning =>
   obtain ⟨v, hr, hR⟩ := hl
   exact ⟨v, by rw [← h]; exact hr, hR⟩
  | panicking chain => exact hl
 | d :: ds, u, w, hl => by
  obtain ⟨hrun, fv, cap, f, args, htar, hinv, hcall⟩ := hl
  refine ⟨hrun, fv, cap, f, args, htar, hinv, hcall.mono fun e u' w' hh => ?_⟩
  cases e with
  | returned v => exact leaves_congr h ds _ _ hh
  | panicked chain => exact leaves_congr h ds _ _ hh
  | outgrown => exact hh
end Go.Proofs.YtggpaljilpbmhaaGreatDoor
namespace Go.Proofs.YtggpaljilpbmhaaGreatDoor
open Go.RowKit

section
variable {α ε : Type}
def loopE (f : Nat → α → Except ε α) : Nat → α → Except ε α
 | 0, s => .ok s
 | n + 1, s => match loopE f n s with
  | .ok s' => f n s'
  | .error e => .error e
theorem loopE_next {f : Nat → α → Except ε α} {i : Nat} {s0 s : α} (h : loopE f i s0 = .ok s) : loopE f (i + 1) s0 = f i s := by
 simp only [loopE, h]
theorem loopE_fail {f : Nat → α → Except ε α} {i : Nat} {s0 s : α} {e : ε} (h : loopE f i s0 = .ok s) (he : f i s = .error e) : ∀ n, i < n → loopE f n s0 = .error e
 | 0, hi => absurd hi (Nat.not_lt_zero i)
 | n + 1, hi => by
  by_cases hn : i = n
  ·subst hn; rw [loopE_next h, he]
  ·have := loopE_fail h he n (by omega)
   simp only [loopE, this]
end
def stp1 (B : List Nat) (i : Nat) (s : Pv × Nat) : Except Fz (Pv × Nat) :=
 if (numAt (B.drop s.2)).2.2 = 0 then .ok (setC s.1 i ((numAt (B.drop s.2)).1 : Nat), s.2 + (numAt (B.drop s.2)).2.1) else .error (fzW s.2 (numAt (B.drop s.2)).2.2)
def stp2 (B : List Nat) (i : Nat) (s : Pv × Nat) : Except Fz (Pv × Nat) :=
 if aheadW (B.drop s.2) 1 = 0 then .ok (setS s.1 i (hi (aheadV (B.drop s.2) 1) : Nat), s.2 + 1) else .error (fzW s.2 (aheadW (B.drop s.2) 1))
def stp3 (B : List Nat) (i : Nat) (s : Pv × Nat) : Except Fz (Pv × Nat) :=
 if plW 1024 (numAt (B.drop s.2)) = 0 then .ok (setE s.1 i (((numAt (B.drop s.2)).1 : Nat) - 1 : Int), s.2 + (numAt (B.drop s.2)).2.1) else .error (fzP s.2 82 (numAt (B.drop s.2)))
def stp4 (B : List Nat) (i : Nat) (s : Pv × Nat) : Except Fz (Pv × Nat) :=
 if (inR (B.drop s.2)).2.2.2 = 0 then .ok (setI s.1 i ((inR (B.drop s.2)).1 : Nat) ((inR (B.drop s.2)).2.1 : Nat), s.2 + (inR (B.drop s.2)).2.2.1) else .error (fzI s.2 (B.drop s.2))
/-- What is read of bytes, stage by stage: the program, or the fault. -/
def aft4 (B : List Nat) : Except Fz (Pv × Nat) → Except Fz Pv
 | .error f => .error f
 | .ok s => if s.2 < B.length then .error (fzW s.2 28) else .ok s.1
def aft3 (B : List Nat) : Except Fz (Pv × Nat) → Except Fz Pv
 | .error f => .error f
 | .ok s => if (countAt (B.drop s.2) 1024).2.2 = 0 then aft4 B (loopE (stp4 B) (countAt (B.drop s.2) 1024).1 (setN s.1 (countAt (B.drop s.2) 1024).1, s.2 + (countAt (B.drop s.2) 1024).2.1)) else .error (fzW s.2 (countAt (B.drop s.2) 1024).2.2)
def aft2 (B : List Nat) : Except Fz (Pv × Nat) → Except Fz Pv
 | .error f => .error f
 | .ok s => aft3 B (loopE (stp3 B) 6 s)
def aft1 (B : List Nat) : Except Fz (Pv × Nat) → Except Fz Pv
 | .error f => .error f
 | .ok s => if (countAt (B.drop s.2) 128).2.2 = 0 then aft2 B (loopE (stp2 B) (countAt (B.drop s.2) 128).1 (setNs s.1 (countAt (B.drop s.2) 128).1, s.2 + (countAt (B.drop s.2) 128).2.1)) else .error (fzW s.2 (countAt (B.drop s.2) 128).2.2)
def ini1 (n : Nat) : Pv := ⟨n, 0, 0, fun _ => 0, fun _ => 0, fun _ => 0, fun _ => 0, fun _ => 0⟩
def upR (B : List Nat) : Except Fz Pv :=
 if hdW B = 0 then (if (countAt (B.drop 3) 256).2.2 = 0 then aft1 B (loopE (stp1 B) (countAt (B.drop 3) 256).1 (ini1 (countAt (B.drop 3) 256).1, 3 + (countAt (B.drop 3) 256).2.1)) else .error (fzW 3 (countAt (B.drop 3) 256).2.2)) else .error (fzH B)
structure Ex (B : List Nat) (stp : Nat → Pv × Nat → Except Fz (Pv × Nat)) (aft : Except Fz (Pv × Nat) → Except Fz Pv) (n i : Nat) (q : Pv) (pos : Nat) : Prop where
 e : ∃ s0, upR B = aft (loopE stp n s0) ∧ loopE stp i s0 = .ok (q, pos)
section
variable {B : List Nat} {stp : Nat → Pv × Nat → Except Fz (Pv × Nat)} {aft : Except Fz (Pv × Nat) → Except Fz Pv} {n i : Nat} {q : Pv} {pos : Nat}
theorem Ex.fail (h : Ex B stp aft n i q pos) (ha : ∀ f, aft (.error f) = .error f) (hi : i < n) {f : Fz} (hf : stp i (q, pos) = .error f) : upR B = .error f := by
 obtain ⟨s0, h1, h2⟩ := h.e
 rw [h1, loopE_fail h2 hf n hi, ha]
theorem Ex.step (h : Ex B stp aft n i q pos) {q' : Pv} {pos' : Nat} (hf : stp i (q, pos) = .ok (q', pos')) : Ex B stp aft n (i + 1) q' pos' := by
 obtain ⟨s0, h1, h2⟩ := h.e
 exact ⟨s0, h1, by rw [loopE_next h2, hf]⟩
theorem Ex.done (h : Ex B stp aft n n q pos) : upR B = aft (.ok (q, pos)) := by
 obtain ⟨s0, h1, h2⟩ := h.e
 rw [h1, h2]
theorem up_head (h : hdW B ≠ 0) : upR B = .error (fzH B) := by unfold upR; rw [if_neg h]
theorem up_cnt (h : hdW B = 0) (hw : (countAt (B.drop 3) 256).2.2 ≠ 0) : upR B = .error (fzW 3 (countAt (B.drop 3) 256).2.2) := by unfold upR; rw [if_pos h, if_neg hw]
/-- What was read so far, and how it goes on. -/
structure X1 (B : List Nat) (q : Pv) (i pos : Nat) : Prop where
 r : R1 B q i pos
 x : Ex B (stp1 B) (aft1 B) q.nc i q pos
structure X2 (B : List Nat) (q : Pv) (i pos : Nat) : Prop where
 r : R2 B q i pos
 x : Ex B (stp2 B) (aft2 B) q.ns i q pos
structure X3 (B : List Nat) (q : Pv) (i pos : Nat) : Prop where
 r : R3 B q i pos
 x : Ex B (stp3 B) (aft3 B) 6 i q pos
structure X4 (B : List Nat) (q : Pv) (i pos : Nat) : Prop where
 r : R4 B q i pos
 x : Ex B (stp4 B) (aft4 B) q.n i q pos
theorem X1.start (hd : hdW B = 0) (hh : encH <+: B) (hB : ∀ x ∈ B, x < 256) (hw : (countAt (B.drop 3) 256).2.2 = 0) : X1 B (ini1 (countAt (B.drop 3) 256).1) 0 (3 + (countAt (B.drop 3) 256).2.1) :=
 ⟨R1.start hh hB hw, ⟨_, by unfold upR; rw [if_pos hd, if_pos hw]; rfl, rfl⟩⟩
theorem X1.fail (h : X1 B q i pos) (hi : i < q.nc) (hw : (numAt (B.drop pos)).2.2 ≠ 0) : upR B = .error (fzW pos (numAt (B.drop pos)).2.2) :=
 h.x.fail (fun _ => rfl) hi (by unfold stp1; rw [if_neg hw])
theorem X1.step (h : X1 B q i pos) (hB : ∀ x ∈ B, x < 256) (hi : i < q.nc) (hw : (numAt (B.drop pos)).2.2 = 0) : X1 B (setC q i ((numAt (B.drop pos)).1 : Nat)) (i + 1) (pos + (numAt (B.drop pos)).2.1) :=
 ⟨h.r.step hB hi hw, h.x.step (by unfold stp1; rw [if_pos hw])⟩
theorem X1.cno (h : X1 B q q.nc pos) (hw : (countAt (B.drop pos) 128).2.2 ≠ 0) : upR B = .error (fzW pos (countAt (B.drop pos) 128).2.2) := by
 rw [h.x.done]
 show (if (countAt (B.drop pos) 128).2.2 = 0 then _ else _) = _
 rw [if_neg hw]
theorem X2.start (h : X1 B q q.nc pos) (hB : ∀ x ∈ B, x < 256) (hw : (countAt (B.drop pos) 128).2.2 = 0) : X2 B (setNs q (countAt (B.drop pos) 128).1) 0 (pos + (countAt (B.drop pos) 128).2.1) :=
 ⟨R2.start h.r hB hw, ⟨_, by rw [h.x.done]; show (if (countAt (B.drop pos) 128).2.2 = 0 then _ else _) = _; rw [if_pos hw]; rfl, rfl⟩⟩
theorem X2.fail (h : X2 B q i pos) (hi : i < q.ns) (hw : aheadW (B.drop pos) 1 ≠ 0) : upR B = .error (fzW pos (aheadW (B.drop pos) 1)) :=
 h.x.fail (fun _ => rfl) hi (by unfold stp2; rw [if_neg hw])
theorem X2.step (h : X2 B q i pos) (hB : ∀ x ∈ B, x < 256) (hw : aheadW (B.drop pos) 1 = 0) : X2 B (setS q i (hi (aheadV (B.drop pos) 1) : Nat)) (i + 1) (pos + 1) :=
 ⟨h.r.step hB hw, h.x.step (by unfold stp2; rw [if_pos hw])⟩
theorem X3.start (h : X2 B q q.ns pos) : X3 B q 0 pos := ⟨R3.start h.r, ⟨_, by rw [h.x.done]; rfl, rfl⟩⟩
theorem X3.fail (h : X3 B q i pos) (hi : i < 6) (hw : plW 1024 (numAt (B.drop pos)) ≠ 0) : upR B = .error (fzP pos 82 (numAt (B.drop pos))) :=
 h.x.fail (fun _ => rfl) hi (by unfold stp3; rw [if_neg hw])
theorem X3.step (h : X3 B q i pos) (hB : ∀ x ∈ B, x < 256) (hi : i < 6) (hw : plW 1024 (numAt (B.drop pos)) = 0) : X3 B (setE q i (((numAt (B.drop pos)).1 : Nat) - 1 : Int)) (i + 1) (pos + (numAt (B.drop pos)).2.1) :=
 ⟨h.r.step hB hi hw, h.x.step (by unfold stp3; rw [if_pos hw])⟩
theorem X3.cno (h : X3 B q 6 pos) (hw : (countAt (B.drop pos) 1024).2.2 ≠ 0) : upR B = .error (fzW pos (countAt (B.drop pos) 1024).2.2) := by
 rw [h.x.done]
 show (if (countAt (B.drop pos) 1024).2.2 = 0 then _ else _) = _
 rw [if_neg hw]
theorem X4.start (h : X3 B q 6 pos) (hB : ∀ x ∈ B, x < 256) (hw : (countAt (B.drop pos) 1024).2.2 = 0) : X4 B (setN q (countAt (B.drop pos) 1024).1) 0 (pos + (countAt (B.drop pos) 1024).2.1) :=
 ⟨R4.start h.r hB hw, ⟨_, by rw [h.x.done]; show (if (countAt (B.drop pos) 1024).2.2 = 0 then _ else _) = _; rw [if_pos hw]; rfl, rfl⟩⟩
theorem X4.fail (h : X4 B q i pos) (hi : i < q.n) (hw : (inR (B.drop pos)).2.2.2 ≠ 0) : upR B = .error (fzI pos (B.drop pos)) :=
 h.x.fail (fun _ => rfl) hi (by unfold stp4; rw [if_neg hw])
theorem X4.step (h : X4 B q i pos) (hB : ∀ x ∈ B, x < 256) (hi : i < q.n) (hw : (inR (B.drop pos)).2.2.2 = 0) : X4 B (setI q i ((inR (B.drop pos)).1 : Nat) ((inR (B.drop pos)).2.1 : Nat)) (i + 1) (pos + (inR (B.drop pos)).2.2.1) :=
 ⟨h.r.step hB hi hw, h.x.step (by unfold stp4; rw [if_pos hw])⟩
theorem X4.done (h : X4 B q q.n pos) (he : ¬ pos < B.length) (he2 : pos = B.length) : upR B = .ok q ∧ Pkw q := by
 refine ⟨?_, (h.r.done he2).1⟩
 rw [h.x.done]
 show (if pos < B.length then _ else _) = _
 rw [if_neg he]
theorem X4.more (h : X4 B q q.n pos) (he : pos < B.length) : upR B = .error (fzW pos 28) := by
 rw [h.x.done]
 show (if pos < B.length then _ else _) = _
 rw [if_pos he]
end
theorem Chain.grownX {lim p : Nat} {W W' : World} {cs : Array Value} {t : TypeId} (hg : W.grownBy W' (some p)) (hp : W.heap[p]? = some (.cells cs t (0, 0))) (hc : ∀ (s : ByteArray), cs[0]? ≠ some (.string s)) : ∀ {L : List Lk} {v : Value} {c : Int}, Chain lim W L v c → Chain lim W' L v c
 | [], _, _, h => h
 | _ :: _, _, _, h => by
  obtain ⟨g, u, e, hgl, c0, c1, c2, h⟩ := h
  have hne : some g ≠ some p := fun e => by
   cases e
   rw [block_cell hp] at c0
   exact hc _ c0
  exact ⟨g, u, e, hgl, hg.cell c0 hne, hg.cell c1 hne, hg.cell c2 hne, Chain.grownX hg hp hc h⟩
/-- What unpacked answers. -/
def UdX (W : World) (B : List Nat) (e : Ending) (w' : World) : Prop :=
 (∃ gf f, e = .returned (.tuple #[.agg zP, .iface 74 (.pointer (some ⟨gf, 0, none⟩))]) ∧ Hid (Below W.heap.size W w' ∧ upR B = .error f ∧ Chain w'.heap.size w' f.1 (.iface 74 (.pointer (some ⟨gf, 0, none⟩))) f.2)) ∨
 (∃ (q : Pv) (gq : Pg), e = .returned (.tuple #[.agg (gq.cs q).toArray, .nilIface]) ∧ Hid (Below W.heap.size W w' ∧ Po W.heap.size gq q w' ∧ Pkw q ∧ upR B = .ok q))
/-- Given up: the results are laid back to nothing, and the fault. -/
theorem unpacked_gaveX {W w5 : World} {B : List Nat} {pb g : Nat} {x0 x1 x2 x3 x4 x5 x6 x7 x8 y : Value} {f : Fz} (hx : w5.heap[pb]? = some (.cells #[x0, x1, x2, x3, x4, x5, x6, x7, x8] 27 (0, 0))) (hy : w5.heap[pb + 1]? = some (.cells #[y] 33 (0, 0))) (hB : Below W.heap.size W w5) (hpb : W.heap.size ≤ pb) (hno : upR B = .error f) (hx0 : ∀ s, x0 ≠ .string s) (hy0 : ∀ s, y ≠ .string s) (hch : Chain w5.heap.size w5 f.1 (.iface 74 (.pointer (some ⟨g, 0, none⟩))) f.2) (tmps : Array Value) (h1 : tmps[2]? = some (.pointer (some ⟨pb, 0, none⟩))) (h2 : tmps[3]? = some (.pointer (some ⟨pb + 1, 0, none⟩))) :
  bodyPostD Tryz.prog Tryz.f50 (UdX W B) (.panic [{ v := .iface 74 (.pointer (some ⟨g, 0, none⟩)), recovered := false }]) { tmps := tmps, defers := [{ target := .fn (.func 99) #[.pointer (some ⟨pb, 0, none⟩), .pointer (some ⟨pb + 1, 0, none⟩)], args := #[] }] } w5 := by
 refine leaves_cons (f := 99) (args := #[.pointer (some ⟨pb, 0, none⟩), .pointer (some ⟨pb + 1, 0, none⟩)]) (by simp) (by simp [go_sem]) ?_
 refine (catchU_fault pb (pb + 1) g w5 hx hy (by omega)).mono ?_
 rintro e u' w6 ⟨rfl, rfl, hw6⟩
 obtain ⟨s1, gr⟩ := set9_blk hx rfl (.slice none 0 0) (.slice none 0 0) (.int .i64 0) (.int .i64 0) (.int .i64 0) (.int .i64 0) (.int .i64 0) (.int .i64 0) (.slice none 0 0)
 have k2 := (gr.block _ (block_lt hy) (by simp)).trans hy
 have s2 := heap_setCell_same _ (pb + 1) 0 _ _ (.iface 74 (.pointer (some ⟨g, 0, none⟩))) k2
 have G2 := grown_set (set9 w5 pb (.slice none 0 0) (.slice none 0 0) (.int .i64 0) (.int .i64 0) (.int .i64 0) (.int .i64 0) (.int .i64 0) (.int .i64 0) (.slice none 0 0)) (pb + 1) 0 (.iface 74 (.pointer (some ⟨g, 0, none⟩)))
 have k1 := (G2.block _ (block_lt s1) (by simp)).trans s1
 have ch6 := Chain.grownX G2 k2 (fun s e => hy0 s (by simpa using e)) (Chain.grownX gr hx (fun s e => hx0 s (by simpa using e)) hch)
 have sz6 : w5.heap.size ≤ w6.heap.size := by rw [hw6]; exact Nat.le_trans gr.size G2.size
 rw [← hw6] at s2 k1 G2 ch6
 have hB6 : Below W.heap.size W w6 := by
  have hb9 := hB.grown gr hB.size (fun q e => by cases e; exact hpb)
  exact hb9.grown G2 hb9.size (fun q e => by cases e; omega)
 have c0 := block_cell k1 0
 have c1 := block_cell k1 1
 have c2 := block_cell k1 2
 have c3 := block_cell k1 3
 have c4 := block_cell k1 4
 have c5 := block_cell k1 5
 have c6 := block_cell k1 6
 have c7 := block_cell k1 7
 have c8 := block_cell k1 8
 have d0 := block_cell s2 0
 simp at c0 c1 c2 c3 c4 c5 c6 c7 c8 d0
 exact ⟨.tuple #[.agg zP, .iface 74 (.pointer (some ⟨g, 0, none⟩))], by simp [results, Tryz.results50, go_sem, h1, h2, c0, c1, c2, c3, c4, c5, c6, c7, c8, d0, zP], .inl ⟨g, f, rfl, hB6, hno, ch6.wide sz6⟩⟩
/-- What is laid elsewhere than the results turns nothing for a panic. -/
theorem put_panicX {W : World} {B : List Nat} {c : List PanicEntry} {a : Act} {w : World} {i : Nat} {v : Value} (hi : 4 ≤ i) (h : bodyPostD Tryz.prog Tryz.f50 (UdX W B) (.panic c) (a.put (some i) v) w) : bodyPostD Tryz.prog Tryz.f50 (UdX W B) (.panic c) a w := by
 refine leaves_congr (fun w => ?_) _ _ _ h
 have h2 : (a.tmps.setIfInBounds i v)[2]? = a.tmps[2]? := by rw [Array.getElem?_setIfInBounds, if_neg (by omega)]
 have h3 : (a.tmps.setIfInBounds i v)[3]? = a.tmps[3]? := by rw [Array.getElem?_setIfInBounds, if_neg (by omega)]
 simp [Act.put, results, Tryz.results50, go_sem, h2, h3]
end Go.Proofs.YtggpaljilpbmhaaGreatDoor
