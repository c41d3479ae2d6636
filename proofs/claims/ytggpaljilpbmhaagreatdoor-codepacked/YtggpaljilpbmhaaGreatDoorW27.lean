import Derived.Test.YtggpaljilpbmhaaGreatDoorW16
import Derived.Test.YtggpaljilpbmhaaGreatDoorW26
namespace Go.Proofs.YtggpaljilpbmhaaGreatDoor
open Go.RowKit

/-- An instruction as it is read: its operation, its argument, how many bytes, why not. -/
def inR (B : List Nat) : Nat × Nat × Nat × Int :=
 (hi (aheadV B 1), if fArg (hi (aheadV B 1)) = 0 then 0 else (numAt (B.drop 1)).1, if fArg (hi (aheadV B 1)) = 0 then 1 else 1 + (numAt (B.drop 1)).2.1,
  if aheadW B 1 = 0 then (if isO (hi (aheadV B 1) : Nat) = true then (if fArg (hi (aheadV B 1)) = 0 then 0 else plW 1023 (numAt (B.drop 1))) else 1) else aheadW B 1)
theorem tab_grownU {w w' : World} {rp : Nat} (hT : Tab w) (hz : 10 < rp) (hr : rp < w.heap.size) (h : w.grownBy w' (some rp)) : Tab w' :=
 hT.below ((Below.refl rp w).grown h (Nat.le_of_lt hr) (fun q e => by cases e; exact Nat.le_refl _)) hz
theorem err_grownU {w w' : World} {rp : Nat} (hT : ErrT w) (hz : 10 < rp) (h : w.grownBy w' (some rp)) : ErrT w' := hT.grown h (by omega)
theorem grown_newU {a b c : World} {rp nb : Nat} (h1 : a.grownBy b (some rp)) (h2 : b.grownBy c (some nb)) (hn : a.heap.size ≤ nb) : a.grownBy c (some rp) :=
 ⟨h2.os.trans h1.os, h2.tape.trans h1.tape, h2.output.trans h1.output, Nat.le_trans h1.size h2.size, fun i hi hne => (h2.block i (Nat.lt_of_lt_of_le hi h1.size) (fun e => by cases e; omega)).trans (h1.block i hi hne)⟩
set_option maxRecDepth 10000 in
set_option maxHeartbeats 3200000 in
theorem insU {lim rp : Nat} {w : World} {B : List Nat} {pos : Nat} (h : RdS lim w rp (rsU B pos)) (hg : ErrT w) (hT : Tab w) (hz : 10 < rp) : Calls Tryz.prog 106 #[.agg #[.pointer (some ⟨rp, 0, none⟩)]] w (RdU lim rp B pos (inR (B.drop pos)).2.2.1 (inR (B.drop pos)).2.2.2 (.agg #[.int .i64 ((inR (B.drop pos)).1 : Nat), .int .i64 ((inR (B.drop pos)).2.1 : Nat)]) w) := by
 obtain ⟨W1, hW1⟩ : ∃ W1, (w.alloc (.cells #[.pointer (some ⟨rp, 0, none⟩)] 185)).alloc (.cells #[.int .i64 0, .int .i64 0] 42) = W1 := ⟨_, rfl⟩
 obtain ⟨q0, q1, b1⟩ := two_box2L w _ _ _ _ hW1
 have hR : RdS lim W1 rp (rsU B pos) := h.kept (row := none) (grown_belowU b1) (fun g e => by cases e)
 have HAT := hide (rAtP (po := some ⟨rp, 0, none⟩) (.inr ⟨rp, rfl, hR⟩))
 have hg1 : ErrT W1 := (b1.cell (p := ⟨1, 0, none⟩) hg.lt).trans hg
 have hne : 1 ≠ rp := by omega
 have HOC := hide (octetU hR hg1 hne)
 have HW1 := hide hW1
 have HB1 := hide (grown_weakU (grown_belowU b1) rp)
 have HQ0 := hide q0
 have HQ1 := hide q1
 have HG1 := hide hg1
 have HT1 : Hid (Tab W1) := hT.below b1 hT.z
 have hpl : w.heap.size ≠ rp ∧ w.heap.size + 1 ≠ rp := by have := h.plt; omega
 have HNE := hide hpl
 have HPLT : Hid (rp < w.heap.size) := h.plt
 have hrl : rp < W1.heap.size := Nat.lt_of_lt_of_le h.plt b1.size
 have HZ := hide (And.intro hz hrl)
 have ho256 : hi (aheadV (B.drop pos) 1) < 256 := by have := hi_take_lt (k := 1) (rest_lt h).1; rw [rsU_rest] at this; simpa using this
 have z0 := block_cell q0 0
 have zl := block_lt q0
 simp at z0
 obtain ⟨r, hr⟩ : ∃ r, inR (B.drop pos) = r := ⟨_, rfl⟩
 have HR := hide hr
 obtain ⟨o, ho⟩ : ∃ o, hi (aheadV (B.drop pos) 1) = o := ⟨_, rfl⟩
 obtain ⟨wo, hwo⟩ : ∃ wo, aheadW (B.drop pos) 1 = wo := ⟨_, rfl⟩
 have HOW := hide (And.intro ho hwo)
 rw [ho, hwo] at HOC
 rw [ho] at ho256
 rw [hr]
 clear hW1 b1 q0 q1 hR h hg hne hr hg1 hT hpl hz hrl ho hwo
 go_enter Tryz.func106, Tryz.ntmps106
 go_upto_region 1 with fail
 rw [HW1.out]
 clear HW1
 go_wp2_with fail
 refine HAT.out.mono ?_
 rintro x w2 ⟨rfl, rfl⟩
 clear HAT
 go_wp2_with fail
 refine HOC.out.mono ?_
 rintro x w3 ⟨G3, h3⟩
 have HB3 : Hid (w.grownBy w3 (some rp)) := grown_trans (row := some rp) HB1.out G3.out
 have HT3 : Hid (Tab w3) := tab_grownU HT1.out HZ.out.1 HZ.out.2 G3.out
 have HG3 : Hid (ErrT w3) := err_grownU HG1.out HZ.out.1 G3.out
 have hq0 := (G3.out.block _ (block_lt HQ0.out) (by simpa using HNE.out.1)).trans HQ0.out
 have hq1 := (G3.out.block _ (block_lt HQ1.out) (by simpa using HNE.out.2)).trans HQ1.out
 have HP0 := hide hq0
 have HP1 := hide hq1
 clear hq0 hq1 G3 HQ0 HQ1 HT1 HG1 HB1 HOC
 rcases h3 with ⟨hw, rfl, hR3⟩ | ⟨hw, gf, rfl⟩
 ·subst hw
  have hu : IntKind.i64.wrap ((o : Nat) : Int) = ((o : Nat) : Int) := by simp [IntKind.wrap, IntKind.bits, IntKind.signed]; omega
  have HR3 := hide hR3.out
  clear hR3 z0 zl
  go_upto_region 3 with fail
  obtain ⟨w4, hw4⟩ : ∃ w', w3.alloc (.cells #[.int .i64 (o : Nat), .int .i64 0] 42) = w' := ⟨_, rfl⟩
  have b4 : Below w3.heap.size w3 w4 := by rw [← hw4]; exact below_alloc1 _ _
  have a4 : w4.heap[w3.heap.size]? = some (.cells #[.int .i64 (o : Nat), .int .i64 0] 42 (0, 0)) := by rw [← hw4]; exact alloc_atK _ _
  rw [hw4]
  clear hw4
  obtain ⟨nb, hnb⟩ : ∃ b, w3.heap.size = b := ⟨_, rfl⟩
  rw [hnb] at a4 ⊢
  have HR4 : Hid (RdS lim w4 rp (rsU B (pos + 1))) := HR3.out.kept (row := none) (grown_belowU b4) (fun g e => by cases e)
  have HB4 : Hid (w.grownBy w4 (some rp)) := grown_trans (row := some rp) HB3.out (grown_weakU (grown_belowU b4) rp)
  have HT4 : Hid (Tab w4) := HT3.out.below b4 HT3.out.z
  have HG4 : Hid (ErrT w4) := (b4.cell (p := ⟨1, 0, none⟩) HG3.out.lt).trans HG3.out
  have HP04 := hide ((b4.block _ (block_lt HP0.out)).trans HP0.out)
  have HP14 := hide ((b4.block _ (block_lt HP1.out)).trans HP1.out)
  have HA4 := hide a4
  have HNB : Hid (w.heap.size + 1 < nb ∧ rp < nb) := ⟨by have := block_lt HP1.out; omega, by have := HR3.out.plt; omega⟩
  clear b4 a4 hnb HR3 HB3 HT3 HG3 HP0 HP1
  have y0 := block_cell HA4.out 0
  have y1 := block_cell HA4.out 1
  have yl := block_lt HA4.out
  simp at y0 y1
  go_wp2_with fail
  refine (isOp_any _ _).mono ?_
  rintro x w5 ⟨rfl, rfl⟩
  cases hio : isO ((o : Nat) : Int) with
  | false =>
   have HRW : Hid (r.2.2.2 = 1) := by
    have : r.2.2.2 = 1 := by rw [← HR.out]; unfold inR; simp only [HOW.out.1, HOW.out.2]; rw [if_pos trivial, if_neg (by rw [hio]; decide)]
    exact this
   clear hio
   go_wp2_with fail
   refine (giveUp_any _ _ _).mono ?_
   rintro x w6 ⟨gf, rfl, G6⟩
   have HB6 : Hid (w.grownBy w6 (some rp)) := grown_trans (row := some rp) HB4.out (grown_weakU (grown_belowU G6.out.2) rp)
   clear G6 HB4 y0 y1 yl
   go_wp2
   exact ⟨rfl, HB6, .inr ⟨by rw [HRW.out]; decide, gf, rfl⟩⟩
  | true =>
   have ho32 : o ≤ 32 := by simp [isO] at hio; omega
   have t0 := HT4.out.a o ho32
   by_cases hfa : fArg o = 0
   ·have HRW : Hid (r = (o, 0, 1, 0)) := by
     have : r = (o, 0, 1, 0) := by rw [← HR.out]; unfold inR; simp only [HOW.out.1, HOW.out.2]; rw [if_pos hfa, if_pos hfa, if_pos trivial, if_pos hio, if_pos hfa]
     exact this
    rw [hfa] at t0
    clear hio hfa
    go_upto_region 7 with fail
    have e0 := block_cell HP14.out 0
    have e1 := block_cell HP14.out 1
    have f0 := block_free HP14.out 0
    have f1 := block_free HP14.out 1
    have el := block_lt HP14.out
    simp at e0 e1
    clear t0
    go_wp2
    generalize hwf : World.setCell _ _ _ = wf
    have HX : Hid (wf.heap[w.heap.size + 1]? = some (.cells #[.int .i64 (o : Nat), .int .i64 0] 42 (0, 0)) ∧ w5.grownBy wf (some (w.heap.size + 1))) := by
     rw [← hwf]
     refine ⟨?_, grown_tr (grown_setT _ _ _ _) (grown_setT _ _ _ _)⟩
     simp [World.setCell, Array.getElem?_modify, HP14.out]
    have c0 := block_cell HX.out.1 0
    have c1 := block_cell HX.out.1 1
    simp at c0 c1
    refine bodyPost_ret (v := .agg #[.int .i64 (o : Nat), .int .i64 0]) (by simp [results, Tryz.results106, go_sem, c0, c1]) rfl ?_
    rw [HRW.out]
    exact ⟨grown_newU HB4.out HX.out.2 (by omega), .inl ⟨rfl, rfl, HR4.out.kept HX.out.2 (fun g e => by cases e; exact ⟨Nat.le_trans HR4.out.limp (by have := HPLT.out; omega), fun q => HNE.out.2 q⟩)⟩⟩
   ·have hfb2 : ((fArg o : Int) != 0) = true := by simp; omega
    have HPC : Hid (Calls Tryz.prog 105 #[.agg #[.pointer (some ⟨rp, 0, none⟩)], .int .u64 1023, .int .i64 84] w5 (RdU lim rp B (pos + 1) (numAt (B.drop (pos + 1))).2.1 (plW 1023 (numAt (B.drop (pos + 1)))) (.int .i64 ((numAt (B.drop (pos + 1))).1 : Nat)) w5)) := placeU HR4.out HG4.out (by have := HZ.out.1; omega) 1023 (by decide) 84
    have d0 := block_cell HP04.out 0
    have dl := block_lt HP04.out
    simp at d0
    clear HP04
    obtain ⟨rr, hrr⟩ : ∃ rr, numAt (B.drop (pos + 1)) = rr := ⟨_, rfl⟩
    obtain ⟨a, sz, wa⟩ := rr
    have HRW : Hid (r = (o, a, 1 + sz, plW 1023 (a, sz, wa))) := by
     have : r = (o, a, 1 + sz, plW 1023 (a, sz, wa)) := by
      rw [← HR.out]; unfold inR; simp only [HOW.out.1, HOW.out.2, List.drop_drop]; rw [if_neg hfa, if_neg hfa, if_pos trivial, if_pos hio, if_neg hfa, hrr]
     exact this
    rw [hrr] at HPC
    generalize fArg o = fo at t0 hfb2 hfa
    clear hio hfa hrr
    go_wp2_with fail
    refine HPC.out.mono ?_
    rintro x w6 ⟨G6, h6⟩
    have HB6 : Hid (w.grownBy w6 (some rp)) := grown_trans (row := some rp) HB4.out G6.out
    rcases h6 with ⟨hw6, rfl, hR6⟩ | ⟨hw6, gf, rfl⟩
    ·have HW6 := hide hw6
     have HR6 := hide hR6.out
     have HP6 := hide ((G6.out.block _ (block_lt HP14.out) (by simpa using HNE.out.2)).trans HP14.out)
     have HA6 := hide ((G6.out.block _ yl (by have := HNB.out; simp; omega)).trans HA4.out)
     clear d0 dl
     clear hw6 hR6 G6 HPC y0 y1 yl t0 hfb2 HP14 HA4 HR4 HB4 HT4 HG4
     have y0 := block_cell HA6.out 0
     have y1 := block_cell HA6.out 1
     have g0 := block_free HA6.out 0
     have g1 := block_free HA6.out 1
     have yl := block_lt HA6.out
     simp at y0 y1
     go_upto_region 7 with fail
     generalize hwg : World.setCell _ _ _ = wg
     have HA7 : Hid (wg.heap[nb]? = some (.cells #[.int .i64 (o : Nat), .int .i64 (a : Nat)] 42 (0, 0)) ∧ w6.grownBy wg (some nb)) := by
      rw [← hwg]
      refine ⟨?_, grown_setT _ _ _ _⟩
      simp [World.setCell, Array.getElem?_modify, HA6.out]
     have HP7 := hide ((HA7.out.2.block _ (block_lt HP6.out) (by have := HNB.out; simp; omega)).trans HP6.out)
     have HR7 : Hid (RdS lim wg rp (rsU B (pos + 1 + sz))) := HR6.out.kept HA7.out.2 (fun g e => by cases e; exact ⟨Nat.le_trans HR6.out.limp (by have := HNB.out; omega), by have := HNB.out; omega⟩)
     have HB7 := hide (grown_newU HB6.out HA7.out.2 (by have := HNB.out; omega))
     clear y0 y1 g0 g1 yl hwg HA6 HP6 HR6 HB6
     have y0 := block_cell HA7.out.1 0
     have y1 := block_cell HA7.out.1 1
     have yl := block_lt HA7.out.1
     have e0 := block_cell HP7.out 0
     have e1 := block_cell HP7.out 1
     have f0 := block_free HP7.out 0
     have f1 := block_free HP7.out 1
     have el := block_lt HP7.out
     simp at y0 y1 e0 e1
     go_wp2
     generalize hwf : World.setCell _ _ _ = wf
     have HX : Hid (wf.heap[w.heap.size + 1]? = some (.cells #[.int .i64 (o : Nat), .int .i64 (a : Nat)] 42 (0, 0)) ∧ wg.grownBy wf (some (w.heap.size + 1))) := by
      rw [← hwf]
      refine ⟨?_, grown_tr (grown_setT _ _ _ _) (grown_setT _ _ _ _)⟩
      simp [World.setCell, Array.getElem?_modify, HP7.out]
     have c0 := block_cell HX.out.1 0
     have c1 := block_cell HX.out.1 1
     simp at c0 c1
     refine bodyPost_ret (v := .agg #[.int .i64 (o : Nat), .int .i64 (a : Nat)]) (by simp [results, Tryz.results106, go_sem, c0, c1]) rfl ?_
     rw [HRW.out]
     refine ⟨grown_newU HB7.out HX.out.2 (by omega), .inl ⟨HW6.out, rfl, ?_⟩⟩
     have hk := HR7.out.kept HX.out.2 (fun g e => by cases e; exact ⟨Nat.le_trans HR7.out.limp (by have := HR7.out.plt; have := HNE.out; have := block_lt HX.out.1; have := HPLT.out; omega), fun q => HNE.out.2 q⟩)
     rw [Nat.add_assoc] at hk
     exact hk
    ·have HW6 := hide hw6
     clear hw6 G6 HPC y0 y1 yl t0 hfb2 d0 dl
     go_wp2
     exact ⟨rfl, HB6, .inr ⟨by rw [HRW.out]; exact HW6.out, gf, rfl⟩⟩
 ·have HRW : Hid (r.2.2.2 ≠ 0) := by
   have : r.2.2.2 ≠ 0 := by rw [← HR.out]; unfold inR; simp only [HOW.out.2]; rw [if_neg hw]; exact hw
   exact this
  clear hw z0 zl
  go_wp2
  exact ⟨rfl, HB3, .inr ⟨HRW.out, gf, rfl⟩⟩
end Go.Proofs.YtggpaljilpbmhaaGreatDoor
namespace Go.Proofs.YtggpaljilpbmhaaGreatDoor
open Go.RowKit Crc

/-- A number that is taken is one that was laid down just so. -/
theorem numGo_inv : ∀ (B : List Nat) (i n : Nat), i ≤ 9 → (∀ x ∈ B, x < 256) → (numGo B i n).2.2 = 0 → ∃ v, (numGo B i n).1 = n + v * 2 ^ (7 * i) ∧ (0 < i → 0 < v) ∧ (numGo B i n).2.1 = i + (numTo (9 - i) v).length ∧ B = numTo (9 - i) v ++ B.drop (numTo (9 - i) v).length
 | [], _, _, _, _, h => by cases h
 | c :: r, i, n, hi, hB, h => by
  have hc : c < 256 := hB c (by simp)
  rw [numGo] at h ⊢
  by_cases h1 : i = 9 ∧ 1 < c
  ·rw [if_pos h1] at h; cases h
  ·rw [if_neg h1] at h ⊢
   by_cases h2 : 128 ≤ c
   ·rw [if_pos h2] at h ⊢
    obtain ⟨v, e1, e2, e3, e4⟩ := numGo_inv r (i + 1) _ (by omega) (fun x hx => hB x (by simp [hx])) h
    have e2 := e2 (by omega)
    have ef : 9 - i = (9 - (i + 1)) + 1 := by omega
    have en : numTo (9 - i) (c % 128 + 128 * v) = c :: numTo (9 - (i + 1)) v := by
     rw [ef, numTo, if_neg (by omega)]
     congr 1
     ·omega
     ·congr 1; omega
    refine ⟨c % 128 + 128 * v, ?_, fun _ => by omega, ?_, ?_⟩
    ·rw [e1, show 7 * (i + 1) = 7 + 7 * i by omega, Nat.pow_add, show (2 : Nat) ^ 7 = 128 from rfl, Nat.add_mul, ← Nat.mul_assoc, Nat.mul_comm 128 v]
     omega
    ·rw [e3, en, List.length_cons]; omega
    ·rw [en, List.length_cons, List.drop_succ_cons, List.cons_append, ← e4]
   ·rw [if_neg h2] at h ⊢
    by_cases h3 : c = 0 ∧ 0 < i
    ·rw [if_pos h3] at h; cases h
    ·rw [if_neg h3]
     have en : numTo (9 - i) c = [c] := by
      cases 9 - i with
      | zero => rfl
      | succ f => rw [numTo, if_pos (by omega)]
     refine ⟨c, by rw [Nat.mod_eq_of_lt (by omega)], fun _ => by omega, by rw [en]; rfl, by rw [en]; rfl⟩
theorem numAt_inv {B : List Nat} (hB : ∀ x ∈ B, x < 256) (h : (numAt B).2.2 = 0) : (numAt B).2.1 = (numB (numAt B).1).length ∧ B = numB (numAt B).1 ++ B.drop (numAt B).2.1 := by
 unfold numAt numB at *
 obtain ⟨v, e1, e2, e3, e4⟩ := numGo_inv B 0 0 (by omega) hB h
 have ev : (numGo B 0 0).1 = v := by rw [e1]; simp
 rw [ev, e3]
 rw [Nat.zero_add]
 exact ⟨rfl, e4⟩
theorem countAt_inv {B : List Nat} {most : Int} (hB : ∀ x ∈ B, x < 256) (h : (countAt B most).2.2 = 0) : ((countAt B most).1 : Int) ≤ most ∧ (countAt B most).2.1 = (numB (countAt B most).1).length ∧ B = numB (countAt B most).1 ++ B.drop (countAt B most).2.1 := by
 unfold countAt at h ⊢
 by_cases h1 : (numAt B).2.2 ≠ 0
 ·rw [if_pos h1] at h; exact absurd h h1
 ·rw [if_neg h1] at h ⊢
  by_cases h2 : most < ((numAt B).1 : Int)
  ·rw [if_pos h2] at h; cases h
  ·rw [if_neg h2]
   exact ⟨by show ((numAt B).1 : Int) ≤ most; omega, numAt_inv hB (Classical.not_not.1 h1)⟩
section
variable {X B : List Nat}
theorem pre_drop {Y : List Nat} (h : X ++ Y <+: B) : ∃ R, B.drop X.length = Y ++ R := by
 obtain ⟨R, hR⟩ := h
 refine ⟨R, ?_⟩
 rw [← hR, List.append_assoc, List.drop_left]
theorem pre_app {Y R : List Nat} (h : X <+: B) (hd : B.drop X.length = Y ++ R) : X ++ Y <+: B := by
 obtain ⟨Z, hZ⟩ := h
 refine ⟨R, ?_⟩
 rw [← hZ, List.drop_left] at hd
 rw [List.append_assoc, ← hd]
 exact hZ
theorem pre_num {v : Nat} (h : X ++ numB v <+: B) (hv : v < 18446744073709551616) : numAt (B.drop X.length) = (v, (numB v).length, 0) := by
 obtain ⟨R, hR⟩ := pre_drop h
 rw [hR]
 exact numAt_numB v R hv
theorem pre_cnt {v : Nat} {most : Int} (h : X ++ numB v <+: B) (hv : v < 18446744073709551616) (hm : (v : Int) ≤ most) : countAt (B.drop X.length) most = (v, (numB v).length, 0) := by
 obtain ⟨R, hR⟩ := pre_drop h
 rw [hR]
 exact countAt_numB v R most hv hm
theorem drop_lt (hB : ∀ x ∈ B, x < 256) (n : Nat) : ∀ x ∈ B.drop n, x < 256 := fun x hx => hB x (List.mem_of_mem_drop hx)
theorem num_pre (h : X <+: B) (hB : ∀ x ∈ B, x < 256) (h0 : (numAt (B.drop X.length)).2.2 = 0) : X ++ numB (numAt (B.drop X.length)).1 <+: B ∧ (numAt (B.drop X.length)).2.1 = (numB (numAt (B.drop X.length)).1).length := by
 obtain ⟨e1, e2⟩ := numAt_inv (drop_lt hB _) h0
 exact ⟨pre_app h e2, e1⟩
theorem cnt_pre {most : Int} (h : X <+: B) (hB : ∀ x ∈ B, x < 256) (h0 : (countAt (B.drop X.length) most).2.2 = 0) : ((countAt (B.drop X.length) most).1 : Int) ≤ most ∧ X ++ numB (countAt (B.drop X.length) most).1 <+: B ∧ (countAt (B.drop X.length) most).2.1 = (numB (countAt (B.drop X.length) most).1).length := by
 obtain ⟨e0, e1, e2⟩ := countAt_inv (drop_lt hB _) h0
 exact ⟨e0, pre_app h e2, e1⟩
theorem big_one {v : Nat} (hv : v < 256) : big v 1 = [v] := by
 unfold big bigTo
 simp [bigTo]
 omega
theorem oct_of {C R : List Nat} {v : Nat} (h : C = v :: R) : aheadW C 1 = 0 ∧ hi (aheadV C 1) = v := by
 subst h
 unfold aheadW aheadV
 simp [hi]
theorem two_of {C R : List Nat} {a b : Nat} (h : C = a :: b :: R) : aheadW C 2 = 0 ∧ hi (aheadV C 2) = a * 256 + b := by
 subst h
 have hn : ¬ R.length + 1 + 1 < 2 := by omega
 unfold aheadW aheadV
 simp [hi, hn]
theorem oct_inv {C : List Nat} (h : aheadW C 1 = 0) : ∃ v R, C = v :: R := by
 cases C with
 | nil => simp [aheadW] at h
 | cons v R => exact ⟨v, R, rfl⟩
theorem two_inv {C : List Nat} (h : aheadW C 2 = 0) : ∃ a b R, C = a :: b :: R := by
 match C with
 | [] => simp [aheadW] at h
 | [_] => simp [aheadW] at h
 | a :: b :: R => exact ⟨a, b, R, rfl⟩
theorem pre_oct {v : Nat} (h : X ++ big v 1 <+: B) (hv : v < 256) : aheadW (B.drop X.length) 1 = 0 ∧ hi (aheadV (B.drop X.length) 1) = v := by
 obtain ⟨R, hR⟩ := pre_drop h
 rw [big_one hv] at hR
 exact oct_of hR
theorem oct_pre (h : X <+: B) (hB : ∀ x ∈ B, x < 256) (h0 : aheadW (B.drop X.length) 1 = 0) : hi (aheadV (B.drop X.length) 1) < 256 ∧ X ++ big (hi (aheadV (B.drop X.length) 1)) 1 <+: B := by
 obtain ⟨v, R, e⟩ := oct_inv h0
 have hv : v < 256 := drop_lt hB X.length v (by rw [e]; exact List.mem_cons_self ..)
 rw [(oct_of e).2, big_one hv]
 exact ⟨hv, pre_app h e⟩
/-- The head. -/
theorem head_iff (hB : ∀ x ∈ B, x < 256) : hdW B = 0 ↔ encH <+: B := by
 have e : encH = [81, 67, 1] := by decide
 rw [e]
 constructor
 ·intro h
  unfold hdW at h
  split at h
  ·rename_i q
   obtain ⟨q1, q2, q3, q4⟩ := q
   obtain ⟨a, b, R, e1⟩ := two_inv q1
   rw [(two_of e1).2] at q2
   have ha : a < 256 := hB a (by rw [e1]; exact List.mem_cons_self ..)
   have hb : b < 256 := hB b (by rw [e1]; simp)
   rw [e1] at q3 q4
   obtain ⟨c, R', e2⟩ := oct_inv q3
   have e3 : R = c :: R' := e2
   rw [(oct_of e2).2] at q4
   refine ⟨R', ?_⟩
   rw [e1, e3, q4]
   have h1 : a = 81 := by omega
   have h2 : b = 67 := by omega
   rw [h1, h2]
   rfl
  ·cases h
 ·rintro ⟨R, rfl⟩
  unfold hdW
  rw [if_pos]
  have h1 := two_of (C := [81, 67, 1] ++ R) (a := 81) (b := 67) (R := 1 :: R) rfl
  have h2 := oct_of (C := ([81, 67, 1] ++ R).drop 2) (v := 1) (R := R) rfl
  exact ⟨h1.1, h1.2, h2.1, h2.2⟩
end
/-- A program whose fields can be packed, whatever they say together. -/
structure Pkw (p : Pv) : Prop where
 nc : p.nc ≤ 256
 ns : p.ns ≤ 128
 n : p.n ≤ 1024
 C : ∀ j, j < p.nc → 0 ≤ p.C j ∧ p.C j < 18446744073709551616
 S : ∀ j, j < p.ns → 0 ≤ p.S j ∧ p.S j < 256
 en : ∀ e, e < 6 → -1 ≤ p.en e ∧ p.en e ≤ 1023
 op : ∀ i, i < p.n → 1 ≤ p.op i ∧ p.op i ≤ 32
 arg : ∀ i, i < p.n → 0 ≤ p.arg i ∧ p.arg i ≤ 1023
 zr : ∀ i, i < p.n → fArg (p.op i).toNat = 0 → p.arg i = 0
theorem Wf.arg23 {p : Pv} (h : Wf p) {i : Nat} (hi : i < p.n) : 0 ≤ p.arg i ∧ p.arg i ≤ 1023 ∧ (fArg (p.op i).toNat = 0 → p.arg i = 0) := by
 have g := h.ins i hi
 have h1 := op_nat g
 have ha := g.a
 obtain ⟨s1, s2, s3⟩ := h.sz
 rcases fArg_le (p.op i).toNat (by omega) with f | f | f | f | f | f
 ·simp [argF, f] at ha; omega
 ·simp [argF, f] at ha; have := isPl_nat ha; omega
 ·simp [argF, f] at ha; have := isPl_nat ha; omega
 ·simp [argF, f] at ha; have := isPl_nat ha; omega
 ·simp [argF, f] at ha; have := isPl_nat ha; omega
 ·simp [argF, f] at ha; omega
theorem Pkw.of {p : Pv} (h : Wf p) (hC : ∀ j, j < p.nc → 0 ≤ p.C j ∧ p.C j < 18446744073709551616) : Pkw p :=
 ⟨h.sz.1, h.sz.2.1, h.sz.2.2, hC, fun j hj => by rcases h.sl j hj with q | q <;> rw [q] <;> decide, fun e he => h.enb he, fun i hi => ⟨(op_nat (h.ins i hi)).1, (op_nat (h.ins i hi)).2.1⟩, fun i hi => ⟨(h.arg23 hi).1, (h.arg23 hi).2.1⟩, fun i hi => (h.arg23 hi).2.2⟩
section
variable {p q : Pv}
theorem enc1_mono {i j : Nat} (h : i ≤ j) : enc1 p i <+: enc1 p j := by
 induction j with
 | zero =>
  obtain rfl : i = 0 := by omega
  exact List.prefix_refl _
 | succ j ih =>
  by_cases e : i = j + 1
  ·subst e; exact List.prefix_refl _
  ·rw [enc1_next]; exact (ih (by omega)).trans (List.prefix_append _ _)
theorem enc2_mono {i j : Nat} (h : i ≤ j) : enc2 p i <+: enc2 p j := by
 induction j with
 | zero =>
  obtain rfl : i = 0 := by omega
  exact List.prefix_refl _
 | succ j ih =>
  by_cases e : i = j + 1
  ·subst e; exact List.prefix_refl _
  ·rw [enc2_next]; exact (ih (by omega)).trans (List.prefix_append _ _)
theorem enc3_mono {i j : Nat} (h : i ≤ j) : enc3 p i <+: enc3 p j := by
 induction j with
 | zero =>
  obtain rfl : i = 0 := by omega
  exact List.prefix_refl _
 | succ j ih =>
  by_cases e : i = j + 1
  ·subst e; exact List.prefix_refl _
  ·rw [enc3_next]; exact (ih (by omega)).trans (List.prefix_append _ _)
theorem enc4_mono {i j : Nat} (h : i ≤ j) : enc4 p i <+: enc4 p j := by
 induction j with
 | zero =>
  obtain rfl : i = 0 := by omega
  exact List.prefix_refl _
 | succ j ih =>
  by_cases e : i = j + 1
  ·subst e; exact List.prefix_refl _
  ·rw [enc4_next, List.append_assoc]; exact (ih (by omega)).trans (List.prefix_append _ _)
theorem enc2_zero (p : Pv) : enc2 p 0 = enc1 p p.nc ++ numB p.ns := List.append_nil _
theorem enc1_zero (p : Pv) : enc1 p 0 = encH ++ numB p.nc := List.append_nil _
theorem enc3_zero (p : Pv) : enc3 p 0 = enc2 p p.ns := List.append_nil _
theorem enc4_zero (p : Pv) : enc4 p 0 = enc3 p 6 ++ numB p.n := List.append_nil _
theorem pre4 {i : Nat} (h : i ≤ p.n) : enc4 p i <+: encP p := enc4_mono h
theorem pre3 {i : Nat} (h : i ≤ 6) : enc3 p i <+: encP p := (enc3_mono h).trans (((by rw [enc4_zero]; exact List.prefix_append _ _ : enc3 p 6 <+: enc4 p 0)).trans (pre4 (Nat.zero_le _)))
theorem pre2 {i : Nat} (h : i ≤ p.ns) : enc2 p i <+: encP p := (enc2_mono h).trans (by rw [← enc3_zero]; exact pre3 (Nat.zero_le _))
theorem pre1 {i : Nat} (h : i ≤ p.nc) : enc1 p i <+: encP p := (enc1_mono h).trans (((by rw [enc2_zero]; exact List.prefix_append _ _ : enc1 p p.nc <+: enc2 p 0)).trans (pre2 (Nat.zero_le _)))
theorem pre0 : encH <+: encP p := ((by rw [enc1_zero]; exact List.prefix_append _ _ : encH <+: enc1 p 0)).trans (pre1 (Nat.zero_le _))
theorem num_same {X B : List Nat} {a b : Nat} (h1 : X ++ numB a <+: B) (h2 : X ++ numB b <+: B) (ha : a < 18446744073709551616) (hb : b < 18446744073709551616) : a = b := by
 have e1 := pre_num h1 ha
 rw [pre_num h2 hb] at e1
 exact (congrArg Prod.fst e1).symm
theorem oct_same {X B : List Nat} {a b : Nat} (h1 : X ++ big a 1 <+: B) (h2 : X ++ big b 1 <+: B) (ha : a < 256) (hb : b < 256) : a = b := (pre_oct h1 ha).2.symm.trans (pre_oct h2 hb).2
theorem Pkw.ob (h : Pkw p) {i : Nat} (hi : i < p.n) : (p.op i).toNat < 256 ∧ 0 ≤ p.op i := by
 have := h.op i hi
 omega
theorem Pkw.sb (h : Pkw p) {i : Nat} (hi : i < p.ns) : (p.S i).toNat < 256 ∧ 0 ≤ p.S i := by
 have := h.S i hi
 omega
/-- What is packed alike is alike. -/
theorem enc_inj (hp : Pkw p) (hq : Pkw q) (h : encP p = encP q) : p.nc = q.nc ∧ p.ns = q.ns ∧ p.n = q.n ∧ (∀ j, j < q.nc → p.C j = q.C j) ∧ (∀ j, j < q.ns → p.S j = q.S j) ∧ (∀ e, e < 6 → p.en e = q.en e) ∧ (∀ i, i < q.n → p.op i = q.op i ∧ p.arg i = q.arg i) := by
 have sp := And.intro hp.nc (And.intro hp.ns hp.n)
 have sq := And.intro hq.nc (And.intro hq.ns hq.n)
 have n1 : p.nc = q.nc := by
  have a := (by rw [← enc1_zero]; exact pre1 (Nat.zero_le _) : encH ++ numB p.nc <+: encP p)
  have b := (by rw [← enc1_zero]; exact pre1 (Nat.zero_le _) : encH ++ numB q.nc <+: encP q)
  rw [h] at a
  exact num_same a b (by omega) (by omega)
 have c1 : ∀ i, i ≤ q.nc → enc1 p i = enc1 q i ∧ ∀ j, j < i → p.C j = q.C j := fun i => by
  induction i with
  | zero => intro _; exact ⟨by rw [enc1_zero, enc1_zero, n1], fun j hj => absurd hj (Nat.not_lt_zero j)⟩
  | succ i ih =>
   intro hi
   obtain ⟨g1, g2⟩ := ih (by omega)
   have a := (by rw [← enc1_next]; exact pre1 (by omega) : enc1 p i ++ numB (p.C i).toNat <+: encP p)
   have b := (by rw [← enc1_next]; exact pre1 (by omega) : enc1 q i ++ numB (q.C i).toNat <+: encP q)
   rw [h, g1] at a
   have bp := hp.C i (by omega)
   have bq := hq.C i (by omega)
   have e := num_same a b (by omega) (by omega)
   refine ⟨by rw [enc1_next, enc1_next, g1, e], fun j hj => ?_⟩
   by_cases ej : j = i
   ·subst ej; omega
   ·exact g2 j (by omega)
 have f1 : enc1 p p.nc = enc1 q q.nc := by rw [n1]; exact (c1 q.nc (Nat.le_refl _)).1
 have n2 : p.ns = q.ns := by
  have a := (by rw [← enc2_zero]; exact pre2 (Nat.zero_le _) : enc1 p p.nc ++ numB p.ns <+: encP p)
  have b := (by rw [← enc2_zero]; exact pre2 (Nat.zero_le _) : enc1 q q.nc ++ numB q.ns <+: encP q)
  rw [h, f1] at a
  exact num_same a b (by omega) (by omega)
 have c2 : ∀ i, i ≤ q.ns → enc2 p i = enc2 q i ∧ ∀ j, j < i → p.S j = q.S j := fun i => by
  induction i with
  | zero => intro _; exact ⟨by rw [enc2_zero, enc2_zero, f1, n2], fun j hj => absurd hj (Nat.not_lt_zero j)⟩
  | succ i ih =>
   intro hi
   obtain ⟨g1, g2⟩ := ih (by omega)
   have a := (by rw [← enc2_next]; exact pre2 (by omega) : enc2 p i ++ big (p.S i).toNat 1 <+: encP p)
   have b := (by rw [← enc2_next]; exact pre2 (by omega) : enc2 q i ++ big (q.S i).toNat 1 <+: encP q)
   rw [h, g1] at a
   have bp := hp.sb (i := i) (by omega)
   have bq := hq.sb (i := i) (by omega)
   have e := oct_same a b bp.1 bq.1
   refine ⟨by rw [enc2_next, enc2_next, g1, e], fun j hj => ?_⟩
   by_cases ej : j = i
   ·subst ej; omega
   ·exact g2 j (by omega)
 have f2 : enc2 p p.ns = enc2 q q.ns := by rw [n2]; exact (c2 q.ns (Nat.le_refl _)).1
 have c3 : ∀ i, i ≤ 6 → enc3 p i = enc3 q i ∧ ∀ j, j < i → p.en j = q.en j := fun i => by
  induction i with
  | zero => intro _; exact ⟨by rw [enc3_zero, enc3_zero, f2], fun j hj => absurd hj (Nat.not_lt_zero j)⟩
  | succ i ih =>
   intro hi
   obtain ⟨g1, g2⟩ := ih (by omega)
   have a := (by rw [← enc3_next]; exact pre3 (by omega) : enc3 p i ++ numB (p.en i + 1).toNat <+: encP p)
   have b := (by rw [← enc3_next]; exact pre3 (by omega) : enc3 q i ++ numB (q.en i + 1).toNat <+: encP q)
   rw [h, g1] at a
   have bp := hp.en i (by omega)
   have bq := hq.en i (by omega)
   have e := num_same a b (by omega) (by omega)
   refine ⟨by rw [enc3_next, enc3_next, g1, e], fun j hj => ?_⟩
   by_cases ej : j = i
   ·subst ej; omega
   ·exact g2 j (by omega)
 have f3 := (c3 6 (Nat.le_refl _)).1
 have n3 : p.n = q.n := by
  have a := (by rw [← enc4_zero]; exact pre4 (Nat.zero_le _) : enc3 p 6 ++ numB p.n <+: encP p)
  have b := (by rw [← enc4_zero]; exact pre4 (Nat.zero_le _) : enc3 q 6 ++ numB q.n <+: encP q)
  rw [h, f3] at a
  exact num_same a b (by omega) (by omega)
 have c4 : ∀ i, i ≤ q.n → enc4 p i = enc4 q i ∧ ∀ j, j < i → p.op j = q.op j ∧ p.arg j = q.arg j := fun i => by
  induction i with
  | zero => intro _; exact ⟨by rw [enc4_zero, enc4_zero, f3, n3], fun j hj => absurd hj (Nat.not_lt_zero j)⟩
  | succ i ih =>
   intro hi
   obtain ⟨g1, g2⟩ := ih (by omega)
   have a := (by rw [← enc4_next]; exact pre4 (by omega) : enc4 p i ++ big (p.op i).toNat 1 ++ argB p i <+: encP p)
   have b := (by rw [← enc4_next]; exact pre4 (by omega) : enc4 q i ++ big (q.op i).toNat 1 ++ argB q i <+: encP q)
   rw [h, g1] at a
   have bp := hp.ob (i := i) (by omega)
   have bq := hq.ob (i := i) (by omega)
   have e := oct_same ((List.prefix_append _ _).trans a) ((List.prefix_append _ _).trans b) bp.1 bq.1
   have eo : p.op i = q.op i := by omega
   have sa := hp.arg i (by omega)
   have sb := hq.arg i (by omega)
   have ea : p.arg i = q.arg i := by
    unfold argB at a b
    rw [eo] at a
    by_cases hz : fArg (q.op i).toNat = 0
    ·have za := hp.zr i (by omega) (by rw [eo]; exact hz)
     have zb := hq.zr i (by omega) hz
     rw [za, zb]
    ·rw [if_neg hz] at a b
     have := num_same a b (by omega) (by omega)
     omega
   refine ⟨by rw [enc4_next, enc4_next, g1, e]; unfold argB; rw [eo, ea], fun j hj => ?_⟩
   by_cases ej : j = i
   ·subst ej; exact ⟨eo, ea⟩
   ·exact g2 j (by omega)
 exact ⟨n1, n2, n3, (c1 _ (Nat.le_refl _)).2, (c2 _ (Nat.le_refl _)).2, (c3 _ (Nat.le_refl _)).2, (c4 _ (Nat.le_refl _)).2⟩
end
end Go.Proofs.YtggpaljilpbmhaaGreatDoor
