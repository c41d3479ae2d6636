import Derived.Test.YtggpaljilpbmhaaGreatDoorZ37
namespace Go.Proofs.YtggpaljilpbmhaaGreatDoor
open Go.RowKit

/-- A field was read: a value, and the place behind it; or it was refused, with this fault. -/
def RdX (lim rp : Nat) (B : List Nat) (pos sz : Nat) (why : Int) (f : Fz) (x : Value) (w : World) (e : Ending) (w' : World) : Prop :=
 Hid (w.grownBy w' (some rp)) ∧ ((why = 0 ∧ e = .returned x ∧ Hid (RdS lim w' rp (rsU B (pos + sz)))) ∨ (why ≠ 0 ∧ PnX f e w'))
theorem rsU_place {B : List Nat} {pos sz : Nat} {why : Int} (h : why ≠ 0) : ((rsU B pos).step sz why).place = (pos : Int) := by
 rw [rsU_step, if_neg h]
set_option maxRecDepth 10000 in
set_option maxHeartbeats 1600000 in
theorem numberX {lim rp : Nat} {w : World} {B : List Nat} {pos : Nat} (h : RdS lim w rp (rsU B pos)) (hg : ErrT w) (hne : 1 ≠ rp) : Calls Tryz.prog 103 #[.agg #[.pointer (some ⟨rp, 0, none⟩)]] w (RdX lim rp B pos (numAt (B.drop pos)).2.1 (numAt (B.drop pos)).2.2 (fzW pos (numAt (B.drop pos)).2.2) (.int .u64 ((numAt (B.drop pos)).1 : Nat)) w) := by
 obtain ⟨W1, hW1⟩ : ∃ W1, w.alloc (.cells #[.pointer (some ⟨rp, 0, none⟩)] 185) = W1 := ⟨_, rfl⟩
 have b1 : Below w.heap.size w W1 := by rw [← hW1]; exact below_alloc1 w _
 have q0 : W1.heap[w.heap.size]? = some (.cells #[.pointer (some ⟨rp, 0, none⟩)] 185 (0, 0)) := by rw [← hW1]; exact alloc_atK _ _
 have hR : RdS lim W1 rp (rsU B pos) := h.kept (row := none) (grown_belowU b1) (fun g e => by cases e)
 have HNM := hide (rNumP (po := some ⟨rp, 0, none⟩) (.inr ⟨rp, rfl, hR⟩))
 rw [rsU_rest] at HNM
 have HG1 : Hid (ErrT W1) := (b1.cell (p := ⟨1, 0, none⟩) hg.lt).trans hg
 have HW1 := hide hW1
 have HB1 := hide (grown_weakU (grown_belowU b1) rp)
 have HQ0 := hide q0
 have hpl : w.heap.size ≠ rp := by have := h.plt; omega
 have HNE := hide (And.intro hne hpl)
 have z0 := block_cell q0 0
 have zl := block_lt q0
 simp at z0
 obtain ⟨v, hv⟩ : ∃ v, (numAt (B.drop pos)).1 = v := ⟨_, rfl⟩
 obtain ⟨sz, hsz⟩ : ∃ sz, (numAt (B.drop pos)).2.1 = sz := ⟨_, rfl⟩
 obtain ⟨why, hwy⟩ : ∃ why, (numAt (B.drop pos)).2.2 = why := ⟨_, rfl⟩
 rw [hv, hsz, hwy] at HNM ⊢
 clear hW1 b1 q0 hR h hg hne hpl hv hsz hwy
 go_enter Tryz.func103, Tryz.ntmps103
 go_upto_region 1 with fail
 rw [HW1.out]
 clear HW1
 go_wp2_with fail
 refine HNM.out.mono ?_
 rintro x w2 ⟨rfl, hR2, hg2⟩
 have hg2' : W1.grownBy w2 (some rp) := hg2
 have hR3 : RdS lim w2 rp ((rsU B pos).step sz why) := by
  rcases hR2 with ⟨e, _⟩ | ⟨p, e, hr⟩
  ·cases e
  ·cases e; exact hr
 obtain ⟨s1, s2, s3⟩ := rsU_why B pos sz why
 have HSO := hide (soundX hR3 s2 s3 (HG1.out.grown hg2' HNE.out.1))
 have q2 := (hg2'.block _ (block_lt HQ0.out) (by simpa using HNE.out.2)).trans HQ0.out
 have y0 := block_cell q2 0
 have yl := block_lt q2
 simp at y0
 have HB2 : Hid (w.grownBy w2 (some rp)) := grown_trans (row := some rp) HB1.out hg2'
 have HR3 := hide hR3
 rw [s1] at HSO
 clear hR2 hg2 hg2' hR3 s1 s2 s3 q2 z0 zl HG1 HNM HQ0 HB1
 go_wp2_with fail
 refine HSO.out.mono ?_
 rintro x w3 ⟨G3, h3⟩
 have HB3 : Hid (w.grownBy w3 (some rp)) := grown_trans (row := some rp) HB2.out (grown_weakU (grown_belowU G3.out) rp)
 rcases h3 with ⟨rfl, rfl⟩ | ⟨hw, gf, rfl, HCH⟩
 ·have HR4 : Hid (RdS lim w3 rp (rsU B (pos + sz))) := by
   have := HR3.out.kept (row := none) (grown_belowU G3.out) (fun g e => by cases e)
   rw [rsU_step, if_pos rfl] at this
   exact this
  clear G3 HSO HB2 HR3 y0 yl
  go_wp2
  go_ret
  exact ⟨HB3, .inl ⟨rfl, rfl, HR4⟩⟩
 ·rw [rsU_place hw] at HCH
  clear G3 HSO HB2 HR3 y0 yl
  go_wp2
  exact ⟨rfl, HB3, .inr ⟨hw, gf, rfl, HCH⟩⟩
set_option maxRecDepth 10000 in
set_option maxHeartbeats 1600000 in
theorem octetX {lim rp : Nat} {w : World} {B : List Nat} {pos : Nat} (h : RdS lim w rp (rsU B pos)) (hg : ErrT w) (hne : 1 ≠ rp) : Calls Tryz.prog 104 #[.agg #[.pointer (some ⟨rp, 0, none⟩)]] w (RdX lim rp B pos 1 (aheadW (B.drop pos) 1) (fzW pos (aheadW (B.drop pos) 1)) (.int .u8 (hi (aheadV (B.drop pos) 1) : Nat)) w) := by
 obtain ⟨W1, hW1⟩ : ∃ W1, w.alloc (.cells #[.pointer (some ⟨rp, 0, none⟩)] 185) = W1 := ⟨_, rfl⟩
 have b1 : Below w.heap.size w W1 := by rw [← hW1]; exact below_alloc1 w _
 have q0 : W1.heap[w.heap.size]? = some (.cells #[.pointer (some ⟨rp, 0, none⟩)] 185 (0, 0)) := by rw [← hW1]; exact alloc_atK _ _
 have hR : RdS lim W1 rp (rsU B pos) := h.kept (row := none) (grown_belowU b1) (fun g e => by cases e)
 have HNM := hide (rU8P (po := some ⟨rp, 0, none⟩) (.inr ⟨rp, rfl, hR⟩))
 rw [rsU_rest] at HNM
 have HG1 : Hid (ErrT W1) := (b1.cell (p := ⟨1, 0, none⟩) hg.lt).trans hg
 have HW1 := hide hW1
 have HB1 := hide (grown_weakU (grown_belowU b1) rp)
 have HQ0 := hide q0
 have hpl : w.heap.size ≠ rp := by have := h.plt; omega
 have HNE := hide (And.intro hne hpl)
 have z0 := block_cell q0 0
 have zl := block_lt q0
 simp at z0
 obtain ⟨v, hv⟩ : ∃ v, hi (aheadV (B.drop pos) 1) = v := ⟨_, rfl⟩
 obtain ⟨sz, hsz⟩ : ∃ sz : Nat, 1 = sz := ⟨_, rfl⟩
 obtain ⟨why, hwy⟩ : ∃ why, aheadW (B.drop pos) 1 = why := ⟨_, rfl⟩
 rw [hv, hwy] at HNM ⊢
 rw [show ((rsU B pos).step 1 why) = (rsU B pos).step sz why by rw [hsz]] at HNM
 rw [hsz]
 clear hW1 b1 q0 hR h hg hne hpl hv hsz hwy
 go_enter Tryz.func104, Tryz.ntmps104
 go_upto_region 1 with fail
 rw [HW1.out]
 clear HW1
 go_wp2_with fail
 refine HNM.out.mono ?_
 rintro x w2 ⟨rfl, hR2, hg2⟩
 have hg2' : W1.grownBy w2 (some rp) := hg2
 have hR3 : RdS lim w2 rp ((rsU B pos).step sz why) := by
  rcases hR2 with ⟨e, _⟩ | ⟨p, e, hr⟩
  ·cases e
  ·cases e; exact hr
 obtain ⟨s1, s2, s3⟩ := rsU_why B pos sz why
 have HSO := hide (soundX hR3 s2 s3 (HG1.out.grown hg2' HNE.out.1))
 have q2 := (hg2'.block _ (block_lt HQ0.out) (by simpa using HNE.out.2)).trans HQ0.out
 have y0 := block_cell q2 0
 have yl := block_lt q2
 simp at y0
 have HB2 : Hid (w.grownBy w2 (some rp)) := grown_trans (row := some rp) HB1.out hg2'
 have HR3 := hide hR3
 rw [s1] at HSO
 clear hR2 hg2 hg2' hR3 s1 s2 s3 q2 z0 zl HG1 HNM HQ0 HB1
 go_wp2_with fail
 refine HSO.out.mono ?_
 rintro x w3 ⟨G3, h3⟩
 have HB3 : Hid (w.grownBy w3 (some rp)) := grown_trans (row := some rp) HB2.out (grown_weakU (grown_belowU G3.out) rp)
 rcases h3 with ⟨rfl, rfl⟩ | ⟨hw, gf, rfl, HCH⟩
 ·have HR4 : Hid (RdS lim w3 rp (rsU B (pos + sz))) := by
   have := HR3.out.kept (row := none) (grown_belowU G3.out) (fun g e => by cases e)
   rw [rsU_step, if_pos rfl] at this
   exact this
  clear G3 HSO HB2 HR3 y0 yl
  go_wp2
  go_ret
  exact ⟨HB3, .inl ⟨rfl, rfl, HR4⟩⟩
 ·rw [rsU_place hw] at HCH
  clear G3 HSO HB2 HR3 y0 yl
  go_wp2
  exact ⟨rfl, HB3, .inr ⟨hw, gf, rfl, HCH⟩⟩
set_option maxRecDepth 10000 in
set_option maxHeartbeats 1600000 in
theorem countX {lim rp : Nat} {w : World} {B : List Nat} {pos : Nat} (h : RdS lim w rp (rsU B pos)) (hg : ErrT w) (hne : 1 ≠ rp) (most : Int) (hm1 : -9223372036854775808 ≤ most) (hm2 : most < 9223372036854775808) : Calls Tryz.prog 102 #[.agg #[.pointer (some ⟨rp, 0, none⟩)], .int .i64 most] w (RdX lim rp B pos (countAt (B.drop pos) most).2.1 (countAt (B.drop pos) most).2.2 (fzW pos (countAt (B.drop pos) most).2.2) (.int .i64 ((countAt (B.drop pos) most).1 : Nat)) w) := by
 obtain ⟨W1, hW1⟩ : ∃ W1, w.alloc (.cells #[.pointer (some ⟨rp, 0, none⟩)] 185) = W1 := ⟨_, rfl⟩
 have b1 : Below w.heap.size w W1 := by rw [← hW1]; exact below_alloc1 w _
 have q0 : W1.heap[w.heap.size]? = some (.cells #[.pointer (some ⟨rp, 0, none⟩)] 185 (0, 0)) := by rw [← hW1]; exact alloc_atK _ _
 have hR : RdS lim W1 rp (rsU B pos) := h.kept (row := none) (grown_belowU b1) (fun g e => by cases e)
 have HNM := hide (rCountP (po := some ⟨rp, 0, none⟩) (.inr ⟨rp, rfl, hR⟩) most hm1 hm2)
 rw [rsU_rest] at HNM
 have HG1 : Hid (ErrT W1) := (b1.cell (p := ⟨1, 0, none⟩) hg.lt).trans hg
 have HW1 := hide hW1
 clear hm1 hm2
 have HB1 := hide (grown_weakU (grown_belowU b1) rp)
 have HQ0 := hide q0
 have hpl : w.heap.size ≠ rp := by have := h.plt; omega
 have HNE := hide (And.intro hne hpl)
 have z0 := block_cell q0 0
 have zl := block_lt q0
 simp at z0
 obtain ⟨v, hv⟩ : ∃ v, (countAt (B.drop pos) most).1 = v := ⟨_, rfl⟩
 obtain ⟨sz, hsz⟩ : ∃ sz, (countAt (B.drop pos) most).2.1 = sz := ⟨_, rfl⟩
 obtain ⟨why, hwy⟩ : ∃ why, (countAt (B.drop pos) most).2.2 = why := ⟨_, rfl⟩
 rw [hv, hsz, hwy] at HNM ⊢
 clear hW1 b1 q0 hR h hg hne hpl hv hsz hwy
 go_enter Tryz.func102, Tryz.ntmps102
 go_upto_region 1 with fail
 rw [HW1.out]
 clear HW1
 go_wp2_with fail
 refine HNM.out.mono ?_
 rintro x w2 ⟨rfl, hR2, hg2⟩
 have hg2' : W1.grownBy w2 (some rp) := hg2
 have hR3 : RdS lim w2 rp ((rsU B pos).step sz why) := by
  rcases hR2 with ⟨e, _⟩ | ⟨p, e, hr⟩
  ·cases e
  ·cases e; exact hr
 obtain ⟨s1, s2, s3⟩ := rsU_why B pos sz why
 have HSO := hide (soundX hR3 s2 s3 (HG1.out.grown hg2' HNE.out.1))
 have q2 := (hg2'.block _ (block_lt HQ0.out) (by simpa using HNE.out.2)).trans HQ0.out
 have y0 := block_cell q2 0
 have yl := block_lt q2
 simp at y0
 have HB2 : Hid (w.grownBy w2 (some rp)) := grown_trans (row := some rp) HB1.out hg2'
 have HR3 := hide hR3
 rw [s1] at HSO
 clear hR2 hg2 hg2' hR3 s1 s2 s3 q2 z0 zl HG1 HNM HQ0 HB1
 go_wp2_with fail
 refine HSO.out.mono ?_
 rintro x w3 ⟨G3, h3⟩
 have HB3 : Hid (w.grownBy w3 (some rp)) := grown_trans (row := some rp) HB2.out (grown_weakU (grown_belowU G3.out) rp)
 rcases h3 with ⟨rfl, rfl⟩ | ⟨hw, gf, rfl, HCH⟩
 ·have HR4 : Hid (RdS lim w3 rp (rsU B (pos + sz))) := by
   have := HR3.out.kept (row := none) (grown_belowU G3.out) (fun g e => by cases e)
   rw [rsU_step, if_pos rfl] at this
   exact this
  clear G3 HSO HB2 HR3 y0 yl
  go_wp2
  go_ret
  exact ⟨HB3, .inl ⟨rfl, rfl, HR4⟩⟩
 ·rw [rsU_place hw] at HCH
  clear G3 HSO HB2 HR3 y0 yl
  go_wp2
  exact ⟨rfl, HB3, .inr ⟨hw, gf, rfl, HCH⟩⟩
end Go.Proofs.YtggpaljilpbmhaaGreatDoor
namespace Go.Proofs.YtggpaljilpbmhaaGreatDoor
open Go.RowKit

/-- The fault of a place that is refused. -/
def fzP (pos : Int) (y : Int) (r : Nat × Nat × Int) : Fz := if r.2.2 = 0 then fzO pos y else fzW pos r.2.2
set_option maxRecDepth 10000 in
set_option maxHeartbeats 1600000 in
theorem placeX {lim rp : Nat} {w : World} {B : List Nat} {pos : Nat} (h : RdS lim w rp (rsU B pos)) (hg : ErrT w) (hne : 1 ≠ rp) (most : Nat) (hm : most ≤ 1024) (y : Int) : Calls Tryz.prog 105 #[.agg #[.pointer (some ⟨rp, 0, none⟩)], .int .u64 (most : Nat), .int .i64 y] w (RdX lim rp B pos (numAt (B.drop pos)).2.1 (plW most (numAt (B.drop pos))) (fzP pos y (numAt (B.drop pos))) (.int .i64 ((numAt (B.drop pos)).1 : Nat)) w) := by
 obtain ⟨W1, hW1⟩ : ∃ W1, w.alloc (.cells #[.pointer (some ⟨rp, 0, none⟩)] 185) = W1 := ⟨_, rfl⟩
 have b1 : Below w.heap.size w W1 := by rw [← hW1]; exact below_alloc1 w _
 have q0 : W1.heap[w.heap.size]? = some (.cells #[.pointer (some ⟨rp, 0, none⟩)] 185 (0, 0)) := by rw [← hW1]; exact alloc_atK _ _
 have hR : RdS lim W1 rp (rsU B pos) := h.kept (row := none) (grown_belowU b1) (fun g e => by cases e)
 have HAT := hide (rAtP (po := some ⟨rp, 0, none⟩) (.inr ⟨rp, rfl, hR⟩))
 have HNU := hide (numberX hR ((b1.cell (p := ⟨1, 0, none⟩) hg.lt).trans hg) hne)
 have HW1 := hide hW1
 have HB1 := hide (grown_weakU (grown_belowU b1) rp)
 have z0 := block_cell q0 0
 have zl := block_lt q0
 simp at z0
 obtain ⟨r, hr⟩ : ∃ r, numAt (B.drop pos) = r := ⟨_, rfl⟩
 obtain ⟨v, sz, why⟩ := r
 rw [hr] at HNU ⊢
 clear hW1 b1 q0 hR h hg hne hr
 go_enter Tryz.func105, Tryz.ntmps105
 go_upto_region 1 with fail
 rw [HW1.out]
 clear HW1
 go_wp2_with fail
 refine HAT.out.mono ?_
 rintro x w2 ⟨rfl, rfl⟩
 clear HAT
 go_wp2_with fail
 refine HNU.out.mono ?_
 rintro x w3 ⟨G3, h3⟩
 have HB3 : Hid (w.grownBy w3 (some rp)) := grown_trans (row := some rp) HB1.out G3.out
 rcases h3 with ⟨hw, rfl, hR3⟩ | ⟨hw, gf, rfl, HCH⟩
 ·have hw : why = 0 := hw
  subst hw
  by_cases hc : most < v
  ·have HPL : Hid (plW most (v, sz, 0) = 1) := by
    have : plW most (v, sz, 0) = 1 := by unfold plW; rw [if_pos rfl]; rw [if_pos hc]
    exact this
   have t1 : decide (((v : Nat) : Int) > (most : Int)) = true := by simp; omega
   have t2 : decide (most < v) = true := by simpa using hc
   clear HNU HB1 G3 z0 zl
   go_wp2_with fail
   refine (giveUp_any _ _ _).mono ?_
   rintro x w4 ⟨gf, rfl, G4⟩
   have HB4 : Hid (w.grownBy w4 (some rp)) := grown_trans (row := some rp) HB3.out (grown_weakU (grown_belowU G4.out.2) rp)
   have HCH : Hid (Chain w4.heap.size w4 (fzP pos y (v, sz, 0)).1 (.iface 74 (.pointer (some ⟨gf, 0, none⟩))) (fzP pos y (v, sz, 0)).2) := G4.out.1
   clear G4 HB3 hR3 t1 t2 hc
   go_wp2
   exact ⟨rfl, HB4, .inr ⟨by rw [HPL.out]; decide, gf, rfl, HCH⟩⟩
  ·have HPL : Hid (plW most (v, sz, 0) = 0) := by
    have : plW most (v, sz, 0) = 0 := by unfold plW; rw [if_pos rfl]; rw [if_neg hc]
    exact this
   have t1 : decide (((v : Nat) : Int) > (most : Int)) = false := by simp; omega
   have t2 : decide (most < v) = false := by simpa using hc
   have hu : IntKind.i64.wrap ((v : Nat) : Int) = ((v : Nat) : Int) := by simp [IntKind.wrap, IntKind.bits, IntKind.signed]; omega
   have HR3 := hide hR3.out
   clear HNU HB1 G3 z0 zl hR3 hc
   go_wp2
   go_ret
   exact ⟨HB3, .inl ⟨HPL.out, rfl, HR3⟩⟩
 ·have HPL : Hid (plW most (v, sz, why) ≠ 0) := by
   have : plW most (v, sz, why) ≠ 0 := by unfold plW; rw [if_neg hw]; exact hw
   exact this
  have HCP : Hid (Chain w3.heap.size w3 (fzP pos y (v, sz, why)).1 (.iface 74 (.pointer (some ⟨gf, 0, none⟩))) (fzP pos y (v, sz, why)).2) := by
   have : fzP pos y (v, sz, why) = fzW pos why := if_neg hw
   rw [this]
   exact HCH
  clear HNU HB1 G3 z0 zl HCH
  go_wp2
  exact ⟨rfl, HB3, .inr ⟨HPL.out, gf, rfl, HCP⟩⟩
/-- The fault of a head that is refused. -/
def fzH (B : List Nat) : Fz :=
 if aheadW B 2 ≠ 0 then fzW 0 (aheadW B 2) else if hi (aheadV B 2) ≠ 20803 then fzO 0 91 else if aheadW (B.drop 2) 1 ≠ 0 then fzW 2 (aheadW (B.drop 2) 1) else fzO 2 91
set_option maxRecDepth 10000 in
set_option maxHeartbeats 1600000 in
theorem headX {lim rp : Nat} {w : World} {B : List Nat} (h : RdS lim w rp (rsU B 0)) (hg : ErrT w) (hne : 1 ≠ rp) : Calls Tryz.prog 101 #[.agg #[.pointer (some ⟨rp, 0, none⟩)]] w (RdX lim rp B 0 3 (hdW B) (fzH B) (.tuple #[]) w) := by
 obtain ⟨W1, hW1⟩ : ∃ W1, w.alloc (.cells #[.pointer (some ⟨rp, 0, none⟩)] 185) = W1 := ⟨_, rfl⟩
 have b1 : Below w.heap.size w W1 := by rw [← hW1]; exact below_alloc1 w _
 have q0 : W1.heap[w.heap.size]? = some (.cells #[.pointer (some ⟨rp, 0, none⟩)] 185 (0, 0)) := by rw [← hW1]; exact alloc_atK _ _
 have hR : RdS lim W1 rp (rsU B 0) := h.kept (row := none) (grown_belowU b1) (fun g e => by cases e)
 have HNM := hide (rU16P (po := some ⟨rp, 0, none⟩) (.inr ⟨rp, rfl, hR⟩))
 rw [rsU_rest] at HNM
 have HG1 : Hid (ErrT W1) := (b1.cell (p := ⟨1, 0, none⟩) hg.lt).trans hg
 have HW1 := hide hW1
 have HB1 := hide (grown_weakU (grown_belowU b1) rp)
 have HQ0 := hide q0
 have hpl : w.heap.size ≠ rp := by have := h.plt; omega
 have HNE := hide (And.intro hne hpl)
 have z0 := block_cell q0 0
 have zl := block_lt q0
 simp at z0
 obtain ⟨v, hv⟩ : ∃ v, hi (aheadV (B.drop 0) 2) = v := ⟨_, rfl⟩
 obtain ⟨why, hwy⟩ : ∃ why, aheadW (B.drop 0) 2 = why := ⟨_, rfl⟩
 obtain ⟨o, ho⟩ : ∃ o, hi (aheadV (B.drop 2) 1) = o := ⟨_, rfl⟩
 obtain ⟨wo, hwo⟩ : ∃ wo, aheadW (B.drop 2) 1 = wo := ⟨_, rfl⟩
 obtain ⟨z, hz⟩ : ∃ z, hdW B = z := ⟨_, rfl⟩
 obtain ⟨fz, hfz⟩ : ∃ f, fzH B = f := ⟨_, rfl⟩
 have HFZ : Hid (fz = if why ≠ 0 then fzW 0 why else if v ≠ 20803 then fzO 0 91 else if wo ≠ 0 then fzW 2 wo else fzO 2 91) := by
  have : fz = if why ≠ 0 then fzW 0 why else if v ≠ 20803 then fzO 0 91 else if wo ≠ 0 then fzW 2 wo else fzO 2 91 := by
   rw [← hfz]
   unfold fzH
   rw [List.drop_zero] at hv hwy
   rw [hv, hwy, hwo]
  exact this
 have HHD : Hid (z = if why = 0 ∧ v = 20803 ∧ wo = 0 ∧ o = 1 then 0 else 1) := by
  rw [List.drop_zero] at hv hwy
  have : z = if why = 0 ∧ v = 20803 ∧ wo = 0 ∧ o = 1 then 0 else 1 := by
   rw [← hz]
   unfold hdW
   rw [hv, hwy, ho, hwo]
  exact this
 rw [hz, hfz]
 rw [hv, hwy] at HNM
 have HOW := hide (And.intro ho hwo)
 clear hW1 b1 q0 hR h hg hne hpl hv hwy ho hwo hz hfz
 go_enter Tryz.func101, Tryz.ntmps101
 go_upto_region 1 with fail
 rw [HW1.out]
 clear HW1
 go_wp2_with fail
 refine HNM.out.mono ?_
 rintro x w2 ⟨rfl, hR2, hg2⟩
 have hg2' : W1.grownBy w2 (some rp) := hg2
 have hR3 : RdS lim w2 rp ((rsU B 0).step 2 why) := by
  rcases hR2 with ⟨e, _⟩ | ⟨p, e, hr⟩
  ·cases e
  ·cases e; exact hr
 obtain ⟨s1, s2, s3⟩ := rsU_why B 0 2 why
 have HG2 := hide (HG1.out.grown hg2' HNE.out.1)
 have HSO := hide (soundX hR3 s2 s3 HG2.out)
 have q2 := (hg2'.block _ (block_lt HQ0.out) (by simpa using HNE.out.2)).trans HQ0.out
 have HQ2 := hide q2
 have y0 := block_cell q2 0
 have yl := block_lt q2
 simp at y0
 have HB2 : Hid (w.grownBy w2 (some rp)) := grown_trans (row := some rp) HB1.out hg2'
 have HR3 := hide hR3
 rw [s1] at HSO
 clear hR2 hg2 hg2' hR3 s1 s2 s3 q2 z0 zl HG1 HNM HQ0 HB1
 go_wp2_with fail
 refine HSO.out.mono ?_
 rintro x w3 ⟨G3, h3⟩
 have HB3 : Hid (w.grownBy w3 (some rp)) := grown_trans (row := some rp) HB2.out (grown_weakU (grown_belowU G3.out) rp)
 rcases h3 with ⟨rfl, rfl⟩ | ⟨hw, gf, rfl, HCH⟩
 ·have HR4 : Hid (RdS lim w3 rp (rsU B 2)) := by
   have := HR3.out.kept (row := none) (grown_belowU G3.out) (fun g e => by cases e)
   rw [rsU_step, if_pos rfl] at this
   exact this
  have q3 := (G3.out.block _ (block_lt HQ2.out)).trans HQ2.out
  have x0 := block_cell q3 0
  have xl := block_lt q3
  simp at x0
  have HG3 : Hid (ErrT w3) := (G3.out.cell (p := ⟨1, 0, none⟩) HG2.out.lt).trans HG2.out
  have HOC := hide (octetX HR4.out HG3.out HNE.out.1)
  rw [HOW.out.1, HOW.out.2] at HOC
  clear G3 HSO HB2 HR3 y0 yl q3 HQ2 HG2 HR4 HG3 HOW
  by_cases hv : v = 20803
  ·have t1 : ((v : Int) != 20803) = false := by simp; omega
   go_wp2_with fail
   refine HOC.out.mono ?_
   rintro x w4 ⟨G4, h4⟩
   have HB4 : Hid (w.grownBy w4 (some rp)) := grown_trans (row := some rp) HB3.out G4.out
   rcases h4 with ⟨hw4, rfl, hR4⟩ | ⟨hw4, gf, rfl, HCH⟩
   ·by_cases ho : o = 1
    ·have t2 : ((o : Int) != 1) = false := by simp; omega
     have HR5 := hide hR4.out
     have HV := hide (And.intro hw4 (And.intro hv ho))
     clear HOC HB3 G4 x0 xl hR4 hv ho hw4
     go_wp2
     go_end0
     exact ⟨HB4, .inl ⟨by rw [HHD.out, if_pos ⟨by simp, HV.out.2.1, HV.out.1, HV.out.2.2⟩], rfl, HR5⟩⟩
    ·have t2 : ((o : Int) != 1) = true := by simp; omega
     have HO := hide ho
     clear HOC HB3 G4 x0 xl hR4 ho
     go_wp2_with fail
     refine (giveUp_any _ _ _).mono ?_
     rintro x w5 ⟨gf, rfl, G5⟩
     have HB5 : Hid (w.grownBy w5 (some rp)) := grown_trans (row := some rp) HB4.out (grown_weakU (grown_belowU G5.out.2) rp)
     have HC5 : Hid (Chain w5.heap.size w5 fz.1 (.iface 74 (.pointer (some ⟨gf, 0, none⟩))) fz.2) := by
      have e : fz = fzO 2 91 := by rw [HFZ.out, if_neg (by simp), if_neg (by omega), if_neg (by omega)]
      rw [e]
      exact G5.out.1
     clear G5 HB4 t1 t2
     go_wp2
     exact ⟨rfl, HB5, .inr ⟨by rw [HHD.out, if_neg (fun q => HO.out q.2.2.2)]; decide, gf, rfl, HC5⟩⟩
   ·have HO := hide hw4
    have HC4 : Hid (Chain w4.heap.size w4 fz.1 (.iface 74 (.pointer (some ⟨gf, 0, none⟩))) fz.2) := by
     have e : fz = fzW 2 wo := by rw [HFZ.out, if_neg (by simp), if_neg (by omega), if_pos hw4]
     rw [e]
     exact HCH
    clear HOC HB3 G4 x0 xl hw4 HCH
    go_wp2
    exact ⟨rfl, HB4, .inr ⟨by rw [HHD.out, if_neg (fun q => HO.out q.2.2.1)]; decide, gf, rfl, HC4⟩⟩
  ·have t1 : ((v : Int) != 20803) = true := by simp; omega
   have HO := hide hv
   clear HOC hv
   go_wp2_with fail
   refine (giveUp_any _ _ _).mono ?_
   rintro x w5 ⟨gf, rfl, G5⟩
   have HB5 : Hid (w.grownBy w5 (some rp)) := grown_trans (row := some rp) HB3.out (grown_weakU (grown_belowU G5.out.2) rp)
   have HC5 : Hid (Chain w5.heap.size w5 fz.1 (.iface 74 (.pointer (some ⟨gf, 0, none⟩))) fz.2) := by
    have e : fz = fzO 0 91 := by rw [HFZ.out, if_neg (by simp), if_pos HO.out]
    rw [e]
    exact G5.out.1
   clear G5 HB3 t1 x0 xl
   go_wp2
   exact ⟨rfl, HB5, .inr ⟨by rw [HHD.out, if_neg (fun q => HO.out q.2.1)]; decide, gf, rfl, HC5⟩⟩
 ·have HO := hide hw
  rw [rsU_place hw] at HCH
  have HC3 : Hid (Chain w3.heap.size w3 fz.1 (.iface 74 (.pointer (some ⟨gf, 0, none⟩))) fz.2) := by
   have e : fz = fzW 0 why := by rw [HFZ.out, if_pos hw]
   rw [e]
   exact HCH
  clear G3 HSO HB2 HR3 y0 yl HQ2 HG2 hw HCH
  go_wp2
  exact ⟨rfl, HB3, .inr ⟨by rw [HHD.out, if_neg (fun q => HO.out q.1)]; decide, gf, rfl, HC3⟩⟩
end Go.Proofs.YtggpaljilpbmhaaGreatDoor
