import Derived.Test.YtggpaljilpbmhaaGreatDoorW03
import Derived.Test.YtggpaljilpbmhaaGreatDoorW12
import Derived.Test.YtggpaljilpbmhaaGreatDoorW15
import Derived.Test.YtggpaljilpbmhaaGreatDoorW08
namespace Go.Proofs.YtggpaljilpbmhaaGreatDoor
open Go.RowKit

theorem grown_weakU {a b : World} (h : a.grownBy b none) (g : Nat) : a.grownBy b (some g) := ⟨h.os, h.tape, h.output, h.size, fun i hi _ => h.block i hi (by simp)⟩
theorem grown_belowU {w w' : World} (hb : Below w.heap.size w w') : w.grownBy w' none := ⟨hb.os, hb.tape, hb.output, hb.size, fun k hk _ => hb.block k hk⟩
set_option maxRecDepth 10000 in
theorem refusalU (at_ : Int) (t : TypeId) (x : Value) (w : World) :
  Calls Tryz.prog 30 #[.int .i64 at_, .iface t x] w fun e w' => e = .returned (.pointer (some ⟨w.heap.size, 0, none⟩)) ∧ Hid (Below w.heap.size w w') := by
 have HB : Hid (Below w.heap.size w (w.alloc (.cells #[.string ⟨#[99, 111, 100, 101]⟩, .int .i64 at_, .iface t x] 130))) := below_alloc1 w _
 go_enter Tryz.func30, Tryz.ntmps30
 go_wp2
 go_ret
 exact ⟨rfl, HB⟩
set_option maxRecDepth 10000 in
set_option maxHeartbeats 1600000 in
/-- What is behind a refusal: a fault, always. -/
theorem behindU {w : World} {v : Value} {a c : Int} (hg : ErrT w) (h : IsFault w v a c) : Calls Tryz.prog 52 #[v] w fun e w' => ∃ g, e = .returned (.pointer (some ⟨g, 0, none⟩)) ∧ Hid (Below w.heap.size w w') := by
 obtain ⟨g, rfl, h0, h1, h2⟩ := h
 have hlt : g < w.heap.size := by
  rcases Nat.lt_or_ge g w.heap.size with h | h
  ·exact h
  ·simp [World.cell?, Array.getElem?_eq_none h] at h0
 obtain ⟨W2, hW2⟩ : ∃ W2, w.alloc (.cells #[.pointer none] 74) = W2 := ⟨_, rfl⟩
 have b2 : Below w.heap.size w W2 := by rw [← hW2]; exact below_alloc1 w _
 have q0 : W2.heap[w.heap.size]? = some (.cells #[.pointer none] 74 (0, 0)) := by rw [← hW2]; exact alloc_atK _ _
 have HA1 := hide (as_fault ⟨g, 0, none⟩ ⟨w.heap.size, 0, none⟩ (.pointer none) W2 ((b2.cell (p := ⟨1, 0, none⟩) hg.lt).trans hg) (block_cell q0 0) (block_free q0 0))
 have S2 := hide (And.intro b2 q0)
 have HW2 := hide hW2
 have HC := hide h1
 clear b2 q0 hW2 hg h0 h1 h2
 go_enter Tryz.func52, Tryz.ntmps52
 go_wp2_with fail
 rw [HW2.out]
 refine HA1.out.mono ?_
 rintro e W3 ⟨rfl, hW3⟩
 obtain ⟨b2, q0⟩ := S2.out
 have g3 : W2.grownBy W3 (some w.heap.size) := by rw [hW3]; exact grown_trans (row := some w.heap.size) (grown_weakU (grown_quiet (grown_quiet (grown_quiet (World.grownBy_alloc _ _ none) (World.grownBy_alloc _ _ none)) (World.grownBy_alloc _ _ none)) (World.grownBy_alloc _ _ none)) _) (grown_set _ _ _ _)
 have z0 : W3.cell? ⟨w.heap.size, 0, none⟩ = some (.pointer (some ⟨g, 0, none⟩)) := by
  obtain ⟨W4, g4, hW4⟩ : ∃ W4, W2.grownBy W4 none ∧ W3 = W4.setCell ⟨w.heap.size, 0, none⟩ (.pointer (some ⟨g, 0, none⟩)) := ⟨_, grown_quiet (grown_quiet (grown_quiet (World.grownBy_alloc _ _ none) (World.grownBy_alloc _ _ none)) (World.grownBy_alloc _ _ none)) (World.grownBy_alloc _ _ none), hW3⟩
  have e := heap_setCell_same W4 w.heap.size 0 _ _ (.pointer (some ⟨g, 0, none⟩)) ((g4.block _ (block_lt q0) (by simp)).trans q0)
  rw [← hW4] at e
  exact (block_cell e 0).trans rfl
 have b3 : Below w.heap.size w W3 := b2.grown g3 b2.size (fun k e => by cases e; exact Nat.le_refl _)
 have ra := (b3.cell (p := ⟨g, 1, none⟩) hlt).trans HC.out
 have HB3 := hide b3
 have zl : w.heap.size < W3.heap.size := Nat.lt_of_lt_of_le (block_lt q0) g3.size
 have HR := hide (refusalU a 74 (.pointer (some ⟨g, 0, none⟩)) W3)
 clear b2 q0 g3 b3 hW3 HA1 S2 HW2 HC
 go_wp2_with fail
 refine HR.out.mono ?_
 rintro e W4 ⟨rfl, G4⟩
 have HD : Hid (Below w.heap.size w W4) := HB3.out.trans (G4.out.mono HB3.out.size)
 clear HB3 G4 HR ra z0 zl
 go_wp2
 go_ret
 exact ⟨_, rfl, HD⟩
/-- Given up with a fault. -/
def PnU (e : Ending) : Prop := ∃ g, e = .panicked [{ v := .iface 74 (.pointer (some ⟨g, 0, none⟩)), recovered := false }]
set_option maxRecDepth 10000 in
set_option maxHeartbeats 1600000 in
theorem soundU {lim rp : Nat} {w : World} {s : RS} (h : RdS lim w rp s) (hm : s.made = true) (hz : s.sound → s.place = 0) (hg : ErrT w) : Calls Tryz.prog 138 #[.agg #[.pointer (some ⟨rp, 0, none⟩)]] w fun e w' => Hid (Below w.heap.size w w') ∧ ((s.why = 0 ∧ e = .returned (.tuple #[])) ∨ (s.why ≠ 0 ∧ PnU e)) := by
 obtain ⟨W1, hW1⟩ : ∃ W1, w.alloc (.cells #[.pointer (some ⟨rp, 0, none⟩)] 185) = W1 := ⟨_, rfl⟩
 have b1 : Below w.heap.size w W1 := by rw [← hW1]; exact below_alloc1 w _
 have q0 : W1.heap[w.heap.size]? = some (.cells #[.pointer (some ⟨rp, 0, none⟩)] 185 (0, 0)) := by rw [← hW1]; exact alloc_atK _ _
 have hR : RdS lim W1 rp s := h.kept (row := none) (grown_belowU b1) (fun g e => by cases e)
 have HER := hide (rErrP (po := some ⟨rp, 0, none⟩) (.inr ⟨rp, rfl, hR⟩) hz)
 have HG1 : Hid (ErrT W1) := (b1.cell (p := ⟨1, 0, none⟩) hg.lt).trans hg
 have HW1 := hide hW1
 have HB1 := hide b1
 have z0 := block_cell q0 0
 have zl := block_lt q0
 simp at z0
 have hec : s.errC = s.why := by unfold RS.errC; rw [if_pos hm]
 rw [hec] at HER
 clear hW1 b1 q0 hR h hg hm hz hec
 go_enter Tryz.func138, Tryz.ntmps138
 go_upto_region 1 with fail
 rw [HW1.out]
 clear HW1
 go_wp2_with fail
 refine HER.out.mono ?_
 rintro x w2 ⟨v, rfl, hv, hb⟩
 have HB2 : Hid (Below w.heap.size w w2) := HB1.out.trans (hb.mono HB1.out.size)
 have HG2 : Hid (ErrT w2) := (hb.cell (p := ⟨1, 0, none⟩) HG1.out.lt).trans HG1.out
 clear hb HB1 HG1 HER z0 zl
 rcases hv with ⟨rfl, hc, _⟩ | ⟨hf, hc⟩
 ·go_wp2
  go_end0
  exact ⟨HB2, .inl ⟨hc, rfl⟩⟩
 ·have HBH := hide (behindU HG2.out hf)
  obtain ⟨gf, rfl, -⟩ := hf
  go_wp2_with fail
  refine HBH.out.mono ?_
  rintro x w3 ⟨g3, rfl, G3⟩
  have HB3 : Hid (Below w.heap.size w w3) := HB2.out.trans (G3.out.mono HB2.out.size)
  clear G3 HBH HB2 HG2
  go_wp2
  exact ⟨rfl, HB3, .inr ⟨hc, g3, rfl⟩⟩
end Go.Proofs.YtggpaljilpbmhaaGreatDoor
namespace Go.Proofs.YtggpaljilpbmhaaGreatDoor
open Go.RowKit

/-- A reader that has read so much of these bytes, soundly. -/
def rsU (B : List Nat) (pos : Nat) : RS := ⟨true, 0, 0, B, pos, KR⟩
/-- A field was read: a value, and the place behind it; or it was refused. -/
def RdU (lim rp : Nat) (B : List Nat) (pos sz : Nat) (why : Int) (x : Value) (w : World) (e : Ending) (w' : World) : Prop :=
 Hid (w.grownBy w' (some rp)) ∧ ((why = 0 ∧ e = .returned x ∧ Hid (RdS lim w' rp (rsU B (pos + sz)))) ∨ (why ≠ 0 ∧ PnU e))
theorem rsU_step (B : List Nat) (pos sz : Nat) (why : Int) : (rsU B pos).step sz why = if why = 0 then rsU B (pos + sz) else { rsU B pos with place := (pos : Int), why := why } := by
 unfold RS.step
 rw [if_pos (show (rsU B pos).sound from ⟨rfl, rfl⟩)]
 rfl
theorem rsU_rest (B : List Nat) (pos : Nat) : (rsU B pos).rest = B.drop pos := rfl
theorem rsU_why (B : List Nat) (pos sz : Nat) (why : Int) : ((rsU B pos).step sz why).why = why ∧ ((rsU B pos).step sz why).made = true ∧ (((rsU B pos).step sz why).sound → ((rsU B pos).step sz why).place = 0) := by
 rw [rsU_step]
 by_cases h : why = 0
 ·rw [if_pos h]; exact ⟨h.symm, rfl, fun _ => rfl⟩
 ·rw [if_neg h]; exact ⟨rfl, rfl, fun q => absurd q.2 h⟩
theorem ErrT.grown {w w' : World} {rp : Nat} (hg : ErrT w) (h : w.grownBy w' (some rp)) (hne : 1 ≠ rp) : ErrT w' := by
 have e := h.block 1 hg.lt (by simpa using hne)
 unfold ErrT at hg ⊢
 rw [← hg]
 simp only [World.cell?, e]
set_option maxRecDepth 10000 in
set_option maxHeartbeats 1600000 in
theorem numberU {lim rp : Nat} {w : World} {B : List Nat} {pos : Nat} (h : RdS lim w rp (rsU B pos)) (hg : ErrT w) (hne : 1 ≠ rp) : Calls Tryz.prog 103 #[.agg #[.pointer (some ⟨rp, 0, none⟩)]] w (RdU lim rp B pos (numAt (B.drop pos)).2.1 (numAt (B.drop pos)).2.2 (.int .u64 ((numAt (B.drop pos)).1 : Nat)) w) := by
 obtain ⟨W1, hW1⟩ : ∃ W1, w.alloc (.cells #[.pointer (some ⟨rp, 0, none⟩)] 185) = W1 := ⟨_, rfl⟩
 have b1 : Below w.heap.size w W1 := by rw [← hW1]; exact below_alloc1 w _
 have q0 : W1.heap[w.heap.size]? = some (.cells #[.pointer (some ⟨rp, 0, none⟩)] 185 (0, 0)) := by rw [← hW1]; exact alloc_atK _ _
 have hR : RdS lim W1 rp (rsU B pos) := h.kept (row := none) (grown_belowU b1) (fun g e => by cases e)
 have HNM := hide (rNumP (po := some ⟨rp, 0, none⟩) (.inr ⟨rp, rfl, hR⟩))
 rw [rsU_rest] at HNM
 have HG1 : Hid (ErrT W1) := (b1.cell (p := ⟨1, 0, none⟩) hg.lt).trans hg
 have HW1 := hide hW1
 have HB1 := hide (grown_weakU (grown_belowU b1) rp)
 have HQ0 := hide q0
 have hpl : w.heap.size ≠ rp := by have := h.plt; omega
 have HNE := hide (And.intro hne hpl)
 have z0 := block_cell q0 0
 have zl := block_lt q0
 simp at z0
 obtain ⟨v, hv⟩ : ∃ v, (numAt (B.drop pos)).1 = v := ⟨_, rfl⟩
 obtain ⟨sz, hsz⟩ : ∃ sz, (numAt (B.drop pos)).2.1 = sz := ⟨_, rfl⟩
 obtain ⟨why, hwy⟩ : ∃ why, (numAt (B.drop pos)).2.2 = why := ⟨_, rfl⟩
 rw [hv, hsz, hwy] at HNM ⊢
 clear hW1 b1 q0 hR h hg hne hpl hv hsz hwy
 go_enter Tryz.func103, Tryz.ntmps103
 go_upto_region 1 with fail
 rw [HW1.out]
 clear HW1
 go_wp2_with fail
 refine HNM.out.mono ?_
 rintro x w2 ⟨rfl, hR2, hg2⟩
 have hg2' : W1.grownBy w2 (some rp) := hg2
 have hR3 : RdS lim w2 rp ((rsU B pos).step sz why) := by
  rcases hR2 with ⟨e, _⟩ | ⟨p, e, hr⟩
  ·cases e
  ·cases e; exact hr
 obtain ⟨s1, s2, s3⟩ := rsU_why B pos sz why
 have HSO := hide (soundU hR3 s2 s3 (HG1.out.grown hg2' HNE.out.1))
 have q2 := (hg2'.block _ (block_lt HQ0.out) (by simpa using HNE.out.2)).trans HQ0.out
 have y0 := block_cell q2 0
 have yl := block_lt q2
 simp at y0
 have HB2 : Hid (w.grownBy w2 (some rp)) := grown_trans (row := some rp) HB1.out hg2'
 have HR3 := hide hR3
 rw [s1] at HSO
 clear hR2 hg2 hg2' hR3 s1 s2 s3 q2 z0 zl HG1 HNM HQ0 HB1
 go_wp2_with fail
 refine HSO.out.mono ?_
 rintro x w3 ⟨G3, h3⟩
 have HB3 : Hid (w.grownBy w3 (some rp)) := grown_trans (row := some rp) HB2.out (grown_weakU (grown_belowU G3.out) rp)
 rcases h3 with ⟨rfl, rfl⟩ | ⟨hw, gf, rfl⟩
 ·have HR4 : Hid (RdS lim w3 rp (rsU B (pos + sz))) := by
   have := HR3.out.kept (row := none) (grown_belowU G3.out) (fun g e => by cases e)
   rw [rsU_step, if_pos rfl] at this
   exact this
  clear G3 HSO HB2 HR3 y0 yl
  go_wp2
  go_ret
  exact ⟨HB3, .inl ⟨rfl, rfl, HR4⟩⟩
 ·clear G3 HSO HB2 HR3 y0 yl
  go_wp2
  exact ⟨rfl, HB3, .inr ⟨hw, gf, rfl⟩⟩
set_option maxRecDepth 10000 in
set_option maxHeartbeats 1600000 in
theorem octetU {lim rp : Nat} {w : World} {B : List Nat} {pos : Nat} (h : RdS lim w rp (rsU B pos)) (hg : ErrT w) (hne : 1 ≠ rp) : Calls Tryz.prog 104 #[.agg #[.pointer (some ⟨rp, 0, none⟩)]] w (RdU lim rp B pos 1 (aheadW (B.drop pos) 1) (.int .u8 (hi (aheadV (B.drop pos) 1) : Nat)) w) := by
 obtain ⟨W1, hW1⟩ : ∃ W1, w.alloc (.cells #[.pointer (some ⟨rp, 0, none⟩)] 185) = W1 := ⟨_, rfl⟩
 have b1 : Below w.heap.size w W1 := by rw [← hW1]; exact below_alloc1 w _
 have q0 : W1.heap[w.heap.size]? = some (.cells #[.pointer (some ⟨rp, 0, none⟩)] 185 (0, 0)) := by rw [← hW1]; exact alloc_atK _ _
 have hR : RdS lim W1 rp (rsU B pos) := h.kept (row := none) (grown_belowU b1) (fun g e => by cases e)
 have HNM := hide (rU8P (po := some ⟨rp, 0, none⟩) (.inr ⟨rp, rfl, hR⟩))
 rw [rsU_rest] at HNM
 have HG1 : Hid (ErrT W1) := (b1.cell (p := ⟨1, 0, none⟩) hg.lt).trans hg
 have HW1 := hide hW1
 have HB1 := hide (grown_weakU (grown_belowU b1) rp)
 have HQ0 := hide q0
 have hpl : w.heap.size ≠ rp := by have := h.plt; omega
 have HNE := hide (And.intro hne hpl)
 have z0 := block_cell q0 0
 have zl := block_lt q0
 simp at z0
 obtain ⟨v, hv⟩ : ∃ v, hi (aheadV (B.drop pos) 1) = v := ⟨_, rfl⟩
 obtain ⟨sz, hsz⟩ : ∃ sz : Nat, 1 = sz := ⟨_, rfl⟩
 obtain ⟨why, hwy⟩ : ∃ why, aheadW (B.drop pos) 1 = why := ⟨_, rfl⟩
 rw [hv, hwy] at HNM ⊢
 rw [show ((rsU B pos).step 1 why) = (rsU B pos).step sz why by rw [hsz]] at HNM
 rw [hsz]
 clear hW1 b1 q0 hR h hg hne hpl hv hsz hwy
 go_enter Tryz.func104, Tryz.ntmps104
 go_upto_region 1 with fail
 rw [HW1.out]
 clear HW1
 go_wp2_with fail
 refine HNM.out.mono ?_
 rintro x w2 ⟨rfl, hR2, hg2⟩
 have hg2' : W1.grownBy w2 (some rp) := hg2
 have hR3 : RdS lim w2 rp ((rsU B pos).step sz why) := by
  rcases hR2 with ⟨e, _⟩ | ⟨p, e, hr⟩
  ·cases e
  ·cases e; exact hr
 obtain ⟨s1, s2, s3⟩ := rsU_why B pos sz why
 have HSO := hide (soundU hR3 s2 s3 (HG1.out.grown hg2' HNE.out.1))
 have q2 := (hg2'.block _ (block_lt HQ0.out) (by simpa using HNE.out.2)).trans HQ0.out
 have y0 := block_cell q2 0
 have yl := block_lt q2
 simp at y0
 have HB2 : Hid (w.grownBy w2 (some rp)) := grown_trans (row := some rp) HB1.out hg2'
 have HR3 := hide hR3
 rw [s1] at HSO
 clear hR2 hg2 hg2' hR3 s1 s2 s3 q2 z0 zl HG1 HNM HQ0 HB1
 go_wp2_with fail
 refine HSO.out.mono ?_
 rintro x w3 ⟨G3, h3⟩
 have HB3 : Hid (w.grownBy w3 (some rp)) := grown_trans (row := some rp) HB2.out (grown_weakU (grown_belowU G3.out) rp)
 rcases h3 with ⟨rfl, rfl⟩ | ⟨hw, gf, rfl⟩
 ·have HR4 : Hid (RdS lim w3 rp (rsU B (pos + sz))) := by
   have := HR3.out.kept (row := none) (grown_belowU G3.out) (fun g e => by cases e)
   rw [rsU_step, if_pos rfl] at this
   exact this
  clear G3 HSO HB2 HR3 y0 yl
  go_wp2
  go_ret
  exact ⟨HB3, .inl ⟨rfl, rfl, HR4⟩⟩
 ·clear G3 HSO HB2 HR3 y0 yl
  go_wp2
  exact ⟨rfl, HB3, .inr ⟨hw, gf, rfl⟩⟩
set_option maxRecDepth 10000 in
set_option maxHeartbeats 1600000 in
theorem countU {lim rp : Nat} {w : World} {B : List Nat} {pos : Nat} (h : RdS lim w rp (rsU B pos)) (hg : ErrT w) (hne : 1 ≠ rp) (most : Int) (hm1 : -9223372036854775808 ≤ most) (hm2 : most < 9223372036854775808) : Calls Tryz.prog 102 #[.agg #[.pointer (some ⟨rp, 0, none⟩)], .int .i64 most] w (RdU lim rp B pos (countAt (B.drop pos) most).2.1 (countAt (B.drop pos) most).2.2 (.int .i64 ((countAt (B.drop pos) most).1 : Nat)) w) := by
 obtain ⟨W1, hW1⟩ : ∃ W1, w.alloc (.cells #[.pointer (some ⟨rp, 0, none⟩)] 185) = W1 := ⟨_, rfl⟩
 have b1 : Below w.heap.size w W1 := by rw [← hW1]; exact below_alloc1 w _
 have q0 : W1.heap[w.heap.size]? = some (.cells #[.pointer (some ⟨rp, 0, none⟩)] 185 (0, 0)) := by rw [← hW1]; exact alloc_atK _ _
 have hR : RdS lim W1 rp (rsU B pos) := h.kept (row := none) (grown_belowU b1) (fun g e => by cases e)
 have HNM := hide (rCountP (po := some ⟨rp, 0, none⟩) (.inr ⟨rp, rfl, hR⟩) most hm1 hm2)
 rw [rsU_rest] at HNM
 have HG1 : Hid (ErrT W1) := (b1.cell (p := ⟨1, 0, none⟩) hg.lt).trans hg
 have HW1 := hide hW1
 clear hm1 hm2
 have HB1 := hide (grown_weakU (grown_belowU b1) rp)
 have HQ0 := hide q0
 have hpl : w.heap.size ≠ rp := by have := h.plt; omega
 have HNE := hide (And.intro hne hpl)
 have z0 := block_cell q0 0
 have zl := block_lt q0
 simp at z0
 obtain ⟨v, hv⟩ : ∃ v, (countAt (B.drop pos) most).1 = v := ⟨_, rfl⟩
 obtain ⟨sz, hsz⟩ : ∃ sz, (countAt (B.drop pos) most).2.1 = sz := ⟨_, rfl⟩
 obtain ⟨why, hwy⟩ : ∃ why, (countAt (B.drop pos) most).2.2 = why := ⟨_, rfl⟩
 rw [hv, hsz, hwy] at HNM ⊢
 clear hW1 b1 q0 hR h hg hne hpl hv hsz hwy
 go_enter Tryz.func102, Tryz.ntmps102
 go_upto_region 1 with fail
 rw [HW1.out]
 clear HW1
 go_wp2_with fail
 refine HNM.out.mono ?_
 rintro x w2 ⟨rfl, hR2, hg2⟩
 have hg2' : W1.grownBy w2 (some rp) := hg2
 have hR3 : RdS lim w2 rp ((rsU B pos).step sz why) := by
  rcases hR2 with ⟨e, _⟩ | ⟨p, e, hr⟩
  ·cases e
  ·cases e; exact hr
 obtain ⟨s1, s2, s3⟩ := rsU_why B pos sz why
 have HSO := hide (soundU hR3 s2 s3 (HG1.out.grown hg2' HNE.out.1))
 have q2 := (hg2'.block _ (block_lt HQ0.out) (by simpa using HNE.out.2)).trans HQ0.out
 have y0 := block_cell q2 0
 have yl := block_lt q2
 simp at y0
 have HB2 : Hid (w.grownBy w2 (some rp)) := grown_trans (row := some rp) HB1.out hg2'
 have HR3 := hide hR3
 rw [s1] at HSO
 clear hR2 hg2 hg2' hR3 s1 s2 s3 q2 z0 zl HG1 HNM HQ0 HB1
 go_wp2_with fail
 refine HSO.out.mono ?_
 rintro x w3 ⟨G3, h3⟩
 have HB3 : Hid (w.grownBy w3 (some rp)) := grown_trans (row := some rp) HB2.out (grown_weakU (grown_belowU G3.out) rp)
 rcases h3 with ⟨rfl, rfl⟩ | ⟨hw, gf, rfl⟩
 ·have HR4 : Hid (RdS lim w3 rp (rsU B (pos + sz))) := by
   have := HR3.out.kept (row := none) (grown_belowU G3.out) (fun g e => by cases e)
   rw [rsU_step, if_pos rfl] at this
   exact this
  clear G3 HSO HB2 HR3 y0 yl
  go_wp2
  go_ret
  exact ⟨HB3, .inl ⟨rfl, rfl, HR4⟩⟩
 ·clear G3 HSO HB2 HR3 y0 yl
  go_wp2
  exact ⟨rfl, HB3, .inr ⟨hw, gf, rfl⟩⟩
end Go.Proofs.YtggpaljilpbmhaaGreatDoor
namespace Go.Proofs.YtggpaljilpbmhaaGreatDoor
open Go.RowKit

/-- Why a place is refused, if it is. -/
def plW (most : Nat) (r : Nat × Nat × Int) : Int := if r.2.2 = 0 then (if most < r.1 then 1 else 0) else r.2.2
set_option maxRecDepth 10000 in
set_option maxHeartbeats 1600000 in
theorem placeU {lim rp : Nat} {w : World} {B : List Nat} {pos : Nat} (h : RdS lim w rp (rsU B pos)) (hg : ErrT w) (hne : 1 ≠ rp) (most : Nat) (hm : most ≤ 1024) (y : Int) : Calls Tryz.prog 105 #[.agg #[.pointer (some ⟨rp, 0, none⟩)], .int .u64 (most : Nat), .int .i64 y] w (RdU lim rp B pos (numAt (B.drop pos)).2.1 (plW most (numAt (B.drop pos))) (.int .i64 ((numAt (B.drop pos)).1 : Nat)) w) := by
 obtain ⟨W1, hW1⟩ : ∃ W1, w.alloc (.cells #[.pointer (some ⟨rp, 0, none⟩)] 185) = W1 := ⟨_, rfl⟩
 have b1 : Below w.heap.size w W1 := by rw [← hW1]; exact below_alloc1 w _
 have q0 : W1.heap[w.heap.size]? = some (.cells #[.pointer (some ⟨rp, 0, none⟩)] 185 (0, 0)) := by rw [← hW1]; exact alloc_atK _ _
 have hR : RdS lim W1 rp (rsU B pos) := h.kept (row := none) (grown_belowU b1) (fun g e => by cases e)
 have HAT := hide (rAtP (po := some ⟨rp, 0, none⟩) (.inr ⟨rp, rfl, hR⟩))
 have HNU := hide (numberU hR ((b1.cell (p := ⟨1, 0, none⟩) hg.lt).trans hg) hne)
 have HW1 := hide hW1
 have HB1 := hide (grown_weakU (grown_belowU b1) rp)
 have z0 := block_cell q0 0
 have zl := block_lt q0
 simp at z0
 obtain ⟨r, hr⟩ : ∃ r, numAt (B.drop pos) = r := ⟨_, rfl⟩
 obtain ⟨v, sz, why⟩ := r
 rw [hr] at HNU ⊢
 clear hW1 b1 q0 hR h hg hne hr
 go_enter Tryz.func105, Tryz.ntmps105
 go_upto_region 1 with fail
 rw [HW1.out]
 clear HW1
 go_wp2_with fail
 refine HAT.out.mono ?_
 rintro x w2 ⟨rfl, rfl⟩
 clear HAT
 go_wp2_with fail
 refine HNU.out.mono ?_
 rintro x w3 ⟨G3, h3⟩
 have HB3 : Hid (w.grownBy w3 (some rp)) := grown_trans (row := some rp) HB1.out G3.out
 rcases h3 with ⟨hw, rfl, hR3⟩ | ⟨hw, gf, rfl⟩
 ·have hw : why = 0 := hw
  subst hw
  by_cases hc : most < v
  ·have HPL : Hid (plW most (v, sz, 0) = 1) := by
    have : plW most (v, sz, 0) = 1 := by unfold plW; rw [if_pos rfl]; rw [if_pos hc]
    exact this
   have t1 : decide (((v : Nat) : Int) > (most : Int)) = true := by simp; omega
   have t2 : decide (most < v) = true := by simpa using hc
   clear HNU HB1 G3 z0 zl
   go_wp2_with fail
   refine (giveUp_any _ _ _).mono ?_
   rintro x w4 ⟨gf, rfl, G4⟩
   have HB4 : Hid (w.grownBy w4 (some rp)) := grown_trans (row := some rp) HB3.out (grown_weakU (grown_belowU G4.out.2) rp)
   clear G4 HB3 hR3 t1 t2 hc
   go_wp2
   exact ⟨rfl, HB4, .inr ⟨by rw [HPL.out]; decide, gf, rfl⟩⟩
  ·have HPL : Hid (plW most (v, sz, 0) = 0) := by
    have : plW most (v, sz, 0) = 0 := by unfold plW; rw [if_pos rfl]; rw [if_neg hc]
    exact this
   have t1 : decide (((v : Nat) : Int) > (most : Int)) = false := by simp; omega
   have t2 : decide (most < v) = false := by simpa using hc
   have hu : IntKind.i64.wrap ((v : Nat) : Int) = ((v : Nat) : Int) := by simp [IntKind.wrap, IntKind.bits, IntKind.signed]; omega
   have HR3 := hide hR3.out
   clear HNU HB1 G3 z0 zl hR3 hc
   go_wp2
   go_ret
   exact ⟨HB3, .inl ⟨HPL.out, rfl, HR3⟩⟩
 ·have HPL : Hid (plW most (v, sz, why) ≠ 0) := by
   have : plW most (v, sz, why) ≠ 0 := by unfold plW; rw [if_neg hw]; exact hw
   exact this
  clear HNU HB1 G3 z0 zl
  go_wp2
  exact ⟨rfl, HB3, .inr ⟨HPL.out, gf, rfl⟩⟩
/-- Why the head is refused, if it is. -/
def hdW (B : List Nat) : Int := if aheadW B 2 = 0 ∧ hi (aheadV B 2) = 20803 ∧ aheadW (B.drop 2) 1 = 0 ∧ hi (aheadV (B.drop 2) 1) = 1 then 0 else 1
set_option maxRecDepth 10000 in
set_option maxHeartbeats 1600000 in
theorem headU {lim rp : Nat} {w : World} {B : List Nat} (h : RdS lim w rp (rsU B 0)) (hg : ErrT w) (hne : 1 ≠ rp) : Calls Tryz.prog 101 #[.agg #[.pointer (some ⟨rp, 0, none⟩)]] w (RdU lim rp B 0 3 (hdW B) (.tuple #[]) w) := by
 obtain ⟨W1, hW1⟩ : ∃ W1, w.alloc (.cells #[.pointer (some ⟨rp, 0, none⟩)] 185) = W1 := ⟨_, rfl⟩
 have b1 : Below w.heap.size w W1 := by rw [← hW1]; exact below_alloc1 w _
 have q0 : W1.heap[w.heap.size]? = some (.cells #[.pointer (some ⟨rp, 0, none⟩)] 185 (0, 0)) := by rw [← hW1]; exact alloc_atK _ _
 have hR : RdS lim W1 rp (rsU B 0) := h.kept (row := none) (grown_belowU b1) (fun g e => by cases e)
 have HNM := hide (rU16P (po := some ⟨rp, 0, none⟩) (.inr ⟨rp, rfl, hR⟩))
 rw [rsU_rest] at HNM
 have HG1 : Hid (ErrT W1) := (b1.cell (p := ⟨1, 0, none⟩) hg.lt).trans hg
 have HW1 := hide hW1
 have HB1 := hide (grown_weakU (grown_belowU b1) rp)
 have HQ0 := hide q0
 have hpl : w.heap.size ≠ rp := by have := h.plt; omega
 have HNE := hide (And.intro hne hpl)
 have z0 := block_cell q0 0
 have zl := block_lt q0
 simp at z0
 obtain ⟨v, hv⟩ : ∃ v, hi (aheadV (B.drop 0) 2) = v := ⟨_, rfl⟩
 obtain ⟨why, hwy⟩ : ∃ why, aheadW (B.drop 0) 2 = why := ⟨_, rfl⟩
 obtain ⟨o, ho⟩ : ∃ o, hi (aheadV (B.drop 2) 1) = o := ⟨_, rfl⟩
 obtain ⟨wo, hwo⟩ : ∃ wo, aheadW (B.drop 2) 1 = wo := ⟨_, rfl⟩
 obtain ⟨z, hz⟩ : ∃ z, hdW B = z := ⟨_, rfl⟩
 have HHD : Hid (z = if why = 0 ∧ v = 20803 ∧ wo = 0 ∧ o = 1 then 0 else 1) := by
  rw [List.drop_zero] at hv hwy
  have : z = if why = 0 ∧ v = 20803 ∧ wo = 0 ∧ o = 1 then 0 else 1 := by
   rw [← hz]
   unfold hdW
   rw [hv, hwy, ho, hwo]
  exact this
 rw [hz]
 rw [hv, hwy] at HNM
 have HOW := hide (And.intro ho hwo)
 clear hW1 b1 q0 hR h hg hne hpl hv hwy ho hwo hz
 go_enter Tryz.func101, Tryz.ntmps101
 go_upto_region 1 with fail
 rw [HW1.out]
 clear HW1
 go_wp2_with fail
 refine HNM.out.mono ?_
 rintro x w2 ⟨rfl, hR2, hg2⟩
 have hg2' : W1.grownBy w2 (some rp) := hg2
 have hR3 : RdS lim w2 rp ((rsU B 0).step 2 why) := by
  rcases hR2 with ⟨e, _⟩ | ⟨p, e, hr⟩
  ·cases e
  ·cases e; exact hr
 obtain ⟨s1, s2, s3⟩ := rsU_why B 0 2 why
 have HG2 := hide (HG1.out.grown hg2' HNE.out.1)
 have HSO := hide (soundU hR3 s2 s3 HG2.out)
 have q2 := (hg2'.block _ (block_lt HQ0.out) (by simpa using HNE.out.2)).trans HQ0.out
 have HQ2 := hide q2
 have y0 := block_cell q2 0
 have yl := block_lt q2
 simp at y0
 have HB2 : Hid (w.grownBy w2 (some rp)) := grown_trans (row := some rp) HB1.out hg2'
 have HR3 := hide hR3
 rw [s1] at HSO
 clear hR2 hg2 hg2' hR3 s1 s2 s3 q2 z0 zl HG1 HNM HQ0 HB1
 go_wp2_with fail
 refine HSO.out.mono ?_
 rintro x w3 ⟨G3, h3⟩
 have HB3 : Hid (w.grownBy w3 (some rp)) := grown_trans (row := some rp) HB2.out (grown_weakU (grown_belowU G3.out) rp)
 rcases h3 with ⟨rfl, rfl⟩ | ⟨hw, gf, rfl⟩
 ·have HR4 : Hid (RdS lim w3 rp (rsU B 2)) := by
   have := HR3.out.kept (row := none) (grown_belowU G3.out) (fun g e => by cases e)
   rw [rsU_step, if_pos rfl] at this
   exact this
  have q3 := (G3.out.block _ (block_lt HQ2.out)).trans HQ2.out
  have x0 := block_cell q3 0
  have xl := block_lt q3
  simp at x0
  have HG3 : Hid (ErrT w3) := (G3.out.cell (p := ⟨1, 0, none⟩) HG2.out.lt).trans HG2.out
  have HOC := hide (octetU HR4.out HG3.out HNE.out.1)
  rw [HOW.out.1, HOW.out.2] at HOC
  clear G3 HSO HB2 HR3 y0 yl q3 HQ2 HG2 HR4 HG3 HOW
  by_cases hv : v = 20803
  ·have t1 : ((v : Int) != 20803) = false := by simp; omega
   go_wp2_with fail
   refine HOC.out.mono ?_
   rintro x w4 ⟨G4, h4⟩
   have HB4 : Hid (w.grownBy w4 (some rp)) := grown_trans (row := some rp) HB3.out G4.out
   rcases h4 with ⟨hw4, rfl, hR4⟩ | ⟨hw4, gf, rfl⟩
   ·by_cases ho : o = 1
    ·have t2 : ((o : Int) != 1) = false := by simp; omega
     have HR5 := hide hR4.out
     have HV := hide (And.intro hw4 (And.intro hv ho))
     clear HOC HB3 G4 x0 xl hR4 hv ho hw4
     go_wp2
     go_end0
     exact ⟨HB4, .inl ⟨by rw [HHD.out, if_pos ⟨by simp, HV.out.2.1, HV.out.1, HV.out.2.2⟩], rfl, HR5⟩⟩
    ·have t2 : ((o : Int) != 1) = true := by simp; omega
     have HO := hide ho
     clear HOC HB3 G4 x0 xl hR4 ho
     go_wp2_with fail
     refine (giveUp_any _ _ _).mono ?_
     rintro x w5 ⟨gf, rfl, G5⟩
     have HB5 : Hid (w.grownBy w5 (some rp)) := grown_trans (row := some rp) HB4.out (grown_weakU (grown_belowU G5.out.2) rp)
     clear G5 HB4 t1 t2
     go_wp2
     exact ⟨rfl, HB5, .inr ⟨by rw [HHD.out, if_neg (fun q => HO.out q.2.2.2)]; decide, gf, rfl⟩⟩
   ·have HO := hide hw4
    clear HOC HB3 G4 x0 xl hw4
    go_wp2
    exact ⟨rfl, HB4, .inr ⟨by rw [HHD.out, if_neg (fun q => HO.out q.2.2.1)]; decide, gf, rfl⟩⟩
  ·have t1 : ((v : Int) != 20803) = true := by simp; omega
   have HO := hide hv
   clear HOC hv
   go_wp2_with fail
   refine (giveUp_any _ _ _).mono ?_
   rintro x w5 ⟨gf, rfl, G5⟩
   have HB5 : Hid (w.grownBy w5 (some rp)) := grown_trans (row := some rp) HB3.out (grown_weakU (grown_belowU G5.out.2) rp)
   clear G5 HB3 t1 x0 xl
   go_wp2
   exact ⟨rfl, HB5, .inr ⟨by rw [HHD.out, if_neg (fun q => HO.out q.2.1)]; decide, gf, rfl⟩⟩
 ·have HO := hide hw
  clear G3 HSO HB2 HR3 y0 yl HQ2 HG2 hw
  go_wp2
  exact ⟨rfl, HB3, .inr ⟨by rw [HHD.out, if_neg (fun q => HO.out q.1)]; decide, gf, rfl⟩⟩
end Go.Proofs.YtggpaljilpbmhaaGreatDoor
