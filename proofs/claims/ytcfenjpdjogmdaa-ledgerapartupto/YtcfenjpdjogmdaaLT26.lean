import Derived.Test.YtcfenjpdjogmdaaLT25
namespace Go.Proofs.Ytcfenjpdjogmdaa
open Go.RowKit

/-- Two new boxes, in whatever order. -/
structure Bx2 (w W : World) (q8 q9 : Nat) (c8 c9 : Array Value) (t8 t9 : TypeId) : Prop where
  bel : Below w.heap.size w W
  b8 : W.heap[q8]? = some (.cells c8 t8 (0, 0))
  b9 : W.heap[q9]? = some (.cells c9 t9 (0, 0))
  n8 : w.heap.size ≤ q8
  n9 : w.heap.size ≤ q9
  ne : q8 ≠ q9
theorem bx2_a (w : World) (c8 c9 : Array Value) (t8 t9 : TypeId) : Bx2 w ((w.alloc (.cells c8 t8)).alloc (.cells c9 t9)).drew w.heap.size (w.heap.size + 1) c8 c9 t8 t9 := by
  have e1 : (w.alloc (.cells c8 t8)).heap.size = w.heap.size + 1 := by simp
  have q2 := alloc_atK (w.alloc (.cells c8 t8)) (.cells c9 t9)
  rw [e1] at q2
  exact ⟨Below.drew (((Below.refl _ w).alloc (Nat.le_refl _) _).alloc (by simp) _), ((World.grownBy_alloc (w.alloc (.cells c8 t8)) (.cells c9 t9) none).block _ (by rw [e1]; omega) (by simp)).trans (alloc_atK _ _), q2, Nat.le_refl _, by omega, by omega⟩
theorem bx2_b (w : World) (c8 c9 : Array Value) (t8 t9 : TypeId) : Bx2 w ((w.alloc (.cells c9 t9)).alloc (.cells c8 t8)).drew (w.heap.size + 1) w.heap.size c8 c9 t8 t9 := by
  have h := bx2_a w c9 c8 t9 t8
  exact ⟨h.bel, h.b9, h.b8, h.n9, h.n8, h.ne.symm⟩
set_option maxRecDepth 10000 in
set_option maxHeartbeats 12800000 in
theorem payOutG {w : World} {p a b : Nat} {ch : Value} {S : LS} (h : LG w p a b nilS ch S) (hok : S.Ok) {x t m : Nat} (hx : x < 18446744073709551616) (ht : t < 18446744073709551616) {y : Ho} {z : Ac} (hy : byK Ho.id S.hol x = some y) (hz : byK Ac.id S.acc t = some z) (hmy : m ≤ y.am) (hmz : m ≤ z.cp - z.ba) :
    Calls Try.prog 52 #[.pointer (some ⟨p, 0, none⟩), .int .u64 (x : Nat), .int .u64 (t : Nat), .int .u64 (m : Nat)] w fun e w' => e = .returned (.tuple #[]) ∧ Hid (LgP w w' p a b ch (S.paysOut x t m)) := by
  have HKP : Hid (∀ V, Below w.heap.size w V → (V.cell? ⟨p, 1, none⟩ = some (.map (some a)) ∧ V.cell? ⟨p, 2, none⟩ = some (.map (some b)) ∧ (Instr.lookup 66 (.map (some b)) (.int .u64 (x : Int)) false).run Try.prog V = .ok (.agg #[.int .u64 (y.id : Nat), .int .u64 (y.fr : Nat), .int .u64 (y.am : Nat)]) V ∧ (Instr.lookup 65 (.map (some a)) (.int .u64 (t : Int)) false).run Try.prog V = .ok (.agg #[.int .u64 (z.id : Nat), .int .u64 (z.ow : Nat), .int .u64 (z.ba : Nat), .int .u64 (z.cp : Nat)]) V) ∧ p < V.heap.size) := fun V hV => by
    have hL := h.kept hV
    have l1 := hL.hol.look hx
    have l2 := hL.acc.look ht
    rw [hy] at l1
    rw [hz] at l2
    exact ⟨⟨hL.c.2.1, hL.c.2.2.1, l1, l2⟩, hL.lt.1⟩
  obtain ⟨⟨c1, c2, l1, l2⟩, pl⟩ := HKP.out w.drew (Below.refl _ w).drew
  have HL := hide h
  have HO := hide hok
  have HA := hide hy
  have HB := hide hz
  have HCA := hide (And.intro hmy hmz)
  have HXT := hide (And.intro hx ht)
  have HX1 := hide (bx2_a w y.arr z.arr 83 80)
  have HX2 := hide (bx2_b w y.arr z.arr 83 80)
  clear h hok hx ht hy hz hmy hmz
  go_enter Try.func52, Try.ntmps52
  go_upto_region 0 with fail
  rename_i Q' K hK
  have HK : Hid (∀ q8 q9 W, Hid (Bx2 w W q8 q9 y.arr z.arr 83 80) → Exit.then K Q' .normal { tmps := #[Value.pointer (some ⟨p, 0, none⟩), .int .u64 (x : Int), .int .u64 (t : Int), .int .u64 (m : Int), undef, undef, undef, undef, .pointer (some ⟨q8, 0, none⟩), .pointer (some ⟨q9, 0, none⟩), .pointer (some ⟨p, 0, none⟩), .pointer (some ⟨p, 0, none⟩), .pointer (some ⟨p, 2, none⟩), .map (some b), .int .u64 (x : Int), .agg #[.int .u64 (y.id : Int), .int .u64 (y.fr : Int), .int .u64 (y.am : Int)], .pointer (some ⟨p, 0, none⟩), .pointer (some ⟨p, 0, none⟩), .pointer (some ⟨p, 1, none⟩), .map (some a), .int .u64 (t : Int), .agg #[.int .u64 (z.id : Int), .int .u64 (z.ow : Int), .int .u64 (z.ba : Int), .int .u64 (z.cp : Int)], undef, undef, undef, undef, undef, undef, undef, undef, undef, undef, undef, undef, undef, undef, undef, undef, undef, undef, undef, undef, undef], defers := [] } W) := by
    intro q8 q9 W HX
    clear HX1 HX2 c1 c2 l1 l2 pl HKP
    have hL := HL.out.kept HX.out.bel
    obtain ⟨v1, hv1⟩ : ∃ v1, y.am - m = v1 := ⟨_, rfl⟩
    obtain ⟨v2, hv2⟩ : ∃ v2, z.ba + m = v2 := ⟨_, rfl⟩
    obtain ⟨my, ey⟩ := byK_mem HA.out
    obtain ⟨mz, ez⟩ := byK_mem HB.out
    have iy := HO.out.ih y my
    have iz := HO.out.ia z mz
    have cz := HO.out.ca z mz
    have hwr1 : IntKind.u64.wrap ((y.am : Int) - (m : Int)) = (v1 : Int) := by
      have := iy.h2
      have := HCA.out.1
      rw [IntWalk.u64_in _ ⟨by omega, by omega⟩]
      omega
    have hwr2 : IntKind.u64.wrap ((z.ba : Int) + (m : Int)) = (v2 : Int) := by
      have := iz.h3
      have := HCA.out.2
      rw [IntWalk.u64_in _ ⟨by omega, by omega⟩]
      omega
    obtain ⟨W5, hW5⟩ : ∃ W5, (W.setCell ⟨q8, 2, none⟩ (.int .u64 (v1 : Int))).setCell ⟨q9, 2, none⟩ (.int .u64 (v2 : Int)) = W5 := ⟨_, rfl⟩
    have hne := HX.out.ne
    have k1 := set_at HX.out.b8 2 (.int .u64 (v1 : Int))
    have gA := grown_set W q8 2 (.int .u64 (v1 : Int))
    have k2 := (gA.block _ (block_lt HX.out.b9) (fun e => hne (Option.some.inj e).symm)).trans HX.out.b9
    have gB := grown_set (W.setCell ⟨q8, 2, none⟩ (.int .u64 (v1 : Int))) q9 2 (.int .u64 (v2 : Int))
    have m1 := (gB.block _ (block_lt k1) (fun e => hne (Option.some.inj e))).trans k1
    have m2 := set_at k2 2 (.int .u64 (v2 : Int))
    have n8 := HX.out.n8
    have n9 := HX.out.n9
    obtain ⟨lp, la, lb⟩ := HL.out.lt
    have h5 : LG W5 p a b nilS ch S := by
      rw [← hW5]
      refine (hL.other gA ?_ ?_ ?_).other gB ?_ ?_ ?_
      all_goals exact fun e => by have := Option.some.inj e; omega
    have hFr5 : Fr3 w W5 p a b := by
      have f3 := HX.out.bel
      refine ⟨?_, ?_, ?_, ?_, fun k hk n1 n2 n3 => ?_⟩
      · rw [← hW5]; exact f3.os
      · rw [← hW5]; exact f3.tape
      · rw [← hW5]; exact f3.output
      · rw [← hW5]; exact Nat.le_trans f3.size (Nat.le_trans gA.size gB.size)
      · rw [← hW5]
        exact ((gB.block k (Nat.lt_of_lt_of_le hk (Nat.le_trans f3.size gA.size)) (fun e => by have := Option.some.inj e; omega)).trans (gA.block k (Nat.lt_of_lt_of_le hk f3.size) (fun e => by have := Option.some.inj e; omega))).trans (f3.block k hk)
    rw [hW5] at m1 m2
    unfold Ho.arr at m1 k1
    unfold Ac.arr at m2 k2
    simp at m1 m2
    have b8 := HX.out.b8
    unfold Ho.arr at b8
    have HSH := hide (setHoldG h5 HO.out { y with am := v1 } iy.h0 (y := y) (by show byK Ho.id S.hol y.id = _; rw [ey]; exact HA.out))
    have HOH : Hid ((S.setH { y with am := v1 }).Ok) := HO.out.setH (a := { y with am := v1 }) ⟨iy.h0, iy.h1, by have := iy.h2; show v1 < _; omega⟩ (HO.out.zh y my).1
    have HOA : Hid (((S.setH { y with am := v1 }).setA { z with ba := v2 }).Ok) := HOH.out.setA (a := { z with ba := v2 }) ⟨iz.h0, iz.h1, by have := iz.h3; have := HCA.out.2; show v2 < _; omega, iz.h3⟩ (by have := HCA.out.2; show v2 ≤ z.cp; omega) (HO.out.za z mz)
    have HBZ : Hid (byK Ac.id (S.setH { y with am := v1 }).acc z.id = some z) := by
      have e : (S.setH { y with am := v1 }).acc = S.acc := by unfold LS.setH; rfl
      rw [e, ez]
      exact HB.out
    have HE0 : Hid (S.paysOut x t m = ((S.setH { y with am := v1 }).setA { z with ba := v2 }).line 5 x t m) := by
      unfold LS.paysOut
      rw [HA.out, HB.out, ← hv1, ← hv2]
      rfl
    have HQ9 : Hid (q9 ≠ p ∧ q9 ≠ a ∧ q9 ≠ b) := ⟨by omega, by omega, by omega⟩
    have HW5 := hide hW5
    have HF5 := hide hFr5
    have HM1 := hide m1
    have HM2 := hide m2
    have HIZ := hide iz
    have p0 := block_cell b8 0
    have p1 := block_cell b8 1
    have p2 := block_cell b8 2
    have pl := block_lt b8
    have pf := block_free b8 2
    have r2 := block_cell k2 2
    have rl := block_lt k2
    have rf := block_free k2 2
    simp at p0 p1 p2 r2
    unfold Ho.arr at HSH
    dsimp only at HSH
    clear k1 k2 gA gB m1 m2 h5 hFr5 hW5 hne n8 n9 lp la lb hL HX my ey mz ez iy iz cz hv1 hv2 b8
    go_upto_region 2 with fail
    clear p0 p1 p2 pl pf hwr1
    go_upto_region 3 with fail
    rw [HW5.out]
    clear HW5 r2 rl rf hwr2
    have p0 := block_cell HM1.out 0
    have p1 := block_cell HM1.out 1
    have p2 := block_cell HM1.out 2
    have pl := block_lt HM1.out
    simp at p0 p1 p2
    go_wp2_with fail
    refine HSH.out.mono ?_
    rintro e w6 ⟨rfl, G6⟩
    have t2 := (G6.out.2.block _ (block_lt HM2.out) HQ9.out.1 HQ9.out.2.1 HQ9.out.2.2).trans HM2.out
    have HSA := hide (setAccE G6.out.1 HOH.out { z with ba := v2 } HIZ.out.h0 (y := z) HBZ.out)
    have HF6 := hide (HF5.out.trans G6.out.2)
    unfold Ac.arr at HSA
    dsimp only at HSA
    have y0 := block_cell t2 0
    have y1 := block_cell t2 1
    have y2 := block_cell t2 2
    have y3 := block_cell t2 3
    have yl := block_lt t2
    simp at y0 y1 y2 y3
    clear p0 p1 p2 pl HSH G6 HM1 HM2 HF5 t2
    go_wp2_with fail
    refine HSA.out.mono ?_
    rintro e w7 ⟨rfl, G7⟩
    have HLW := hide (lwriteG G7.out.1 HOA.out 5 x t m)
    have HF7 := hide (HF6.out.trans G7.out.2)
    clear y0 y1 y2 y3 yl HSA G7 HF6
    go_wp2_with fail
    refine HLW.out.mono ?_
    rintro e w8 ⟨rfl, G8⟩
    have HE : Hid (LgP w w8 p a b ch (S.paysOut x t m)) := by
      rw [HE0.out]
      exact ⟨G8.out.1, HF7.out.trans G8.out.2⟩
    clear HLW G8 HF7
    go_wp2
    go_end0
    exact ⟨rfl, HE.out⟩
  go_region_held (fun V => V.cell? ⟨p, 1, none⟩ = some (.map (some a)) ∧ V.cell? ⟨p, 2, none⟩ = some (.map (some b)) ∧ (Instr.lookup 66 (.map (some b)) (.int .u64 (x : Int)) false).run Try.prog V = .ok (.agg #[.int .u64 (y.id : Nat), .int .u64 (y.fr : Nat), .int .u64 (y.am : Nat)]) V ∧ (Instr.lookup 65 (.map (some a)) (.int .u64 (t : Int)) false).run Try.prog V = .ok (.agg #[.int .u64 (z.id : Nat), .int .u64 (z.ow : Nat), .int .u64 (z.ba : Nat), .int .u64 (z.cp : Nat)]) V)
    ((refine (HKP.out _ ?_).1; repeat (first | exact Below.refl _ _ | refine Below.drew ?_ | refine Below.setCell ?_ (by simp) _ | refine Below.alloc ?_ (by first | exact Nat.le_refl _ | (simp; done)) _))) (fail)
  all_goals (first | exact HK.out _ _ _ HX1 | exact HK.out _ _ _ HX2)
end Go.Proofs.Ytcfenjpdjogmdaa
namespace Go.Proofs.Ytcfenjpdjogmdaa
open Go.RowKit

set_option maxRecDepth 10000 in
set_option maxHeartbeats 6400000 in
theorem payG {w : World} {p a b : Nat} {ch : Value} {S : LS} (h : LG w p a b nilS ch S) (hok : S.Ok) {x t m : Nat} (hx : x < 18446744073709551616) (ht : t < 18446744073709551616) (hm : m < 18446744073709551616) {c : Nat} {S' : LS} (hS : S.pays x t m = (c, S')) :
    Calls Try.prog 24 #[.pointer (some ⟨p, 0, none⟩), .int .u64 (x : Nat), .int .u64 (t : Nat), .int .u64 (m : Nat)] w fun e w' => e = .returned (.int .i64 (c : Nat)) ∧ Hid (LgP w w' p a b ch S') := by
  have HS := hide hS
  have c2 := h.c.2.2.1
  have cl := h.lt.1
  have HM := hide (madeG h)
  have hlk := h.hol.look_ok hx
  obtain ⟨oa, hoa⟩ : ∃ oa, byK Ho.id S.hol x = oa := ⟨_, rfl⟩
  obtain ⟨ob, hob⟩ : ∃ ob, byK Ac.id S.acc t = ob := ⟨_, rfl⟩
  obtain ⟨W1, hW1⟩ : ∃ W1, w.alloc (.cells (oa.getD Ho.zero).arr 83) = W1 := ⟨_, rfl⟩
  have b1 : Below w.heap.size w W1 := by rw [← hW1]; exact (Below.refl _ w).alloc (Nat.le_refl _) _
  have q1 : W1.heap[w.heap.size]? = some (.cells (oa.getD Ho.zero).arr 83 (0, 0)) := by rw [← hW1]; exact alloc_atK _ _
  have h1 := h.kept b1
  have hlk1 := h1.acc.look_ok ht
  have d1 := h1.c.2.1
  have dl := h1.lt.1
  obtain ⟨W2, hW2⟩ : ∃ W2, W1.alloc (.cells (ob.getD Ac.zero).arr 80) = W2 := ⟨_, rfl⟩
  have b2 : Below W1.heap.size W1 W2 := by rw [← hW2]; exact (Below.refl _ W1).alloc (Nat.le_refl _) _
  have q2 : W2.heap[W1.heap.size]? = some (.cells (ob.getD Ac.zero).arr 80 (0, 0)) := by rw [← hW2]; exact alloc_atK _ _
  have q1' := (b2.block _ (block_lt q1)).trans q1
  have h2 := h1.kept b2
  have bb := b1.trans (b2.mono b1.size)
  have f2 : Fr3 w W2 p a b := Fr3.below bb
  have el := h2.lt.1
  have HL := hide h2
  have HO := hide hok
  have HF2 := hide f2
  have HW1 := hide hW1
  have HW2 := hide hW2
  have HA := hide hoa
  have HB := hide hob
  have HQ1 := hide q1'
  have HQ2 := hide q2
  have HI := hide (And.intro hx (And.intro ht hm))
  rw [hoa] at hlk
  rw [hob] at hlk1
  clear h hok b1 b2 bb h1 h2 f2 hW1 hW2 hoa hob ht hx hm q1 q1' q2 hS
  unfold Ho.arr at hlk HW1 HQ1
  unfold Ac.arr at hlk1 HW2 HQ2
  go_enter Try.func24, Try.ntmps24
  go_wp2_with fail
  refine HM.out.mono ?_
  rintro e w1 ⟨rfl, rfl⟩
  clear HM
  go_upto_region 4 with fail
  rw [HW1.out]
  clear HW1 hlk c2 cl
  go_upto_region 5 with fail
  rw [HW2.out]
  clear HW2 hlk1 d1 dl
  by_cases h0 : x = 0
  · have e : S.pays x t m = (40, S) := by unfold LS.pays; rw [if_pos (.inl h0)]
    have HR := hide (pair_inv (e.symm.trans HS.out))
    have HE : Hid (LgP w1 W2 p a b ch S) := ⟨HL.out, HF2.out⟩
    clear e 
    subst h0
    go_wp2
    go_ret
    exact ⟨by rw [HR.out.1]; rfl, by rw [HR.out.2]; exact HE.out⟩
  have g0 : ((x : Int) == 0) = false := by simp; omega
  by_cases h1 : t = 0
  · have e : S.pays x t m = (40, S) := by unfold LS.pays; rw [if_pos (.inr h1)]
    have HR := hide (pair_inv (e.symm.trans HS.out))
    have HE : Hid (LgP w1 W2 p a b ch S) := ⟨HL.out, HF2.out⟩
    clear e 
    subst h1
    go_wp2
    go_ret
    exact ⟨by rw [HR.out.1]; rfl, by rw [HR.out.2]; exact HE.out⟩
  have g1 : ((t : Int) == 0) = false := by simp; omega
  have hz : ¬ (x = 0 ∨ t = 0) := by omega
  rcases oa with _ | y
  · have e : S.pays x t m = (42, S) := by unfold LS.pays; rw [if_neg hz, HA.out]
    have HR := hide (pair_inv (e.symm.trans HS.out))
    have HE : Hid (LgP w1 W2 p a b ch S) := ⟨HL.out, HF2.out⟩
    clear e hz h0 h1
    go_wp2
    go_ret
    exact ⟨by rw [HR.out.1]; rfl, by rw [HR.out.2]; exact HE.out⟩
  rcases ob with _ | z
  · have e : S.pays x t m = (42, S) := by unfold LS.pays; rw [if_neg hz, HA.out, HB.out]
    have HR := hide (pair_inv (e.symm.trans HS.out))
    have HE : Hid (LgP w1 W2 p a b ch S) := ⟨HL.out, HF2.out⟩
    clear e hz h0 h1
    go_wp2
    go_ret
    exact ⟨by rw [HR.out.1]; rfl, by rw [HR.out.2]; exact HE.out⟩
  by_cases hm0 : m = 0
  · have e : S.pays x t m = (44, S) := by unfold LS.pays; rw [if_neg hz, HA.out, HB.out]; dsimp only; rw [if_pos hm0]
    have HR := hide (pair_inv (e.symm.trans HS.out))
    have HE : Hid (LgP w1 W2 p a b ch S) := ⟨HL.out, HF2.out⟩
    clear e hz h0 h1
    subst hm0
    go_wp2
    go_ret
    exact ⟨by rw [HR.out.1]; rfl, by rw [HR.out.2]; exact HE.out⟩
  have g3 : ((m : Int) == 0) = false := by simp; omega
  have x0 := block_cell HQ1.out 0
  have x1 := block_cell HQ1.out 1
  have x2 := block_cell HQ1.out 2
  have xl := block_lt HQ1.out
  have y0 := block_cell HQ2.out 0
  have y1 := block_cell HQ2.out 1
  have y2 := block_cell HQ2.out 2
  have y3 := block_cell HQ2.out 3
  have yl := block_lt HQ2.out
  simp at x0 x1 x2 y0 y1 y2 y3
  by_cases hfu : y.am < m
  · have g4 : decide (y.am < m) = true := decide_eq_true hfu
    have e : S.pays x t m = (46, S) := by unfold LS.pays; rw [if_neg hz, HA.out, HB.out]; dsimp only; rw [if_neg hm0, if_pos hfu]
    have HR := hide (pair_inv (e.symm.trans HS.out))
    have HE : Hid (LgP w1 W2 p a b ch S) := ⟨HL.out, HF2.out⟩
    clear e hz h0 h1 hm0 hfu
    go_wp2
    go_ret
    exact ⟨by rw [HR.out.1]; rfl, by rw [HR.out.2]; exact HE.out⟩
  have g4 : decide (y.am < m) = false := decide_eq_false hfu
  have hzin := HO.out.ia z (byK_mem HB.out).1
  have hzc := HO.out.ca z (byK_mem HB.out).1
  have HRM := hide (roomG W2 z hzin hzc)
  unfold Ac.arr at HRM
  obtain ⟨r, hr⟩ : ∃ r, z.cp - z.ba = r := ⟨_, rfl⟩
  rw [hr] at HRM
  by_cases hca : r < m
  · have g5 : decide (r < m) = true := decide_eq_true hca
    have e : S.pays x t m = (47, S) := by unfold LS.pays; rw [if_neg hz, HA.out, HB.out]; dsimp only; rw [if_neg hm0, if_neg hfu, if_pos (by rw [hr]; exact hca)]
    have HR := hide (pair_inv (e.symm.trans HS.out))
    clear e hz h0 h1 hm0 hfu hca hr hzin hzc
    go_wp2_with fail
    refine HRM.out.mono ?_
    rintro e w3 ⟨rfl, G3⟩
    have HE : Hid (LgP w1 w3 p a b ch S) := ⟨HL.out.kept G3.out, HF2.out.trans (Fr3.below G3.out)⟩
    go_wp2
    go_ret
    exact ⟨by rw [HR.out.1]; rfl, by rw [HR.out.2]; exact HE.out⟩
  have g5 : decide (r < m) = false := decide_eq_false hca
  have HCA : Hid (m ≤ z.cp - z.ba ∧ m ≤ y.am) := by rw [hr]; exact ⟨by omega, by omega⟩
  by_cases hfl : S.full 1 = true
  · have e : S.pays x t m = (43, S) := by unfold LS.pays; rw [if_neg hz, HA.out, HB.out]; dsimp only; rw [if_neg hm0, if_neg hfu, if_neg (by rw [hr]; exact hca), if_pos hfl]
    have HR := hide (pair_inv (e.symm.trans HS.out))
    clear e hz h0 h1 hm0 hfu hca hr hzin hzc
    go_wp2_with fail
    refine HRM.out.mono ?_
    rintro e w3 ⟨rfl, G3⟩
    have HFU := hide (fullG (HL.out.kept G3.out) HO.out 1 (by decide))
    rw [hfl] at HFU
    have HE : Hid (LgP w1 w3 p a b ch S) := ⟨HL.out.kept G3.out, HF2.out.trans (Fr3.below G3.out)⟩
    have el := (HL.out.kept G3.out).lt.1
    clear hfl
    go_wp2_with fail
    refine HFU.out.mono ?_
    rintro e w4 ⟨rfl, rfl⟩
    go_wp2
    go_ret
    exact ⟨by rw [HR.out.1]; rfl, by rw [HR.out.2]; exact HE.out⟩
  have hfl' : S.full 1 = false := by simpa using hfl
  have e : S.pays x t m = (0, S.paysOut x t m) := by unfold LS.pays; rw [if_neg hz, HA.out, HB.out]; dsimp only; rw [if_neg hm0, if_neg hfu, if_neg (by rw [hr]; exact hca), if_neg hfl]
  have HR := hide (pair_inv (e.symm.trans HS.out))
  have HFL := hide hfl'
  clear e hz h0 h1 hm0 hfu hca hr hzin hzc hfl hfl'
  go_wp2_with fail
  refine HRM.out.mono ?_
  rintro e w3 ⟨rfl, G3⟩
  have h3 := HL.out.kept G3.out
  have HF3 := hide (HF2.out.trans (Fr3.below (p := p) (a := a) (b := b) G3.out))
  have HFU := hide (fullG h3 HO.out 1 (by decide))
  rw [HFL.out] at HFU
  have HPO := hide (payOutG h3 HO.out HI.out.1 HI.out.2.1 HA.out HB.out HCA.out.2 HCA.out.1)
  have el := h3.lt.1
  clear HRM G3 h3 HL HF2 x0 x1 x2 xl y0 y1 y2 y3 yl g0 g1 g3 g4 HQ1 HQ2
  go_wp2_with fail
  refine HFU.out.mono ?_
  rintro e w4 ⟨rfl, rfl⟩
  clear HFU g5
  go_wp2_with fail
  refine HPO.out.mono ?_
  rintro e w5 ⟨rfl, G5⟩
  have HE : Hid (LgP w1 w5 p a b ch S') := by
    rw [HR.out.2]
    exact ⟨G5.out.1, HF3.out.trans G5.out.2⟩
  clear HPO G5 HF3
  go_wp2
  go_ret
  exact ⟨by rw [HR.out.1]; rfl, HE.out⟩
end Go.Proofs.Ytcfenjpdjogmdaa
