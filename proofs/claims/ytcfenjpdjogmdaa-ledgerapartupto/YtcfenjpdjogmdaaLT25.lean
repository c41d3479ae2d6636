import Derived.Test.YtcfenjpdjogmdaaLT24
namespace Go.Proofs.Ytcfenjpdjogmdaa
open Go.RowKit

theorem set_at {W : World} {q : Nat} {cs : Array Value} {t : TypeId} (h : W.heap[q]? = some (.cells cs t (0, 0))) (j : Nat) (v : Value) : (W.setCell ⟨q, j, none⟩ v).heap[q]? = some (.cells (cs.setIfInBounds j v) t (0, 0)) := heap_setCell_same W q j _ _ _ h
set_option maxRecDepth 10000 in
set_option maxHeartbeats 6400000 in
theorem moveG {w : World} {p a b : Nat} {ch : Value} {S : LS} (h : LG w p a b nilS ch S) (hok : S.Ok) {f t m : Nat} (hf : f < 18446744073709551616) (ht : t < 18446744073709551616) (hm : m < 18446744073709551616) {c : Nat} {S' : LS} (hS : S.moves f t m = (c, S')) :
    Calls Try.prog 22 #[.pointer (some ⟨p, 0, none⟩), .int .u64 (f : Nat), .int .u64 (t : Nat), .int .u64 (m : Nat)] w fun e w' => e = .returned (.int .i64 (c : Nat)) ∧ Hid (LgP w w' p a b ch S') := by
  have HS := hide hS
  have c1 := h.c.2.1
  have cl := h.lt.1
  have HM := hide (madeG h)
  have hlk := h.acc.look_ok hf
  obtain ⟨oa, hoa⟩ : ∃ oa, byK Ac.id S.acc f = oa := ⟨_, rfl⟩
  obtain ⟨ob, hob⟩ : ∃ ob, byK Ac.id S.acc t = ob := ⟨_, rfl⟩
  obtain ⟨W1, hW1⟩ : ∃ W1, w.alloc (.cells (oa.getD Ac.zero).arr 80) = W1 := ⟨_, rfl⟩
  have b1 : Below w.heap.size w W1 := by rw [← hW1]; exact (Below.refl _ w).alloc (Nat.le_refl _) _
  have s1 : W1.heap.size = w.heap.size + 1 := by rw [← hW1]; simp
  have q1 : W1.heap[w.heap.size]? = some (.cells (oa.getD Ac.zero).arr 80 (0, 0)) := by rw [← hW1]; exact alloc_atK _ _
  have h1 := h.kept b1
  have hlk1 := h1.acc.look_ok ht
  have d1 := h1.c.2.1
  have dl := h1.lt.1
  obtain ⟨W2, hW2⟩ : ∃ W2, W1.alloc (.cells (ob.getD Ac.zero).arr 80) = W2 := ⟨_, rfl⟩
  have b2 : Below W1.heap.size W1 W2 := by rw [← hW2]; exact (Below.refl _ W1).alloc (Nat.le_refl _) _
  have q2 : W2.heap[W1.heap.size]? = some (.cells (ob.getD Ac.zero).arr 80 (0, 0)) := by rw [← hW2]; exact alloc_atK _ _
  have q1' := (b2.block _ (block_lt q1)).trans q1
  have h2 := h1.kept b2
  have bb := b1.trans (b2.mono b1.size)
  have f2 : Fr3 w W2 p a b := Fr3.below bb
  have e1 := h2.c.2.1
  have el := h2.lt.1
  have HL := hide h2
  have HO := hide hok
  have HF2 := hide f2
  have HW1 := hide hW1
  have HW2 := hide hW2
  have HA := hide hoa
  have HB := hide hob
  have HQ1 := hide q1'
  have HQ2 := hide q2
  have HS1 := hide s1
  have HW1S := hide s1
  have HI := hide (And.intro hf (And.intro ht hm))
  have hlt := h.lt
  have HLT := hide hlt
  rw [hoa] at hlk
  rw [hob] at hlk1
  clear h hok b1 b2 bb h1 h2 f2 hW1 hW2 hoa hob hf ht hm q1 q2 q1' s1 hlt hS
  unfold Ac.arr at hlk hlk1 HW1 HW2 HQ1 HQ2
  go_enter Try.func22, Try.ntmps22
  go_wp2_with fail
  refine HM.out.mono ?_
  rintro e w1 ⟨rfl, rfl⟩
  clear HM
  go_upto_region 4 with fail
  rw [HW1.out]
  clear HW1 hlk c1 cl
  go_upto_region 5 with fail
  rw [HW2.out]
  clear HW2 hlk1 d1 dl
  by_cases h0 : f = 0
  · have e : S.moves f t m = (40, S) := by unfold LS.moves; rw [if_pos (.inl h0)]
    have HR := hide (pair_inv (e.symm.trans HS.out))
    have HE : Hid (LgP w1 W2 p a b ch S) := ⟨HL.out, HF2.out⟩
    clear e 
    subst h0
    go_wp2
    go_ret
    exact ⟨by rw [HR.out.1]; rfl, by rw [HR.out.2]; exact HE.out⟩
  have g0 : ((f : Int) == 0) = false := by simp; omega
  by_cases h1 : t = 0
  · have e : S.moves f t m = (40, S) := by unfold LS.moves; rw [if_pos (.inr h1)]
    have HR := hide (pair_inv (e.symm.trans HS.out))
    have HE : Hid (LgP w1 W2 p a b ch S) := ⟨HL.out, HF2.out⟩
    clear e 
    subst h1
    go_wp2
    go_ret
    exact ⟨by rw [HR.out.1]; rfl, by rw [HR.out.2]; exact HE.out⟩
  have g1 : ((t : Int) == 0) = false := by simp; omega
  have hz : ¬ (f = 0 ∨ t = 0) := by omega
  rcases oa with _ | y
  · have e : S.moves f t m = (42, S) := by unfold LS.moves; rw [if_neg hz, HA.out]
    have HR := hide (pair_inv (e.symm.trans HS.out))
    have HE : Hid (LgP w1 W2 p a b ch S) := ⟨HL.out, HF2.out⟩
    clear e hz h0 h1
    go_wp2
    go_ret
    exact ⟨by rw [HR.out.1]; rfl, by rw [HR.out.2]; exact HE.out⟩
  rcases ob with _ | z
  · have e : S.moves f t m = (42, S) := by unfold LS.moves; rw [if_neg hz, HA.out, HB.out]
    have HR := hide (pair_inv (e.symm.trans HS.out))
    have HE : Hid (LgP w1 W2 p a b ch S) := ⟨HL.out, HF2.out⟩
    clear e hz h0 h1
    go_wp2
    go_ret
    exact ⟨by rw [HR.out.1]; rfl, by rw [HR.out.2]; exact HE.out⟩
  by_cases hft : f = t
  · have e : S.moves f t m = (45, S) := by unfold LS.moves; rw [if_neg hz, HA.out, HB.out]; dsimp only; rw [if_pos hft]
    have HR := hide (pair_inv (e.symm.trans HS.out))
    have HE : Hid (LgP w1 W2 p a b ch S) := ⟨HL.out, HF2.out⟩
    clear e hz h0 h1
    subst hft
    go_wp2
    go_ret
    exact ⟨by rw [HR.out.1]; rfl, by rw [HR.out.2]; exact HE.out⟩
  have g2 : ((f : Int) == (t : Int)) = false := by simp; omega
  by_cases hm0 : m = 0
  · have e : S.moves f t m = (44, S) := by unfold LS.moves; rw [if_neg hz, HA.out, HB.out]; dsimp only; rw [if_neg hft, if_pos hm0]
    have HR := hide (pair_inv (e.symm.trans HS.out))
    have HE : Hid (LgP w1 W2 p a b ch S) := ⟨HL.out, HF2.out⟩
    clear e hz h0 h1 hft
    subst hm0
    go_wp2
    go_ret
    exact ⟨by rw [HR.out.1]; rfl, by rw [HR.out.2]; exact HE.out⟩
  have g3 : ((m : Int) == 0) = false := by simp; omega
  have x0 := block_cell HQ1.out 0
  have x1 := block_cell HQ1.out 1
  have x2 := block_cell HQ1.out 2
  have x3 := block_cell HQ1.out 3
  have xl := block_lt HQ1.out
  have y0 := block_cell HQ2.out 0
  have y1 := block_cell HQ2.out 1
  have y2 := block_cell HQ2.out 2
  have y3 := block_cell HQ2.out 3
  have yl := block_lt HQ2.out
  simp at x0 x1 x2 x3 y0 y1 y2 y3
  by_cases hfu : y.ba < m
  · have g4 : decide (y.ba < m) = true := decide_eq_true hfu
    have e : S.moves f t m = (46, S) := by unfold LS.moves; rw [if_neg hz, HA.out, HB.out]; dsimp only; rw [if_neg hft, if_neg hm0, if_pos hfu]
    have HR := hide (pair_inv (e.symm.trans HS.out))
    have HE : Hid (LgP w1 W2 p a b ch S) := ⟨HL.out, HF2.out⟩
    clear e hz h0 h1 hft hm0 hfu
    go_wp2
    go_ret
    exact ⟨by rw [HR.out.1]; rfl, by rw [HR.out.2]; exact HE.out⟩
  have g4 : decide (y.ba < m) = false := decide_eq_false hfu
  have hzin := HO.out.ia z (byK_mem HB.out).1
  have hzc := HO.out.ca z (byK_mem HB.out).1
  have hyin := HO.out.ia y (byK_mem HA.out).1
  have hyc := HO.out.ca y (byK_mem HA.out).1
  have HRM := hide (roomG W2 z hzin hzc)
  unfold Ac.arr at HRM
  have HZ := hide (And.intro hzin (And.intro hzc (And.intro hyin hyc)))
  obtain ⟨r, hr⟩ : ∃ r, z.cp - z.ba = r := ⟨_, rfl⟩
  rw [hr] at HRM
  by_cases hca : r < m
  · have g5 : decide (r < m) = true := decide_eq_true hca
    have e : S.moves f t m = (47, S) := by unfold LS.moves; rw [if_neg hz, HA.out, HB.out]; dsimp only; rw [if_neg hft, if_neg hm0, if_neg hfu, if_pos (by rw [hr]; exact hca)]
    have HR := hide (pair_inv (e.symm.trans HS.out))
    clear e hz h0 h1 hft hm0 hfu hca hr hzin hzc hyin hyc
    go_wp2_with fail
    refine HRM.out.mono ?_
    rintro e w3 ⟨rfl, G3⟩
    have HE : Hid (LgP w1 w3 p a b ch S) := ⟨HL.out.kept G3.out, HF2.out.trans (Fr3.below G3.out)⟩
    go_wp2
    go_ret
    exact ⟨by rw [HR.out.1]; rfl, by rw [HR.out.2]; exact HE.out⟩
  have g5 : decide (r < m) = false := decide_eq_false hca
  have HCA : Hid (m ≤ z.cp - z.ba ∧ m ≤ y.ba) := by rw [hr]; exact ⟨by omega, by omega⟩
  have HNE : Hid (f ≠ t ∧ f ≠ 0 ∧ t ≠ 0) := ⟨hft, h0, h1⟩
  by_cases hfl : S.full 1 = true
  · have e : S.moves f t m = (43, S) := by unfold LS.moves; rw [if_neg hz, HA.out, HB.out]; dsimp only; rw [if_neg hft, if_neg hm0, if_neg hfu, if_neg (by rw [hr]; exact hca), if_pos hfl]
    have HR := hide (pair_inv (e.symm.trans HS.out))
    clear e hz h0 h1 hft hm0 hfu hca hr hzin hzc hyin hyc
    go_wp2_with fail
    refine HRM.out.mono ?_
    rintro e w3 ⟨rfl, G3⟩
    have HFU := hide (fullG (HL.out.kept G3.out) HO.out 1 (by decide))
    rw [hfl] at HFU
    have HE : Hid (LgP w1 w3 p a b ch S) := ⟨HL.out.kept G3.out, HF2.out.trans (Fr3.below G3.out)⟩
    clear hfl
    go_wp2_with fail
    refine HFU.out.mono ?_
    rintro e w4 ⟨rfl, rfl⟩
    go_wp2
    go_ret
    exact ⟨by rw [HR.out.1]; rfl, by rw [HR.out.2]; exact HE.out⟩
  have hfl' : S.full 1 = false := by simpa using hfl
  have e : S.moves f t m = (0, ((S.setA { y with ba := y.ba - m }).setA { z with ba := z.ba + m }).line 3 f t m) := by unfold LS.moves; rw [if_neg hz, HA.out, HB.out]; dsimp only; rw [if_neg hft, if_neg hm0, if_neg hfu, if_neg (by rw [hr]; exact hca), if_neg hfl]
  have HR := hide (pair_inv (e.symm.trans HS.out))
  have HFL := hide hfl'
  clear e hz h0 h1 hft hm0 hfu hca hr hzin hzc hyin hyc hfl hfl'
  go_wp2_with fail
  refine HRM.out.mono ?_
  rintro e w3 ⟨rfl, G3⟩
  have h3 := HL.out.kept G3.out
  have HF3 := hide (HF2.out.trans (Fr3.below (p := p) (a := a) (b := b) G3.out))
  have HL3 := hide h3
  have HFU := hide (fullG h3 HO.out 1 (by decide))
  rw [HFL.out] at HFU
  have r1 := (G3.out.block _ (block_lt HQ1.out)).trans HQ1.out
  have r2 := (G3.out.block _ (block_lt HQ2.out)).trans HQ2.out
  have el := h3.lt.1
  have HR1 := hide r1
  have HR2 := hide r2
  clear HRM G3 h3 HL HF2 r1 r2 y0 y1 y2 y3 yl x0 x1 x2 x3 xl g0 g1 g2 g3 g4 e1 HQ1 HQ2
  go_wp2_with fail
  refine HFU.out.mono ?_
  rintro e w4 ⟨rfl, rfl⟩
  clear HFU g5
  obtain ⟨v1, hv1⟩ : ∃ v1, y.ba - m = v1 := ⟨_, rfl⟩
  obtain ⟨v2, hv2⟩ : ∃ v2, z.ba + m = v2 := ⟨_, rfl⟩
  have hwr1 : IntKind.u64.wrap ((y.ba : Int) - (m : Int)) = (v1 : Int) := by
    have := HZ.out.2.2.1.h2
    have := HCA.out.2
    rw [IntWalk.u64_in _ ⟨by omega, by omega⟩]
    omega
  have hwr2 : IntKind.u64.wrap ((z.ba : Int) + (m : Int)) = (v2 : Int) := by
    have := HZ.out.1.h3
    have := HZ.out.2.1
    have := HCA.out.1
    rw [IntWalk.u64_in _ ⟨by omega, by omega⟩]
    omega
  obtain ⟨W5, hW5⟩ : ∃ W5, (w4.setCell ⟨w1.heap.size, 2, none⟩ (.int .u64 (v1 : Int))).setCell ⟨W1.heap.size, 2, none⟩ (.int .u64 (v2 : Int)) = W5 := ⟨_, rfl⟩
  have hne12 : w1.heap.size ≠ W1.heap.size := by have := HS1.out; omega
  have k1 := set_at HR1.out 2 (.int .u64 (v1 : Int))
  have k2 := ((grown_set w4 w1.heap.size 2 (.int .u64 (v1 : Int))).block _ (block_lt HR2.out) (fun e => hne12 (Option.some.inj e).symm)).trans HR2.out
  have gA := grown_set w4 w1.heap.size 2 (.int .u64 (v1 : Int))
  have gB := grown_set (w4.setCell ⟨w1.heap.size, 2, none⟩ (.int .u64 (v1 : Int))) W1.heap.size 2 (.int .u64 (v2 : Int))
  have m1 := (gB.block _ (block_lt k1) (fun e => hne12 (Option.some.inj e))).trans k1
  have m2 := set_at k2 2 (.int .u64 (v2 : Int))
  have nn : ∀ q, q = p ∨ q = a ∨ q = b → q < w1.heap.size := fun q hq => by
    obtain ⟨l1, l2, l3⟩ := HLT.out
    rcases hq with e | e | e <;> omega
  have hs1 := HS1.out
  have h5 : LG W5 p a b nilS ch S := by
    rw [← hW5]
    refine (HL3.out.other gA ?_ ?_ ?_).other gB ?_ ?_ ?_
    · exact fun e => by have := nn p (.inl rfl); have := Option.some.inj e; omega
    · exact fun e => by have := nn a (.inr (.inl rfl)); have := Option.some.inj e; omega
    · exact fun e => by have := nn b (.inr (.inr rfl)); have := Option.some.inj e; omega
    · exact fun e => by have := nn p (.inl rfl); have := Option.some.inj e; omega
    · exact fun e => by have := nn a (.inr (.inl rfl)); have := Option.some.inj e; omega
    · exact fun e => by have := nn b (.inr (.inr rfl)); have := Option.some.inj e; omega
  have hFr5 : Fr3 w1 W5 p a b := by
    have f3 := HF3.out
    refine ⟨?_, ?_, ?_, ?_, fun k hk n1 n2 n3 => ?_⟩
    · rw [← hW5]; exact f3.os
    · rw [← hW5]; exact f3.tape
    · rw [← hW5]; exact f3.output
    · rw [← hW5]; exact Nat.le_trans f3.size (Nat.le_trans gA.size gB.size)
    · rw [← hW5]
      exact ((gB.block k (Nat.lt_of_lt_of_le hk (Nat.le_trans f3.size gA.size)) (fun e => by have := Option.some.inj e; omega)).trans (gA.block k (Nat.lt_of_lt_of_le hk f3.size) (fun e => by have := Option.some.inj e; omega))).trans (f3.block k hk n1 n2 n3)
  rw [hW5] at m1 m2
  simp at m1 m2
  have ey := (byK_mem HA.out).2
  have ez := (byK_mem HB.out).2
  have hb1 : ∀ q, byK Ac.id (repK Ac.id S.acc { y with ba := v1 }) q = if q = ({ y with ba := v1 } : Ac).id then some { y with ba := v1 } else byK Ac.id S.acc q := byK_rep (by show (byK Ac.id S.acc y.id).isSome = true; rw [ey, HA.out]; rfl)
  have hs2 : (byK Ac.id (repK Ac.id S.acc { y with ba := v1 }) z.id) = some z := by
    rw [hb1, ez, if_neg (by show ¬ t = y.id; rw [ey]; exact fun e => HNE.out.1 e.symm), HB.out]
  have HSA1 := hide (setAccG h5 HO.out.la { y with ba := v1 } HZ.out.2.2.1.h0 (l := repK Ac.id S.acc { y with ba := v1 }) hb1 (by rw [repK_len]; show _ = if (byK Ac.id S.acc y.id).isSome = true then _ else _; rw [ey, HA.out]; rfl))
  have HS2 := hide hs2
  have HW5 := hide hW5
  have HF5 := hide hFr5
  have HM1 := hide m1
  have HM2 := hide m2
  have p0 := block_cell HR1.out 0
  have p1 := block_cell HR1.out 1
  have p2 := block_cell HR1.out 2
  have p3 := block_cell HR1.out 3
  have pl := block_lt HR1.out
  have pf := block_free HR1.out 2
  have r2 := block_cell k2 2
  have rl := block_lt k2
  have rf := block_free k2 2
  simp at p0 p1 p2 p3 r2
  have HV := hide (And.intro hv1 hv2)
  unfold Ac.arr at HSA1
  dsimp only at HSA1
  clear k1 k2 gA gB m1 m2 nn hs1 h5 hFr5 hb1 hs2 hW5 hne12 HR1 HR2 HF3 HL3 HS1 ey ez hv1 hv2
  go_upto_region 20 with fail
  clear p0 p1 p2 p3 pl pf hwr1
  go_upto_region 21 with fail
  rw [HW5.out]
  clear HW5 r2 rl rf hwr2
  have p0 := block_cell HM1.out 0
  have p1 := block_cell HM1.out 1
  have p2 := block_cell HM1.out 2
  have p3 := block_cell HM1.out 3
  have pl := block_lt HM1.out
  simp at p0 p1 p2 p3
  go_wp2_with fail
  refine HSA1.out.mono ?_
  rintro e w6 ⟨rfl, G6⟩
  have hne : ∀ q, q = p ∨ q = a ∨ q = b → W1.heap.size ≠ q := fun q hq e => by
    obtain ⟨l1, l2, l3⟩ := HLT.out
    have := HF5.out.size
    have := HW1S.out
    rcases hq with e | e | e <;> omega
  have t2 := (G6.out.2.block _ (block_lt HM2.out) (hne p (.inl rfl)) (hne a (.inr (.inl rfl))) (hne b (.inr (.inr rfl)))).trans HM2.out
  have hb2 : ∀ q, byK Ac.id (repK Ac.id (repK Ac.id S.acc { y with ba := v1 }) { z with ba := v2 }) q = if q = ({ z with ba := v2 } : Ac).id then some { z with ba := v2 } else byK Ac.id (repK Ac.id S.acc { y with ba := v1 }) q := byK_rep (by show (byK Ac.id (repK Ac.id S.acc { y with ba := v1 }) z.id).isSome = true; rw [HS2.out]; rfl)
  have HSA2 := hide (setAccG G6.out.1 (by show (repK Ac.id S.acc _).length ≤ 64; rw [repK_len]; exact HO.out.la) { z with ba := v2 } HZ.out.1.h0 (l := repK Ac.id (repK Ac.id S.acc { y with ba := v1 }) { z with ba := v2 }) hb2 (by rw [repK_len]; show _ = if (byK Ac.id (repK Ac.id S.acc { y with ba := v1 }) z.id).isSome = true then _ else _; rw [HS2.out]; rfl))
  have HF6 := hide (HF5.out.trans G6.out.2)
  unfold Ac.arr at HSA2
  dsimp only at HSA2
  clear p0 p1 p2 p3 pl hne hb2 HSA1 G6 HM1 HM2 HF5
  have y0 := block_cell t2 0
  have y1 := block_cell t2 1
  have y2 := block_cell t2 2
  have y3 := block_cell t2 3
  have yl := block_lt t2
  simp at y0 y1 y2 y3
  clear t2
  go_wp2_with fail
  refine HSA2.out.mono ?_
  rintro e w7 ⟨rfl, G7⟩
  have HO7 : Hid (({ ({ S with acc := repK Ac.id S.acc { y with ba := v1 } } : LS) with acc := repK Ac.id (repK Ac.id S.acc { y with ba := v1 }) { z with ba := v2 } } : LS).Ok) := by
    obtain ⟨i1, i2, i3, i4⟩ := HZ.out
    obtain ⟨k1, k2⟩ := HCA.out
    obtain ⟨e1, e2⟩ := HV.out
    have := i3.h2
    have := i1.h3
    have ey := (byK_mem HA.out).2
    have ez := (byK_mem HB.out).2
    exact (HO.out.setA (a := { y with ba := v1 }) ⟨i3.h0, i3.h1, by show v1 < _; omega, i3.h3⟩ (by show v1 ≤ y.cp; omega) (by show y.id ≠ 0; rw [ey]; exact HNE.out.2.1)).setA (a := { z with ba := v2 }) ⟨i1.h0, i1.h1, by show v2 < _; omega, i1.h3⟩ (by show v2 ≤ z.cp; omega) (by show z.id ≠ 0; rw [ez]; exact HNE.out.2.2)
  have HLW := hide (lwriteG G7.out.1 HO7.out 3 f t m)
  have HF7 := hide (HF6.out.trans G7.out.2)
  clear y0 y1 y2 y3 yl HSA2 G7 HF6
  go_wp2_with fail
  refine HLW.out.mono ?_
  rintro e w8 ⟨rfl, G8⟩
  have HE : Hid (LgP w1 w8 p a b ch S') := by
    rw [HR.out.2, HV.out.1, HV.out.2]
    exact ⟨G8.out.1, HF7.out.trans G8.out.2⟩
  clear HLW G8 HF7
  go_wp2
  go_ret
  exact ⟨by rw [HR.out.1]; rfl, HE.out⟩
end Go.Proofs.Ytcfenjpdjogmdaa
namespace Go.Proofs.Ytcfenjpdjogmdaa
open Go.RowKit

set_option maxRecDepth 10000 in
set_option maxHeartbeats 1600000 in
/-- A hold is put, whether it is there or not. -/
theorem setHoldN {w : World} {p a b : Nat} {ch : Value} {S : LS} (h : LG w p a b nilS ch S) (hn : S.hol.length ≤ 64) (x : Ho) (hx : x.id < 18446744073709551616) (hz : x.am ≠ 0) {l : List Ho} (hb : ∀ y, byK Ho.id l y = if y = x.id then some x else byK Ho.id S.hol y) (hl : l.length = if (byK Ho.id S.hol x.id).isSome = true then S.hol.length else S.hol.length + 1) :
    Calls Try.prog 51 #[.pointer (some ⟨p, 0, none⟩), .agg x.arr] w fun e w' => e = .returned (.tuple #[]) ∧ Hid (LgP w w' p a b ch { S with hol := l }) := by
  have c1 := h.c.2.2.1
  have cl := h.lt.1
  have HP : Hid (Calls Try.prog 64 #[.map (some b), .int .u64 (x.id : Nat), .agg x.arr] (w.alloc (.cells x.arr 83)).drew fun e w' => ∃ v, e = .returned v ∧ w'.cell? ⟨p, 2, none⟩ = some (.map (some b)) ∧ (w'.cell? ⟨w.heap.size, 0, none⟩ = some (.int .u64 (x.id : Nat)) ∧ w'.cell? ⟨w.heap.size, 1, none⟩ = some (.int .u64 (x.fr : Nat)) ∧ w'.cell? ⟨w.heap.size, 2, none⟩ = some (.int .u64 (x.am : Nat))) ∧ Hid (LG w' p a b nilS ch { S with hol := l } ∧ Fr3 w w' p a b)) := by
    have hg0 : w.grownBy (w.alloc (.cells x.arr 83)).drew none := ⟨rfl, rfl, rfl, by show w.heap.size ≤ (w.alloc _).heap.size; simp, (World.grownBy_alloc w (.cells x.arr 83) none).block⟩
    have h0 := h.other hg0 (by simp) (by simp) (by simp)
    have q0 : (w.alloc (.cells x.arr 83)).drew.heap[w.heap.size]? = some (.cells x.arr 83 (0, 0)) := alloc_atK _ _
    refine (putH h0.hol x hx (by unfold maxLen; omega)).mono ?_
    rintro e w' ⟨v, rfl, G⟩
    obtain ⟨_, ht, hg⟩ := G.out
    have ht' : THm w' b l.length (byK Ho.id l) := ht.congr hl.symm (fun y => (hb y).symm)
    have hL := h0.toH ht' hg
    have hne : w.heap.size ≠ b := fun e => by have := h.lt.2.2; omega
    have q1 := (hg.block _ (block_lt q0) (fun e => hne (Option.some.inj e))).trans q0
    exact ⟨v, rfl, hL.c.2.2.1, ⟨block_cell q1 0, block_cell q1 1, block_cell q1 2⟩, hL, (Fr3.of hg0 (fun r e => by cases e)).trans (Fr3.of hg (fun r e => .inr (.inr (Option.some.inj e).symm)))⟩
  have g0 : ((x.am : Int) == 0) = false := by simp; omega
  clear h hn hx hb hl hz
  unfold Ho.arr at *
  generalize (x.id : Int) = X0 at *
  generalize (x.fr : Int) = X1 at *
  generalize (x.am : Int) = X2 at *
  go_enter Try.func51, Try.ntmps51
  go_wp2_with fail
  go_region_held (fun w' => w'.cell? ⟨p, 2, none⟩ = some (.map (some b)) ∧ (w'.cell? ⟨w.heap.size, 0, none⟩ = some (.int .u64 X0) ∧ w'.cell? ⟨w.heap.size, 1, none⟩ = some (.int .u64 X1) ∧ w'.cell? ⟨w.heap.size, 2, none⟩ = some (.int .u64 X2))) (go_keep)
    (first | (go_at_call 64; refine HP.out.mono ?_; rintro e w1 ⟨v, rfl, h1, h2, HG⟩; have HN := hide (note0 HG.out.1.c.2.2.2.2.1 v)) | (go_at_call 48; refine HN.out.mono ?_; rintro e w2 ⟨rfl, rfl⟩))
  go_wp2
  go_end0
  exact ⟨rfl, HG.out⟩
set_option maxRecDepth 10000 in
set_option maxHeartbeats 1600000 in
/-- A hold that has nothing left is gone. -/
theorem setHoldZ {w : World} {p a b : Nat} {ch : Value} {S : LS} (h : LG w p a b nilS ch S) (hu : UpK Ho.id S.hol) (x : Ho) (hx : x.id < 18446744073709551616) (hz : x.am = 0) {y : Ho} (hy : byK Ho.id S.hol x.id = some y) :
    Calls Try.prog 51 #[.pointer (some ⟨p, 0, none⟩), .agg x.arr] w fun e w' => e = .returned (.tuple #[]) ∧ Hid (LgP w w' p a b ch { S with hol := remK Ho.id S.hol x.id }) := by
  have c1 := h.c.2.2.1
  have cl := h.lt.1
  have HP : Hid (Calls Try.prog 63 #[.map (some b), .int .u64 (x.id : Nat)] (w.alloc (.cells x.arr 83)).drew fun e w' => ∃ v, e = .returned v ∧ w'.cell? ⟨p, 2, none⟩ = some (.map (some b)) ∧ (w'.cell? ⟨w.heap.size, 0, none⟩ = some (.int .u64 (x.id : Nat)) ∧ w'.cell? ⟨w.heap.size, 1, none⟩ = some (.int .u64 (x.fr : Nat)) ∧ w'.cell? ⟨w.heap.size, 2, none⟩ = some (.int .u64 (x.am : Nat))) ∧ Hid (LG w' p a b nilS ch { S with hol := remK Ho.id S.hol x.id } ∧ Fr3 w w' p a b)) := by
    have hg0 : w.grownBy (w.alloc (.cells x.arr 83)).drew none := ⟨rfl, rfl, rfl, by show w.heap.size ≤ (w.alloc _).heap.size; simp, (World.grownBy_alloc w (.cells x.arr 83) none).block⟩
    have h0 := h.other hg0 (by simp) (by simp) (by simp)
    have q0 : (w.alloc (.cells x.arr 83)).drew.heap[w.heap.size]? = some (.cells x.arr 83 (0, 0)) := alloc_atK _ _
    have hlen := remK_len hu (x := x.id) (by rw [hy]; rfl)
    refine (dropH (n := (remK Ho.id S.hol x.id).length) (by rw [hlen]; exact h0.hol) hx hy).mono ?_
    rintro e w' ⟨v, rfl, G⟩
    obtain ⟨_, ht, hg⟩ := G.out
    have ht' : THm w' b (remK Ho.id S.hol x.id).length (byK Ho.id (remK Ho.id S.hol x.id)) := ht.congr rfl (fun y => (byK_rem _ _ y).symm)
    have hL := h0.toH ht' hg
    have hne : w.heap.size ≠ b := fun e => by have := h.lt.2.2; omega
    have q1 := (hg.block _ (block_lt q0) (fun e => hne (Option.some.inj e))).trans q0
    exact ⟨v, rfl, hL.c.2.2.1, ⟨block_cell q1 0, block_cell q1 1, block_cell q1 2⟩, hL, (Fr3.of hg0 (fun r e => by cases e)).trans (Fr3.of hg (fun r e => .inr (.inr (Option.some.inj e).symm)))⟩
  have g0 : ((x.am : Int) == 0) = true := by simp; omega
  clear h hu hx hy hz
  unfold Ho.arr at *
  generalize (x.id : Int) = X0 at *
  generalize (x.fr : Int) = X1 at *
  generalize (x.am : Int) = X2 at *
  go_enter Try.func51, Try.ntmps51
  go_wp2_with fail
  go_region_held (fun w' => w'.cell? ⟨p, 2, none⟩ = some (.map (some b)) ∧ (w'.cell? ⟨w.heap.size, 0, none⟩ = some (.int .u64 X0) ∧ w'.cell? ⟨w.heap.size, 1, none⟩ = some (.int .u64 X1) ∧ w'.cell? ⟨w.heap.size, 2, none⟩ = some (.int .u64 X2))) (go_keep)
    (first | (go_at_call 63; refine HP.out.mono ?_; rintro e w1 ⟨v, rfl, h1, h2, HG⟩; have HN := hide (note0 HG.out.1.c.2.2.2.2.1 v)) | (go_at_call 48; refine HN.out.mono ?_; rintro e w2 ⟨rfl, rfl⟩))
  go_wp2
  refine bodyPost_ret (results_none rfl _ _ _) rfl ?_
  exact ⟨rfl, HG.out⟩
/-- setHold of a hold that is there. -/
theorem setHoldG {w : World} {p a b : Nat} {ch : Value} {S : LS} (h : LG w p a b nilS ch S) (hok : S.Ok) (x : Ho) (hx : x.id < 18446744073709551616) {y : Ho} (hy : byK Ho.id S.hol x.id = some y) :
    Calls Try.prog 51 #[.pointer (some ⟨p, 0, none⟩), .agg x.arr] w fun e w' => e = .returned (.tuple #[]) ∧ Hid (LgP w w' p a b ch (S.setH x)) := by
  by_cases hz : x.am = 0
  · have e : S.setH x = { S with hol := remK Ho.id S.hol x.id } := by unfold LS.setH; rw [if_pos hz]
    rw [e]
    exact setHoldZ h hok.uh x hx hz hy
  · have e : S.setH x = { S with hol := repK Ho.id S.hol x } := by unfold LS.setH; rw [if_neg hz]
    rw [e]
    exact setHoldN h hok.lh x hx hz (byK_rep (by rw [hy]; rfl)) (by rw [repK_len, hy]; rfl)
/-- setAccount of an account that is there. -/
theorem setAccE {w : World} {p a b : Nat} {ch : Value} {S : LS} (h : LG w p a b nilS ch S) (hok : S.Ok) (x : Ac) (hx : x.id < 18446744073709551616) {y : Ac} (hy : byK Ac.id S.acc x.id = some y) :
    Calls Try.prog 45 #[.pointer (some ⟨p, 0, none⟩), .agg x.arr] w fun e w' => e = .returned (.tuple #[]) ∧ Hid (LgP w w' p a b ch (S.setA x)) :=
  setAccG h hok.la x hx (byK_rep (by rw [hy]; rfl)) (by rw [repK_len, hy]; rfl)
end Go.Proofs.Ytcfenjpdjogmdaa
namespace Go.Proofs.Ytcfenjpdjogmdaa
open Go.RowKit

set_option maxRecDepth 10000 in
set_option maxHeartbeats 6400000 in
theorem holdG {w : World} {p a b : Nat} {ch : Value} {S : LS} (h : LG w p a b nilS ch S) (hok : S.Ok) {x f m : Nat} (hx : x < 18446744073709551616) (hf : f < 18446744073709551616) (hm : m < 18446744073709551616) {c : Nat} {S' : LS} (hS : S.holds x f m = (c, S')) :
    Calls Try.prog 23 #[.pointer (some ⟨p, 0, none⟩), .int .u64 (x : Nat), .int .u64 (f : Nat), .int .u64 (m : Nat)] w fun e w' => e = .returned (.int .i64 (c : Nat)) ∧ Hid (LgP w w' p a b ch S') := by
  have HS := hide hS
  have c2 := h.c.2.2.1
  have cl := h.lt.1
  have HM := hide (madeG h)
  have hlk := h.hol.look_ok hx
  obtain ⟨oa, hoa⟩ : ∃ oa, byK Ho.id S.hol x = oa := ⟨_, rfl⟩
  obtain ⟨ob, hob⟩ : ∃ ob, byK Ac.id S.acc f = ob := ⟨_, rfl⟩
  obtain ⟨W1, hW1⟩ : ∃ W1, w.alloc (.cells (oa.getD Ho.zero).arr 83) = W1 := ⟨_, rfl⟩
  have b1 : Below w.heap.size w W1 := by rw [← hW1]; exact (Below.refl _ w).alloc (Nat.le_refl _) _
  have s1 : W1.heap.size = w.heap.size + 1 := by rw [← hW1]; simp
  have h1 := h.kept b1
  have hlk1 := h1.acc.look_ok hf
  have d1 := h1.c.2.1
  have dl := h1.lt.1
  obtain ⟨W2, hW2⟩ : ∃ W2, W1.alloc (.cells (ob.getD Ac.zero).arr 80) = W2 := ⟨_, rfl⟩
  have b2 : Below W1.heap.size W1 W2 := by rw [← hW2]; exact (Below.refl _ W1).alloc (Nat.le_refl _) _
  have q2 : W2.heap[W1.heap.size]? = some (.cells (ob.getD Ac.zero).arr 80 (0, 0)) := by rw [← hW2]; exact alloc_atK _ _
  have h2 := h1.kept b2
  have bb := b1.trans (b2.mono b1.size)
  have f2 : Fr3 w W2 p a b := Fr3.below bb
  have e2 := h2.c.2.2.1
  have el := h2.lt.1
  obtain ⟨n, hn⟩ : ∃ n, S.hol.length = n := ⟨_, rfl⟩
  have hlen := h2.hol.len 3
  rw [hn] at hlen
  have HL := hide h2
  have HO := hide hok
  have HN := hide hn
  have HF2 := hide f2
  have HW1 := hide hW1
  have HW2 := hide hW2
  have HA := hide hoa
  have HB := hide hob
  have HQ2 := hide q2
  have HS1 := hide s1
  have HI := hide (And.intro hx (And.intro hf hm))
  have HLT := hide h.lt
  have HFU := hide (fullG h2 hok 1 (by decide))
  rw [hoa] at hlk
  rw [hob] at hlk1
  clear h hok b1 b2 bb h1 h2 f2 hW1 hW2 hoa hob hf hx hm q2 s1 hS hn
  unfold Ho.arr at hlk HW1
  unfold Ac.arr at hlk1 HW2 HQ2
  go_enter Try.func23, Try.ntmps23
  go_wp2_with fail
  refine HM.out.mono ?_
  rintro e w1 ⟨rfl, rfl⟩
  clear HM
  go_upto_region 4 with fail
  rw [HW1.out]
  clear HW1 hlk c2 cl
  go_upto_region 5 with fail
  rw [HW2.out]
  clear HW2 hlk1 d1 dl
  by_cases h0 : x = 0
  · have e : S.holds x f m = (40, S) := by unfold LS.holds; rw [if_pos (.inl h0)]
    have HR := hide (pair_inv (e.symm.trans HS.out))
    have HE : Hid (LgP w1 W2 p a b ch S) := ⟨HL.out, HF2.out⟩
    clear e HFU
    subst h0
    go_wp2
    go_ret
    exact ⟨by rw [HR.out.1]; rfl, by rw [HR.out.2]; exact HE.out⟩
  have g0 : ((x : Int) == 0) = false := by simp; omega
  by_cases h1 : f = 0
  · have e : S.holds x f m = (40, S) := by unfold LS.holds; rw [if_pos (.inr h1)]
    have HR := hide (pair_inv (e.symm.trans HS.out))
    have HE : Hid (LgP w1 W2 p a b ch S) := ⟨HL.out, HF2.out⟩
    clear e HFU
    subst h1
    go_wp2
    go_ret
    exact ⟨by rw [HR.out.1]; rfl, by rw [HR.out.2]; exact HE.out⟩
  have g1 : ((f : Int) == 0) = false := by simp; omega
  have hz : ¬ (x = 0 ∨ f = 0) := by omega
  rcases oa with _ | y
  rotate_left
  · have e : S.holds x f m = (41, S) := by unfold LS.holds; rw [if_neg hz, HA.out, if_pos (show (some y).isSome = true from rfl)]
    have HR := hide (pair_inv (e.symm.trans HS.out))
    have HE : Hid (LgP w1 W2 p a b ch S) := ⟨HL.out, HF2.out⟩
    clear e hz h0 h1 HFU
    go_wp2
    go_ret
    exact ⟨by rw [HR.out.1]; rfl, by rw [HR.out.2]; exact HE.out⟩
  rcases ob with _ | z
  · have e : S.holds x f m = (42, S) := by unfold LS.holds; rw [if_neg hz, HA.out, if_neg (by simp), HB.out]
    have HR := hide (pair_inv (e.symm.trans HS.out))
    have HE : Hid (LgP w1 W2 p a b ch S) := ⟨HL.out, HF2.out⟩
    clear e hz h0 h1 HFU
    go_wp2
    go_ret
    exact ⟨by rw [HR.out.1]; rfl, by rw [HR.out.2]; exact HE.out⟩
  by_cases hm0 : m = 0
  · have e : S.holds x f m = (44, S) := by unfold LS.holds; rw [if_neg hz, HA.out, if_neg (by simp), HB.out]; dsimp only; rw [if_pos hm0]
    have HR := hide (pair_inv (e.symm.trans HS.out))
    have HE : Hid (LgP w1 W2 p a b ch S) := ⟨HL.out, HF2.out⟩
    clear e hz h0 h1 HFU
    subst hm0
    go_wp2
    go_ret
    exact ⟨by rw [HR.out.1]; rfl, by rw [HR.out.2]; exact HE.out⟩
  have g3 : ((m : Int) == 0) = false := by simp; omega
  have y0 := block_cell HQ2.out 0
  have y1 := block_cell HQ2.out 1
  have y2 := block_cell HQ2.out 2
  have y3 := block_cell HQ2.out 3
  have yl := block_lt HQ2.out
  have yf := block_free HQ2.out 2
  simp at y0 y1 y2 y3
  by_cases hfu : z.ba < m
  · have g4 : decide (z.ba < m) = true := decide_eq_true hfu
    have e : S.holds x f m = (46, S) := by unfold LS.holds; rw [if_neg hz, HA.out, if_neg (by simp), HB.out]; dsimp only; rw [if_neg hm0, if_pos hfu]
    have HR := hide (pair_inv (e.symm.trans HS.out))
    have HE : Hid (LgP w1 W2 p a b ch S) := ⟨HL.out, HF2.out⟩
    clear e hz h0 h1 hm0 hfu HFU
    go_wp2
    go_ret
    exact ⟨by rw [HR.out.1]; rfl, by rw [HR.out.2]; exact HE.out⟩
  have g4 : decide (z.ba < m) = false := decide_eq_false hfu
  by_cases hln : 64 ≤ n
  · have g5 : decide ((n : Int) ≥ 64) = true := decide_eq_true (by omega)
    have g5' : decide ((64 : Int) ≤ (n : Int)) = true := decide_eq_true (by omega)
    have e : S.holds x f m = (43, S) := by unfold LS.holds; rw [if_neg hz, HA.out, if_neg (by simp), HB.out]; dsimp only; rw [if_neg hm0, if_neg hfu, HN.out, if_pos (.inl hln)]
    have HR := hide (pair_inv (e.symm.trans HS.out))
    have HE : Hid (LgP w1 W2 p a b ch S) := ⟨HL.out, HF2.out⟩
    clear e hz h0 h1 hm0 hfu HFU
    go_wp2
    go_ret
    exact ⟨by rw [HR.out.1]; rfl, by rw [HR.out.2]; exact HE.out⟩
  have g5 : decide ((n : Int) ≥ 64) = false := decide_eq_false (by omega)
  have g5' : decide ((64 : Int) ≤ (n : Int)) = false := decide_eq_false (by omega)
  by_cases hfl : S.full 1 = true
  · have e : S.holds x f m = (43, S) := by unfold LS.holds; rw [if_neg hz, HA.out, if_neg (by simp), HB.out]; dsimp only; rw [if_neg hm0, if_neg hfu, HN.out, if_pos (.inr hfl)]
    have HR := hide (pair_inv (e.symm.trans HS.out))
    have HE : Hid (LgP w1 W2 p a b ch S) := ⟨HL.out, HF2.out⟩
    rw [hfl] at HFU
    clear e hz h0 h1 hm0 hfu hfl
    go_wp2_with fail
    refine HFU.out.mono ?_
    rintro e w4 ⟨rfl, rfl⟩
    go_wp2
    go_ret
    exact ⟨by rw [HR.out.1]; rfl, by rw [HR.out.2]; exact HE.out⟩
  have hfl' : S.full 1 = false := by simpa using hfl
  have e : S.holds x f m = (0, ({ S.setA { z with ba := z.ba - m } with hol := insK Ho.id S.hol ⟨x, f, m⟩ } : LS).line 4 f x m) := by unfold LS.holds; rw [if_neg hz, HA.out, if_neg (by simp), HB.out]; dsimp only; rw [if_neg hm0, if_neg hfu, HN.out, if_neg (by rw [not_or]; exact ⟨hln, hfl⟩)]
  have HR := hide (pair_inv (e.symm.trans HS.out))
  rw [hfl'] at HFU
  have HNE : Hid (x ≠ 0 ∧ f ≠ 0 ∧ m ≠ 0 ∧ m ≤ z.ba ∧ n < 64) := ⟨h0, h1, hm0, by omega, by omega⟩
  clear e hz h0 h1 hm0 hfu hfl hfl' hln
  go_wp2_with fail
  refine HFU.out.mono ?_
  rintro e w4 ⟨rfl, rfl⟩
  clear HFU g0 g1 g3 g4 g5 g5' e2 hlen
  obtain ⟨v1, hv1⟩ : ∃ v1, z.ba - m = v1 := ⟨_, rfl⟩
  have hzin := HO.out.ia z (byK_mem HB.out).1
  have hzc := HO.out.ca z (byK_mem HB.out).1
  have hwr1 : IntKind.u64.wrap ((z.ba : Int) - (m : Int)) = (v1 : Int) := by
    have := hzin.h2
    have := HNE.out.2.2.2.1
    rw [IntWalk.u64_in _ ⟨by omega, by omega⟩]
    omega
  have HV := hide hv1
  obtain ⟨W5, hW5⟩ : ∃ W5, (w4.setCell ⟨W1.heap.size, 2, none⟩ (.int .u64 (v1 : Int))) = W5 := ⟨_, rfl⟩
  have m2 := set_at HQ2.out 2 (.int .u64 (v1 : Int))
  have gB := grown_set w4 W1.heap.size 2 (.int .u64 (v1 : Int))
  have nn : ∀ q, q = p ∨ q = a ∨ q = b → q < W1.heap.size := fun q hq => by
    obtain ⟨l1, l2, l3⟩ := HLT.out
    have := HS1.out
    rcases hq with e | e | e <;> omega
  have h5 : LG W5 p a b nilS ch S := by
    rw [← hW5]
    refine HL.out.other gB ?_ ?_ ?_
    · exact fun e => by have := nn p (.inl rfl); have := Option.some.inj e; omega
    · exact fun e => by have := nn a (.inr (.inl rfl)); have := Option.some.inj e; omega
    · exact fun e => by have := nn b (.inr (.inr rfl)); have := Option.some.inj e; omega
  have hFr5 : Fr3 w1 W5 p a b := by
    have f3 := HF2.out
    have hs1 := HS1.out
    refine ⟨?_, ?_, ?_, ?_, fun k hk n1 n2 n3 => ?_⟩
    · rw [← hW5]; exact f3.os
    · rw [← hW5]; exact f3.tape
    · rw [← hW5]; exact f3.output
    · rw [← hW5]; exact Nat.le_trans f3.size gB.size
    · rw [← hW5]
      exact (gB.block k (Nat.lt_of_lt_of_le hk f3.size) (fun e => by have := Option.some.inj e; omega)).trans (f3.block k hk n1 n2 n3)
  rw [hW5] at m2
  simp at m2
  have ez := (byK_mem HB.out).2
  have HSA1 := hide (setAccE h5 HO.out { z with ba := v1 } hzin.h0 (y := z) (by show byK Ac.id S.acc z.id = _; rw [ez]; exact HB.out))
  have HW5 := hide hW5
  have HF5 := hide hFr5
  have HM2 := hide m2
  have HOA : Hid ((S.setA { z with ba := v1 }).Ok) := HO.out.setA (a := { z with ba := v1 }) ⟨hzin.h0, hzin.h1, by have := hzin.h2; show v1 < _; omega, hzin.h3⟩ (by show v1 ≤ z.cp; omega) (by show z.id ≠ 0; rw [ez]; exact HNE.out.2.1)
  unfold Ac.arr at HSA1
  dsimp only at HSA1
  clear gB m2 nn h5 hFr5 hW5 ez hv1 hzin hzc HQ2 HF2 HL HS1
  go_upto_region 18 with fail
  rw [HW5.out]
  clear HW5 y0 y1 y2 y3 yl yf hwr1
  have p0 := block_cell HM2.out 0
  have p1 := block_cell HM2.out 1
  have p2 := block_cell HM2.out 2
  have p3 := block_cell HM2.out 3
  have pl := block_lt HM2.out
  simp at p0 p1 p2 p3
  go_wp2_with fail
  refine HSA1.out.mono ?_
  rintro e w6 ⟨rfl, G6⟩
  have HF6 := hide (HF5.out.trans G6.out.2)
  have HSH := hide (setHoldN G6.out.1 (by show S.hol.length ≤ 64; exact HO.out.lh) ⟨x, f, m⟩ HI.out.1 HNE.out.2.2.1 (l := insK Ho.id S.hol ⟨x, f, m⟩) (byK_ins HA.out) (by rw [insK_len]; show _ = if (byK Ho.id S.hol x).isSome = true then _ else _; rw [HA.out]; rfl))
  have HO7 : Hid (({ S.setA { z with ba := v1 } with hol := insK Ho.id S.hol ⟨x, f, m⟩ } : LS).Ok) := HOA.out.insH (a := ⟨x, f, m⟩) ⟨HI.out.1, HI.out.2.1, HI.out.2.2⟩ ⟨HNE.out.1, HNE.out.2.2.1⟩ HA.out (by show S.hol.length < 64; rw [HN.out]; exact HNE.out.2.2.2.2)
  unfold Ho.arr at HSH
  dsimp only at HSH
  clear p0 p1 p2 p3 pl HSA1 G6 HM2 HF5
  go_wp2_with fail
  refine HSH.out.mono ?_
  rintro e w7 ⟨rfl, G7⟩
  have HLW := hide (lwriteG G7.out.1 HO7.out 4 f x m)
  have HF7 := hide (HF6.out.trans G7.out.2)
  clear HSH G7 HF6
  go_wp2_with fail
  refine HLW.out.mono ?_
  rintro e w8 ⟨rfl, G8⟩
  have HE : Hid (LgP w1 w8 p a b ch S') := by
    rw [HR.out.2, HV.out]
    exact ⟨G8.out.1, HF7.out.trans G8.out.2⟩
  clear HLW G8 HF7
  go_wp2
  go_ret
  exact ⟨by rw [HR.out.1]; rfl, HE.out⟩
end Go.Proofs.Ytcfenjpdjogmdaa
