import Derived.Test.YtcfenjpdjogmdaaLT34
namespace Go.Proofs.Ytcfenjpdjogmdaa
open Go.RowKit

set_option maxRecDepth 10000 in
set_option maxHeartbeats 6400000 in
theorem moveM {w : World} {B p a b : Nat} {Z : SZ} {S : LS} (hM : LM w B p a b Z S) (hz0 : Z.cs.length ≤ 100000000000) (hok : S.Ok) {f t m : Nat} (hf : f < 18446744073709551616) (ht : t < 18446744073709551616) (hm : m < 18446744073709551616) {c : Nat} {S' : LS} (hS : S.moves f t m = (c, S')) :
    Calls Try.prog 22 #[.pointer (some ⟨p, 0, none⟩), .int .u64 (f : Nat), .int .u64 (t : Nat), .int .u64 (m : Nat)] w fun e w' => e = .returned (.int .i64 (c : Nat)) ∧ Hid (Run B p a b w Z S 48 w' S') := by
  have h := hM.lg
  have hR0 := Run.start hM hz0
  clear hM hz0
  have HS := hide hS
  have c1 := h.c.2.1
  have cl := h.lt.1
  have HM := hide (madeG h)
  have hlk := h.acc.look_ok hf
  obtain ⟨oa, hoa⟩ : ∃ oa, byK Ac.id S.acc f = oa := ⟨_, rfl⟩
  obtain ⟨ob, hob⟩ : ∃ ob, byK Ac.id S.acc t = ob := ⟨_, rfl⟩
  obtain ⟨W1, hW1⟩ : ∃ W1, w.alloc (.cells (oa.getD Ac.zero).arr 80) = W1 := ⟨_, rfl⟩
  have b1 : Below w.heap.size w W1 := by rw [← hW1]; exact (Below.refl _ w).alloc (Nat.le_refl _) _
  have s1 : W1.heap.size = w.heap.size + 1 := by rw [← hW1]; simp
  have q1 : W1.heap[w.heap.size]? = some (.cells (oa.getD Ac.zero).arr 80 (0, 0)) := by rw [← hW1]; exact alloc_atK _ _
  have h1 := h.kept b1
  have hlk1 := h1.acc.look_ok ht
  have d1 := h1.c.2.1
  have dl := h1.lt.1
  obtain ⟨W2, hW2⟩ : ∃ W2, W1.alloc (.cells (ob.getD Ac.zero).arr 80) = W2 := ⟨_, rfl⟩
  have b2 : Below W1.heap.size W1 W2 := by rw [← hW2]; exact (Below.refl _ W1).alloc (Nat.le_refl _) _
  have q2 : W2.heap[W1.heap.size]? = some (.cells (ob.getD Ac.zero).arr 80 (0, 0)) := by rw [← hW2]; exact alloc_atK _ _
  have q1' := (b2.block _ (block_lt q1)).trans q1
  have h2 := h1.kept b2
  have bb := b1.trans (b2.mono b1.size)
  have f2 := hR0.kept bb
  have HR0 := hide hR0
  have HBB := hide bb
  clear hR0
  have e1 := h2.c.2.1
  have el := h2.lt.1
  have HL := hide h2
  have HO := hide hok
  have HF2 := hide f2
  have HW1 := hide hW1
  have HW2 := hide hW2
  have HA := hide hoa
  have HB := hide hob
  have HQ1 := hide q1'
  have HQ2 := hide q2
  have HS1 := hide s1
  have HW1S := hide s1
  have HI := hide (And.intro hf (And.intro ht hm))
  have hlt := h.lt
  have HLT := hide hlt
  rw [hoa] at hlk
  rw [hob] at hlk1
  clear h hok b1 b2 bb h1 h2 f2 hW1 hW2 hoa hob hf ht hm q1 q2 q1' s1 hlt hS
  unfold Ac.arr at hlk hlk1 HW1 HW2 HQ1 HQ2
  go_enter Try.func22, Try.ntmps22
  go_wp2_with fail
  refine HM.out.mono ?_
  rintro e w1 ⟨rfl, rfl⟩
  clear HM
  go_upto_region 4 with fail
  rw [HW1.out]
  clear HW1 hlk c1 cl
  go_upto_region 5 with fail
  rw [HW2.out]
  clear HW2 hlk1 d1 dl
  by_cases h0 : f = 0
  · have e : S.moves f t m = (40, S) := by unfold LS.moves; rw [if_pos (.inl h0)]
    have HR := hide (pair_inv (e.symm.trans HS.out))
    have HE : Hid (Run B p a b w1 Z S 48 W2 S) := HF2.out.le (by omega)
    clear e 
    subst h0
    go_wp2
    go_ret
    exact ⟨by rw [HR.out.1]; rfl, by rw [HR.out.2]; exact HE.out⟩
  have g0 : ((f : Int) == 0) = false := by simp; omega
  by_cases h1 : t = 0
  · have e : S.moves f t m = (40, S) := by unfold LS.moves; rw [if_pos (.inr h1)]
    have HR := hide (pair_inv (e.symm.trans HS.out))
    have HE : Hid (Run B p a b w1 Z S 48 W2 S) := HF2.out.le (by omega)
    clear e 
    subst h1
    go_wp2
    go_ret
    exact ⟨by rw [HR.out.1]; rfl, by rw [HR.out.2]; exact HE.out⟩
  have g1 : ((t : Int) == 0) = false := by simp; omega
  have hz : ¬ (f = 0 ∨ t = 0) := by omega
  rcases oa with _ | y
  · have e : S.moves f t m = (42, S) := by unfold LS.moves; rw [if_neg hz, HA.out]
    have HR := hide (pair_inv (e.symm.trans HS.out))
    have HE : Hid (Run B p a b w1 Z S 48 W2 S) := HF2.out.le (by omega)
    clear e hz h0 h1
    go_wp2
    go_ret
    exact ⟨by rw [HR.out.1]; rfl, by rw [HR.out.2]; exact HE.out⟩
  rcases ob with _ | z
  · have e : S.moves f t m = (42, S) := by unfold LS.moves; rw [if_neg hz, HA.out, HB.out]
    have HR := hide (pair_inv (e.symm.trans HS.out))
    have HE : Hid (Run B p a b w1 Z S 48 W2 S) := HF2.out.le (by omega)
    clear e hz h0 h1
    go_wp2
    go_ret
    exact ⟨by rw [HR.out.1]; rfl, by rw [HR.out.2]; exact HE.out⟩
  by_cases hft : f = t
  · have e : S.moves f t m = (45, S) := by unfold LS.moves; rw [if_neg hz, HA.out, HB.out]; dsimp only; rw [if_pos hft]
    have HR := hide (pair_inv (e.symm.trans HS.out))
    have HE : Hid (Run B p a b w1 Z S 48 W2 S) := HF2.out.le (by omega)
    clear e hz h0 h1
    subst hft
    go_wp2
    go_ret
    exact ⟨by rw [HR.out.1]; rfl, by rw [HR.out.2]; exact HE.out⟩
  have g2 : ((f : Int) == (t : Int)) = false := by simp; omega
  by_cases hm0 : m = 0
  · have e : S.moves f t m = (44, S) := by unfold LS.moves; rw [if_neg hz, HA.out, HB.out]; dsimp only; rw [if_neg hft, if_pos hm0]
    have HR := hide (pair_inv (e.symm.trans HS.out))
    have HE : Hid (Run B p a b w1 Z S 48 W2 S) := HF2.out.le (by omega)
    clear e hz h0 h1 hft
    subst hm0
    go_wp2
    go_ret
    exact ⟨by rw [HR.out.1]; rfl, by rw [HR.out.2]; exact HE.out⟩
  have g3 : ((m : Int) == 0) = false := by simp; omega
  have x0 := block_cell HQ1.out 0
  have x1 := block_cell HQ1.out 1
  have x2 := block_cell HQ1.out 2
  have x3 := block_cell HQ1.out 3
  have xl := block_lt HQ1.out
  have y0 := block_cell HQ2.out 0
  have y1 := block_cell HQ2.out 1
  have y2 := block_cell HQ2.out 2
  have y3 := block_cell HQ2.out 3
  have yl := block_lt HQ2.out
  simp at x0 x1 x2 x3 y0 y1 y2 y3
  by_cases hfu : y.ba < m
  · have g4 : decide (y.ba < m) = true := decide_eq_true hfu
    have e : S.moves f t m = (46, S) := by unfold LS.moves; rw [if_neg hz, HA.out, HB.out]; dsimp only; rw [if_neg hft, if_neg hm0, if_pos hfu]
    have HR := hide (pair_inv (e.symm.trans HS.out))
    have HE : Hid (Run B p a b w1 Z S 48 W2 S) := HF2.out.le (by omega)
    clear e hz h0 h1 hft hm0 hfu
    go_wp2
    go_ret
    exact ⟨by rw [HR.out.1]; rfl, by rw [HR.out.2]; exact HE.out⟩
  have g4 : decide (y.ba < m) = false := decide_eq_false hfu
  have hzin := HO.out.ia z (byK_mem HB.out).1
  have hzc := HO.out.ca z (byK_mem HB.out).1
  have hyin := HO.out.ia y (byK_mem HA.out).1
  have hyc := HO.out.ca y (byK_mem HA.out).1
  have HRM := hide (roomG W2 z hzin hzc)
  unfold Ac.arr at HRM
  have HZ := hide (And.intro hzin (And.intro hzc (And.intro hyin hyc)))
  obtain ⟨r, hr⟩ : ∃ r, z.cp - z.ba = r := ⟨_, rfl⟩
  rw [hr] at HRM
  by_cases hca : r < m
  · have g5 : decide (r < m) = true := decide_eq_true hca
    have e : S.moves f t m = (47, S) := by unfold LS.moves; rw [if_neg hz, HA.out, HB.out]; dsimp only; rw [if_neg hft, if_neg hm0, if_neg hfu, if_pos (by rw [hr]; exact hca)]
    have HR := hide (pair_inv (e.symm.trans HS.out))
    clear e hz h0 h1 hft hm0 hfu hca hr hzin hzc hyin hyc
    go_wp2_with fail
    refine HRM.out.mono ?_
    rintro e w3 ⟨rfl, G3⟩
    have HE : Hid (Run B p a b w1 Z S 48 w3 S) := (HF2.out.kept G3.out).le (by omega)
    go_wp2
    go_ret
    exact ⟨by rw [HR.out.1]; rfl, by rw [HR.out.2]; exact HE.out⟩
  have g5 : decide (r < m) = false := decide_eq_false hca
  have HCA : Hid (m ≤ z.cp - z.ba ∧ m ≤ y.ba) := by rw [hr]; exact ⟨by omega, by omega⟩
  have HNE : Hid (f ≠ t ∧ f ≠ 0 ∧ t ≠ 0) := ⟨hft, h0, h1⟩
  by_cases hfl : S.full 1 = true
  · have e : S.moves f t m = (43, S) := by unfold LS.moves; rw [if_neg hz, HA.out, HB.out]; dsimp only; rw [if_neg hft, if_neg hm0, if_neg hfu, if_neg (by rw [hr]; exact hca), if_pos hfl]
    have HR := hide (pair_inv (e.symm.trans HS.out))
    clear e hz h0 h1 hft hm0 hfu hca hr hzin hzc hyin hyc
    go_wp2_with fail
    refine HRM.out.mono ?_
    rintro e w3 ⟨rfl, G3⟩
    have HFU := hide (fullG (HL.out.kept G3.out) HO.out 1 (by decide))
    rw [hfl] at HFU
    have HE : Hid (Run B p a b w1 Z S 48 w3 S) := (HF2.out.kept G3.out).le (by omega)
    clear hfl
    go_wp2_with fail
    refine HFU.out.mono ?_
    rintro e w4 ⟨rfl, rfl⟩
    go_wp2
    go_ret
    exact ⟨by rw [HR.out.1]; rfl, by rw [HR.out.2]; exact HE.out⟩
  have hfl' : S.full 1 = false := by simpa using hfl
  have e : S.moves f t m = (0, ((S.setA { y with ba := y.ba - m }).setA { z with ba := z.ba + m }).line 3 f t m) := by unfold LS.moves; rw [if_neg hz, HA.out, HB.out]; dsimp only; rw [if_neg hft, if_neg hm0, if_neg hfu, if_neg (by rw [hr]; exact hca), if_neg hfl]
  have HR := hide (pair_inv (e.symm.trans HS.out))
  have HFL := hide hfl'
  clear e hz h0 h1 hft hm0 hfu hca hr hzin hzc hyin hyc hfl hfl'
  go_wp2_with fail
  refine HRM.out.mono ?_
  rintro e w3 ⟨rfl, G3⟩
  have h3 := HL.out.kept G3.out
  have HF3 := hide (HF2.out.kept G3.out)
  have HBB3 := hide (HBB.out.trans (G3.out.mono HBB.out.size))
  have HL3 := hide h3
  have HFU := hide (fullG h3 HO.out 1 (by decide))
  rw [HFL.out] at HFU
  have r1 := (G3.out.block _ (block_lt HQ1.out)).trans HQ1.out
  have r2 := (G3.out.block _ (block_lt HQ2.out)).trans HQ2.out
  have el := h3.lt.1
  have HR1 := hide r1
  have HR2 := hide r2
  clear HRM G3 h3 HL HF2 r1 r2 y0 y1 y2 y3 yl x0 x1 x2 x3 xl g0 g1 g2 g3 g4 e1 HQ1 HQ2
  go_wp2_with fail
  refine HFU.out.mono ?_
  rintro e w4 ⟨rfl, rfl⟩
  clear HFU g5
  obtain ⟨v1, hv1⟩ : ∃ v1, y.ba - m = v1 := ⟨_, rfl⟩
  obtain ⟨v2, hv2⟩ : ∃ v2, z.ba + m = v2 := ⟨_, rfl⟩
  have hwr1 : IntKind.u64.wrap ((y.ba : Int) - (m : Int)) = (v1 : Int) := by
    have := HZ.out.2.2.1.h2
    have := HCA.out.2
    rw [IntWalk.u64_in _ ⟨by omega, by omega⟩]
    omega
  have hwr2 : IntKind.u64.wrap ((z.ba : Int) + (m : Int)) = (v2 : Int) := by
    have := HZ.out.1.h3
    have := HZ.out.2.1
    have := HCA.out.1
    rw [IntWalk.u64_in _ ⟨by omega, by omega⟩]
    omega
  obtain ⟨W5, hW5⟩ : ∃ W5, (w4.setCell ⟨w1.heap.size, 2, none⟩ (.int .u64 (v1 : Int))).setCell ⟨W1.heap.size, 2, none⟩ (.int .u64 (v2 : Int)) = W5 := ⟨_, rfl⟩
  have hne12 : w1.heap.size ≠ W1.heap.size := by have := HS1.out; omega
  have k1 := set_at HR1.out 2 (.int .u64 (v1 : Int))
  have k2 := ((grown_set w4 w1.heap.size 2 (.int .u64 (v1 : Int))).block _ (block_lt HR2.out) (fun e => hne12 (Option.some.inj e).symm)).trans HR2.out
  have gA := grown_set w4 w1.heap.size 2 (.int .u64 (v1 : Int))
  have gB := grown_set (w4.setCell ⟨w1.heap.size, 2, none⟩ (.int .u64 (v1 : Int))) W1.heap.size 2 (.int .u64 (v2 : Int))
  have m1 := (gB.block _ (block_lt k1) (fun e => hne12 (Option.some.inj e))).trans k1
  have m2 := set_at k2 2 (.int .u64 (v2 : Int))
  have nn : ∀ q, q = p ∨ q = a ∨ q = b → q < w1.heap.size := fun q hq => by
    obtain ⟨l1, l2, l3⟩ := HLT.out
    rcases hq with e | e | e <;> omega
  have hs1 := HS1.out
  have hFr5 : Run B p a b w1 Z S 0 W5 S := by
    refine HR0.out.kept ?_
    rw [← hW5]
    exact (HBB3.out.grown gA HBB3.out.size (fun j e => by cases e; omega)).grown gB (Nat.le_trans HBB3.out.size gA.size) (fun j e => by cases e; omega)
  rw [hW5] at m1 m2
  simp at m1 m2
  have ey := (byK_mem HA.out).2
  have ez := (byK_mem HB.out).2
  have hb1 : ∀ q, byK Ac.id (repK Ac.id S.acc { y with ba := v1 }) q = if q = ({ y with ba := v1 } : Ac).id then some { y with ba := v1 } else byK Ac.id S.acc q := byK_rep (by show (byK Ac.id S.acc y.id).isSome = true; rw [ey, HA.out]; rfl)
  have hs2 : (byK Ac.id (repK Ac.id S.acc { y with ba := v1 }) z.id) = some z := by
    rw [hb1, ez, if_neg (by show ¬ t = y.id; rw [ey]; exact fun e => HNE.out.1 e.symm), HB.out]
  have HSA1 := hide (setAccM hFr5 (by omega) HO.out.la { y with ba := v1 } HZ.out.2.2.1.h0 (l := repK Ac.id S.acc { y with ba := v1 }) hb1 (by rw [repK_len]; show _ = if (byK Ac.id S.acc y.id).isSome = true then _ else _; rw [ey, HA.out]; rfl))
  have HS2 := hide hs2
  have HW5 := hide hW5
  have HF5 := hide hFr5
  have HM1 := hide m1
  have HM2 := hide m2
  have p0 := block_cell HR1.out 0
  have p1 := block_cell HR1.out 1
  have p2 := block_cell HR1.out 2
  have p3 := block_cell HR1.out 3
  have pl := block_lt HR1.out
  have pf := block_free HR1.out 2
  have r2 := block_cell k2 2
  have rl := block_lt k2
  have rf := block_free k2 2
  simp at p0 p1 p2 p3 r2
  have HV := hide (And.intro hv1 hv2)
  unfold Ac.arr at HSA1
  dsimp only at HSA1
  clear k1 k2 gA gB m1 m2 nn hs1 hFr5 hb1 hs2 hW5 hne12 HR1 HR2 HF3 HL3 HS1 ey ez hv1 hv2
  go_upto_region 20 with fail
  clear p0 p1 p2 p3 pl pf hwr1
  go_upto_region 21 with fail
  rw [HW5.out]
  clear HW5 r2 rl rf hwr2
  have p0 := block_cell HM1.out 0
  have p1 := block_cell HM1.out 1
  have p2 := block_cell HM1.out 2
  have p3 := block_cell HM1.out 3
  have pl := block_lt HM1.out
  simp at p0 p1 p2 p3
  go_wp2_with fail
  refine HSA1.out.mono ?_
  rintro e w6 ⟨rfl, G6⟩
  have t2 := G6.out.2.at_ _ _ _ HM2.out (by decide) (by decide) (by decide)
  have hb2 : ∀ q, byK Ac.id (repK Ac.id (repK Ac.id S.acc { y with ba := v1 }) { z with ba := v2 }) q = if q = ({ z with ba := v2 } : Ac).id then some { z with ba := v2 } else byK Ac.id (repK Ac.id S.acc { y with ba := v1 }) q := byK_rep (by show (byK Ac.id (repK Ac.id S.acc { y with ba := v1 }) z.id).isSome = true; rw [HS2.out]; rfl)
  have HSA2 := hide (setAccM G6.out.1 (by omega) (by show (repK Ac.id S.acc _).length ≤ 64; rw [repK_len]; exact HO.out.la) { z with ba := v2 } HZ.out.1.h0 (l := repK Ac.id (repK Ac.id S.acc { y with ba := v1 }) { z with ba := v2 }) hb2 (by rw [repK_len]; show _ = if (byK Ac.id (repK Ac.id S.acc { y with ba := v1 }) z.id).isSome = true then _ else _; rw [HS2.out]; rfl))
  unfold Ac.arr at HSA2
  dsimp only at HSA2
  clear p0 p1 p2 p3 pl hb2 HSA1 G6 HM1 HM2 HF5
  have y0 := block_cell t2 0
  have y1 := block_cell t2 1
  have y2 := block_cell t2 2
  have y3 := block_cell t2 3
  have yl := block_lt t2
  simp at y0 y1 y2 y3
  clear t2
  go_wp2_with fail
  refine HSA2.out.mono ?_
  rintro e w7 ⟨rfl, G7⟩
  have HO7 : Hid (({ ({ S with acc := repK Ac.id S.acc { y with ba := v1 } } : LS) with acc := repK Ac.id (repK Ac.id S.acc { y with ba := v1 }) { z with ba := v2 } } : LS).Ok) := by
    obtain ⟨i1, i2, i3, i4⟩ := HZ.out
    obtain ⟨k1, k2⟩ := HCA.out
    obtain ⟨e1, e2⟩ := HV.out
    have := i3.h2
    have := i1.h3
    have ey := (byK_mem HA.out).2
    have ez := (byK_mem HB.out).2
    exact (HO.out.setA (a := { y with ba := v1 }) ⟨i3.h0, i3.h1, by show v1 < _; omega, i3.h3⟩ (by show v1 ≤ y.cp; omega) (by show y.id ≠ 0; rw [ey]; exact HNE.out.2.1)).setA (a := { z with ba := v2 }) ⟨i1.h0, i1.h1, by show v2 < _; omega, i1.h3⟩ (by show v2 ≤ z.cp; omega) (by show z.id ≠ 0; rw [ez]; exact HNE.out.2.2)
  have HLW := hide (lwriteM G7.out.1 (by omega) HO7.out 3 f t m)
  clear y0 y1 y2 y3 yl HSA2 G7
  go_wp2_with fail
  refine HLW.out.mono ?_
  rintro e w8 ⟨rfl, G8⟩
  have HE : Hid (Run B p a b w1 Z S 48 w8 S') := by
    rw [HR.out.2, HV.out.1, HV.out.2]
    exact G8.out.1.le (by omega)
  clear HLW G8
  go_wp2
  go_ret
  exact ⟨by rw [HR.out.1]; rfl, HE.out⟩
end Go.Proofs.Ytcfenjpdjogmdaa
namespace Go.Proofs.Ytcfenjpdjogmdaa
open Go.RowKit

set_option maxRecDepth 10000 in
set_option maxHeartbeats 12800000 in
theorem payOutM {B p a b : Nat} {w0 : World} {Z0 : SZ} {S0 : LS} {n : Nat} {w : World} {S : LS} (hRn : Run B p a b w0 Z0 S0 n w S) (hr : n < 990) (hok : S.Ok) {x t m : Nat} (hx : x < 18446744073709551616) (ht : t < 18446744073709551616) {y : Ho} {z : Ac} (hy : byK Ho.id S.hol x = some y) (hz : byK Ac.id S.acc t = some z) (hmy : m ≤ y.am) (hmz : m ≤ z.cp - z.ba) :
    Calls Try.prog 52 #[.pointer (some ⟨p, 0, none⟩), .int .u64 (x : Nat), .int .u64 (t : Nat), .int .u64 (m : Nat)] w fun e w' => e = .returned (.tuple #[]) ∧ Hid (Run B p a b w0 Z0 S0 (n + 3) w' (S.paysOut x t m) ∧ Fl w w') := by
  obtain ⟨mk, ch, h⟩ := hRn.lg
  have HRN := hide hRn
  clear hRn
  have HKP : Hid (∀ V, Below w.heap.size w V → (V.cell? ⟨p, 1, none⟩ = some (.map (some a)) ∧ V.cell? ⟨p, 2, none⟩ = some (.map (some b)) ∧ (Instr.lookup 66 (.map (some b)) (.int .u64 (x : Int)) false).run Try.prog V = .ok (.agg #[.int .u64 (y.id : Nat), .int .u64 (y.fr : Nat), .int .u64 (y.am : Nat)]) V ∧ (Instr.lookup 65 (.map (some a)) (.int .u64 (t : Int)) false).run Try.prog V = .ok (.agg #[.int .u64 (z.id : Nat), .int .u64 (z.ow : Nat), .int .u64 (z.ba : Nat), .int .u64 (z.cp : Nat)]) V) ∧ p < V.heap.size) := fun V hV => by
    have hL := h.kept hV
    have l1 := hL.hol.look hx
    have l2 := hL.acc.look ht
    rw [hy] at l1
    rw [hz] at l2
    exact ⟨⟨hL.c.2.1, hL.c.2.2.1, l1, l2⟩, hL.lt.1⟩
  obtain ⟨⟨c1, c2, l1, l2⟩, pl⟩ := HKP.out w.drew (Below.refl _ w).drew
  have HL := hide h
  have HO := hide hok
  have HA := hide hy
  have HB := hide hz
  have HCA := hide (And.intro hmy hmz)
  have HXT := hide (And.intro hx ht)
  have HX1 := hide (bx2_a w y.arr z.arr 83 80)
  have HX2 := hide (bx2_b w y.arr z.arr 83 80)
  clear h hok hx ht hy hz hmy hmz
  go_enter Try.func52, Try.ntmps52
  go_upto_region 0 with fail
  rename_i Q' K hK
  have HK : Hid (∀ q8 q9 W, Hid (Bx2 w W q8 q9 y.arr z.arr 83 80) → Exit.then K Q' .normal { tmps := #[Value.pointer (some ⟨p, 0, none⟩), .int .u64 (x : Int), .int .u64 (t : Int), .int .u64 (m : Int), undef, undef, undef, undef, .pointer (some ⟨q8, 0, none⟩), .pointer (some ⟨q9, 0, none⟩), .pointer (some ⟨p, 0, none⟩), .pointer (some ⟨p, 0, none⟩), .pointer (some ⟨p, 2, none⟩), .map (some b), .int .u64 (x : Int), .agg #[.int .u64 (y.id : Int), .int .u64 (y.fr : Int), .int .u64 (y.am : Int)], .pointer (some ⟨p, 0, none⟩), .pointer (some ⟨p, 0, none⟩), .pointer (some ⟨p, 1, none⟩), .map (some a), .int .u64 (t : Int), .agg #[.int .u64 (z.id : Int), .int .u64 (z.ow : Int), .int .u64 (z.ba : Int), .int .u64 (z.cp : Int)], undef, undef, undef, undef, undef, undef, undef, undef, undef, undef, undef, undef, undef, undef, undef, undef, undef, undef, undef, undef, undef], defers := [] } W) := by
    intro q8 q9 W HX
    clear HX1 HX2 c1 c2 l1 l2 pl HKP
    have hL := HL.out.kept HX.out.bel
    obtain ⟨v1, hv1⟩ : ∃ v1, y.am - m = v1 := ⟨_, rfl⟩
    obtain ⟨v2, hv2⟩ : ∃ v2, z.ba + m = v2 := ⟨_, rfl⟩
    obtain ⟨my, ey⟩ := byK_mem HA.out
    obtain ⟨mz, ez⟩ := byK_mem HB.out
    have iy := HO.out.ih y my
    have iz := HO.out.ia z mz
    have cz := HO.out.ca z mz
    have hwr1 : IntKind.u64.wrap ((y.am : Int) - (m : Int)) = (v1 : Int) := by
      have := iy.h2
      have := HCA.out.1
      rw [IntWalk.u64_in _ ⟨by omega, by omega⟩]
      omega
    have hwr2 : IntKind.u64.wrap ((z.ba : Int) + (m : Int)) = (v2 : Int) := by
      have := iz.h3
      have := HCA.out.2
      rw [IntWalk.u64_in _ ⟨by omega, by omega⟩]
      omega
    obtain ⟨W5, hW5⟩ : ∃ W5, (W.setCell ⟨q8, 2, none⟩ (.int .u64 (v1 : Int))).setCell ⟨q9, 2, none⟩ (.int .u64 (v2 : Int)) = W5 := ⟨_, rfl⟩
    have hne := HX.out.ne
    have k1 := set_at HX.out.b8 2 (.int .u64 (v1 : Int))
    have gA := grown_set W q8 2 (.int .u64 (v1 : Int))
    have k2 := (gA.block _ (block_lt HX.out.b9) (fun e => hne (Option.some.inj e).symm)).trans HX.out.b9
    have gB := grown_set (W.setCell ⟨q8, 2, none⟩ (.int .u64 (v1 : Int))) q9 2 (.int .u64 (v2 : Int))
    have m1 := (gB.block _ (block_lt k1) (fun e => hne (Option.some.inj e))).trans k1
    have m2 := set_at k2 2 (.int .u64 (v2 : Int))
    have n8 := HX.out.n8
    have n9 := HX.out.n9
    obtain ⟨lp, la, lb⟩ := HL.out.lt
    have b5 : Below w.heap.size w W5 := by
      rw [← hW5]
      exact (HX.out.bel.grown gA HX.out.bel.size (fun j e => by cases e; omega)).grown gB (Nat.le_trans HX.out.bel.size gA.size) (fun j e => by cases e; omega)
    have hFr5 : Run B p a b w0 Z0 S0 n W5 S := HRN.out.kept b5
    rw [hW5] at m1 m2
    unfold Ho.arr at m1 k1
    unfold Ac.arr at m2 k2
    simp at m1 m2
    have b8 := HX.out.b8
    unfold Ho.arr at b8
    have HSH := hide (setHoldM hFr5 (by omega) HO.out { y with am := v1 } iy.h0 (y := y) (by show byK Ho.id S.hol y.id = _; rw [ey]; exact HA.out))
    have HOH : Hid ((S.setH { y with am := v1 }).Ok) := HO.out.setH (a := { y with am := v1 }) ⟨iy.h0, iy.h1, by have := iy.h2; show v1 < _; omega⟩ (HO.out.zh y my).1
    have HOA : Hid (((S.setH { y with am := v1 }).setA { z with ba := v2 }).Ok) := HOH.out.setA (a := { z with ba := v2 }) ⟨iz.h0, iz.h1, by have := iz.h3; have := HCA.out.2; show v2 < _; omega, iz.h3⟩ (by have := HCA.out.2; show v2 ≤ z.cp; omega) (HO.out.za z mz)
    have HBZ : Hid (byK Ac.id (S.setH { y with am := v1 }).acc z.id = some z) := by
      have e : (S.setH { y with am := v1 }).acc = S.acc := by unfold LS.setH; rfl
      rw [e, ez]
      exact HB.out
    have HE0 : Hid (S.paysOut x t m = ((S.setH { y with am := v1 }).setA { z with ba := v2 }).line 5 x t m) := by
      unfold LS.paysOut
      rw [HA.out, HB.out, ← hv1, ← hv2]
      rfl
    have HW5 := hide hW5
    have HF5 := hide (Fl.below b5)
    have HM1 := hide m1
    have HM2 := hide m2
    have HIZ := hide iz
    have p0 := block_cell b8 0
    have p1 := block_cell b8 1
    have p2 := block_cell b8 2
    have pl := block_lt b8
    have pf := block_free b8 2
    have r2 := block_cell k2 2
    have rl := block_lt k2
    have rf := block_free k2 2
    simp at p0 p1 p2 r2
    unfold Ho.arr at HSH
    dsimp only at HSH
    clear k1 k2 gA gB m1 m2 b5 hFr5 hW5 hne n8 n9 lp la lb hL HX my ey mz ez iy iz cz hv1 hv2 b8
    go_upto_region 2 with fail
    clear p0 p1 p2 pl pf hwr1
    go_upto_region 3 with fail
    rw [HW5.out]
    clear HW5 r2 rl rf hwr2
    have p0 := block_cell HM1.out 0
    have p1 := block_cell HM1.out 1
    have p2 := block_cell HM1.out 2
    have pl := block_lt HM1.out
    simp at p0 p1 p2
    go_wp2_with fail
    refine HSH.out.mono ?_
    rintro e w6 ⟨rfl, G6⟩
    have t2 := G6.out.2.at_ _ _ _ HM2.out (by decide) (by decide) (by decide)
    have HSA := hide (setAccEM G6.out.1 (by omega) HOH.out { z with ba := v2 } HIZ.out.h0 (y := z) HBZ.out)
    have HF6 := hide (HF5.out.trans G6.out.2)
    unfold Ac.arr at HSA
    dsimp only at HSA
    have y0 := block_cell t2 0
    have y1 := block_cell t2 1
    have y2 := block_cell t2 2
    have y3 := block_cell t2 3
    have yl := block_lt t2
    simp at y0 y1 y2 y3
    clear p0 p1 p2 pl HSH G6 HM1 HM2 HF5 t2
    go_wp2_with fail
    refine HSA.out.mono ?_
    rintro e w7 ⟨rfl, G7⟩
    have HLW := hide (lwriteM G7.out.1 (by omega) HOA.out 5 x t m)
    have HF7 := hide (HF6.out.trans G7.out.2)
    clear y0 y1 y2 y3 yl HSA G7 HF6
    go_wp2_with fail
    refine HLW.out.mono ?_
    rintro e w8 ⟨rfl, G8⟩
    have HE : Hid (Run B p a b w0 Z0 S0 (n + 3) w8 (S.paysOut x t m) ∧ Fl w w8) := by
      rw [HE0.out]
      exact ⟨G8.out.1, HF7.out.trans G8.out.2⟩
    clear HLW G8 HF7
    go_wp2
    go_end0
    exact ⟨rfl, HE.out⟩
  go_region_held (fun V => V.cell? ⟨p, 1, none⟩ = some (.map (some a)) ∧ V.cell? ⟨p, 2, none⟩ = some (.map (some b)) ∧ (Instr.lookup 66 (.map (some b)) (.int .u64 (x : Int)) false).run Try.prog V = .ok (.agg #[.int .u64 (y.id : Nat), .int .u64 (y.fr : Nat), .int .u64 (y.am : Nat)]) V ∧ (Instr.lookup 65 (.map (some a)) (.int .u64 (t : Int)) false).run Try.prog V = .ok (.agg #[.int .u64 (z.id : Nat), .int .u64 (z.ow : Nat), .int .u64 (z.ba : Nat), .int .u64 (z.cp : Nat)]) V)
    ((refine (HKP.out _ ?_).1; repeat (first | exact Below.refl _ _ | refine Below.drew ?_ | refine Below.setCell ?_ (by simp) _ | refine Below.alloc ?_ (by first | exact Nat.le_refl _ | (simp; done)) _))) (fail)
  all_goals (first | exact HK.out _ _ _ HX1 | exact HK.out _ _ _ HX2)
set_option maxRecDepth 10000 in
set_option maxHeartbeats 6400000 in
theorem payM {w : World} {B p a b : Nat} {Z : SZ} {S : LS} (hM : LM w B p a b Z S) (hz0 : Z.cs.length ≤ 100000000000) (hok : S.Ok) {x t m : Nat} (hx : x < 18446744073709551616) (ht : t < 18446744073709551616) (hm : m < 18446744073709551616) {c : Nat} {S' : LS} (hS : S.pays x t m = (c, S')) :
    Calls Try.prog 24 #[.pointer (some ⟨p, 0, none⟩), .int .u64 (x : Nat), .int .u64 (t : Nat), .int .u64 (m : Nat)] w fun e w' => e = .returned (.int .i64 (c : Nat)) ∧ Hid (Run B p a b w Z S 48 w' S') := by
  have h := hM.lg
  have hR0 := Run.start hM hz0
  clear hM hz0
  have HS := hide hS
  have c2 := h.c.2.2.1
  have cl := h.lt.1
  have HM := hide (madeG h)
  have hlk := h.hol.look_ok hx
  obtain ⟨oa, hoa⟩ : ∃ oa, byK Ho.id S.hol x = oa := ⟨_, rfl⟩
  obtain ⟨ob, hob⟩ : ∃ ob, byK Ac.id S.acc t = ob := ⟨_, rfl⟩
  obtain ⟨W1, hW1⟩ : ∃ W1, w.alloc (.cells (oa.getD Ho.zero).arr 83) = W1 := ⟨_, rfl⟩
  have b1 : Below w.heap.size w W1 := by rw [← hW1]; exact (Below.refl _ w).alloc (Nat.le_refl _) _
  have q1 : W1.heap[w.heap.size]? = some (.cells (oa.getD Ho.zero).arr 83 (0, 0)) := by rw [← hW1]; exact alloc_atK _ _
  have h1 := h.kept b1
  have hlk1 := h1.acc.look_ok ht
  have d1 := h1.c.2.1
  have dl := h1.lt.1
  obtain ⟨W2, hW2⟩ : ∃ W2, W1.alloc (.cells (ob.getD Ac.zero).arr 80) = W2 := ⟨_, rfl⟩
  have b2 : Below W1.heap.size W1 W2 := by rw [← hW2]; exact (Below.refl _ W1).alloc (Nat.le_refl _) _
  have q2 : W2.heap[W1.heap.size]? = some (.cells (ob.getD Ac.zero).arr 80 (0, 0)) := by rw [← hW2]; exact alloc_atK _ _
  have q1' := (b2.block _ (block_lt q1)).trans q1
  have h2 := h1.kept b2
  have bb := b1.trans (b2.mono b1.size)
  have f2 := hR0.kept bb
  clear hR0
  have el := h2.lt.1
  have HL := hide h2
  have HO := hide hok
  have HF2 := hide f2
  have HW1 := hide hW1
  have HW2 := hide hW2
  have HA := hide hoa
  have HB := hide hob
  have HQ1 := hide q1'
  have HQ2 := hide q2
  have HI := hide (And.intro hx (And.intro ht hm))
  rw [hoa] at hlk
  rw [hob] at hlk1
  clear h hok b1 b2 bb h1 h2 f2 hW1 hW2 hoa hob ht hx hm q1 q1' q2 hS
  unfold Ho.arr at hlk HW1 HQ1
  unfold Ac.arr at hlk1 HW2 HQ2
  go_enter Try.func24, Try.ntmps24
  go_wp2_with fail
  refine HM.out.mono ?_
  rintro e w1 ⟨rfl, rfl⟩
  clear HM
  go_upto_region 4 with fail
  rw [HW1.out]
  clear HW1 hlk c2 cl
  go_upto_region 5 with fail
  rw [HW2.out]
  clear HW2 hlk1 d1 dl
  by_cases h0 : x = 0
  · have e : S.pays x t m = (40, S) := by unfold LS.pays; rw [if_pos (.inl h0)]
    have HR := hide (pair_inv (e.symm.trans HS.out))
    have HE : Hid (Run B p a b w1 Z S 48 W2 S) := HF2.out.le (by omega)
    clear e 
    subst h0
    go_wp2
    go_ret
    exact ⟨by rw [HR.out.1]; rfl, by rw [HR.out.2]; exact HE.out⟩
  have g0 : ((x : Int) == 0) = false := by simp; omega
  by_cases h1 : t = 0
  · have e : S.pays x t m = (40, S) := by unfold LS.pays; rw [if_pos (.inr h1)]
    have HR := hide (pair_inv (e.symm.trans HS.out))
    have HE : Hid (Run B p a b w1 Z S 48 W2 S) := HF2.out.le (by omega)
    clear e 
    subst h1
    go_wp2
    go_ret
    exact ⟨by rw [HR.out.1]; rfl, by rw [HR.out.2]; exact HE.out⟩
  have g1 : ((t : Int) == 0) = false := by simp; omega
  have hz : ¬ (x = 0 ∨ t = 0) := by omega
  rcases oa with _ | y
  · have e : S.pays x t m = (42, S) := by unfold LS.pays; rw [if_neg hz, HA.out]
    have HR := hide (pair_inv (e.symm.trans HS.out))
    have HE : Hid (Run B p a b w1 Z S 48 W2 S) := HF2.out.le (by omega)
    clear e hz h0 h1
    go_wp2
    go_ret
    exact ⟨by rw [HR.out.1]; rfl, by rw [HR.out.2]; exact HE.out⟩
  rcases ob with _ | z
  · have e : S.pays x t m = (42, S) := by unfold LS.pays; rw [if_neg hz, HA.out, HB.out]
    have HR := hide (pair_inv (e.symm.trans HS.out))
    have HE : Hid (Run B p a b w1 Z S 48 W2 S) := HF2.out.le (by omega)
    clear e hz h0 h1
    go_wp2
    go_ret
    exact ⟨by rw [HR.out.1]; rfl, by rw [HR.out.2]; exact HE.out⟩
  by_cases hm0 : m = 0
  · have e : S.pays x t m = (44, S) := by unfold LS.pays; rw [if_neg hz, HA.out, HB.out]; dsimp only; rw [if_pos hm0]
    have HR := hide (pair_inv (e.symm.trans HS.out))
    have HE : Hid (Run B p a b w1 Z S 48 W2 S) := HF2.out.le (by omega)
    clear e hz h0 h1
    subst hm0
    go_wp2
    go_ret
    exact ⟨by rw [HR.out.1]; rfl, by rw [HR.out.2]; exact HE.out⟩
  have g3 : ((m : Int) == 0) = false := by simp; omega
  have x0 := block_cell HQ1.out 0
  have x1 := block_cell HQ1.out 1
  have x2 := block_cell HQ1.out 2
  have xl := block_lt HQ1.out
  have y0 := block_cell HQ2.out 0
  have y1 := block_cell HQ2.out 1
  have y2 := block_cell HQ2.out 2
  have y3 := block_cell HQ2.out 3
  have yl := block_lt HQ2.out
  simp at x0 x1 x2 y0 y1 y2 y3
  by_cases hfu : y.am < m
  · have g4 : decide (y.am < m) = true := decide_eq_true hfu
    have e : S.pays x t m = (46, S) := by unfold LS.pays; rw [if_neg hz, HA.out, HB.out]; dsimp only; rw [if_neg hm0, if_pos hfu]
    have HR := hide (pair_inv (e.symm.trans HS.out))
    have HE : Hid (Run B p a b w1 Z S 48 W2 S) := HF2.out.le (by omega)
    clear e hz h0 h1 hm0 hfu
    go_wp2
    go_ret
    exact ⟨by rw [HR.out.1]; rfl, by rw [HR.out.2]; exact HE.out⟩
  have g4 : decide (y.am < m) = false := decide_eq_false hfu
  have hzin := HO.out.ia z (byK_mem HB.out).1
  have hzc := HO.out.ca z (byK_mem HB.out).1
  have HRM := hide (roomG W2 z hzin hzc)
  unfold Ac.arr at HRM
  obtain ⟨r, hr⟩ : ∃ r, z.cp - z.ba = r := ⟨_, rfl⟩
  rw [hr] at HRM
  by_cases hca : r < m
  · have g5 : decide (r < m) = true := decide_eq_true hca
    have e : S.pays x t m = (47, S) := by unfold LS.pays; rw [if_neg hz, HA.out, HB.out]; dsimp only; rw [if_neg hm0, if_neg hfu, if_pos (by rw [hr]; exact hca)]
    have HR := hide (pair_inv (e.symm.trans HS.out))
    clear e hz h0 h1 hm0 hfu hca hr hzin hzc
    go_wp2_with fail
    refine HRM.out.mono ?_
    rintro e w3 ⟨rfl, G3⟩
    have HE : Hid (Run B p a b w1 Z S 48 w3 S) := (HF2.out.kept G3.out).le (by omega)
    go_wp2
    go_ret
    exact ⟨by rw [HR.out.1]; rfl, by rw [HR.out.2]; exact HE.out⟩
  have g5 : decide (r < m) = false := decide_eq_false hca
  have HCA : Hid (m ≤ z.cp - z.ba ∧ m ≤ y.am) := by rw [hr]; exact ⟨by omega, by omega⟩
  by_cases hfl : S.full 1 = true
  · have e : S.pays x t m = (43, S) := by unfold LS.pays; rw [if_neg hz, HA.out, HB.out]; dsimp only; rw [if_neg hm0, if_neg hfu, if_neg (by rw [hr]; exact hca), if_pos hfl]
    have HR := hide (pair_inv (e.symm.trans HS.out))
    clear e hz h0 h1 hm0 hfu hca hr hzin hzc
    go_wp2_with fail
    refine HRM.out.mono ?_
    rintro e w3 ⟨rfl, G3⟩
    have HFU := hide (fullG (HL.out.kept G3.out) HO.out 1 (by decide))
    rw [hfl] at HFU
    have HE : Hid (Run B p a b w1 Z S 48 w3 S) := (HF2.out.kept G3.out).le (by omega)
    have el := (HL.out.kept G3.out).lt.1
    clear hfl
    go_wp2_with fail
    refine HFU.out.mono ?_
    rintro e w4 ⟨rfl, rfl⟩
    go_wp2
    go_ret
    exact ⟨by rw [HR.out.1]; rfl, by rw [HR.out.2]; exact HE.out⟩
  have hfl' : S.full 1 = false := by simpa using hfl
  have e : S.pays x t m = (0, S.paysOut x t m) := by unfold LS.pays; rw [if_neg hz, HA.out, HB.out]; dsimp only; rw [if_neg hm0, if_neg hfu, if_neg (by rw [hr]; exact hca), if_neg hfl]
  have HR := hide (pair_inv (e.symm.trans HS.out))
  have HFL := hide hfl'
  clear e hz h0 h1 hm0 hfu hca hr hzin hzc hfl hfl'
  go_wp2_with fail
  refine HRM.out.mono ?_
  rintro e w3 ⟨rfl, G3⟩
  have h3 := HL.out.kept G3.out
  have HF3 := hide (HF2.out.kept G3.out)
  have HFU := hide (fullG h3 HO.out 1 (by decide))
  rw [HFL.out] at HFU
  have HPO := hide (payOutM HF3.out (by omega) HO.out HI.out.1 HI.out.2.1 HA.out HB.out HCA.out.2 HCA.out.1)
  have el := h3.lt.1
  clear HRM G3 h3 HL HF2 x0 x1 x2 xl y0 y1 y2 y3 yl g0 g1 g3 g4 HQ1 HQ2
  go_wp2_with fail
  refine HFU.out.mono ?_
  rintro e w4 ⟨rfl, rfl⟩
  clear HFU g5
  go_wp2_with fail
  refine HPO.out.mono ?_
  rintro e w5 ⟨rfl, G5⟩
  have HE : Hid (Run B p a b w1 Z S 48 w5 S') := by
    rw [HR.out.2]
    exact G5.out.1.le (by omega)
  clear HPO G5 HF3
  go_wp2
  go_ret
  exact ⟨by rw [HR.out.1]; rfl, HE.out⟩
end Go.Proofs.Ytcfenjpdjogmdaa
