import Derived.Test.YtggpaljilpbmhaaGreatDoorW45
import Derived.Test.YtggpaljilpbmhaaGreatDoorW46
namespace Go.Proofs.YtggpaljilpbmhaaGreatDoor
open Go.RowKit

set_option maxRecDepth 10000 in
set_option maxHeartbeats 6400000 in
theorem runC {W : World} {g : Pg} {p : Pv} (h : g.Ok p W.heap.size W) (hT : Tab W) (hC : ∀ j, j < p.nc → 0 ≤ p.C j ∧ p.C j < two64) (ev : Int) {e : En} (he : e.Ok) {fuel : Int} (hf : 0 ≤ fuel) : Calls Tryz.prog 12 #[.agg (g.cs p).toArray, .int .i64 ev, .agg e.cs.toArray, .int .u64 fuel] W (RunR W p ev e fuel (verF p)) := by
 have HME : Hid (∀ k, verF p = .ok k → Me p k e.ek e.ev e.x2) := fun k hk => he.me hk hC
 have HTM : Hid (∀ k, verF p = .ok k → isPl ev 6 = true → Tm p k e.x2 (ldS p ev fuel)) := fun k hk hp => ld_tm hk hp hf (he.b 2 (by decide)).1
 have HCS : g.cs p = [.slice g.ca p.nc g.cc, .slice g.sa p.ns g.sc, .int .i64 (p.en 0), .int .i64 (p.en 1), .int .i64 (p.en 2), .int .i64 (p.en 3), .int .i64 (p.en 4), .int .i64 (p.en 5), .slice g.ia p.n g.ic] := rfl
 have HEC : e.cs = [.int .u64 e.x0, .int .u64 e.x1, .int .u64 e.x2, .int .u64 e.x3, .int .u64 e.x4, .int .u64 e.x5, .int .u64 e.x6, .bool e.x7] := rfl
 obtain ⟨W3, hW3⟩ : ∃ W3, ((W.alloc (.cells (g.cs p).toArray 27)).alloc (.cells e.cs.toArray 30)).alloc (.cells #[.int .i64 0, .int .u64 0, .int .u64 0, .int .u64 0, .int .u64 0, .int .u64 0] 47) = W3 := ⟨_, rfl⟩
 obtain ⟨A1, A2, A3, B3⟩ := three_box2 W _ _ _ _ _ _ hW3
 have HL := hide (loadC ((h.kept B3 (Nat.le_refl _)).wide B3.size) (hT.below B3 hT.z) ev e fuel)
 have HB3 := hide B3
 have HA3 := hide A3
 have HW3 := hide hW3
 rw [HCS, HEC] at HW3 HL ⊢
 rw [HCS] at A1
 rw [HEC] at A2
 obtain ⟨r, hr⟩ : ∃ r, verF p = r := ⟨_, rfl⟩
 rw [hr] at HL HME HTM ⊢
 clear h hT B3 A3 hW3 HCS HEC hr he hf hC
 have z0 := block_cell A1 0
 have z1 := block_cell A1 1
 have z2 := block_cell A1 2
 have z3 := block_cell A1 3
 have z4 := block_cell A1 4
 have z5 := block_cell A1 5
 have z6 := block_cell A1 6
 have z7 := block_cell A1 7
 have z8 := block_cell A1 8
 have zl := block_lt A1
 have y0 := block_cell A2 0
 have y1 := block_cell A2 1
 have y2 := block_cell A2 2
 have y3 := block_cell A2 3
 have y4 := block_cell A2 4
 have y5 := block_cell A2 5
 have y6 := block_cell A2 6
 have y7 := block_cell A2 7
 have yl := block_lt A2
 simp at z0 z1 z2 z3 z4 z5 z6 z7 z8 y0 y1 y2 y3 y4 y5 y6 y7
 clear A1 A2
 have HZ : ∀ w', Below W3.heap.size W3 w' → w'.heap[W.heap.size + 1 + 1]? = some (.cells #[.int .i64 0, .int .u64 0, .int .u64 0, .int .u64 0, .int .u64 0, .int .u64 0] 47 (0, 0)) := fun w' hb => (hb.block _ (block_lt HA3.out)).trans HA3.out
 have HZH := hide HZ
 clear HZ
 go_enter Tryz.func12, Tryz.ntmps12
 go_upto_region 1 with fail
 rw [HW3.out]
 clear HW3
 go_wp2_with fail
 refine HL.out.mono ?_
 clear z0 z1 z2 z3 z4 z5 z6 z7 z8 zl y0 y1 y2 y3 y4 y5 y6 y7 yl HL HA3
 intro x w4 hh
 have HERR : Hid (∀ (a y : Int) (g' : Nat) (w4 : World), Ft w4.heap.size w4 (.iface 74 (.pointer (some ⟨g', 0, none⟩))) a y → Below W3.heap.size W3 w4 → ∀ wf, (((((w4.setCell ⟨W.heap.size + 1 + 1, 0, none⟩ (.int .i64 0)).setCell ⟨W.heap.size + 1 + 1, 1, none⟩ (.int .u64 0)).setCell ⟨W.heap.size + 1 + 1, 2, none⟩ (.int .u64 0)).setCell ⟨W.heap.size + 1 + 1, 3, none⟩ (.int .u64 0)).setCell ⟨W.heap.size + 1 + 1, 4, none⟩ (.int .u64 0)).setCell ⟨W.heap.size + 1 + 1, 5, none⟩ (.int .u64 0) = wf → wf.heap[W.heap.size + 1 + 1]? = some (.cells #[.int .i64 0, .int .u64 0, .int .u64 0, .int .u64 0, .int .u64 0, .int .u64 0] 47 (0, 0)) ∧ Ft wf.heap.size wf (.iface 74 (.pointer (some ⟨g', 0, none⟩))) a y ∧ Below W.heap.size W wf) := fun a y g' w4 hft hb wf hwf => by
  have z := HZH.out w4 hb
  obtain ⟨q1, q2, q3⟩ := set6 rfl z (HB3.out.trans (hb.mono HB3.out.size)) (by omega) _ _ _ _ _ _ hwf
  exact ⟨q1, hft.off z (fun x e => by cases e) q3, q2⟩
 cases r with
 | error q =>
  obtain ⟨a, y⟩ := q
  obtain ⟨g', rfl, G⟩ := hh
  have z := HZH.out w4 G.out.2
  have v0 := block_cell z 0
  have v1 := block_cell z 1
  have v2 := block_cell z 2
  have v3 := block_cell z 3
  have v4 := block_cell z 4
  have v5 := block_cell z 5
  have f0 := block_free z 0
  have f1 := block_free z 1
  have f2 := block_free z 2
  have f3 := block_free z 3
  have f4 := block_free z 4
  have f5 := block_free z 5
  have vl := block_lt z
  simp at v0 v1 v2 v3 v4 v5
  clear z
  go_wp2
  generalize hwf : World.setCell _ _ _ = wf
  obtain ⟨q1, q2, q3⟩ := HERR.out a y g' w4 G.out.1 G.out.2 wf hwf
  have c0 := block_cell q1 0
  have c1 := block_cell q1 1
  have c2 := block_cell q1 2
  have c3 := block_cell q1 3
  have c4 := block_cell q1 4
  have c5 := block_cell q1 5
  simp at c0 c1 c2 c3 c4 c5
  refine bodyPost_ret (v := .tuple #[.agg #[.int .i64 0, .int .u64 0, .int .u64 0, .int .u64 0, .int .u64 0, .int .u64 0], .iface 74 (.pointer (some ⟨g', 0, none⟩))]) (by simp [results, Tryz.results12, go_sem, c0, c1, c2, c3, c4, c5]) rfl ?_
  exact ⟨g', rfl, q2, q3⟩
 | ok k =>
  cases hpl : isPl ev 6 with
  | false =>
   obtain ⟨g', rfl, G⟩ := hh.1 hpl
   clear hh
   have z := HZH.out w4 G.out.2
   have v0 := block_cell z 0
   have v1 := block_cell z 1
   have v2 := block_cell z 2
   have v3 := block_cell z 3
   have v4 := block_cell z 4
   have v5 := block_cell z 5
   have f0 := block_free z 0
   have f1 := block_free z 1
   have f2 := block_free z 2
   have f3 := block_free z 3
   have f4 := block_free z 4
   have f5 := block_free z 5
   have vl := block_lt z
   simp at v0 v1 v2 v3 v4 v5
   have HPL := hide hpl
   clear z hpl
   go_wp2
   generalize hwf : World.setCell _ _ _ = wf
   obtain ⟨q1, q2, q3⟩ := HERR.out 0 92 g' w4 G.out.1 G.out.2 wf hwf
   have c0 := block_cell q1 0
   have c1 := block_cell q1 1
   have c2 := block_cell q1 2
   have c3 := block_cell q1 3
   have c4 := block_cell q1 4
   have c5 := block_cell q1 5
   simp at c0 c1 c2 c3 c4 c5
   refine bodyPost_ret (v := .tuple #[.agg #[.int .i64 0, .int .u64 0, .int .u64 0, .int .u64 0, .int .u64 0, .int .u64 0], .iface 74 (.pointer (some ⟨g', 0, none⟩))]) (by simp [results, Tryz.results12, go_sem, c0, c1, c2, c3, c4, c5]) rfl ?_
   exact ⟨fun _ => ⟨g', rfl, q2, q3⟩, fun q => (by rw [HPL.out] at q; cases q)⟩
  | true =>
   obtain ⟨mb, c, rfl, G⟩ := hh.2 hpl
   clear hh
   have me := HME.out k rfl
   have tm := HTM.out k rfl hpl
   have HPL := hide hpl
   obtain ⟨cb, co, cc, ib, io, ic, mr⟩ := G.out.r
   have hek := G.out.ek
   have hev := G.out.ev
   have hhd := G.out.hd
   have me2 : Me p k c.ek c.ev c.hd := by rw [hek, hev, hhd]; exact me
   have tm2 : Tm p k c.hd (ldS p ev fuel) := by rw [hhd]; exact tm
   have HCY := hide (carryC me2 mr tm2 G.out.m 9223372036854775807 (by decide))
   have HEN : Hid (runN p c.ek c.ev c.hd 9223372036854775807 (ldS p ev fuel) = endS p e (ldS p ev fuel)) := by
    have h1 := end_ov me tm
    have h2 := runN_more (m := 9223372036854775807) h1 (by decide)
    rw [hek, hev, hhd]
    exact h2
   have HOV := hide (end_ov me tm)
   rw [HEN.out] at HCY
   have HG := hide G.out
   clear me tm me2 tm2 mr hek hev hhd hpl G HME HTM HERR HEN
   obtain ⟨sE, hsE⟩ : ∃ sE, endS p e (ldS p ev fuel) = sE := ⟨_, rfl⟩
   rw [hsE] at HCY HOV
   have HSE := hide hsE
   clear hsE
   go_wp2_with fail
   refine HCY.out.mono ?_
   rintro x w5 ⟨rfl, G5⟩
   clear HCY
   go_wp2_with fail
   refine (outcomeC G5.out.1).mono ?_
   rintro x w6 ⟨rfl, G6⟩
   have hoo : outO sE = outA sE := by unfold outO; rw [HOV.out]; rfl
   rw [hoo, HOV.out]
   have HOA : Hid (outA sE = #[.int .i64 sE.en, .int .u64 sE.fail, .int .u64 (if sE.en = 0 then sE.paid 0 else 0), .int .u64 (if sE.en = 0 then sE.paid 1 else 0), .int .u64 (if sE.en = 0 then sE.paid 2 else 0), .int .u64 sE.left]) := rfl
   clear hoo HOV
   generalize (if sE.en = 0 then sE.paid 0 else 0) = p0 at *
   generalize (if sE.en = 0 then sE.paid 1 else 0) = p1 at *
   generalize (if sE.en = 0 then sE.paid 2 else 0) = p2 at *
   rw [HOA.out]
   have HB36 : Hid (Below W3.heap.size W3 w6) := (HG.out.b.grown G5.out.2 HG.out.b.size (fun q e => by cases e; exact HG.out.lo)).trans (G6.out.mono (Nat.le_trans HG.out.b.size G5.out.2.size))
   have HBW : Hid (Below W.heap.size W w6) := HB3.out.trans (HB36.out.mono HB3.out.size)
   have z := HZH.out w6 HB36.out
   have HZ6 := hide z
   have v0 := block_cell z 0
   have v1 := block_cell z 1
   have v2 := block_cell z 2
   have v3 := block_cell z 3
   have v4 := block_cell z 4
   have v5 := block_cell z 5
   have f0 := block_free z 0
   have f1 := block_free z 1
   have f2 := block_free z 2
   have f3 := block_free z 3
   have f4 := block_free z 4
   have f5 := block_free z 5
   have vl := block_lt z
   simp at v0 v1 v2 v3 v4 v5
   clear z G5 G6 HG HB36
   generalize sE.en = E0 at *
   generalize sE.fail = E1 at *
   generalize sE.left = E5 at *
   go_wp2
   generalize hwf : World.setCell _ _ _ = wf
   obtain ⟨k1, k2, -⟩ := set6 rfl HZ6.out HBW.out (by omega) _ _ _ _ _ _ hwf
   clear hwf
   generalize hwg : World.alloc wf _ = wg
   have ba : Below wf.heap.size wf wg := by rw [← hwg]; exact below_alloc1 _ _
   have q1 := (ba.block _ (block_lt k1)).trans k1
   have q2 := k2.trans (ba.mono k2.size)
   clear hwg
   have c0 := block_cell q1 0
   have c1 := block_cell q1 1
   have c2 := block_cell q1 2
   have c3 := block_cell q1 3
   have c4 := block_cell q1 4
   have c5 := block_cell q1 5
   simp at c0 c1 c2 c3 c4 c5
   refine bodyPost_ret (v := .tuple #[.agg #[.int .i64 E0, .int .u64 E1, .int .u64 p0, .int .u64 p1, .int .u64 p2, .int .u64 E5], .nilIface]) (by simp [results, Tryz.results12, go_sem, c0, c1, c2, c3, c4, c5]) rfl ?_
   exact ⟨fun q => (by rw [HPL.out] at q; cases q), fun _ => ⟨by rw [HSE.out, HOA.out], q2⟩⟩
end Go.Proofs.YtggpaljilpbmhaaGreatDoor
