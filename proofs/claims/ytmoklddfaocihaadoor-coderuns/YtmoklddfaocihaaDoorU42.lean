import Derived.Test.YtmoklddfaocihaaDoorU40
import Derived.Test.YtmoklddfaocihaaDoorU41
namespace Go.Proofs.YtmoklddfaocihaaDoor
open Go.RowKit

/-- What Run refuses. -/
def rnF (p : Pv) (ev : Int) : Option (Int × Int) := match verF p with
  | .error z => some z
  | .ok _ => if isPl ev 6 = true then none else some (0, 92)
/-- What Run tells. -/
def rnO (p : Pv) (ev : Int) (e : En) (fuel : Int) : Ms := match verF p with
  | .error _ => mk0 0 0
  | .ok _ => if isPl ev 6 = true then endS p e (ldS p ev fuel) else mk0 0 0
theorem outA_mk0 : outA (mk0 0 0) = outZ := rfl
theorem rnF_ok {p : Pv} {k : Kn} {ev : Int} (h : verF p = .ok k) : rnF p ev = if isPl ev 6 = true then none else some (0, 92) := by unfold rnF; rw [h]
theorem rnF_err {p : Pv} {z : Int × Int} {ev : Int} (h : verF p = .error z) : rnF p ev = some z := by unfold rnF; rw [h]
theorem rnO_ok {p : Pv} {k : Kn} {ev fuel : Int} {e : En} (h : verF p = .ok k) : rnO p ev e fuel = if isPl ev 6 = true then endS p e (ldS p ev fuel) else mk0 0 0 := by unfold rnO; rw [h]
theorem rnO_err {p : Pv} {z : Int × Int} {ev fuel : Int} {e : En} (h : verF p = .error z) : rnO p ev e fuel = mk0 0 0 := by unfold rnO; rw [h]
/-- The reference's fault. -/
def Fr (z : Option (Int × Int)) (lim : Nat) (w : World) (f : Value) : Prop := (z = none ∧ f = .agg #[.slice none 0 0, .int .i64 0]) ∨ ∃ a y ao cap b off, z = some (a, y) ∧ f = .agg #[.slice ao 1 cap, .int .i64 y] ∧ y ≠ 0 ∧ FV lim w ao [⟨⟨#[99, 111, 100, 101]⟩, a⟩] b off
theorem Fr.below {z : Option (Int × Int)} {lim : Nat} {w w' : World} {f : Value} (h : Fr z lim w f) (hb : Below lim w w') : Fr z lim w' f := by
  rcases h with h | ⟨a, y, ao, cap, b, off, h1, h2, h3, h4⟩
  · exact .inl h
  · exact .inr ⟨a, y, ao, cap, b, off, h1, h2, h3, h4.below hb⟩
theorem Fr.wide {z : Option (Int × Int)} {lim lim' : Nat} {w : World} {f : Value} (h : Fr z lim w f) (hl : lim ≤ lim') : Fr z lim' w f := by
  rcases h with h | ⟨a, y, ao, cap, b, off, h1, h2, h3, h4⟩
  · exact .inl h
  · exact .inr ⟨a, y, ao, cap, b, off, h1, h2, h3, h4.wide hl⟩
/-- The reference's Run, as the law meets it. -/
theorem refRn {W : World} {g : Pg} {p : Pv} (h : g.Ok p W.heap.size W) (hC : ∀ j, j < p.nc → 0 ≤ p.C j ∧ p.C j < two64) (ev : Int) {e : En} (he : e.Ok) {fuel : Int} (hf : 0 ≤ fuel) : Calls Tryd.prog 13 #[.agg (g.cs p).toArray, .int .i64 ev, .agg e.cs.toArray, .int .u64 fuel] W fun x w' => ∃ ao n cap y, x = .returned (.tuple #[.agg (outA (rnO p ev e fuel)), .agg #[.slice ao n cap, .int .i64 y]]) ∧ Hid (Fr (rnF p ev) w'.heap.size w' (.agg #[.slice ao n cap, .int .i64 y]) ∧ Below W.heap.size W w') := by
  refine (runR h hC ev he hf).mono ?_
  intro x w' hh
  cases hv : verF p with
  | error z =>
    obtain ⟨a, y⟩ := z
    rw [hv] at hh
    obtain ⟨ao, cap, rfl, G⟩ := hh
    obtain ⟨hy, b, off, hfv, hb⟩ := G.out
    rw [rnO_err hv, rnF_err hv, outA_mk0]
    exact ⟨ao, 1, cap, y, rfl, .inr ⟨a, y, ao, cap, b, off, rfl, rfl, hy, hfv⟩, hb⟩
  | ok k =>
    rw [hv] at hh
    rw [rnO_ok hv, rnF_ok hv]
    cases hpl : isPl ev 6 with
    | false =>
      obtain ⟨ao, cap, rfl, G⟩ := hh.1 hpl
      obtain ⟨b, off, hfv, hb⟩ := G.out
      exact ⟨ao, 1, cap, 92, rfl, .inr ⟨0, 92, ao, cap, b, off, rfl, rfl, by decide, hfv⟩, hb⟩
    | true =>
      obtain ⟨rfl, G⟩ := hh.2 hpl
      exact ⟨none, 0, 0, 0, rfl, .inl ⟨rfl, rfl⟩, G.out⟩
/-- The world of the law. -/
structure Lr (W : World) (g g' : Pg) (p : Pv) (e : En) (O : Array Value) (z : Option (Int × Int)) (ao : Option Addr) (n cap : Nat) (y : Int) (lim ob fb cb : Nat) (w : World) : Prop where
  pb : w.heap[W.heap.size]? = some (.cells (g.cs p).toArray 27 (0, 0))
  eb : w.heap[W.heap.size + 1]? = some (.cells e.cs.toArray 44 (0, 0))
  ox : w.heap[ob]? = some (.cells O 48 (0, 0))
  fx : w.heap[fb]? = some (.cells #[.slice ao n cap, .int .i64 y] 30 (0, 0))
  cx : w.heap[cb]? = some (.cells (g'.cs p).toArray 27 (0, 0))
  k1 : g.Ok p W.heap.size w
  k2 : g'.Ok p lim w
  sp : Sp g' p lim w
  fa : Fr z lim w (.agg #[.slice ao n cap, .int .i64 y])
  tab : Tab w
  l1 : W.heap.size + 1 < lim
  l2 : ob < lim
  l3 : fb < lim
  l4 : cb < lim
  le : lim ≤ w.heap.size
  bel : Below W.heap.size W w
  z0 : 3 < lim
section
variable {W : World} {g g' : Pg} {p : Pv} {e : En} {O : Array Value} {z : Option (Int × Int)} {ao : Option Addr} {n cap : Nat} {y : Int} {lim ob fb cb : Nat} {w w' : World}
theorem Lr.next (h : Lr W g g' p e O z ao n cap y lim ob fb cb w) (hb : Below lim w w') : Lr W g g' p e O z ao n cap y lim ob fb cb w' :=
  ⟨(hb.block _ (Nat.lt_of_succ_lt h.l1)).trans h.pb, (hb.block _ h.l1).trans h.eb, (hb.block _ h.l2).trans h.ox, (hb.block _ h.l3).trans h.fx, (hb.block _ h.l4).trans h.cx, h.k1.kept hb (by have := h.l1; omega), h.k2.kept hb (Nat.le_refl _), h.sp.kept hb (Nat.le_refl _), h.fa.below hb, h.tab.below hb h.z0, h.l1, h.l2, h.l3, h.l4, Nat.le_trans h.le hb.size, h.bel.trans (hb.mono (by have := h.l1; omega)), h.z0⟩
theorem Lr.nextW (h : Lr W g g' p e O z ao n cap y lim ob fb cb w) (hb : Below w.heap.size w w') : Lr W g g' p e O z ao n cap y lim ob fb cb w' := h.next (hb.mono h.le)
/-- The program's Run, as the law meets it. -/
theorem progRn {ev : Int} (h : Lr W g g' p e O (rnF p ev) ao n cap y lim ob fb cb w) (hC : ∀ j, j < p.nc → 0 ≤ p.C j ∧ p.C j < two64) (he : e.Ok) {fuel : Int} (hf : 0 ≤ fuel) : Calls Tryd.prog 14 #[.agg (g'.cs p).toArray, .int .i64 ev, .agg e.cs.toArray, .int .u64 fuel] w fun x w' => ∃ v, x = .returned (.tuple #[.agg (outA (rnO p ev e fuel)), v]) ∧ Hid (Lr W g g' p e O (rnF p ev) ao n cap y lim ob fb cb w' ∧ Er w' v (.agg #[.slice ao n cap, .int .i64 y])) := by
  refine (runC (h.k2.wide h.le) h.tab hC ev he hf).mono ?_
  intro x w' hh
  have key : ∀ (v : Value) (a y1 : Int), rnF p ev = some (a, y1) → Ft w'.heap.size w' v a y1 → Below w.heap.size w w' → Er w' v (.agg #[.slice ao n cap, .int .i64 y]) := fun v a y1 hz hft hb => by
    have hL := h.nextW hb
    rcases hL.fa with ⟨e1, _⟩ | ⟨a', y', ao', cap', b, off, e1, hfe, hy, hfv⟩
    · rw [hz] at e1; cases e1
    · rw [hz] at e1
      cases e1
      exact .inr ⟨a, y1, ao', cap', b, off, hfe, hy, hft, hfv.wide hL.le⟩
  cases hv : verF p with
  | error q =>
    obtain ⟨a, y1⟩ := q
    rw [hv] at hh
    obtain ⟨gf, rfl, G⟩ := hh
    rw [rnO_err hv, outA_mk0]
    exact ⟨_, rfl, h.nextW G.out.2, key _ a y1 (rnF_err hv) G.out.1 G.out.2⟩
  | ok k =>
    rw [hv] at hh
    rw [rnO_ok hv]
    cases hpl : isPl ev 6 with
    | false =>
      obtain ⟨gf, rfl, G⟩ := hh.1 hpl
      exact ⟨_, rfl, h.nextW G.out.2, key _ 0 92 (by rw [rnF_ok hv, hpl]; rfl) G.out.1 G.out.2⟩
    | true =>
      obtain ⟨rfl, G⟩ := hh.2 hpl
      refine ⟨_, rfl, h.nextW G.out, ?_⟩
      rcases h.fa with ⟨_, hfe⟩ | ⟨a', y', ao', cap', b, off, e1, _⟩
      · exact .inl ⟨rfl, hfe⟩
      · rw [rnF_ok hv, hpl] at e1; cases e1
end
end Go.Proofs.YtmoklddfaocihaaDoor
namespace Go.Proofs.YtmoklddfaocihaaDoor
open Go.RowKit

theorem eqItemsU (xs : Array Value) (w : World) : ∀ is : List Nat, (∀ i ∈ is, ∃ x, xs[i * 1]? = some (.int .u64 x)) → (Op.eqItems 9998 42 1 xs xs is).run Tryd.prog w = .ok true w
  | [], _ => rfl
  | i :: is, h => by
    obtain ⟨x, hx⟩ := h i (by simp)
    have ih := eqItemsU xs w is (fun j hj => h j (by simp [hj]))
    have hp := run_part_plain (P := Tryd.prog) w (e := 42) (by kernel_rfl) hx
    have he : (Op.equalIn 9998 42 (.int .u64 x) (.int .u64 x)).run Tryd.prog w = .ok true w := by
      rw [show 9998 = 9997 + 1 from rfl, run_equalIn_int w 9997 42 .u64 .u64 x x Tryd.underlying42]
      simp
    simp only [Op.eqItems, Sem.run_bind, hp, Result.andThen_ok, he, Bool.not_true, Bool.false_eq_true, if_false, ih]
theorem eqPaid (a0 a1 a2 : Int) (w : World) : (Op.equalIn 9999 46 (.agg #[.int .u64 a0, .int .u64 a1, .int .u64 a2]) (.agg #[.int .u64 a0, .int .u64 a1, .int .u64 a2])).run Tryd.prog w = .ok true w := by
  obtain ⟨i0, hi, hz0, hz1, hz2⟩ := info_parts Tryd.infoU
  have hc : Tryd.prog.cellsOf 42 = 1 := by kernel_rfl
  rw [show 9999 = 9998 + 1 from rfl, run_equalIn_array w 9998 _ _ Tryd.underlying46 hi, hc]
  refine eqItemsU _ w _ (fun i hm => ?_)
  have : i < 3 := by simpa using hm
  match i, this with
  | 0, _ => exact ⟨_, rfl⟩
  | 1, _ => exact ⟨_, rfl⟩
  | 2, _ => exact ⟨_, rfl⟩
set_option maxRecDepth 10000 in
set_option maxHeartbeats 12800000 in
theorem runs_walk {W : World} {g : Pg} {p : Pv} (h : g.Ok p W.heap.size W) (hT : Tab W) (hC : ∀ j, j < p.nc → 0 ≤ p.C j ∧ p.C j < two64) (hlend : ∀ w, Below W.heap.size W w → Calls Tryd.prog 7 #[.agg (g.cs p).toArray] w (Ln w p)) (ev : Int) {e : En} (he : e.Ok) {fuel : Int} (hf : 0 ≤ fuel) :
    Calls Tryd.prog 4 #[.agg (g.cs p).toArray, .int .i64 ev, .agg e.cs.toArray, .int .u64 fuel] W fun x w' => x = .returned (.bool true) ∧ Below W.heap.size W w' := by
  obtain ⟨W1, hW1⟩ : ∃ W1, (W.alloc (.cells (g.cs p).toArray 27)).alloc (.cells e.cs.toArray 44) = W1 := ⟨_, rfl⟩
  obtain ⟨A1, A2, B1⟩ := two_box2 W _ _ _ _ hW1
  have HRF := hide (refRn ((h.kept B1 (Nat.le_refl _)).wide B1.size) hC ev he hf)
  have HLE : Hid (∀ w, Below W.heap.size W w → Calls Tryd.prog 7 #[.agg #[.slice g.ca p.nc g.cc, .slice g.sa p.ns g.sc, .int .i64 (p.en 0), .int .i64 (p.en 1), .int .i64 (p.en 2), .int .i64 (p.en 3), .int .i64 (p.en 4), .int .i64 (p.en 5), .slice g.ia p.n g.ic]] w (Ln w p)) := hlend
  have HOK := hide h
  have HTB := hide hT
  have HB1 := hide B1
  have HA1 := hide A1
  have HA2 := hide A2
  have HC := hide hC
  have HEO := hide he
  have HFU := hide hf
  have HW1 := hide hW1
  have HCS : Hid (∀ (g : Pg) (p : Pv), g.cs p = [.slice g.ca p.nc g.cc, .slice g.sa p.ns g.sc, .int .i64 (p.en 0), .int .i64 (p.en 1), .int .i64 (p.en 2), .int .i64 (p.en 3), .int .i64 (p.en 4), .int .i64 (p.en 5), .slice g.ia p.n g.ic]) := fun _ _ => rfl
  have HEC : Hid (e.cs = [.int .u64 e.x0, .int .u64 e.x1, .int .u64 e.x2, .int .u64 e.x3, .int .u64 e.x4, .int .u64 e.x5, .int .u64 e.x6, .bool e.x7]) := rfl
  rw [HCS.out g p, HEC.out] at HW1 HRF ⊢
  have y0 := block_cell A1 0
  have y1 := block_cell A1 1
  have y2 := block_cell A1 2
  have y3 := block_cell A1 3
  have y4 := block_cell A1 4
  have y5 := block_cell A1 5
  have y6 := block_cell A1 6
  have y7 := block_cell A1 7
  have y8 := block_cell A1 8
  have yl := block_lt A1
  have e0 := block_cell A2 0
  have e1 := block_cell A2 1
  have e2 := block_cell A2 2
  have e3 := block_cell A2 3
  have e4 := block_cell A2 4
  have e5 := block_cell A2 5
  have e6 := block_cell A2 6
  have e7 := block_cell A2 7
  have el := block_lt A2
  simp [Pg.cs] at y0 y1 y2 y3 y4 y5 y6 y7 y8
  simp [En.cs] at e0 e1 e2 e3 e4 e5 e6 e7
  clear h hT hlend B1 A1 A2 hW1 hC he hf
  obtain ⟨E0, E1, E2, E3, E4, E5, hO⟩ : ∃ E0 E1 E2 E3 E4 E5, outA (rnO p ev e fuel) = #[.int .i64 E0, .int .u64 E1, .int .u64 E2, .int .u64 E3, .int .u64 E4, .int .u64 E5] := ⟨_, _, _, _, _, _, rfl⟩
  rw [hO] at HRF
  have HO := hide hO
  clear hO
  go_enter Tryd.func4, Tryd.ntmps4
  go_upto_region 1 with fail
  rw [HW1.out]
  clear HW1
  go_wp2_with fail
  refine HRF.out.mono ?_
  rintro x w2 ⟨ao, n, cap, y, rfl, G2⟩
  clear HRF y0 y1 y2 y3 y4 y5 y6 y7 y8 yl e0 e1 e2 e3 e4 e5 e6 e7 el
  obtain ⟨w3, hw3⟩ : ∃ w3, (w2.alloc (.cells #[.int .i64 E0, .int .u64 E1, .int .u64 E2, .int .u64 E3, .int .u64 E4, .int .u64 E5] 48)).alloc (.cells #[.slice ao n cap, .int .i64 y] 30) = w3 := ⟨_, rfl⟩
  obtain ⟨O3, F3, B23⟩ := two_box2 w2 _ _ _ _ hw3
  have B3 := HB1.out.trans (G2.out.2.mono HB1.out.size)
  have B33 := B3.trans (B23.mono B3.size)
  have HLN := hide (HLE.out w3 B33)
  have q1 := (G2.out.2.block _ (block_lt HA1.out)).trans HA1.out
  have q2 := (G2.out.2.block _ (block_lt HA2.out)).trans HA2.out
  have HA3 := hide ((B23.block _ (block_lt q1)).trans q1)
  have HE3 := hide ((B23.block _ (block_lt q2)).trans q2)
  have HB3 := hide B33
  have HFA := hide ((G2.out.1.below B23).wide B23.size)
  have HOF := hide (And.intro O3 F3)
  have HW3 := hide hw3
  clear hw3 B3 B33 O3 F3 B23 q1 q2 G2 HA1 HA2 HB1 HLE
  have y0 := block_cell HA3.out 0
  have y1 := block_cell HA3.out 1
  have y2 := block_cell HA3.out 2
  have y3 := block_cell HA3.out 3
  have y4 := block_cell HA3.out 4
  have y5 := block_cell HA3.out 5
  have y6 := block_cell HA3.out 6
  have y7 := block_cell HA3.out 7
  have y8 := block_cell HA3.out 8
  have yl := block_lt HA3.out
  simp [Pg.cs] at y0 y1 y2 y3 y4 y5 y6 y7 y8
  go_upto_region 2 with fail
  rw [HW3.out]
  clear HW3
  go_wp2_with fail
  refine HLN.out.mono ?_
  rintro x w4 ⟨g', rfl, G4⟩
  rw [HCS.out g' p]
  obtain ⟨w5, hw5⟩ : ∃ w5, w4.alloc (.cells #[.slice g'.ca p.nc g'.cc, .slice g'.sa p.ns g'.sc, .int .i64 (p.en 0), .int .i64 (p.en 1), .int .i64 (p.en 2), .int .i64 (p.en 3), .int .i64 (p.en 4), .int .i64 (p.en 5), .slice g'.ia p.n g'.ic] 27) = w5 := ⟨_, rfl⟩
  have HL5 : Hid (Lr W g g' p e #[.int .i64 E0, .int .u64 E1, .int .u64 E2, .int .u64 E3, .int .u64 E4, .int .u64 E5] (rnF p ev) ao n cap y w5.heap.size w2.heap.size (w2.heap.size + 1) w4.heap.size w5) := by
    have b5 : Below w4.heap.size w4 w5 := by rw [← hw5]; exact below_alloc1 _ _
    have a5 : w5.heap[w4.heap.size]? = some (.cells (g'.cs p).toArray 27 (0, 0)) := by rw [← hw5]; exact alloc_atK _ _
    have b35 := G4.out.2.2.trans (b5.mono G4.out.2.2.size)
    have bw := HB3.out.trans (b35.mono HB3.out.size)
    have pb := (b35.block _ (block_lt HA3.out)).trans HA3.out
    have eb := (b35.block _ (block_lt HE3.out)).trans HE3.out
    have ox := (b35.block _ (block_lt HOF.out.1)).trans HOF.out.1
    have fx := (b35.block _ (block_lt HOF.out.2)).trans HOF.out.2
    exact ⟨pb, eb, ox, fx, a5, HOK.out.kept bw (Nat.le_refl _), (G4.out.1.kept b5 (Nat.le_refl _)).wide b5.size, (G4.out.2.1.kept b5 (Nat.le_refl _)).wide b5.size, (HFA.out.below b35).wide b35.size, HTB.out.below bw HTB.out.z, block_lt eb, block_lt ox, block_lt fx, block_lt a5, Nat.le_refl _, bw, Nat.lt_of_lt_of_le HTB.out.z bw.size⟩
  have HW5 := hide hw5
  clear hw5 G4 HLN HA3 HE3 HB3 HOF HFA HOK HTB y0 y1 y2 y3 y4 y5 y6 y7 y8 yl
  go_upto_region 3 with fail
  rw [HW5.out]
  clear HW5
  generalize w5.heap.size = lim at *
  obtain ⟨fb, hfb⟩ : ∃ fb, w2.heap.size + 1 = fb := ⟨_, rfl⟩
  rw [hfb] at HL5 ⊢
  clear hfb
  generalize w2.heap.size = ob at *
  generalize w4.heap.size = cb at *
  have HPT : Hid (Calls Tryd.prog 14 #[.agg #[.slice g'.ca p.nc g'.cc, .slice g'.sa p.ns g'.sc, .int .i64 (p.en 0), .int .i64 (p.en 1), .int .i64 (p.en 2), .int .i64 (p.en 3), .int .i64 (p.en 4), .int .i64 (p.en 5), .slice g'.ia p.n g'.ic], .int .i64 ev, .agg #[.int .u64 e.x0, .int .u64 e.x1, .int .u64 e.x2, .int .u64 e.x3, .int .u64 e.x4, .int .u64 e.x5, .int .u64 e.x6, .bool e.x7], .int .u64 fuel] w5 fun x w' => ∃ v, x = .returned (.tuple #[.agg #[.int .i64 E0, .int .u64 E1, .int .u64 E2, .int .u64 E3, .int .u64 E4, .int .u64 E5], v]) ∧ Hid (Lr W g g' p e #[.int .i64 E0, .int .u64 E1, .int .u64 E2, .int .u64 E3, .int .u64 E4, .int .u64 E5] (rnF p ev) ao n cap y lim ob fb cb w' ∧ Er w' v (.agg #[.slice ao n cap, .int .i64 y]))) := by
    have q := progRn (ev := ev) HL5.out HC.out HEO.out (fuel := fuel) HFU.out
    rw [HO.out] at q
    exact q
  have HKP : Hid (∀ w, Lr W g g' p e #[.int .i64 E0, .int .u64 E1, .int .u64 E2, .int .u64 E3, .int .u64 E4, .int .u64 E5] (rnF p ev) ao n cap y lim ob fb cb w → Calls Tryd.prog 11 #[.agg #[.slice g'.ca p.nc g'.cc, .slice g'.sa p.ns g'.sc, .int .i64 (p.en 0), .int .i64 (p.en 1), .int .i64 (p.en 2), .int .i64 (p.en 3), .int .i64 (p.en 4), .int .i64 (p.en 5), .slice g'.ia p.n g'.ic], .agg #[.slice g.ca p.nc g.cc, .slice g.sa p.ns g.sc, .int .i64 (p.en 0), .int .i64 (p.en 1), .int .i64 (p.en 2), .int .i64 (p.en 3), .int .i64 (p.en 4), .int .i64 (p.en 5), .slice g.ia p.n g.ic]] w fun e w' => e = .returned (.bool true) ∧ Hid (Below w.heap.size w w')) := fun w hw => keptT (hw.k2.wide hw.le) (hw.k1.wide (Nat.le_trans (by have := hw.l1; omega) hw.le)) (hw.sp.wide hw.le)
  have HEQ := eqPaid E2 E3 E4
  have HEQH := hide HEQ
  clear HEQ
  have c0 := block_cell HL5.out.cx 0
  have c1 := block_cell HL5.out.cx 1
  have c2 := block_cell HL5.out.cx 2
  have c3 := block_cell HL5.out.cx 3
  have c4 := block_cell HL5.out.cx 4
  have c5 := block_cell HL5.out.cx 5
  have c6 := block_cell HL5.out.cx 6
  have c7 := block_cell HL5.out.cx 7
  have c8 := block_cell HL5.out.cx 8
  have cl := block_lt HL5.out.cx
  have e0 := block_cell HL5.out.eb 0
  have e1 := block_cell HL5.out.eb 1
  have e2 := block_cell HL5.out.eb 2
  have e3 := block_cell HL5.out.eb 3
  have e4 := block_cell HL5.out.eb 4
  have e5 := block_cell HL5.out.eb 5
  have e6 := block_cell HL5.out.eb 6
  have e7 := block_cell HL5.out.eb 7
  have el := block_lt HL5.out.eb
  simp [Pg.cs] at c0 c1 c2 c3 c4 c5 c6 c7 c8
  simp [En.cs] at e0 e1 e2 e3 e4 e5 e6 e7
  go_wp2_with fail
  refine HPT.out.mono ?_
  rintro x w6 ⟨v, rfl, G6⟩
  clear HPT HL5 c0 c1 c2 c3 c4 c5 c6 c7 c8 cl e0 e1 e2 e3 e4 e5 e6 e7 el
  obtain ⟨w7, hw7⟩ : ∃ w7, w6.alloc (.cells #[.int .i64 E0, .int .u64 E1, .int .u64 E2, .int .u64 E3, .int .u64 E4, .int .u64 E5] 48) = w7 := ⟨_, rfl⟩
  have b7 : Below w6.heap.size w6 w7 := by rw [← hw7]; exact below_alloc1 _ _
  have a7 : w7.heap[w6.heap.size]? = some (.cells #[.int .i64 E0, .int .u64 E1, .int .u64 E2, .int .u64 E3, .int .u64 E4, .int .u64 E5] 48 (0, 0)) := by rw [← hw7]; exact alloc_atK _ _
  have HL7 := hide (G6.out.1.nextW b7)
  have HER := hide (G6.out.2.next b7)
  have HW7 := hide hw7
  have HA7 := hide a7
  clear hw7 b7 a7 G6
  go_upto_region 4 with fail
  rw [HW7.out]
  clear HW7
  generalize w6.heap.size = gb at *
  have x0 := block_cell HA7.out 0
  have x1 := block_cell HA7.out 1
  have x2 := block_cell HA7.out 2
  have x3 := block_cell HA7.out 3
  have x4 := block_cell HA7.out 4
  have x5 := block_cell HA7.out 5
  have xl := block_lt HA7.out
  have o0 := block_cell HL7.out.ox 0
  have o1 := block_cell HL7.out.ox 1
  have o2 := block_cell HL7.out.ox 2
  have o3 := block_cell HL7.out.ox 3
  have o4 := block_cell HL7.out.ox 4
  have o5 := block_cell HL7.out.ox 5
  have ol := block_lt HL7.out.ox
  have f0 := block_cell HL7.out.fx 0
  have f1 := block_cell HL7.out.fx 1
  have fl := block_lt HL7.out.fx
  simp at x0 x1 x2 x3 x4 x5 o0 o1 o2 o3 o4 o5 f0 f1
  have HEQ := HEQH.out w7
  go_wp2_with fail
  refine (isT HER.out).mono ?_
  rintro x w8 ⟨rfl, G8⟩
  have HL8 := hide (HL7.out.nextW G8.out)
  clear HL7 HER HA7 G8 x0 x1 x2 x3 x4 x5 xl o0 o1 o2 o3 o4 o5 ol f0 f1 fl
  have c0 := block_cell HL8.out.cx 0
  have c1 := block_cell HL8.out.cx 1
  have c2 := block_cell HL8.out.cx 2
  have c3 := block_cell HL8.out.cx 3
  have c4 := block_cell HL8.out.cx 4
  have c5 := block_cell HL8.out.cx 5
  have c6 := block_cell HL8.out.cx 6
  have c7 := block_cell HL8.out.cx 7
  have c8 := block_cell HL8.out.cx 8
  have cl := block_lt HL8.out.cx
  have y0 := block_cell HL8.out.pb 0
  have y1 := block_cell HL8.out.pb 1
  have y2 := block_cell HL8.out.pb 2
  have y3 := block_cell HL8.out.pb 3
  have y4 := block_cell HL8.out.pb 4
  have y5 := block_cell HL8.out.pb 5
  have y6 := block_cell HL8.out.pb 6
  have y7 := block_cell HL8.out.pb 7
  have y8 := block_cell HL8.out.pb 8
  have yl := block_lt HL8.out.pb
  simp [Pg.cs] at c0 c1 c2 c3 c4 c5 c6 c7 c8 y0 y1 y2 y3 y4 y5 y6 y7 y8
  go_wp2_with fail
  refine (HKP.out w8 HL8.out).mono ?_
  rintro x w9 ⟨rfl, G9⟩
  have HD := hide (HL8.out.nextW G9.out).bel
  go_wp2
  go_ret
  exact ⟨rfl, HD.out⟩
end Go.Proofs.YtmoklddfaocihaaDoor
