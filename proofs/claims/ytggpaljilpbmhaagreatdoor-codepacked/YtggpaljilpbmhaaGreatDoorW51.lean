import Derived.Test.YtggpaljilpbmhaaGreatDoorW31
import Derived.Deep.DeepCutAuto
import Derived.Test.YtggpaljilpbmhaaGreatDoorW48
import Derived.Test.YtggpaljilpbmhaaGreatDoorW50
import Derived.Test.YtggpaljilpbmhaaGreatDoorW19
namespace Go.Proofs.YtggpaljilpbmhaaGreatDoor
open Go.RowKit

/-- What is given to the law. -/
structure Lx (W : World) (g : Pg) (p : Pv) (l0 : Nat) (ao : Option Addr) (n cap : Nat) (B : List Nat) : Prop where
 k : g.Ok p W.heap.size W
 t : Tab W
 e : ErrT W
 s : Shows l0 W ao n cap B
 l : l0 ≤ W.heap.size
 b0 : p.nc * 8 ≤ 140737488351232
 b1 : p.ns * 8 ≤ 140737488351232
 b2 : p.n * 16 ≤ 140737488351232
 C : ∀ j, j < p.nc → 0 ≤ p.C j ∧ p.C j < 18446744073709551616
/-- A world of the law. -/
structure La (W : World) (g : Pg) (p : Pv) (w : World) : Prop where
 bx : w.heap[W.heap.size]? = some (.cells (g.cs p).toArray 27 (0, 0))
 bel : Below W.heap.size W w
section
variable {W w w' : World} {g : Pg} {p : Pv} {l0 : Nat} {ao : Option Addr} {n cap : Nat} {B : List Nat}
theorem La.next (h : La W g p w) (hb : Below w.heap.size w w') : La W g p w' := ⟨(hb.block _ (block_lt h.bx)).trans h.bx, h.bel.trans (hb.mono h.bel.size)⟩
theorem Lx.ok (x : Lx W g p l0 ao n cap B) (h : La W g p w) : g.Ok p w.heap.size w := (x.k.kept h.bel (Nat.le_refl _)).wide h.bel.size
theorem Lx.tab (x : Lx W g p l0 ao n cap B) (h : La W g p w) : Tab w := x.t.below h.bel x.t.z
theorem Lx.errt (x : Lx W g p l0 ao n cap B) (h : La W g p w) : ErrT w := (h.bel.cell (p := ⟨1, 0, none⟩) x.e.lt).trans x.e
theorem Lx.shows (x : Lx W g p l0 ao n cap B) (h : La W g p w) : Shows l0 w ao n cap B := x.s.kept (row := none) (grown_belowU h.bel) (fun g e => by cases e)
theorem Lx.lo (x : Lx W g p l0 ao n cap B) (h : La W g p w) : l0 ≤ w.heap.size := Nat.le_trans x.l h.bel.size
end
set_option maxRecDepth 10000 in
set_option maxHeartbeats 6400000 in
theorem packedW {W : World} {g : Pg} {p : Pv} {l0 : Nat} {ao : Option Addr} {n cap : Nat} {B : List Nat} (h : Lx W g p l0 ao n cap B) :
  Calls Tryz.prog 5 #[.agg (g.cs p).toArray, .slice ao n cap] W fun x w' => x = .returned (.bool true) ∧ Below W.heap.size W w' := by
 have HX := hide h
 obtain ⟨W1, hW1⟩ : ∃ W1, W.alloc (.cells (g.cs p).toArray 27) = W1 := ⟨_, rfl⟩
 have HL1 : Hid (La W g p W1) := ⟨by rw [← hW1]; exact alloc_atK _ _, by rw [← hW1]; exact below_alloc1 W _⟩
 have HCS : Hid ((g.cs p).toArray = #[.slice g.ca p.nc g.cc, .slice g.sa p.ns g.sc, .int .i64 (p.en 0), .int .i64 (p.en 1), .int .i64 (p.en 2), .int .i64 (p.en 3), .int .i64 (p.en 4), .int .i64 (p.en 5), .slice g.ia p.n g.ic]) := rfl
 rw [HCS.out] at hW1 ⊢
 have HW1 := hide hW1
 have HLI := hide (livesC (HX.out.tab HL1.out) (n : Int) 7 (by decide))
 clear h hW1 HCS
 go_enter Tryz.func5, Tryz.ntmps5
 go_upto_region 1 with fail
 rw [HW1.out]
 clear HW1
 go_wp2_with fail
 refine HLI.out.mono ?_
 rintro x w2 ⟨rfl, G2⟩
 have HL2 := hide (HL1.out.next G2.out)
 clear HLI G2 HL1
 go_upto_region 3 with fail
 have HCP := hide (copyRw (HX.out.ok HL2.out) HX.out.b0 HX.out.b1 HX.out.b2)
 have HCS : Hid ((g.cs p).toArray = #[.slice g.ca p.nc g.cc, .slice g.sa p.ns g.sc, .int .i64 (p.en 0), .int .i64 (p.en 1), .int .i64 (p.en 2), .int .i64 (p.en 3), .int .i64 (p.en 4), .int .i64 (p.en 5), .slice g.ia p.n g.ic]) := rfl
 rw [HCS.out] at HCP
 have y0 := block_cell HL2.out.bx 0
 have y1 := block_cell HL2.out.bx 1
 have y2 := block_cell HL2.out.bx 2
 have y3 := block_cell HL2.out.bx 3
 have y4 := block_cell HL2.out.bx 4
 have y5 := block_cell HL2.out.bx 5
 have y6 := block_cell HL2.out.bx 6
 have y7 := block_cell HL2.out.bx 7
 have y8 := block_cell HL2.out.bx 8
 have yl := block_lt HL2.out.bx
 simp [Pg.cs] at y0 y1 y2 y3 y4 y5 y6 y7 y8
 go_wp2_with fail
 refine HCP.out.mono ?_
 rintro x w3 ⟨g3, rfl, po3, b3⟩
 have HL3 := hide (HL2.out.next b3)
 have HK3 := hide po3.ok
 clear HCP HCS po3 b3 y0 y1 y2 y3 y4 y5 y6 y7 y8 yl
 have HPK := hide (packC HK3.out (HX.out.tab HL3.out) HX.out.C)
 go_wp2_with fail
 refine HPK.out.mono ?_
 intro x w4 hh
 clear HPK HK3 HL2
 cases hv : verF p with
 | error z =>
  obtain ⟨a, y⟩ := z
  rw [hv] at hh
  obtain ⟨gf, rfl, G⟩ := hh
  have HL4 := hide (HL3.out.next G.out)
  have HVV := hide hv
  clear G hv HL3
  go_upto_region 4 with fail
  have HLd : Hid (La W g p w4.drew) := HL4.out.next (Below.refl _ _).drew
  have HCP := hide (copyRw (HX.out.ok HLd.out) HX.out.b0 HX.out.b1 HX.out.b2)
  have HCS : Hid ((g.cs p).toArray = #[.slice g.ca p.nc g.cc, .slice g.sa p.ns g.sc, .int .i64 (p.en 0), .int .i64 (p.en 1), .int .i64 (p.en 2), .int .i64 (p.en 3), .int .i64 (p.en 4), .int .i64 (p.en 5), .slice g.ia p.n g.ic]) := rfl
  rw [HCS.out] at HCP
  go_cut [27] from 21 (fun b V => b = .bool false ∧ Hid (La W g p V) ∧ Hid (Below w4.heap.size w4 V))
  case first =>
   refine wp_region_held_drew (S := La W g p) (by kernel_rfl) HLd.out (fun hH => ?_)
   refine wpAnyH_take (i := 0) (oi := ⟨some 21, .load 27 (.tmp 2), 27, "outright.go:156", #[], none⟩) (v := .agg #[.slice g.ca p.nc g.cc, .slice g.sa p.ns g.sc, .int .i64 (p.en 0), .int .i64 (p.en 1), .int .i64 (p.en 2), .int .i64 (p.en 3), .int .i64 (p.en 4), .int .i64 (p.en 5), .slice g.ia p.n g.ic]) rfl (by kernel_rfl) (by kernel_rfl) (by kernel_rfl) (fun _ _ _ h => h) (Or.inl ⟨by rfl, fun w' hSw => ?_⟩) hH ?_
   ·have y0 := block_cell hSw.bx 0
    have y1 := block_cell hSw.bx 1
    have y2 := block_cell hSw.bx 2
    have y3 := block_cell hSw.bx 3
    have y4 := block_cell hSw.bx 4
    have y5 := block_cell hSw.bx 5
    have y6 := block_cell hSw.bx 6
    have y7 := block_cell hSw.bx 7
    have y8 := block_cell hSw.bx 8
    have yl := block_lt hSw.bx
    simp [Pg.cs] at y0 y1 y2 y3 y4 y5 y6 y7 y8
    go_simp
   simp only [Act.put, lsA, lsB, lsC]
   refine wpAnyH_take (i := 4) (oi := ⟨some 25, .move (.tmp 6), 33, "outright.go:156", #[], none⟩) (v := .iface 74 (.pointer (some ⟨gf, 0, none⟩))) rfl (by kernel_rfl) (by kernel_rfl) (by kernel_rfl) (fun _ _ _ h => h) (Or.inl ⟨by rfl, fun w' hSw => ?_⟩) hH ?_
   ·go_simp
   simp only [Act.put, lsA, lsB, lsC]
   refine wpAnyH_take (i := 5) (oi := ⟨some 26, .binOp .eql 33 (.tmp 25) (.const .nilIface) 33, 4, "outright.go:156", #[⟨4, .data⟩], none⟩) (v := .bool false) rfl (by kernel_rfl) (by kernel_rfl) (by kernel_rfl) (fun _ _ _ h => h) (Or.inl ⟨by rfl, fun w' hSw => ?_⟩) hH ?_
   ·go_simp
   simp only [Act.put, lsA, lsB, lsC]
   refine wpAnyH_ready (rs := [1]) (by kernel_rfl) (by simp) ?_
   refine AllReadyH.cons rfl (fun K hK => ?_) AllReadyH.nil
   go_simp
   go_wp2_with fail
   refine HCP.out.mono ?_
   rintro x w5 ⟨g5, rfl, po5, b5⟩
   have HL5 := hide (HLd.out.next b5)
   have HB5 : Hid (Below w4.heap.size w4 w5) := (Below.refl _ w4).drew.trans b5
   have HV := hide (verifyC po5.ok (HX.out.tab HL5.out))
   rw [HVV.out] at HV
   clear po5 b5
   refine hK.out _ _ HL5.out (fun _ => ?_)
   clear hK K
   refine wpAnyH_ready (rs := [2]) (by kernel_rfl) (by simp) ?_
   refine AllReadyH.cons rfl (fun K hK => ?_) AllReadyH.nil
   go_simp
   go_wp2_with fail
   refine HV.out.mono ?_
   rintro x w6 ⟨gv, rfl, G⟩
   have HL6 := hide (HL5.out.next G.out.2)
   have HB6 : Hid (Below w4.heap.size w4 w6) := HB5.out.trans (Below.mono G.out.2 HB5.out.size)
   refine hK.out _ _ HL6.out (fun _ => ?_)
   clear hK K HV G
   refine wpAnyH_take (i := 3) (oi := ⟨some 24, .binOp .eql 33 (.tmp 23) (.const .nilIface) 33, 4, "outright.go:156", #[⟨2, .data⟩], none⟩) (v := .bool false) rfl (by kernel_rfl) (by kernel_rfl) (by kernel_rfl) (fun _ _ _ h => h) (Or.inl ⟨by rfl, fun w' hSw => ?_⟩) HL6.out ?_
   ·go_simp
   simp only [Act.put, lsA, lsB, lsC]
   refine wpAnyH_take (i := 6) (oi := ⟨some 27, .binOp .neq 4 (.tmp 24) (.tmp 26) 4, 4, "outright.go:156", #[⟨3, .data⟩, ⟨5, .data⟩], none⟩) (v := .bool false) rfl (by kernel_rfl) (by kernel_rfl) (by kernel_rfl) (fun _ _ _ h => h) (Or.inl ⟨by rfl, fun w' hSw => ?_⟩) HL6.out ?_
   ·go_simp
   simp only [Act.put, lsA, lsB, lsC]
   refine wpAnyH_done (by kernel_rfl) ?_ _
   go_wp2
   go_meet
   case rel => exact ⟨rfl, HL6, HB6⟩
  case rest =>
  obtain ⟨rfl, HL6, HB6⟩ := hcut
  clear HCP HCS HLd
  generalize wc = w6 at *
  clear HL4 HVV HB6
  have HU10 := hide (unpackC (HX.out.shows HL6.out) (HX.out.lo HL6.out) (HX.out.errt HL6.out) (HX.out.tab HL6.out))
  go_upto_region 10 with fail
  go_wp2_with fail
  refine HU10.out.mono ?_
  intro x wu hh
  clear HU10
  rcases hh with ⟨gf, rfl, G⟩ | ⟨q, gq, kq, rfl, G⟩
  ·have hz : (.agg zP : Value) = .agg #[.slice none 0 0, .slice none 0 0, .int .i64 0, .int .i64 0, .int .i64 0, .int .i64 0, .int .i64 0, .int .i64 0, .slice none 0 0] := rfl
   rw [hz]
   clear hz
   have HE : Hid (Below W.heap.size W (wu.alloc (.cells #[.slice none 0 0, .slice none 0 0, .int .i64 0, .int .i64 0, .int .i64 0, .int .i64 0, .int .i64 0, .int .i64 0, .slice none 0 0] 27))) := (HL6.out.next G.out.1).next (below_alloc1 wu _) |>.bel
   clear G
   go_wp2
   go_ret
   exact ⟨rfl, HE.out⟩
  ·have HQS : Hid ((gq.cs q).toArray = #[.slice gq.ca q.nc gq.cc, .slice gq.sa q.ns gq.sc, .int .i64 (q.en 0), .int .i64 (q.en 1), .int .i64 (q.en 2), .int .i64 (q.en 3), .int .i64 (q.en 4), .int .i64 (q.en 5), .slice gq.ia q.n gq.ic]) := rfl
   rw [HQS.out]
   obtain ⟨g1, g2, g3, g4, g5⟩ := G.out
   have HLU := hide (HL6.out.next g1)
   have HQ := hide (And.intro g2 (And.intro g3 (And.intro g4 g5)))
   clear G g1 g2 g3 g4 g5
   go_upto_region 11 with fail
   obtain ⟨wv, hwv⟩ : ∃ wv, wu.alloc (.cells #[.slice gq.ca q.nc gq.cc, .slice gq.sa q.ns gq.sc, .int .i64 (q.en 0), .int .i64 (q.en 1), .int .i64 (q.en 2), .int .i64 (q.en 3), .int .i64 (q.en 4), .int .i64 (q.en 5), .slice gq.ia q.n gq.ic] 27) = wv := ⟨_, rfl⟩
   have bv : Below wu.heap.size wu wv := by rw [← hwv]; exact below_alloc1 _ _
   have AV : wv.heap[wu.heap.size]? = some (.cells #[.slice gq.ca q.nc gq.cc, .slice gq.sa q.ns gq.sc, .int .i64 (q.en 0), .int .i64 (q.en 1), .int .i64 (q.en 2), .int .i64 (q.en 3), .int .i64 (q.en 4), .int .i64 (q.en 5), .slice gq.ia q.n gq.ic] 27 (0, 0)) := by rw [← hwv]; exact alloc_atK _ _
   rw [hwv]
   have HLV := hide (HLU.out.next bv)
   have HPV := hide (HQ.out.1.next bv)
   have HAV := hide AV
   obtain ⟨qb, hqb⟩ : ∃ qb, wu.heap.size = qb := ⟨_, rfl⟩
   rw [hqb] at HAV AV ⊢
   clear hwv bv HLU hqb
   go_upto_region 13 with fail
   have HV := hide (verifyC HPV.out.ok (HX.out.tab HLV.out))
   rw [HQ.out.2.2.2, HQS.out] at HV
   have y0 := block_cell AV 0
   have y1 := block_cell AV 1
   have y2 := block_cell AV 2
   have y3 := block_cell AV 3
   have y4 := block_cell AV 4
   have y5 := block_cell AV 5
   have y6 := block_cell AV 6
   have y7 := block_cell AV 7
   have y8 := block_cell AV 8
   have yl := block_lt AV
   simp at y0 y1 y2 y3 y4 y5 y6 y7 y8
   clear AV
   go_wp2_with fail
   refine HV.out.mono ?_
   rintro x wy ⟨rfl, by_⟩
   have HLY := hide (HLV.out.next by_.out)
   have HPY := hide (HPV.out.next by_.out)
   have AY := (by_.out.block _ (block_lt HAV.out)).trans HAV.out
   clear HV y0 y1 y2 y3 y4 y5 y6 y7 y8 yl by_ HLV HPV HAV
   go_upto_region 15 with fail
   have HPK := hide (packC HPY.out.ok (HX.out.tab HLY.out) HQ.out.2.1.C)
   rw [HQ.out.2.2.2, HQS.out] at HPK
   have y0 := block_cell AY 0
   have y1 := block_cell AY 1
   have y2 := block_cell AY 2
   have y3 := block_cell AY 3
   have y4 := block_cell AY 4
   have y5 := block_cell AY 5
   have y6 := block_cell AY 6
   have y7 := block_cell AY 7
   have y8 := block_cell AY 8
   have yl := block_lt AY
   simp at y0 y1 y2 y3 y4 y5 y6 y7 y8
   clear AY
   go_wp2_with fail
   refine HPK.out.mono ?_
   rintro x wz ⟨vz, rfl, G⟩
   obtain ⟨o1, o2⟩ := G.out
   obtain ⟨az, cz, rfl, sh, _⟩ := o1.form
   have HLZ := hide (HLY.out.next o2)
   rw [HQ.out.2.2.1] at sh
   have HSB := hide (sameB_any sh (HX.out.shows HLZ.out))
   rw [HQ.out.2.2.1]
   clear G o1 o2 sh HPK y0 y1 y2 y3 y4 y5 y6 y7 y8 yl HPY HLY
   go_wp2_with fail
   refine HSB.out.mono ?_
   rintro x wx ⟨rfl, r, rfl⟩
   have HE := hide (HLZ.out.next (Go.below_drewN (Below.refl _ wz) r)).bel
   go_wp2
   go_ret
   exact ⟨rfl, HE.out⟩
 | ok k =>
  rw [hv] at hh
  obtain ⟨vp, rfl, G⟩ := hh
  obtain ⟨o1, o2⟩ := G.out
  obtain ⟨af, cf, rfl, shf, _⟩ := o1.form
  have HL4 := hide (HL3.out.next o2)
  have HVV := hide hv
  obtain ⟨nf, hnf⟩ : ∃ nf, (encP p).length = nf := ⟨_, rfl⟩
  rw [hnf] at shf ⊢
  have HSF := hide shf
  clear G o1 o2 shf hv hnf HL3
  go_upto_region 4 with fail
  have HLd : Hid (La W g p w4.drew) := HL4.out.next (Below.refl _ _).drew
  have HCP := hide (copyRw (HX.out.ok HLd.out) HX.out.b0 HX.out.b1 HX.out.b2)
  have HCS : Hid ((g.cs p).toArray = #[.slice g.ca p.nc g.cc, .slice g.sa p.ns g.sc, .int .i64 (p.en 0), .int .i64 (p.en 1), .int .i64 (p.en 2), .int .i64 (p.en 3), .int .i64 (p.en 4), .int .i64 (p.en 5), .slice g.ia p.n g.ic]) := rfl
  rw [HCS.out] at HCP
  go_cut [27] from 21 (fun b V => b = .bool false ∧ Hid (La W g p V) ∧ Hid (Below w4.heap.size w4 V))
  case first =>
   refine wp_region_held_drew (S := La W g p) (by kernel_rfl) HLd.out (fun hH => ?_)
   refine wpAnyH_take (i := 0) (oi := ⟨some 21, .load 27 (.tmp 2), 27, "outright.go:156", #[], none⟩) (v := .agg #[.slice g.ca p.nc g.cc, .slice g.sa p.ns g.sc, .int .i64 (p.en 0), .int .i64 (p.en 1), .int .i64 (p.en 2), .int .i64 (p.en 3), .int .i64 (p.en 4), .int .i64 (p.en 5), .slice g.ia p.n g.ic]) rfl (by kernel_rfl) (by kernel_rfl) (by kernel_rfl) (fun _ _ _ h => h) (Or.inl ⟨by rfl, fun w' hSw => ?_⟩) hH ?_
   ·have y0 := block_cell hSw.bx 0
    have y1 := block_cell hSw.bx 1
    have y2 := block_cell hSw.bx 2
    have y3 := block_cell hSw.bx 3
    have y4 := block_cell hSw.bx 4
    have y5 := block_cell hSw.bx 5
    have y6 := block_cell hSw.bx 6
    have y7 := block_cell hSw.bx 7
    have y8 := block_cell hSw.bx 8
    have yl := block_lt hSw.bx
    simp [Pg.cs] at y0 y1 y2 y3 y4 y5 y6 y7 y8
    go_simp
   simp only [Act.put, lsA, lsB, lsC]
   refine wpAnyH_take (i := 4) (oi := ⟨some 25, .move (.tmp 6), 33, "outright.go:156", #[], none⟩) (v := .nilIface) rfl (by kernel_rfl) (by kernel_rfl) (by kernel_rfl) (fun _ _ _ h => h) (Or.inl ⟨by rfl, fun w' hSw => ?_⟩) hH ?_
   ·go_simp
   simp only [Act.put, lsA, lsB, lsC]
   refine wpAnyH_take (i := 5) (oi := ⟨some 26, .binOp .eql 33 (.tmp 25) (.const .nilIface) 33, 4, "outright.go:156", #[⟨4, .data⟩], none⟩) (v := .bool true) rfl (by kernel_rfl) (by kernel_rfl) (by kernel_rfl) (fun _ _ _ h => h) (Or.inl ⟨by rfl, fun w' hSw => ?_⟩) hH ?_
   ·go_simp
   simp only [Act.put, lsA, lsB, lsC]
   refine wpAnyH_ready (rs := [1]) (by kernel_rfl) (by simp) ?_
   refine AllReadyH.cons rfl (fun K hK => ?_) AllReadyH.nil
   go_simp
   go_wp2_with fail
   refine HCP.out.mono ?_
   rintro x w5 ⟨g5, rfl, po5, b5⟩
   have HL5 := hide (HLd.out.next b5)
   have HB5 : Hid (Below w4.heap.size w4 w5) := (Below.refl _ w4).drew.trans b5
   have HV := hide (verifyC po5.ok (HX.out.tab HL5.out))
   rw [HVV.out] at HV
   clear po5 b5
   refine hK.out _ _ HL5.out (fun _ => ?_)
   clear hK K
   refine wpAnyH_ready (rs := [2]) (by kernel_rfl) (by simp) ?_
   refine AllReadyH.cons rfl (fun K hK => ?_) AllReadyH.nil
   go_simp
   go_wp2_with fail
   refine HV.out.mono ?_
   rintro x w6 ⟨rfl, G⟩
   have HL6 := hide (HL5.out.next G.out)
   have HB6 : Hid (Below w4.heap.size w4 w6) := HB5.out.trans (Below.mono G.out HB5.out.size)
   refine hK.out _ _ HL6.out (fun _ => ?_)
   clear hK K HV G
   refine wpAnyH_take (i := 3) (oi := ⟨some 24, .binOp .eql 33 (.tmp 23) (.const .nilIface) 33, 4, "outright.go:156", #[⟨2, .data⟩], none⟩) (v := .bool true) rfl (by kernel_rfl) (by kernel_rfl) (by kernel_rfl) (fun _ _ _ h => h) (Or.inl ⟨by rfl, fun w' hSw => ?_⟩) HL6.out ?_
   ·go_simp
   simp only [Act.put, lsA, lsB, lsC]
   refine wpAnyH_take (i := 6) (oi := ⟨some 27, .binOp .neq 4 (.tmp 24) (.tmp 26) 4, 4, "outright.go:156", #[⟨3, .data⟩, ⟨5, .data⟩], none⟩) (v := .bool false) rfl (by kernel_rfl) (by kernel_rfl) (by kernel_rfl) (fun _ _ _ h => h) (Or.inl ⟨by rfl, fun w' hSw => ?_⟩) HL6.out ?_
   ·go_simp
   simp only [Act.put, lsA, lsB, lsC]
   refine wpAnyH_done (by kernel_rfl) ?_ _
   go_wp2
   go_meet
   case rel => exact ⟨rfl, HL6, HB6⟩
  case rest =>
  obtain ⟨rfl, HL6, HB6⟩ := hcut
  clear HCP HCS HLd
  have HKW : Hid (Pkw p) := Pkw.of (ver_wf HVV.out) HX.out.C
  generalize wc = w6 at *
  have hb46 := HB6.out
  have HSF6 := hide (HSF.out.kept (row := none) (grown_belowU hb46) (fun g e => by cases e))
  have HUF := hide (unpackC HSF6.out hb46.size (HX.out.errt HL6.out) (HX.out.tab HL6.out))
  clear hb46 HSF HL4 HB6
  go_upto_region 7 with fail
  go_wp2_with fail
  refine HUF.out.mono ?_
  intro x w7 hh
  clear HUF
  rcases hh with ⟨gf, rfl, G⟩ | ⟨q, gq, kq, rfl, G⟩
  ·exact absurd rfl (G.out.2 p k HKW.out HVV.out)
  ·obtain ⟨g1, g2, g3, g4, g5⟩ := G.out
   obtain ⟨po, hcq⟩ := po_to g2 (enc_inj HKW.out g3 g4.symm)
   rw [← hcq]
   have HQS : Hid ((gq.cs p).toArray = #[.slice gq.ca p.nc gq.cc, .slice gq.sa p.ns gq.sc, .int .i64 (p.en 0), .int .i64 (p.en 1), .int .i64 (p.en 2), .int .i64 (p.en 3), .int .i64 (p.en 4), .int .i64 (p.en 5), .slice gq.ia p.n gq.ic]) := rfl
   rw [HQS.out]
   have HL7 := hide (HL6.out.next g1)
   have HPO := hide po
   clear G g1 g2 g3 g4 g5 po hcq kq q
   go_upto_region 8 with fail
   obtain ⟨w8, hw8⟩ : ∃ w8, w7.alloc (.cells #[.slice gq.ca p.nc gq.cc, .slice gq.sa p.ns gq.sc, .int .i64 (p.en 0), .int .i64 (p.en 1), .int .i64 (p.en 2), .int .i64 (p.en 3), .int .i64 (p.en 4), .int .i64 (p.en 5), .slice gq.ia p.n gq.ic] 27) = w8 := ⟨_, rfl⟩
   have b8 : Below w7.heap.size w7 w8 := by rw [← hw8]; exact below_alloc1 _ _
   have A8 : w8.heap[w7.heap.size]? = some (.cells #[.slice gq.ca p.nc gq.cc, .slice gq.sa p.ns gq.sc, .int .i64 (p.en 0), .int .i64 (p.en 1), .int .i64 (p.en 2), .int .i64 (p.en 3), .int .i64 (p.en 4), .int .i64 (p.en 5), .slice gq.ia p.n gq.ic] 27 (0, 0)) := by rw [← hw8]; exact alloc_atK _ _
   rw [hw8]
   have HL8 := hide (HL7.out.next b8)
   have HSM := hide (sameT (HPO.out.next b8).ok (HX.out.ok HL8.out))
   have HCS : Hid ((g.cs p).toArray = #[.slice g.ca p.nc g.cc, .slice g.sa p.ns g.sc, .int .i64 (p.en 0), .int .i64 (p.en 1), .int .i64 (p.en 2), .int .i64 (p.en 3), .int .i64 (p.en 4), .int .i64 (p.en 5), .slice g.ia p.n g.ic]) := rfl
   rw [HQS.out, HCS.out] at HSM
   clear hw8 b8 HL7 HPO
   have x0 := block_cell A8 0
   have x1 := block_cell A8 1
   have x2 := block_cell A8 2
   have x3 := block_cell A8 3
   have x4 := block_cell A8 4
   have x5 := block_cell A8 5
   have x6 := block_cell A8 6
   have x7 := block_cell A8 7
   have x8 := block_cell A8 8
   have xl := block_lt A8
   have y0 := block_cell HL8.out.bx 0
   have y1 := block_cell HL8.out.bx 1
   have y2 := block_cell HL8.out.bx 2
   have y3 := block_cell HL8.out.bx 3
   have y4 := block_cell HL8.out.bx 4
   have y5 := block_cell HL8.out.bx 5
   have y6 := block_cell HL8.out.bx 6
   have y7 := block_cell HL8.out.bx 7
   have y8 := block_cell HL8.out.bx 8
   have yl := block_lt HL8.out.bx
   simp [Pg.cs] at x0 x1 x2 x3 x4 x5 x6 x7 x8 y0 y1 y2 y3 y4 y5 y6 y7 y8
   clear A8
   go_wp2_with fail
   refine HSM.out.mono ?_
   rintro x w9 ⟨rfl, G⟩
   have HL9 := hide (HL8.out.next G.out)
   clear G HSM HQS HCS HL8 x0 x1 x2 x3 x4 x5 x6 x7 x8 xl y0 y1 y2 y3 y4 y5 y6 y7 y8 yl HSF6 HL6 HKW
   have HU10 := hide (unpackC (HX.out.shows HL9.out) (HX.out.lo HL9.out) (HX.out.errt HL9.out) (HX.out.tab HL9.out))
   go_upto_region 10 with fail
   go_wp2_with fail
   refine HU10.out.mono ?_
   intro x wu hh
   clear HU10
   rcases hh with ⟨gf, rfl, G⟩ | ⟨q, gq, kq, rfl, G⟩
   ·have hz : (.agg zP : Value) = .agg #[.slice none 0 0, .slice none 0 0, .int .i64 0, .int .i64 0, .int .i64 0, .int .i64 0, .int .i64 0, .int .i64 0, .slice none 0 0] := rfl
    rw [hz]
    clear hz
    have HE : Hid (Below W.heap.size W (wu.alloc (.cells #[.slice none 0 0, .slice none 0 0, .int .i64 0, .int .i64 0, .int .i64 0, .int .i64 0, .int .i64 0, .int .i64 0, .slice none 0 0] 27))) := (HL9.out.next G.out.1).next (below_alloc1 wu _) |>.bel
    clear G
    go_wp2
    go_ret
    exact ⟨rfl, HE.out⟩
   ·have HQS : Hid ((gq.cs q).toArray = #[.slice gq.ca q.nc gq.cc, .slice gq.sa q.ns gq.sc, .int .i64 (q.en 0), .int .i64 (q.en 1), .int .i64 (q.en 2), .int .i64 (q.en 3), .int .i64 (q.en 4), .int .i64 (q.en 5), .slice gq.ia q.n gq.ic]) := rfl
    rw [HQS.out]
    obtain ⟨g1, g2, g3, g4, g5⟩ := G.out
    have HLU := hide (HL9.out.next g1)
    have HQ := hide (And.intro g2 (And.intro g3 (And.intro g4 g5)))
    clear G g1 g2 g3 g4 g5
    go_upto_region 11 with fail
    obtain ⟨wv, hwv⟩ : ∃ wv, wu.alloc (.cells #[.slice gq.ca q.nc gq.cc, .slice gq.sa q.ns gq.sc, .int .i64 (q.en 0), .int .i64 (q.en 1), .int .i64 (q.en 2), .int .i64 (q.en 3), .int .i64 (q.en 4), .int .i64 (q.en 5), .slice gq.ia q.n gq.ic] 27) = wv := ⟨_, rfl⟩
    have bv : Below wu.heap.size wu wv := by rw [← hwv]; exact below_alloc1 _ _
    have AV : wv.heap[wu.heap.size]? = some (.cells #[.slice gq.ca q.nc gq.cc, .slice gq.sa q.ns gq.sc, .int .i64 (q.en 0), .int .i64 (q.en 1), .int .i64 (q.en 2), .int .i64 (q.en 3), .int .i64 (q.en 4), .int .i64 (q.en 5), .slice gq.ia q.n gq.ic] 27 (0, 0)) := by rw [← hwv]; exact alloc_atK _ _
    rw [hwv]
    have HLV := hide (HLU.out.next bv)
    have HPV := hide (HQ.out.1.next bv)
    have HAV := hide AV
    obtain ⟨qb, hqb⟩ : ∃ qb, wu.heap.size = qb := ⟨_, rfl⟩
    rw [hqb] at HAV AV ⊢
    clear hwv bv HLU hqb
    go_upto_region 13 with fail
    have HV := hide (verifyC HPV.out.ok (HX.out.tab HLV.out))
    rw [HQ.out.2.2.2, HQS.out] at HV
    have y0 := block_cell AV 0
    have y1 := block_cell AV 1
    have y2 := block_cell AV 2
    have y3 := block_cell AV 3
    have y4 := block_cell AV 4
    have y5 := block_cell AV 5
    have y6 := block_cell AV 6
    have y7 := block_cell AV 7
    have y8 := block_cell AV 8
    have yl := block_lt AV
    simp at y0 y1 y2 y3 y4 y5 y6 y7 y8
    clear AV
    go_wp2_with fail
    refine HV.out.mono ?_
    rintro x wy ⟨rfl, by_⟩
    have HLY := hide (HLV.out.next by_.out)
    have HPY := hide (HPV.out.next by_.out)
    have AY := (by_.out.block _ (block_lt HAV.out)).trans HAV.out
    clear HV y0 y1 y2 y3 y4 y5 y6 y7 y8 yl by_ HLV HPV HAV
    go_upto_region 15 with fail
    have HPK := hide (packC HPY.out.ok (HX.out.tab HLY.out) HQ.out.2.1.C)
    rw [HQ.out.2.2.2, HQS.out] at HPK
    have y0 := block_cell AY 0
    have y1 := block_cell AY 1
    have y2 := block_cell AY 2
    have y3 := block_cell AY 3
    have y4 := block_cell AY 4
    have y5 := block_cell AY 5
    have y6 := block_cell AY 6
    have y7 := block_cell AY 7
    have y8 := block_cell AY 8
    have yl := block_lt AY
    simp at y0 y1 y2 y3 y4 y5 y6 y7 y8
    clear AY
    go_wp2_with fail
    refine HPK.out.mono ?_
    rintro x wz ⟨vz, rfl, G⟩
    obtain ⟨o1, o2⟩ := G.out
    obtain ⟨az, cz, rfl, sh, _⟩ := o1.form
    have HLZ := hide (HLY.out.next o2)
    rw [HQ.out.2.2.1] at sh
    have HSB := hide (sameB_any sh (HX.out.shows HLZ.out))
    rw [HQ.out.2.2.1]
    clear G o1 o2 sh HPK y0 y1 y2 y3 y4 y5 y6 y7 y8 yl HPY HLY
    go_wp2_with fail
    refine HSB.out.mono ?_
    rintro x wx ⟨rfl, r, rfl⟩
    have HE := hide (HLZ.out.next (Go.below_drewN (Below.refl _ wz) r)).bel
    go_wp2
    go_ret
    exact ⟨rfl, HE.out⟩
end Go.Proofs.YtggpaljilpbmhaaGreatDoor
