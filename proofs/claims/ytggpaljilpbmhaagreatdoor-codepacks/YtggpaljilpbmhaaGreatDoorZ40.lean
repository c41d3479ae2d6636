import Derived.Test.YtggpaljilpbmhaaGreatDoorZ32
import Derived.Test.YtggpaljilpbmhaaGreatDoorZ24
namespace Go.Proofs.YtggpaljilpbmhaaGreatDoor
open Go.RowKit

theorem Lb.cells {W : World} {g : Pg} {p : Pv} {rb : Nat} {w : World} (h : Lb W g p rb w) : w.cell? ⟨W.heap.size, 0, none⟩ = some (.slice g.ca p.nc g.cc) ∧ w.cell? ⟨W.heap.size, 1, none⟩ = some (.slice g.sa p.ns g.sc) ∧ w.cell? ⟨W.heap.size, 2, none⟩ = some (.int .i64 (p.en 0)) ∧ w.cell? ⟨W.heap.size, 3, none⟩ = some (.int .i64 (p.en 1)) ∧ w.cell? ⟨W.heap.size, 4, none⟩ = some (.int .i64 (p.en 2)) ∧ w.cell? ⟨W.heap.size, 5, none⟩ = some (.int .i64 (p.en 3)) ∧ w.cell? ⟨W.heap.size, 6, none⟩ = some (.int .i64 (p.en 4)) ∧ w.cell? ⟨W.heap.size, 7, none⟩ = some (.int .i64 (p.en 5)) ∧ w.cell? ⟨W.heap.size, 8, none⟩ = some (.slice g.ia p.n g.ic) ∧ W.heap.size < w.heap.size :=
 ⟨block_cell h.prg 0, block_cell h.prg 1, block_cell h.prg 2, block_cell h.prg 3, block_cell h.prg 4, block_cell h.prg 5, block_cell h.prg 6, block_cell h.prg 7, block_cell h.prg 8, block_lt h.prg⟩
theorem lb_new {W W2 : World} {g : Pg} {p : Pv} (hW : (W.alloc (.cells (g.cs p).toArray 27)).alloc (.cells #[.slice none 0 0, .slice none 0 0, .int .i64 0, .int .i64 0, .int .i64 0, .int .i64 0, .int .i64 0, .int .i64 0, .slice none 0 0] 27) = W2) : Lb W g p (W.heap.size + 1) W2 := by
 have e1 : (W.alloc (.cells (g.cs p).toArray 27)).heap.size = W.heap.size + 1 := by simp
 refine ⟨?_, ?_, ?_⟩
 ·rw [← hW]
  exact ((below_alloc1 _ _).block _ (by rw [e1]; omega)).trans (alloc_atK _ _)
 ·rw [← hW, ← e1]
  exact alloc_atK _ _
 ·rw [← hW]; exact (below_alloc1 W _).alloc (by simp) _
theorem cell_two_new (w : World) (x y : Value) (t : TypeId) : ∀ j u, [x, y][j]? = some u → (w.alloc (.cells #[x, y] t)).cell? ((⟨w.heap.size, 0, none⟩ : Addr).add j) = some u := by
 intro j u hj
 have e : (⟨w.heap.size, 0, none⟩ : Addr).add j = ⟨w.heap.size, j, none⟩ := by
  rcases j with _ | j <;> simp [Addr.add]
 rw [← hj, e]
 exact (World.cell?_alloc_new w #[x, y] t j).trans (by simp)
theorem Tryz.infoU : (Tryz.prog.info? 28).map (fun i => (i.zero, i.size, i.bytes)) = some (some (.int .u64 0), 1, 8) := by kernel_rfl
theorem Tryz.infoN : (Tryz.prog.info? 42).map (fun i => (i.zero, i.size, i.bytes)) = some (some (.agg #[.int .i64 0, .int .i64 0]), 2, 16) := by kernel_rfl
def Lno (W : World) (p : Pv) (e : Ending) (w' : World) : Prop := ∃ g' : Pg, e = .returned (.agg (g'.cs p).toArray) ∧ Hid (g'.Ok p w'.heap.size w' ∧ Sp g' p w'.heap.size w' ∧ Below W.heap.size W w' ∧ Lo W.heap.size g' p w')
set_option maxRecDepth 10000 in
set_option maxHeartbeats 51200000 in
theorem lendO {W : World} {g : Pg} {p : Pv} (h : g.Ok p W.heap.size W) (b0 : p.nc * 8 ≤ 140737488351232) (b1 : p.ns * 8 ≤ 140737488351232) (b2 : p.n * 16 ≤ 140737488351232) : Calls Tryz.prog 14 #[.agg (g.cs p).toArray] W (Lno W p) := by
 obtain ⟨iU, hU, hU0, hU1, hU2⟩ := info_parts Tryz.infoU
 obtain ⟨iI, hI, hI0, hI1, hI2⟩ := info_parts Tryz.infoI
 obtain ⟨iN, hN, hN0, hN1, hN2⟩ := info_parts Tryz.infoN
 obtain ⟨W2, hW2⟩ : ∃ W2, (W.alloc (.cells (g.cs p).toArray 27)).alloc (.cells #[.slice none 0 0, .slice none 0 0, .int .i64 0, .int .i64 0, .int .i64 0, .int .i64 0, .int .i64 0, .int .i64 0, .slice none 0 0] 27) = W2 := ⟨_, rfl⟩
 have HB := hide (lb_new hW2)
 have HL0 := hide (HB.out.next (w' := W2.drew) (Below.refl _ _).drew)
 have HW2 := hide hW2
 have HOK := hide h
 have HCS : Hid (g.cs p = [.slice g.ca p.nc g.cc, .slice g.sa p.ns g.sc, .int .i64 (p.en 0), .int .i64 (p.en 1), .int .i64 (p.en 2), .int .i64 (p.en 3), .int .i64 (p.en 4), .int .i64 (p.en 5), .slice g.ia p.n g.ic]) := rfl
 rw [HCS.out] at HW2 ⊢
 clear h hW2
 go_enter Tryz.func14, Tryz.ntmps14
 go_upto_region 1 with fail
 rw [HW2.out]
 clear HW2
 go_cut [3] from 7 (fun v3 V => ∃ cb va vb vc, v3 = .pointer (some ⟨cb, 0, none⟩) ∧ Hid (Ld W g p (W.heap.size + 1) cb va vb vc 0 0 0 [] [] [] V))
 case first =>
  refine wp_region_held_drew (S := fun w => Lb W g p (W.heap.size + 1) w) (by kernel_rfl) HL0.out (fun hH => ?_)
  refine wpAnyH_take (i := 0) (oi := ⟨some 7, .fieldAddr 27 (.tmp 1) 2, 0, "exact.go:74", #[], none⟩) (v := .pointer (some ⟨W.heap.size, 2, none⟩)) rfl (by kernel_rfl) (by kernel_rfl) (by kernel_rfl) (fun _ _ _ h => h) (Or.inl ⟨by rfl, fun w' hSw => ?_⟩) hH ?_
  ·go_simp
  simp only [Act.put, lsA, lsB, lsC]
  refine wpAnyH_take (i := 1) (oi := ⟨some 8, .load 24 (.tmp 7), 24, "exact.go:74", #[⟨0, .data⟩], none⟩) (v := .agg #[.int .i64 (p.en 0), .int .i64 (p.en 1), .int .i64 (p.en 2), .int .i64 (p.en 3), .int .i64 (p.en 4), .int .i64 (p.en 5)]) rfl (by kernel_rfl) (by kernel_rfl) (by kernel_rfl) (fun _ _ _ h => h) (Or.inl ⟨by rfl, fun w' hSw => ?_⟩) hH ?_
  ·obtain ⟨y0, y1, y2, y3, y4, y5, y6, y7, y8, yl⟩ := hSw.cells
   go_simp
  simp only [Act.put, lsA, lsB, lsC]
  refine wpAnyH_take (i := 2) (oi := ⟨some 9, .fieldAddr 27 (.tmp 1) 0, 0, "exact.go:74", #[], none⟩) (v := .pointer (some ⟨W.heap.size, 0, none⟩)) rfl (by kernel_rfl) (by kernel_rfl) (by kernel_rfl) (fun _ _ _ h => h) (Or.inl ⟨by rfl, fun w' hSw => ?_⟩) hH ?_
  ·go_simp
  simp only [Act.put, lsA, lsB, lsC]
  refine wpAnyH_take (i := 3) (oi := ⟨some 10, .load 22 (.tmp 9), 22, "exact.go:74", #[⟨2, .data⟩], none⟩) (v := .slice g.ca p.nc g.cc) rfl (by kernel_rfl) (by kernel_rfl) (by kernel_rfl) (fun _ _ _ h => h) (Or.inl ⟨by rfl, fun w' hSw => ?_⟩) hH ?_
  ·obtain ⟨y0, y1, y2, y3, y4, y5, y6, y7, y8, yl⟩ := hSw.cells
   go_simp
  simp only [Act.put, lsA, lsB, lsC]
  refine wpAnyH_take (i := 4) (oi := ⟨some 11, .call { callee := Callee.builtin .len, args := #[.tmp 10], argTypes := #[22] }, 3, "exact.go:74", #[⟨3, .data⟩], none⟩) (v := .int .i64 (p.nc : Nat)) rfl (by kernel_rfl) (by kernel_rfl) (by kernel_rfl) (fun _ _ _ h => h) (Or.inl ⟨by rfl, fun w' hSw => ?_⟩) hH ?_
  ·go_simp
  simp only [Act.put, lsA, lsB, lsC]
  refine wpAnyH_take (i := 5) (oi := ⟨some 12, .binOp .add 3 (.tmp 11) (.const (.int .i64 1)) 3, 3, "exact.go:74", #[⟨4, .data⟩], none⟩) (v := .int .i64 ((p.nc : Int) + 1)) rfl (by kernel_rfl) (by kernel_rfl) (by kernel_rfl) (fun _ _ _ h => h) (Or.inl ⟨by rfl, fun w' hSw => ?_⟩) hH ?_
  ·go_simp
   rw [IntKind.wrap_i64]
   omega
  simp only [Act.put, lsA, lsB, lsC]
  refine wpAnyH_take (i := 7) (oi := ⟨some 14, .fieldAddr 27 (.tmp 1) 1, 0, "exact.go:74", #[], none⟩) (v := .pointer (some ⟨W.heap.size, 1, none⟩)) rfl (by kernel_rfl) (by kernel_rfl) (by kernel_rfl) (fun _ _ _ h => h) (Or.inl ⟨by rfl, fun w' hSw => ?_⟩) hH ?_
  ·go_simp
  simp only [Act.put, lsA, lsB, lsC]
  refine wpAnyH_take (i := 8) (oi := ⟨some 15, .load 23 (.tmp 14), 23, "exact.go:74", #[⟨7, .data⟩], none⟩) (v := .slice g.sa p.ns g.sc) rfl (by kernel_rfl) (by kernel_rfl) (by kernel_rfl) (fun _ _ _ h => h) (Or.inl ⟨by rfl, fun w' hSw => ?_⟩) hH ?_
  ·obtain ⟨y0, y1, y2, y3, y4, y5, y6, y7, y8, yl⟩ := hSw.cells
   go_simp
  simp only [Act.put, lsA, lsB, lsC]
  refine wpAnyH_take (i := 9) (oi := ⟨some 16, .call { callee := Callee.builtin .len, args := #[.tmp 15], argTypes := #[23] }, 3, "exact.go:74", #[⟨8, .data⟩], none⟩) (v := .int .i64 (p.ns : Nat)) rfl (by kernel_rfl) (by kernel_rfl) (by kernel_rfl) (fun _ _ _ h => h) (Or.inl ⟨by rfl, fun w' hSw => ?_⟩) hH ?_
  ·go_simp
  simp only [Act.put, lsA, lsB, lsC]
  refine wpAnyH_take (i := 10) (oi := ⟨some 17, .binOp .add 3 (.tmp 16) (.const (.int .i64 1)) 3, 3, "exact.go:74", #[⟨9, .data⟩], none⟩) (v := .int .i64 ((p.ns : Int) + 1)) rfl (by kernel_rfl) (by kernel_rfl) (by kernel_rfl) (fun _ _ _ h => h) (Or.inl ⟨by rfl, fun w' hSw => ?_⟩) hH ?_
  ·go_simp
   rw [IntKind.wrap_i64]
   omega
  simp only [Act.put, lsA, lsB, lsC]
  refine wpAnyH_take (i := 12) (oi := ⟨some 19, .fieldAddr 27 (.tmp 1) 3, 0, "exact.go:74", #[], none⟩) (v := .pointer (some ⟨W.heap.size, 8, none⟩)) rfl (by kernel_rfl) (by kernel_rfl) (by kernel_rfl) (fun _ _ _ h => h) (Or.inl ⟨by rfl, fun w' hSw => ?_⟩) hH ?_
  ·go_simp
  simp only [Act.put, lsA, lsB, lsC]
  refine wpAnyH_take (i := 13) (oi := ⟨some 20, .load 25 (.tmp 19), 25, "exact.go:74", #[⟨12, .data⟩], none⟩) (v := .slice g.ia p.n g.ic) rfl (by kernel_rfl) (by kernel_rfl) (by kernel_rfl) (fun _ _ _ h => h) (Or.inl ⟨by rfl, fun w' hSw => ?_⟩) hH ?_
  ·obtain ⟨y0, y1, y2, y3, y4, y5, y6, y7, y8, yl⟩ := hSw.cells
   go_simp
  simp only [Act.put, lsA, lsB, lsC]
  refine wpAnyH_take (i := 14) (oi := ⟨some 21, .call { callee := Callee.builtin .len, args := #[.tmp 20], argTypes := #[25] }, 3, "exact.go:74", #[⟨13, .data⟩], none⟩) (v := .int .i64 (p.n : Nat)) rfl (by kernel_rfl) (by kernel_rfl) (by kernel_rfl) (fun _ _ _ h => h) (Or.inl ⟨by rfl, fun w' hSw => ?_⟩) hH ?_
  ·go_simp
  simp only [Act.put, lsA, lsB, lsC]
  refine wpAnyH_take (i := 15) (oi := ⟨some 22, .binOp .add 3 (.tmp 21) (.const (.int .i64 1)) 3, 3, "exact.go:74", #[⟨14, .data⟩], none⟩) (v := .int .i64 ((p.n : Int) + 1)) rfl (by kernel_rfl) (by kernel_rfl) (by kernel_rfl) (fun _ _ _ h => h) (Or.inl ⟨by rfl, fun w' hSw => ?_⟩) hH ?_
  ·go_simp
   rw [IntKind.wrap_i64]
   omega
  simp only [Act.put, lsA, lsB, lsC]
  refine wpAnyH_ready (rs := [6, 11, 16, 18]) (by kernel_rfl) (by simp) ?_
  refine AllReadyH.cons rfl (fun K hK => ?_) (AllReadyH.cons rfl (fun K hK => ?_) (AllReadyH.cons rfl (fun K hK => ?_) (AllReadyH.cons rfl (fun K hK => ?_) AllReadyH.nil)))
  ·obtain ⟨w1, rm, om, gm⟩ := run_make_own (P := Tryz.prog) W2.drew W.heap.size 22 28 iU (.int .u64 0) 1 Tryz.underlying22 hU hU0 hU1 .i64 .i64 (p.nc + 1) (by rw [hU2]; omega) (by unfold maxLen; omega) HL0.out.bel.size
   rw [show ((p.nc + 1 : Nat) : Int) = (p.nc : Int) + 1 by omega] at rm
   have HB1 : Hid (Below W2.drew.heap.size W2.drew w1) := below_none9 gm
   have HO1 := hide om
   clear om gm
   go_simp
   go_wp2_with fail
   clear rm
   have HL1 := hide (HL0.out.next HB1.out)
   refine hK.out _ _ HL1.out (fun _ => ?_)
   clear hK K
   refine wpAnyH_ready (rs := [11, 16, 18]) (by kernel_rfl) (by simp) ?_
   refine AllReadyH.cons rfl (fun K hK => ?_) (AllReadyH.cons rfl (fun K hK => ?_) (AllReadyH.cons rfl (fun K hK => ?_) AllReadyH.nil))
   ·obtain ⟨w2, rm, om, gm⟩ := run_make_own (P := Tryz.prog) w1 W.heap.size 23 3 iI (.int .i64 0) 1 Tryz.underlying23 hI hI0 hI1 .i64 .i64 (p.ns + 1) (by rw [hI2]; omega) (by unfold maxLen; omega) HL1.out.bel.size
    rw [show ((p.ns + 1 : Nat) : Int) = (p.ns : Int) + 1 by omega] at rm
    have HB2 : Hid (Below w1.heap.size w1 w2) := below_none9 gm
    have HO2 := hide om
    clear om gm
    go_simp
    go_wp2_with fail
    clear rm
    have HL2 := hide (HL1.out.next HB2.out)
    refine hK.out _ _ HL2.out (fun _ => ?_)
    clear hK K
    refine wpAnyH_ready (rs := [16, 18]) (by kernel_rfl) (by simp) ?_
    refine AllReadyH.cons rfl (fun K hK => ?_) (AllReadyH.cons rfl (fun K hK => ?_) AllReadyH.nil)
    ·obtain ⟨w3, rm, om, gm⟩ := run_make_own (P := Tryz.prog) w2 W.heap.size 25 42 iN (.agg #[.int .i64 0, .int .i64 0]) 2 Tryz.underlying25 hN hN0 hN1 .i64 .i64 (p.n + 1) (by rw [hN2]; omega) (by unfold maxLen; omega) HL2.out.bel.size
     rw [show ((p.n + 1 : Nat) : Int) = (p.n : Int) + 1 by omega] at rm
     have HB3 : Hid (Below w2.heap.size w2 w3) := below_none9 gm
     have HO3 := hide om
     clear om gm
     go_simp
     go_wp2_with fail
     clear rm
     have HL3 := hide (HL2.out.next HB3.out)
     refine hK.out _ _ HL3.out (fun _ => ?_)
     clear hK K
     refine wpAnyH_take (i := 17) (oi := ⟨some 24, .build 27 #[(2, .tmp 8), (0, .tmp 13), (1, .tmp 18), (3, .tmp 23)], 27, "exact.go:74", #[⟨1, .data⟩, ⟨6, .data⟩, ⟨11, .data⟩, ⟨16, .data⟩], none⟩) (v := .agg #[(.slice (some ⟨W2.heap.size, 0, none⟩) 0 (p.nc + 1)), (.slice (some ⟨w1.heap.size, 0, none⟩) 0 (p.ns + 1)), .int .i64 (p.en 0), .int .i64 (p.en 1), .int .i64 (p.en 2), .int .i64 (p.en 3), .int .i64 (p.en 4), .int .i64 (p.en 5), (.slice (some ⟨w2.heap.size, 0, none⟩) 0 (p.n + 1))]) rfl (by kernel_rfl) (by kernel_rfl) (by kernel_rfl) (fun _ _ _ h => h) (Or.inl ⟨by rfl, fun w' hSw => ?_⟩) HL3.out ?_
     ·go_simp
     simp only [Act.put, lsA, lsB, lsC]
     refine wpAnyH_ready (rs := [18]) (by kernel_rfl) (by simp) ?_
     refine AllReadyH.cons rfl (fun K hK => ?_) AllReadyH.nil
     ·go_simp
      go_wp2_with fail
      obtain ⟨w4, hw⟩ : ∃ w4, w3.alloc (.cells #[.slice none 0 0, .slice none 0 0, .int .i64 0, .int .i64 0, .int .i64 0, .int .i64 0, .int .i64 0, .int .i64 0, .slice none 0 0] 27) = w4 := ⟨_, rfl⟩
      have HB4 : Hid (Below w3.heap.size w3 w4) := by rw [← hw]; exact below_alloc1 _ _
      have HA4 : Hid (w4.heap[w3.heap.size]? = some (.cells #[.slice none 0 0, .slice none 0 0, .int .i64 0, .int .i64 0, .int .i64 0, .int .i64 0, .int .i64 0, .int .i64 0, .slice none 0 0] 27 (0, 0))) := by rw [← hw]; exact alloc_atK _ _
      rw [hw]
      clear hw
      have HL4 := hide (HL3.out.next HB4.out)
      refine hK.out _ _ HL4.out (fun _ => ?_)
      clear hK K
      have HX : Hid (w4.heap[w3.heap.size]? = some (.cells #[.slice none 0 0, .slice none 0 0, .int .i64 0, .int .i64 0, .int .i64 0, .int .i64 0, .int .i64 0, .int .i64 0, .slice none 0 0] 27 (0, 0))) := HA4.out
      have HF := hide (ld_fill (cb := w3.heap.size) HL4.out HX.out (row_quietT (row_quietT (row_quietT HO1.out (grown_of_below HB2.out none)) (grown_of_below HB3.out none)) (grown_of_below HB4.out none)) (row_quietT (row_quietT HO2.out (grown_of_below HB3.out none)) (grown_of_below HB4.out none)) (row_quietT HO3.out (grown_of_below HB4.out none)) HL3.out.bel.size (Nat.ne_of_gt (block_lt HL3.out.prg)) (Nat.ne_of_gt (block_lt HL3.out.res)))
      have z0 := block_cell HX.out 0
      have f0 := block_free HX.out 0
      have z1 := block_cell HX.out 1
      have f1 := block_free HX.out 1
      have z2 := block_cell HX.out 2
      have f2 := block_free HX.out 2
      have z3 := block_cell HX.out 3
      have f3 := block_free HX.out 3
      have z4 := block_cell HX.out 4
      have f4 := block_free HX.out 4
      have z5 := block_cell HX.out 5
      have f5 := block_free HX.out 5
      have z6 := block_cell HX.out 6
      have f6 := block_free HX.out 6
      have z7 := block_cell HX.out 7
      have f7 := block_free HX.out 7
      have z8 := block_cell HX.out 8
      have f8 := block_free HX.out 8
      have zl := block_lt HX.out
      simp at z0 z1 z2 z3 z4 z5 z6 z7 z8
      clear HX
      refine wpAnyH_ready (rs := [19]) (by kernel_rfl) (by simp) ?_
      refine AllReadyH.cons rfl (fun K hK => ?_) AllReadyH.nil
      go_simp
      go_wp2_with fail
      refine hK.out _ _ ⟨HF.out.prg, HF.out.res, HF.out.bel⟩ (fun _ => ?_)
      clear hK K
      refine wpAnyH_done (by kernel_rfl) ?_ _
      go_wp2
      go_meet
      case rel => exact ⟨_, _, _, _, rfl, HF.out⟩
    ·go_simp
     go_wp2_with fail
     obtain ⟨w3, hw⟩ : ∃ w3, w2.alloc (.cells #[.slice none 0 0, .slice none 0 0, .int .i64 0, .int .i64 0, .int .i64 0, .int .i64 0, .int .i64 0, .int .i64 0, .slice none 0 0] 27) = w3 := ⟨_, rfl⟩
     have HB3 : Hid (Below w2.heap.size w2 w3) := by rw [← hw]; exact below_alloc1 _ _
     have HA3 : Hid (w3.heap[w2.heap.size]? = some (.cells #[.slice none 0 0, .slice none 0 0, .int .i64 0, .int .i64 0, .int .i64 0, .int .i64 0, .int .i64 0, .int .i64 0, .slice none 0 0] 27 (0, 0))) := by rw [← hw]; exact alloc_atK _ _
     rw [hw]
     clear hw
     have HL3 := hide (HL2.out.next HB3.out)
     refine hK.out _ _ HL3.out (fun _ => ?_)
     clear hK K
     refine wpAnyH_ready (rs := [16]) (by kernel_rfl) (by simp) ?_
     refine AllReadyH.cons rfl (fun K hK => ?_) AllReadyH.nil
     ·obtain ⟨w4, rm, om, gm⟩ := run_make_own (P := Tryz.prog) w3 W.heap.size 25 42 iN (.agg #[.int .i64 0, .int .i64 0]) 2 Tryz.underlying25 hN hN0 hN1 .i64 .i64 (p.n + 1) (by rw [hN2]; omega) (by unfold maxLen; omega) HL3.out.bel.size
      rw [show ((p.n + 1 : Nat) : Int) = (p.n : Int) + 1 by omega] at rm
      have HB4 : Hid (Below w3.heap.size w3 w4) := below_none9 gm
      have HO4 := hide om
      clear om gm
      go_simp
      go_wp2_with fail
      clear rm
      have HL4 := hide (HL3.out.next HB4.out)
      refine hK.out _ _ HL4.out (fun _ => ?_)
      clear hK K
      have HX : Hid (w4.heap[w2.heap.size]? = some (.cells #[.slice none 0 0, .slice none 0 0, .int .i64 0, .int .i64 0, .int .i64 0, .int .i64 0, .int .i64 0, .int .i64 0, .slice none 0 0] 27 (0, 0))) := ((HB4.out.block _ (block_lt HA3.out)).trans HA3.out)
      have HF := hide (ld_fill (cb := w2.heap.size) HL4.out HX.out (row_quietT (row_quietT (row_quietT HO1.out (grown_of_below HB2.out none)) (grown_of_below HB3.out none)) (grown_of_below HB4.out none)) (row_quietT (row_quietT HO2.out (grown_of_below HB3.out none)) (grown_of_below HB4.out none)) HO4.out HL2.out.bel.size (Nat.ne_of_gt (block_lt HL2.out.prg)) (Nat.ne_of_gt (block_lt HL2.out.res)))
      have z0 := block_cell HX.out 0
      have f0 := block_free HX.out 0
      have z1 := block_cell HX.out 1
      have f1 := block_free HX.out 1
      have z2 := block_cell HX.out 2
      have f2 := block_free HX.out 2
      have z3 := block_cell HX.out 3
      have f3 := block_free HX.out 3
      have z4 := block_cell HX.out 4
      have f4 := block_free HX.out 4
      have z5 := block_cell HX.out 5
      have f5 := block_free HX.out 5
      have z6 := block_cell HX.out 6
      have f6 := block_free HX.out 6
      have z7 := block_cell HX.out 7
      have f7 := block_free HX.out 7
      have z8 := block_cell HX.out 8
      have f8 := block_free HX.out 8
      have zl := block_lt HX.out
      simp at z0 z1 z2 z3 z4 z5 z6 z7 z8
      clear HX
      refine wpAnyH_take (i := 17) (oi := ⟨some 24, .build 27 #[(2, .tmp 8), (0, .tmp 13), (1, .tmp 18), (3, .tmp 23)], 27, "exact.go:74", #[⟨1, .data⟩, ⟨6, .data⟩, ⟨11, .data⟩, ⟨16, .data⟩], none⟩) (v := .agg #[(.slice (some ⟨W2.heap.size, 0, none⟩) 0 (p.nc + 1)), (.slice (some ⟨w1.heap.size, 0, none⟩) 0 (p.ns + 1)), .int .i64 (p.en 0), .int .i64 (p.en 1), .int .i64 (p.en 2), .int .i64 (p.en 3), .int .i64 (p.en 4), .int .i64 (p.en 5), (.slice (some ⟨w3.heap.size, 0, none⟩) 0 (p.n + 1))]) rfl (by kernel_rfl) (by kernel_rfl) (by kernel_rfl) (fun _ _ _ h => h) (Or.inl ⟨by rfl, fun w' hSw => ?_⟩) HL4.out ?_
      ·go_simp
      simp only [Act.put, lsA, lsB, lsC]
      refine wpAnyH_ready (rs := [19]) (by kernel_rfl) (by simp) ?_
      refine AllReadyH.cons rfl (fun K hK => ?_) AllReadyH.nil
      go_simp
      go_wp2_with fail
      refine hK.out _ _ ⟨HF.out.prg, HF.out.res, HF.out.bel⟩ (fun _ => ?_)
      clear hK K
      refine wpAnyH_done (by kernel_rfl) ?_ _
      go_wp2
      go_meet
      case rel => exact ⟨_, _, _, _, rfl, HF.out⟩
   ·obtain ⟨w2, rm, om, gm⟩ := run_make_own (P := Tryz.prog) w1 W.heap.size 25 42 iN (.agg #[.int .i64 0, .int .i64 0]) 2 Tryz.underlying25 hN hN0 hN1 .i64 .i64 (p.n + 1) (by rw [hN2]; omega) (by unfold maxLen; omega) HL1.out.bel.size
    rw [show ((p.n + 1 : Nat) : Int) = (p.n : Int) + 1 by omega] at rm
    have HB2 : Hid (Below w1.heap.size w1 w2) := below_none9 gm
    have HO2 := hide om
    clear om gm
    go_simp
    go_wp2_with fail
    clear rm
    have HL2 := hide (HL1.out.next HB2.out)
    refine hK.out _ _ HL2.out (fun _ => ?_)
    clear hK K
    refine wpAnyH_ready (rs := [11, 18]) (by kernel_rfl) (by simp) ?_
    refine AllReadyH.cons rfl (fun K hK => ?_) (AllReadyH.cons rfl (fun K hK => ?_) AllReadyH.nil)
    ·obtain ⟨w3, rm, om, gm⟩ := run_make_own (P := Tryz.prog) w2 W.heap.size 23 3 iI (.int .i64 0) 1 Tryz.underlying23 hI hI0 hI1 .i64 .i64 (p.ns + 1) (by rw [hI2]; omega) (by unfold maxLen; omega) HL2.out.bel.size
     rw [show ((p.ns + 1 : Nat) : Int) = (p.ns : Int) + 1 by omega] at rm
     have HB3 : Hid (Below w2.heap.size w2 w3) := below_none9 gm
     have HO3 := hide om
     clear om gm
     go_simp
     go_wp2_with fail
     clear rm
     have HL3 := hide (HL2.out.next HB3.out)
     refine hK.out _ _ HL3.out (fun _ => ?_)
     clear hK K
     refine wpAnyH_take (i := 17) (oi := ⟨some 24, .build 27 #[(2, .tmp 8), (0, .tmp 13), (1, .tmp 18), (3, .tmp 23)], 27, "exact.go:74", #[⟨1, .data⟩, ⟨6, .data⟩, ⟨11, .data⟩, ⟨16, .data⟩], none⟩) (v := .agg #[(.slice (some ⟨W2.heap.size, 0, none⟩) 0 (p.nc + 1)), (.slice (some ⟨w2.heap.size, 0, none⟩) 0 (p.ns + 1)), .int .i64 (p.en 0), .int .i64 (p.en 1), .int .i64 (p.en 2), .int .i64 (p.en 3), .int .i64 (p.en 4), .int .i64 (p.en 5), (.slice (some ⟨w1.heap.size, 0, none⟩) 0 (p.n + 1))]) rfl (by kernel_rfl) (by kernel_rfl) (by kernel_rfl) (fun _ _ _ h => h) (Or.inl ⟨by rfl, fun w' hSw => ?_⟩) HL3.out ?_
     ·go_simp
     simp only [Act.put, lsA, lsB, lsC]
     refine wpAnyH_ready (rs := [18]) (by kernel_rfl) (by simp) ?_
     refine AllReadyH.cons rfl (fun K hK => ?_) AllReadyH.nil
     ·go_simp
      go_wp2_with fail
      obtain ⟨w4, hw⟩ : ∃ w4, w3.alloc (.cells #[.slice none 0 0, .slice none 0 0, .int .i64 0, .int .i64 0, .int .i64 0, .int .i64 0, .int .i64 0, .int .i64 0, .slice none 0 0] 27) = w4 := ⟨_, rfl⟩
      have HB4 : Hid (Below w3.heap.size w3 w4) := by rw [← hw]; exact below_alloc1 _ _
      have HA4 : Hid (w4.heap[w3.heap.size]? = some (.cells #[.slice none 0 0, .slice none 0 0, .int .i64 0, .int .i64 0, .int .i64 0, .int .i64 0, .int .i64 0, .int .i64 0, .slice none 0 0] 27 (0, 0))) := by rw [← hw]; exact alloc_atK _ _
      rw [hw]
      clear hw
      have HL4 := hide (HL3.out.next HB4.out)
      refine hK.out _ _ HL4.out (fun _ => ?_)
      clear hK K
      have HX : Hid (w4.heap[w3.heap.size]? = some (.cells #[.slice none 0 0, .slice none 0 0, .int .i64 0, .int .i64 0, .int .i64 0, .int .i64 0, .int .i64 0, .int .i64 0, .slice none 0 0] 27 (0, 0))) := HA4.out
      have HF := hide (ld_fill (cb := w3.heap.size) HL4.out HX.out (row_quietT (row_quietT (row_quietT HO1.out (grown_of_below HB2.out none)) (grown_of_below HB3.out none)) (grown_of_below HB4.out none)) (row_quietT HO3.out (grown_of_below HB4.out none)) (row_quietT (row_quietT HO2.out (grown_of_below HB3.out none)) (grown_of_below HB4.out none)) HL3.out.bel.size (Nat.ne_of_gt (block_lt HL3.out.prg)) (Nat.ne_of_gt (block_lt HL3.out.res)))
      have z0 := block_cell HX.out 0
      have f0 := block_free HX.out 0
      have z1 := block_cell HX.out 1
      have f1 := block_free HX.out 1
      have z2 := block_cell HX.out 2
      have f2 := block_free HX.out 2
      have z3 := block_cell HX.out 3
      have f3 := block_free HX.out 3
      have z4 := block_cell HX.out 4
      have f4 := block_free HX.out 4
      have z5 := block_cell HX.out 5
      have f5 := block_free HX.out 5
      have z6 := block_cell HX.out 6
      have f6 := block_free HX.out 6
      have z7 := block_cell HX.out 7
      have f7 := block_free HX.out 7
      have z8 := block_cell HX.out 8
      have f8 := block_free HX.out 8
      have zl := block_lt HX.out
      simp at z0 z1 z2 z3 z4 z5 z6 z7 z8
      clear HX
      refine wpAnyH_ready (rs := [19]) (by kernel_rfl) (by simp) ?_
      refine AllReadyH.cons rfl (fun K hK => ?_) AllReadyH.nil
      go_simp
      go_wp2_with fail
      refine hK.out _ _ ⟨HF.out.prg, HF.out.res, HF.out.bel⟩ (fun _ => ?_)
      clear hK K
      refine wpAnyH_done (by kernel_rfl) ?_ _
      go_wp2
      go_meet
      case rel => exact ⟨_, _, _, _, rfl, HF.out⟩
    ·go_simp
     go_wp2_with fail
     obtain ⟨w3, hw⟩ : ∃ w3, w2.alloc (.cells #[.slice none 0 0, .slice none 0 0, .int .i64 0, .int .i64 0, .int .i64 0, .int .i64 0, .int .i64 0, .int .i64 0, .slice none 0 0] 27) = w3 := ⟨_, rfl⟩
     have HB3 : Hid (Below w2.heap.size w2 w3) := by rw [← hw]; exact below_alloc1 _ _
     have HA3 : Hid (w3.heap[w2.heap.size]? = some (.cells #[.slice none 0 0, .slice none 0 0, .int .i64 0, .int .i64 0, .int .i64 0, .int .i64 0, .int .i64 0, .int .i64 0, .slice none 0 0] 27 (0, 0))) := by rw [← hw]; exact alloc_atK _ _
     rw [hw]
     clear hw
     have HL3 := hide (HL2.out.next HB3.out)
     refine hK.out _ _ HL3.out (fun _ => ?_)
     clear hK K
     refine wpAnyH_ready (rs := [11]) (by kernel_rfl) (by simp) ?_
     refine AllReadyH.cons rfl (fun K hK => ?_) AllReadyH.nil
     ·obtain ⟨w4, rm, om, gm⟩ := run_make_own (P := Tryz.prog) w3 W.heap.size 23 3 iI (.int .i64 0) 1 Tryz.underlying23 hI hI0 hI1 .i64 .i64 (p.ns + 1) (by rw [hI2]; omega) (by unfold maxLen; omega) HL3.out.bel.size
      rw [show ((p.ns + 1 : Nat) : Int) = (p.ns : Int) + 1 by omega] at rm
      have HB4 : Hid (Below w3.heap.size w3 w4) := below_none9 gm
      have HO4 := hide om
      clear om gm
      go_simp
      go_wp2_with fail
      clear rm
      have HL4 := hide (HL3.out.next HB4.out)
      refine hK.out _ _ HL4.out (fun _ => ?_)
      clear hK K
      have HX : Hid (w4.heap[w2.heap.size]? = some (.cells #[.slice none 0 0, .slice none 0 0, .int .i64 0, .int .i64 0, .int .i64 0, .int .i64 0, .int .i64 0, .int .i64 0, .slice none 0 0] 27 (0, 0))) := ((HB4.out.block _ (block_lt HA3.out)).trans HA3.out)
      have HF := hide (ld_fill (cb := w2.heap.size) HL4.out HX.out (row_quietT (row_quietT (row_quietT HO1.out (grown_of_below HB2.out none)) (grown_of_below HB3.out none)) (grown_of_below HB4.out none)) HO4.out (row_quietT (row_quietT HO2.out (grown_of_below HB3.out none)) (grown_of_below HB4.out none)) HL2.out.bel.size (Nat.ne_of_gt (block_lt HL2.out.prg)) (Nat.ne_of_gt (block_lt HL2.out.res)))
      have z0 := block_cell HX.out 0
      have f0 := block_free HX.out 0
      have z1 := block_cell HX.out 1
      have f1 := block_free HX.out 1
      have z2 := block_cell HX.out 2
      have f2 := block_free HX.out 2
      have z3 := block_cell HX.out 3
      have f3 := block_free HX.out 3
      have z4 := block_cell HX.out 4
      have f4 := block_free HX.out 4
      have z5 := block_cell HX.out 5
      have f5 := block_free HX.out 5
      have z6 := block_cell HX.out 6
      have f6 := block_free HX.out 6
      have z7 := block_cell HX.out 7
      have f7 := block_free HX.out 7
      have z8 := block_cell HX.out 8
      have f8 := block_free HX.out 8
      have zl := block_lt HX.out
      simp at z0 z1 z2 z3 z4 z5 z6 z7 z8
      clear HX
      refine wpAnyH_take (i := 17) (oi := ⟨some 24, .build 27 #[(2, .tmp 8), (0, .tmp 13), (1, .tmp 18), (3, .tmp 23)], 27, "exact.go:74", #[⟨1, .data⟩, ⟨6, .data⟩, ⟨11, .data⟩, ⟨16, .data⟩], none⟩) (v := .agg #[(.slice (some ⟨W2.heap.size, 0, none⟩) 0 (p.nc + 1)), (.slice (some ⟨w3.heap.size, 0, none⟩) 0 (p.ns + 1)), .int .i64 (p.en 0), .int .i64 (p.en 1), .int .i64 (p.en 2), .int .i64 (p.en 3), .int .i64 (p.en 4), .int .i64 (p.en 5), (.slice (some ⟨w1.heap.size, 0, none⟩) 0 (p.n + 1))]) rfl (by kernel_rfl) (by kernel_rfl) (by kernel_rfl) (fun _ _ _ h => h) (Or.inl ⟨by rfl, fun w' hSw => ?_⟩) HL4.out ?_
      ·go_simp
      simp only [Act.put, lsA, lsB, lsC]
      refine wpAnyH_ready (rs := [19]) (by kernel_rfl) (by simp) ?_
      refine AllReadyH.cons rfl (fun K hK => ?_) AllReadyH.nil
      go_simp
      go_wp2_with fail
      refine hK.out _ _ ⟨HF.out.prg, HF.out.res, HF.out.bel⟩ (fun _ => ?_)
      clear hK K
      refine wpAnyH_done (by kernel_rfl) ?_ _
      go_wp2
      go_meet
      case rel => exact ⟨_, _, _, _, rfl, HF.out⟩
   ·go_simp
    go_wp2_with fail
    obtain ⟨w2, hw⟩ : ∃ w2, w1.alloc (.cells #[.slice none 0 0, .slice none 0 0, .int .i64 0, .int .i64 0, .int .i64 0, .int .i64 0, .int .i64 0, .int .i64 0, .slice none 0 0] 27) = w2 := ⟨_, rfl⟩
    have HB2 : Hid (Below w1.heap.size w1 w2) := by rw [← hw]; exact below_alloc1 _ _
    have HA2 : Hid (w2.heap[w1.heap.size]? = some (.cells #[.slice none 0 0, .slice none 0 0, .int .i64 0, .int .i64 0, .int .i64 0, .int .i64 0, .int .i64 0, .int .i64 0, .slice none 0 0] 27 (0, 0))) := by rw [← hw]; exact alloc_atK _ _
    rw [hw]
    clear hw
    have HL2 := hide (HL1.out.next HB2.out)
    refine hK.out _ _ HL2.out (fun _ => ?_)
    clear hK K
    refine wpAnyH_ready (rs := [11, 16]) (by kernel_rfl) (by simp) ?_
    refine AllReadyH.cons rfl (fun K hK => ?_) (AllReadyH.cons rfl (fun K hK => ?_) AllReadyH.nil)
    ·obtain ⟨w3, rm, om, gm⟩ := run_make_own (P := Tryz.prog) w2 W.heap.size 23 3 iI (.int .i64 0) 1 Tryz.underlying23 hI hI0 hI1 .i64 .i64 (p.ns + 1) (by rw [hI2]; omega) (by unfold maxLen; omega) HL2.out.bel.size
     rw [show ((p.ns + 1 : Nat) : Int) = (p.ns : Int) + 1 by omega] at rm
     have HB3 : Hid (Below w2.heap.size w2 w3) := below_none9 gm
     have HO3 := hide om
     clear om gm
     go_simp
     go_wp2_with fail
     clear rm
     have HL3 := hide (HL2.out.next HB3.out)
     refine hK.out _ _ HL3.out (fun _ => ?_)
     clear hK K
     refine wpAnyH_ready (rs := [16]) (by kernel_rfl) (by simp) ?_
     refine AllReadyH.cons rfl (fun K hK => ?_) AllReadyH.nil
     ·obtain ⟨w4, rm, om, gm⟩ := run_make_own (P := Tryz.prog) w3 W.heap.size 25 42 iN (.agg #[.int .i64 0, .int .i64 0]) 2 Tryz.underlying25 hN hN0 hN1 .i64 .i64 (p.n + 1) (by rw [hN2]; omega) (by unfold maxLen; omega) HL3.out.bel.size
      rw [show ((p.n + 1 : Nat) : Int) = (p.n : Int) + 1 by omega] at rm
      have HB4 : Hid (Below w3.heap.size w3 w4) := below_none9 gm
      have HO4 := hide om
      clear om gm
      go_simp
      go_wp2_with fail
      clear rm
      have HL4 := hide (HL3.out.next HB4.out)
      refine hK.out _ _ HL4.out (fun _ => ?_)
      clear hK K
      have HX : Hid (w4.heap[w1.heap.size]? = some (.cells #[.slice none 0 0, .slice none 0 0, .int .i64 0, .int .i64 0, .int .i64 0, .int .i64 0, .int .i64 0, .int .i64 0, .slice none 0 0] 27 (0, 0))) := ((HB4.out.block _ (block_lt ((HB3.out.block _ (block_lt HA2.out)).trans HA2.out))).trans ((HB3.out.block _ (block_lt HA2.out)).trans HA2.out))
      have HF := hide (ld_fill (cb := w1.heap.size) HL4.out HX.out (row_quietT (row_quietT (row_quietT HO1.out (grown_of_below HB2.out none)) (grown_of_below HB3.out none)) (grown_of_below HB4.out none)) (row_quietT HO3.out (grown_of_below HB4.out none)) HO4.out HL1.out.bel.size (Nat.ne_of_gt (block_lt HL1.out.prg)) (Nat.ne_of_gt (block_lt HL1.out.res)))
      have z0 := block_cell HX.out 0
      have f0 := block_free HX.out 0
      have z1 := block_cell HX.out 1
      have f1 := block_free HX.out 1
      have z2 := block_cell HX.out 2
      have f2 := block_free HX.out 2
      have z3 := block_cell HX.out 3
      have f3 := block_free HX.out 3
      have z4 := block_cell HX.out 4
      have f4 := block_free HX.out 4
      have z5 := block_cell HX.out 5
      have f5 := block_free HX.out 5
      have z6 := block_cell HX.out 6
      have f6 := block_free HX.out 6
      have z7 := block_cell HX.out 7
      have f7 := block_free HX.out 7
      have z8 := block_cell HX.out 8
      have f8 := block_free HX.out 8
      have zl := block_lt HX.out
      simp at z0 z1 z2 z3 z4 z5 z6 z7 z8
      clear HX
      refine wpAnyH_take (i := 17) (oi := ⟨some 24, .build 27 #[(2, .tmp 8), (0, .tmp 13), (1, .tmp 18), (3, .tmp 23)], 27, "exact.go:74", #[⟨1, .data⟩, ⟨6, .data⟩, ⟨11, .data⟩, ⟨16, .data⟩], none⟩) (v := .agg #[(.slice (some ⟨W2.heap.size, 0, none⟩) 0 (p.nc + 1)), (.slice (some ⟨w2.heap.size, 0, none⟩) 0 (p.ns + 1)), .int .i64 (p.en 0), .int .i64 (p.en 1), .int .i64 (p.en 2), .int .i64 (p.en 3), .int .i64 (p.en 4), .int .i64 (p.en 5), (.slice (some ⟨w3.heap.size, 0, none⟩) 0 (p.n + 1))]) rfl (by kernel_rfl) (by kernel_rfl) (by kernel_rfl) (fun _ _ _ h => h) (Or.inl ⟨by rfl, fun w' hSw => ?_⟩) HL4.out ?_
      ·go_simp
      simp only [Act.put, lsA, lsB, lsC]
      refine wpAnyH_ready (rs := [19]) (by kernel_rfl) (by simp) ?_
      refine AllReadyH.cons rfl (fun K hK => ?_) AllReadyH.nil
      go_simp
      go_wp2_with fail
      refine hK.out _ _ ⟨HF.out.prg, HF.out.res, HF.out.bel⟩ (fun _ => ?_)
      clear hK K
      refine wpAnyH_done (by kernel_rfl) ?_ _
      go_wp2
      go_meet
      case rel => exact ⟨_, _, _, _, rfl, HF.out⟩
    ·obtain ⟨w3, rm, om, gm⟩ := run_make_own (P := Tryz.prog) w2 W.heap.size 25 42 iN (.agg #[.int .i64 0, .int .i64 0]) 2 Tryz.underlying25 hN hN0 hN1 .i64 .i64 (p.n + 1) (by rw [hN2]; omega) (by unfold maxLen; omega) HL2.out.bel.size
     rw [show ((p.n + 1 : Nat) : Int) = (p.n : Int) + 1 by omega] at rm
     have HB3 : Hid (Below w2.heap.size w2 w3) := below_none9 gm
     have HO3 := hide om
     clear om gm
     go_simp
     go_wp2_with fail
     clear rm
     have HL3 := hide (HL2.out.next HB3.out)
     refine hK.out _ _ HL3.out (fun _ => ?_)
     clear hK K
     refine wpAnyH_ready (rs := [11]) (by kernel_rfl) (by simp) ?_
     refine AllReadyH.cons rfl (fun K hK => ?_) AllReadyH.nil
     ·obtain ⟨w4, rm, om, gm⟩ := run_make_own (P := Tryz.prog) w3 W.heap.size 23 3 iI (.int .i64 0) 1 Tryz.underlying23 hI hI0 hI1 .i64 .i64 (p.ns + 1) (by rw [hI2]; omega) (by unfold maxLen; omega) HL3.out.bel.size
      rw [show ((p.ns + 1 : Nat) : Int) = (p.ns : Int) + 1 by omega] at rm
      have HB4 : Hid (Below w3.heap.size w3 w4) := below_none9 gm
      have HO4 := hide om
      clear om gm
      go_simp
      go_wp2_with fail
      clear rm
      have HL4 := hide (HL3.out.next HB4.out)
      refine hK.out _ _ HL4.out (fun _ => ?_)
      clear hK K
      have HX : Hid (w4.heap[w1.heap.size]? = some (.cells #[.slice none 0 0, .slice none 0 0, .int .i64 0, .int .i64 0, .int .i64 0, .int .i64 0, .int .i64 0, .int .i64 0, .slice none 0 0] 27 (0, 0))) := ((HB4.out.block _ (block_lt ((HB3.out.block _ (block_lt HA2.out)).trans HA2.out))).trans ((HB3.out.block _ (block_lt HA2.out)).trans HA2.out))
      have HF := hide (ld_fill (cb := w1.heap.size) HL4.out HX.out (row_quietT (row_quietT (row_quietT HO1.out (grown_of_below HB2.out none)) (grown_of_below HB3.out none)) (grown_of_below HB4.out none)) HO4.out (row_quietT HO3.out (grown_of_below HB4.out none)) HL1.out.bel.size (Nat.ne_of_gt (block_lt HL1.out.prg)) (Nat.ne_of_gt (block_lt HL1.out.res)))
      have z0 := block_cell HX.out 0
      have f0 := block_free HX.out 0
      have z1 := block_cell HX.out 1
      have f1 := block_free HX.out 1
      have z2 := block_cell HX.out 2
      have f2 := block_free HX.out 2
      have z3 := block_cell HX.out 3
      have f3 := block_free HX.out 3
      have z4 := block_cell HX.out 4
      have f4 := block_free HX.out 4
      have z5 := block_cell HX.out 5
      have f5 := block_free HX.out 5
      have z6 := block_cell HX.out 6
      have f6 := block_free HX.out 6
      have z7 := block_cell HX.out 7
      have f7 := block_free HX.out 7
      have z8 := block_cell HX.out 8
      have f8 := block_free HX.out 8
      have zl := block_lt HX.out
      simp at z0 z1 z2 z3 z4 z5 z6 z7 z8
      clear HX
      refine wpAnyH_take (i := 17) (oi := ⟨some 24, .build 27 #[(2, .tmp 8), (0, .tmp 13), (1, .tmp 18), (3, .tmp 23)], 27, "exact.go:74", #[⟨1, .data⟩, ⟨6, .data⟩, ⟨11, .data⟩, ⟨16, .data⟩], none⟩) (v := .agg #[(.slice (some ⟨W2.heap.size, 0, none⟩) 0 (p.nc + 1)), (.slice (some ⟨w3.heap.size, 0, none⟩) 0 (p.ns + 1)), .int .i64 (p.en 0), .int .i64 (p.en 1), .int .i64 (p.en 2), .int .i64 (p.en 3), .int .i64 (p.en 4), .int .i64 (p.en 5), (.slice (some ⟨w2.heap.size, 0, none⟩) 0 (p.n + 1))]) rfl (by kernel_rfl) (by kernel_rfl) (by kernel_rfl) (fun _ _ _ h => h) (Or.inl ⟨by rfl, fun w' hSw => ?_⟩) HL4.out ?_
      ·go_simp
      simp only [Act.put, lsA, lsB, lsC]
      refine wpAnyH_ready (rs := [19]) (by kernel_rfl) (by simp) ?_
      refine AllReadyH.cons rfl (fun K hK => ?_) AllReadyH.nil
      go_simp
      go_wp2_with fail
      refine hK.out _ _ ⟨HF.out.prg, HF.out.res, HF.out.bel⟩ (fun _ => ?_)
      clear hK K
      refine wpAnyH_done (by kernel_rfl) ?_ _
      go_wp2
      go_meet
      case rel => exact ⟨_, _, _, _, rfl, HF.out⟩
  ·obtain ⟨w1, rm, om, gm⟩ := run_make_own (P := Tryz.prog) W2.drew W.heap.size 23 3 iI (.int .i64 0) 1 Tryz.underlying23 hI hI0 hI1 .i64 .i64 (p.ns + 1) (by rw [hI2]; omega) (by unfold maxLen; omega) HL0.out.bel.size
   rw [show ((p.ns + 1 : Nat) : Int) = (p.ns : Int) + 1 by omega] at rm
   have HB1 : Hid (Below W2.drew.heap.size W2.drew w1) := below_none9 gm
   have HO1 := hide om
   clear om gm
   go_simp
   go_wp2_with fail
   clear rm
   have HL1 := hide (HL0.out.next HB1.out)
   refine hK.out _ _ HL1.out (fun _ => ?_)
   clear hK K
   refine wpAnyH_ready (rs := [6, 16, 18]) (by kernel_rfl) (by simp) ?_
   refine AllReadyH.cons rfl (fun K hK => ?_) (AllReadyH.cons rfl (fun K hK => ?_) (AllReadyH.cons rfl (fun K hK => ?_) AllReadyH.nil))
   ·obtain ⟨w2, rm, om, gm⟩ := run_make_own (P := Tryz.prog) w1 W.heap.size 22 28 iU (.int .u64 0) 1 Tryz.underlying22 hU hU0 hU1 .i64 .i64 (p.nc + 1) (by rw [hU2]; omega) (by unfold maxLen; omega) HL1.out.bel.size
    rw [show ((p.nc + 1 : Nat) : Int) = (p.nc : Int) + 1 by omega] at rm
    have HB2 : Hid (Below w1.heap.size w1 w2) := below_none9 gm
    have HO2 := hide om
    clear om gm
    go_simp
    go_wp2_with fail
    clear rm
    have HL2 := hide (HL1.out.next HB2.out)
    refine hK.out _ _ HL2.out (fun _ => ?_)
    clear hK K
    refine wpAnyH_ready (rs := [16, 18]) (by kernel_rfl) (by simp) ?_
    refine AllReadyH.cons rfl (fun K hK => ?_) (AllReadyH.cons rfl (fun K hK => ?_) AllReadyH.nil)
    ·obtain ⟨w3, rm, om, gm⟩ := run_make_own (P := Tryz.prog) w2 W.heap.size 25 42 iN (.agg #[.int .i64 0, .int .i64 0]) 2 Tryz.underlying25 hN hN0 hN1 .i64 .i64 (p.n + 1) (by rw [hN2]; omega) (by unfold maxLen; omega) HL2.out.bel.size
     rw [show ((p.n + 1 : Nat) : Int) = (p.n : Int) + 1 by omega] at rm
     have HB3 : Hid (Below w2.heap.size w2 w3) := below_none9 gm
     have HO3 := hide om
     clear om gm
     go_simp
     go_wp2_with fail
     clear rm
     have HL3 := hide (HL2.out.next HB3.out)
     refine hK.out _ _ HL3.out (fun _ => ?_)
     clear hK K
     refine wpAnyH_take (i := 17) (oi := ⟨some 24, .build 27 #[(2, .tmp 8), (0, .tmp 13), (1, .tmp 18), (3, .tmp 23)], 27, "exact.go:74", #[⟨1, .data⟩, ⟨6, .data⟩, ⟨11, .data⟩, ⟨16, .data⟩], none⟩) (v := .agg #[(.slice (some ⟨w1.heap.size, 0, none⟩) 0 (p.nc + 1)), (.slice (some ⟨W2.heap.size, 0, none⟩) 0 (p.ns + 1)), .int .i64 (p.en 0), .int .i64 (p.en 1), .int .i64 (p.en 2), .int .i64 (p.en 3), .int .i64 (p.en 4), .int .i64 (p.en 5), (.slice (some ⟨w2.heap.size, 0, none⟩) 0 (p.n + 1))]) rfl (by kernel_rfl) (by kernel_rfl) (by kernel_rfl) (fun _ _ _ h => h) (Or.inl ⟨by rfl, fun w' hSw => ?_⟩) HL3.out ?_
     ·go_simp
     simp only [Act.put, lsA, lsB, lsC]
     refine wpAnyH_ready (rs := [18]) (by kernel_rfl) (by simp) ?_
     refine AllReadyH.cons rfl (fun K hK => ?_) AllReadyH.nil
     ·go_simp
      go_wp2_with fail
      obtain ⟨w4, hw⟩ : ∃ w4, w3.alloc (.cells #[.slice none 0 0, .slice none 0 0, .int .i64 0, .int .i64 0, .int .i64 0, .int .i64 0, .int .i64 0, .int .i64 0, .slice none 0 0] 27) = w4 := ⟨_, rfl⟩
      have HB4 : Hid (Below w3.heap.size w3 w4) := by rw [← hw]; exact below_alloc1 _ _
      have HA4 : Hid (w4.heap[w3.heap.size]? = some (.cells #[.slice none 0 0, .slice none 0 0, .int .i64 0, .int .i64 0, .int .i64 0, .int .i64 0, .int .i64 0, .int .i64 0, .slice none 0 0] 27 (0, 0))) := by rw [← hw]; exact alloc_atK _ _
      rw [hw]
      clear hw
      have HL4 := hide (HL3.out.next HB4.out)
      refine hK.out _ _ HL4.out (fun _ => ?_)
      clear hK K
      have HX : Hid (w4.heap[w3.heap.size]? = some (.cells #[.slice none 0 0, .slice none 0 0, .int .i64 0, .int .i64 0, .int .i64 0, .int .i64 0, .int .i64 0, .int .i64 0, .slice none 0 0] 27 (0, 0))) := HA4.out
      have HF := hide (ld_fill (cb := w3.heap.size) HL4.out HX.out (row_quietT (row_quietT HO2.out (grown_of_below HB3.out none)) (grown_of_below HB4.out none)) (row_quietT (row_quietT (row_quietT HO1.out (grown_of_below HB2.out none)) (grown_of_below HB3.out none)) (grown_of_below HB4.out none)) (row_quietT HO3.out (grown_of_below HB4.out none)) HL3.out.bel.size (Nat.ne_of_gt (block_lt HL3.out.prg)) (Nat.ne_of_gt (block_lt HL3.out.res)))
      have z0 := block_cell HX.out 0
      have f0 := block_free HX.out 0
      have z1 := block_cell HX.out 1
      have f1 := block_free HX.out 1
      have z2 := block_cell HX.out 2
      have f2 := block_free HX.out 2
      have z3 := block_cell HX.out 3
      have f3 := block_free HX.out 3
      have z4 := block_cell HX.out 4
      have f4 := block_free HX.out 4
      have z5 := block_cell HX.out 5
      have f5 := block_free HX.out 5
      have z6 := block_cell HX.out 6
      have f6 := block_free HX.out 6
      have z7 := block_cell HX.out 7
      have f7 := block_free HX.out 7
      have z8 := block_cell HX.out 8
      have f8 := block_free HX.out 8
      have zl := block_lt HX.out
      simp at z0 z1 z2 z3 z4 z5 z6 z7 z8
      clear HX
      refine wpAnyH_ready (rs := [19]) (by kernel_rfl) (by simp) ?_
      refine AllReadyH.cons rfl (fun K hK => ?_) AllReadyH.nil
      go_simp
      go_wp2_with fail
      refine hK.out _ _ ⟨HF.out.prg, HF.out.res, HF.out.bel⟩ (fun _ => ?_)
      clear hK K
      refine wpAnyH_done (by kernel_rfl) ?_ _
      go_wp2
      go_meet
      case rel => exact ⟨_, _, _, _, rfl, HF.out⟩
    ·go_simp
     go_wp2_with fail
     obtain ⟨w3, hw⟩ : ∃ w3, w2.alloc (.cells #[.slice none 0 0, .slice none 0 0, .int .i64 0, .int .i64 0, .int .i64 0, .int .i64 0, .int .i64 0, .int .i64 0, .slice none 0 0] 27) = w3 := ⟨_, rfl⟩
     have HB3 : Hid (Below w2.heap.size w2 w3) := by rw [← hw]; exact below_alloc1 _ _
     have HA3 : Hid (w3.heap[w2.heap.size]? = some (.cells #[.slice none 0 0, .slice none 0 0, .int .i64 0, .int .i64 0, .int .i64 0, .int .i64 0, .int .i64 0, .int .i64 0, .slice none 0 0] 27 (0, 0))) := by rw [← hw]; exact alloc_atK _ _
     rw [hw]
     clear hw
     have HL3 := hide (HL2.out.next HB3.out)
     refine hK.out _ _ HL3.out (fun _ => ?_)
     clear hK K
     refine wpAnyH_ready (rs := [16]) (by kernel_rfl) (by simp) ?_
     refine AllReadyH.cons rfl (fun K hK => ?_) AllReadyH.nil
     ·obtain ⟨w4, rm, om, gm⟩ := run_make_own (P := Tryz.prog) w3 W.heap.size 25 42 iN (.agg #[.int .i64 0, .int .i64 0]) 2 Tryz.underlying25 hN hN0 hN1 .i64 .i64 (p.n + 1) (by rw [hN2]; omega) (by unfold maxLen; omega) HL3.out.bel.size
      rw [show ((p.n + 1 : Nat) : Int) = (p.n : Int) + 1 by omega] at rm
      have HB4 : Hid (Below w3.heap.size w3 w4) := below_none9 gm
      have HO4 := hide om
      clear om gm
      go_simp
      go_wp2_with fail
      clear rm
      have HL4 := hide (HL3.out.next HB4.out)
      refine hK.out _ _ HL4.out (fun _ => ?_)
      clear hK K
      have HX : Hid (w4.heap[w2.heap.size]? = some (.cells #[.slice none 0 0, .slice none 0 0, .int .i64 0, .int .i64 0, .int .i64 0, .int .i64 0, .int .i64 0, .int .i64 0, .slice none 0 0] 27 (0, 0))) := ((HB4.out.block _ (block_lt HA3.out)).trans HA3.out)
      have HF := hide (ld_fill (cb := w2.heap.size) HL4.out HX.out (row_quietT (row_quietT HO2.out (grown_of_below HB3.out none)) (grown_of_below HB4.out none)) (row_quietT (row_quietT (row_quietT HO1.out (grown_of_below HB2.out none)) (grown_of_below HB3.out none)) (grown_of_below HB4.out none)) HO4.out HL2.out.bel.size (Nat.ne_of_gt (block_lt HL2.out.prg)) (Nat.ne_of_gt (block_lt HL2.out.res)))
      have z0 := block_cell HX.out 0
      have f0 := block_free HX.out 0
      have z1 := block_cell HX.out 1
      have f1 := block_free HX.out 1
      have z2 := block_cell HX.out 2
      have f2 := block_free HX.out 2
      have z3 := block_cell HX.out 3
      have f3 := block_free HX.out 3
      have z4 := block_cell HX.out 4
      have f4 := block_free HX.out 4
      have z5 := block_cell HX.out 5
      have f5 := block_free HX.out 5
      have z6 := block_cell HX.out 6
      have f6 := block_free HX.out 6
      have z7 := block_cell HX.out 7
      have f7 := block_free HX.out 7
      have z8 := block_cell HX.out 8
      have f8 := block_free HX.out 8
      have zl := block_lt HX.out
      simp at z0 z1 z2 z3 z4 z5 z6 z7 z8
      clear HX
      refine wpAnyH_take (i := 17) (oi := ⟨some 24, .build 27 #[(2, .tmp 8), (0, .tmp 13), (1, .tmp 18), (3, .tmp 23)], 27, "exact.go:74", #[⟨1, .data⟩, ⟨6, .data⟩, ⟨11, .data⟩, ⟨16, .data⟩], none⟩) (v := .agg #[(.slice (some ⟨w1.heap.size, 0, none⟩) 0 (p.nc + 1)), (.slice (some ⟨W2.heap.size, 0, none⟩) 0 (p.ns + 1)), .int .i64 (p.en 0), .int .i64 (p.en 1), .int .i64 (p.en 2), .int .i64 (p.en 3), .int .i64 (p.en 4), .int .i64 (p.en 5), (.slice (some ⟨w3.heap.size, 0, none⟩) 0 (p.n + 1))]) rfl (by kernel_rfl) (by kernel_rfl) (by kernel_rfl) (fun _ _ _ h => h) (Or.inl ⟨by rfl, fun w' hSw => ?_⟩) HL4.out ?_
      ·go_simp
      simp only [Act.put, lsA, lsB, lsC]
      refine wpAnyH_ready (rs := [19]) (by kernel_rfl) (by simp) ?_
      refine AllReadyH.cons rfl (fun K hK => ?_) AllReadyH.nil
      go_simp
      go_wp2_with fail
      refine hK.out _ _ ⟨HF.out.prg, HF.out.res, HF.out.bel⟩ (fun _ => ?_)
      clear hK K
      refine wpAnyH_done (by kernel_rfl) ?_ _
      go_wp2
      go_meet
      case rel => exact ⟨_, _, _, _, rfl, HF.out⟩
   ·obtain ⟨w2, rm, om, gm⟩ := run_make_own (P := Tryz.prog) w1 W.heap.size 25 42 iN (.agg #[.int .i64 0, .int .i64 0]) 2 Tryz.underlying25 hN hN0 hN1 .i64 .i64 (p.n + 1) (by rw [hN2]; omega) (by unfold maxLen; omega) HL1.out.bel.size
    rw [show ((p.n + 1 : Nat) : Int) = (p.n : Int) + 1 by omega] at rm
    have HB2 : Hid (Below w1.heap.size w1 w2) := below_none9 gm
    have HO2 := hide om
    clear om gm
    go_simp
    go_wp2_with fail
    clear rm
    have HL2 := hide (HL1.out.next HB2.out)
    refine hK.out _ _ HL2.out (fun _ => ?_)
    clear hK K
    refine wpAnyH_ready (rs := [6, 18]) (by kernel_rfl) (by simp) ?_
    refine AllReadyH.cons rfl (fun K hK => ?_) (AllReadyH.cons rfl (fun K hK => ?_) AllReadyH.nil)
    ·obtain ⟨w3, rm, om, gm⟩ := run_make_own (P := Tryz.prog) w2 W.heap.size 22 28 iU (.int .u64 0) 1 Tryz.underlying22 hU hU0 hU1 .i64 .i64 (p.nc + 1) (by rw [hU2]; omega) (by unfold maxLen; omega) HL2.out.bel.size
     rw [show ((p.nc + 1 : Nat) : Int) = (p.nc : Int) + 1 by omega] at rm
     have HB3 : Hid (Below w2.heap.size w2 w3) := below_none9 gm
     have HO3 := hide om
     clear om gm
     go_simp
     go_wp2_with fail
     clear rm
     have HL3 := hide (HL2.out.next HB3.out)
     refine hK.out _ _ HL3.out (fun _ => ?_)
     clear hK K
     refine wpAnyH_take (i := 17) (oi := ⟨some 24, .build 27 #[(2, .tmp 8), (0, .tmp 13), (1, .tmp 18), (3, .tmp 23)], 27, "exact.go:74", #[⟨1, .data⟩, ⟨6, .data⟩, ⟨11, .data⟩, ⟨16, .data⟩], none⟩) (v := .agg #[(.slice (some ⟨w2.heap.size, 0, none⟩) 0 (p.nc + 1)), (.slice (some ⟨W2.heap.size, 0, none⟩) 0 (p.ns + 1)), .int .i64 (p.en 0), .int .i64 (p.en 1), .int .i64 (p.en 2), .int .i64 (p.en 3), .int .i64 (p.en 4), .int .i64 (p.en 5), (.slice (some ⟨w1.heap.size, 0, none⟩) 0 (p.n + 1))]) rfl (by kernel_rfl) (by kernel_rfl) (by kernel_rfl) (fun _ _ _ h => h) (Or.inl ⟨by rfl, fun w' hSw => ?_⟩) HL3.out ?_
     ·go_simp
     simp only [Act.put, lsA, lsB, lsC]
     refine wpAnyH_ready (rs := [18]) (by kernel_rfl) (by simp) ?_
     refine AllReadyH.cons rfl (fun K hK => ?_) AllReadyH.nil
     ·go_simp
      go_wp2_with fail
      obtain ⟨w4, hw⟩ : ∃ w4, w3.alloc (.cells #[.slice none 0 0, .slice none 0 0, .int .i64 0, .int .i64 0, .int .i64 0, .int .i64 0, .int .i64 0, .int .i64 0, .slice none 0 0] 27) = w4 := ⟨_, rfl⟩
      have HB4 : Hid (Below w3.heap.size w3 w4) := by rw [← hw]; exact below_alloc1 _ _
      have HA4 : Hid (w4.heap[w3.heap.size]? = some (.cells #[.slice none 0 0, .slice none 0 0, .int .i64 0, .int .i64 0, .int .i64 0, .int .i64 0, .int .i64 0, .int .i64 0, .slice none 0 0] 27 (0, 0))) := by rw [← hw]; exact alloc_atK _ _
      rw [hw]
      clear hw
      have HL4 := hide (HL3.out.next HB4.out)
      refine hK.out _ _ HL4.out (fun _ => ?_)
      clear hK K
      have HX : Hid (w4.heap[w3.heap.size]? = some (.cells #[.slice none 0 0, .slice none 0 0, .int .i64 0, .int .i64 0, .int .i64 0, .int .i64 0, .int .i64 0, .int .i64 0, .slice none 0 0] 27 (0, 0))) := HA4.out
      have HF := hide (ld_fill (cb := w3.heap.size) HL4.out HX.out (row_quietT HO3.out (grown_of_below HB4.out none)) (row_quietT (row_quietT (row_quietT HO1.out (grown_of_below HB2.out none)) (grown_of_below HB3.out none)) (grown_of_below HB4.out none)) (row_quietT (row_quietT HO2.out (grown_of_below HB3.out none)) (grown_of_below HB4.out none)) HL3.out.bel.size (Nat.ne_of_gt (block_lt HL3.out.prg)) (Nat.ne_of_gt (block_lt HL3.out.res)))
      have z0 := block_cell HX.out 0
      have f0 := block_free HX.out 0
      have z1 := block_cell HX.out 1
      have f1 := block_free HX.out 1
      have z2 := block_cell HX.out 2
      have f2 := block_free HX.out 2
      have z3 := block_cell HX.out 3
      have f3 := block_free HX.out 3
      have z4 := block_cell HX.out 4
      have f4 := block_free HX.out 4
      have z5 := block_cell HX.out 5
      have f5 := block_free HX.out 5
      have z6 := block_cell HX.out 6
      have f6 := block_free HX.out 6
      have z7 := block_cell HX.out 7
      have f7 := block_free HX.out 7
      have z8 := block_cell HX.out 8
      have f8 := block_free HX.out 8
      have zl := block_lt HX.out
      simp at z0 z1 z2 z3 z4 z5 z6 z7 z8
      clear HX
      refine wpAnyH_ready (rs := [19]) (by kernel_rfl) (by simp) ?_
      refine AllReadyH.cons rfl (fun K hK => ?_) AllReadyH.nil
      go_simp
      go_wp2_with fail
      refine hK.out _ _ ⟨HF.out.prg, HF.out.res, HF.out.bel⟩ (fun _ => ?_)
      clear hK K
      refine wpAnyH_done (by kernel_rfl) ?_ _
      go_wp2
      go_meet
      case rel => exact ⟨_, _, _, _, rfl, HF.out⟩
    ·go_simp
     go_wp2_with fail
     obtain ⟨w3, hw⟩ : ∃ w3, w2.alloc (.cells #[.slice none 0 0, .slice none 0 0, .int .i64 0, .int .i64 0, .int .i64 0, .int .i64 0, .int .i64 0, .int .i64 0, .slice none 0 0] 27) = w3 := ⟨_, rfl⟩
     have HB3 : Hid (Below w2.heap.size w2 w3) := by rw [← hw]; exact below_alloc1 _ _
     have HA3 : Hid (w3.heap[w2.heap.size]? = some (.cells #[.slice none 0 0, .slice none 0 0, .int .i64 0, .int .i64 0, .int .i64 0, .int .i64 0, .int .i64 0, .int .i64 0, .slice none 0 0] 27 (0, 0))) := by rw [← hw]; exact alloc_atK _ _
     rw [hw]
     clear hw
     have HL3 := hide (HL2.out.next HB3.out)
     refine hK.out _ _ HL3.out (fun _ => ?_)
     clear hK K
     refine wpAnyH_ready (rs := [6]) (by kernel_rfl) (by simp) ?_
     refine AllReadyH.cons rfl (fun K hK => ?_) AllReadyH.nil
     ·obtain ⟨w4, rm, om, gm⟩ := run_make_own (P := Tryz.prog) w3 W.heap.size 22 28 iU (.int .u64 0) 1 Tryz.underlying22 hU hU0 hU1 .i64 .i64 (p.nc + 1) (by rw [hU2]; omega) (by unfold maxLen; omega) HL3.out.bel.size
      rw [show ((p.nc + 1 : Nat) : Int) = (p.nc : Int) + 1 by omega] at rm
      have HB4 : Hid (Below w3.heap.size w3 w4) := below_none9 gm
      have HO4 := hide om
      clear om gm
      go_simp
      go_wp2_with fail
      clear rm
      have HL4 := hide (HL3.out.next HB4.out)
      refine hK.out _ _ HL4.out (fun _ => ?_)
      clear hK K
      have HX : Hid (w4.heap[w2.heap.size]? = some (.cells #[.slice none 0 0, .slice none 0 0, .int .i64 0, .int .i64 0, .int .i64 0, .int .i64 0, .int .i64 0, .int .i64 0, .slice none 0 0] 27 (0, 0))) := ((HB4.out.block _ (block_lt HA3.out)).trans HA3.out)
      have HF := hide (ld_fill (cb := w2.heap.size) HL4.out HX.out HO4.out (row_quietT (row_quietT (row_quietT HO1.out (grown_of_below HB2.out none)) (grown_of_below HB3.out none)) (grown_of_below HB4.out none)) (row_quietT (row_quietT HO2.out (grown_of_below HB3.out none)) (grown_of_below HB4.out none)) HL2.out.bel.size (Nat.ne_of_gt (block_lt HL2.out.prg)) (Nat.ne_of_gt (block_lt HL2.out.res)))
      have z0 := block_cell HX.out 0
      have f0 := block_free HX.out 0
      have z1 := block_cell HX.out 1
      have f1 := block_free HX.out 1
      have z2 := block_cell HX.out 2
      have f2 := block_free HX.out 2
      have z3 := block_cell HX.out 3
      have f3 := block_free HX.out 3
      have z4 := block_cell HX.out 4
      have f4 := block_free HX.out 4
      have z5 := block_cell HX.out 5
      have f5 := block_free HX.out 5
      have z6 := block_cell HX.out 6
      have f6 := block_free HX.out 6
      have z7 := block_cell HX.out 7
      have f7 := block_free HX.out 7
      have z8 := block_cell HX.out 8
      have f8 := block_free HX.out 8
      have zl := block_lt HX.out
      simp at z0 z1 z2 z3 z4 z5 z6 z7 z8
      clear HX
      refine wpAnyH_take (i := 17) (oi := ⟨some 24, .build 27 #[(2, .tmp 8), (0, .tmp 13), (1, .tmp 18), (3, .tmp 23)], 27, "exact.go:74", #[⟨1, .data⟩, ⟨6, .data⟩, ⟨11, .data⟩, ⟨16, .data⟩], none⟩) (v := .agg #[(.slice (some ⟨w3.heap.size, 0, none⟩) 0 (p.nc + 1)), (.slice (some ⟨W2.heap.size, 0, none⟩) 0 (p.ns + 1)), .int .i64 (p.en 0), .int .i64 (p.en 1), .int .i64 (p.en 2), .int .i64 (p.en 3), .int .i64 (p.en 4), .int .i64 (p.en 5), (.slice (some ⟨w1.heap.size, 0, none⟩) 0 (p.n + 1))]) rfl (by kernel_rfl) (by kernel_rfl) (by kernel_rfl) (fun _ _ _ h => h) (Or.inl ⟨by rfl, fun w' hSw => ?_⟩) HL4.out ?_
      ·go_simp
      simp only [Act.put, lsA, lsB, lsC]
      refine wpAnyH_ready (rs := [19]) (by kernel_rfl) (by simp) ?_
      refine AllReadyH.cons rfl (fun K hK => ?_) AllReadyH.nil
      go_simp
      go_wp2_with fail
      refine hK.out _ _ ⟨HF.out.prg, HF.out.res, HF.out.bel⟩ (fun _ => ?_)
      clear hK K
      refine wpAnyH_done (by kernel_rfl) ?_ _
      go_wp2
      go_meet
      case rel => exact ⟨_, _, _, _, rfl, HF.out⟩
   ·go_simp
    go_wp2_with fail
    obtain ⟨w2, hw⟩ : ∃ w2, w1.alloc (.cells #[.slice none 0 0, .slice none 0 0, .int .i64 0, .int .i64 0, .int .i64 0, .int .i64 0, .int .i64 0, .int .i64 0, .slice none 0 0] 27) = w2 := ⟨_, rfl⟩
    have HB2 : Hid (Below w1.heap.size w1 w2) := by rw [← hw]; exact below_alloc1 _ _
    have HA2 : Hid (w2.heap[w1.heap.size]? = some (.cells #[.slice none 0 0, .slice none 0 0, .int .i64 0, .int .i64 0, .int .i64 0, .int .i64 0, .int .i64 0, .int .i64 0, .slice none 0 0] 27 (0, 0))) := by rw [← hw]; exact alloc_atK _ _
    rw [hw]
    clear hw
    have HL2 := hide (HL1.out.next HB2.out)
    refine hK.out _ _ HL2.out (fun _ => ?_)
    clear hK K
    refine wpAnyH_ready (rs := [6, 16]) (by kernel_rfl) (by simp) ?_
    refine AllReadyH.cons rfl (fun K hK => ?_) (AllReadyH.cons rfl (fun K hK => ?_) AllReadyH.nil)
    ·obtain ⟨w3, rm, om, gm⟩ := run_make_own (P := Tryz.prog) w2 W.heap.size 22 28 iU (.int .u64 0) 1 Tryz.underlying22 hU hU0 hU1 .i64 .i64 (p.nc + 1) (by rw [hU2]; omega) (by unfold maxLen; omega) HL2.out.bel.size
     rw [show ((p.nc + 1 : Nat) : Int) = (p.nc : Int) + 1 by omega] at rm
     have HB3 : Hid (Below w2.heap.size w2 w3) := below_none9 gm
     have HO3 := hide om
     clear om gm
     go_simp
     go_wp2_with fail
     clear rm
     have HL3 := hide (HL2.out.next HB3.out)
     refine hK.out _ _ HL3.out (fun _ => ?_)
     clear hK K
     refine wpAnyH_ready (rs := [16]) (by kernel_rfl) (by simp) ?_
     refine AllReadyH.cons rfl (fun K hK => ?_) AllReadyH.nil
     ·obtain ⟨w4, rm, om, gm⟩ := run_make_own (P := Tryz.prog) w3 W.heap.size 25 42 iN (.agg #[.int .i64 0, .int .i64 0]) 2 Tryz.underlying25 hN hN0 hN1 .i64 .i64 (p.n + 1) (by rw [hN2]; omega) (by unfold maxLen; omega) HL3.out.bel.size
      rw [show ((p.n + 1 : Nat) : Int) = (p.n : Int) + 1 by omega] at rm
      have HB4 : Hid (Below w3.heap.size w3 w4) := below_none9 gm
      have HO4 := hide om
      clear om gm
      go_simp
      go_wp2_with fail
      clear rm
      have HL4 := hide (HL3.out.next HB4.out)
      refine hK.out _ _ HL4.out (fun _ => ?_)
      clear hK K
      have HX : Hid (w4.heap[w1.heap.size]? = some (.cells #[.slice none 0 0, .slice none 0 0, .int .i64 0, .int .i64 0, .int .i64 0, .int .i64 0, .int .i64 0, .int .i64 0, .slice none 0 0] 27 (0, 0))) := ((HB4.out.block _ (block_lt ((HB3.out.block _ (block_lt HA2.out)).trans HA2.out))).trans ((HB3.out.block _ (block_lt HA2.out)).trans HA2.out))
      have HF := hide (ld_fill (cb := w1.heap.size) HL4.out HX.out (row_quietT HO3.out (grown_of_below HB4.out none)) (row_quietT (row_quietT (row_quietT HO1.out (grown_of_below HB2.out none)) (grown_of_below HB3.out none)) (grown_of_below HB4.out none)) HO4.out HL1.out.bel.size (Nat.ne_of_gt (block_lt HL1.out.prg)) (Nat.ne_of_gt (block_lt HL1.out.res)))
      have z0 := block_cell HX.out 0
      have f0 := block_free HX.out 0
      have z1 := block_cell HX.out 1
      have f1 := block_free HX.out 1
      have z2 := block_cell HX.out 2
      have f2 := block_free HX.out 2
      have z3 := block_cell HX.out 3
      have f3 := block_free HX.out 3
      have z4 := block_cell HX.out 4
      have f4 := block_free HX.out 4
      have z5 := block_cell HX.out 5
      have f5 := block_free HX.out 5
      have z6 := block_cell HX.out 6
      have f6 := block_free HX.out 6
      have z7 := block_cell HX.out 7
      have f7 := block_free HX.out 7
      have z8 := block_cell HX.out 8
      have f8 := block_free HX.out 8
      have zl := block_lt HX.out
      simp at z0 z1 z2 z3 z4 z5 z6 z7 z8
      clear HX
      refine wpAnyH_take (i := 17) (oi := ⟨some 24, .build 27 #[(2, .tmp 8), (0, .tmp 13), (1, .tmp 18), (3, .tmp 23)], 27, "exact.go:74", #[⟨1, .data⟩, ⟨6, .data⟩, ⟨11, .data⟩, ⟨16, .data⟩], none⟩) (v := .agg #[(.slice (some ⟨w2.heap.size, 0, none⟩) 0 (p.nc + 1)), (.slice (some ⟨W2.heap.size, 0, none⟩) 0 (p.ns + 1)), .int .i64 (p.en 0), .int .i64 (p.en 1), .int .i64 (p.en 2), .int .i64 (p.en 3), .int .i64 (p.en 4), .int .i64 (p.en 5), (.slice (some ⟨w3.heap.size, 0, none⟩) 0 (p.n + 1))]) rfl (by kernel_rfl) (by kernel_rfl) (by kernel_rfl) (fun _ _ _ h => h) (Or.inl ⟨by rfl, fun w' hSw => ?_⟩) HL4.out ?_
      ·go_simp
      simp only [Act.put, lsA, lsB, lsC]
      refine wpAnyH_ready (rs := [19]) (by kernel_rfl) (by simp) ?_
      refine AllReadyH.cons rfl (fun K hK => ?_) AllReadyH.nil
      go_simp
      go_wp2_with fail
      refine hK.out _ _ ⟨HF.out.prg, HF.out.res, HF.out.bel⟩ (fun _ => ?_)
      clear hK K
      refine wpAnyH_done (by kernel_rfl) ?_ _
      go_wp2
      go_meet
      case rel => exact ⟨_, _, _, _, rfl, HF.out⟩
    ·obtain ⟨w3, rm, om, gm⟩ := run_make_own (P := Tryz.prog) w2 W.heap.size 25 42 iN (.agg #[.int .i64 0, .int .i64 0]) 2 Tryz.underlying25 hN hN0 hN1 .i64 .i64 (p.n + 1) (by rw [hN2]; omega) (by unfold maxLen; omega) HL2.out.bel.size
     rw [show ((p.n + 1 : Nat) : Int) = (p.n : Int) + 1 by omega] at rm
     have HB3 : Hid (Below w2.heap.size w2 w3) := below_none9 gm
     have HO3 := hide om
     clear om gm
     go_simp
     go_wp2_with fail
     clear rm
     have HL3 := hide (HL2.out.next HB3.out)
     refine hK.out _ _ HL3.out (fun _ => ?_)
     clear hK K
     refine wpAnyH_ready (rs := [6]) (by kernel_rfl) (by simp) ?_
     refine AllReadyH.cons rfl (fun K hK => ?_) AllReadyH.nil
     ·obtain ⟨w4, rm, om, gm⟩ := run_make_own (P := Tryz.prog) w3 W.heap.size 22 28 iU (.int .u64 0) 1 Tryz.underlying22 hU hU0 hU1 .i64 .i64 (p.nc + 1) (by rw [hU2]; omega) (by unfold maxLen; omega) HL3.out.bel.size
      rw [show ((p.nc + 1 : Nat) : Int) = (p.nc : Int) + 1 by omega] at rm
      have HB4 : Hid (Below w3.heap.size w3 w4) := below_none9 gm
      have HO4 := hide om
      clear om gm
      go_simp
      go_wp2_with fail
      clear rm
      have HL4 := hide (HL3.out.next HB4.out)
      refine hK.out _ _ HL4.out (fun _ => ?_)
      clear hK K
      have HX : Hid (w4.heap[w1.heap.size]? = some (.cells #[.slice none 0 0, .slice none 0 0, .int .i64 0, .int .i64 0, .int .i64 0, .int .i64 0, .int .i64 0, .int .i64 0, .slice none 0 0] 27 (0, 0))) := ((HB4.out.block _ (block_lt ((HB3.out.block _ (block_lt HA2.out)).trans HA2.out))).trans ((HB3.out.block _ (block_lt HA2.out)).trans HA2.out))
      have HF := hide (ld_fill (cb := w1.heap.size) HL4.out HX.out HO4.out (row_quietT (row_quietT (row_quietT HO1.out (grown_of_below HB2.out none)) (grown_of_below HB3.out none)) (grown_of_below HB4.out none)) (row_quietT HO3.out (grown_of_below HB4.out none)) HL1.out.bel.size (Nat.ne_of_gt (block_lt HL1.out.prg)) (Nat.ne_of_gt (block_lt HL1.out.res)))
      have z0 := block_cell HX.out 0
      have f0 := block_free HX.out 0
      have z1 := block_cell HX.out 1
      have f1 := block_free HX.out 1
      have z2 := block_cell HX.out 2
      have f2 := block_free HX.out 2
      have z3 := block_cell HX.out 3
      have f3 := block_free HX.out 3
      have z4 := block_cell HX.out 4
      have f4 := block_free HX.out 4
      have z5 := block_cell HX.out 5
      have f5 := block_free HX.out 5
      have z6 := block_cell HX.out 6
      have f6 := block_free HX.out 6
      have z7 := block_cell HX.out 7
      have f7 := block_free HX.out 7
      have z8 := block_cell HX.out 8
      have f8 := block_free HX.out 8
      have zl := block_lt HX.out
      simp at z0 z1 z2 z3 z4 z5 z6 z7 z8
      clear HX
      refine wpAnyH_take (i := 17) (oi := ⟨some 24, .build 27 #[(2, .tmp 8), (0, .tmp 13), (1, .tmp 18), (3, .tmp 23)], 27, "exact.go:74", #[⟨1, .data⟩, ⟨6, .data⟩, ⟨11, .data⟩, ⟨16, .data⟩], none⟩) (v := .agg #[(.slice (some ⟨w3.heap.size, 0, none⟩) 0 (p.nc + 1)), (.slice (some ⟨W2.heap.size, 0, none⟩) 0 (p.ns + 1)), .int .i64 (p.en 0), .int .i64 (p.en 1), .int .i64 (p.en 2), .int .i64 (p.en 3), .int .i64 (p.en 4), .int .i64 (p.en 5), (.slice (some ⟨w2.heap.size, 0, none⟩) 0 (p.n + 1))]) rfl (by kernel_rfl) (by kernel_rfl) (by kernel_rfl) (fun _ _ _ h => h) (Or.inl ⟨by rfl, fun w' hSw => ?_⟩) HL4.out ?_
      ·go_simp
      simp only [Act.put, lsA, lsB, lsC]
      refine wpAnyH_ready (rs := [19]) (by kernel_rfl) (by simp) ?_
      refine AllReadyH.cons rfl (fun K hK => ?_) AllReadyH.nil
      go_simp
      go_wp2_with fail
      refine hK.out _ _ ⟨HF.out.prg, HF.out.res, HF.out.bel⟩ (fun _ => ?_)
      clear hK K
      refine wpAnyH_done (by kernel_rfl) ?_ _
      go_wp2
      go_meet
      case rel => exact ⟨_, _, _, _, rfl, HF.out⟩
  ·obtain ⟨w1, rm, om, gm⟩ := run_make_own (P := Tryz.prog) W2.drew W.heap.size 25 42 iN (.agg #[.int .i64 0, .int .i64 0]) 2 Tryz.underlying25 hN hN0 hN1 .i64 .i64 (p.n + 1) (by rw [hN2]; omega) (by unfold maxLen; omega) HL0.out.bel.size
   rw [show ((p.n + 1 : Nat) : Int) = (p.n : Int) + 1 by omega] at rm
   have HB1 : Hid (Below W2.drew.heap.size W2.drew w1) := below_none9 gm
   have HO1 := hide om
   clear om gm
   go_simp
   go_wp2_with fail
   clear rm
   have HL1 := hide (HL0.out.next HB1.out)
   refine hK.out _ _ HL1.out (fun _ => ?_)
   clear hK K
   refine wpAnyH_ready (rs := [6, 11, 18]) (by kernel_rfl) (by simp) ?_
   refine AllReadyH.cons rfl (fun K hK => ?_) (AllReadyH.cons rfl (fun K hK => ?_) (AllReadyH.cons rfl (fun K hK => ?_) AllReadyH.nil))
   ·obtain ⟨w2, rm, om, gm⟩ := run_make_own (P := Tryz.prog) w1 W.heap.size 22 28 iU (.int .u64 0) 1 Tryz.underlying22 hU hU0 hU1 .i64 .i64 (p.nc + 1) (by rw [hU2]; omega) (by unfold maxLen; omega) HL1.out.bel.size
    rw [show ((p.nc + 1 : Nat) : Int) = (p.nc : Int) + 1 by omega] at rm
    have HB2 : Hid (Below w1.heap.size w1 w2) := below_none9 gm
    have HO2 := hide om
    clear om gm
    go_simp
    go_wp2_with fail
    clear rm
    have HL2 := hide (HL1.out.next HB2.out)
    refine hK.out _ _ HL2.out (fun _ => ?_)
    clear hK K
    refine wpAnyH_ready (rs := [11, 18]) (by kernel_rfl) (by simp) ?_
    refine AllReadyH.cons rfl (fun K hK => ?_) (AllReadyH.cons rfl (fun K hK => ?_) AllReadyH.nil)
    ·obtain ⟨w3, rm, om, gm⟩ := run_make_own (P := Tryz.prog) w2 W.heap.size 23 3 iI (.int .i64 0) 1 Tryz.underlying23 hI hI0 hI1 .i64 .i64 (p.ns + 1) (by rw [hI2]; omega) (by unfold maxLen; omega) HL2.out.bel.size
     rw [show ((p.ns + 1 : Nat) : Int) = (p.ns : Int) + 1 by omega] at rm
     have HB3 : Hid (Below w2.heap.size w2 w3) := below_none9 gm
     have HO3 := hide om
     clear om gm
     go_simp
     go_wp2_with fail
     clear rm
     have HL3 := hide (HL2.out.next HB3.out)
     refine hK.out _ _ HL3.out (fun _ => ?_)
     clear hK K
     refine wpAnyH_take (i := 17) (oi := ⟨some 24, .build 27 #[(2, .tmp 8), (0, .tmp 13), (1, .tmp 18), (3, .tmp 23)], 27, "exact.go:74", #[⟨1, .data⟩, ⟨6, .data⟩, ⟨11, .data⟩, ⟨16, .data⟩], none⟩) (v := .agg #[(.slice (some ⟨w1.heap.size, 0, none⟩) 0 (p.nc + 1)), (.slice (some ⟨w2.heap.size, 0, none⟩) 0 (p.ns + 1)), .int .i64 (p.en 0), .int .i64 (p.en 1), .int .i64 (p.en 2), .int .i64 (p.en 3), .int .i64 (p.en 4), .int .i64 (p.en 5), (.slice (some ⟨W2.heap.size, 0, none⟩) 0 (p.n + 1))]) rfl (by kernel_rfl) (by kernel_rfl) (by kernel_rfl) (fun _ _ _ h => h) (Or.inl ⟨by rfl, fun w' hSw => ?_⟩) HL3.out ?_
     ·go_simp
     simp only [Act.put, lsA, lsB, lsC]
     refine wpAnyH_ready (rs := [18]) (by kernel_rfl) (by simp) ?_
     refine AllReadyH.cons rfl (fun K hK => ?_) AllReadyH.nil
     ·go_simp
      go_wp2_with fail
      obtain ⟨w4, hw⟩ : ∃ w4, w3.alloc (.cells #[.slice none 0 0, .slice none 0 0, .int .i64 0, .int .i64 0, .int .i64 0, .int .i64 0, .int .i64 0, .int .i64 0, .slice none 0 0] 27) = w4 := ⟨_, rfl⟩
      have HB4 : Hid (Below w3.heap.size w3 w4) := by rw [← hw]; exact below_alloc1 _ _
      have HA4 : Hid (w4.heap[w3.heap.size]? = some (.cells #[.slice none 0 0, .slice none 0 0, .int .i64 0, .int .i64 0, .int .i64 0, .int .i64 0, .int .i64 0, .int .i64 0, .slice none 0 0] 27 (0, 0))) := by rw [← hw]; exact alloc_atK _ _
      rw [hw]
      clear hw
      have HL4 := hide (HL3.out.next HB4.out)
      refine hK.out _ _ HL4.out (fun _ => ?_)
      clear hK K
      have HX : Hid (w4.heap[w3.heap.size]? = some (.cells #[.slice none 0 0, .slice none 0 0, .int .i64 0, .int .i64 0, .int .i64 0, .int .i64 0, .int .i64 0, .int .i64 0, .slice none 0 0] 27 (0, 0))) := HA4.out
      have HF := hide (ld_fill (cb := w3.heap.size) HL4.out HX.out (row_quietT (row_quietT HO2.out (grown_of_below HB3.out none)) (grown_of_below HB4.out none)) (row_quietT HO3.out (grown_of_below HB4.out none)) (row_quietT (row_quietT (row_quietT HO1.out (grown_of_below HB2.out none)) (grown_of_below HB3.out none)) (grown_of_below HB4.out none)) HL3.out.bel.size (Nat.ne_of_gt (block_lt HL3.out.prg)) (Nat.ne_of_gt (block_lt HL3.out.res)))
      have z0 := block_cell HX.out 0
      have f0 := block_free HX.out 0
      have z1 := block_cell HX.out 1
      have f1 := block_free HX.out 1
      have z2 := block_cell HX.out 2
      have f2 := block_free HX.out 2
      have z3 := block_cell HX.out 3
      have f3 := block_free HX.out 3
      have z4 := block_cell HX.out 4
      have f4 := block_free HX.out 4
      have z5 := block_cell HX.out 5
      have f5 := block_free HX.out 5
      have z6 := block_cell HX.out 6
      have f6 := block_free HX.out 6
      have z7 := block_cell HX.out 7
      have f7 := block_free HX.out 7
      have z8 := block_cell HX.out 8
      have f8 := block_free HX.out 8
      have zl := block_lt HX.out
      simp at z0 z1 z2 z3 z4 z5 z6 z7 z8
      clear HX
      refine wpAnyH_ready (rs := [19]) (by kernel_rfl) (by simp) ?_
      refine AllReadyH.cons rfl (fun K hK => ?_) AllReadyH.nil
      go_simp
      go_wp2_with fail
      refine hK.out _ _ ⟨HF.out.prg, HF.out.res, HF.out.bel⟩ (fun _ => ?_)
      clear hK K
      refine wpAnyH_done (by kernel_rfl) ?_ _
      go_wp2
      go_meet
      case rel => exact ⟨_, _, _, _, rfl, HF.out⟩
    ·go_simp
     go_wp2_with fail
     obtain ⟨w3, hw⟩ : ∃ w3, w2.alloc (.cells #[.slice none 0 0, .slice none 0 0, .int .i64 0, .int .i64 0, .int .i64 0, .int .i64 0, .int .i64 0, .int .i64 0, .slice none 0 0] 27) = w3 := ⟨_, rfl⟩
     have HB3 : Hid (Below w2.heap.size w2 w3) := by rw [← hw]; exact below_alloc1 _ _
     have HA3 : Hid (w3.heap[w2.heap.size]? = some (.cells #[.slice none 0 0, .slice none 0 0, .int .i64 0, .int .i64 0, .int .i64 0, .int .i64 0, .int .i64 0, .int .i64 0, .slice none 0 0] 27 (0, 0))) := by rw [← hw]; exact alloc_atK _ _
     rw [hw]
     clear hw
     have HL3 := hide (HL2.out.next HB3.out)
     refine hK.out _ _ HL3.out (fun _ => ?_)
     clear hK K
     refine wpAnyH_ready (rs := [11]) (by kernel_rfl) (by simp) ?_
     refine AllReadyH.cons rfl (fun K hK => ?_) AllReadyH.nil
     ·obtain ⟨w4, rm, om, gm⟩ := run_make_own (P := Tryz.prog) w3 W.heap.size 23 3 iI (.int .i64 0) 1 Tryz.underlying23 hI hI0 hI1 .i64 .i64 (p.ns + 1) (by rw [hI2]; omega) (by unfold maxLen; omega) HL3.out.bel.size
      rw [show ((p.ns + 1 : Nat) : Int) = (p.ns : Int) + 1 by omega] at rm
      have HB4 : Hid (Below w3.heap.size w3 w4) := below_none9 gm
      have HO4 := hide om
      clear om gm
      go_simp
      go_wp2_with fail
      clear rm
      have HL4 := hide (HL3.out.next HB4.out)
      refine hK.out _ _ HL4.out (fun _ => ?_)
      clear hK K
      have HX : Hid (w4.heap[w2.heap.size]? = some (.cells #[.slice none 0 0, .slice none 0 0, .int .i64 0, .int .i64 0, .int .i64 0, .int .i64 0, .int .i64 0, .int .i64 0, .slice none 0 0] 27 (0, 0))) := ((HB4.out.block _ (block_lt HA3.out)).trans HA3.out)
      have HF := hide (ld_fill (cb := w2.heap.size) HL4.out HX.out (row_quietT (row_quietT HO2.out (grown_of_below HB3.out none)) (grown_of_below HB4.out none)) HO4.out (row_quietT (row_quietT (row_quietT HO1.out (grown_of_below HB2.out none)) (grown_of_below HB3.out none)) (grown_of_below HB4.out none)) HL2.out.bel.size (Nat.ne_of_gt (block_lt HL2.out.prg)) (Nat.ne_of_gt (block_lt HL2.out.res)))
      have z0 := block_cell HX.out 0
      have f0 := block_free HX.out 0
      have z1 := block_cell HX.out 1
      have f1 := block_free HX.out 1
      have z2 := block_cell HX.out 2
      have f2 := block_free HX.out 2
      have z3 := block_cell HX.out 3
      have f3 := block_free HX.out 3
      have z4 := block_cell HX.out 4
      have f4 := block_free HX.out 4
      have z5 := block_cell HX.out 5
      have f5 := block_free HX.out 5
      have z6 := block_cell HX.out 6
      have f6 := block_free HX.out 6
      have z7 := block_cell HX.out 7
      have f7 := block_free HX.out 7
      have z8 := block_cell HX.out 8
      have f8 := block_free HX.out 8
      have zl := block_lt HX.out
      simp at z0 z1 z2 z3 z4 z5 z6 z7 z8
      clear HX
      refine wpAnyH_take (i := 17) (oi := ⟨some 24, .build 27 #[(2, .tmp 8), (0, .tmp 13), (1, .tmp 18), (3, .tmp 23)], 27, "exact.go:74", #[⟨1, .data⟩, ⟨6, .data⟩, ⟨11, .data⟩, ⟨16, .data⟩], none⟩) (v := .agg #[(.slice (some ⟨w1.heap.size, 0, none⟩) 0 (p.nc + 1)), (.slice (some ⟨w3.heap.size, 0, none⟩) 0 (p.ns + 1)), .int .i64 (p.en 0), .int .i64 (p.en 1), .int .i64 (p.en 2), .int .i64 (p.en 3), .int .i64 (p.en 4), .int .i64 (p.en 5), (.slice (some ⟨W2.heap.size, 0, none⟩) 0 (p.n + 1))]) rfl (by kernel_rfl) (by kernel_rfl) (by kernel_rfl) (fun _ _ _ h => h) (Or.inl ⟨by rfl, fun w' hSw => ?_⟩) HL4.out ?_
      ·go_simp
      simp only [Act.put, lsA, lsB, lsC]
      refine wpAnyH_ready (rs := [19]) (by kernel_rfl) (by simp) ?_
      refine AllReadyH.cons rfl (fun K hK => ?_) AllReadyH.nil
      go_simp
      go_wp2_with fail
      refine hK.out _ _ ⟨HF.out.prg, HF.out.res, HF.out.bel⟩ (fun _ => ?_)
      clear hK K
      refine wpAnyH_done (by kernel_rfl) ?_ _
      go_wp2
      go_meet
      case rel => exact ⟨_, _, _, _, rfl, HF.out⟩
   ·obtain ⟨w2, rm, om, gm⟩ := run_make_own (P := Tryz.prog) w1 W.heap.size 23 3 iI (.int .i64 0) 1 Tryz.underlying23 hI hI0 hI1 .i64 .i64 (p.ns + 1) (by rw [hI2]; omega) (by unfold maxLen; omega) HL1.out.bel.size
    rw [show ((p.ns + 1 : Nat) : Int) = (p.ns : Int) + 1 by omega] at rm
    have HB2 : Hid (Below w1.heap.size w1 w2) := below_none9 gm
    have HO2 := hide om
    clear om gm
    go_simp
    go_wp2_with fail
    clear rm
    have HL2 := hide (HL1.out.next HB2.out)
    refine hK.out _ _ HL2.out (fun _ => ?_)
    clear hK K
    refine wpAnyH_ready (rs := [6, 18]) (by kernel_rfl) (by simp) ?_
    refine AllReadyH.cons rfl (fun K hK => ?_) (AllReadyH.cons rfl (fun K hK => ?_) AllReadyH.nil)
    ·obtain ⟨w3, rm, om, gm⟩ := run_make_own (P := Tryz.prog) w2 W.heap.size 22 28 iU (.int .u64 0) 1 Tryz.underlying22 hU hU0 hU1 .i64 .i64 (p.nc + 1) (by rw [hU2]; omega) (by unfold maxLen; omega) HL2.out.bel.size
     rw [show ((p.nc + 1 : Nat) : Int) = (p.nc : Int) + 1 by omega] at rm
     have HB3 : Hid (Below w2.heap.size w2 w3) := below_none9 gm
     have HO3 := hide om
     clear om gm
     go_simp
     go_wp2_with fail
     clear rm
     have HL3 := hide (HL2.out.next HB3.out)
     refine hK.out _ _ HL3.out (fun _ => ?_)
     clear hK K
     refine wpAnyH_take (i := 17) (oi := ⟨some 24, .build 27 #[(2, .tmp 8), (0, .tmp 13), (1, .tmp 18), (3, .tmp 23)], 27, "exact.go:74", #[⟨1, .data⟩, ⟨6, .data⟩, ⟨11, .data⟩, ⟨16, .data⟩], none⟩) (v := .agg #[(.slice (some ⟨w2.heap.size, 0, none⟩) 0 (p.nc + 1)), (.slice (some ⟨w1.heap.size, 0, none⟩) 0 (p.ns + 1)), .int .i64 (p.en 0), .int .i64 (p.en 1), .int .i64 (p.en 2), .int .i64 (p.en 3), .int .i64 (p.en 4), .int .i64 (p.en 5), (.slice (some ⟨W2.heap.size, 0, none⟩) 0 (p.n + 1))]) rfl (by kernel_rfl) (by kernel_rfl) (by kernel_rfl) (fun _ _ _ h => h) (Or.inl ⟨by rfl, fun w' hSw => ?_⟩) HL3.out ?_
     ·go_simp
     simp only [Act.put, lsA, lsB, lsC]
     refine wpAnyH_ready (rs := [18]) (by kernel_rfl) (by simp) ?_
     refine AllReadyH.cons rfl (fun K hK => ?_) AllReadyH.nil
     ·go_simp
      go_wp2_with fail
      obtain ⟨w4, hw⟩ : ∃ w4, w3.alloc (.cells #[.slice none 0 0, .slice none 0 0, .int .i64 0, .int .i64 0, .int .i64 0, .int .i64 0, .int .i64 0, .int .i64 0, .slice none 0 0] 27) = w4 := ⟨_, rfl⟩
      have HB4 : Hid (Below w3.heap.size w3 w4) := by rw [← hw]; exact below_alloc1 _ _
      have HA4 : Hid (w4.heap[w3.heap.size]? = some (.cells #[.slice none 0 0, .slice none 0 0, .int .i64 0, .int .i64 0, .int .i64 0, .int .i64 0, .int .i64 0, .int .i64 0, .slice none 0 0] 27 (0, 0))) := by rw [← hw]; exact alloc_atK _ _
      rw [hw]
      clear hw
      have HL4 := hide (HL3.out.next HB4.out)
      refine hK.out _ _ HL4.out (fun _ => ?_)
      clear hK K
      have HX : Hid (w4.heap[w3.heap.size]? = some (.cells #[.slice none 0 0, .slice none 0 0, .int .i64 0, .int .i64 0, .int .i64 0, .int .i64 0, .int .i64 0, .int .i64 0, .slice none 0 0] 27 (0, 0))) := HA4.out
      have HF := hide (ld_fill (cb := w3.heap.size) HL4.out HX.out (row_quietT HO3.out (grown_of_below HB4.out none)) (row_quietT (row_quietT HO2.out (grown_of_below HB3.out none)) (grown_of_below HB4.out none)) (row_quietT (row_quietT (row_quietT HO1.out (grown_of_below HB2.out none)) (grown_of_below HB3.out none)) (grown_of_below HB4.out none)) HL3.out.bel.size (Nat.ne_of_gt (block_lt HL3.out.prg)) (Nat.ne_of_gt (block_lt HL3.out.res)))
      have z0 := block_cell HX.out 0
      have f0 := block_free HX.out 0
      have z1 := block_cell HX.out 1
      have f1 := block_free HX.out 1
      have z2 := block_cell HX.out 2
      have f2 := block_free HX.out 2
      have z3 := block_cell HX.out 3
      have f3 := block_free HX.out 3
      have z4 := block_cell HX.out 4
      have f4 := block_free HX.out 4
      have z5 := block_cell HX.out 5
      have f5 := block_free HX.out 5
      have z6 := block_cell HX.out 6
      have f6 := block_free HX.out 6
      have z7 := block_cell HX.out 7
      have f7 := block_free HX.out 7
      have z8 := block_cell HX.out 8
      have f8 := block_free HX.out 8
      have zl := block_lt HX.out
      simp at z0 z1 z2 z3 z4 z5 z6 z7 z8
      clear HX
      refine wpAnyH_ready (rs := [19]) (by kernel_rfl) (by simp) ?_
      refine AllReadyH.cons rfl (fun K hK => ?_) AllReadyH.nil
      go_simp
      go_wp2_with fail
      refine hK.out _ _ ⟨HF.out.prg, HF.out.res, HF.out.bel⟩ (fun _ => ?_)
      clear hK K
      refine wpAnyH_done (by kernel_rfl) ?_ _
      go_wp2
      go_meet
      case rel => exact ⟨_, _, _, _, rfl, HF.out⟩
    ·go_simp
     go_wp2_with fail
     obtain ⟨w3, hw⟩ : ∃ w3, w2.alloc (.cells #[.slice none 0 0, .slice none 0 0, .int .i64 0, .int .i64 0, .int .i64 0, .int .i64 0, .int .i64 0, .int .i64 0, .slice none 0 0] 27) = w3 := ⟨_, rfl⟩
     have HB3 : Hid (Below w2.heap.size w2 w3) := by rw [← hw]; exact below_alloc1 _ _
     have HA3 : Hid (w3.heap[w2.heap.size]? = some (.cells #[.slice none 0 0, .slice none 0 0, .int .i64 0, .int .i64 0, .int .i64 0, .int .i64 0, .int .i64 0, .int .i64 0, .slice none 0 0] 27 (0, 0))) := by rw [← hw]; exact alloc_atK _ _
     rw [hw]
     clear hw
     have HL3 := hide (HL2.out.next HB3.out)
     refine hK.out _ _ HL3.out (fun _ => ?_)
     clear hK K
     refine wpAnyH_ready (rs := [6]) (by kernel_rfl) (by simp) ?_
     refine AllReadyH.cons rfl (fun K hK => ?_) AllReadyH.nil
     ·obtain ⟨w4, rm, om, gm⟩ := run_make_own (P := Tryz.prog) w3 W.heap.size 22 28 iU (.int .u64 0) 1 Tryz.underlying22 hU hU0 hU1 .i64 .i64 (p.nc + 1) (by rw [hU2]; omega) (by unfold maxLen; omega) HL3.out.bel.size
      rw [show ((p.nc + 1 : Nat) : Int) = (p.nc : Int) + 1 by omega] at rm
      have HB4 : Hid (Below w3.heap.size w3 w4) := below_none9 gm
      have HO4 := hide om
      clear om gm
      go_simp
      go_wp2_with fail
      clear rm
      have HL4 := hide (HL3.out.next HB4.out)
      refine hK.out _ _ HL4.out (fun _ => ?_)
      clear hK K
      have HX : Hid (w4.heap[w2.heap.size]? = some (.cells #[.slice none 0 0, .slice none 0 0, .int .i64 0, .int .i64 0, .int .i64 0, .int .i64 0, .int .i64 0, .int .i64 0, .slice none 0 0] 27 (0, 0))) := ((HB4.out.block _ (block_lt HA3.out)).trans HA3.out)
      have HF := hide (ld_fill (cb := w2.heap.size) HL4.out HX.out HO4.out (row_quietT (row_quietT HO2.out (grown_of_below HB3.out none)) (grown_of_below HB4.out none)) (row_quietT (row_quietT (row_quietT HO1.out (grown_of_below HB2.out none)) (grown_of_below HB3.out none)) (grown_of_below HB4.out none)) HL2.out.bel.size (Nat.ne_of_gt (block_lt HL2.out.prg)) (Nat.ne_of_gt (block_lt HL2.out.res)))
      have z0 := block_cell HX.out 0
      have f0 := block_free HX.out 0
      have z1 := block_cell HX.out 1
      have f1 := block_free HX.out 1
      have z2 := block_cell HX.out 2
      have f2 := block_free HX.out 2
      have z3 := block_cell HX.out 3
      have f3 := block_free HX.out 3
      have z4 := block_cell HX.out 4
      have f4 := block_free HX.out 4
      have z5 := block_cell HX.out 5
      have f5 := block_free HX.out 5
      have z6 := block_cell HX.out 6
      have f6 := block_free HX.out 6
      have z7 := block_cell HX.out 7
      have f7 := block_free HX.out 7
      have z8 := block_cell HX.out 8
      have f8 := block_free HX.out 8
      have zl := block_lt HX.out
      simp at z0 z1 z2 z3 z4 z5 z6 z7 z8
      clear HX
      refine wpAnyH_take (i := 17) (oi := ⟨some 24, .build 27 #[(2, .tmp 8), (0, .tmp 13), (1, .tmp 18), (3, .tmp 23)], 27, "exact.go:74", #[⟨1, .data⟩, ⟨6, .data⟩, ⟨11, .data⟩, ⟨16, .data⟩], none⟩) (v := .agg #[(.slice (some ⟨w3.heap.size, 0, none⟩) 0 (p.nc + 1)), (.slice (some ⟨w1.heap.size, 0, none⟩) 0 (p.ns + 1)), .int .i64 (p.en 0), .int .i64 (p.en 1), .int .i64 (p.en 2), .int .i64 (p.en 3), .int .i64 (p.en 4), .int .i64 (p.en 5), (.slice (some ⟨W2.heap.size, 0, none⟩) 0 (p.n + 1))]) rfl (by kernel_rfl) (by kernel_rfl) (by kernel_rfl) (fun _ _ _ h => h) (Or.inl ⟨by rfl, fun w' hSw => ?_⟩) HL4.out ?_
      ·go_simp
      simp only [Act.put, lsA, lsB, lsC]
      refine wpAnyH_ready (rs := [19]) (by kernel_rfl) (by simp) ?_
      refine AllReadyH.cons rfl (fun K hK => ?_) AllReadyH.nil
      go_simp
      go_wp2_with fail
      refine hK.out _ _ ⟨HF.out.prg, HF.out.res, HF.out.bel⟩ (fun _ => ?_)
      clear hK K
      refine wpAnyH_done (by kernel_rfl) ?_ _
      go_wp2
      go_meet
      case rel => exact ⟨_, _, _, _, rfl, HF.out⟩
   ·go_simp
    go_wp2_with fail
    obtain ⟨w2, hw⟩ : ∃ w2, w1.alloc (.cells #[.slice none 0 0, .slice none 0 0, .int .i64 0, .int .i64 0, .int .i64 0, .int .i64 0, .int .i64 0, .int .i64 0, .slice none 0 0] 27) = w2 := ⟨_, rfl⟩
    have HB2 : Hid (Below w1.heap.size w1 w2) := by rw [← hw]; exact below_alloc1 _ _
    have HA2 : Hid (w2.heap[w1.heap.size]? = some (.cells #[.slice none 0 0, .slice none 0 0, .int .i64 0, .int .i64 0, .int .i64 0, .int .i64 0, .int .i64 0, .int .i64 0, .slice none 0 0] 27 (0, 0))) := by rw [← hw]; exact alloc_atK _ _
    rw [hw]
    clear hw
    have HL2 := hide (HL1.out.next HB2.out)
    refine hK.out _ _ HL2.out (fun _ => ?_)
    clear hK K
    refine wpAnyH_ready (rs := [6, 11]) (by kernel_rfl) (by simp) ?_
    refine AllReadyH.cons rfl (fun K hK => ?_) (AllReadyH.cons rfl (fun K hK => ?_) AllReadyH.nil)
    ·obtain ⟨w3, rm, om, gm⟩ := run_make_own (P := Tryz.prog) w2 W.heap.size 22 28 iU (.int .u64 0) 1 Tryz.underlying22 hU hU0 hU1 .i64 .i64 (p.nc + 1) (by rw [hU2]; omega) (by unfold maxLen; omega) HL2.out.bel.size
     rw [show ((p.nc + 1 : Nat) : Int) = (p.nc : Int) + 1 by omega] at rm
     have HB3 : Hid (Below w2.heap.size w2 w3) := below_none9 gm
     have HO3 := hide om
     clear om gm
     go_simp
     go_wp2_with fail
     clear rm
     have HL3 := hide (HL2.out.next HB3.out)
     refine hK.out _ _ HL3.out (fun _ => ?_)
     clear hK K
     refine wpAnyH_ready (rs := [11]) (by kernel_rfl) (by simp) ?_
     refine AllReadyH.cons rfl (fun K hK => ?_) AllReadyH.nil
     ·obtain ⟨w4, rm, om, gm⟩ := run_make_own (P := Tryz.prog) w3 W.heap.size 23 3 iI (.int .i64 0) 1 Tryz.underlying23 hI hI0 hI1 .i64 .i64 (p.ns + 1) (by rw [hI2]; omega) (by unfold maxLen; omega) HL3.out.bel.size
      rw [show ((p.ns + 1 : Nat) : Int) = (p.ns : Int) + 1 by omega] at rm
      have HB4 : Hid (Below w3.heap.size w3 w4) := below_none9 gm
      have HO4 := hide om
      clear om gm
      go_simp
      go_wp2_with fail
      clear rm
      have HL4 := hide (HL3.out.next HB4.out)
      refine hK.out _ _ HL4.out (fun _ => ?_)
      clear hK K
      have HX : Hid (w4.heap[w1.heap.size]? = some (.cells #[.slice none 0 0, .slice none 0 0, .int .i64 0, .int .i64 0, .int .i64 0, .int .i64 0, .int .i64 0, .int .i64 0, .slice none 0 0] 27 (0, 0))) := ((HB4.out.block _ (block_lt ((HB3.out.block _ (block_lt HA2.out)).trans HA2.out))).trans ((HB3.out.block _ (block_lt HA2.out)).trans HA2.out))
      have HF := hide (ld_fill (cb := w1.heap.size) HL4.out HX.out (row_quietT HO3.out (grown_of_below HB4.out none)) HO4.out (row_quietT (row_quietT (row_quietT HO1.out (grown_of_below HB2.out none)) (grown_of_below HB3.out none)) (grown_of_below HB4.out none)) HL1.out.bel.size (Nat.ne_of_gt (block_lt HL1.out.prg)) (Nat.ne_of_gt (block_lt HL1.out.res)))
      have z0 := block_cell HX.out 0
      have f0 := block_free HX.out 0
      have z1 := block_cell HX.out 1
      have f1 := block_free HX.out 1
      have z2 := block_cell HX.out 2
      have f2 := block_free HX.out 2
      have z3 := block_cell HX.out 3
      have f3 := block_free HX.out 3
      have z4 := block_cell HX.out 4
      have f4 := block_free HX.out 4
      have z5 := block_cell HX.out 5
      have f5 := block_free HX.out 5
      have z6 := block_cell HX.out 6
      have f6 := block_free HX.out 6
      have z7 := block_cell HX.out 7
      have f7 := block_free HX.out 7
      have z8 := block_cell HX.out 8
      have f8 := block_free HX.out 8
      have zl := block_lt HX.out
      simp at z0 z1 z2 z3 z4 z5 z6 z7 z8
      clear HX
      refine wpAnyH_take (i := 17) (oi := ⟨some 24, .build 27 #[(2, .tmp 8), (0, .tmp 13), (1, .tmp 18), (3, .tmp 23)], 27, "exact.go:74", #[⟨1, .data⟩, ⟨6, .data⟩, ⟨11, .data⟩, ⟨16, .data⟩], none⟩) (v := .agg #[(.slice (some ⟨w2.heap.size, 0, none⟩) 0 (p.nc + 1)), (.slice (some ⟨w3.heap.size, 0, none⟩) 0 (p.ns + 1)), .int .i64 (p.en 0), .int .i64 (p.en 1), .int .i64 (p.en 2), .int .i64 (p.en 3), .int .i64 (p.en 4), .int .i64 (p.en 5), (.slice (some ⟨W2.heap.size, 0, none⟩) 0 (p.n + 1))]) rfl (by kernel_rfl) (by kernel_rfl) (by kernel_rfl) (fun _ _ _ h => h) (Or.inl ⟨by rfl, fun w' hSw => ?_⟩) HL4.out ?_
      ·go_simp
      simp only [Act.put, lsA, lsB, lsC]
      refine wpAnyH_ready (rs := [19]) (by kernel_rfl) (by simp) ?_
      refine AllReadyH.cons rfl (fun K hK => ?_) AllReadyH.nil
      go_simp
      go_wp2_with fail
      refine hK.out _ _ ⟨HF.out.prg, HF.out.res, HF.out.bel⟩ (fun _ => ?_)
      clear hK K
      refine wpAnyH_done (by kernel_rfl) ?_ _
      go_wp2
      go_meet
      case rel => exact ⟨_, _, _, _, rfl, HF.out⟩
    ·obtain ⟨w3, rm, om, gm⟩ := run_make_own (P := Tryz.prog) w2 W.heap.size 23 3 iI (.int .i64 0) 1 Tryz.underlying23 hI hI0 hI1 .i64 .i64 (p.ns + 1) (by rw [hI2]; omega) (by unfold maxLen; omega) HL2.out.bel.size
     rw [show ((p.ns + 1 : Nat) : Int) = (p.ns : Int) + 1 by omega] at rm
     have HB3 : Hid (Below w2.heap.size w2 w3) := below_none9 gm
     have HO3 := hide om
     clear om gm
     go_simp
     go_wp2_with fail
     clear rm
     have HL3 := hide (HL2.out.next HB3.out)
     refine hK.out _ _ HL3.out (fun _ => ?_)
     clear hK K
     refine wpAnyH_ready (rs := [6]) (by kernel_rfl) (by simp) ?_
     refine AllReadyH.cons rfl (fun K hK => ?_) AllReadyH.nil
     ·obtain ⟨w4, rm, om, gm⟩ := run_make_own (P := Tryz.prog) w3 W.heap.size 22 28 iU (.int .u64 0) 1 Tryz.underlying22 hU hU0 hU1 .i64 .i64 (p.nc + 1) (by rw [hU2]; omega) (by unfold maxLen; omega) HL3.out.bel.size
      rw [show ((p.nc + 1 : Nat) : Int) = (p.nc : Int) + 1 by omega] at rm
      have HB4 : Hid (Below w3.heap.size w3 w4) := below_none9 gm
      have HO4 := hide om
      clear om gm
      go_simp
      go_wp2_with fail
      clear rm
      have HL4 := hide (HL3.out.next HB4.out)
      refine hK.out _ _ HL4.out (fun _ => ?_)
      clear hK K
      have HX : Hid (w4.heap[w1.heap.size]? = some (.cells #[.slice none 0 0, .slice none 0 0, .int .i64 0, .int .i64 0, .int .i64 0, .int .i64 0, .int .i64 0, .int .i64 0, .slice none 0 0] 27 (0, 0))) := ((HB4.out.block _ (block_lt ((HB3.out.block _ (block_lt HA2.out)).trans HA2.out))).trans ((HB3.out.block _ (block_lt HA2.out)).trans HA2.out))
      have HF := hide (ld_fill (cb := w1.heap.size) HL4.out HX.out HO4.out (row_quietT HO3.out (grown_of_below HB4.out none)) (row_quietT (row_quietT (row_quietT HO1.out (grown_of_below HB2.out none)) (grown_of_below HB3.out none)) (grown_of_below HB4.out none)) HL1.out.bel.size (Nat.ne_of_gt (block_lt HL1.out.prg)) (Nat.ne_of_gt (block_lt HL1.out.res)))
      have z0 := block_cell HX.out 0
      have f0 := block_free HX.out 0
      have z1 := block_cell HX.out 1
      have f1 := block_free HX.out 1
      have z2 := block_cell HX.out 2
      have f2 := block_free HX.out 2
      have z3 := block_cell HX.out 3
      have f3 := block_free HX.out 3
      have z4 := block_cell HX.out 4
      have f4 := block_free HX.out 4
      have z5 := block_cell HX.out 5
      have f5 := block_free HX.out 5
      have z6 := block_cell HX.out 6
      have f6 := block_free HX.out 6
      have z7 := block_cell HX.out 7
      have f7 := block_free HX.out 7
      have z8 := block_cell HX.out 8
      have f8 := block_free HX.out 8
      have zl := block_lt HX.out
      simp at z0 z1 z2 z3 z4 z5 z6 z7 z8
      clear HX
      refine wpAnyH_take (i := 17) (oi := ⟨some 24, .build 27 #[(2, .tmp 8), (0, .tmp 13), (1, .tmp 18), (3, .tmp 23)], 27, "exact.go:74", #[⟨1, .data⟩, ⟨6, .data⟩, ⟨11, .data⟩, ⟨16, .data⟩], none⟩) (v := .agg #[(.slice (some ⟨w3.heap.size, 0, none⟩) 0 (p.nc + 1)), (.slice (some ⟨w2.heap.size, 0, none⟩) 0 (p.ns + 1)), .int .i64 (p.en 0), .int .i64 (p.en 1), .int .i64 (p.en 2), .int .i64 (p.en 3), .int .i64 (p.en 4), .int .i64 (p.en 5), (.slice (some ⟨W2.heap.size, 0, none⟩) 0 (p.n + 1))]) rfl (by kernel_rfl) (by kernel_rfl) (by kernel_rfl) (fun _ _ _ h => h) (Or.inl ⟨by rfl, fun w' hSw => ?_⟩) HL4.out ?_
      ·go_simp
      simp only [Act.put, lsA, lsB, lsC]
      refine wpAnyH_ready (rs := [19]) (by kernel_rfl) (by simp) ?_
      refine AllReadyH.cons rfl (fun K hK => ?_) AllReadyH.nil
      go_simp
      go_wp2_with fail
      refine hK.out _ _ ⟨HF.out.prg, HF.out.res, HF.out.bel⟩ (fun _ => ?_)
      clear hK K
      refine wpAnyH_done (by kernel_rfl) ?_ _
      go_wp2
      go_meet
      case rel => exact ⟨_, _, _, _, rfl, HF.out⟩
  ·go_simp
   go_wp2_with fail
   obtain ⟨w1, hw⟩ : ∃ w1, (W2.alloc (.cells #[.slice none 0 0, .slice none 0 0, .int .i64 0, .int .i64 0, .int .i64 0, .int .i64 0, .int .i64 0, .int .i64 0, .slice none 0 0] 27)).drew = w1 := ⟨_, rfl⟩
   have HB1 : Hid (Below W2.drew.heap.size W2.drew w1) := by rw [← hw]; exact below_alloc1 W2.drew _
   have HA1 : Hid (w1.heap[W2.drew.heap.size]? = some (.cells #[.slice none 0 0, .slice none 0 0, .int .i64 0, .int .i64 0, .int .i64 0, .int .i64 0, .int .i64 0, .int .i64 0, .slice none 0 0] 27 (0, 0))) := by rw [← hw]; exact alloc_atK W2.drew _
   rw [hw]
   clear hw
   have HL1 := hide (HL0.out.next HB1.out)
   refine hK.out _ _ HL1.out (fun _ => ?_)
   clear hK K
   refine wpAnyH_ready (rs := [6, 11, 16]) (by kernel_rfl) (by simp) ?_
   refine AllReadyH.cons rfl (fun K hK => ?_) (AllReadyH.cons rfl (fun K hK => ?_) (AllReadyH.cons rfl (fun K hK => ?_) AllReadyH.nil))
   ·obtain ⟨w2, rm, om, gm⟩ := run_make_own (P := Tryz.prog) w1 W.heap.size 22 28 iU (.int .u64 0) 1 Tryz.underlying22 hU hU0 hU1 .i64 .i64 (p.nc + 1) (by rw [hU2]; omega) (by unfold maxLen; omega) HL1.out.bel.size
    rw [show ((p.nc + 1 : Nat) : Int) = (p.nc : Int) + 1 by omega] at rm
    have HB2 : Hid (Below w1.heap.size w1 w2) := below_none9 gm
    have HO2 := hide om
    clear om gm
    go_simp
    go_wp2_with fail
    clear rm
    have HL2 := hide (HL1.out.next HB2.out)
    refine hK.out _ _ HL2.out (fun _ => ?_)
    clear hK K
    refine wpAnyH_ready (rs := [11, 16]) (by kernel_rfl) (by simp) ?_
    refine AllReadyH.cons rfl (fun K hK => ?_) (AllReadyH.cons rfl (fun K hK => ?_) AllReadyH.nil)
    ·obtain ⟨w3, rm, om, gm⟩ := run_make_own (P := Tryz.prog) w2 W.heap.size 23 3 iI (.int .i64 0) 1 Tryz.underlying23 hI hI0 hI1 .i64 .i64 (p.ns + 1) (by rw [hI2]; omega) (by unfold maxLen; omega) HL2.out.bel.size
     rw [show ((p.ns + 1 : Nat) : Int) = (p.ns : Int) + 1 by omega] at rm
     have HB3 : Hid (Below w2.heap.size w2 w3) := below_none9 gm
     have HO3 := hide om
     clear om gm
     go_simp
     go_wp2_with fail
     clear rm
     have HL3 := hide (HL2.out.next HB3.out)
     refine hK.out _ _ HL3.out (fun _ => ?_)
     clear hK K
     refine wpAnyH_ready (rs := [16]) (by kernel_rfl) (by simp) ?_
     refine AllReadyH.cons rfl (fun K hK => ?_) AllReadyH.nil
     ·obtain ⟨w4, rm, om, gm⟩ := run_make_own (P := Tryz.prog) w3 W.heap.size 25 42 iN (.agg #[.int .i64 0, .int .i64 0]) 2 Tryz.underlying25 hN hN0 hN1 .i64 .i64 (p.n + 1) (by rw [hN2]; omega) (by unfold maxLen; omega) HL3.out.bel.size
      rw [show ((p.n + 1 : Nat) : Int) = (p.n : Int) + 1 by omega] at rm
      have HB4 : Hid (Below w3.heap.size w3 w4) := below_none9 gm
      have HO4 := hide om
      clear om gm
      go_simp
      go_wp2_with fail
      clear rm
      have HL4 := hide (HL3.out.next HB4.out)
      refine hK.out _ _ HL4.out (fun _ => ?_)
      clear hK K
      have HX : Hid (w4.heap[W2.heap.size]? = some (.cells #[.slice none 0 0, .slice none 0 0, .int .i64 0, .int .i64 0, .int .i64 0, .int .i64 0, .int .i64 0, .int .i64 0, .slice none 0 0] 27 (0, 0))) := ((HB4.out.block _ (block_lt ((HB3.out.block _ (block_lt ((HB2.out.block _ (block_lt HA1.out)).trans HA1.out))).trans ((HB2.out.block _ (block_lt HA1.out)).trans HA1.out)))).trans ((HB3.out.block _ (block_lt ((HB2.out.block _ (block_lt HA1.out)).trans HA1.out))).trans ((HB2.out.block _ (block_lt HA1.out)).trans HA1.out)))
      have HF := hide (ld_fill (cb := W2.heap.size) HL4.out HX.out (row_quietT (row_quietT HO2.out (grown_of_below HB3.out none)) (grown_of_below HB4.out none)) (row_quietT HO3.out (grown_of_below HB4.out none)) HO4.out HL0.out.bel.size (Nat.ne_of_gt (block_lt HL0.out.prg)) (Nat.ne_of_gt (block_lt HL0.out.res)))
      have z0 := block_cell HX.out 0
      have f0 := block_free HX.out 0
      have z1 := block_cell HX.out 1
      have f1 := block_free HX.out 1
      have z2 := block_cell HX.out 2
      have f2 := block_free HX.out 2
      have z3 := block_cell HX.out 3
      have f3 := block_free HX.out 3
      have z4 := block_cell HX.out 4
      have f4 := block_free HX.out 4
      have z5 := block_cell HX.out 5
      have f5 := block_free HX.out 5
      have z6 := block_cell HX.out 6
      have f6 := block_free HX.out 6
      have z7 := block_cell HX.out 7
      have f7 := block_free HX.out 7
      have z8 := block_cell HX.out 8
      have f8 := block_free HX.out 8
      have zl := block_lt HX.out
      simp at z0 z1 z2 z3 z4 z5 z6 z7 z8
      clear HX
      refine wpAnyH_take (i := 17) (oi := ⟨some 24, .build 27 #[(2, .tmp 8), (0, .tmp 13), (1, .tmp 18), (3, .tmp 23)], 27, "exact.go:74", #[⟨1, .data⟩, ⟨6, .data⟩, ⟨11, .data⟩, ⟨16, .data⟩], none⟩) (v := .agg #[(.slice (some ⟨w1.heap.size, 0, none⟩) 0 (p.nc + 1)), (.slice (some ⟨w2.heap.size, 0, none⟩) 0 (p.ns + 1)), .int .i64 (p.en 0), .int .i64 (p.en 1), .int .i64 (p.en 2), .int .i64 (p.en 3), .int .i64 (p.en 4), .int .i64 (p.en 5), (.slice (some ⟨w3.heap.size, 0, none⟩) 0 (p.n + 1))]) rfl (by kernel_rfl) (by kernel_rfl) (by kernel_rfl) (fun _ _ _ h => h) (Or.inl ⟨by rfl, fun w' hSw => ?_⟩) HL4.out ?_
      ·go_simp
      simp only [Act.put, lsA, lsB, lsC]
      refine wpAnyH_ready (rs := [19]) (by kernel_rfl) (by simp) ?_
      refine AllReadyH.cons rfl (fun K hK => ?_) AllReadyH.nil
      go_simp
      go_wp2_with fail
      refine hK.out _ _ ⟨HF.out.prg, HF.out.res, HF.out.bel⟩ (fun _ => ?_)
      clear hK K
      refine wpAnyH_done (by kernel_rfl) ?_ _
      go_wp2
      go_meet
      case rel => exact ⟨_, _, _, _, rfl, HF.out⟩
    ·obtain ⟨w3, rm, om, gm⟩ := run_make_own (P := Tryz.prog) w2 W.heap.size 25 42 iN (.agg #[.int .i64 0, .int .i64 0]) 2 Tryz.underlying25 hN hN0 hN1 .i64 .i64 (p.n + 1) (by rw [hN2]; omega) (by unfold maxLen; omega) HL2.out.bel.size
     rw [show ((p.n + 1 : Nat) : Int) = (p.n : Int) + 1 by omega] at rm
     have HB3 : Hid (Below w2.heap.size w2 w3) := below_none9 gm
     have HO3 := hide om
     clear om gm
     go_simp
     go_wp2_with fail
     clear rm
     have HL3 := hide (HL2.out.next HB3.out)
     refine hK.out _ _ HL3.out (fun _ => ?_)
     clear hK K
     refine wpAnyH_ready (rs := [11]) (by kernel_rfl) (by simp) ?_
     refine AllReadyH.cons rfl (fun K hK => ?_) AllReadyH.nil
     ·obtain ⟨w4, rm, om, gm⟩ := run_make_own (P := Tryz.prog) w3 W.heap.size 23 3 iI (.int .i64 0) 1 Tryz.underlying23 hI hI0 hI1 .i64 .i64 (p.ns + 1) (by rw [hI2]; omega) (by unfold maxLen; omega) HL3.out.bel.size
      rw [show ((p.ns + 1 : Nat) : Int) = (p.ns : Int) + 1 by omega] at rm
      have HB4 : Hid (Below w3.heap.size w3 w4) := below_none9 gm
      have HO4 := hide om
      clear om gm
      go_simp
      go_wp2_with fail
      clear rm
      have HL4 := hide (HL3.out.next HB4.out)
      refine hK.out _ _ HL4.out (fun _ => ?_)
      clear hK K
      have HX : Hid (w4.heap[W2.heap.size]? = some (.cells #[.slice none 0 0, .slice none 0 0, .int .i64 0, .int .i64 0, .int .i64 0, .int .i64 0, .int .i64 0, .int .i64 0, .slice none 0 0] 27 (0, 0))) := ((HB4.out.block _ (block_lt ((HB3.out.block _ (block_lt ((HB2.out.block _ (block_lt HA1.out)).trans HA1.out))).trans ((HB2.out.block _ (block_lt HA1.out)).trans HA1.out)))).trans ((HB3.out.block _ (block_lt ((HB2.out.block _ (block_lt HA1.out)).trans HA1.out))).trans ((HB2.out.block _ (block_lt HA1.out)).trans HA1.out)))
      have HF := hide (ld_fill (cb := W2.heap.size) HL4.out HX.out (row_quietT (row_quietT HO2.out (grown_of_below HB3.out none)) (grown_of_below HB4.out none)) HO4.out (row_quietT HO3.out (grown_of_below HB4.out none)) HL0.out.bel.size (Nat.ne_of_gt (block_lt HL0.out.prg)) (Nat.ne_of_gt (block_lt HL0.out.res)))
      have z0 := block_cell HX.out 0
      have f0 := block_free HX.out 0
      have z1 := block_cell HX.out 1
      have f1 := block_free HX.out 1
      have z2 := block_cell HX.out 2
      have f2 := block_free HX.out 2
      have z3 := block_cell HX.out 3
      have f3 := block_free HX.out 3
      have z4 := block_cell HX.out 4
      have f4 := block_free HX.out 4
      have z5 := block_cell HX.out 5
      have f5 := block_free HX.out 5
      have z6 := block_cell HX.out 6
      have f6 := block_free HX.out 6
      have z7 := block_cell HX.out 7
      have f7 := block_free HX.out 7
      have z8 := block_cell HX.out 8
      have f8 := block_free HX.out 8
      have zl := block_lt HX.out
      simp at z0 z1 z2 z3 z4 z5 z6 z7 z8
      clear HX
      refine wpAnyH_take (i := 17) (oi := ⟨some 24, .build 27 #[(2, .tmp 8), (0, .tmp 13), (1, .tmp 18), (3, .tmp 23)], 27, "exact.go:74", #[⟨1, .data⟩, ⟨6, .data⟩, ⟨11, .data⟩, ⟨16, .data⟩], none⟩) (v := .agg #[(.slice (some ⟨w1.heap.size, 0, none⟩) 0 (p.nc + 1)), (.slice (some ⟨w3.heap.size, 0, none⟩) 0 (p.ns + 1)), .int .i64 (p.en 0), .int .i64 (p.en 1), .int .i64 (p.en 2), .int .i64 (p.en 3), .int .i64 (p.en 4), .int .i64 (p.en 5), (.slice (some ⟨w2.heap.size, 0, none⟩) 0 (p.n + 1))]) rfl (by kernel_rfl) (by kernel_rfl) (by kernel_rfl) (fun _ _ _ h => h) (Or.inl ⟨by rfl, fun w' hSw => ?_⟩) HL4.out ?_
      ·go_simp
      simp only [Act.put, lsA, lsB, lsC]
      refine wpAnyH_ready (rs := [19]) (by kernel_rfl) (by simp) ?_
      refine AllReadyH.cons rfl (fun K hK => ?_) AllReadyH.nil
      go_simp
      go_wp2_with fail
      refine hK.out _ _ ⟨HF.out.prg, HF.out.res, HF.out.bel⟩ (fun _ => ?_)
      clear hK K
      refine wpAnyH_done (by kernel_rfl) ?_ _
      go_wp2
      go_meet
      case rel => exact ⟨_, _, _, _, rfl, HF.out⟩
   ·obtain ⟨w2, rm, om, gm⟩ := run_make_own (P := Tryz.prog) w1 W.heap.size 23 3 iI (.int .i64 0) 1 Tryz.underlying23 hI hI0 hI1 .i64 .i64 (p.ns + 1) (by rw [hI2]; omega) (by unfold maxLen; omega) HL1.out.bel.size
    rw [show ((p.ns + 1 : Nat) : Int) = (p.ns : Int) + 1 by omega] at rm
    have HB2 : Hid (Below w1.heap.size w1 w2) := below_none9 gm
    have HO2 := hide om
    clear om gm
    go_simp
    go_wp2_with fail
    clear rm
    have HL2 := hide (HL1.out.next HB2.out)
    refine hK.out _ _ HL2.out (fun _ => ?_)
    clear hK K
    refine wpAnyH_ready (rs := [6, 16]) (by kernel_rfl) (by simp) ?_
    refine AllReadyH.cons rfl (fun K hK => ?_) (AllReadyH.cons rfl (fun K hK => ?_) AllReadyH.nil)
    ·obtain ⟨w3, rm, om, gm⟩ := run_make_own (P := Tryz.prog) w2 W.heap.size 22 28 iU (.int .u64 0) 1 Tryz.underlying22 hU hU0 hU1 .i64 .i64 (p.nc + 1) (by rw [hU2]; omega) (by unfold maxLen; omega) HL2.out.bel.size
     rw [show ((p.nc + 1 : Nat) : Int) = (p.nc : Int) + 1 by omega] at rm
     have HB3 : Hid (Below w2.heap.size w2 w3) := below_none9 gm
     have HO3 := hide om
     clear om gm
     go_simp
     go_wp2_with fail
     clear rm
     have HL3 := hide (HL2.out.next HB3.out)
     refine hK.out _ _ HL3.out (fun _ => ?_)
     clear hK K
     refine wpAnyH_ready (rs := [16]) (by kernel_rfl) (by simp) ?_
     refine AllReadyH.cons rfl (fun K hK => ?_) AllReadyH.nil
     ·obtain ⟨w4, rm, om, gm⟩ := run_make_own (P := Tryz.prog) w3 W.heap.size 25 42 iN (.agg #[.int .i64 0, .int .i64 0]) 2 Tryz.underlying25 hN hN0 hN1 .i64 .i64 (p.n + 1) (by rw [hN2]; omega) (by unfold maxLen; omega) HL3.out.bel.size
      rw [show ((p.n + 1 : Nat) : Int) = (p.n : Int) + 1 by omega] at rm
      have HB4 : Hid (Below w3.heap.size w3 w4) := below_none9 gm
      have HO4 := hide om
      clear om gm
      go_simp
      go_wp2_with fail
      clear rm
      have HL4 := hide (HL3.out.next HB4.out)
      refine hK.out _ _ HL4.out (fun _ => ?_)
      clear hK K
      have HX : Hid (w4.heap[W2.heap.size]? = some (.cells #[.slice none 0 0, .slice none 0 0, .int .i64 0, .int .i64 0, .int .i64 0, .int .i64 0, .int .i64 0, .int .i64 0, .slice none 0 0] 27 (0, 0))) := ((HB4.out.block _ (block_lt ((HB3.out.block _ (block_lt ((HB2.out.block _ (block_lt HA1.out)).trans HA1.out))).trans ((HB2.out.block _ (block_lt HA1.out)).trans HA1.out)))).trans ((HB3.out.block _ (block_lt ((HB2.out.block _ (block_lt HA1.out)).trans HA1.out))).trans ((HB2.out.block _ (block_lt HA1.out)).trans HA1.out)))
      have HF := hide (ld_fill (cb := W2.heap.size) HL4.out HX.out (row_quietT HO3.out (grown_of_below HB4.out none)) (row_quietT (row_quietT HO2.out (grown_of_below HB3.out none)) (grown_of_below HB4.out none)) HO4.out HL0.out.bel.size (Nat.ne_of_gt (block_lt HL0.out.prg)) (Nat.ne_of_gt (block_lt HL0.out.res)))
      have z0 := block_cell HX.out 0
      have f0 := block_free HX.out 0
      have z1 := block_cell HX.out 1
      have f1 := block_free HX.out 1
      have z2 := block_cell HX.out 2
      have f2 := block_free HX.out 2
      have z3 := block_cell HX.out 3
      have f3 := block_free HX.out 3
      have z4 := block_cell HX.out 4
      have f4 := block_free HX.out 4
      have z5 := block_cell HX.out 5
      have f5 := block_free HX.out 5
      have z6 := block_cell HX.out 6
      have f6 := block_free HX.out 6
      have z7 := block_cell HX.out 7
      have f7 := block_free HX.out 7
      have z8 := block_cell HX.out 8
      have f8 := block_free HX.out 8
      have zl := block_lt HX.out
      simp at z0 z1 z2 z3 z4 z5 z6 z7 z8
      clear HX
      refine wpAnyH_take (i := 17) (oi := ⟨some 24, .build 27 #[(2, .tmp 8), (0, .tmp 13), (1, .tmp 18), (3, .tmp 23)], 27, "exact.go:74", #[⟨1, .data⟩, ⟨6, .data⟩, ⟨11, .data⟩, ⟨16, .data⟩], none⟩) (v := .agg #[(.slice (some ⟨w2.heap.size, 0, none⟩) 0 (p.nc + 1)), (.slice (some ⟨w1.heap.size, 0, none⟩) 0 (p.ns + 1)), .int .i64 (p.en 0), .int .i64 (p.en 1), .int .i64 (p.en 2), .int .i64 (p.en 3), .int .i64 (p.en 4), .int .i64 (p.en 5), (.slice (some ⟨w3.heap.size, 0, none⟩) 0 (p.n + 1))]) rfl (by kernel_rfl) (by kernel_rfl) (by kernel_rfl) (fun _ _ _ h => h) (Or.inl ⟨by rfl, fun w' hSw => ?_⟩) HL4.out ?_
      ·go_simp
      simp only [Act.put, lsA, lsB, lsC]
      refine wpAnyH_ready (rs := [19]) (by kernel_rfl) (by simp) ?_
      refine AllReadyH.cons rfl (fun K hK => ?_) AllReadyH.nil
      go_simp
      go_wp2_with fail
      refine hK.out _ _ ⟨HF.out.prg, HF.out.res, HF.out.bel⟩ (fun _ => ?_)
      clear hK K
      refine wpAnyH_done (by kernel_rfl) ?_ _
      go_wp2
      go_meet
      case rel => exact ⟨_, _, _, _, rfl, HF.out⟩
    ·obtain ⟨w3, rm, om, gm⟩ := run_make_own (P := Tryz.prog) w2 W.heap.size 25 42 iN (.agg #[.int .i64 0, .int .i64 0]) 2 Tryz.underlying25 hN hN0 hN1 .i64 .i64 (p.n + 1) (by rw [hN2]; omega) (by unfold maxLen; omega) HL2.out.bel.size
     rw [show ((p.n + 1 : Nat) : Int) = (p.n : Int) + 1 by omega] at rm
     have HB3 : Hid (Below w2.heap.size w2 w3) := below_none9 gm
     have HO3 := hide om
     clear om gm
     go_simp
     go_wp2_with fail
     clear rm
     have HL3 := hide (HL2.out.next HB3.out)
     refine hK.out _ _ HL3.out (fun _ => ?_)
     clear hK K
     refine wpAnyH_ready (rs := [6]) (by kernel_rfl) (by simp) ?_
     refine AllReadyH.cons rfl (fun K hK => ?_) AllReadyH.nil
     ·obtain ⟨w4, rm, om, gm⟩ := run_make_own (P := Tryz.prog) w3 W.heap.size 22 28 iU (.int .u64 0) 1 Tryz.underlying22 hU hU0 hU1 .i64 .i64 (p.nc + 1) (by rw [hU2]; omega) (by unfold maxLen; omega) HL3.out.bel.size
      rw [show ((p.nc + 1 : Nat) : Int) = (p.nc : Int) + 1 by omega] at rm
      have HB4 : Hid (Below w3.heap.size w3 w4) := below_none9 gm
      have HO4 := hide om
      clear om gm
      go_simp
      go_wp2_with fail
      clear rm
      have HL4 := hide (HL3.out.next HB4.out)
      refine hK.out _ _ HL4.out (fun _ => ?_)
      clear hK K
      have HX : Hid (w4.heap[W2.heap.size]? = some (.cells #[.slice none 0 0, .slice none 0 0, .int .i64 0, .int .i64 0, .int .i64 0, .int .i64 0, .int .i64 0, .int .i64 0, .slice none 0 0] 27 (0, 0))) := ((HB4.out.block _ (block_lt ((HB3.out.block _ (block_lt ((HB2.out.block _ (block_lt HA1.out)).trans HA1.out))).trans ((HB2.out.block _ (block_lt HA1.out)).trans HA1.out)))).trans ((HB3.out.block _ (block_lt ((HB2.out.block _ (block_lt HA1.out)).trans HA1.out))).trans ((HB2.out.block _ (block_lt HA1.out)).trans HA1.out)))
      have HF := hide (ld_fill (cb := W2.heap.size) HL4.out HX.out HO4.out (row_quietT (row_quietT HO2.out (grown_of_below HB3.out none)) (grown_of_below HB4.out none)) (row_quietT HO3.out (grown_of_below HB4.out none)) HL0.out.bel.size (Nat.ne_of_gt (block_lt HL0.out.prg)) (Nat.ne_of_gt (block_lt HL0.out.res)))
      have z0 := block_cell HX.out 0
      have f0 := block_free HX.out 0
      have z1 := block_cell HX.out 1
      have f1 := block_free HX.out 1
      have z2 := block_cell HX.out 2
      have f2 := block_free HX.out 2
      have z3 := block_cell HX.out 3
      have f3 := block_free HX.out 3
      have z4 := block_cell HX.out 4
      have f4 := block_free HX.out 4
      have z5 := block_cell HX.out 5
      have f5 := block_free HX.out 5
      have z6 := block_cell HX.out 6
      have f6 := block_free HX.out 6
      have z7 := block_cell HX.out 7
      have f7 := block_free HX.out 7
      have z8 := block_cell HX.out 8
      have f8 := block_free HX.out 8
      have zl := block_lt HX.out
      simp at z0 z1 z2 z3 z4 z5 z6 z7 z8
      clear HX
      refine wpAnyH_take (i := 17) (oi := ⟨some 24, .build 27 #[(2, .tmp 8), (0, .tmp 13), (1, .tmp 18), (3, .tmp 23)], 27, "exact.go:74", #[⟨1, .data⟩, ⟨6, .data⟩, ⟨11, .data⟩, ⟨16, .data⟩], none⟩) (v := .agg #[(.slice (some ⟨w3.heap.size, 0, none⟩) 0 (p.nc + 1)), (.slice (some ⟨w1.heap.size, 0, none⟩) 0 (p.ns + 1)), .int .i64 (p.en 0), .int .i64 (p.en 1), .int .i64 (p.en 2), .int .i64 (p.en 3), .int .i64 (p.en 4), .int .i64 (p.en 5), (.slice (some ⟨w2.heap.size, 0, none⟩) 0 (p.n + 1))]) rfl (by kernel_rfl) (by kernel_rfl) (by kernel_rfl) (fun _ _ _ h => h) (Or.inl ⟨by rfl, fun w' hSw => ?_⟩) HL4.out ?_
      ·go_simp
      simp only [Act.put, lsA, lsB, lsC]
      refine wpAnyH_ready (rs := [19]) (by kernel_rfl) (by simp) ?_
      refine AllReadyH.cons rfl (fun K hK => ?_) AllReadyH.nil
      go_simp
      go_wp2_with fail
      refine hK.out _ _ ⟨HF.out.prg, HF.out.res, HF.out.bel⟩ (fun _ => ?_)
      clear hK K
      refine wpAnyH_done (by kernel_rfl) ?_ _
      go_wp2
      go_meet
      case rel => exact ⟨_, _, _, _, rfl, HF.out⟩
   ·obtain ⟨w2, rm, om, gm⟩ := run_make_own (P := Tryz.prog) w1 W.heap.size 25 42 iN (.agg #[.int .i64 0, .int .i64 0]) 2 Tryz.underlying25 hN hN0 hN1 .i64 .i64 (p.n + 1) (by rw [hN2]; omega) (by unfold maxLen; omega) HL1.out.bel.size
    rw [show ((p.n + 1 : Nat) : Int) = (p.n : Int) + 1 by omega] at rm
    have HB2 : Hid (Below w1.heap.size w1 w2) := below_none9 gm
    have HO2 := hide om
    clear om gm
    go_simp
    go_wp2_with fail
    clear rm
    have HL2 := hide (HL1.out.next HB2.out)
    refine hK.out _ _ HL2.out (fun _ => ?_)
    clear hK K
    refine wpAnyH_ready (rs := [6, 11]) (by kernel_rfl) (by simp) ?_
    refine AllReadyH.cons rfl (fun K hK => ?_) (AllReadyH.cons rfl (fun K hK => ?_) AllReadyH.nil)
    ·obtain ⟨w3, rm, om, gm⟩ := run_make_own (P := Tryz.prog) w2 W.heap.size 22 28 iU (.int .u64 0) 1 Tryz.underlying22 hU hU0 hU1 .i64 .i64 (p.nc + 1) (by rw [hU2]; omega) (by unfold maxLen; omega) HL2.out.bel.size
     rw [show ((p.nc + 1 : Nat) : Int) = (p.nc : Int) + 1 by omega] at rm
     have HB3 : Hid (Below w2.heap.size w2 w3) := below_none9 gm
     have HO3 := hide om
     clear om gm
     go_simp
     go_wp2_with fail
     clear rm
     have HL3 := hide (HL2.out.next HB3.out)
     refine hK.out _ _ HL3.out (fun _ => ?_)
     clear hK K
     refine wpAnyH_ready (rs := [11]) (by kernel_rfl) (by simp) ?_
     refine AllReadyH.cons rfl (fun K hK => ?_) AllReadyH.nil
     ·obtain ⟨w4, rm, om, gm⟩ := run_make_own (P := Tryz.prog) w3 W.heap.size 23 3 iI (.int .i64 0) 1 Tryz.underlying23 hI hI0 hI1 .i64 .i64 (p.ns + 1) (by rw [hI2]; omega) (by unfold maxLen; omega) HL3.out.bel.size
      rw [show ((p.ns + 1 : Nat) : Int) = (p.ns : Int) + 1 by omega] at rm
      have HB4 : Hid (Below w3.heap.size w3 w4) := below_none9 gm
      have HO4 := hide om
      clear om gm
      go_simp
      go_wp2_with fail
      clear rm
      have HL4 := hide (HL3.out.next HB4.out)
      refine hK.out _ _ HL4.out (fun _ => ?_)
      clear hK K
      have HX : Hid (w4.heap[W2.heap.size]? = some (.cells #[.slice none 0 0, .slice none 0 0, .int .i64 0, .int .i64 0, .int .i64 0, .int .i64 0, .int .i64 0, .int .i64 0, .slice none 0 0] 27 (0, 0))) := ((HB4.out.block _ (block_lt ((HB3.out.block _ (block_lt ((HB2.out.block _ (block_lt HA1.out)).trans HA1.out))).trans ((HB2.out.block _ (block_lt HA1.out)).trans HA1.out)))).trans ((HB3.out.block _ (block_lt ((HB2.out.block _ (block_lt HA1.out)).trans HA1.out))).trans ((HB2.out.block _ (block_lt HA1.out)).trans HA1.out)))
      have HF := hide (ld_fill (cb := W2.heap.size) HL4.out HX.out (row_quietT HO3.out (grown_of_below HB4.out none)) HO4.out (row_quietT (row_quietT HO2.out (grown_of_below HB3.out none)) (grown_of_below HB4.out none)) HL0.out.bel.size (Nat.ne_of_gt (block_lt HL0.out.prg)) (Nat.ne_of_gt (block_lt HL0.out.res)))
      have z0 := block_cell HX.out 0
      have f0 := block_free HX.out 0
      have z1 := block_cell HX.out 1
      have f1 := block_free HX.out 1
      have z2 := block_cell HX.out 2
      have f2 := block_free HX.out 2
      have z3 := block_cell HX.out 3
      have f3 := block_free HX.out 3
      have z4 := block_cell HX.out 4
      have f4 := block_free HX.out 4
      have z5 := block_cell HX.out 5
      have f5 := block_free HX.out 5
      have z6 := block_cell HX.out 6
      have f6 := block_free HX.out 6
      have z7 := block_cell HX.out 7
      have f7 := block_free HX.out 7
      have z8 := block_cell HX.out 8
      have f8 := block_free HX.out 8
      have zl := block_lt HX.out
      simp at z0 z1 z2 z3 z4 z5 z6 z7 z8
      clear HX
      refine wpAnyH_take (i := 17) (oi := ⟨some 24, .build 27 #[(2, .tmp 8), (0, .tmp 13), (1, .tmp 18), (3, .tmp 23)], 27, "exact.go:74", #[⟨1, .data⟩, ⟨6, .data⟩, ⟨11, .data⟩, ⟨16, .data⟩], none⟩) (v := .agg #[(.slice (some ⟨w2.heap.size, 0, none⟩) 0 (p.nc + 1)), (.slice (some ⟨w3.heap.size, 0, none⟩) 0 (p.ns + 1)), .int .i64 (p.en 0), .int .i64 (p.en 1), .int .i64 (p.en 2), .int .i64 (p.en 3), .int .i64 (p.en 4), .int .i64 (p.en 5), (.slice (some ⟨w1.heap.size, 0, none⟩) 0 (p.n + 1))]) rfl (by kernel_rfl) (by kernel_rfl) (by kernel_rfl) (fun _ _ _ h => h) (Or.inl ⟨by rfl, fun w' hSw => ?_⟩) HL4.out ?_
      ·go_simp
      simp only [Act.put, lsA, lsB, lsC]
      refine wpAnyH_ready (rs := [19]) (by kernel_rfl) (by simp) ?_
      refine AllReadyH.cons rfl (fun K hK => ?_) AllReadyH.nil
      go_simp
      go_wp2_with fail
      refine hK.out _ _ ⟨HF.out.prg, HF.out.res, HF.out.bel⟩ (fun _ => ?_)
      clear hK K
      refine wpAnyH_done (by kernel_rfl) ?_ _
      go_wp2
      go_meet
      case rel => exact ⟨_, _, _, _, rfl, HF.out⟩
    ·obtain ⟨w3, rm, om, gm⟩ := run_make_own (P := Tryz.prog) w2 W.heap.size 23 3 iI (.int .i64 0) 1 Tryz.underlying23 hI hI0 hI1 .i64 .i64 (p.ns + 1) (by rw [hI2]; omega) (by unfold maxLen; omega) HL2.out.bel.size
     rw [show ((p.ns + 1 : Nat) : Int) = (p.ns : Int) + 1 by omega] at rm
     have HB3 : Hid (Below w2.heap.size w2 w3) := below_none9 gm
     have HO3 := hide om
     clear om gm
     go_simp
     go_wp2_with fail
     clear rm
     have HL3 := hide (HL2.out.next HB3.out)
     refine hK.out _ _ HL3.out (fun _ => ?_)
     clear hK K
     refine wpAnyH_ready (rs := [6]) (by kernel_rfl) (by simp) ?_
     refine AllReadyH.cons rfl (fun K hK => ?_) AllReadyH.nil
     ·obtain ⟨w4, rm, om, gm⟩ := run_make_own (P := Tryz.prog) w3 W.heap.size 22 28 iU (.int .u64 0) 1 Tryz.underlying22 hU hU0 hU1 .i64 .i64 (p.nc + 1) (by rw [hU2]; omega) (by unfold maxLen; omega) HL3.out.bel.size
      rw [show ((p.nc + 1 : Nat) : Int) = (p.nc : Int) + 1 by omega] at rm
      have HB4 : Hid (Below w3.heap.size w3 w4) := below_none9 gm
      have HO4 := hide om
      clear om gm
      go_simp
      go_wp2_with fail
      clear rm
      have HL4 := hide (HL3.out.next HB4.out)
      refine hK.out _ _ HL4.out (fun _ => ?_)
      clear hK K
      have HX : Hid (w4.heap[W2.heap.size]? = some (.cells #[.slice none 0 0, .slice none 0 0, .int .i64 0, .int .i64 0, .int .i64 0, .int .i64 0, .int .i64 0, .int .i64 0, .slice none 0 0] 27 (0, 0))) := ((HB4.out.block _ (block_lt ((HB3.out.block _ (block_lt ((HB2.out.block _ (block_lt HA1.out)).trans HA1.out))).trans ((HB2.out.block _ (block_lt HA1.out)).trans HA1.out)))).trans ((HB3.out.block _ (block_lt ((HB2.out.block _ (block_lt HA1.out)).trans HA1.out))).trans ((HB2.out.block _ (block_lt HA1.out)).trans HA1.out)))
      have HF := hide (ld_fill (cb := W2.heap.size) HL4.out HX.out HO4.out (row_quietT HO3.out (grown_of_below HB4.out none)) (row_quietT (row_quietT HO2.out (grown_of_below HB3.out none)) (grown_of_below HB4.out none)) HL0.out.bel.size (Nat.ne_of_gt (block_lt HL0.out.prg)) (Nat.ne_of_gt (block_lt HL0.out.res)))
      have z0 := block_cell HX.out 0
      have f0 := block_free HX.out 0
      have z1 := block_cell HX.out 1
      have f1 := block_free HX.out 1
      have z2 := block_cell HX.out 2
      have f2 := block_free HX.out 2
      have z3 := block_cell HX.out 3
      have f3 := block_free HX.out 3
      have z4 := block_cell HX.out 4
      have f4 := block_free HX.out 4
      have z5 := block_cell HX.out 5
      have f5 := block_free HX.out 5
      have z6 := block_cell HX.out 6
      have f6 := block_free HX.out 6
      have z7 := block_cell HX.out 7
      have f7 := block_free HX.out 7
      have z8 := block_cell HX.out 8
      have f8 := block_free HX.out 8
      have zl := block_lt HX.out
      simp at z0 z1 z2 z3 z4 z5 z6 z7 z8
      clear HX
      refine wpAnyH_take (i := 17) (oi := ⟨some 24, .build 27 #[(2, .tmp 8), (0, .tmp 13), (1, .tmp 18), (3, .tmp 23)], 27, "exact.go:74", #[⟨1, .data⟩, ⟨6, .data⟩, ⟨11, .data⟩, ⟨16, .data⟩], none⟩) (v := .agg #[(.slice (some ⟨w3.heap.size, 0, none⟩) 0 (p.nc + 1)), (.slice (some ⟨w2.heap.size, 0, none⟩) 0 (p.ns + 1)), .int .i64 (p.en 0), .int .i64 (p.en 1), .int .i64 (p.en 2), .int .i64 (p.en 3), .int .i64 (p.en 4), .int .i64 (p.en 5), (.slice (some ⟨w1.heap.size, 0, none⟩) 0 (p.n + 1))]) rfl (by kernel_rfl) (by kernel_rfl) (by kernel_rfl) (fun _ _ _ h => h) (Or.inl ⟨by rfl, fun w' hSw => ?_⟩) HL4.out ?_
      ·go_simp
      simp only [Act.put, lsA, lsB, lsC]
      refine wpAnyH_ready (rs := [19]) (by kernel_rfl) (by simp) ?_
      refine AllReadyH.cons rfl (fun K hK => ?_) AllReadyH.nil
      go_simp
      go_wp2_with fail
      refine hK.out _ _ ⟨HF.out.prg, HF.out.res, HF.out.bel⟩ (fun _ => ?_)
      clear hK K
      refine wpAnyH_done (by kernel_rfl) ?_ _
      go_wp2
      go_meet
      case rel => exact ⟨_, _, _, _, rfl, HF.out⟩
 case rest =>
 obtain ⟨cb, va0, vb0, vc0, rfl, HD0⟩ := hcut
 clear HL0 HB
 generalize hrb : W.heap.size + 1 = rb at *
 have HRB : Hid (W.heap.size ≤ rb) := by show _ ≤ _; omega
 clear hrb
 have HD0 : Hid (∃ va vb vc, Ld W g p rb cb va vb vc 0 0 0 (rowA p 0) [] [] _) := ⟨va0, vb0, vc0, HD0.out⟩
 go_upto_region 3 with fail
 go_loopw [4] (fun i wr => ∃ j : Nat, j ≤ p.nc ∧ i = .int .i64 (j : Nat) ∧ Hid (∃ va vb vc, Ld W g p rb cb va vb vc j 0 0 (rowA p j) [] [] wr)) (fun i _ => p.nc - (intOf i).toNat)
 case atStart => exact ⟨0, by omega, rfl, HD0.out⟩
 case round =>
  obtain ⟨j, hj, rfl, HJ⟩ := hrel
  clear HD0
  obtain ⟨va, vb, vc, hld⟩ := HJ.out
  have HLW := hide hld
  have y := block_cell hld.prg 0
  have yl := block_lt hld.prg
  simp [Pg.cs] at y
  clear hld HJ
  by_cases hlt : j < p.nc
  ·obtain ⟨hia, hib⟩ := HOK.out.hc (by omega)
   have HIA := hide hia
   have HLD := hide (HLW.out.drew (Below.refl _ _).drew)
   have HS1 : Hid ((fun (w : World) => w.heap[cb]? = some (.cells #[va, vb, .int .i64 (p.en 0), .int .i64 (p.en 1), .int .i64 (p.en 2), .int .i64 (p.en 3), .int .i64 (p.en 4), .int .i64 (p.en 5), vc] 27 (0, 0)) ∧ w.heap[W.heap.size]? = some (.cells (g.cs p).toArray 27 (0, 0)) ∧ Below W.heap.size W w) wr.drew) := ⟨HLD.out.box, HLD.out.prg, HLD.out.bel⟩
   have HS2 : Hid (∀ o, (fun (w : World) => w.heap[cb]? = some (.cells #[va, vb, .int .i64 (p.en 0), .int .i64 (p.en 1), .int .i64 (p.en 2), .int .i64 (p.en 3), .int .i64 (p.en 4), .int .i64 (p.en 5), vc] 27 (0, 0)) ∧ w.heap[W.heap.size]? = some (.cells (g.cs p).toArray 27 (0, 0)) ∧ Below W.heap.size W w) (wr.drew.alloc o)) := fun o => by
    have hh := HLD.out.drew (below_alloc1 wr.drew o)
    exact ⟨hh.box, hh.prg, hh.bel⟩
   have HOW : Hid (∀ o, (wr.drew.alloc o).ownsRow W.heap.size 28 1 va j (rowA p j)) := fun o => row_quietT HLD.out.qa (World.grownBy_alloc _ _ none)
   have HSZ : Hid (∀ o, W.heap.size ≤ (wr.drew.alloc o).heap.size) := fun o => by
    have := HLD.out.bel.size
    simp at this ⊢
    omega
   clear hia
   go_upto_region 5 with fail
   clear y yl
   refine wp_region_L 10 (fun (w : World) => w.heap[cb]? = some (.cells #[va, vb, .int .i64 (p.en 0), .int .i64 (p.en 1), .int .i64 (p.en 2), .int .i64 (p.en 3), .int .i64 (p.en 4), .int .i64 (p.en 5), vc] 27 (0, 0)) ∧ w.heap[W.heap.size]? = some (.cells (g.cs p).toArray 27 (0, 0)) ∧ Below W.heap.size W w) (fun _ => True) (by kernel_rfl) HS1.out trivial (fun hS0 => ?_)
   refine wpAnyL_take (i := 0) (oi := ⟨some 32, .fieldAddr 27 (.tmp 3) 0, 0, "exact.go:76", #[], none⟩) (v := .pointer (some ⟨cb, 0, none⟩)) rfl (by decide) (by kernel_rfl) (by kernel_rfl) (by kernel_rfl) (fun _ _ _ h => h) (Or.inl ⟨by rfl, fun w2 hSw => ?_⟩) hS0 (fun hS1 => ?_)
   ·go_simp
   simp only [Act.put, lsA, lsB, lsC]
   clear hS0
   refine wpAnyL_take1 (i := 1) (oi := ⟨some 33, .load 22 (.tmp 32), 22, "exact.go:76", #[⟨0, .data⟩], none⟩) (v := va) rfl (by decide) (by kernel_rfl) (by kernel_rfl) (by kernel_rfl) (fun _ _ _ h => h) (Or.inl ⟨by rfl, fun w2 hSw => ?_⟩) hS1 (by kernel_rfl) rfl (by kernel_rfl) (fun hS2 => ?_)
   ·obtain ⟨hbx, hpg, hbl⟩ := hSw
    have k0 := block_cell hbx 0
    have kl := block_lt hbx
    simp at k0
    go_simp
   simp only [Act.put, lsA, lsB, lsC]
   clear hS1
   refine wpAnyL_take (i := 2) (oi := ⟨some 34, .fieldAddr 27 (.tmp 1) 0, 0, "exact.go:76", #[], none⟩) (v := .pointer (some ⟨W.heap.size, 0, none⟩)) rfl (by decide) (by kernel_rfl) (by kernel_rfl) (by kernel_rfl) (fun _ _ _ h => h) (Or.inl ⟨by rfl, fun w2 hSw => ?_⟩) hS2 (fun hS3 => ?_)
   ·go_simp
   simp only [Act.put, lsA, lsB, lsC]
   clear hS2
   refine wpAnyL_take1 (i := 3) (oi := ⟨some 35, .load 22 (.tmp 34), 22, "exact.go:76", #[⟨2, .data⟩], none⟩) (v := .slice (some ⟨g.cb, g.co, none⟩) p.nc g.cc) rfl (by decide) (by kernel_rfl) (by kernel_rfl) (by kernel_rfl) (fun _ _ _ h => h) (Or.inl ⟨by rfl, fun w2 hSw => ?_⟩) hS3 (by kernel_rfl) rfl (by kernel_rfl) (fun hS4 => ?_)
   ·obtain ⟨hbx, hpg, hbl⟩ := hSw
    have k0 := block_cell hpg 0
    have kl := block_lt hpg
    simp [Pg.cs, HIA.out] at k0
    go_simp
   simp only [Act.put, lsA, lsB, lsC]
   clear hS3
   refine wpAnyL_take (i := 4) (oi := ⟨some 36, .move (.tmp 4), 3, "exact.go:76", #[], none⟩) (v := .int .i64 (j : Nat)) rfl (by decide) (by kernel_rfl) (by kernel_rfl) (by kernel_rfl) (fun _ _ _ h => h) (Or.inl ⟨by rfl, fun w2 hSw => ?_⟩) hS4 (fun hS5 => ?_)
   ·go_simp
   simp only [Act.put, lsA, lsB, lsC]
   clear hS4
   refine wpAnyL_take (i := 5) (oi := ⟨some 37, .indexAddr 22 (.tmp 35) (.tmp 36), 0, "exact.go:76", #[⟨3, .data⟩, ⟨4, .data⟩], none⟩) (v := .pointer (some ⟨g.cb, g.co + j, none⟩)) rfl (by decide) (by kernel_rfl) (by kernel_rfl) (by kernel_rfl) (fun _ _ _ h => h) (Or.inl ⟨by rfl, fun w2 hSw => ?_⟩) hS5 (fun hS6 => ?_)
   ·go_simp
   simp only [Act.put, lsA, lsB, lsC]
   clear hS5
   refine wpAnyL_take1 (i := 6) (oi := ⟨some 38, .load 28 (.tmp 37), 28, "exact.go:76", #[⟨5, .data⟩], none⟩) (v := .int .u64 (p.C j)) rfl (by decide) (by kernel_rfl) (by kernel_rfl) (by kernel_rfl) (fun _ _ _ h => h) (Or.inl ⟨by rfl, fun w2 hSw => ?_⟩) hS6 (by kernel_rfl) rfl (by kernel_rfl) (fun hS7 => ?_)
   ·obtain ⟨hbx, hpg, hbl⟩ := hSw
    have e0 := (hbl.cell (p := ⟨g.cb, _, none⟩) hib).trans (HOK.out.vc j hlt)
    have kl : g.cb < w2.heap.size := Nat.lt_of_lt_of_le hib hbl.size
    go_simp
   simp only [Act.put, lsA, lsB, lsC]
   clear hS6
   clear hS7
   refine wpAnyL_one (i := 7) (o := ⟨some 39, .buildSlice 22 1 #[(0, .tmp 38)], 22, "exact.go:76", #[⟨6, .data⟩], none⟩) (by kernel_rfl) rfl (fun K hK => ?_)
   go_simp
   go_wp2_with fail
   refine hK.out _ _ ⟨fun _ => HS2.out _, trivial⟩ ?_
   clear hK K
   obtain ⟨v8, w8, hrun, ho8, hg8, _⟩ := run_append_own (P := Tryz.prog) (wr.drew.alloc (.cells #[.int .u64 (p.C j)] 28)) W.heap.size 22 22 28 iU (.int .u64 0) 1 8 Tryz.underlying22 hU hU0 hU1 hU2 rfl (by decide) va j _ (HOW.out _) ⟨wr.drew.heap.size, 0, none⟩ 1 1 [.int .u64 (p.C j)] rfl (cell_one_new _ _ _) (by simp [Value.oneCell']) (by unfold maxLen; omega) (by omega) (HSZ.out _)
   have hst := HLD.out.stepA ho8 hg8
   obtain ⟨ao8, cap8, hv8⟩ := own_val2 ho8
   have z0 := block_cell hst.2.1 0
   have zf := block_free hst.2.1 0
   have zl := block_lt hst.2.1
   simp at z0
   have HST := hide hst
   clear hst ho8 hg8
   refine wpAnyL_one (i := 8) (o := ⟨some 40, .call { callee := Callee.builtin .append, args := #[.tmp 33, .tmp 39], argTypes := #[22, 22] }, 22, "exact.go:76", #[⟨1, .data⟩, ⟨7, .data⟩], none⟩) (by kernel_rfl) rfl (fun K hK => ?_)
   rw [if_pos (by kernel_rfl)]
   refine wp_append1 (.tmp 33) (.tmp 39) 22 rfl (v := va) (v' := v8) (w' := w8) rfl rfl hrun ?_
   simp only [Act.put, List.setIfInBounds_toArray]
   refine hK.out _ _ ⟨fun _ => ⟨HST.out.2.1, HST.out.2.2.1, HST.out.2.2.2⟩, trivial⟩ ?_
   clear hK K hrun
   subst hv8
   have hS9 : SSg 10 (fun (w : World) => w.heap[cb]? = some (.cells #[va, vb, .int .i64 (p.en 0), .int .i64 (p.en 1), .int .i64 (p.en 2), .int .i64 (p.en 3), .int .i64 (p.en 4), .int .i64 (p.en 5), vc] 27 (0, 0)) ∧ w.heap[W.heap.size]? = some (.cells (g.cs p).toArray 27 (0, 0)) ∧ Below W.heap.size W w) (fun _ => True) #[true, true, true, true, true, true, true, true, true, false, false] w8 := ⟨fun _ => ⟨HST.out.2.1, HST.out.2.2.1, HST.out.2.2.2⟩, trivial⟩
   refine wpAnyL_take (i := 9) (oi := ⟨some 41, .fieldAddr 27 (.tmp 3) 0, 0, "exact.go:76", #[⟨0, .phase⟩, ⟨1, .phase⟩, ⟨2, .phase⟩, ⟨3, .phase⟩, ⟨4, .phase⟩, ⟨5, .phase⟩, ⟨6, .phase⟩, ⟨7, .phase⟩, ⟨8, .phase⟩], none⟩) (v := .pointer (some ⟨cb, 0, none⟩)) rfl (by decide) (by kernel_rfl) (by kernel_rfl) (by kernel_rfl) (fun _ _ _ h => h) (Or.inl ⟨by rfl, fun w2 hSw => ?_⟩) hS9 (fun hS10 => ?_)
   ·go_simp
   simp only [Act.put, lsA, lsB, lsC]
   clear hS9
   clear hS10
   refine wpAnyL_one (i := 10) (o := ⟨none, .store 22 (.tmp 41) (.tmp 40), 0, "exact.go:76", #[⟨9, .data⟩, ⟨8, .data⟩, ⟨8, .chain⟩, ⟨0, .phase⟩, ⟨1, .phase⟩, ⟨2, .phase⟩, ⟨3, .phase⟩, ⟨4, .phase⟩, ⟨5, .phase⟩, ⟨6, .phase⟩, ⟨7, .phase⟩, ⟨8, .phase⟩], none⟩) (by kernel_rfl) rfl (fun K hK => ?_)
   go_simp
   go_wp2_with fail
   refine hK.out _ _ ⟨fun h => (by cases (show true = false from h)), trivial⟩ ?_
   clear hK K
   refine wpAnyL_done (by kernel_rfl) ?_ _
   have HNX : Hid (∃ va vb vc, Ld W g p rb cb va vb vc (j + 1) 0 0 (rowA p (j + 1)) [] [] (w8.setCell ⟨cb, 0, none⟩ (.slice ao8 (j + 1) cap8))) := by
    refine ⟨.slice ao8 (j + 1) cap8, vb, vc, ?_⟩
    rw [rowA_succ]
    exact HST.out.1
   clear HST z0 zf zl
   go_wp2
   go_roundw
   case rel => exact ⟨j + 1, by omega, by go_num, HNX.out⟩
   case measure => simp [intOf]; omega
  ·obtain rfl : j = p.nc := by omega
   have HD1 : Hid (∃ va vb vc, Ld W g p rb cb va vb vc p.nc 0 0 (rowA p p.nc) (rowB p 0) [] wr) := ⟨va, vb, vc, HLW.out⟩
   clear HLW
   go_upto_region 7 with fail
   go_loopw [5] (fun i wr => ∃ j : Nat, j ≤ p.ns ∧ i = .int .i64 (j : Nat) ∧ Hid (∃ va vb vc, Ld W g p rb cb va vb vc p.nc j 0 (rowA p p.nc) (rowB p j) [] wr)) (fun i _ => p.ns - (intOf i).toNat)
   case atStart => exact ⟨0, by omega, rfl, HD1.out⟩
   case round =>
    obtain ⟨j, hj, rfl, HJ⟩ := hrel
    clear HD1
    obtain ⟨va, vb, vc, hld⟩ := HJ.out
    have HLW := hide hld
    have y := block_cell hld.prg 1
    have yl := block_lt hld.prg
    simp [Pg.cs] at y
    clear hld HJ
    by_cases hlt : j < p.ns
    ·obtain ⟨hia, hib⟩ := HOK.out.hs (by omega)
     have HIA := hide hia
     have HLD := hide (HLW.out.drew (Below.refl _ _).drew)
     have HS1 : Hid ((fun (w : World) => w.heap[cb]? = some (.cells #[va, vb, .int .i64 (p.en 0), .int .i64 (p.en 1), .int .i64 (p.en 2), .int .i64 (p.en 3), .int .i64 (p.en 4), .int .i64 (p.en 5), vc] 27 (0, 0)) ∧ w.heap[W.heap.size]? = some (.cells (g.cs p).toArray 27 (0, 0)) ∧ Below W.heap.size W w) wr.drew) := ⟨HLD.out.box, HLD.out.prg, HLD.out.bel⟩
     have HS2 : Hid (∀ o, (fun (w : World) => w.heap[cb]? = some (.cells #[va, vb, .int .i64 (p.en 0), .int .i64 (p.en 1), .int .i64 (p.en 2), .int .i64 (p.en 3), .int .i64 (p.en 4), .int .i64 (p.en 5), vc] 27 (0, 0)) ∧ w.heap[W.heap.size]? = some (.cells (g.cs p).toArray 27 (0, 0)) ∧ Below W.heap.size W w) (wr.drew.alloc o)) := fun o => by
      have hh := HLD.out.drew (below_alloc1 wr.drew o)
      exact ⟨hh.box, hh.prg, hh.bel⟩
     have HOW : Hid (∀ o, (wr.drew.alloc o).ownsRow W.heap.size 3 1 vb j (rowB p j)) := fun o => row_quietT HLD.out.qb (World.grownBy_alloc _ _ none)
     have HSZ : Hid (∀ o, W.heap.size ≤ (wr.drew.alloc o).heap.size) := fun o => by
      have := HLD.out.bel.size
      simp at this ⊢
      omega
     clear hia
     go_upto_region 9 with fail
     clear y yl
     refine wp_region_L 10 (fun (w : World) => w.heap[cb]? = some (.cells #[va, vb, .int .i64 (p.en 0), .int .i64 (p.en 1), .int .i64 (p.en 2), .int .i64 (p.en 3), .int .i64 (p.en 4), .int .i64 (p.en 5), vc] 27 (0, 0)) ∧ w.heap[W.heap.size]? = some (.cells (g.cs p).toArray 27 (0, 0)) ∧ Below W.heap.size W w) (fun _ => True) (by kernel_rfl) HS1.out trivial (fun hS0 => ?_)
     refine wpAnyL_take (i := 0) (oi := ⟨some 49, .fieldAddr 27 (.tmp 3) 1, 0, "exact.go:79", #[], none⟩) (v := .pointer (some ⟨cb, 1, none⟩)) rfl (by decide) (by kernel_rfl) (by kernel_rfl) (by kernel_rfl) (fun _ _ _ h => h) (Or.inl ⟨by rfl, fun w2 hSw => ?_⟩) hS0 (fun hS1 => ?_)
     ·go_simp
     simp only [Act.put, lsA, lsB, lsC]
     clear hS0
     refine wpAnyL_take1 (i := 1) (oi := ⟨some 50, .load 23 (.tmp 49), 23, "exact.go:79", #[⟨0, .data⟩], none⟩) (v := vb) rfl (by decide) (by kernel_rfl) (by kernel_rfl) (by kernel_rfl) (fun _ _ _ h => h) (Or.inl ⟨by rfl, fun w2 hSw => ?_⟩) hS1 (by kernel_rfl) rfl (by kernel_rfl) (fun hS2 => ?_)
     ·obtain ⟨hbx, hpg, hbl⟩ := hSw
      have k0 := block_cell hbx 1
      have kl := block_lt hbx
      simp at k0
      go_simp
     simp only [Act.put, lsA, lsB, lsC]
     clear hS1
     refine wpAnyL_take (i := 2) (oi := ⟨some 51, .fieldAddr 27 (.tmp 1) 1, 0, "exact.go:79", #[], none⟩) (v := .pointer (some ⟨W.heap.size, 1, none⟩)) rfl (by decide) (by kernel_rfl) (by kernel_rfl) (by kernel_rfl) (fun _ _ _ h => h) (Or.inl ⟨by rfl, fun w2 hSw => ?_⟩) hS2 (fun hS3 => ?_)
     ·go_simp
     simp only [Act.put, lsA, lsB, lsC]
     clear hS2
     refine wpAnyL_take1 (i := 3) (oi := ⟨some 52, .load 23 (.tmp 51), 23, "exact.go:79", #[⟨2, .data⟩], none⟩) (v := .slice (some ⟨g.sb, g.so, none⟩) p.ns g.sc) rfl (by decide) (by kernel_rfl) (by kernel_rfl) (by kernel_rfl) (fun _ _ _ h => h) (Or.inl ⟨by rfl, fun w2 hSw => ?_⟩) hS3 (by kernel_rfl) rfl (by kernel_rfl) (fun hS4 => ?_)
     ·obtain ⟨hbx, hpg, hbl⟩ := hSw
      have k0 := block_cell hpg 1
      have kl := block_lt hpg
      simp [Pg.cs, HIA.out] at k0
      go_simp
     simp only [Act.put, lsA, lsB, lsC]
     clear hS3
     refine wpAnyL_take (i := 4) (oi := ⟨some 53, .move (.tmp 5), 3, "exact.go:79", #[], none⟩) (v := .int .i64 (j : Nat)) rfl (by decide) (by kernel_rfl) (by kernel_rfl) (by kernel_rfl) (fun _ _ _ h => h) (Or.inl ⟨by rfl, fun w2 hSw => ?_⟩) hS4 (fun hS5 => ?_)
     ·go_simp
     simp only [Act.put, lsA, lsB, lsC]
     clear hS4
     refine wpAnyL_take (i := 5) (oi := ⟨some 54, .indexAddr 23 (.tmp 52) (.tmp 53), 0, "exact.go:79", #[⟨3, .data⟩, ⟨4, .data⟩], none⟩) (v := .pointer (some ⟨g.sb, g.so + j, none⟩)) rfl (by decide) (by kernel_rfl) (by kernel_rfl) (by kernel_rfl) (fun _ _ _ h => h) (Or.inl ⟨by rfl, fun w2 hSw => ?_⟩) hS5 (fun hS6 => ?_)
     ·go_simp
     simp only [Act.put, lsA, lsB, lsC]
     clear hS5
     refine wpAnyL_take1 (i := 6) (oi := ⟨some 55, .load 3 (.tmp 54), 3, "exact.go:79", #[⟨5, .data⟩], none⟩) (v := .int .i64 (p.S j)) rfl (by decide) (by kernel_rfl) (by kernel_rfl) (by kernel_rfl) (fun _ _ _ h => h) (Or.inl ⟨by rfl, fun w2 hSw => ?_⟩) hS6 (by kernel_rfl) rfl (by kernel_rfl) (fun hS7 => ?_)
     ·obtain ⟨hbx, hpg, hbl⟩ := hSw
      have e0 := (hbl.cell (p := ⟨g.sb, _, none⟩) hib).trans (HOK.out.vs j hlt)
      have kl : g.sb < w2.heap.size := Nat.lt_of_lt_of_le hib hbl.size
      go_simp
     simp only [Act.put, lsA, lsB, lsC]
     clear hS6
     clear hS7
     refine wpAnyL_one (i := 7) (o := ⟨some 56, .buildSlice 23 1 #[(0, .tmp 55)], 23, "exact.go:79", #[⟨6, .data⟩], none⟩) (by kernel_rfl) rfl (fun K hK => ?_)
     go_simp
     go_wp2_with fail
     refine hK.out _ _ ⟨fun _ => HS2.out _, trivial⟩ ?_
     clear hK K
     obtain ⟨v8, w8, hrun, ho8, hg8, _⟩ := run_append_own (P := Tryz.prog) (wr.drew.alloc (.cells #[.int .i64 (p.S j)] 3)) W.heap.size 23 23 3 iI (.int .i64 0) 1 8 Tryz.underlying23 hI hI0 hI1 hI2 rfl (by decide) vb j _ (HOW.out _) ⟨wr.drew.heap.size, 0, none⟩ 1 1 [.int .i64 (p.S j)] rfl (cell_one_new _ _ _) (by simp [Value.oneCell']) (by unfold maxLen; omega) (by omega) (HSZ.out _)
     have hst := HLD.out.stepB ho8 hg8
     obtain ⟨ao8, cap8, hv8⟩ := own_val2 ho8
     have z0 := block_cell hst.2.1 1
     have zf := block_free hst.2.1 1
     have zl := block_lt hst.2.1
     simp at z0
     have HST := hide hst
     clear hst ho8 hg8
     refine wpAnyL_one (i := 8) (o := ⟨some 57, .call { callee := Callee.builtin .append, args := #[.tmp 50, .tmp 56], argTypes := #[23, 23] }, 23, "exact.go:79", #[⟨1, .data⟩, ⟨7, .data⟩], none⟩) (by kernel_rfl) rfl (fun K hK => ?_)
     rw [if_pos (by kernel_rfl)]
     refine wp_append1 (.tmp 50) (.tmp 56) 23 rfl (v := vb) (v' := v8) (w' := w8) rfl rfl hrun ?_
     simp only [Act.put, List.setIfInBounds_toArray]
     refine hK.out _ _ ⟨fun _ => ⟨HST.out.2.1, HST.out.2.2.1, HST.out.2.2.2⟩, trivial⟩ ?_
     clear hK K hrun
     subst hv8
     have hS9 : SSg 10 (fun (w : World) => w.heap[cb]? = some (.cells #[va, vb, .int .i64 (p.en 0), .int .i64 (p.en 1), .int .i64 (p.en 2), .int .i64 (p.en 3), .int .i64 (p.en 4), .int .i64 (p.en 5), vc] 27 (0, 0)) ∧ w.heap[W.heap.size]? = some (.cells (g.cs p).toArray 27 (0, 0)) ∧ Below W.heap.size W w) (fun _ => True) #[true, true, true, true, true, true, true, true, true, false, false] w8 := ⟨fun _ => ⟨HST.out.2.1, HST.out.2.2.1, HST.out.2.2.2⟩, trivial⟩
     refine wpAnyL_take (i := 9) (oi := ⟨some 58, .fieldAddr 27 (.tmp 3) 1, 0, "exact.go:79", #[⟨0, .phase⟩, ⟨1, .phase⟩, ⟨2, .phase⟩, ⟨3, .phase⟩, ⟨4, .phase⟩, ⟨5, .phase⟩, ⟨6, .phase⟩, ⟨7, .phase⟩, ⟨8, .phase⟩], none⟩) (v := .pointer (some ⟨cb, 1, none⟩)) rfl (by decide) (by kernel_rfl) (by kernel_rfl) (by kernel_rfl) (fun _ _ _ h => h) (Or.inl ⟨by rfl, fun w2 hSw => ?_⟩) hS9 (fun hS10 => ?_)
     ·go_simp
     simp only [Act.put, lsA, lsB, lsC]
     clear hS9
     clear hS10
     refine wpAnyL_one (i := 10) (o := ⟨none, .store 23 (.tmp 58) (.tmp 57), 0, "exact.go:79", #[⟨9, .data⟩, ⟨8, .data⟩, ⟨8, .chain⟩, ⟨0, .phase⟩, ⟨1, .phase⟩, ⟨2, .phase⟩, ⟨3, .phase⟩, ⟨4, .phase⟩, ⟨5, .phase⟩, ⟨6, .phase⟩, ⟨7, .phase⟩, ⟨8, .phase⟩], none⟩) (by kernel_rfl) rfl (fun K hK => ?_)
     go_simp
     go_wp2_with fail
     refine hK.out _ _ ⟨fun h => (by cases (show true = false from h)), trivial⟩ ?_
     clear hK K
     refine wpAnyL_done (by kernel_rfl) ?_ _
     have HNX : Hid (∃ va vb vc, Ld W g p rb cb va vb vc p.nc (j + 1) 0 (rowA p p.nc) (rowB p (j + 1)) [] (w8.setCell ⟨cb, 1, none⟩ (.slice ao8 (j + 1) cap8))) := by
      refine ⟨va, .slice ao8 (j + 1) cap8, vc, ?_⟩
      rw [rowB_succ]
      exact HST.out.1
     clear HST z0 zf zl
     go_wp2
     go_roundw
     case rel => exact ⟨j + 1, by omega, by go_num, HNX.out⟩
     case measure => simp [intOf]; omega
    ·obtain rfl : j = p.ns := by omega
     have HD2 : Hid (∃ va vb vc, Ld W g p rb cb va vb vc p.nc p.ns 0 (rowA p p.nc) (rowB p p.ns) (rowC p 0) wr) := ⟨va, vb, vc, HLW.out⟩
     clear HLW
     go_upto_region 11 with fail
     go_loopw [6] (fun i wr => ∃ j : Nat, j ≤ p.n ∧ i = .int .i64 (j : Nat) ∧ Hid (∃ va vb vc, Ld W g p rb cb va vb vc p.nc p.ns j (rowA p p.nc) (rowB p p.ns) (rowC p j) wr)) (fun i _ => p.n - (intOf i).toNat)
     case atStart => exact ⟨0, by omega, rfl, HD2.out⟩
     case round =>
      obtain ⟨j, hj, rfl, HJ⟩ := hrel
      clear HD2
      obtain ⟨va, vb, vc, hld⟩ := HJ.out
      have HLW := hide hld
      have y := block_cell hld.prg 8
      have yl := block_lt hld.prg
      simp [Pg.cs] at y
      clear hld HJ
      by_cases hlt : j < p.n
      ·obtain ⟨hia, hib⟩ := HOK.out.hi (by omega)
       have HIA := hide hia
       have HLD := hide (HLW.out.drew (Below.refl _ _).drew)
       have HS1 : Hid ((fun (w : World) => w.heap[cb]? = some (.cells #[va, vb, .int .i64 (p.en 0), .int .i64 (p.en 1), .int .i64 (p.en 2), .int .i64 (p.en 3), .int .i64 (p.en 4), .int .i64 (p.en 5), vc] 27 (0, 0)) ∧ w.heap[W.heap.size]? = some (.cells (g.cs p).toArray 27 (0, 0)) ∧ Below W.heap.size W w) wr.drew) := ⟨HLD.out.box, HLD.out.prg, HLD.out.bel⟩
       have HS2 : Hid (∀ o, (fun (w : World) => w.heap[cb]? = some (.cells #[va, vb, .int .i64 (p.en 0), .int .i64 (p.en 1), .int .i64 (p.en 2), .int .i64 (p.en 3), .int .i64 (p.en 4), .int .i64 (p.en 5), vc] 27 (0, 0)) ∧ w.heap[W.heap.size]? = some (.cells (g.cs p).toArray 27 (0, 0)) ∧ Below W.heap.size W w) (wr.drew.alloc o)) := fun o => by
        have hh := HLD.out.drew (below_alloc1 wr.drew o)
        exact ⟨hh.box, hh.prg, hh.bel⟩
       have HOW : Hid (∀ o, (wr.drew.alloc o).ownsRow W.heap.size 42 2 vc j (rowC p j)) := fun o => row_quietT HLD.out.qc (World.grownBy_alloc _ _ none)
       have HSZ : Hid (∀ o, W.heap.size ≤ (wr.drew.alloc o).heap.size) := fun o => by
        have := HLD.out.bel.size
        simp at this ⊢
        omega
       clear hia
       go_upto_region 13 with fail
       clear y yl
       refine wp_region_L 10 (fun (w : World) => w.heap[cb]? = some (.cells #[va, vb, .int .i64 (p.en 0), .int .i64 (p.en 1), .int .i64 (p.en 2), .int .i64 (p.en 3), .int .i64 (p.en 4), .int .i64 (p.en 5), vc] 27 (0, 0)) ∧ w.heap[W.heap.size]? = some (.cells (g.cs p).toArray 27 (0, 0)) ∧ Below W.heap.size W w) (fun _ => True) (by kernel_rfl) HS1.out trivial (fun hS0 => ?_)
       refine wpAnyL_take (i := 0) (oi := ⟨some 66, .fieldAddr 27 (.tmp 3) 3, 0, "exact.go:82", #[], none⟩) (v := .pointer (some ⟨cb, 8, none⟩)) rfl (by decide) (by kernel_rfl) (by kernel_rfl) (by kernel_rfl) (fun _ _ _ h => h) (Or.inl ⟨by rfl, fun w2 hSw => ?_⟩) hS0 (fun hS1 => ?_)
       ·go_simp
       simp only [Act.put, lsA, lsB, lsC]
       clear hS0
       refine wpAnyL_take1 (i := 1) (oi := ⟨some 67, .load 25 (.tmp 66), 25, "exact.go:82", #[⟨0, .data⟩], none⟩) (v := vc) rfl (by decide) (by kernel_rfl) (by kernel_rfl) (by kernel_rfl) (fun _ _ _ h => h) (Or.inl ⟨by rfl, fun w2 hSw => ?_⟩) hS1 (by kernel_rfl) rfl (by kernel_rfl) (fun hS2 => ?_)
       ·obtain ⟨hbx, hpg, hbl⟩ := hSw
        have k0 := block_cell hbx 8
        have kl := block_lt hbx
        simp at k0
        go_simp
       simp only [Act.put, lsA, lsB, lsC]
       clear hS1
       refine wpAnyL_take (i := 2) (oi := ⟨some 68, .fieldAddr 27 (.tmp 1) 3, 0, "exact.go:82", #[], none⟩) (v := .pointer (some ⟨W.heap.size, 8, none⟩)) rfl (by decide) (by kernel_rfl) (by kernel_rfl) (by kernel_rfl) (fun _ _ _ h => h) (Or.inl ⟨by rfl, fun w2 hSw => ?_⟩) hS2 (fun hS3 => ?_)
       ·go_simp
       simp only [Act.put, lsA, lsB, lsC]
       clear hS2
       refine wpAnyL_take1 (i := 3) (oi := ⟨some 69, .load 25 (.tmp 68), 25, "exact.go:82", #[⟨2, .data⟩], none⟩) (v := .slice (some ⟨g.ib, g.io, none⟩) p.n g.ic) rfl (by decide) (by kernel_rfl) (by kernel_rfl) (by kernel_rfl) (fun _ _ _ h => h) (Or.inl ⟨by rfl, fun w2 hSw => ?_⟩) hS3 (by kernel_rfl) rfl (by kernel_rfl) (fun hS4 => ?_)
       ·obtain ⟨hbx, hpg, hbl⟩ := hSw
        have k0 := block_cell hpg 8
        have kl := block_lt hpg
        simp [Pg.cs, HIA.out] at k0
        go_simp
       simp only [Act.put, lsA, lsB, lsC]
       clear hS3
       refine wpAnyL_take (i := 4) (oi := ⟨some 70, .move (.tmp 6), 3, "exact.go:82", #[], none⟩) (v := .int .i64 (j : Nat)) rfl (by decide) (by kernel_rfl) (by kernel_rfl) (by kernel_rfl) (fun _ _ _ h => h) (Or.inl ⟨by rfl, fun w2 hSw => ?_⟩) hS4 (fun hS5 => ?_)
       ·go_simp
       simp only [Act.put, lsA, lsB, lsC]
       clear hS4
       refine wpAnyL_take (i := 5) (oi := ⟨some 71, .indexAddr 25 (.tmp 69) (.tmp 70), 0, "exact.go:82", #[⟨3, .data⟩, ⟨4, .data⟩], none⟩) (v := .pointer (some ⟨g.ib, g.io + j * 2, none⟩)) rfl (by decide) (by kernel_rfl) (by kernel_rfl) (by kernel_rfl) (fun _ _ _ h => h) (Or.inl ⟨by rfl, fun w2 hSw => ?_⟩) hS5 (fun hS6 => ?_)
       ·go_simp
       simp only [Act.put, lsA, lsB, lsC]
       clear hS5
       refine wpAnyL_take1 (i := 6) (oi := ⟨some 72, .load 42 (.tmp 71), 42, "exact.go:82", #[⟨5, .data⟩], none⟩) (v := .agg #[.int .i64 (p.op j), .int .i64 (p.arg j)]) rfl (by decide) (by kernel_rfl) (by kernel_rfl) (by kernel_rfl) (fun _ _ _ h => h) (Or.inl ⟨by rfl, fun w2 hSw => ?_⟩) hS6 (by kernel_rfl) rfl (by kernel_rfl) (fun hS7 => ?_)
       ·obtain ⟨hbx, hpg, hbl⟩ := hSw
        have e0 := (hbl.cell (p := ⟨g.ib, _, none⟩) hib).trans (HOK.out.vo j hlt)
        have e1 := (hbl.cell (p := ⟨g.ib, _, none⟩) hib).trans (HOK.out.va j hlt)
        have kl : g.ib < w2.heap.size := Nat.lt_of_lt_of_le hib hbl.size
        go_simp
       simp only [Act.put, lsA, lsB, lsC]
       clear hS6
       clear hS7
       refine wpAnyL_one (i := 7) (o := ⟨some 73, .buildSlice 25 1 #[(0, .tmp 72)], 25, "exact.go:82", #[⟨6, .data⟩], none⟩) (by kernel_rfl) rfl (fun K hK => ?_)
       go_simp
       go_wp2_with fail
       refine hK.out _ _ ⟨fun _ => HS2.out _, trivial⟩ ?_
       clear hK K
       obtain ⟨v8, w8, hrun, ho8, hg8, _⟩ := run_append_own (P := Tryz.prog) (wr.drew.alloc (.cells #[.int .i64 (p.op j), .int .i64 (p.arg j)] 42)) W.heap.size 25 25 42 iN (.agg #[.int .i64 0, .int .i64 0]) 2 16 Tryz.underlying25 hN hN0 hN1 hN2 rfl (by decide) vc j _ (HOW.out _) ⟨wr.drew.heap.size, 0, none⟩ 1 1 [.int .i64 (p.op j), .int .i64 (p.arg j)] rfl (cell_two_new _ _ _ _) (by simp [Value.oneCell']) (by unfold maxLen; omega) (by omega) (HSZ.out _)
       have hst := HLD.out.stepC ho8 hg8
       obtain ⟨ao8, cap8, hv8⟩ := own_val2 ho8
       have z0 := block_cell hst.2.1 8
       have zf := block_free hst.2.1 8
       have zl := block_lt hst.2.1
       simp at z0
       have HST := hide hst
       clear hst ho8 hg8
       refine wpAnyL_one (i := 8) (o := ⟨some 74, .call { callee := Callee.builtin .append, args := #[.tmp 67, .tmp 73], argTypes := #[25, 25] }, 25, "exact.go:82", #[⟨1, .data⟩, ⟨7, .data⟩], none⟩) (by kernel_rfl) rfl (fun K hK => ?_)
       rw [if_pos (by kernel_rfl)]
       refine wp_append1 (.tmp 67) (.tmp 73) 25 rfl (v := vc) (v' := v8) (w' := w8) rfl rfl hrun ?_
       simp only [Act.put, List.setIfInBounds_toArray]
       refine hK.out _ _ ⟨fun _ => ⟨HST.out.2.1, HST.out.2.2.1, HST.out.2.2.2⟩, trivial⟩ ?_
       clear hK K hrun
       subst hv8
       have hS9 : SSg 10 (fun (w : World) => w.heap[cb]? = some (.cells #[va, vb, .int .i64 (p.en 0), .int .i64 (p.en 1), .int .i64 (p.en 2), .int .i64 (p.en 3), .int .i64 (p.en 4), .int .i64 (p.en 5), vc] 27 (0, 0)) ∧ w.heap[W.heap.size]? = some (.cells (g.cs p).toArray 27 (0, 0)) ∧ Below W.heap.size W w) (fun _ => True) #[true, true, true, true, true, true, true, true, true, false, false] w8 := ⟨fun _ => ⟨HST.out.2.1, HST.out.2.2.1, HST.out.2.2.2⟩, trivial⟩
       refine wpAnyL_take (i := 9) (oi := ⟨some 75, .fieldAddr 27 (.tmp 3) 3, 0, "exact.go:82", #[⟨0, .phase⟩, ⟨1, .phase⟩, ⟨2, .phase⟩, ⟨3, .phase⟩, ⟨4, .phase⟩, ⟨5, .phase⟩, ⟨6, .phase⟩, ⟨7, .phase⟩, ⟨8, .phase⟩], none⟩) (v := .pointer (some ⟨cb, 8, none⟩)) rfl (by decide) (by kernel_rfl) (by kernel_rfl) (by kernel_rfl) (fun _ _ _ h => h) (Or.inl ⟨by rfl, fun w2 hSw => ?_⟩) hS9 (fun hS10 => ?_)
       ·go_simp
       simp only [Act.put, lsA, lsB, lsC]
       clear hS9
       clear hS10
       refine wpAnyL_one (i := 10) (o := ⟨none, .store 25 (.tmp 75) (.tmp 74), 0, "exact.go:82", #[⟨9, .data⟩, ⟨8, .data⟩, ⟨8, .chain⟩, ⟨0, .phase⟩, ⟨1, .phase⟩, ⟨2, .phase⟩, ⟨3, .phase⟩, ⟨4, .phase⟩, ⟨5, .phase⟩, ⟨6, .phase⟩, ⟨7, .phase⟩, ⟨8, .phase⟩], none⟩) (by kernel_rfl) rfl (fun K hK => ?_)
       go_simp
       go_wp2_with fail
       refine hK.out _ _ ⟨fun h => (by cases (show true = false from h)), trivial⟩ ?_
       clear hK K
       refine wpAnyL_done (by kernel_rfl) ?_ _
       have HNX : Hid (∃ va vb vc, Ld W g p rb cb va vb vc p.nc p.ns (j + 1) (rowA p p.nc) (rowB p p.ns) (rowC p (j + 1)) (w8.setCell ⟨cb, 8, none⟩ (.slice ao8 (j + 1) cap8))) := by
        refine ⟨va, vb, .slice ao8 (j + 1) cap8, ?_⟩
        rw [rowC_succ]
        exact HST.out.1
       clear HST z0 zf zl
       go_wp2
       go_roundw
       case rel => exact ⟨j + 1, by omega, by go_num, HNX.out⟩
       case measure => simp [intOf]; omega
      ·obtain rfl : j = p.n := by omega
       have HD3 : Hid (∃ va vb vc, Ld W g p rb cb va vb vc p.nc p.ns p.n (rowA p p.nc) (rowB p p.ns) (rowC p p.n) wr) := ⟨va, vb, vc, HLW.out⟩
       clear HLW
       obtain ⟨va, vb, vc, hld⟩ := HD3.out
       have HL := hide hld
       clear hld HD3
       go_upto_region 14 with fail
       clear y yl
       have z0 := block_cell HL.out.box 0
       have zl := block_lt HL.out.box
       simp at z0
       have HOW : Hid (∀ o, (wr.alloc o).ownsRow W.heap.size 28 1 va p.nc _) := fun o => row_quietT HL.out.qa (World.grownBy_alloc _ _ none)
       have HSZ : Hid (∀ o, W.heap.size ≤ (wr.alloc o).heap.size) := fun o => by
        have := HL.out.bel.size
        simp
        omega
       go_upto_region 15 with (at_builtin; refine wpList_append_own _ rfl (.tmp 77) (.tmp 78) 22 rfl W.heap.size 28 iU (.int .u64 0) 1 8 Tryz.underlying22 hU hU0 hU1 hU2 rfl (by decide) va p.nc _ rfl (HOW.out _) ⟨wr.heap.size, 0, none⟩ 1 1 [.int .u64 71] rfl rfl (cell_one_new _ _ _) (by simp [Value.oneCell']) (by unfold maxLen; omega) (by omega) (HSZ.out _) ?_; intro v' wA hoA hgA _; obtain ⟨aoA, cpA, hvA⟩ := own_val2 hoA; have hA := HL.out.stepA hoA hgA; have k0 := block_cell hA.2.1 0; have kf := block_free hA.2.1 0; have kl := block_lt hA.2.1; simp at k0; have HAa := hide hA.1; subst hvA; clear hA hoA hgA HOW HSZ z0 zl)
       obtain ⟨wBa, hwB⟩ : ∃ wB, wA.setCell ⟨cb, 0, none⟩ (.slice aoA (p.nc + 1) cpA) = wB := ⟨_, rfl⟩
       rw [hwB]
       rw [hwB] at HAa
       clear hwB k0 kf kl HL
       have z0 := block_cell HAa.out.box 1
       have zl := block_lt HAa.out.box
       simp at z0
       have HOW : Hid (∀ o, (wBa.alloc o).ownsRow W.heap.size 3 1 vb p.ns _) := fun o => row_quietT HAa.out.qb (World.grownBy_alloc _ _ none)
       have HSZ : Hid (∀ o, W.heap.size ≤ (wBa.alloc o).heap.size) := fun o => by
        have := HAa.out.bel.size
        simp
        omega
       go_upto_region 16 with (at_builtin; refine wpList_append_own _ rfl (.tmp 82) (.tmp 83) 23 rfl W.heap.size 3 iI (.int .i64 0) 1 8 Tryz.underlying23 hI hI0 hI1 hI2 rfl (by decide) vb p.ns _ rfl (HOW.out _) ⟨wBa.heap.size, 0, none⟩ 1 1 [.int .i64 72] rfl rfl (cell_one_new _ _ _) (by simp [Value.oneCell']) (by unfold maxLen; omega) (by omega) (HSZ.out _) ?_; intro v' wA hoA hgA _; obtain ⟨aoA, cpA, hvA⟩ := own_val2 hoA; have hA := HAa.out.stepB hoA hgA; have k0 := block_cell hA.2.1 1; have kf := block_free hA.2.1 1; have kl := block_lt hA.2.1; simp at k0; have HAb := hide hA.1; subst hvA; clear hA hoA hgA HOW HSZ z0 zl)
       obtain ⟨wBb, hwB⟩ : ∃ wB, wA.setCell ⟨cb, 1, none⟩ (.slice aoA (p.ns + 1) cpA) = wB := ⟨_, rfl⟩
       rw [hwB]
       rw [hwB] at HAb
       clear hwB k0 kf kl HAa
       have z0 := block_cell HAb.out.box 8
       have zl := block_lt HAb.out.box
       simp at z0
       have HOW : Hid (∀ o, (wBb.alloc o).ownsRow W.heap.size 42 2 vc p.n _) := fun o => row_quietT HAb.out.qc (World.grownBy_alloc _ _ none)
       have HSZ : Hid (∀ o, W.heap.size ≤ (wBb.alloc o).heap.size) := fun o => by
        have := HAb.out.bel.size
        simp
        omega
       go_upto_region 17 with (at_builtin; refine wpList_append_own _ rfl (.tmp 87) (.tmp 89) 25 rfl W.heap.size 42 iN (.agg #[.int .i64 0, .int .i64 0]) 2 16 Tryz.underlying25 hN hN0 hN1 hN2 rfl (by decide) vc p.n _ rfl (HOW.out _) ⟨wBb.heap.size, 0, none⟩ 1 1 [.int .i64 73, .int .i64 74] rfl rfl (cell_two_new _ _ _ _) (by simp [Value.oneCell']) (by unfold maxLen; omega) (by omega) (HSZ.out _) ?_; intro v' wA hoA hgA _; obtain ⟨aoA, cpA, hvA⟩ := own_val2 hoA; have hA := HAb.out.stepC hoA hgA; have k0 := block_cell hA.2.1 8; have kf := block_free hA.2.1 8; have kl := block_lt hA.2.1; simp at k0; have HAc := hide hA.1; subst hvA; clear hA hoA hgA HOW HSZ z0 zl)
       obtain ⟨wBc, hwB⟩ : ∃ wB, wA.setCell ⟨cb, 8, none⟩ (.slice aoA (p.n + 1) cpA) = wB := ⟨_, rfl⟩
       rw [hwB]
       rw [hwB] at HAc
       clear hwB k0 kf kl HAb
       have HOL := HOK.out
       obtain ⟨g', e0, e1, e8, hlf⟩ := HAc.out.whole HRB.out HOL.lc HOL.ls HOL.li
       have HLF := hide hlf
       clear hlf HAc HOL
       rw [e0, e1, e8] at HLF
       clear e0 e1 e8
       have z0 := block_cell HLF.out.box 0
       have zf := block_free HLF.out.box 0
       have zl := block_lt HLF.out.box
       have y0 := block_cell HLF.out.prg 0
       have yl := block_lt HLF.out.prg
       simp [Pg.cs] at z0 y0
       have hk : p.nc + 1 ≤ g'.cc := HLF.out.sp.cc
       have hsa : ∃ ad, g'.ca = some ad := ⟨_, HLF.out.sp.ca⟩
       obtain ⟨ad, had⟩ := hsa
       rw [had] at z0
       have HN := hide (HLF.out.set0 (.slice g'.ca p.nc g'.cc))
       rw [had] at HN
       go_upto_region 18 with fail
       obtain ⟨wN0, hwN⟩ : ∃ wN, wBc.setCell ⟨cb, 0, none⟩ (.slice (some ad) p.nc g'.cc) = wN := ⟨_, rfl⟩
       rw [hwN]
       rw [hwN] at HN
       rw [← had] at HN
       clear hwN z0 zf zl y0 yl hk had HLF
       have HLF := hide HN.out
       clear HN
       have z0 := block_cell HLF.out.box 1
       have zf := block_free HLF.out.box 1
       have zl := block_lt HLF.out.box
       have y0 := block_cell HLF.out.prg 1
       have yl := block_lt HLF.out.prg
       simp [Pg.cs] at z0 y0
       have hk : p.ns + 1 ≤ g'.sc := HLF.out.sp.sc
       have hsa : ∃ ad, g'.sa = some ad := ⟨_, HLF.out.sp.sa⟩
       obtain ⟨ad, had⟩ := hsa
       rw [had] at z0
       have HN := hide (HLF.out.set1 (.slice g'.sa p.ns g'.sc))
       rw [had] at HN
       go_upto_region 19 with fail
       obtain ⟨wN1, hwN⟩ : ∃ wN, wN0.setCell ⟨cb, 1, none⟩ (.slice (some ad) p.ns g'.sc) = wN := ⟨_, rfl⟩
       rw [hwN]
       rw [hwN] at HN
       rw [← had] at HN
       clear hwN z0 zf zl y0 yl hk had HLF
       have HLF := hide HN.out
       clear HN
       have z0 := block_cell HLF.out.box 8
       have zf := block_free HLF.out.box 8
       have zl := block_lt HLF.out.box
       have y0 := block_cell HLF.out.prg 8
       have yl := block_lt HLF.out.prg
       simp [Pg.cs] at z0 y0
       have hk : p.n + 1 ≤ g'.ic := HLF.out.sp.ic
       have hsa : ∃ ad, g'.ia = some ad := ⟨_, HLF.out.sp.ia⟩
       obtain ⟨ad, had⟩ := hsa
       rw [had] at z0
       have HN := hide (HLF.out.set8 (.slice g'.ia p.n g'.ic))
       rw [had] at HN
       go_upto_region 20 with fail
       obtain ⟨wN8, hwN⟩ : ∃ wN, wN1.setCell ⟨cb, 8, none⟩ (.slice (some ad) p.n g'.ic) = wN := ⟨_, rfl⟩
       rw [hwN]
       rw [hwN] at HN
       rw [← had] at HN
       clear hwN z0 zf zl y0 yl hk had HLF
       have HLF := hide HN.out
       clear HN
       have z0 := block_cell HLF.out.box 0
       have z1 := block_cell HLF.out.box 1
       have z2 := block_cell HLF.out.box 2
       have z3 := block_cell HLF.out.box 3
       have z4 := block_cell HLF.out.box 4
       have z5 := block_cell HLF.out.box 5
       have z6 := block_cell HLF.out.box 6
       have z7 := block_cell HLF.out.box 7
       have z8 := block_cell HLF.out.box 8
       have zl := block_lt HLF.out.box
       have r0 := block_cell HLF.out.res 0
       have f0 := block_free HLF.out.res 0
       have r1 := block_cell HLF.out.res 1
       have f1 := block_free HLF.out.res 1
       have r2 := block_cell HLF.out.res 2
       have f2 := block_free HLF.out.res 2
       have r3 := block_cell HLF.out.res 3
       have f3 := block_free HLF.out.res 3
       have r4 := block_cell HLF.out.res 4
       have f4 := block_free HLF.out.res 4
       have r5 := block_cell HLF.out.res 5
       have f5 := block_free HLF.out.res 5
       have r6 := block_cell HLF.out.res 6
       have f6 := block_free HLF.out.res 6
       have r7 := block_cell HLF.out.res 7
       have f7 := block_free HLF.out.res 7
       have r8 := block_cell HLF.out.res 8
       have f8 := block_free HLF.out.res 8
       have rl := block_lt HLF.out.res
       simp at z0 r0 z1 r1 z2 r2 z3 r3 z4 r4 z5 r5 z6 r6 z7 r7 z8 r8
       have HF := hide (HLF.out.fin (.slice g'.ca p.nc g'.cc) (.slice g'.sa p.ns g'.sc) (.int .i64 (p.en 0)) (.int .i64 (p.en 1)) (.int .i64 (p.en 2)) (.int .i64 (p.en 3)) (.int .i64 (p.en 4)) (.int .i64 (p.en 5)) (.slice g'.ia p.n g'.ic))
       have HR9 := hide (set9_at HLF.out.res (.slice g'.ca p.nc g'.cc) (.slice g'.sa p.ns g'.sc) (.int .i64 (p.en 0)) (.int .i64 (p.en 1)) (.int .i64 (p.en 2)) (.int .i64 (p.en 3)) (.int .i64 (p.en 4)) (.int .i64 (p.en 5)) (.slice g'.ia p.n g'.ic))
       clear HLF
       go_wp2
       have hr9 := HR9.out
       have q0 := block_cell hr9 0
       have q1 := block_cell hr9 1
       have q2 := block_cell hr9 2
       have q3 := block_cell hr9 3
       have q4 := block_cell hr9 4
       have q5 := block_cell hr9 5
       have q6 := block_cell hr9 6
       have q7 := block_cell hr9 7
       have q8 := block_cell hr9 8
       unfold set9 at q0 q1 q2 q3 q4 q5 q6 q7 q8
       refine bodyPost_ret (v := .agg (g'.cs p).toArray) (by simp [results, Tryz.results14, go_sem, q0, q1, q2, q3, q4, q5, q6, q7, q8, Pg.cs]) rfl ?_
       exact ⟨g', rfl, HF.out⟩
theorem lendT {W : World} {g : Pg} {p : Pv} (h : g.Ok p W.heap.size W) (b0 : p.nc * 8 ≤ 140737488351232) (b1 : p.ns * 8 ≤ 140737488351232) (b2 : p.n * 16 ≤ 140737488351232) : Calls Tryz.prog 14 #[.agg (g.cs p).toArray] W (Ln W p) :=
 (lendO h b0 b1 b2).mono fun _ _ ⟨g', he, G⟩ => ⟨g', he, G.out.1, G.out.2.1, G.out.2.2.1⟩
end Go.Proofs.YtggpaljilpbmhaaGreatDoor
