import Derived.Test.YtacppkfcafgdlaaDoorCvY
namespace Go.Proofs.YtacppkfcafgdlaaDoor
open Go.RowKit

/-- What lend hands out. -/
def Ln (W : World) (p : Pv) (e : Ending) (w' : World) : Prop := ∃ g' : Pg, e = .returned (.agg (g'.cs p).toArray) ∧ Hid (g'.Ok p w'.heap.size w' ∧ Sp g' p w'.heap.size w' ∧ Below W.heap.size W w')
theorem sameKL {W : World} {v1 v2 : Value} {l : List Bool} (h1 : KL W.heap.size W v1 l) (h2 : KL W.heap.size W v2 l) (hl : l.length ≤ 64) : Calls Tryd.prog 11 #[v1, v2] W fun e w' => e = .returned (.bool true) ∧ Hid (Below W.heap.size W w') := by
  obtain ⟨a1, c1, b1, o1, rfl, _, x1, y1⟩ := h1
  obtain ⟨a2, c2, b2, o2, rfl, _, x2, y2⟩ := h2
  have key : ∀ (b o : Nat), (∀ j x, l[j]? = some x → W.cell? ⟨b, o + j, none⟩ = some (iv x)) → ∀ j, j < l.length → W.cell? ⟨b, o + j, none⟩ = some (.int .i64 (if l.getD j false then 1 else 0)) := fun b o y j hj => by
    rw [y j l[j] (List.getElem?_eq_getElem hj)]
    unfold iv
    rw [List.getD_eq_getElem?_getD, List.getElem?_eq_getElem hj]
    rfl
  exact sameIntsT (fun j => if l.getD j false then 1 else 0) x1 x2 (key b1 o1 y1) (key b2 o2 y2) (by omega)
set_option maxRecDepth 10000 in
set_option maxHeartbeats 6400000 in
theorem verifies_walk {W : World} {g : Pg} {p : Pv} (h : g.Ok p W.heap.size W) (hT : Tab W) (at_ : Int) (hlend : ∀ w, Below W.heap.size W w → Calls Tryd.prog 4 #[.agg (g.cs p).toArray] w (Ln w p)) :
    Calls Tryd.prog 3 #[.agg (g.cs p).toArray, .int .i64 at_] W fun e w' => e = .returned (.bool true) ∧ Below W.heap.size W w' := by
  obtain ⟨W1, hW1⟩ : ∃ W1, W.alloc (.cells (g.cs p).toArray 27) = W1 := ⟨_, rfl⟩
  have B1 : Below W.heap.size W W1 := by rw [← hW1]; exact below_alloc1 W _
  have A1 : W1.heap[W.heap.size]? = some (.cells (g.cs p).toArray 27 (0, 0)) := by rw [← hW1]; exact alloc_atK _ _
  have HLE := hide (hlend W1 B1)
  have HOK := hide h
  have HTB := hide hT
  have HB1 := hide B1
  have HA1 := hide A1
  have y0 := block_cell A1 0
  have y1 := block_cell A1 1
  have y2 := block_cell A1 2
  have y3 := block_cell A1 3
  have y4 := block_cell A1 4
  have y5 := block_cell A1 5
  have y6 := block_cell A1 6
  have y7 := block_cell A1 7
  have y8 := block_cell A1 8
  have yl := block_lt A1
  simp [Pg.cs] at y0 y1 y2 y3 y4 y5 y6 y7 y8
  have HW1 := hide hW1
  clear h hT hlend B1 A1 hW1
  have HCS : Hid (∀ g : Pg, g.cs p = [.slice g.ca p.nc g.cc, .slice g.sa p.ns g.sc, .int .i64 (p.en 0), .int .i64 (p.en 1), .int .i64 (p.en 2), .int .i64 (p.en 3), .int .i64 (p.en 4), .int .i64 (p.en 5), .slice g.ia p.n g.ic]) := fun _ => rfl
  rw [HCS.out g] at HW1 HLE ⊢
  go_enter Tryd.func3, Tryd.ntmps3
  go_upto_region 1 with fail
  rw [HW1.out]
  clear HW1
  go_wp2_with fail
  refine HLE.out.mono ?_
  rintro e w3 ⟨g', rfl, G3⟩
  obtain ⟨w4, hw4⟩ : ∃ w4, w3.alloc (.cells (g'.cs p).toArray 27) = w4 := ⟨_, rfl⟩
  have B4 : Below w3.heap.size w3 w4 := by rw [← hw4]; exact below_alloc1 _ _
  have A4 : w4.heap[w3.heap.size]? = some (.cells (g'.cs p).toArray 27 (0, 0)) := by rw [← hw4]; exact alloc_atK _ _
  have HL4 : Hid (Lw W g g' p w3.heap.size w3.heap.size w4) := by
    have b3 := HB1.out.trans (G3.out.2.2.mono HB1.out.size)
    have b4 := b3.trans (B4.mono b3.size)
    exact ⟨(B4.block _ (Nat.lt_of_lt_of_le (block_lt HA1.out) G3.out.2.2.size)).trans ((G3.out.2.2.block _ (block_lt HA1.out)).trans HA1.out), A4, HOK.out.kept b4 (Nat.le_refl _), G3.out.1.kept B4 (Nat.le_refl _), G3.out.2.1.kept B4 (Nat.le_refl _), HTB.out.below b4 HTB.out.z, B4.size, b4.size, b4⟩
  have HW4 := hide hw4
  rw [HCS.out g'] at HW4
  rw [HCS.out g']
  clear hw4 B4 A4 G3 HLE HOK HTB HB1 HA1 y0 y1 y2 y3 y4 y5 y6 y7 y8 yl
  go_upto_region 2 with fail
  rw [HW4.out]
  clear HW4
  generalize w3.heap.size = cb at *
  have HVB := hide (verifyBoth HL4.out)
  rw [HCS.out g', HCS.out g] at HVB
  obtain ⟨⟨y0, y1, y2, y3, y4, y5, y6, y7, y8, yl⟩, ⟨x0, x1, x2, x3, x4, x5, x6, x7, x8, xl⟩⟩ := HL4.out.cells
  go_wp2_with fail
  refine HVB.out.mono ?_
  rintro e w5 ⟨v, rfl, G5⟩
  clear HVB HL4 y0 y1 y2 y3 y4 y5 y6 y7 y8 yl x0 x1 x2 x3 x4 x5 x6 x7 x8 xl
  have HL5 := hide G5.out.1
  have HVR := hide (G5.out.2 w5 G5.out.1 (Below.refl _ _))
  clear G5
  obtain ⟨⟨y0, y1, y2, y3, y4, y5, y6, y7, y8, yl⟩, _⟩ := HL5.out.cells
  go_wp2_with fail
  refine HVR.out.mono ?_
  rintro e w6 ⟨f1, f2, rfl, G6⟩
  clear HVR y0 y1 y2 y3 y4 y5 y6 y7 y8 yl HL5
  have HIS := hide (isT G6.out.2)
  go_wp2_with fail
  refine HIS.out.mono ?_
  rintro e w7 ⟨rfl, G7⟩
  have HL7 := hide (G6.out.1.next G7.out)
  clear HIS G6 G7
  have HKP : Hid (∀ w, Lw W g g' p cb cb w → Calls Tryd.prog 8 #[.agg (g'.cs p).toArray, .agg (g.cs p).toArray] w fun e w' => e = .returned (.bool true) ∧ Hid (Below w.heap.size w w')) := fun w hw => keptT (hw.k2.wide hw.le) (hw.k1.wide hw.le2) (hw.sp.wide hw.le)
  rw [HCS.out g', HCS.out g] at HKP
  obtain ⟨⟨y0, y1, y2, y3, y4, y5, y6, y7, y8, yl⟩, ⟨x0, x1, x2, x3, x4, x5, x6, x7, x8, xl⟩⟩ := HL7.out.cells
  go_wp2_with fail
  refine (HKP.out w7 HL7.out).mono ?_
  rintro e w8 ⟨rfl, G8⟩
  have HL8 := hide (HL7.out.next G8.out)
  clear HL7 G8 y0 y1 y2 y3 y4 y5 y6 y7 y8 yl x0 x1 x2 x3 x4 x5 x6 x7 x8 xl
  have HSB := hide (shapeBoth HL8.out at_)
  rw [HCS.out g', HCS.out g] at HSB
  obtain ⟨⟨y0, y1, y2, y3, y4, y5, y6, y7, y8, yl⟩, _⟩ := HL8.out.cells
  go_wp2_with fail
  refine HSB.out.mono ?_
  rintro e w9 ⟨vS, kb, aoF, nF, cpF, yF, rfl, G9⟩
  clear HSB HL8 y0 y1 y2 y3 y4 y5 y6 y7 y8 yl
  obtain ⟨w10, hw10⟩ : ∃ w10, w9.alloc (.cells #[.slice aoF nF cpF, .int .i64 yF] 35) = w10 := ⟨_, rfl⟩
  have B10 : Below w9.heap.size w9 w10 := by rw [← hw10]; exact below_alloc1 _ _
  have A10 : w10.heap[w9.heap.size]? = some (.cells #[.slice aoF nF cpF, .int .i64 yF] 35 (0, 0)) := by rw [← hw10]; exact alloc_atK _ _
  have HL10 := hide (G9.out.1.next B10)
  have HSC := hide (G9.out.2 w10 HL10.out B10)
  have HW10 := hide hw10
  have HA10 := hide A10
  clear hw10 B10 A10 G9
  go_upto_region 6 with fail
  rw [HW10.out]
  clear HW10
  obtain ⟨_, ⟨x0, x1, x2, x3, x4, x5, x6, x7, x8, xl⟩⟩ := HL10.out.cells
  go_wp2_with fail
  refine HSC.out.mono ?_
  rintro e w11 ⟨vC, u, rfl, G11⟩
  clear HSC HL10 x0 x1 x2 x3 x4 x5 x6 x7 x8 xl
  have HL11 := hide G11.out.1
  have HER := hide G11.out.2.2.1
  have A11 := (G11.out.2.1.block _ (block_lt HA10.out)).trans HA10.out
  have HA11 := hide A11
  have HKS := hide G11.out.2.2.2
  clear G11 A11 HA10
  obtain ⟨l, hl64, kl1, kl2⟩ := HKS.out
  have HSI := hide (sameKL kl2 kl1 hl64)
  clear kl1 kl2 HKS hl64
  go_wp2_with fail
  refine HSI.out.mono ?_
  rintro e w12 ⟨rfl, G12⟩
  have HL12 := hide (HL11.out.next G12.out)
  have HER2 := hide (HER.out.next G12.out)
  have A12 := (G12.out.block _ (block_lt HA11.out)).trans HA11.out
  have t0 := block_cell A12 0
  have t1 := block_cell A12 1
  have tl := block_lt A12
  simp at t0 t1
  have HIS := hide (isT HER2.out)
  clear HSI HL11 HER G12 A12 HA11
  go_wp2_with fail
  refine HIS.out.mono ?_
  rintro e w13 ⟨rfl, G13⟩
  have HL13 := hide (HL12.out.next G13.out)
  clear HIS HL12 HER2 G13 t0 t1 tl
  obtain ⟨⟨y0, y1, y2, y3, y4, y5, y6, y7, y8, yl⟩, ⟨x0, x1, x2, x3, x4, x5, x6, x7, x8, xl⟩⟩ := HL13.out.cells
  go_wp2_with fail
  refine (HKP.out w13 HL13.out).mono ?_
  rintro e w14 ⟨rfl, G14⟩
  have HD := hide (HL13.out.next G14.out).bel
  go_wp2
  go_ret
  exact ⟨rfl, HD.out⟩
end Go.Proofs.YtacppkfcafgdlaaDoor
