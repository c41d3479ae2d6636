import Derived.Test.YtfopdbnokojlmaaDoorMG
import Derived.Test.YtfopdbnokojlmaaDoorMJ
import Derived.Test.YtfopdbnokojlmaaDoorCvZ
namespace Go.Proofs.YtfopdbnokojlmaaDoor
open Go.RowKit

/-- What the reference's answer is. -/
def LsQ (p : Pv) (w : World) (s : ByteArray) (ao : Option Addr) (n cap : Nat) (y : Int) (r : Except (Int × Int) Kn) : Prop := match r with
  | .ok _ => s = lst4 p ∧ ao = none ∧ n = 0 ∧ cap = 0 ∧ y = 0
  | .error (a, z) => s = ⟨#[]⟩ ∧ n = 1 ∧ z = y ∧ y ≠ 0 ∧ ∃ b off, FV w.heap.size w ao [⟨⟨#[99, 111, 100, 101]⟩, a⟩] b off
theorem str_same (s : ByteArray) (w : World) : (binOp .eql 9 (.string s) (.string s)).run Tryd.prog w = .ok (.bool true) w := by go_simp
set_option maxRecDepth 10000 in
set_option maxHeartbeats 6400000 in
theorem lists_walk {W : World} {g : Pg} {p : Pv} (h : g.Ok p W.heap.size W) (hT : Tab2 W) (hcb : ∀ j, j < p.nc → 0 ≤ p.C j ∧ p.C j < 18446744073709551616) (hlend : ∀ w, Below W.heap.size W w → Calls Tryd.prog 5 #[.agg (g.cs p).toArray] w (Ln w p)) :
    Calls Tryd.prog 3 #[.agg (g.cs p).toArray] W fun e w' => e = .returned (.bool true) ∧ Below W.heap.size W w' := by
  obtain ⟨W1, hW1⟩ : ∃ W1, W.alloc (.cells (g.cs p).toArray 27) = W1 := ⟨_, rfl⟩
  have B1 : Below W.heap.size W W1 := by rw [← hW1]; exact below_alloc1 W _
  have A1 : W1.heap[W.heap.size]? = some (.cells (g.cs p).toArray 27 (0, 0)) := by rw [← hW1]; exact alloc_atK _ _
  have HR := hide (listR ((h.kept B1 (Nat.le_refl _)).wide B1.size) (hT.next B1).p hcb)
  have y0 := block_cell A1 0
  have y1 := block_cell A1 1
  have y2 := block_cell A1 2
  have y3 := block_cell A1 3
  have y4 := block_cell A1 4
  have y5 := block_cell A1 5
  have y6 := block_cell A1 6
  have y7 := block_cell A1 7
  have y8 := block_cell A1 8
  have yl := block_lt A1
  simp [Pg.cs] at y0 y1 y2 y3 y4 y5 y6 y7 y8
  have HLE := hide hlend
  have HOK := hide h
  have HTB := hide hT
  have HB1 := hide B1
  have HA1 := hide A1
  have HW1 := hide hW1
  have HCB := hide hcb
  obtain ⟨r, hr⟩ : ∃ r, verF p = r := ⟨_, rfl⟩
  have HVR := hide hr
  rw [hr] at HR
  clear h hT hlend B1 A1 hW1 hcb hr
  have HCS : Hid (∀ g : Pg, g.cs p = [.slice g.ca p.nc g.cc, .slice g.sa p.ns g.sc, .int .i64 (p.en 0), .int .i64 (p.en 1), .int .i64 (p.en 2), .int .i64 (p.en 3), .int .i64 (p.en 4), .int .i64 (p.en 5), .slice g.ia p.n g.ic]) := fun _ => rfl
  rw [HCS.out g] at HW1 HLE HR ⊢
  go_enter Tryd.func3, Tryd.ntmps3
  go_upto_region 1 with fail
  rw [HW1.out]
  clear HW1
  go_wp2_with fail
  refine HR.out.mono ?_
  intro e w2 hh
  obtain ⟨s, ao, n, cap, y, he, hb2, her⟩ : ∃ s ao n cap y, e = .returned (.tuple #[.string s, .agg #[.slice ao n cap, .int .i64 y]]) ∧ Below W1.heap.size W1 w2 ∧ LsQ p w2 s ao n cap y r := by
    cases r with
    | ok k => exact ⟨_, _, _, _, _, hh.1, hh.2.out, rfl, rfl, rfl, rfl, rfl⟩
    | error z =>
      obtain ⟨a, z⟩ := z
      obtain ⟨ao, cap, h1, G⟩ := hh
      obtain ⟨b, off, hf, hb⟩ := G.out
      exact ⟨_, _, _, _, _, h1, hb, rfl, rfl, rfl, ver_ne HVR.out, b, off, hf⟩
  subst he
  have HER := hide her
  obtain ⟨w3, hw3⟩ : ∃ w3, w2.alloc (.cells #[.slice ao n cap, .int .i64 y] 30) = w3 := ⟨_, rfl⟩
  have B3 : Below w2.heap.size w2 w3 := by rw [← hw3]; exact below_alloc1 _ _
  have A3 : w3.heap[w2.heap.size]? = some (.cells #[.slice ao n cap, .int .i64 y] 30 (0, 0)) := by rw [← hw3]; exact alloc_atK _ _
  have B13 := hb2.trans (B3.mono hb2.size)
  have HB3 := hide B3
  have HA3 := hide A3
  have HW3 := hide hw3
  have HP3 : Hid (w3.heap[W.heap.size]? = some (.cells (g.cs p).toArray 27 (0, 0))) := (B13.block _ (block_lt HA1.out)).trans HA1.out
  have HBW := hide (HB1.out.trans (B13.mono HB1.out.size))
  have HL3 := hide (HLE.out w3 HBW.out)
  clear hh her hb2 hw3 B3 A3 B13 HR HLE HB1 HA1 y0 y1 y2 y3 y4 y5 y6 y7 y8 yl
  have y0 := block_cell HP3.out 0
  have y1 := block_cell HP3.out 1
  have y2 := block_cell HP3.out 2
  have y3 := block_cell HP3.out 3
  have y4 := block_cell HP3.out 4
  have y5 := block_cell HP3.out 5
  have y6 := block_cell HP3.out 6
  have y7 := block_cell HP3.out 7
  have y8 := block_cell HP3.out 8
  have yl := block_lt HP3.out
  simp [Pg.cs] at y0 y1 y2 y3 y4 y5 y6 y7 y8
  go_upto_region 2 with fail
  rw [HW3.out]
  clear HW3
  obtain ⟨fb, hfb⟩ : ∃ fb, w2.heap.size = fb := ⟨_, rfl⟩
  rw [hfb] at HA3
  rw [hfb]
  clear hfb
  go_wp2_with fail
  refine HL3.out.mono ?_
  rintro e w4 ⟨g', rfl, G4⟩
  obtain ⟨w5, hw5⟩ : ∃ w5, w4.alloc (.cells (g'.cs p).toArray 27) = w5 := ⟨_, rfl⟩
  have B5 : Below w4.heap.size w4 w5 := by rw [← hw5]; exact below_alloc1 _ _
  have A5 : w5.heap[w4.heap.size]? = some (.cells (g'.cs p).toArray 27 (0, 0)) := by rw [← hw5]; exact alloc_atK _ _
  have B35 := G4.out.2.2.trans (B5.mono G4.out.2.2.size)
  have HL5 : Hid (Lw W g g' p w4.heap.size w4.heap.size w5) := by
    have b4 := HBW.out.trans (B35.mono HBW.out.size)
    exact ⟨(B35.block _ (block_lt HP3.out)).trans HP3.out, A5, HOK.out.kept b4 (Nat.le_refl _), G4.out.1.kept B5 (Nat.le_refl _), G4.out.2.1.kept B5 (Nat.le_refl _), HTB.out.t.below b4 HTB.out.t.z, B5.size, b4.size, b4⟩
  have HT5 : Hid (Tab2 w5) := HTB.out.below HL5.out.bel HTB.out.t.z
  have HB25 : Hid (Below w3.heap.size w3 w5) := B35
  have HW5 := hide hw5
  rw [HCS.out g'] at HW5
  rw [HCS.out g']
  clear hw5 B5 A5 B35 G4 HL3 HOK HTB HBW HP3 y0 y1 y2 y3 y4 y5 y6 y7 y8 yl
  go_upto_region 3 with fail
  rw [HW5.out]
  clear HW5
  generalize w4.heap.size = cb at *
  have HLC := hide (listC (HL5.out.k2.wide HL5.out.le) HT5.out HCB.out)
  rw [HVR.out, HCS.out g'] at HLC
  obtain ⟨_, ⟨x0, x1, x2, x3, x4, x5, x6, x7, x8, xl⟩⟩ := HL5.out.cells
  go_wp2_with fail
  refine HLC.out.mono ?_
  intro e w6 hh
  obtain ⟨v, he, hb6, her⟩ : ∃ v, e = .returned (.tuple #[.string s, v]) ∧ Below w5.heap.size w5 w6 ∧ Er w6 v (.agg #[.slice ao n cap, .int .i64 y]) := by
    have h0 := HER.out
    cases r with
    | ok k =>
      obtain ⟨rfl, rfl, rfl, rfl, rfl⟩ := h0
      exact ⟨_, hh.1, hh.2.out, .inl ⟨rfl, rfl⟩⟩
    | error z =>
      obtain ⟨a, z⟩ := z
      obtain ⟨rfl, rfl, rfl, hy, b, off, hf⟩ := h0
      obtain ⟨g0, h1, G⟩ := hh
      have hb26 : Below w2.heap.size w2 w6 := by
        have q1 := HB3.out.trans (HB25.out.mono HB3.out.size)
        have q2 := G.out.2
        exact q1.trans (q2.mono q1.size)
      exact ⟨_, h1, G.out.2, .inr ⟨a, _, ao, cap, b, off, rfl, hy, G.out.1, hf.next hb26⟩⟩
  subst he
  have HL6 := hide (HL5.out.next hb6)
  have HE6 := hide her
  have HF6 : Hid (w6.heap[fb]? = some (.cells #[.slice ao n cap, .int .i64 y] 30 (0, 0))) := by
    have q1 := HB25.out.trans (hb6.mono HB25.out.size)
    exact (q1.block _ (block_lt HA3.out)).trans HA3.out
  clear hh her hb6 HLC HL5 HT5 HB25 HB3 HA3 HER x0 x1 x2 x3 x4 x5 x6 x7 x8 xl
  have t0 := block_cell HF6.out 0
  have t1 := block_cell HF6.out 1
  have tl := block_lt HF6.out
  simp at t0 t1
  have HIS := hide (isT HE6.out)
  have hse := str_same s
  go_wp2_with fail
  refine HIS.out.mono ?_
  rintro e w7 ⟨rfl, G7⟩
  have HL7 := hide (HL6.out.next G7.out)
  clear HIS HL6 G7 HE6 HF6 t0 t1 tl
  have HKP := hide (keptT (HL7.out.k2.wide HL7.out.le) (HL7.out.k1.wide HL7.out.le2) (HL7.out.sp.wide HL7.out.le))
  rw [HCS.out g', HCS.out g] at HKP
  obtain ⟨⟨y0, y1, y2, y3, y4, y5, y6, y7, y8, yl⟩, ⟨x0, x1, x2, x3, x4, x5, x6, x7, x8, xl⟩⟩ := HL7.out.cells
  go_wp2_with fail
  refine HKP.out.mono ?_
  rintro e w8 ⟨rfl, G8⟩
  have HD := hide (HL7.out.next G8.out).bel
  clear hse
  go_wp2
  go_ret
  exact ⟨rfl, HD.out⟩
end Go.Proofs.YtfopdbnokojlmaaDoor
