import Derived.Test.YtggpaljilpbmhaaGreatDoorW25
namespace Go.Proofs.YtggpaljilpbmhaaGreatDoor
open Go.RowKit Go.Sort

theorem two_box2L (W : World) (o1 o2 : Array Value) (t1 t2 : TypeId) {W2 : World} (h : (W.alloc (.cells o1 t1)).alloc (.cells o2 t2) = W2) : W2.heap[W.heap.size]? = some (.cells o1 t1 (0, 0)) ∧ W2.heap[W.heap.size + 1]? = some (.cells o2 t2 (0, 0)) ∧ Below W.heap.size W W2 := by
 have b1 := below_alloc1 W (.cells o1 t1)
 have b2 := below_alloc1 (W.alloc (.cells o1 t1)) (.cells o2 t2)
 rw [h] at b2
 have e : (W.alloc (.cells o1 t1)).heap.size = W.heap.size + 1 := by simp
 refine ⟨(b2.block _ (by rw [e]; omega)).trans (alloc_atK _ _), ?_, b1.trans (b2.mono (by rw [e]; omega))⟩
 rw [← h, ← e]
 exact alloc_atK _ _
theorem set3L {w w0 wf : World} {q B : Nat} {a b c : Value} {t : TypeId} (h : w.heap[q]? = some (.cells #[a, b, c] t (0, 0))) (hB : Below B w0 w) (hq : B ≤ q) (v0 v1 v2 : Value) (e : ((w.setCell ⟨q, 0, none⟩ v0).setCell ⟨q, 1, none⟩ v1).setCell ⟨q, 2, none⟩ v2 = wf) : w.grownBy wf (some q) ∧ wf.heap[q]? = some (.cells #[v0, v1, v2] t (0, 0)) ∧ Below B w0 wf := by
 have h0 := heap_setCell_same w q 0 _ _ v0 h
 have h1 := heap_setCell_same _ q 1 _ _ v1 h0
 have h2 := heap_setCell_same _ q 2 _ _ v2 h1
 rw [← e]
 exact ⟨grown_tr (grown_tr (grown_setT _ _ _ _) (grown_setT _ _ _ _)) (grown_setT _ _ _ _), by rw [h2]; rfl, ((hB.setCell (p := ⟨q, 0, none⟩) hq v0).setCell (p := ⟨q, 1, none⟩) hq v1).setCell (p := ⟨q, 2, none⟩) hq v2⟩
/-- The probe's growth, so many nodes in. -/
inductive Gtl (gb : Nat) (ev kk : Int) (v : Gv) (w : World) : Nat → Prop
 | s0 (h : Gr (gb + 1) gb v [] [] [] [] w) : Gtl gb ev kk v w 0
 | s1 (h : Gr (gb + 1) gb v [(1, 1)] [0] [0] [(0, 0)] w) : Gtl gb ev kk v w 1
 | s2 (h : Gr (gb + 1) gb v [(1, 1), (2, ev)] [0, 0] [0, 0] [(0, 0), (1, 0)] w) : Gtl gb ev kk v w 2
 | s3 (h : Gr (gb + 1) gb v [(1, 1), (2, ev), (3, 1)] [0, 0, 0] [0, 0, 1] [(0, 0), (1, 0), (2, 0)] w) : Gtl gb ev kk v w 3
 | s4 (h : Gr (gb + 1) gb v [(1, 1), (2, ev), (3, 1), (12, kk)] [4, 4, 4, 4] [0, 0, 1, 2] [] w) : Gtl gb ev kk v w 4
/-- The probe's nodes as they are handed in. -/
def Pn (tb : Nat) (ev kk : Int) (w : World) : Prop := tb < w.heap.size ∧ ∀ i u, (ndc [(1, 1), (2, ev), (3, 1), (12, kk)])[i]? = some u → w.cell? ⟨tb, i, none⟩ = some u
theorem Pn.next {tb : Nat} {ev kk : Int} {w w' : World} {n : Nat} (h : Pn tb ev kk w) (hb : Below n w w') (hn : tb < n) : Pn tb ev kk w' := by
 refine ⟨?_, fun i u e => (hb.cell (p := ⟨tb, i, none⟩) hn).trans (h.2 i u e)⟩
 have h0 := (hb.cell (p := ⟨tb, 0, none⟩) hn).trans (h.2 0 _ rfl)
 exact block_lt_of_cell h0
/-- The tree of the probe: its three rows. -/
structure Tw (B : Nat) (v : Gv) (ev kk : Int) (w : World) : Prop where
 n : w.ownsRow B 121 3 (.slice v.aN 4 v.cN) 4 (ndc [(1, 1), (2, ev), (3, 1), (12, kk)])
 e : w.ownsRow B 3 1 (.slice v.aE 4 v.cE) 4 (itc [4, 4, 4, 4])
 a : w.ownsRow B 3 1 (.slice v.aA 4 v.cA) 4 (itc [0, 0, 1, 2])
theorem Tw.next {B : Nat} {v : Gv} {ev kk : Int} {w w' : World} (h : Tw B v ev kk w) (hb : Below w.heap.size w w') : Tw B v ev kk w' := ⟨own_keep h.n hb, own_keep h.e hb, own_keep h.a hb⟩
set_option maxRecDepth 10000 in
set_option maxHeartbeats 6400000 in
theorem treeOfC {tb : Nat} {ev kk : Int} {W : World} (h : Pn tb ev kk W) (h0 : 0 ≤ ev) (h1 : ev ≤ 5) (h2 : 1 ≤ kk) (h3 : kk ≤ 999) : Calls Tryz.prog 108 #[.slice (some ⟨tb, 0, none⟩) 4 4] W fun e w' => ∃ v : Gv, e = .returned (.tuple #[.agg #[.slice v.aN 4 v.cN, .slice v.aE 4 v.cE, .slice v.aA 4 v.cA], .nilIface]) ∧ Hid (Tw W.heap.size v ev kk w' ∧ Below W.heap.size W w') := by
 obtain ⟨W2, hW2⟩ : ∃ W2, (W.alloc (.cells #[.slice none 0 0, .slice none 0 0, .slice none 0 0] 191)).alloc (.cells #[.slice none 0 0, .slice none 0 0, .slice none 0 0, .slice none 0 0] 222) = W2 := ⟨_, rfl⟩
 obtain ⟨A1, A2, B2⟩ := two_box2L W _ _ _ _ hW2
 have HPN := hide (h.next B2 h.1)
 have HTB := hide h.1
 have HA1 := hide A1
 have HB2 := hide B2
 obtain ⟨gb, hgb⟩ : ∃ gb, W.heap.size + 1 = gb := ⟨_, rfl⟩
 have HJ0 : Hid (∃ v, Gtl gb ev kk v W2 0 ∧ Below gb W2 W2) := by
  rw [hgb] at A2
  exact ⟨⟨none, none, none, none, 0, 0, 0, 0⟩, .s0 ⟨A2, World.ownsRow_nil _ _ _ _, World.ownsRow_nil _ _ _ _, World.ownsRow_nil _ _ _ _, World.ownsRow_nil _ _ _ _, fun x y e => by cases e⟩, Below.refl _ _⟩
 have HGB := hide hgb
 have HW2 := hide hW2
 have HEV : Hid ((0 ≤ ev ∧ ev ≤ 5) ∧ 1 ≤ kk ∧ kk ≤ 999) := ⟨⟨h0, h1⟩, h2, h3⟩
 clear h h0 h1 h2 h3 A1 A2 B2 hW2
 go_enter Tryz.func108, Tryz.ntmps108
 go_upto_region 2 with fail
 rw [HW2.out]
 clear HW2 hgb
 go_upto_block 0 with fail
 go_cut [9] from 10 (fun _ V => Hid (∃ v, Gtl gb ev kk v V 4 ∧ Below gb W2 V))
 case first =>
  go_wp2
  go_loopw [9] (fun i wr => ∃ j : Nat, j ≤ 4 ∧ i = .int .i64 (j : Nat) ∧ Hid (∃ v, Gtl gb ev kk v wr j ∧ Below gb W2 wr)) (fun i _ => 4 - (intOf i).toNat)
  case atStart => exact ⟨0, by omega, rfl, HJ0.out⟩
  case round =>
   obtain ⟨j, hj, rfl, HJ⟩ := hrel
   obtain ⟨v, hgt, hbw⟩ := HJ.out
   have hpn : Pn tb ev kk wr := HPN.out.next hbw (by have := HGB.out; have := HTB.out; omega)
   clear HJ HJ0 hj
   cases hgt with
   | s0 hg9 =>
    have t0 := hpn.2 0 _ rfl
    have t1 := hpn.2 1 _ rfl
    have t2 := hpn.2 2 _ rfl
    have tl := hpn.1
    obtain ⟨WA, hWA⟩ : ∃ WA, wr.alloc (.cells #[.int .i64 1, .int .u64 1, .string ⟨#[]⟩] 121) = WA := ⟨_, rfl⟩
    have BA : Below wr.heap.size wr WA := by rw [← hWA]; exact below_alloc1 wr _
    have AA : WA.heap[wr.heap.size]? = some (.cells #[.int .i64 1, .int .u64 1, .string ⟨#[]⟩] 121 (0, 0)) := by rw [← hWA]; exact alloc_atK wr _
    have HFT := hide (fits0 (hg9.next BA))
    have HGA := hide (hg9.next BA)
    have HBA : Hid (Below gb W2 WA) := hbw.trans (BA.mono (Nat.le_of_lt (block_lt hg9.blk)))
    have x0 := block_cell AA 0
    have x1 := block_cell AA 1
    have x2 := block_cell AA 2
    have xl := block_lt AA
    simp at x0 x1 x2
    have HAA := hide AA
    have HWA := hide hWA
    clear hpn hg9 hbw hWA BA AA
    go_upto_region 5 with fail
    rw [HWA.out]
    clear HWA t0 t1 t2 tl
    generalize wr.heap.size = xb at *
    go_wp2_with fail
    refine HFT.out.mono ?_
    rintro e w1 ⟨rfl, G1⟩
    have y0 := (G1.out.cell (p := ⟨xb, 0, none⟩) xl).trans x0
    have y1 := (G1.out.cell (p := ⟨xb, 1, none⟩) xl).trans x1
    have y2 := (G1.out.cell (p := ⟨xb, 2, none⟩) xl).trans x2
    have yl := Nat.lt_of_lt_of_le xl G1.out.size
    have HTK := hide (take0 (HGA.out.next G1.out))
    have HB1 : Hid (Below gb W2 w1) := HBA.out.trans (G1.out.mono (Nat.le_of_lt (block_lt HGA.out.blk)))
    clear HFT HGA HBA HAA G1 x0 x1 x2 xl
    go_wp2_with fail
    refine HTK.out.mono ?_
    rintro e w2 ⟨rfl, G2⟩
    obtain ⟨v2, hg2, hb2⟩ := G2.out
    have HN : Hid (∃ v, Gtl gb ev kk v w2 1 ∧ Below gb W2 w2) := ⟨v2, .s1 hg2, HB1.out.trans hb2⟩
    clear HTK G2 hg2 hb2 HB1 y0 y1 y2 yl
    go_wp2
    go_roundw
    case rel => exact ⟨1, by omega, by go_num, HN.out⟩
    case measure => simp [intOf]
   | s1 hg9 =>
    have t0 := hpn.2 3 _ rfl
    have t1 := hpn.2 4 _ rfl
    have t2 := hpn.2 5 _ rfl
    have tl := hpn.1
    obtain ⟨WA, hWA⟩ : ∃ WA, wr.alloc (.cells #[.int .i64 2, .int .u64 ev, .string ⟨#[]⟩] 121) = WA := ⟨_, rfl⟩
    have BA : Below wr.heap.size wr WA := by rw [← hWA]; exact below_alloc1 wr _
    have AA : WA.heap[wr.heap.size]? = some (.cells #[.int .i64 2, .int .u64 ev, .string ⟨#[]⟩] 121 (0, 0)) := by rw [← hWA]; exact alloc_atK wr _
    have HFT := hide (fits1 (hg9.next BA) HEV.out.1.1 HEV.out.1.2)
    have HGA := hide (hg9.next BA)
    have HBA : Hid (Below gb W2 WA) := hbw.trans (BA.mono (Nat.le_of_lt (block_lt hg9.blk)))
    have x0 := block_cell AA 0
    have x1 := block_cell AA 1
    have x2 := block_cell AA 2
    have xl := block_lt AA
    simp at x0 x1 x2
    have HAA := hide AA
    have HWA := hide hWA
    clear hpn hg9 hbw hWA BA AA
    go_upto_region 5 with fail
    rw [HWA.out]
    clear HWA t0 t1 t2 tl
    generalize wr.heap.size = xb at *
    go_wp2_with fail
    refine HFT.out.mono ?_
    rintro e w1 ⟨rfl, G1⟩
    have y0 := (G1.out.cell (p := ⟨xb, 0, none⟩) xl).trans x0
    have y1 := (G1.out.cell (p := ⟨xb, 1, none⟩) xl).trans x1
    have y2 := (G1.out.cell (p := ⟨xb, 2, none⟩) xl).trans x2
    have yl := Nat.lt_of_lt_of_le xl G1.out.size
    have HTK := hide (take1 (ev := ev) (HGA.out.next G1.out))
    have HB1 : Hid (Below gb W2 w1) := HBA.out.trans (G1.out.mono (Nat.le_of_lt (block_lt HGA.out.blk)))
    clear HFT HGA HBA HAA G1 x0 x1 x2 xl
    go_wp2_with fail
    refine HTK.out.mono ?_
    rintro e w2 ⟨rfl, G2⟩
    obtain ⟨v2, hg2, hb2⟩ := G2.out
    have HN : Hid (∃ v, Gtl gb ev kk v w2 2 ∧ Below gb W2 w2) := ⟨v2, .s2 hg2, HB1.out.trans hb2⟩
    clear HTK G2 hg2 hb2 HB1 y0 y1 y2 yl
    go_wp2
    go_roundw
    case rel => exact ⟨2, by omega, by go_num, HN.out⟩
    case measure => simp [intOf]
   | s2 hg9 =>
    have t0 := hpn.2 6 _ rfl
    have t1 := hpn.2 7 _ rfl
    have t2 := hpn.2 8 _ rfl
    have tl := hpn.1
    obtain ⟨WA, hWA⟩ : ∃ WA, wr.alloc (.cells #[.int .i64 3, .int .u64 1, .string ⟨#[]⟩] 121) = WA := ⟨_, rfl⟩
    have BA : Below wr.heap.size wr WA := by rw [← hWA]; exact below_alloc1 wr _
    have AA : WA.heap[wr.heap.size]? = some (.cells #[.int .i64 3, .int .u64 1, .string ⟨#[]⟩] 121 (0, 0)) := by rw [← hWA]; exact alloc_atK wr _
    have HFT := hide (fits2 (hg9.next BA))
    have HGA := hide (hg9.next BA)
    have HBA : Hid (Below gb W2 WA) := hbw.trans (BA.mono (Nat.le_of_lt (block_lt hg9.blk)))
    have x0 := block_cell AA 0
    have x1 := block_cell AA 1
    have x2 := block_cell AA 2
    have xl := block_lt AA
    simp at x0 x1 x2
    have HAA := hide AA
    have HWA := hide hWA
    clear hpn hg9 hbw hWA BA AA
    go_upto_region 5 with fail
    rw [HWA.out]
    clear HWA t0 t1 t2 tl
    generalize wr.heap.size = xb at *
    go_wp2_with fail
    refine HFT.out.mono ?_
    rintro e w1 ⟨rfl, G1⟩
    have y0 := (G1.out.cell (p := ⟨xb, 0, none⟩) xl).trans x0
    have y1 := (G1.out.cell (p := ⟨xb, 1, none⟩) xl).trans x1
    have y2 := (G1.out.cell (p := ⟨xb, 2, none⟩) xl).trans x2
    have yl := Nat.lt_of_lt_of_le xl G1.out.size
    have HTK := hide (take2 (HGA.out.next G1.out))
    have HB1 : Hid (Below gb W2 w1) := HBA.out.trans (G1.out.mono (Nat.le_of_lt (block_lt HGA.out.blk)))
    clear HFT HGA HBA HAA G1 x0 x1 x2 xl
    go_wp2_with fail
    refine HTK.out.mono ?_
    rintro e w2 ⟨rfl, G2⟩
    obtain ⟨v2, hg2, hb2⟩ := G2.out
    have HN : Hid (∃ v, Gtl gb ev kk v w2 3 ∧ Below gb W2 w2) := ⟨v2, .s3 hg2, HB1.out.trans hb2⟩
    clear HTK G2 hg2 hb2 HB1 y0 y1 y2 yl
    go_wp2
    go_roundw
    case rel => exact ⟨3, by omega, by go_num, HN.out⟩
    case measure => simp [intOf]
   | s3 hg9 =>
    have t0 := hpn.2 9 _ rfl
    have t1 := hpn.2 10 _ rfl
    have t2 := hpn.2 11 _ rfl
    have tl := hpn.1
    obtain ⟨WA, hWA⟩ : ∃ WA, wr.alloc (.cells #[.int .i64 12, .int .u64 kk, .string ⟨#[]⟩] 121) = WA := ⟨_, rfl⟩
    have BA : Below wr.heap.size wr WA := by rw [← hWA]; exact below_alloc1 wr _
    have AA : WA.heap[wr.heap.size]? = some (.cells #[.int .i64 12, .int .u64 kk, .string ⟨#[]⟩] 121 (0, 0)) := by rw [← hWA]; exact alloc_atK wr _
    have HFT := hide (fits3 (hg9.next BA) HEV.out.2.1 HEV.out.2.2)
    have HGA := hide (hg9.next BA)
    have HBA : Hid (Below gb W2 WA) := hbw.trans (BA.mono (Nat.le_of_lt (block_lt hg9.blk)))
    have x0 := block_cell AA 0
    have x1 := block_cell AA 1
    have x2 := block_cell AA 2
    have xl := block_lt AA
    simp at x0 x1 x2
    have HAA := hide AA
    have HWA := hide hWA
    clear hpn hg9 hbw hWA BA AA
    go_upto_region 5 with fail
    rw [HWA.out]
    clear HWA t0 t1 t2 tl
    generalize wr.heap.size = xb at *
    go_wp2_with fail
    refine HFT.out.mono ?_
    rintro e w1 ⟨rfl, G1⟩
    have y0 := (G1.out.cell (p := ⟨xb, 0, none⟩) xl).trans x0
    have y1 := (G1.out.cell (p := ⟨xb, 1, none⟩) xl).trans x1
    have y2 := (G1.out.cell (p := ⟨xb, 2, none⟩) xl).trans x2
    have yl := Nat.lt_of_lt_of_le xl G1.out.size
    have HTK := hide (take3 (kk := kk) (HGA.out.next G1.out))
    have HB1 : Hid (Below gb W2 w1) := HBA.out.trans (G1.out.mono (Nat.le_of_lt (block_lt HGA.out.blk)))
    clear HFT HGA HBA HAA G1 x0 x1 x2 xl
    go_wp2_with fail
    refine HTK.out.mono ?_
    rintro e w2 ⟨rfl, G2⟩
    obtain ⟨v2, hg2, hb2⟩ := G2.out
    have HN : Hid (∃ v, Gtl gb ev kk v w2 4 ∧ Below gb W2 w2) := ⟨v2, .s4 hg2, HB1.out.trans hb2⟩
    clear HTK G2 hg2 hb2 HB1 y0 y1 y2 yl
    go_wp2
    go_roundw
    case rel => exact ⟨4, by omega, by go_num, HN.out⟩
    case measure => simp [intOf]
   | s4 hg9 =>
    have HN : Hid (∃ v, Gtl gb ev kk v wr 4 ∧ Below gb W2 wr) := ⟨v, .s4 hg9, hbw⟩
    clear hpn hg9 hbw
    go_wp2
    go_meet
    case rel => exact HN.out
 case rest =>
 clear HJ0
 obtain ⟨v, hgt, hbw⟩ := hcut.out
 clear hcut
 cases hgt with
 | s4 hg9 =>
  have HEN := hide (endedC hg9 (b := true) (by simp))
  have c0 := block_cell hg9.blk 0
  have c1 := block_cell hg9.blk 1
  have c2 := block_cell hg9.blk 2
  have cl := block_lt hg9.blk
  simp at c0 c1 c2
  have r9 := (hbw.block _ (by have := HGB.out; omega)).trans HA1.out
  have HR9 := hide r9
  have q0 := block_cell r9 0
  have q1 := block_cell r9 1
  have q2 := block_cell r9 2
  have f0 := block_free r9 0
  have f1 := block_free r9 1
  have f2 := block_free r9 2
  have ql := block_lt r9
  simp at q0 q1 q2
  have HW : Hid (Below W.heap.size W wc) := HB2.out.trans (hbw.mono (by have := HGB.out; omega))
  have HG := hide hg9
  clear hg9 hbw r9 HPN HTB HB2 HA1 HEV
  go_wp2_with fail
  refine HEN.out.mono ?_
  rintro e w1 ⟨rfl, hw1⟩
  subst hw1
  clear HEN
  go_wp2
  generalize hwf : World.setCell _ _ _ = wf
  have HF : Hid (Tw W.heap.size v ev kk wf ∧ Below W.heap.size W wf ∧ wf.heap[W.heap.size]? = some (.cells #[.slice v.aN 4 v.cN, .slice v.aE 4 v.cE, .slice v.aA 4 v.cA] 191 (0, 0))) := by
   obtain ⟨g1, g2, g3⟩ := set3L HR9.out HW.out (Nat.le_refl _) _ _ _ hwf
   exact ⟨⟨own_low (own_offT HG.out.n HR9.out (by decide) g1) (by have := HGB.out; omega), own_low (own_offT HG.out.e HR9.out (by decide) g1) (by have := HGB.out; omega), own_low (own_offT HG.out.a HR9.out (by decide) g1) (by have := HGB.out; omega)⟩, g3, g2⟩
  clear hwf
  have z0 := block_cell HF.out.2.2 0
  have z1 := block_cell HF.out.2.2 1
  have z2 := block_cell HF.out.2.2 2
  simp at z0 z1 z2
  refine bodyPost_ret (v := .tuple #[.agg #[.slice v.aN 4 v.cN, .slice v.aE 4 v.cE, .slice v.aA 4 v.cA], .nilIface]) (by simp [results, Tryz.results108, go_sem, z0, z1, z2]) rfl ?_
  exact ⟨v, rfl, HF.out.1, HF.out.2.1⟩
end Go.Proofs.YtggpaljilpbmhaaGreatDoor
