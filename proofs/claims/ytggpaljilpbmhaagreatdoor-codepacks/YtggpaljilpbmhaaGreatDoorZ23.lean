import Derived.Test.YtggpaljilpbmhaaGreatDoorZ16
namespace Go.Proofs.YtggpaljilpbmhaaGreatDoor
open Go.RowKit

theorem firstBad_some {f : Nat → Option (Int × Int)} {r : Int × Int} : ∀ {n : Nat}, firstBad f n = some r → ∃ j, f j = some r
 | 0, h => by cases h
 | n + 1, h => by
  unfold firstBad at h
  cases e : firstBad f n with
  | some y => rw [e] at h; cases h; exact firstBad_some e
  | none => rw [e] at h; exact ⟨n, by simpa using h⟩
theorem stat_ne {p : Pv} {a y : Int} (h : statF p = some (a, y)) : y ≠ 0 := by
 unfold statF at h
 cases e0 : sizeF p with
 | some z =>
  rw [e0] at h
  cases h
  unfold sizeF at e0
  split at e0
  ·cases e0; decide
  ·split at e0
   ·cases e0; decide
   ·split at e0
    ·cases e0; decide
    ·cases e0
 | none =>
  rw [e0] at h
  cases e1 : slotF p with
  | some z =>
   rw [e1] at h
   cases h
   obtain ⟨j, hj⟩ := firstBad_some (f := slotB p) e1
   unfold slotB at hj
   split at hj
   ·cases hj; decide
   ·cases hj
  | none =>
   rw [e1] at h
   cases e2 : entF p with
   | some z =>
    rw [e2] at h
    cases h
    obtain ⟨j, hj⟩ := firstBad_some (f := entB p) e2
    unfold entB at hj
    split at hj
    ·cases hj; decide
    ·cases hj
   | none =>
    rw [e2] at h
    have h : insF p = some (a, y) := h
    obtain ⟨j, hj⟩ := firstBad_some (f := insB p) h
    unfold insB at hj
    split at hj
    ·cases hj; decide
    ·split at hj
     ·cases hj; decide
     ·cases hj
theorem verF_stat (p : Pv) : verF p = match statF p with
  | some y => .error y
  | none => goF p p.n := by
 unfold verF statF
 cases sizeF p with
 | some y => rfl
 | none =>
  cases slotF p with
  | some y => rfl
  | none =>
   cases entF p with
   | some y => rfl
   | none =>
    cases insF p with
    | some y => rfl
    | none => rfl
theorem FV.next {w w' : World} {ao : Option Addr} {L : List Lk} {b off : Nat} (h : FV w.heap.size w ao L b off) (hb : Below w.heap.size w w') : FV w'.heap.size w' ao L b off := (h.below hb).wide hb.size
theorem RW.low {lim lim' : Nat} {w : World} {q ba bs ca cc : Nat} {g : Pg} {p : Pv} {k : Kn} (h : RW lim w q ba bs ca cc g p k) (hl : lim' ≤ lim) (hok : g.Ok p lim' w) : RW lim' w q ba bs ca cc g p k :=
 ⟨h.blk, h.rowA, h.rowB, hok, Nat.le_trans hl h.lq, Nat.le_trans hl h.la, Nat.le_trans hl h.lb, h.hca, h.hcc⟩
set_option maxRecDepth 10000 in
set_option maxHeartbeats 3200000 in
theorem verifiedR {W : World} {g : Pg} {p : Pv} (h : g.Ok p W.heap.size W) : Calls Tryz.prog 76 #[.agg (g.cs p).toArray] W (WkR W g p (verF p)) := by
 obtain ⟨W2, hW2⟩ : ∃ W2, (W.alloc (.cells (g.cs p).toArray 27)).alloc (.cells #[.slice none 0 0, .int .i64 0] 54) = W2 := ⟨_, rfl⟩
 have HS := hide (fm_new h hW2)
 have HW2 := hide hW2
 have HF := hide (formR (HS.out.ok.wide HS.out.bel.size))
 have HWK : Hid (∀ w, Fm W g p w → statF p = none → Calls Tryz.prog 127 #[.agg (g.cs p).toArray] w (WkR w g p (goF p p.n))) := fun w hw hs => walkR (hw.ok.wide hw.bel.size) hs
 have HCS : Hid (g.cs p = [.slice g.ca p.nc g.cc, .slice g.sa p.ns g.sc, .int .i64 (p.en 0), .int .i64 (p.en 1), .int .i64 (p.en 2), .int .i64 (p.en 3), .int .i64 (p.en 4), .int .i64 (p.en 5), .slice g.ia p.n g.ic]) := rfl
 rw [HCS.out] at HW2 HF HWK ⊢
 have HV := hide (verF_stat p)
 obtain ⟨r, hr⟩ : ∃ r, verF p = r := ⟨_, rfl⟩
 rw [hr]
 rw [hr] at HV
 clear h hW2 hr
 obtain ⟨y0, y1, y2, y3, y4, y5, y6, y7, y8⟩ := HS.out.cells
 have yl := block_lt HS.out.prg
 go_enter Tryz.func76, Tryz.ntmps76
 go_upto_region 1 with fail
 rw [HW2.out]
 clear HW2
 go_wp2_with fail
 refine HF.out.mono ?_
 intro e w3 hh
 cases hs : statF p with
 | some y =>
  obtain ⟨a, y⟩ := y
  have hr : r = .error (a, y) := by rw [HV.out, hs]
  have hy := stat_ne hs
  subst hr
  rw [hs] at hh
  obtain ⟨ao, cap, rfl, G⟩ := hh
  obtain ⟨b, off, hf, hb⟩ := G.out
  obtain ⟨w4, hw4⟩ : ∃ w4, w3.alloc (.cells #[.slice ao 1 cap, .int .i64 y] 54) = w4 := ⟨_, rfl⟩
  have B4 : Below w3.heap.size w3 w4 := by rw [← hw4]; exact below_alloc1 _ _
  have A4 : w4.heap[w3.heap.size]? = some (.cells #[.slice ao 1 cap, .int .i64 y] 54 (0, 0)) := by rw [← hw4]; exact alloc_atK _ _
  have HF4 := hide ((hf.below B4).wide B4.size)
  have HS4 := hide ((HS.out.next hb).next B4)
  have t0 := block_cell A4 0
  have t1 := block_cell A4 1
  have tl := block_lt A4
  simp at t0 t1
  have HA4 := hide A4
  have HW4 := hide hw4
  clear hw4 hf hb G A4 B4 hs HV HF HWK HS y0 y1 y2 y3 y4 y5 y6 y7 y8 yl
  go_upto_region 2 with fail
  rw [HW4.out]
  clear HW4
  go_wp2_with fail
  refine (anyYes ao 1 cap y hy w4).mono ?_
  rintro e w5 ⟨rfl, G5⟩
  have A5 := (G5.out.block _ (block_lt HA4.out)).trans HA4.out
  have u0 := block_cell A5 0
  have u1 := block_cell A5 1
  have ul := block_lt A5
  simp at u0 u1
  have HS5 := hide (HS4.out.next G5.out)
  have z0 := block_cell HS5.out.res 0
  have z1 := block_cell HS5.out.res 1
  have f0 := block_free HS5.out.res 0
  have f1 := block_free HS5.out.res 1
  have zl := block_lt HS5.out.res
  simp at z0 z1
  have HD : Hid (FV (((w5.setCell ⟨W.heap.size + 1, 0, none⟩ (.slice ao 1 cap)).setCell ⟨W.heap.size + 1, 1, none⟩ (.int .i64 y)).alloc (.cells #[.slice none 0 0, .slice none 0 0] 211)).drew.heap.size (((w5.setCell ⟨W.heap.size + 1, 0, none⟩ (.slice ao 1 cap)).setCell ⟨W.heap.size + 1, 1, none⟩ (.int .i64 y)).alloc (.cells #[.slice none 0 0, .slice none 0 0] 211)).drew ao [⟨⟨#[99, 111, 100, 101]⟩, a⟩] b off ∧ Below W.heap.size W (((w5.setCell ⟨W.heap.size + 1, 0, none⟩ (.slice ao 1 cap)).setCell ⟨W.heap.size + 1, 1, none⟩ (.int .i64 y)).alloc (.cells #[.slice none 0 0, .slice none 0 0] 211)).drew) := by
   have h1 := rf_end HS5.out.res (by simp) HS5.out.bel (HF4.out.next G5.out) cap y
   have b1 := (below_alloc1 ((w5.setCell ⟨W.heap.size + 1, 0, none⟩ (.slice ao 1 cap)).setCell ⟨W.heap.size + 1, 1, none⟩ (.int .i64 y)) (.cells #[.slice none 0 0, .slice none 0 0] 211)).drew
   exact ⟨h1.1.next b1, h1.2.trans (b1.mono h1.2.size)⟩
  have hE : (((w5.setCell ⟨W.heap.size + 1, 0, none⟩ (.slice ao 1 cap)).setCell ⟨W.heap.size + 1, 1, none⟩ (.int .i64 y)).alloc (.cells #[.slice none 0 0, .slice none 0 0] 211)).drew.heap[W.heap.size + 1]? = some (.cells #[.slice ao 1 cap, .int .i64 y] 54 (0, 0)) := by
   have s1 := heap_setCell_same w5 (W.heap.size + 1) 0 _ _ (.slice ao 1 cap) HS5.out.res
   have s2 := heap_setCell_same _ (W.heap.size + 1) 1 _ _ (.int .i64 y) s1
   have b1 := (below_alloc1 ((w5.setCell ⟨W.heap.size + 1, 0, none⟩ (.slice ao 1 cap)).setCell ⟨W.heap.size + 1, 1, none⟩ (.int .i64 y)) (.cells #[.slice none 0 0, .slice none 0 0] 211)).drew
   exact (b1.block _ (block_lt s2)).trans (by simpa using s2)
  have r0 := block_cell hE 0
  have r1 := block_cell hE 1
  simp only [List.getElem?_toArray, List.getElem?_cons_zero, List.getElem?_cons_succ] at r0 r1
  have HR0 := hide r0
  have HR1 := hide r1
  clear A5 t0 t1 tl HS4 HS5 HF4 HA4 G5 hE r0 r1
  go_upto_region 3 with fail
  go_region
  go_wp2
  have r0 := HR0.out
  have r1 := HR1.out
  refine bodyPost_ret (v := .tuple #[.pointer (some ⟨w5.heap.size, 0, none⟩), .agg #[.slice ao 1 cap, .int .i64 y]]) (by simp [results, Tryz.results76, go_sem, r0, r1]) rfl ?_
  exact ⟨_, ao, cap, rfl, hy, b, off, HD.out⟩
 | none =>
  rw [hs] at hh
  obtain ⟨rfl, G⟩ := hh
  obtain ⟨w4, hw4⟩ : ∃ w4, w3.alloc (.cells #[.slice none 0 0, .int .i64 0] 54) = w4 := ⟨_, rfl⟩
  have B4 : Below w3.heap.size w3 w4 := by rw [← hw4]; exact below_alloc1 _ _
  have A4 : w4.heap[w3.heap.size]? = some (.cells #[.slice none 0 0, .int .i64 0] 54 (0, 0)) := by rw [← hw4]; exact alloc_atK _ _
  have HS4 := hide ((HS.out.next G.out).next B4)
  have t0 := block_cell A4 0
  have t1 := block_cell A4 1
  have tl := block_lt A4
  simp at t0 t1
  have HW4 := hide hw4
  have HSN := hide hs
  clear hw4 G A4 B4 HF HS y0 y1 y2 y3 y4 y5 y6 y7 y8 yl hs
  go_upto_region 2 with fail
  rw [HW4.out]
  clear HW4
  go_wp2_with fail
  refine (anyNo w4).mono ?_
  rintro e w5 ⟨rfl, G5⟩
  have HS5 := hide (HS4.out.next G5.out)
  obtain ⟨y0, y1, y2, y3, y4, y5, y6, y7, y8⟩ := HS5.out.cells
  have yl := block_lt HS5.out.prg
  clear t0 t1 tl HS4 G5
  go_wp2_with fail
  refine (HWK.out w5 HS5.out HSN.out).mono ?_
  intro e w6 hh
  have hr : r = goF p p.n := by rw [HV.out, HSN.out]
  rw [← hr] at hh
  clear hr HV HWK HSN y0 y1 y2 y3 y4 y5 y6 y7 y8 yl
  cases r with
  | ok k =>
   obtain ⟨q, rfl, G⟩ := hh
   have HS6 := hide (HS5.out.next G.out.2)
   have z0 := block_cell HS6.out.res 0
   have z1 := block_cell HS6.out.res 1
   have f0 := block_free HS6.out.res 0
   have f1 := block_free HS6.out.res 1
   have zl := block_lt HS6.out.res
   simp at z0 z1
   have HD : Hid ((0 < p.n → ∃ ba bs ca cc, RW W.heap.size ((w6.setCell ⟨W.heap.size + 1, 0, none⟩ (.slice none 0 0)).setCell ⟨W.heap.size + 1, 1, none⟩ (.int .i64 0)) q ba bs ca cc g p k) ∧ Below W.heap.size W ((w6.setCell ⟨W.heap.size + 1, 0, none⟩ (.slice none 0 0)).setCell ⟨W.heap.size + 1, 1, none⟩ (.int .i64 0))) := by
    refine ⟨fun h0 => ?_, (HS6.out.bel.setCell (p := ⟨W.heap.size + 1, 0, none⟩) (by simp) _).setCell (p := ⟨W.heap.size + 1, 1, none⟩) (by simp) _⟩
    obtain ⟨ba, bs, ca, cc, hrw⟩ := G.out.1 h0
    exact ⟨ba, bs, ca, cc, (hrw.low HS5.out.bel.size HS6.out.ok).far HS6.out.res (by omega) (grown_tr (grown_set w6 (W.heap.size + 1) 0 (.slice none 0 0)) (grown_set (w6.setCell ⟨W.heap.size + 1, 0, none⟩ (.slice none 0 0)) (W.heap.size + 1) 1 (.int .i64 0)))⟩
   clear HS6 HS5 G
   go_wp2
   refine bodyPost_ret (v := .tuple #[.pointer (some ⟨q, 0, none⟩), .agg #[.slice none 0 0, .int .i64 0]]) (by simp [results, Tryz.results76, go_sem, z0, z1]) rfl ?_
   exact ⟨q, rfl, HD⟩
  | error z =>
   obtain ⟨a, y⟩ := z
   obtain ⟨q, ao, cap, rfl, hne, G⟩ := hh
   obtain ⟨b, off, hf, hb⟩ := G.out
   have HS6 := hide (HS5.out.next hb)
   have z0 := block_cell HS6.out.res 0
   have z1 := block_cell HS6.out.res 1
   have f0 := block_free HS6.out.res 0
   have f1 := block_free HS6.out.res 1
   have zl := block_lt HS6.out.res
   simp at z0 z1
   have HD := hide (rf_end HS6.out.res (by simp) HS6.out.bel hf cap y)
   clear HS6 HS5 G hf hb
   go_wp2
   refine bodyPost_ret (v := .tuple #[.pointer (some ⟨q, 0, none⟩), .agg #[.slice ao 1 cap, .int .i64 y]]) (by simp [results, Tryz.results76, go_sem, z0, z1]) rfl ?_
   exact ⟨q, ao, cap, rfl, hne, b, off, HD.out⟩
/-- What the reference's Verify answers. -/
def RfE (w : World) (r : Except (Int × Int) Kn) (e : Ending) (w' : World) : Prop := RfP w (match r with | .ok _ => none | .error y => some y) e w'
set_option maxRecDepth 10000 in
set_option maxHeartbeats 3200000 in
theorem verifyR {W : World} {g : Pg} {p : Pv} (h : g.Ok p W.heap.size W) : Calls Tryz.prog 35 #[.agg (g.cs p).toArray] W (RfE W (verF p)) := by
 obtain ⟨W2, hW2⟩ : ∃ W2, (W.alloc (.cells (g.cs p).toArray 27)).alloc (.cells #[.slice none 0 0, .int .i64 0] 54) = W2 := ⟨_, rfl⟩
 have HS := hide (fm_new h hW2)
 have HW2 := hide hW2
 have HF := hide (verifiedR (HS.out.ok.wide HS.out.bel.size))
 have HCS : Hid (g.cs p = [.slice g.ca p.nc g.cc, .slice g.sa p.ns g.sc, .int .i64 (p.en 0), .int .i64 (p.en 1), .int .i64 (p.en 2), .int .i64 (p.en 3), .int .i64 (p.en 4), .int .i64 (p.en 5), .slice g.ia p.n g.ic]) := rfl
 rw [HCS.out] at HW2 HF ⊢
 generalize verF p = r at *
 clear h hW2
 obtain ⟨y0, y1, y2, y3, y4, y5, y6, y7, y8⟩ := HS.out.cells
 have yl := block_lt HS.out.prg
 go_enter Tryz.func35, Tryz.ntmps35
 go_upto_region 1 with fail
 rw [HW2.out]
 clear HW2
 go_wp2_with fail
 refine HF.out.mono ?_
 intro e w3 hh
 clear y0 y1 y2 y3 y4 y5 y6 y7 y8 yl
 cases r with
 | ok k =>
  obtain ⟨q, rfl, G⟩ := hh
  obtain ⟨w4, hw4⟩ : ∃ w4, w3.alloc (.cells #[.slice none 0 0, .int .i64 0] 54) = w4 := ⟨_, rfl⟩
  have B4 : Below w3.heap.size w3 w4 := by rw [← hw4]; exact below_alloc1 _ _
  have A4 : w4.heap[w3.heap.size]? = some (.cells #[.slice none 0 0, .int .i64 0] 54 (0, 0)) := by rw [← hw4]; exact alloc_atK _ _
  have HS4 := hide ((HS.out.next G.out.2).next B4)
  have t0 := block_cell A4 0
  have t1 := block_cell A4 1
  have tl := block_lt A4
  simp at t0 t1
  have z0 := block_cell HS4.out.res 0
  have z1 := block_cell HS4.out.res 1
  have f0 := block_free HS4.out.res 0
  have f1 := block_free HS4.out.res 1
  have zl := block_lt HS4.out.res
  simp at z0 z1
  have HW4 := hide hw4
  have HD : Hid (Below W.heap.size W ((w4.setCell ⟨W.heap.size + 1, 0, none⟩ (.slice none 0 0)).setCell ⟨W.heap.size + 1, 1, none⟩ (.int .i64 0))) := (HS4.out.bel.setCell (p := ⟨W.heap.size + 1, 0, none⟩) (by simp) _).setCell (p := ⟨W.heap.size + 1, 1, none⟩) (by simp) _
  clear hw4 G A4 B4 HF HS HS4
  go_upto_region 2 with fail
  rw [HW4.out]
  clear HW4
  go_wp2
  refine bodyPost_ret (v := .agg #[.slice none 0 0, .int .i64 0]) (by simp [results, Tryz.results35, go_sem, z0, z1]) rfl ?_
  exact ⟨rfl, HD⟩
 | error z =>
  obtain ⟨a, y⟩ := z
  obtain ⟨q, ao, cap, rfl, hne, G⟩ := hh
  obtain ⟨b, off, hf, hb⟩ := G.out
  obtain ⟨w4, hw4⟩ : ∃ w4, w3.alloc (.cells #[.slice ao 1 cap, .int .i64 y] 54) = w4 := ⟨_, rfl⟩
  have B4 : Below w3.heap.size w3 w4 := by rw [← hw4]; exact below_alloc1 _ _
  have A4 : w4.heap[w3.heap.size]? = some (.cells #[.slice ao 1 cap, .int .i64 y] 54 (0, 0)) := by rw [← hw4]; exact alloc_atK _ _
  have HS4 := hide ((HS.out.next hb).next B4)
  have t0 := block_cell A4 0
  have t1 := block_cell A4 1
  have tl := block_lt A4
  simp at t0 t1
  have z0 := block_cell HS4.out.res 0
  have z1 := block_cell HS4.out.res 1
  have f0 := block_free HS4.out.res 0
  have f1 := block_free HS4.out.res 1
  have zl := block_lt HS4.out.res
  simp at z0 z1
  have HW4 := hide hw4
  have HD := hide (rf_end HS4.out.res (by simp) HS4.out.bel (hf.next B4) cap y)
  clear hw4 G A4 B4 HF HS HS4 hf hb
  go_upto_region 2 with fail
  rw [HW4.out]
  clear HW4
  go_wp2
  refine bodyPost_ret (v := .agg #[.slice ao 1 cap, .int .i64 y]) (by simp [results, Tryz.results35, go_sem, z0, z1]) rfl ?_
  exact ⟨ao, cap, rfl, b, off, HD.out⟩
end Go.Proofs.YtggpaljilpbmhaaGreatDoor
namespace Go.Proofs.YtggpaljilpbmhaaGreatDoor

/-- What is taken, what is laid up, what lies there behind an instruction. -/
def tkB (p : Pv) (i : Nat) : List Bool := colB p (fTakes (p.op i).toNat) (p.arg i)
def lyB (p : Pv) (i : Nat) : List Bool := colB p (fLays (p.op i).toNat) (p.arg i)
def aft (p : Pv) (i : Nat) (l : List Bool) : List Bool := l.take (l.length - (tkB p i).length) ++ lyB p i
/-- Where an instruction leads, and with what. -/
def edgs (p : Pv) (i : Nat) (l : List Bool) : List (Nat × List Bool) :=
 if (p.op i).toNat = 31 ∨ (p.op i).toNat = 32 then [] else if (p.op i).toNat = 25 then [((p.arg i).toNat, aft p i l)] else if (p.op i).toNat = 27 ∨ (p.op i).toNat = 28 then [((p.arg i).toNat, l), (i + 1, aft p i l)] else if (p.op i).toNat = 26 then [((p.arg i).toNat, aft p i l), (i + 1, aft p i l)] else [(i + 1, aft p i l)]
/-- A place at which a rule begins. -/
def Ent (p : Pv) (i : Nat) : Prop := ∃ e, e < 6 ∧ 0 ≤ p.en e ∧ (p.en e).toNat = i
end Go.Proofs.YtggpaljilpbmhaaGreatDoor
namespace Go.Proofs.YtggpaljilpbmhaaGreatDoor

/-- How many places below one are kept; the place that is kept as the j-th. -/
def cnt (K : Nat → Bool) : Nat → Nat
 | 0 => 0
 | i + 1 => cnt K i + (if K i then 1 else 0)
def sel (K : Nat → Bool) : Nat → Nat → Nat
 | 0, _ => 0
 | n + 1, j => if K n = true ∧ cnt K n = j then n else sel K n j
theorem cnt_mono {K : Nat → Bool} {i j : Nat} (h : i ≤ j) : cnt K i ≤ cnt K j := by
 induction j with
 | zero =>
  obtain rfl : i = 0 := by omega
  exact Nat.le_refl _
 | succ j ih =>
  by_cases e : i = j + 1
  ·subst e; exact Nat.le_refl _
  ·have := ih (by omega)
   show _ ≤ cnt K j + _
   omega
theorem cnt_next {K : Nat → Bool} {i : Nat} (h : K i = true) : cnt K (i + 1) = cnt K i + 1 := by
 show cnt K i + _ = _
 rw [if_pos h]
theorem cnt_lt {K : Nat → Bool} {i j : Nat} (h : K i = true) (hj : i < j) : cnt K i < cnt K j := by
 have := cnt_mono (K := K) (show i + 1 ≤ j by omega)
 rw [cnt_next h] at this
 omega
theorem cnt_inj {K : Nat → Bool} {i j : Nat} (hi : K i = true) (hj : K j = true) (h : cnt K i = cnt K j) : i = j := by
 rcases Nat.lt_trichotomy i j with q | q | q
 ·have := cnt_lt hi q; omega
 ·exact q
 ·have := cnt_lt hj q; omega
theorem sel_spec {K : Nat → Bool} : ∀ {n j : Nat}, j < cnt K n → sel K n j < n ∧ K (sel K n j) = true ∧ cnt K (sel K n j) = j
 | 0, j, h => by cases h
 | n + 1, j, h => by
  unfold sel
  by_cases e : K n = true ∧ cnt K n = j
  ·rw [if_pos e]
   exact ⟨by omega, e.1, e.2⟩
  ·rw [if_neg e]
   have h2 : j < cnt K n := by
    have h3 : j < cnt K n + (if K n then 1 else 0) := h
    by_cases ek : K n = true
    ·rw [if_pos ek] at h3
     have : cnt K n ≠ j := fun q => e ⟨ek, q⟩
     omega
    ·rw [if_neg ek] at h3
     omega
   have := sel_spec h2
   exact ⟨by omega, this.2⟩
theorem sel_cnt {K : Nat → Bool} {n i : Nat} (hi : i < n) (hk : K i = true) : sel K n (cnt K i) = i := by
 have := sel_spec (cnt_lt hk hi)
 exact cnt_inj this.2.1 hk this.2.2
/-- Does its Arg name a place? -/
def wayP (o : Int) : Bool := decide (25 ≤ o) && decide (o ≤ 28)
theorem way_iff {o : Nat} (h : o ≤ 32) : (fArg o = 4) ↔ (25 ≤ o ∧ o ≤ 28) := by
 have : ∀ o, o < 33 → ((fArg o = 4) ↔ (25 ≤ o ∧ o ≤ 28)) := by decide
 exact this o (by omega)
/-- A program without the places that are not kept. -/
def cutF (p : Pv) (K : Nat → Bool) : Pv :=
 ⟨p.nc, p.ns, cnt K p.n, p.C, p.S, fun e => if 0 ≤ p.en e then ((cnt K (p.en e).toNat : Nat) : Int) else p.en e, fun j => p.op (sel K p.n j), fun j => if wayP (p.op (sel K p.n j)) = true then ((cnt K (p.arg (sel K p.n j)).toNat : Nat) : Int) else p.arg (sel K p.n j)⟩
theorem wayP_nat {x : Int} (h : wayP x = true) : 25 ≤ x.toNat ∧ x.toNat ≤ 28 := by
 simp [wayP] at h
 omega
/-- The form of a program. -/
structure Wf (p : Pv) : Prop where
 sz : p.nc ≤ 256 ∧ p.ns ≤ 128 ∧ p.n ≤ 1024
 sl : ∀ j, j < p.ns → p.S j = 0 ∨ p.S j = 1
 en : ∀ e, e < 6 → p.en e = -1 ∨ isPl (p.en e) p.n = true
 ins : ∀ i, i < p.n → InOk p i
theorem Wf.of {p : Pv} (h : statF p = none) : Wf p := by
 obtain ⟨h1, h2, h3, h4⟩ := stat_none h
 exact ⟨size_none h1, slot_none h2, fun e he => ent_of h3 he, fun i hi => InOk.of h4 hi⟩
theorem op_nat {p : Pv} {i : Nat} (h : InOk p i) : 1 ≤ p.op i ∧ p.op i ≤ 32 ∧ p.op i = ((p.op i).toNat : Nat) := by
 have := h.o
 simp [isO] at this
 omega
theorem InOk.way {p : Pv} {i : Nat} (h : InOk p i) (hw : wayP (p.op i) = true) : isPl (p.arg i) p.n = true := by
 have h1 := op_nat h
 have h2 := wayP_nat hw
 exact argF_place h.a ((way_iff (by omega)).2 h2)
def kOf (k : Kn) (i : Nat) : Bool := (k i).isSome
end Go.Proofs.YtggpaljilpbmhaaGreatDoor
namespace Go.Proofs.YtggpaljilpbmhaaGreatDoor

/-- Where a way ends that leads through jumps. -/
def finF (p : Pv) : Nat → Nat → Nat
 | 0, x => x
 | f + 1, x => if p.op x = 25 then finF p f (p.arg x).toNat else x
def shortF (p : Pv) : Pv := ⟨p.nc, p.ns, p.n, p.C, p.S, p.en, p.op, fun i => if wayP (p.op i) = true then ((finF p p.n (p.arg i).toNat : Nat) : Int) else p.arg i⟩
end Go.Proofs.YtggpaljilpbmhaaGreatDoor
namespace Go.Proofs.YtggpaljilpbmhaaGreatDoor

/-- Led to from the front in the shortened program. -/
def Rch (p : Pv) (k : Kn) (x : Nat) : Prop := ∀ P : Nat → Prop, (∀ i, Ent p i → P i) → (∀ i l d l', i < p.n → P i → k i = some l → (d, l') ∈ edgs (shortF p) i l → i < d → P d) → P x
theorem Rch.step {p : Pv} {k : Kn} {i d : Nat} {l l' : List Bool} (h : Rch p k i) (hi : i < p.n) (hk : k i = some l) (he : (d, l') ∈ edgs (shortF p) i l) (hd : i < d) : Rch p k d := fun P h1 h2 => h2 i l d l' hi (h P h1 h2) hk he hd
end Go.Proofs.YtggpaljilpbmhaaGreatDoor
namespace Go.Proofs.YtggpaljilpbmhaaGreatDoor

theorem ver_wf {p : Pv} {k : Kn} (hv : verF p = .ok k) : Wf p := Wf.of (by
 rw [verF_stat] at hv
 cases e : statF p with
 | none => rfl
 | some z => rw [e] at hv; cases hv)
/-- The first jump to the next place. -/
def idleB (p : Pv) (j : Nat) : Bool := decide (p.op j = 25) && decide (p.arg j = (j : Int) + 1)
def fstI (p : Pv) : Nat → Option Nat
 | 0 => none
 | j + 1 => match fstI p j with
  | some x => some x
  | none => if idleB p j = true then some j else none
def butK (i : Nat) (x : Nat) : Bool := decide (x ≠ i)
/-- Without the jumps to the next place, one after the other. -/
def idleF : Nat → Pv → Pv
 | 0, p => p
 | f + 1, p => match fstI p p.n with
  | none => p
  | some i => idleF f (cutF p (butK i))
/-- Is a constant laid up somewhere? -/
def usedB (p : Pv) (c : Nat) : Nat → Bool
 | 0 => false
 | j + 1 => usedB p c j || (decide (p.op j = 2) && decide (p.arg j = (c : Int)))
def usd (p : Pv) (c : Nat) : Bool := usedB p c p.n
end Go.Proofs.YtggpaljilpbmhaaGreatDoor
namespace Go.Proofs.YtggpaljilpbmhaaGreatDoor
open Go.RowKit

theorem KI.kl {w : World} {v : Value} {l : List Bool} (h : KI w v l) : KL w.heap.size w v l := by
 obtain ⟨ao, cap, h1, h2, h3⟩ := h
 by_cases e : 0 < l.length
 ·obtain ⟨b, cs, e1, e2, e3⟩ := h3 e
  exact ⟨ao, cap, b, 0, h1, h2, fun _ => ⟨e1, block_lt e2⟩, fun j x hx => by rw [Nat.zero_add]; exact (block_cell e2 j).trans (e3 j x hx)⟩
 ·refine ⟨ao, cap, 0, 0, h1, h2, fun x => absurd x e, fun j x hx => ?_⟩
  have := (List.getElem?_eq_some_iff.1 hx).1
  omega
end Go.Proofs.YtggpaljilpbmhaaGreatDoor
