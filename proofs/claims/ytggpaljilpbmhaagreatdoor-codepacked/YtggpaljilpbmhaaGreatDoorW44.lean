import Derived.Test.YtggpaljilpbmhaaGreatDoorW49
namespace Go.Proofs.YtggpaljilpbmhaaGreatDoor
open Go.RowKit

/-- A program with other arguments. -/
def pA (p : Pv) (a : Nat → Int) : Pv := ⟨p.nc, p.ns, p.n, p.C, p.S, p.en, p.op, a⟩
/-- The constants that are used: under way. -/
structure Tr (W : World) (B : Nat) (g : Pg) (p : Pv) (j mb : Nat) (v : Value) (a : Nat → Int) (w : World) : Prop where
 pb : w.heap[W.heap.size]? = some (.cells (g.cs p).toArray 27 (0, 0))
 mo : ∃ ms : Array Value, w.heap[mb]? = some (.cells ms 3 (0, 0)) ∧ ms.size = p.nc ∧ ∀ i, i < j → ms[i]? = some (.int .i64 ((cnt (usd p) i : Nat) : Int))
 mn : W.heap.size ≤ mb
 us : w.ownsRow W.heap.size 28 1 v (cnt (usd p) j) (nums .u64 (fun x => p.C (sel (usd p) p.nc x)) (cnt (usd p) j))
 po : Po B g (pA p a) w
 far : (∀ x, (Value.slice g.ca p.nc g.cc).ownBlock = some x → x < W.heap.size) ∧ (∀ x, (Value.slice g.sa p.ns g.sc).ownBlock = some x → x < W.heap.size) ∧ (∀ x, (Value.slice g.ia p.n g.ic).ownBlock = some x → x < W.heap.size)
 bel : Below B W w
 sz : W.heap.size ≤ w.heap.size
 lb : B ≤ W.heap.size
/-- Rows that lie below stay, whatever turns above. -/
theorem own_farJ {w w' : World} {B n sz k : Nat} {t : TypeId} {v : Value} {xs : List Value} (h : w.ownsRow B t sz v n xs) (ha : ∀ x, v.ownBlock = some x → x < k) {row : Option Nat} (hg : w.grownBy w' row) (hr : ∀ x, row = some x → k ≤ x) : w'.ownsRow B t sz v n xs := by
 refine World.ownsRow.kept h hg ?_
 cases e : v.ownBlock with
 | none => exact .inl rfl
 | some x =>
  right
  intro q
  have h1 := ha x e
  have h2 := hr x q.symm
  omega
theorem Po.far {w w' : World} {B k : Nat} {g : Pg} {p : Pv} (h : Po B g p w) (hc : ∀ x, (Value.slice g.ca p.nc g.cc).ownBlock = some x → x < k) (hs : ∀ x, (Value.slice g.sa p.ns g.sc).ownBlock = some x → x < k) (hi : ∀ x, (Value.slice g.ia p.n g.ic).ownBlock = some x → x < k) {row : Option Nat} (hg : w.grownBy w' row) (hr : ∀ x, row = some x → k ≤ x) : Po B g p w' :=
 h.remake rfl rfl rfl (own_farJ h.c hc hg hr) (own_farJ h.s hs hg hr) (own_farJ h.i hi hg hr)
theorem Tr.next {W : World} {B : Nat} {g : Pg} {p : Pv} {j mb : Nat} {v : Value} {a : Nat → Int} {w w' : World} (h : Tr W B g p j mb v a w) (hb : Below w.heap.size w w') : Tr W B g p j mb v a w' := by
 obtain ⟨ms, q1, q2⟩ := h.mo
 exact ⟨(hb.block _ (block_lt h.pb)).trans h.pb, ⟨ms, (hb.block _ (block_lt q1)).trans q1, q2⟩, h.mn, own_keep h.us hb, h.po.next hb, h.far, h.bel.trans (hb.mono (Nat.le_trans h.lb h.sz)), Nat.le_trans h.sz hb.size, h.lb⟩
theorem Tr.move {W : World} {B : Nat} {g : Pg} {p : Pv} {j mb : Nat} {v : Value} {a : Nat → Int} {w : World} (h : Tr W B g p j mb v a w) (hj : j < p.nc) : (∃ ms : Array Value, (w.setCell ⟨mb, j, none⟩ (.int .i64 ((cnt (usd p) j : Nat) : Int))).heap[mb]? = some (.cells ms 3 (0, 0)) ∧ ms.size = p.nc ∧ ∀ i, i < j + 1 → ms[i]? = some (.int .i64 ((cnt (usd p) i : Nat) : Int))) ∧ Tr W B g p j mb v a (w.setCell ⟨mb, j, none⟩ (.int .i64 ((cnt (usd p) j : Nat) : Int))) := by
 obtain ⟨ms, q1, q2, q3⟩ := h.mo
 have hg := grown_setT w mb j (.int .i64 ((cnt (usd p) j : Nat) : Int))
 have ne1 : W.heap.size ≠ mb := fun x => by have := h.pb; rw [x, q1] at this; cases this
 have hb : Below B w (w.setCell ⟨mb, j, none⟩ (.int .i64 ((cnt (usd p) j : Nat) : Int))) := (Below.refl _ w).setCell (p := ⟨mb, j, none⟩) (Nat.le_trans h.lb h.mn) _
 have hm : (w.setCell ⟨mb, j, none⟩ (.int .i64 ((cnt (usd p) j : Nat) : Int))).heap[mb]? = some (.cells (ms.setIfInBounds j (.int .i64 ((cnt (usd p) j : Nat) : Int))) 3 (0, 0)) := by simp [World.setCell, Array.getElem?_modify, q1]
 have hv : ∀ i, i < j + 1 → (ms.setIfInBounds j (.int .i64 ((cnt (usd p) j : Nat) : Int)))[i]? = some (.int .i64 ((cnt (usd p) i : Nat) : Int)) := fun i hi => by
  by_cases eq : i = j
  ·subst eq
   simp [q2, hj]
  ·rw [Array.getElem?_setIfInBounds_ne (fun x => eq x.symm)]
   exact q3 i (by omega)
 refine ⟨⟨_, hm, by simpa using q2, hv⟩, (hg.block _ (block_lt h.pb) (by simpa using ne1)).trans h.pb, ⟨_, hm, by simpa using q2, fun i hi => hv i (by omega)⟩, h.mn, own_offT h.us q1 (by decide) hg, h.po.far h.far.1 h.far.2.1 h.far.2.2 hg (fun x hx => by cases hx; exact h.mn), h.far, h.bel.trans hb, Nat.le_trans h.sz hg.size, h.lb⟩
theorem Tr.app {W : World} {B : Nat} {g : Pg} {p : Pv} {j mb : Nat} {v v' : Value} {a : Nat → Int} {w w' : World} (h : Tr W B g p j mb v a w) (hm : ∃ ms : Array Value, w.heap[mb]? = some (.cells ms 3 (0, 0)) ∧ ms.size = p.nc ∧ ∀ i, i < j + 1 → ms[i]? = some (.int .i64 ((cnt (usd p) i : Nat) : Int))) (hj : j < p.nc) (hk : usd p j = true) (hg : w.grownBy w' v.ownBlock) (ho : w'.ownsRow W.heap.size 28 1 v' (cnt (usd p) j + 1) (nums .u64 (fun x => p.C (sel (usd p) p.nc x)) (cnt (usd p) j) ++ [.int .u64 (p.C j)])) : Tr W B g p (j + 1) mb v' a w' := by
 obtain ⟨ms, q1, q2⟩ := hm
 have off : ∀ (q : Nat) (cs : Array Value) (t : TypeId), w.heap[q]? = some (.cells cs t (0, 0)) → t ≠ 28 → w'.heap[q]? = w.heap[q]? := fun q cs t hq ht => by
  refine hg.block q (block_lt hq) (fun x => ?_)
  rcases h.us.2 with ⟨rfl, _⟩ | ⟨g', cap, cur, rfl, _, hc, _⟩
  ·cases x
  ·simp [Value.ownBlock] at x
   subst x
   rw [hc] at hq
   cases hq
   exact ht rfl
 refine ⟨(off _ _ _ h.pb (by decide)).trans h.pb, ⟨ms, (off _ _ _ q1 (by decide)).trans q1, q2⟩, h.mn, ?_, h.po.far h.far.1 h.far.2.1 h.far.2.2 hg (fun x hx => (h.us.lt x hx).1), h.far, h.bel.trans ((Below.refl _ w).grown hg (Nat.le_trans h.lb h.sz) (fun x hx => Nat.le_trans h.lb (h.us.lt x hx).1)), Nat.le_trans h.sz hg.size, h.lb⟩
 rw [cnt_next hk, nums_next, sel_cnt hj hk]
 exact ho
theorem Tr.arg {W : World} {B : Nat} {g : Pg} {p : Pv} {j mb : Nat} {v : Value} {a a' : Nat → Int} {w : World} {gb i : Nat} {x : Int} (h : Tr W B g p j mb v a w) (hia : g.ia = some ⟨gb, 0, none⟩) (hi : i < p.n) (ha : ∀ y, y < p.n → (if y = i then x else a y) = a' y) : Tr W B g p j mb v a' (w.setCell ⟨gb, i * 2 + 1, none⟩ (.int .i64 x)) := by
 obtain ⟨ms, q1, q2⟩ := h.mo
 have hg := grown_setT w gb (i * 2 + 1) (.int .i64 x)
 have hrow : Irow w B (.slice (some ⟨gb, 0, none⟩) p.n g.ic) p.n p.op a := by have := h.po.i; rw [hia] at this; exact this
 obtain ⟨cur, hq⟩ : ∃ cur, w.heap[gb]? = some (.cells cur 42 (0, 0)) := by
  rcases hrow.2 with ⟨e, _⟩ | ⟨g', cap, cur, e, _, hc, _⟩
  ·cases e
  ·cases e; exact ⟨cur, hc⟩
 have hlt := World.ownsRow.lt hrow gb rfl
 have off : ∀ (q : Nat) (cs : Array Value) (t : TypeId), w.heap[q]? = some (.cells cs t (0, 0)) → t ≠ 42 → (w.setCell ⟨gb, i * 2 + 1, none⟩ (.int .i64 x)).heap[q]? = w.heap[q]? := fun q cs t hqq ht => by
  refine hg.block q (block_lt hqq) (fun e => ?_)
  cases e
  rw [hq] at hqq
  cases hqq
  exact ht rfl
 have hb : Below B w (w.setCell ⟨gb, i * 2 + 1, none⟩ (.int .i64 x)) := (Below.refl _ w).setCell (p := ⟨gb, i * 2 + 1, none⟩) hlt.1 _
 refine ⟨(off _ _ _ h.pb (by decide)).trans h.pb, ⟨ms, (off _ _ _ q1 (by decide)).trans q1, q2⟩, h.mn, own_offT h.us hq (by decide) hg, ?_, h.far, h.bel.trans hb, Nat.le_trans h.sz hg.size, h.lb⟩
 refine h.po.remake (p' := pA p a') rfl rfl rfl (own_offT h.po.c hq (by decide) hg) (own_offT h.po.s hq (by decide) hg) ?_
 show Irow _ B (.slice g.ia p.n g.ic) p.n p.op a'
 rw [hia]
 exact irow_congr (irow_set hrow hi) (fun _ _ => rfl) ha
theorem Tr.congr {W : World} {B : Nat} {g : Pg} {p : Pv} {j mb : Nat} {v : Value} {a a' : Nat → Int} {w : World} (h : Tr W B g p j mb v a w) (ha : ∀ y, y < p.n → a y = a' y) : Tr W B g p j mb v a' w :=
 ⟨h.pb, h.mo, h.mn, h.us, h.po.remake (p' := pA p a') rfl rfl rfl h.po.c h.po.s (irow_congr h.po.i (fun _ _ => rfl) ha), h.far, h.bel, h.sz, h.lb⟩
theorem Tr.cells {W : World} {B : Nat} {g : Pg} {p : Pv} {j mb : Nat} {v : Value} {a : Nat → Int} {w : World} (h : Tr W B g p j mb v a w) : w.cell? ⟨W.heap.size, 0, none⟩ = some (.slice g.ca p.nc g.cc) ∧ w.cell? ⟨W.heap.size, 8, none⟩ = some (.slice g.ia p.n g.ic) ∧ W.heap.size < w.heap.size :=
 ⟨block_cell h.pb 0, block_cell h.pb 8, block_lt h.pb⟩
end Go.Proofs.YtggpaljilpbmhaaGreatDoor
namespace Go.Proofs.YtggpaljilpbmhaaGreatDoor
open Go.RowKit

end Go.Proofs.YtggpaljilpbmhaaGreatDoor
namespace Go.Proofs.YtggpaljilpbmhaaGreatDoor
open Go.RowKit

/-- Tidying under way: the boxes, the program. -/
structure Ty (W : World) (B : Nat) (g : Pg) (p : Pv) (w : World) : Prop where
 pb : w.heap[W.heap.size]? = some (.cells (g.cs p).toArray 27 (0, 0))
 rb : w.heap[W.heap.size + 1]? = some (.cells zP 27 (0, 0))
 po : Po B g p w
 tab : Tab w
 bel : Below W.heap.size W w
 lb : B ≤ w.heap.size
 hB : W.heap.size + 2 = B
 z : 10 < W.heap.size
/-- The program is replaced. -/
theorem Ty.put {W : World} {B : Nat} {g : Pg} {p : Pv} {w w' : World} {cs : Array Value} (hp : w.heap[W.heap.size]? = some (.cells cs 27 (0, 0))) (hc : cs.size = 9) (hr : w.heap[W.heap.size + 1]? = some (.cells zP 27 (0, 0))) (hpo : Po B g p w) (hT : Tab w) (hb : Below W.heap.size W w) (hl : B ≤ w.heap.size) (hB : W.heap.size + 2 = B) (hz : 10 < W.heap.size)
  (hwf : set9 w W.heap.size (.slice g.ca p.nc g.cc) (.slice g.sa p.ns g.sc) (.int .i64 (p.en 0)) (.int .i64 (p.en 1)) (.int .i64 (p.en 2)) (.int .i64 (p.en 3)) (.int .i64 (p.en 4)) (.int .i64 (p.en 5)) (.slice g.ia p.n g.ic) = w') : Ty W B g p w' := by
 obtain ⟨q1, q2⟩ := set9_blk hp hc (.slice g.ca p.nc g.cc) (.slice g.sa p.ns g.sc) (.int .i64 (p.en 0)) (.int .i64 (p.en 1)) (.int .i64 (p.en 2)) (.int .i64 (p.en 3)) (.int .i64 (p.en 4)) (.int .i64 (p.en 5)) (.slice g.ia p.n g.ic)
 rw [hwf] at q1 q2
 have bw : Below W.heap.size w w' := (Below.refl _ w).grown q2 (by omega) (fun x hx => by cases hx; omega)
 exact ⟨q1, (q2.block _ (block_lt hr) (by simp)).trans hr, hpo.off hp (by decide) (by decide) (by decide) q2, hT.below bw hz, hb.trans bw, Nat.le_trans hl q2.size, hB, hz⟩
end Go.Proofs.YtggpaljilpbmhaaGreatDoor
namespace Go.Proofs.YtggpaljilpbmhaaGreatDoor
open Go.RowKit

end Go.Proofs.YtggpaljilpbmhaaGreatDoor
namespace Go.Proofs.YtggpaljilpbmhaaGreatDoor
open Go.RowKit

set_option maxRecDepth 10000 in
set_option maxHeartbeats 1600000 in
/-- A comparison of the program. -/
theorem holdsC (o : Nat) (h9 : 9 ≤ o) (h16 : o ≤ 16) (a b : Int) (w : World) : Calls Tryz.prog 123 #[.int .i64 (o : Nat), .int .u64 a, .int .u64 b] w fun e w' => e = .returned (.bool (cmpB o a b)) ∧ w' = w := by
 have hc : o = 9 ∨ o = 10 ∨ o = 11 ∨ o = 12 ∨ o = 13 ∨ o = 14 ∨ o = 15 ∨ o = 16 := by omega
 rcases hc with rfl | rfl | rfl | rfl | rfl | rfl | rfl | rfl
 all_goals
  unfold cmpB
  simp only [Nat.reduceEqDiff, or_false, or_true, if_false, reduceIte]
  go_enter Tryz.func123, Tryz.ntmps123
  go_wp2
  go_ret
  exact ⟨by first | rfl | (simp [BEq.beq]; done) | simp, rfl⟩
set_option maxRecDepth 10000 in
theorem fittingC (n ov : Int) (w : World) : Calls Tryz.prog 189 #[.int .u64 n, .int .u64 ov] w fun e w' => e = .returned (.tuple #[.int .u64 (if ov = 0 then n else 0), .int .i64 (if ov = 0 then 0 else 3)]) ∧ w' = w := by
 by_cases h : ov = 0
 ·subst h
  rw [if_pos rfl, if_pos rfl]
  go_enter Tryz.func189, Tryz.ntmps189
  go_wp2
  go_ret2
  exact ⟨rfl, rfl⟩
 ·rw [if_neg h, if_neg h]
  go_enter Tryz.func189, Tryz.ntmps189
  go_wp2
  go_ret2
  exact ⟨rfl, rfl⟩
end Go.Proofs.YtggpaljilpbmhaaGreatDoor
namespace Go.Proofs.YtggpaljilpbmhaaGreatDoor
open Go.RowKit

/-- How a rule ended. -/
def outA (s : Ms) : Array Value := #[.int .i64 s.en, .int .u64 s.fail, .int .u64 (if s.en = 0 then s.paid 0 else 0), .int .u64 (if s.en = 0 then s.paid 1 else 0), .int .u64 (if s.en = 0 then s.paid 2 else 0), .int .u64 s.left]
def outZ : Array Value := #[.int .i64 0, .int .u64 0, .int .u64 0, .int .u64 0, .int .u64 0, .int .u64 0]
def outO (s : Ms) : Array Value := if s.ov then outA s else outZ
set_option maxRecDepth 10000 in
set_option maxHeartbeats 3200000 in
theorem outcomeC {c : Mc} {mb : Nat} {s : Ms} {w : World} (h : Pm c mb s w) : Calls Tryz.prog 34 #[.pointer (some ⟨mb, 0, none⟩)] w fun e w' => e = .returned (.tuple #[.agg (outO s), .bool s.ov]) ∧ Hid (Below w.heap.size w w') := by
 obtain ⟨W1, hW1⟩ : ∃ W1, w.alloc (.cells #[.int .i64 0, .int .u64 0, .int .u64 0, .int .u64 0, .int .u64 0, .int .u64 0] 47) = W1 := ⟨_, rfl⟩
 have B1 : Below w.heap.size w W1 := by rw [← hW1]; exact below_alloc1 w _
 have A1 : W1.heap[w.heap.size]? = some (.cells #[.int .i64 0, .int .u64 0, .int .u64 0, .int .u64 0, .int .u64 0, .int .u64 0] 47 (0, 0)) := by rw [← hW1]; exact alloc_atK _ _
 have S1 : W1.heap.size = w.heap.size + 1 := by rw [← hW1]; simp
 have h1 := h.below B1
 have HW1 := hide hW1
 cases hov : s.ov with
 | false =>
  have c1 : W1.cell? ⟨mb, 411, none⟩ = some (.bool false) := by rw [← hov]; exact h1.cell (i := 411) (by decide)
  have ml := h1.lt
  have v0 := block_cell A1 0
  have v1 := block_cell A1 1
  have v2 := block_cell A1 2
  have v3 := block_cell A1 3
  have v4 := block_cell A1 4
  have v5 := block_cell A1 5
  have f0 := block_free A1 0
  have f1 := block_free A1 1
  have f2 := block_free A1 2
  have f3 := block_free A1 3
  have f4 := block_free A1 4
  have f5 := block_free A1 5
  have vl := block_lt A1
  simp at v0 v1 v2 v3 v4 v5
  have HA1 := hide A1
  have HB1 := hide B1
  have HO : Hid (outO s = #[.int .i64 0, .int .u64 0, .int .u64 0, .int .u64 0, .int .u64 0, .int .u64 0]) := by
   have : outO s = #[.int .i64 0, .int .u64 0, .int .u64 0, .int .u64 0, .int .u64 0, .int .u64 0] := by unfold outO; rw [hov]; rfl
   exact this
  rw [HO.out]
  clear h h1 hW1 A1 B1 hov HO
  go_enter Tryz.func34, Tryz.ntmps34
  go_upto_region 1 with fail
  rw [HW1.out]
  clear HW1
  go_wp2
  generalize hwf : World.setCell _ _ _ = wf
  have HX : Hid (wf.heap[w.heap.size]? = some (.cells #[.int .i64 0, .int .u64 0, .int .u64 0, .int .u64 0, .int .u64 0, .int .u64 0] 47 (0, 0)) ∧ Below w.heap.size w wf) := by
   rw [← hwf]
   refine ⟨?_, ?_⟩
   ·simp [World.setCell, Array.getElem?_modify, HA1.out]
   ·refine HB1.out.grown (row := some w.heap.size) ?_ HB1.out.size (fun q e => by cases e; exact Nat.le_refl _)
    exact grown_tr (grown_tr (grown_tr (grown_tr (grown_tr (grown_setT _ _ _ _) (grown_setT _ _ _ _)) (grown_setT _ _ _ _)) (grown_setT _ _ _ _)) (grown_setT _ _ _ _)) (grown_setT _ _ _ _)
  have c0 := block_cell HX.out.1 0
  have c1 := block_cell HX.out.1 1
  have c2 := block_cell HX.out.1 2
  have c3 := block_cell HX.out.1 3
  have c4 := block_cell HX.out.1 4
  have c5 := block_cell HX.out.1 5
  simp at c0 c1 c2 c3 c4 c5
  refine bodyPost_ret (v := .tuple #[.agg #[.int .i64 0, .int .u64 0, .int .u64 0, .int .u64 0, .int .u64 0, .int .u64 0], .bool false]) (by simp [results, Tryz.results34, go_sem, c0, c1, c2, c3, c4, c5]) rfl ?_
  exact ⟨rfl, HX.out.2⟩
 | true =>
  obtain ⟨en, hen⟩ : ∃ en, s.en = en := ⟨_, rfl⟩
  obtain ⟨fl, hfl⟩ : ∃ fl, s.fail = fl := ⟨_, rfl⟩
  obtain ⟨lf, hlf⟩ : ∃ lf, s.left = lf := ⟨_, rfl⟩
  obtain ⟨p0, hp0⟩ : ∃ x, s.paid 0 = x := ⟨_, rfl⟩
  obtain ⟨p1, hp1⟩ : ∃ x, s.paid 1 = x := ⟨_, rfl⟩
  obtain ⟨p2, hp2⟩ : ∃ x, s.paid 2 = x := ⟨_, rfl⟩
  have HO : outO s = #[.int .i64 en, .int .u64 fl, .int .u64 (if en = 0 then p0 else 0), .int .u64 (if en = 0 then p1 else 0), .int .u64 (if en = 0 then p2 else 0), .int .u64 lf] := by
   unfold outO
   rw [hov]
   unfold outA
   rw [hen, hfl, hlf, hp0, hp1, hp2]
   rfl
  have HM : Hid (∀ w', Below W1.heap.size W1 w' → (w'.cell? ⟨mb, 412, none⟩ = some (.int .i64 en) ∧ w'.cell? ⟨mb, 413, none⟩ = some (.int .u64 fl) ∧ w'.cell? ⟨mb, 407, none⟩ = some (.int .u64 lf) ∧ mb < w'.heap.size) ∧ w'.cell? ⟨mb, 408, none⟩ = some (.int .u64 p0) ∧ w'.cell? ⟨mb, 409, none⟩ = some (.int .u64 p1) ∧ w'.cell? ⟨mb, 410, none⟩ = some (.int .u64 p2)) := fun w' hb => by
   have q := h1.below hb
   rw [← hen, ← hfl, ← hlf, ← hp0, ← hp1, ← hp2]
   exact ⟨⟨q.cell (i := 412) (by decide), q.cell (i := 413) (by decide), q.cell (i := 407) (by decide), q.lt⟩, q.cell (i := 408) (by decide), q.cell (i := 409) (by decide), q.cell (i := 410) (by decide)⟩
  have HS : Hid (∀ w', Below W1.heap.size W1 w' → (fun (w : World) => w.cell? ⟨mb, 412, none⟩ = some (.int .i64 en) ∧ w.cell? ⟨mb, 413, none⟩ = some (.int .u64 fl) ∧ w.cell? ⟨mb, 407, none⟩ = some (.int .u64 lf) ∧ mb < w.heap.size) w') := fun w' hb => (HM.out w' hb).1
  have c1 : W1.cell? ⟨mb, 411, none⟩ = some (.bool true) := by rw [← hov]; exact h1.cell (i := 411) (by decide)
  have ml := h1.lt
  have HA1 := hide A1
  have HB1 := hide B1
  have hmw : mb ≠ w.heap.size := by have := h.lt; omega
  rw [HO]
  clear h h1 hW1 A1 B1 hov HO hen hfl hlf hp0 hp1 hp2
  go_enter Tryz.func34, Tryz.ntmps34
  go_upto_region 1 with fail
  rw [HW1.out]
  clear HW1
  go_upto_region 3 with fail
  clear c1 ml
  obtain ⟨wz, hwz⟩ : ∃ wz, (W1).drew = wz := ⟨_, rfl⟩
  have HS9 : Hid ((fun (w : World) => w.cell? ⟨mb, 412, none⟩ = some (.int .i64 en) ∧ w.cell? ⟨mb, 413, none⟩ = some (.int .u64 fl) ∧ w.cell? ⟨mb, 407, none⟩ = some (.int .u64 lf) ∧ mb < w.heap.size) wz) := by rw [← hwz]; exact HS.out _ (Below.refl _ _).drew
  refine wp_region_L 99 (fun _ => True) (fun (w : World) => w.cell? ⟨mb, 412, none⟩ = some (.int .i64 en) ∧ w.cell? ⟨mb, 413, none⟩ = some (.int .u64 fl) ∧ w.cell? ⟨mb, 407, none⟩ = some (.int .u64 lf) ∧ mb < w.heap.size) (by kernel_rfl) trivial (by rw [hwz]; exact HS9.out) (fun hS0 => ?_)
  rw [hwz] at hS0 ⊢
  refine wpAnyL_take (i := 0) (oi := ⟨some 15, .move (.tmp 0), 80, "machine.go:95", #[], none⟩) (v := .pointer (some ⟨mb, 0, none⟩)) rfl (by decide) (by kernel_rfl) (by kernel_rfl) (by kernel_rfl) (fun _ _ _ h => h) (Or.inl ⟨by rfl, fun w2 hSw => ?_⟩) hS0 (fun hS1 => ?_)
  ·go_simp
  simp only [Act.put, lsA, lsB, lsC]
  clear hS0
  refine wpAnyL_take (i := 1) (oi := ⟨some 16, .nilCheck (.tmp 15), 0, "machine.go:95", #[⟨0, .data⟩], none⟩) (v := .pointer (some ⟨mb, 0, none⟩)) rfl (by decide) (by kernel_rfl) (by kernel_rfl) (by kernel_rfl) (fun _ _ _ h => h) (Or.inl ⟨by rfl, fun w2 hSw => ?_⟩) hS1 (fun hS2 => ?_)
  ·obtain ⟨k1, k2, k3, kl⟩ := hSw
   go_simp
  simp only [Act.put, lsA, lsB, lsC]
  clear hS1
  refine wpAnyL_take (i := 2) (oi := ⟨some 17, .fieldAddr 140 (.tmp 16) 13, 0, "machine.go:95", #[⟨1, .data⟩], none⟩) (v := .pointer (some ⟨mb, 412, none⟩)) rfl (by decide) (by kernel_rfl) (by kernel_rfl) (by kernel_rfl) (fun _ _ _ h => h) (Or.inl ⟨by rfl, fun w2 hSw => ?_⟩) hS2 (fun hS3 => ?_)
  ·go_simp
  simp only [Act.put, lsA, lsB, lsC]
  clear hS2
  refine wpAnyL_take (i := 3) (oi := ⟨some 18, .load 44 (.tmp 17), 44, "machine.go:95", #[⟨2, .data⟩], none⟩) (v := .int .i64 en) rfl (by decide) (by kernel_rfl) (by kernel_rfl) (by kernel_rfl) (fun _ _ _ h => h) (Or.inl ⟨by rfl, fun w2 hSw => ?_⟩) hS3 (fun hS4 => ?_)
  ·obtain ⟨k1, k2, k3, kl⟩ := hSw
   go_simp
  simp only [Act.put, lsA, lsB, lsC]
  clear hS3
  refine wpAnyL_take (i := 4) (oi := ⟨some 19, .move (.tmp 0), 80, "machine.go:95", #[], none⟩) (v := .pointer (some ⟨mb, 0, none⟩)) rfl (by decide) (by kernel_rfl) (by kernel_rfl) (by kernel_rfl) (fun _ _ _ h => h) (Or.inl ⟨by rfl, fun w2 hSw => ?_⟩) hS4 (fun hS5 => ?_)
  ·go_simp
  simp only [Act.put, lsA, lsB, lsC]
  clear hS4
  refine wpAnyL_take (i := 5) (oi := ⟨some 20, .nilCheck (.tmp 19), 0, "machine.go:95", #[⟨4, .data⟩], none⟩) (v := .pointer (some ⟨mb, 0, none⟩)) rfl (by decide) (by kernel_rfl) (by kernel_rfl) (by kernel_rfl) (fun _ _ _ h => h) (Or.inl ⟨by rfl, fun w2 hSw => ?_⟩) hS5 (fun hS6 => ?_)
  ·obtain ⟨k1, k2, k3, kl⟩ := hSw
   go_simp
  simp only [Act.put, lsA, lsB, lsC]
  clear hS5
  refine wpAnyL_take (i := 6) (oi := ⟨some 21, .fieldAddr 140 (.tmp 20) 14, 0, "machine.go:95", #[⟨5, .data⟩], none⟩) (v := .pointer (some ⟨mb, 413, none⟩)) rfl (by decide) (by kernel_rfl) (by kernel_rfl) (by kernel_rfl) (fun _ _ _ h => h) (Or.inl ⟨by rfl, fun w2 hSw => ?_⟩) hS6 (fun hS7 => ?_)
  ·go_simp
  simp only [Act.put, lsA, lsB, lsC]
  clear hS6
  refine wpAnyL_take (i := 7) (oi := ⟨some 22, .load 28 (.tmp 21), 28, "machine.go:95", #[⟨6, .data⟩], none⟩) (v := .int .u64 fl) rfl (by decide) (by kernel_rfl) (by kernel_rfl) (by kernel_rfl) (fun _ _ _ h => h) (Or.inl ⟨by rfl, fun w2 hSw => ?_⟩) hS7 (fun hS8 => ?_)
  ·obtain ⟨k1, k2, k3, kl⟩ := hSw
   go_simp
  simp only [Act.put, lsA, lsB, lsC]
  clear hS7
  refine wpAnyL_take (i := 8) (oi := ⟨some 23, .move (.tmp 0), 80, "machine.go:95", #[], none⟩) (v := .pointer (some ⟨mb, 0, none⟩)) rfl (by decide) (by kernel_rfl) (by kernel_rfl) (by kernel_rfl) (fun _ _ _ h => h) (Or.inl ⟨by rfl, fun w2 hSw => ?_⟩) hS8 (fun hS9 => ?_)
  ·go_simp
  simp only [Act.put, lsA, lsB, lsC]
  clear hS8
  refine wpAnyL_take (i := 9) (oi := ⟨some 24, .nilCheck (.tmp 23), 0, "machine.go:95", #[⟨8, .data⟩], none⟩) (v := .pointer (some ⟨mb, 0, none⟩)) rfl (by decide) (by kernel_rfl) (by kernel_rfl) (by kernel_rfl) (fun _ _ _ h => h) (Or.inl ⟨by rfl, fun w2 hSw => ?_⟩) hS9 (fun hS10 => ?_)
  ·obtain ⟨k1, k2, k3, kl⟩ := hSw
   go_simp
  simp only [Act.put, lsA, lsB, lsC]
  clear hS9
  refine wpAnyL_take (i := 10) (oi := ⟨some 25, .fieldAddr 140 (.tmp 24) 10, 0, "machine.go:95", #[⟨9, .data⟩], none⟩) (v := .pointer (some ⟨mb, 407, none⟩)) rfl (by decide) (by kernel_rfl) (by kernel_rfl) (by kernel_rfl) (fun _ _ _ h => h) (Or.inl ⟨by rfl, fun w2 hSw => ?_⟩) hS10 (fun hS11 => ?_)
  ·go_simp
  simp only [Act.put, lsA, lsB, lsC]
  clear hS10
  refine wpAnyL_take (i := 11) (oi := ⟨some 26, .load 28 (.tmp 25), 28, "machine.go:95", #[⟨10, .data⟩], none⟩) (v := .int .u64 lf) rfl (by decide) (by kernel_rfl) (by kernel_rfl) (by kernel_rfl) (fun _ _ _ h => h) (Or.inl ⟨by rfl, fun w2 hSw => ?_⟩) hS11 (fun hS12 => ?_)
  ·obtain ⟨k1, k2, k3, kl⟩ := hSw
   go_simp
  simp only [Act.put, lsA, lsB, lsC]
  clear hS11
  refine wpAnyL_take (i := 12) (oi := ⟨some 27, .build 47 #[(0, .tmp 18), (1, .tmp 22), (3, .tmp 26)], 47, "machine.go:95", #[⟨3, .data⟩, ⟨7, .data⟩, ⟨11, .data⟩], none⟩) (v := .agg #[.int .i64 en, .int .u64 fl, .int .u64 0, .int .u64 0, .int .u64 0, .int .u64 lf]) rfl (by decide) (by kernel_rfl) (by kernel_rfl) (by kernel_rfl) (fun _ _ _ h => h) (Or.inl ⟨by rfl, fun w2 hSw => ?_⟩) hS12 (fun hS13 => ?_)
  ·go_simp
  simp only [Act.put, lsA, lsB, lsC]
  clear hS12
  clear hS13
  refine wpAnyL_one (i := 13) (o := ⟨some 4, .alloc 47, 0, "machine.go:95", #[], none⟩) (by kernel_rfl) rfl (fun K hK => ?_)
  go_simp
  go_wp2_with fail
  have B0 : Hid (Below W1.heap.size W1 wz) := by rw [← hwz]; exact (Below.refl _ _).drew
  refine hK.out _ _ ⟨fun _ => trivial, HS.out _ (B0.out.trans ((below_alloc1 wz _).mono B0.out.size))⟩ ?_
  clear hK K
  refine wpAnyL_one (i := 14) (o := ⟨none, .store 47 (.tmp 4) (.tmp 27), 0, "machine.go:95", #[⟨13, .data⟩, ⟨12, .data⟩, ⟨0, .phase⟩, ⟨1, .phase⟩, ⟨2, .phase⟩, ⟨3, .phase⟩, ⟨4, .phase⟩, ⟨5, .phase⟩, ⟨6, .phase⟩, ⟨7, .phase⟩, ⟨8, .phase⟩, ⟨9, .phase⟩, ⟨10, .phase⟩, ⟨11, .phase⟩, ⟨12, .phase⟩, ⟨13, .phase⟩], none⟩) (by kernel_rfl) rfl (fun K hK => ?_)
  go_simp
  go_wp2_with fail
  refine hK.out _ _ ⟨fun _ => trivial, HS.out _ (B0.out.trans ((below_alloc1 wz _).mono B0.out.size))⟩ ?_
  clear hK K
  refine wpAnyL_done (by kernel_rfl) ?_ _
  clear HS9

  obtain ⟨w3, hw3⟩ : ∃ w3, wz.alloc (.cells #[.int .i64 en, .int .u64 fl, .int .u64 0, .int .u64 0, .int .u64 0, .int .u64 lf] 47) = w3 := ⟨_, rfl⟩
  have B3 : Below W1.heap.size W1 w3 := by rw [← hw3]; exact B0.out.trans ((below_alloc1 wz _).mono B0.out.size)
  have A3 : w3.heap[wz.heap.size]? = some (.cells #[.int .i64 en, .int .u64 fl, .int .u64 0, .int .u64 0, .int .u64 0, .int .u64 lf] 47 (0, 0)) := by rw [← hw3]; exact alloc_atK _ _
  have hob : w.heap.size < wz.heap.size := by have := B0.out.size; omega
  rw [hw3]
  clear hw3
  obtain ⟨⟨m1, m2, m3, ml⟩, m4, m5, m6⟩ := HM.out w3 B3
  have A1 := (B3.block _ (block_lt HA1.out)).trans HA1.out
  have v0 := block_cell A1 0
  have v1 := block_cell A1 1
  have v2 := block_cell A1 2
  have v3 := block_cell A1 3
  have v4 := block_cell A1 4
  have v5 := block_cell A1 5
  have f0 := block_free A1 0
  have f1 := block_free A1 1
  have f2 := block_free A1 2
  have f3 := block_free A1 3
  have f4 := block_free A1 4
  have f5 := block_free A1 5
  have vl := block_lt A1
  have o0 := block_cell A3 0
  have o1 := block_cell A3 1
  have o2 := block_cell A3 2
  have o3 := block_cell A3 3
  have o4 := block_cell A3 4
  have o5 := block_cell A3 5
  have g2 := block_free A3 2
  have g3 := block_free A3 3
  have g4 := block_free A3 4
  have ol := block_lt A3
  simp at v0 v1 v2 v3 v4 v5 o0 o1 o2 o3 o4 o5
  have HA3 := hide A3
  have HA2 := hide A1
  have HB3 : Hid (Below w.heap.size w w3) := HB1.out.trans (B3.mono HB1.out.size)
  clear A1 A3 B3 B0 HA1 HB1 HM HS hwz S1
  generalize wz.heap.size = ob at *
  have n1 : ¬ ob = w.heap.size := by omega
  have n2 : ¬ w.heap.size = ob := by omega
  have n3 : ¬ mb = w.heap.size := hmw
  by_cases q0 : en = 0
  ·subst q0
   go_wp2
   generalize hwf : World.setCell _ _ _ = wf
   have HX : Hid (wf.heap[w.heap.size]? = some (.cells #[.int .i64 0, .int .u64 fl, .int .u64 p0, .int .u64 p1, .int .u64 p2, .int .u64 lf] 47 (0, 0)) ∧ Below w.heap.size w wf) := by
    rw [← hwf]
    refine ⟨?_, ?_⟩
    ·simp [World.setCell, Array.getElem?_modify, HA2.out, n1]
    ·have hs := HB3.out.size
     refine (HB3.out.grown (row := some ob) (w' := ((w3.setCell ⟨ob, 2, none⟩ (.int .u64 p0)).setCell ⟨ob, 3, none⟩ (.int .u64 p1)).setCell ⟨ob, 4, none⟩ (.int .u64 p2)) ?_ (by omega) (fun q e => by cases e; omega)).grown (row := some w.heap.size) ?_ (by simp; omega) (fun q e => by cases e; exact Nat.le_refl _)
     ·exact grown_tr (grown_tr (grown_setT _ _ _ _) (grown_setT _ _ _ _)) (grown_setT _ _ _ _)
     ·exact grown_tr (grown_tr (grown_tr (grown_tr (grown_tr (grown_setT _ _ _ _) (grown_setT _ _ _ _)) (grown_setT _ _ _ _)) (grown_setT _ _ _ _)) (grown_setT _ _ _ _)) (grown_setT _ _ _ _)
   have c0 := block_cell HX.out.1 0
   have c1 := block_cell HX.out.1 1
   have c2 := block_cell HX.out.1 2
   have c3 := block_cell HX.out.1 3
   have c4 := block_cell HX.out.1 4
   have c5 := block_cell HX.out.1 5
   simp at c0 c1 c2 c3 c4 c5
   refine bodyPost_ret (v := .tuple #[.agg #[.int .i64 0, .int .u64 fl, .int .u64 p0, .int .u64 p1, .int .u64 p2, .int .u64 lf], .bool true]) (by simp [results, Tryz.results34, go_sem, c0, c1, c2, c3, c4, c5]) rfl ?_
   exact ⟨by simp, HX.out.2⟩
  ·have e0 : (en == 0) = false := by simpa using q0
   go_wp2
   generalize hwf : World.setCell _ _ _ = wf
   have HX : Hid (wf.heap[w.heap.size]? = some (.cells #[.int .i64 en, .int .u64 fl, .int .u64 0, .int .u64 0, .int .u64 0, .int .u64 lf] 47 (0, 0)) ∧ Below w.heap.size w wf) := by
    rw [← hwf]
    refine ⟨?_, ?_⟩
    ·simp [World.setCell, Array.getElem?_modify, HA2.out]
    ·refine HB3.out.grown (row := some w.heap.size) ?_ HB3.out.size (fun q e => by cases e; exact Nat.le_refl _)
     exact grown_tr (grown_tr (grown_tr (grown_tr (grown_tr (grown_setT _ _ _ _) (grown_setT _ _ _ _)) (grown_setT _ _ _ _)) (grown_setT _ _ _ _)) (grown_setT _ _ _ _)) (grown_setT _ _ _ _)
   have c0 := block_cell HX.out.1 0
   have c1 := block_cell HX.out.1 1
   have c2 := block_cell HX.out.1 2
   have c3 := block_cell HX.out.1 3
   have c4 := block_cell HX.out.1 4
   have c5 := block_cell HX.out.1 5
   simp at c0 c1 c2 c3 c4 c5
   refine bodyPost_ret (v := .tuple #[.agg #[.int .i64 en, .int .u64 fl, .int .u64 0, .int .u64 0, .int .u64 0, .int .u64 lf], .bool true]) (by simp [results, Tryz.results34, go_sem, c0, c1, c2, c3, c4, c5]) rfl ?_
   exact ⟨by simp, HX.out.2⟩
end Go.Proofs.YtggpaljilpbmhaaGreatDoor
