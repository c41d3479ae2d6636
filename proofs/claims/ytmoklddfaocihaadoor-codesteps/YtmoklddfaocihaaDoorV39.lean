import Derived.Test.YtmoklddfaocihaaDoorV36
import Derived.Test.YtmoklddfaocihaaDoorV38
import Derived.Test.YtmoklddfaocihaaDoorV18
import Derived.Deep.DeepCutAuto
namespace Go.Proofs.YtmoklddfaocihaaDoor
open Go.RowKit

/-- A cell that is written with what it holds. -/
theorem set_same {w : World} {b i : Nat} {cs : Array Value} {t : TypeId} {z : Nat × Nat} {v : Value} (h : w.heap[b]? = some (.cells cs t z)) (hi : cs[i]? = some v) : w.setCell ⟨b, i, none⟩ v = w := by
 have e : w.heap.modify b (fun o => match o with | .cells c t f => .cells (c.setIfInBounds i v) t f | o => o) = w.heap := by
  apply Array.ext_getElem?
  intro k
  rw [Array.getElem?_modify]
  by_cases q : b = k
  ·subst q
   rw [if_pos rfl, h]
   have : cs.setIfInBounds i v = cs := by
    apply Array.ext_getElem?
    intro k
    by_cases q : i = k
    ·subst q
     have := (Array.getElem?_eq_some_iff.1 hi).1
     rw [hi]
     simp [this]
    ·rw [Array.getElem?_setIfInBounds_ne q]
   simp [this]
  ·rw [if_neg q]
 obtain ⟨hp, a, b2, c, d⟩ := w
 simp only [World.setCell] at e ⊢
 congr 1
theorem build_rm (g : Pg) (p : Pv) (e : En) (w : World) : (Instr.build 67 #[(0, .bool true), (1, .agg (g.cs p).toArray), (2, .agg e.cs.toArray)]).run Tryd.prog w = .ok (.agg (rcs g p e (.slice none 0 0) (.slice none 0 0) (mk0 0 0)).toArray) w := by kernel_rfl
/-- A machine that is being loaded. -/
structure Rl (W : World) (g g' : Pg) (p : Pv) (e : En) (rb : Nat) (s : Ms) (j : Nat) (vQ : Value) (w : World) : Prop where
 blk : w.heap[rb]? = some (.cells (rcs g' p e (.slice none 0 0) vQ s).toArray 67 (0, 0))
 sl : w.ownsRow (rb + 1) 56 2 vQ j (vals2 p.S (fun _ => 0) j)
 pr : w.heap[W.heap.size]? = some (.cells (g.cs p).toArray 27 (0, 0))
 fx : w.heap[W.heap.size + 1 + 1]? = some (.cells #[.slice none 0 0, .int .i64 0] 30 (0, 0))
 ok : g.Ok p W.heap.size w
 ok2 : g'.Ok p rb w
 lo : W.heap.size + 1 + 1 < rb
 bel : Below W.heap.size W w
section
variable {W : World} {g g' : Pg} {p : Pv} {e : En} {rb : Nat} {s : Ms} {j : Nat} {vQ : Value} {w : World}
theorem Rl.cell (h : Rl W g g' p e rb s j vQ w) (i : Nat) : w.cell? ⟨rb, i, none⟩ = (rcs g' p e (.slice none 0 0) vQ s)[i]? := by
 rw [block_cell h.blk, List.getElem?_toArray]
theorem Rl.keep {w' : World} {r : Option Nat} (h : Rl W g g' p e rb s j vQ w) (hg : w.grownBy w' r) (hr : ∀ q, r = some q → rb ≤ q) : w'.heap[W.heap.size]? = some (.cells (g.cs p).toArray 27 (0, 0)) ∧ w'.heap[W.heap.size + 1 + 1]? = some (.cells #[.slice none 0 0, .int .i64 0] 30 (0, 0)) ∧ g.Ok p W.heap.size w' ∧ g'.Ok p rb w' ∧ Below W.heap.size W w' ∧ Below rb w w' := by
 have hlo := h.lo
 have hb : Below rb w w' := (Below.refl _ w).grown hg (Nat.le_of_lt (block_lt h.blk)) hr
 exact ⟨(hb.block _ (by omega)).trans h.pr, (hb.block _ (by omega)).trans h.fx, h.ok.kept hb (by omega), h.ok2.kept hb (Nat.le_refl _), h.bel.trans (hb.mono (by omega)), hb⟩
/-- One cell of it is written. -/
theorem Rl.set (h : Rl W g g' p e rb s j vQ w) {s' : Ms} {i : Nat} {v : Value} (he : rcs g' p e (.slice none 0 0) vQ s' = (rcs g' p e (.slice none 0 0) vQ s).set i v) : Rl W g g' p e rb s' j vQ (w.setCell ⟨rb, i, none⟩ v) := by
 have gs := grown_setT w rb i v
 obtain ⟨a1, a2, a3, a4, a5, _⟩ := h.keep gs (fun q e => by cases e; exact Nat.le_refl _)
 refine ⟨?_, own_offT h.sl h.blk (by decide) gs, a1, a2, a3, a4, h.lo, a5⟩
 have := heap_setCell_same w rb i _ _ v h.blk
 rw [this, he]
 simp
/-- Memory grew. -/
theorem Rl.next {w' : World} (h : Rl W g g' p e rb s j vQ w) (hb : Below w.heap.size w w') : Rl W g g' p e rb s j vQ w' := by
 have gn : w.grownBy w' none := ⟨hb.os, hb.tape, hb.output, hb.size, fun k hk _ => hb.block k hk⟩
 obtain ⟨a1, a2, a3, a4, a5, _⟩ := h.keep gn (fun q e => by cases e)
 exact ⟨(hb.block _ (block_lt h.blk)).trans h.blk, own_keep h.sl hb, a1, a2, a3, a4, h.lo, a5⟩
/-- A slot is laid behind the others. -/
theorem Rl.app {w1 w2 : World} {v' : Value} (h : Rl W g g' p e rb s j vQ w) (hb : Below w.heap.size w w1) (ho : w2.ownsRow (rb + 1) 56 2 v' (j + 1) (vals2 p.S (fun _ => 0) j ++ [.int .i64 (p.S j), .int .u64 0])) (hg : w1.grownBy w2 vQ.ownBlock) :
  Rl W g g' p e rb s (j + 1) v' (w2.setCell ⟨rb, 20, none⟩ v') ∧ w2.heap[rb]? = some (.cells (rcs g' p e (.slice none 0 0) vQ s).toArray 67 (0, 0)) ∧ g.Ok p W.heap.size w2 ∧ w2.heap[W.heap.size]? = some (.cells (g.cs p).toArray 27 (0, 0)) := by
 have h1 := h.next hb
 have hq : ∀ q, vQ.ownBlock = some q → rb < q := fun q e => (h.sl.lt q e).1
 obtain ⟨a1, a2, a3, a4, a5, a6⟩ := h1.keep hg (fun q e => Nat.le_of_lt (hq q e))
 have b2 : w2.heap[rb]? = some (.cells (rcs g' p e (.slice none 0 0) vQ s).toArray 67 (0, 0)) := (hg.block _ (block_lt h1.blk) (fun e => by have := hq rb e.symm; omega)).trans h1.blk
 have gs := grown_setT w2 rb 20 v'
 have hl := h.lo
 have hb2 : Below rb w2 (w2.setCell ⟨rb, 20, none⟩ v') := (Below.refl _ w2).grown gs (Nat.le_of_lt (block_lt b2)) (fun q e => by cases e; exact Nat.le_refl _)
 refine ⟨⟨?_, ?_, (hb2.block _ (by omega)).trans a1, (hb2.block _ (by omega)).trans a2, a3.kept hb2 (by omega), a4.kept hb2 (Nat.le_refl _), h.lo, a5.trans (hb2.mono (by omega))⟩, b2, a3, a1⟩
 ·have := heap_setCell_same w2 rb 20 _ _ v' b2
  rw [this]
  rfl
 ·rw [vals2_next]
  exact own_offT ho b2 (by decide) gs
/-- Loaded. -/
theorem Rl.done (h : Rl W g g' p e rb s p.ns vQ w) (h0 : s.h = 0) (hz : s.slt = fun _ => 0) : ∃ c, Rx c (.slice none 0 0) s w ∧ c.p = p ∧ c.e = e ∧ c.rb = rb ∧ ∃ qa qc, c.vQ = .slice qa p.ns qc := by
 obtain ⟨qb, qc, hq⟩ : ∃ qb qc, 0 < p.ns → vQ = .slice (some ⟨qb, 0, none⟩) p.ns qc ∧ rb < qb ∧ qb < w.heap.size ∧ ∃ cq, w.heap[qb]? = some (.cells cq 56 (0, 0)) ∧ ∀ j, j < p.ns → cq[j * 2]? = some (.int .i64 (p.S j)) ∧ cq[j * 2 + 1]? = some (.int .u64 (s.slt j)) := by
  rcases h.sl.2 with ⟨e, h0⟩ | ⟨q, cap, cur, e, hb, hc, hnc, _, hsz, htk⟩
  ·exact ⟨0, 0, fun q => by omega⟩
  ·refine ⟨q, cap, fun _ => ⟨e, hb, block_lt hc, cur, hc, fun j hj => ?_⟩⟩
   have h1 := vals2_k (k := p.S) (v := fun _ => 0) hj
   have h2 := vals2_v (k := p.S) (v := fun _ => 0) hj
   rw [← htk, List.getElem?_take, if_pos (by omega)] at h1
   rw [← htk, List.getElem?_take, if_pos (by omega)] at h2
   rw [hz]
   exact ⟨by simpa using h1, by simpa using h2⟩
 refine ⟨⟨g', p, e, vQ, rb, qb, qc, w.heap.size⟩, ⟨h.blk, ?_, hq, h.ok2, block_lt h.blk, Nat.le_refl _⟩, rfl, rfl, rfl, own_val2 h.sl⟩
 rw [h0]
 exact World.ownsRow_nil _ _ _ _
end
/-- What the reference's Load answers. -/
def LdX (W : World) (p : Pv) (ev : Int) (e : En) (fuel : Int) (r : Except (Int × Int) Kn) (x : Ending) (w' : World) : Prop := match r with
 | .error (a, y) => ∃ ao cap, x = .returned (.tuple #[.pointer none, .agg #[.slice ao 1 cap, .int .i64 y]]) ∧ Hid (∃ b off, FV w'.heap.size w' ao [⟨⟨#[99, 111, 100, 101]⟩, a⟩] b off ∧ Below W.heap.size W w')
 | .ok _ => (isPl ev 6 = false → ∃ ao cap, x = .returned (.tuple #[.pointer none, .agg #[.slice ao 1 cap, .int .i64 92]]) ∧ Hid (∃ b off, FV w'.heap.size w' ao [⟨⟨#[99, 111, 100, 101]⟩, 0⟩] b off ∧ Below W.heap.size W w')) ∧
  (isPl ev 6 = true → ∃ rb, x = .returned (.tuple #[.pointer (some ⟨rb, 0, none⟩), .agg #[.slice none 0 0, .int .i64 0]]) ∧ Hid (∃ c vS, Rx c vS (ldS p ev fuel) w' ∧ c.p = p ∧ c.e = e ∧ c.rb = rb ∧ W.heap.size ≤ c.rb ∧ Below W.heap.size W w' ∧ ∃ qa qc, c.vQ = .slice qa p.ns qc))
/-- A fault of two cells written over. -/
theorem fault_set {W w : World} {q : Nat} {ao : Option Addr} {L : List Lk} {b off n cap : Nat} {y : Int} (hq : w.heap[q]? = some (.cells #[.slice none 0 0, .int .i64 0] 30 (0, 0))) (hf : FV w.heap.size w ao L b off) (hb : Below W.heap.size W w) (hw : W.heap.size ≤ q) {wf : World} (e : (w.setCell ⟨q, 0, none⟩ (.slice ao n cap)).setCell ⟨q, 1, none⟩ (.int .i64 y) = wf) :
  wf.heap[q]? = some (.cells #[.slice ao n cap, .int .i64 y] 30 (0, 0)) ∧ FV wf.heap.size wf ao L b off ∧ Below W.heap.size W wf := by
 subst e
 refine ⟨by simp [World.setCell, Array.getElem?_modify, hq], setFv hq (fun x => by simp) (fun x => by simp) hf n cap y, ?_⟩
 exact (hb.setCell (p := ⟨q, 0, none⟩) hw _).setCell (p := ⟨q, 1, none⟩) hw _
end Go.Proofs.YtmoklddfaocihaaDoor
namespace Go.Proofs.YtmoklddfaocihaaDoor
open Go.RowKit

set_option maxRecDepth 10000 in
set_option maxHeartbeats 12800000 in
theorem loadR {W : World} {g : Pg} {p : Pv} (h : g.Ok p W.heap.size W) (ev : Int) (e : En) {fuel : Int} (hfu : 0 ≤ fuel) : Calls Tryd.prog 15 #[.agg (g.cs p).toArray, .int .i64 ev, .agg e.cs.toArray, .int .u64 fuel] W (LdX W p ev e fuel (verF p)) := by
 have HWFV : Hid (∀ k, verF p = .ok k → Wf p) := fun k hk => ver_wf hk
 have HNE : Hid (∀ a y, verF p = .error (a, y) → y ≠ 0) := fun a y hv => ver_ne hv
 obtain ⟨W3, hW3⟩ : ∃ W3, ((W.alloc (.cells (g.cs p).toArray 27)).alloc (.cells e.cs.toArray 44)).alloc (.cells #[.slice none 0 0, .int .i64 0] 30) = W3 := ⟨_, rfl⟩
 obtain ⟨A1, A2, A3, B3⟩ := three_box2 W _ _ _ _ _ _ hW3
 have S3 : W3.heap.size = W.heap.size + 1 + 1 + 1 := by rw [← hW3]; simp
 have HVF := hide (verifyR ((h.kept B3 (Nat.le_refl _)).wide B3.size))
 have HCS : Hid (∀ (g : Pg) (p : Pv), g.cs p = [.slice g.ca p.nc g.cc, .slice g.sa p.ns g.sc, .int .i64 (p.en 0), .int .i64 (p.en 1), .int .i64 (p.en 2), .int .i64 (p.en 3), .int .i64 (p.en 4), .int .i64 (p.en 5), .slice g.ia p.n g.ic]) := fun _ _ => rfl
 have HOK := hide h
 have HB3 := hide B3
 have HA1 := hide A1
 have HA2 := hide A2
 have HA3 := hide A3
 have HW3 := hide hW3
 obtain ⟨x0, x1, x2, x3, x4, x5, x6, x7⟩ := e
 have HEC : (⟨x0, x1, x2, x3, x4, x5, x6, x7⟩ : En).cs = [.int .u64 x0, .int .u64 x1, .int .u64 x2, .int .u64 x3, .int .u64 x4, .int .u64 x5, .int .u64 x6, .bool x7] := rfl
 rw [HCS.out g p, HEC] at HW3
 rw [HCS.out g p] at HVF ⊢
 rw [HEC] at HA2 ⊢
 have HS3 : Hid (W.heap.size + 1 + 1 < W3.heap.size) := by show _ < _; omega
 clear h B3 A2 A3 hW3 HEC S3
 obtain ⟨r, hr⟩ : ∃ r, verF p = r := ⟨_, rfl⟩
 rw [hr] at HVF HWFV HNE ⊢
 clear hr
 have z0 := block_cell A1 0
 have z1 := block_cell A1 1
 have z2 := block_cell A1 2
 have z3 := block_cell A1 3
 have z4 := block_cell A1 4
 have z5 := block_cell A1 5
 have z6 := block_cell A1 6
 have z7 := block_cell A1 7
 have z8 := block_cell A1 8
 have zl := block_lt A1
 simp [Pg.cs] at z0 z1 z2 z3 z4 z5 z6 z7 z8
 clear A1
 go_enter Tryd.func15, Tryd.ntmps15
 go_upto_region 1 with fail
 rw [HW3.out]
 clear HW3
 go_wp2_with fail
 refine HVF.out.mono ?_
 intro x w4 hh
 clear z0 z1 z2 z3 z4 z5 z6 z7 z8 zl HVF
 cases r with
 | error q =>
  obtain ⟨a, y⟩ := q
  obtain ⟨ao, cap, rfl, G⟩ := (hh : ∃ ao cap, x = .returned (.agg #[.slice ao 1 cap, .int .i64 y]) ∧ Hid (∃ b off, FV w4.heap.size w4 ao [⟨⟨#[99, 111, 100, 101]⟩, a⟩] b off ∧ Below W3.heap.size W3 w4))
  have hne : y ≠ 0 := HNE.out a y rfl
  obtain ⟨w5, hw5⟩ : ∃ w5, w4.alloc (.cells #[.slice ao 1 cap, .int .i64 y] 30) = w5 := ⟨_, rfl⟩
  have B5 : Below w4.heap.size w4 w5 := by rw [← hw5]; exact below_alloc1 _ _
  have A5 : w5.heap[w4.heap.size]? = some (.cells #[.slice ao 1 cap, .int .i64 y] 30 (0, 0)) := by rw [← hw5]; exact alloc_atK _ _
  have t0 := block_cell A5 0
  have t1 := block_cell A5 1
  have tl := block_lt A5
  simp at t0 t1
  have HA5 := hide A5
  have HW5 := hide hw5
  have HAN := hide (anyYes ao 1 cap y hne w5)
  have H5 : Hid (∃ b off, FV w5.heap.size w5 ao [⟨⟨#[99, 111, 100, 101]⟩, a⟩] b off ∧ Below W.heap.size W w5 ∧ w5.heap[W.heap.size + 1 + 1]? = some (.cells #[.slice none 0 0, .int .i64 0] 30 (0, 0))) := by
   obtain ⟨b, off, hf, hb4⟩ := G.out
   have b5 := hb4.trans (B5.mono hb4.size)
   exact ⟨b, off, hf.next B5, HB3.out.trans (b5.mono HB3.out.size), (b5.block _ (block_lt HA3.out)).trans HA3.out⟩
  clear G hw5 B5 A5 HB3 HA1 HA2 HA3 HOK HWFV HNE HS3
  go_upto_region 2 with fail
  rw [HW5.out]
  clear HW5
  go_wp2_with fail
  refine HAN.out.mono ?_
  rintro e w6 ⟨rfl, G6⟩
  have HA7 : Hid (w6.heap[w4.heap.size]? = some (.cells #[.slice ao 1 cap, .int .i64 y] 30 (0, 0))) := (G6.out.block _ (block_lt HA5.out)).trans HA5.out
  have H6 : Hid (∃ b off, FV w6.heap.size w6 ao [⟨⟨#[99, 111, 100, 101]⟩, a⟩] b off ∧ Below W.heap.size W w6 ∧ w6.heap[W.heap.size + 1 + 1]? = some (.cells #[.slice none 0 0, .int .i64 0] 30 (0, 0))) := by
   obtain ⟨b, off, hf, hb5, hx⟩ := H5.out
   exact ⟨b, off, hf.next G6.out, hb5.trans (G6.out.mono hb5.size), (G6.out.block _ (block_lt hx)).trans hx⟩
  clear H5 G6 HA5 HAN t0 t1 tl
  generalize w4.heap.size = tb at *
  obtain ⟨fb, hfb⟩ : ∃ fb, W.heap.size + 1 + 1 = fb := ⟨_, rfl⟩
  rw [hfb] at H6 ⊢
  have HFB : Hid (W.heap.size ≤ fb) := by show _ ≤ _; omega
  clear hfb
  go_upto_region 3 with fail
  obtain ⟨wz, hwz⟩ : ∃ wz, (w6).drew = wz := ⟨_, rfl⟩
  have HS9 : Hid ((fun (w : World) => w.cell? ⟨tb, 0, none⟩ = some (.slice ao 1 cap) ∧ w.cell? ⟨tb, 1, none⟩ = some (.int .i64 y) ∧ tb < w.heap.size) wz) := by rw [← hwz]; exact ⟨(block_cell HA7.out 0).trans rfl, (block_cell HA7.out 1).trans rfl, block_lt HA7.out⟩
  refine wp_region_L 2 (fun (w : World) => w.cell? ⟨tb, 0, none⟩ = some (.slice ao 1 cap) ∧ w.cell? ⟨tb, 1, none⟩ = some (.int .i64 y) ∧ tb < w.heap.size) (fun _ => True) (by kernel_rfl) (by rw [hwz]; exact HS9.out) trivial (fun hS0 => ?_)
  rw [hwz] at hS0 ⊢
  refine wpAnyL_takeP [2] (i := 0) (oi := ⟨some 17, .load 30 (.tmp 10), 30, "run.go:36", #[⟨1, .gcOnly .lateStores⟩], none⟩) (v := .agg #[.slice ao 1 cap, .int .i64 y]) rfl (by decide) (by kernel_rfl) (by kernel_rfl) (by kernel_rfl) (by kernel_rfl) (by kernel_rfl) (fun _ _ _ h => h) (Or.inl ⟨by rfl, fun w2 hSw => ?_⟩) hS0 (fun hS1 => ?_)
  ·obtain ⟨k0, k1, kl⟩ := hSw
   go_simp
  simp only [Act.put, lsA, lsB, lsC]
  clear hS0
  refine wpAnyL_take (i := 1) (oi := ⟨some 8, .assign (.const (.pointer none)), 62, "run.go:36", #[⟨0, .textOnly .lateStores⟩], none⟩) (v := .pointer none) rfl (by decide) (by kernel_rfl) (by kernel_rfl) (by kernel_rfl) (fun _ _ _ h => h) (Or.inl ⟨by rfl, fun w2 hSw => ?_⟩) hS1 (fun hS2 => ?_)
  ·go_simp
  simp only [Act.put, lsA, lsB, lsC]
  clear hS1
  obtain ⟨b, off, hf, hb6, hx6⟩ := H6.out
  have X7 : wz.heap[fb]? = some (.cells #[.slice none 0 0, .int .i64 0] 30 (0, 0)) := by rw [← hwz]; exact hx6
  have F7 : Hid (FV wz.heap.size wz ao [⟨⟨#[99, 111, 100, 101]⟩, a⟩] b off ∧ Below W.heap.size W wz ∧ wz.heap[fb]? = some (.cells #[.slice none 0 0, .int .i64 0] 30 (0, 0))) := by rw [← hwz]; exact ⟨hf.next (Below.refl _ _).drew, hb6.drew, hx6⟩
  have s0 := block_cell X7 0
  have s1 := block_cell X7 1
  have sf0 := block_free X7 0
  have sf1 := block_free X7 1
  have sl := block_lt X7
  simp at s0 s1
  clear hf hb6 hx6 X7
  refine wpAnyL_one (i := 2) (o := ⟨none, .store 30 (.tmp 9) (.tmp 17), 0, "run.go:36", #[⟨0, .data⟩, ⟨1, .chain⟩, ⟨0, .phase⟩, ⟨1, .phase⟩], none⟩) (by kernel_rfl) rfl (fun K hK => ?_)
  go_simp
  go_wp2_with fail
  refine hK.out _ _ ⟨fun h => (by cases (show true = false from h)), trivial⟩ ?_
  clear hK K
  refine wpAnyL_done (by kernel_rfl) ?_ _
  clear HS9

  generalize hwf : World.setCell _ _ _ = wf
  obtain ⟨hr1, hr2, hr3⟩ := fault_set F7.out.2.2 F7.out.1 F7.out.2.1 HFB.out hwf
  clear hwf s0 s1 sf0 sf1 sl
  have d0 := block_cell hr1 0
  have d1 := block_cell hr1 1
  simp at d0 d1
  have HE : Hid (∃ b off, FV wf.heap.size wf ao [⟨⟨#[99, 111, 100, 101]⟩, a⟩] b off ∧ Below W.heap.size W wf) := ⟨b, off, hr2, hr3⟩
  clear hr1 hr2 hr3
  go_wp2
  refine bodyPost_ret (v := .tuple #[.pointer none, .agg #[.slice ao 1 cap, .int .i64 y]]) (by simp [results, Tryd.results15, go_sem, d0, d1]) rfl ?_
  exact ⟨ao, cap, rfl, HE⟩
 | ok k =>
  obtain ⟨rfl, hb4⟩ := (hh : x = .returned (.agg #[.slice none 0 0, .int .i64 0]) ∧ Hid (Below W3.heap.size W3 w4))
  have HWF := hide (HWFV.out k rfl)
  obtain ⟨w5, hw5⟩ : ∃ w5, w4.alloc (.cells #[.slice none 0 0, .int .i64 0] 30) = w5 := ⟨_, rfl⟩
  have B5 : Below w4.heap.size w4 w5 := by rw [← hw5]; exact below_alloc1 _ _
  have A5 : w5.heap[w4.heap.size]? = some (.cells #[.slice none 0 0, .int .i64 0] 30 (0, 0)) := by rw [← hw5]; exact alloc_atK _ _
  have t0 := block_cell A5 0
  have t1 := block_cell A5 1
  have tl := block_lt A5
  simp at t0 t1
  have HB35 : Hid (Below W3.heap.size W3 w5) := hb4.out.trans (B5.mono hb4.out.size)
  have HW5 := hide hw5
  have HAN := hide (anyNo w5)
  clear hb4 hw5 B5 A5 HWFV HNE
  go_upto_region 2 with fail
  rw [HW5.out]
  clear HW5
  go_wp2_with fail
  refine HAN.out.mono ?_
  rintro e w6 ⟨rfl, G6⟩
  have HB36 : Hid (Below W3.heap.size W3 w6) := HB35.out.trans (G6.out.mono HB35.out.size)
  have HBW : Hid (Below W.heap.size W w6) := HB3.out.trans (HB36.out.mono HB3.out.size)
  have HP1 := hide ((HB36.out.block _ (block_lt HA1.out)).trans HA1.out)
  have HP2 := hide ((HB36.out.block _ (block_lt HA2.out)).trans HA2.out)
  have HP3 := hide ((HB36.out.block _ (block_lt HA3.out)).trans HA3.out)
  have HOK6 := hide (HOK.out.kept HBW.out (Nat.le_refl _))
  have HSZ6 : Hid (W.heap.size + 1 + 1 < w6.heap.size) := Nat.lt_of_lt_of_le HS3.out HB36.out.size
  clear G6 HB35 HB36 HA1 HA2 HA3 HAN t0 t1 tl HB3 HOK HS3
  cases hpl : isPl ev 6 with
  | false =>
   have hbad : ev < 0 ∨ 5 < ev := by
    simp [isPl] at hpl
    omega
   have HPL := hide hpl
   clear hpl hfu
   rcases hbad with q | q
   ·have g1 : decide (ev < 0) = true := decide_eq_true q
    go_upto_region 5 with fail
    go_wp2_with fail
    refine (refuseR 92 0 w6).mono ?_
    rintro y w7 ⟨ao, cap, rfl, G7⟩
    obtain ⟨b, off, hf, hb7⟩ := G7.out
    have X7 := (hb7.block _ (block_lt HP3.out)).trans HP3.out
    have F7 : Hid (FV w7.heap.size w7 ao [⟨⟨#[99, 111, 100, 101]⟩, 0⟩] b off ∧ Below W.heap.size W w7 ∧ w7.heap[W.heap.size + 1 + 1]? = some (.cells #[.slice none 0 0, .int .i64 0] 30 (0, 0))) := ⟨hf, HBW.out.trans (hb7.mono HBW.out.size), X7⟩
    have s0 := block_cell X7 0
    have s1 := block_cell X7 1
    have sf0 := block_free X7 0
    have sf1 := block_free X7 1
    have sl := block_lt X7
    simp at s0 s1
    have HFB : Hid (W.heap.size ≤ W.heap.size + 1 + 1) := by show _ ≤ _; omega
    clear hf hb7 X7 G7
    go_wp2
    generalize hwf : World.setCell _ _ _ = wf
    obtain ⟨hr1, hr2, hr3⟩ := fault_set F7.out.2.2 F7.out.1 F7.out.2.1 HFB.out hwf
    clear hwf s0 s1 sf0 sf1 sl
    have d0 := block_cell hr1 0
    have d1 := block_cell hr1 1
    simp at d0 d1
    have HE : Hid (∃ b off, FV wf.heap.size wf ao [⟨⟨#[99, 111, 100, 101]⟩, 0⟩] b off ∧ Below W.heap.size W wf) := ⟨b, off, hr2, hr3⟩
    clear hr1 hr2 hr3
    refine bodyPost_ret (v := .tuple #[.pointer none, .agg #[.slice ao 1 cap, .int .i64 92]]) (by simp [results, Tryd.results15, go_sem, d0, d1]) rfl ?_
    exact ⟨fun _ => ⟨ao, cap, rfl, HE⟩, fun q => (by rw [HPL.out] at q; cases q)⟩
   ·have g1 : decide (ev < 0) = false := decide_eq_false (by omega)
    have g2 : decide (ev > 5) = true := decide_eq_true q
    go_upto_region 5 with fail
    go_wp2_with fail
    refine (refuseR 92 0 w6).mono ?_
    rintro y w7 ⟨ao, cap, rfl, G7⟩
    obtain ⟨b, off, hf, hb7⟩ := G7.out
    have X7 := (hb7.block _ (block_lt HP3.out)).trans HP3.out
    have F7 : Hid (FV w7.heap.size w7 ao [⟨⟨#[99, 111, 100, 101]⟩, 0⟩] b off ∧ Below W.heap.size W w7 ∧ w7.heap[W.heap.size + 1 + 1]? = some (.cells #[.slice none 0 0, .int .i64 0] 30 (0, 0))) := ⟨hf, HBW.out.trans (hb7.mono HBW.out.size), X7⟩
    have s0 := block_cell X7 0
    have s1 := block_cell X7 1
    have sf0 := block_free X7 0
    have sf1 := block_free X7 1
    have sl := block_lt X7
    simp at s0 s1
    have HFB : Hid (W.heap.size ≤ W.heap.size + 1 + 1) := by show _ ≤ _; omega
    clear hf hb7 X7 G7
    go_wp2
    generalize hwf : World.setCell _ _ _ = wf
    obtain ⟨hr1, hr2, hr3⟩ := fault_set F7.out.2.2 F7.out.1 F7.out.2.1 HFB.out hwf
    clear hwf s0 s1 sf0 sf1 sl
    have d0 := block_cell hr1 0
    have d1 := block_cell hr1 1
    simp at d0 d1
    have HE : Hid (∃ b off, FV wf.heap.size wf ao [⟨⟨#[99, 111, 100, 101]⟩, 0⟩] b off ∧ Below W.heap.size W wf) := ⟨b, off, hr2, hr3⟩
    clear hr1 hr2 hr3
    refine bodyPost_ret (v := .tuple #[.pointer none, .agg #[.slice ao 1 cap, .int .i64 92]]) (by simp [results, Tryd.results15, go_sem, d0, d1]) rfl ?_
    exact ⟨fun _ => ⟨ao, cap, rfl, HE⟩, fun q => (by rw [HPL.out] at q; cases q)⟩
  | true =>
   have hpn := isPl_nat hpl
   have HPL := hide hpl
   clear hpl
   obtain ⟨m, hm⟩ : ∃ m, ev.toNat = m := ⟨_, rfl⟩
   rw [hm] at hpn
   have hevm : ev = (m : Int) := by omega
   have hm6 : m < 6 := by omega
   obtain ⟨a, ha⟩ : ∃ a, p.en m = a := ⟨_, rfl⟩
   obtain ⟨lf, hlf⟩ : ∃ lf, min fuel 1000 = lf := ⟨_, rfl⟩
   have hld : ldS p ev fuel = if a < 0 then (mk0 a lf).stop 8 else mk0 a lf := by
    unfold ldS ld0
    rw [hm, ha, hlf]
   have HLD := hide hld
   have HPA : Hid (∀ w' : World, w'.heap[W.heap.size]? = some (.cells (g.cs p).toArray 27 (0, 0)) → w'.cell? ⟨W.heap.size, 2 + m, none⟩ = some (.int .i64 a)) := fun w' hw' => by
    have q : m = 0 ∨ m = 1 ∨ m = 2 ∨ m = 3 ∨ m = 4 ∨ m = 5 := by omega
    rw [← ha]
    rcases q with rfl | rfl | rfl | rfl | rfl | rfl <;> exact block_cell hw' _
   clear hld hm ha hpn
   subst hevm
   have n1 : decide ((m : Int) < 0) = false := decide_eq_false (by omega)
   have n2 : decide ((m : Int) > 5) = false := decide_eq_false (by omega)
   have n3 : ¬ (5 < m) := by omega
   go_upto_region 6 with fail
   clear n1 n2 n3
   go_upto_if 26 with fail
   go_cut [3] from 25 (fun s3 V => s3 = .int .u64 lf ∧ Hid (V = w6))
   case first =>
    by_cases q : 1000 < fuel
    ·have hl : (1000 : Int) = lf := by omega
     have d1 : decide (fuel > 1000) = true := decide_eq_true q
     go_wp2
     go_meet
     case rel => exact ⟨by first | rfl | exact congrArg (Value.int .u64) hl, rfl⟩
    ·have hl : fuel = lf := by omega
     have d1 : decide (fuel > 1000) = false := decide_eq_false q
     go_wp2
     go_meet
     case rel => exact ⟨by first | rfl | exact congrArg (Value.int .u64) hl, rfl⟩
   case rest =>
   obtain ⟨rfl, HV⟩ := hcut
   rw [HV.out]
   clear HV hlf
   have HC1 : Hid (∀ w1 : World, Below w6.heap.size w6 w1 → Calls Tryd.prog 38 #[.agg #[.slice g.ca p.nc g.cc, .slice g.sa p.ns g.sc, .int .i64 (p.en 0), .int .i64 (p.en 1), .int .i64 (p.en 2), .int .i64 (p.en 3), .int .i64 (p.en 4), .int .i64 (p.en 5), .slice g.ia p.n g.ic]] w1 fun e w' => ∃ g' : Pg, e = .returned (.agg #[.slice g'.ca p.nc g'.cc, .slice g'.sa p.ns g'.sc, .int .i64 (p.en 0), .int .i64 (p.en 1), .int .i64 (p.en 2), .int .i64 (p.en 3), .int .i64 (p.en 4), .int .i64 (p.en 5), .slice g'.ia p.n g'.ic]) ∧ Hid (Po w1.heap.size g' p w' ∧ Below w6.heap.size w6 w')) := fun w1 hb => by
    have ok := (HOK6.out.wide HBW.out.size).kept hb (Nat.le_refl _)
    refine (copyR9 (ok.wide hb.size) HWF.out.sz.1 HWF.out.sz.2.1 HWF.out.sz.2.2).mono ?_
    rintro e w' ⟨g', rfl, q1, q2⟩
    exact ⟨g', rfl, q1, hb.trans (q2.mono hb.size)⟩
   obtain ⟨pb, hpb⟩ : ∃ pb, W.heap.size = pb := ⟨_, rfl⟩
   obtain ⟨eb, heb⟩ : ∃ eb, pb + 1 = eb := ⟨_, rfl⟩
   have HS : Hid (∀ w' : World, Below w6.heap.size w6 w' → (fun (w : World) => (w.cell? ⟨pb, 0, none⟩ = some (.slice g.ca p.nc g.cc) ∧ w.cell? ⟨pb, 1, none⟩ = some (.slice g.sa p.ns g.sc) ∧ w.cell? ⟨pb, 2, none⟩ = some (.int .i64 (p.en 0)) ∧ w.cell? ⟨pb, 3, none⟩ = some (.int .i64 (p.en 1)) ∧ w.cell? ⟨pb, 4, none⟩ = some (.int .i64 (p.en 2)) ∧ w.cell? ⟨pb, 5, none⟩ = some (.int .i64 (p.en 3)) ∧ w.cell? ⟨pb, 6, none⟩ = some (.int .i64 (p.en 4)) ∧ w.cell? ⟨pb, 7, none⟩ = some (.int .i64 (p.en 5)) ∧ w.cell? ⟨pb, 8, none⟩ = some (.slice g.ia p.n g.ic) ∧ pb < w.heap.size) ∧ (w.cell? ⟨eb, 0, none⟩ = some (.int .u64 x0) ∧ w.cell? ⟨eb, 1, none⟩ = some (.int .u64 x1) ∧ w.cell? ⟨eb, 2, none⟩ = some (.int .u64 x2) ∧ w.cell? ⟨eb, 3, none⟩ = some (.int .u64 x3) ∧ w.cell? ⟨eb, 4, none⟩ = some (.int .u64 x4) ∧ w.cell? ⟨eb, 5, none⟩ = some (.int .u64 x5) ∧ w.cell? ⟨eb, 6, none⟩ = some (.int .u64 x6) ∧ w.cell? ⟨eb, 7, none⟩ = some (.bool x7) ∧ eb < w.heap.size)) w') := fun w' hb => by
    have p0 := (hb.block _ (block_lt HP1.out)).trans HP1.out
    have q0 := (hb.block _ (block_lt HP2.out)).trans HP2.out
    rw [hpb] at p0
    rw [hpb, heb] at q0
    exact ⟨⟨block_cell p0 0, block_cell p0 1, block_cell p0 2, block_cell p0 3, block_cell p0 4, block_cell p0 5, block_cell p0 6, block_cell p0 7, block_cell p0 8, block_lt p0⟩, block_cell q0 0, block_cell q0 1, block_cell q0 2, block_cell q0 3, block_cell q0 4, block_cell q0 5, block_cell q0 6, block_cell q0 7, block_lt q0⟩
   go_upto_region 8 with fail
   rw [hpb, heb]
   obtain ⟨wz, hwz⟩ : ∃ wz, (w6).drew = wz := ⟨_, rfl⟩
   have HS9 : Hid ((fun (w : World) => (w.cell? ⟨pb, 0, none⟩ = some (.slice g.ca p.nc g.cc) ∧ w.cell? ⟨pb, 1, none⟩ = some (.slice g.sa p.ns g.sc) ∧ w.cell? ⟨pb, 2, none⟩ = some (.int .i64 (p.en 0)) ∧ w.cell? ⟨pb, 3, none⟩ = some (.int .i64 (p.en 1)) ∧ w.cell? ⟨pb, 4, none⟩ = some (.int .i64 (p.en 2)) ∧ w.cell? ⟨pb, 5, none⟩ = some (.int .i64 (p.en 3)) ∧ w.cell? ⟨pb, 6, none⟩ = some (.int .i64 (p.en 4)) ∧ w.cell? ⟨pb, 7, none⟩ = some (.int .i64 (p.en 5)) ∧ w.cell? ⟨pb, 8, none⟩ = some (.slice g.ia p.n g.ic) ∧ pb < w.heap.size) ∧ (w.cell? ⟨eb, 0, none⟩ = some (.int .u64 x0) ∧ w.cell? ⟨eb, 1, none⟩ = some (.int .u64 x1) ∧ w.cell? ⟨eb, 2, none⟩ = some (.int .u64 x2) ∧ w.cell? ⟨eb, 3, none⟩ = some (.int .u64 x3) ∧ w.cell? ⟨eb, 4, none⟩ = some (.int .u64 x4) ∧ w.cell? ⟨eb, 5, none⟩ = some (.int .u64 x5) ∧ w.cell? ⟨eb, 6, none⟩ = some (.int .u64 x6) ∧ w.cell? ⟨eb, 7, none⟩ = some (.bool x7) ∧ eb < w.heap.size)) wz) := by rw [← hwz]; exact HS.out _ (Below.refl _ _).drew
   refine wp_region_L 99 (fun _ => True) (fun (w : World) => (w.cell? ⟨pb, 0, none⟩ = some (.slice g.ca p.nc g.cc) ∧ w.cell? ⟨pb, 1, none⟩ = some (.slice g.sa p.ns g.sc) ∧ w.cell? ⟨pb, 2, none⟩ = some (.int .i64 (p.en 0)) ∧ w.cell? ⟨pb, 3, none⟩ = some (.int .i64 (p.en 1)) ∧ w.cell? ⟨pb, 4, none⟩ = some (.int .i64 (p.en 2)) ∧ w.cell? ⟨pb, 5, none⟩ = some (.int .i64 (p.en 3)) ∧ w.cell? ⟨pb, 6, none⟩ = some (.int .i64 (p.en 4)) ∧ w.cell? ⟨pb, 7, none⟩ = some (.int .i64 (p.en 5)) ∧ w.cell? ⟨pb, 8, none⟩ = some (.slice g.ia p.n g.ic) ∧ pb < w.heap.size) ∧ (w.cell? ⟨eb, 0, none⟩ = some (.int .u64 x0) ∧ w.cell? ⟨eb, 1, none⟩ = some (.int .u64 x1) ∧ w.cell? ⟨eb, 2, none⟩ = some (.int .u64 x2) ∧ w.cell? ⟨eb, 3, none⟩ = some (.int .u64 x3) ∧ w.cell? ⟨eb, 4, none⟩ = some (.int .u64 x4) ∧ w.cell? ⟨eb, 5, none⟩ = some (.int .u64 x5) ∧ w.cell? ⟨eb, 6, none⟩ = some (.int .u64 x6) ∧ w.cell? ⟨eb, 7, none⟩ = some (.bool x7) ∧ eb < w.heap.size)) (by kernel_rfl) trivial (by rw [hwz]; exact HS9.out) (fun hS0 => ?_)
   rw [hwz] at hS0 ⊢
   refine wpAnyL_take (i := 0) (oi := ⟨some 27, .load 27 (.tmp 4), 27, "run.go:44", #[], none⟩) (v := .agg #[.slice g.ca p.nc g.cc, .slice g.sa p.ns g.sc, .int .i64 (p.en 0), .int .i64 (p.en 1), .int .i64 (p.en 2), .int .i64 (p.en 3), .int .i64 (p.en 4), .int .i64 (p.en 5), .slice g.ia p.n g.ic]) rfl (by decide) (by kernel_rfl) (by kernel_rfl) (by kernel_rfl) (fun _ _ _ h => h) (Or.inl ⟨by rfl, fun w2 hSw => ?_⟩) hS0 (fun hS1 => ?_)
   ·obtain ⟨⟨k0, k1, k2, k3, k4, k5, k6, k7, k8, kl⟩, e0, e1, e2, e3, e4, e5, e6, e7, el⟩ := hSw
    go_simp
   simp only [Act.put, lsA, lsB, lsC]
   clear hS0
   refine wpAnyL_take (i := 2) (oi := ⟨some 29, .load 44 (.tmp 6), 44, "run.go:44", #[], none⟩) (v := .agg #[.int .u64 x0, .int .u64 x1, .int .u64 x2, .int .u64 x3, .int .u64 x4, .int .u64 x5, .int .u64 x6, .bool x7]) rfl (by decide) (by kernel_rfl) (by kernel_rfl) (by kernel_rfl) (fun _ _ _ h => h) (Or.inl ⟨by rfl, fun w2 hSw => ?_⟩) hS1 (fun hS2 => ?_)
   ·obtain ⟨⟨k0, k1, k2, k3, k4, k5, k6, k7, k8, kl⟩, e0, e1, e2, e3, e4, e5, e6, e7, el⟩ := hSw
    go_simp
   simp only [Act.put, lsA, lsB, lsC]
   clear hS1
   clear hS2
   refine wpAnyL_one (i := 1) (o := ⟨some 28, .call { callee := Callee.value (.func 38), args := #[.tmp 27], argTypes := #[27] }, 27, "run.go:44", #[⟨0, .data⟩], none⟩) (by kernel_rfl) rfl (fun K hK => ?_)
   go_simp
   go_wp2_with fail
   have B0 : Hid (Below w6.heap.size w6 wz) := by rw [← hwz]; exact (Below.refl _ _).drew
   refine (HC1.out wz B0.out).mono ?_
   rintro e w7 ⟨g', rfl, G7⟩
   obtain ⟨L, hL⟩ : ∃ L, rcs g' p ⟨x0, x1, x2, x3, x4, x5, x6, x7⟩ (.slice none 0 0) (.slice none 0 0) (mk0 0 0) = L := ⟨_, rfl⟩
   have HL := hide hL
   have HBL : Hid (∀ w, (Instr.build 67 #[(0, .bool true), (1, .agg #[.slice g'.ca p.nc g'.cc, .slice g'.sa p.ns g'.sc, .int .i64 (p.en 0), .int .i64 (p.en 1), .int .i64 (p.en 2), .int .i64 (p.en 3), .int .i64 (p.en 4), .int .i64 (p.en 5), .slice g'.ia p.n g'.ic]), (2, .agg #[.int .u64 x0, .int .u64 x1, .int .u64 x2, .int .u64 x3, .int .u64 x4, .int .u64 x5, .int .u64 x6, .bool x7])]).run Tryd.prog w = .ok (.agg L.toArray) w) := fun w => by rw [← hL]; exact build_rm g' p ⟨x0, x1, x2, x3, x4, x5, x6, x7⟩ w
   clear hL
   go_simp
   refine hK.out _ _ ⟨fun _ => trivial, HS.out _ G7.out.2⟩ ?_
   clear hK K
   refine wpAnyL_take (i := 3) (oi := ⟨some 30, .build 67 #[(0, .const (.bool true)), (1, .tmp 28), (2, .tmp 29)], 67, "run.go:44", #[⟨1, .data⟩, ⟨2, .data⟩], none⟩) (v := .agg L.toArray) rfl (by decide) (by kernel_rfl) (by kernel_rfl) (by kernel_rfl) (fun _ _ _ h => h) (Or.inl ⟨by rfl, fun w2 hSw => ?_⟩) ⟨fun _ => trivial, HS.out _ G7.out.2⟩ (fun hS50 => ?_)
   ·exact exec_build (t := 67) (parts := #[(0, .const (.bool true)), (1, .tmp 28), (2, .tmp 29)]) rfl (by have h := HBL.out w2; simpa [Act.eval] using h)
   simp only [Act.put, lsA, lsB, lsC]
   clear hS50
   refine wpAnyL_one (i := 4) (o := ⟨some 31, .box 67 (.tmp 30), 62, "run.go:44", #[⟨3, .data⟩], none⟩) (by kernel_rfl) rfl (fun K hK => ?_)
   go_simp
   go_wp2_with fail
   obtain ⟨w8, hw8⟩ : ∃ w8, w7.alloc (.cells L.toArray 67) = w8 := ⟨_, rfl⟩
   rw [hw8]
   have B8 : Hid (Below w7.heap.size w7 w8) := by rw [← hw8]; exact below_alloc1 _ _
   have A8 : Hid (w8.heap[w7.heap.size]? = some (.cells L.toArray 67 (0, 0))) := by rw [← hw8]; exact alloc_atK _ _
   clear hw8
   refine hK.out _ _ ⟨fun _ => trivial, HS.out _ (G7.out.2.trans (B8.out.mono G7.out.2.size))⟩ ?_
   clear hK K
   refine wpAnyL_one (i := 5) (o := ⟨some 11, .assign (.tmp 31), 62, "run.go:44", #[⟨4, .data⟩, ⟨1, .chain⟩, ⟨0, .phase⟩, ⟨1, .phase⟩, ⟨2, .phase⟩, ⟨3, .phase⟩, ⟨4, .phase⟩], none⟩) (by kernel_rfl) rfl (fun K hK => ?_)
   go_simp
   go_wp2_with fail
   refine hK.out _ _ ⟨fun _ => trivial, HS.out _ (G7.out.2.trans (B8.out.mono G7.out.2.size))⟩ ?_
   clear hK K
   refine wpAnyL_done (by kernel_rfl) ?_ _
   clear HS9

   have HR0 : Hid (Rl W g g' p ⟨x0, x1, x2, x3, x4, x5, x6, x7⟩ w7.heap.size (mk0 0 0) 0 (.slice none 0 0) w8) := by
    have b68 := G7.out.2.trans (B8.out.mono G7.out.2.size)
    refine ⟨by rw [HL.out]; exact A8.out, World.ownsRow_nil _ _ _ _, (b68.block _ (block_lt HP1.out)).trans HP1.out, (b68.block _ (block_lt HP3.out)).trans HP3.out, HOK6.out.kept b68 HBW.out.size, G7.out.1.ok.kept B8.out (Nat.le_refl _), Nat.lt_of_lt_of_le HSZ6.out G7.out.2.size, HBW.out.trans (b68.mono HBW.out.size)⟩
   have hn128 := HWF.out.sz.2.1
   have HEB : Hid (W.heap.size + 1 + 1 = eb + 1) := by show _ = _; rw [hpb, heb]
   clear HS HC1 A8 B8 HL HBL G7 HP1 HP2 HP3 HOK6 HSZ6 HBW B0 hwz heb
   have HPB := hide hpb
   clear hpb
   generalize w7.heap.size = rb at *
   have c21 : w8.cell? ⟨rb, 21, none⟩ = some (.int .u64 0) := (HR0.out.cell 21).trans rfl
   have f21 := block_free HR0.out.blk 21
   have rl := block_lt HR0.out.blk
   go_upto_region 10 with fail
   obtain ⟨w9, hw9⟩ : ∃ w9, w8.setCell ⟨rb, 21, none⟩ (.int .u64 lf) = w9 := ⟨_, rfl⟩
   have HR1 : Hid (Rl W g g' p ⟨x0, x1, x2, x3, x4, x5, x6, x7⟩ rb (mk0 0 lf) 0 (.slice none 0 0) w9) := by rw [← hw9]; exact HR0.out.set rfl
   rw [hw9]
   clear hw9 HR0 c21 f21 rl
   have c18 : w9.cell? ⟨rb, 18, none⟩ = some (.int .i64 0) := (HR1.out.cell 18).trans rfl
   have f18 := block_free HR1.out.blk 18
   have rl := block_lt HR1.out.blk
   have pa := HPA.out w9 HR1.out.pr
   have pl := block_lt HR1.out.pr
   rw [HPB.out] at pa pl
   go_upto_region 12 with fail
   obtain ⟨wa, hwa⟩ : ∃ wa, w9.setCell ⟨rb, 18, none⟩ (.int .i64 a) = wa := ⟨_, rfl⟩
   have HR2 : Hid (∃ vQ, Rl W g g' p ⟨x0, x1, x2, x3, x4, x5, x6, x7⟩ rb (mk0 a lf) 0 vQ wa) := ⟨_, by rw [← hwa]; exact HR1.out.set rfl⟩
   rw [hwa]
   clear hwa HR1 c18 f18 rl pa pl HPA hm6
   obtain ⟨i0, hi, hz0, hz1, hz2⟩ := info_parts Tryd.infoCV
   obtain ⟨ns, hns⟩ : ∃ ns, p.ns = ns := ⟨_, rfl⟩
   rw [hns] at hn128
   have HNS := hide hns
   clear hns
   go_loopw [12] (fun i wr => ∃ j : Nat, j ≤ ns ∧ i = .int .i64 (j : Nat) ∧ Hid (∃ vQ, Rl W g g' p ⟨x0, x1, x2, x3, x4, x5, x6, x7⟩ rb (mk0 a lf) j vQ wr)) (fun i _ => ns - (intOf i).toNat)
   case atStart => exact ⟨0, by omega, rfl, HR2⟩
   case round =>
    obtain ⟨j, hj, rfl, HJ⟩ := hrel
    clear HR2
    obtain ⟨vQ, hrl⟩ := HJ.out
    have y1 := block_cell hrl.pr 1
    have yl := block_lt hrl.pr
    simp [Pg.cs] at y1
    rw [HPB.out] at y1 yl
    rw [HNS.out] at y1
    obtain ⟨aq, cq, rfl⟩ := own_val2 hrl.sl
    have HRL := hide hrl
    clear HJ
    by_cases hlt : j < ns
    ·obtain ⟨hia, hib⟩ := hrl.ok.hs (by rw [HNS.out]; omega)
     obtain ⟨kk, hkk⟩ : ∃ kk, p.S j = kk := ⟨_, rfl⟩
     have HS0 : Hid (∀ w' : World, g.Ok p W.heap.size w' → w'.heap[W.heap.size]? = some (.cells (g.cs p).toArray 27 (0, 0)) → W.heap.size < w'.heap.size → w'.heap[rb]? = some (.cells (rcs g' p ⟨x0, x1, x2, x3, x4, x5, x6, x7⟩ (.slice none 0 0) (.slice aq j cq) (mk0 a lf)).toArray 67 (0, 0)) → (fun (w : World) => (w.cell? ⟨rb, 20, none⟩ = some (.slice aq j cq) ∧ rb < w.heap.size) ∧ (w.cell? ⟨pb, 1, none⟩ = some (.slice (some ⟨g.sb, g.so, none⟩) ns g.sc) ∧ pb < w.heap.size) ∧ w.cell? ⟨g.sb, g.so + j, none⟩ = some (.int .i64 kk) ∧ g.sb < w.heap.size) w') := fun w' hok hp hlw hbk => by
      rw [← HPB.out, ← HNS.out]
      refine ⟨⟨(block_cell hbk 20).trans rfl, block_lt hbk⟩, ⟨?_, block_lt hp⟩, ?_, by have := hib; omega⟩
      ·rw [← hia]; exact (block_cell hp 1).trans rfl
      ·rw [← hkk]; exact hok.vs j (by rw [HNS.out]; exact hlt)
     have HS1 : Hid (∀ w' : World, Below wr.heap.size wr w' → (fun (w : World) => (w.cell? ⟨rb, 20, none⟩ = some (.slice aq j cq) ∧ rb < w.heap.size) ∧ (w.cell? ⟨pb, 1, none⟩ = some (.slice (some ⟨g.sb, g.so, none⟩) ns g.sc) ∧ pb < w.heap.size) ∧ w.cell? ⟨g.sb, g.so + j, none⟩ = some (.int .i64 kk) ∧ g.sb < w.heap.size) w') := fun w' hb => by
      have q := HRL.out.next hb
      exact HS0.out w' q.ok q.pr (block_lt q.pr) q.blk
     have HOW : Hid (∀ w' : World, Below wr.heap.size wr w' → w'.ownsRow (rb + 1) 56 2 (.slice aq j cq) j (vals2 p.S (fun _ => 0) j)) := fun w' hb => own_keep HRL.out.sl hb
     have HSZ : Hid (∀ w' : World, Below wr.heap.size wr w' → rb + 1 ≤ w'.heap.size) := fun w' hb => Nat.le_trans (block_lt HRL.out.blk) hb.size
     have HAP : Hid (∀ (w1 w2 : World) (v' : Value), Below wr.heap.size wr w1 → w2.ownsRow (rb + 1) 56 2 v' (j + 1) (vals2 p.S (fun _ => 0) j ++ [.int .i64 kk, .int .u64 0]) → w1.grownBy w2 (Value.slice aq j cq).ownBlock → Rl W g g' p ⟨x0, x1, x2, x3, x4, x5, x6, x7⟩ rb (mk0 a lf) (j + 1) v' (w2.setCell ⟨rb, 20, none⟩ v') ∧ (fun (w : World) => (w.cell? ⟨rb, 20, none⟩ = some (.slice aq j cq) ∧ rb < w.heap.size) ∧ (w.cell? ⟨pb, 1, none⟩ = some (.slice (some ⟨g.sb, g.so, none⟩) ns g.sc) ∧ pb < w.heap.size) ∧ w.cell? ⟨g.sb, g.so + j, none⟩ = some (.int .i64 kk) ∧ g.sb < w.heap.size) w2 ∧ w2.frozen? ⟨rb, 20, none⟩ = false) := fun w1 w2 v' hb ho hg => by
      rw [← hkk] at ho
      obtain ⟨q1, q2, q3, q4⟩ := HRL.out.app hb ho hg
      exact ⟨q1, HS0.out w2 q3 q4 (block_lt q4) q2, block_free q2 20⟩
     rw [hia] at y1
     have hrl' := block_lt hrl.blk
     obtain ⟨sb, hsb⟩ : ∃ sb, g.sb = sb := ⟨_, rfl⟩
     obtain ⟨so, hso⟩ : ∃ so, g.so = so := ⟨_, rfl⟩
     obtain ⟨sc, hsc⟩ : ∃ sc, g.sc = sc := ⟨_, rfl⟩
     rw [hsb, hso, hsc] at HS1 HAP y1
     clear hia hib hkk hrl hrl' hsb hso hsc HS0 HRL
     go_upto_region 14 with fail
     clear y1 yl
     obtain ⟨wz, hwz⟩ : ∃ wz, (wr).drew = wz := ⟨_, rfl⟩
     have HS9 : Hid ((fun (w : World) => (w.cell? ⟨rb, 20, none⟩ = some (.slice aq j cq) ∧ rb < w.heap.size) ∧ (w.cell? ⟨pb, 1, none⟩ = some (.slice (some ⟨sb, so, none⟩) ns sc) ∧ pb < w.heap.size) ∧ w.cell? ⟨sb, so + j, none⟩ = some (.int .i64 kk) ∧ sb < w.heap.size) wz) := by rw [← hwz]; exact HS1.out _ (Below.refl _ _).drew
     refine wp_region_L 17 (fun (w : World) => (w.cell? ⟨rb, 20, none⟩ = some (.slice aq j cq) ∧ rb < w.heap.size) ∧ (w.cell? ⟨pb, 1, none⟩ = some (.slice (some ⟨sb, so, none⟩) ns sc) ∧ pb < w.heap.size) ∧ w.cell? ⟨sb, so + j, none⟩ = some (.int .i64 kk) ∧ sb < w.heap.size) (fun _ => True) (by kernel_rfl) (by rw [hwz]; exact HS9.out) trivial (fun hS0 => ?_)
     rw [hwz] at hS0 ⊢
     refine wpAnyL_take (i := 0) (oi := ⟨some 52, .move (.tmp 11), 62, "run.go:48", #[], none⟩) (v := .pointer (some ⟨rb, 0, none⟩)) rfl (by decide) (by kernel_rfl) (by kernel_rfl) (by kernel_rfl) (fun _ _ _ h => h) (Or.inl ⟨by rfl, fun w2 hSw => ?_⟩) hS0 (fun hS1 => ?_)
     ·go_simp
     simp only [Act.put, lsA, lsB, lsC]
     clear hS0
     refine wpAnyL_take (i := 1) (oi := ⟨some 53, .move (.tmp 11), 62, "run.go:48", #[], none⟩) (v := .pointer (some ⟨rb, 0, none⟩)) rfl (by decide) (by kernel_rfl) (by kernel_rfl) (by kernel_rfl) (fun _ _ _ h => h) (Or.inl ⟨by rfl, fun w2 hSw => ?_⟩) hS1 (fun hS2 => ?_)
     ·go_simp
     simp only [Act.put, lsA, lsB, lsC]
     clear hS1
     refine wpAnyL_take (i := 2) (oi := ⟨some 54, .nilCheck (.tmp 53), 0, "run.go:48", #[⟨1, .data⟩], none⟩) (v := .pointer (some ⟨rb, 0, none⟩)) rfl (by decide) (by kernel_rfl) (by kernel_rfl) (by kernel_rfl) (fun _ _ _ h => h) (Or.inl ⟨by rfl, fun w2 hSw => ?_⟩) hS2 (fun hS3 => ?_)
     ·go_simp
     simp only [Act.put, lsA, lsB, lsC]
     clear hS2
     refine wpAnyL_take (i := 3) (oi := ⟨some 55, .fieldAddr 67 (.tmp 54) 3, 0, "run.go:48", #[⟨2, .data⟩], none⟩) (v := .pointer (some ⟨rb, 18, none⟩)) rfl (by decide) (by kernel_rfl) (by kernel_rfl) (by kernel_rfl) (fun _ _ _ h => h) (Or.inl ⟨by rfl, fun w2 hSw => ?_⟩) hS3 (fun hS4 => ?_)
     ·go_simp
     simp only [Act.put, lsA, lsB, lsC]
     clear hS3
     refine wpAnyL_take (i := 4) (oi := ⟨some 56, .fieldAddr 65 (.tmp 55) 2, 0, "run.go:48", #[⟨3, .data⟩], none⟩) (v := .pointer (some ⟨rb, 20, none⟩)) rfl (by decide) (by kernel_rfl) (by kernel_rfl) (by kernel_rfl) (fun _ _ _ h => h) (Or.inl ⟨by rfl, fun w2 hSw => ?_⟩) hS4 (fun hS5 => ?_)
     ·go_simp
     simp only [Act.put, lsA, lsB, lsC]
     clear hS4
     refine wpAnyL_takeP [13, 17] (i := 5) (oi := ⟨some 57, .load 63 (.tmp 56), 63, "run.go:48", #[⟨4, .data⟩], none⟩) (v := .slice aq j cq) rfl (by decide) (by kernel_rfl) (by kernel_rfl) (by kernel_rfl) (by kernel_rfl) (by kernel_rfl) (fun _ _ _ h => h) (Or.inl ⟨by rfl, fun w2 hSw => ?_⟩) hS5 (fun hS6 => ?_)
     ·obtain ⟨⟨k0, kl⟩, ⟨k1, kp⟩, k2, ks⟩ := hSw
      go_simp
     simp only [Act.put, lsA, lsB, lsC]
     clear hS5
     refine wpAnyL_take (i := 6) (oi := ⟨some 58, .fieldAddr 27 (.tmp 4) 1, 0, "run.go:48", #[], none⟩) (v := .pointer (some ⟨pb, 1, none⟩)) rfl (by decide) (by kernel_rfl) (by kernel_rfl) (by kernel_rfl) (fun _ _ _ h => h) (Or.inl ⟨by rfl, fun w2 hSw => ?_⟩) hS6 (fun hS7 => ?_)
     ·go_simp
     simp only [Act.put, lsA, lsB, lsC]
     clear hS6
     refine wpAnyL_takeP [9, 10, 11, 12, 13, 17] (i := 7) (oi := ⟨some 59, .load 23 (.tmp 58), 23, "run.go:48", #[⟨6, .data⟩], none⟩) (v := .slice (some ⟨sb, so, none⟩) ns sc) rfl (by decide) (by kernel_rfl) (by kernel_rfl) (by kernel_rfl) (by kernel_rfl) (by kernel_rfl) (fun _ _ _ h => h) (Or.inl ⟨by rfl, fun w2 hSw => ?_⟩) hS7 (fun hS8 => ?_)
     ·obtain ⟨⟨k0, kl⟩, ⟨k1, kp⟩, k2, ks⟩ := hSw
      go_simp
     simp only [Act.put, lsA, lsB, lsC]
     clear hS7
     refine wpAnyL_take (i := 8) (oi := ⟨some 60, .move (.tmp 12), 3, "run.go:48", #[], none⟩) (v := .int .i64 (j : Nat)) rfl (by decide) (by kernel_rfl) (by kernel_rfl) (by kernel_rfl) (fun _ _ _ h => h) (Or.inl ⟨by rfl, fun w2 hSw => ?_⟩) hS8 (fun hS9 => ?_)
     ·go_simp
     simp only [Act.put, lsA, lsB, lsC]
     clear hS8
     refine wpAnyL_take (i := 9) (oi := ⟨some 61, .indexAddr 23 (.tmp 59) (.tmp 60), 0, "run.go:48", #[⟨7, .data⟩, ⟨8, .data⟩], none⟩) (v := .pointer (some ⟨sb, so + j, none⟩)) rfl (by decide) (by kernel_rfl) (by kernel_rfl) (by kernel_rfl) (fun _ _ _ h => h) (Or.inl ⟨by rfl, fun w2 hSw => ?_⟩) hS9 (fun hS10 => ?_)
     ·go_simp
      all_goals (intro hx; omega)
     simp only [Act.put, lsA, lsB, lsC]
     clear hS9
     refine wpAnyL_takeP [11, 12, 13, 17] (i := 10) (oi := ⟨some 62, .load 3 (.tmp 61), 3, "run.go:48", #[⟨9, .data⟩], none⟩) (v := .int .i64 kk) rfl (by decide) (by kernel_rfl) (by kernel_rfl) (by kernel_rfl) (by kernel_rfl) (by kernel_rfl) (fun _ _ _ h => h) (Or.inl ⟨by rfl, fun w2 hSw => ?_⟩) hS10 (fun hS11 => ?_)
     ·obtain ⟨⟨k0, kl⟩, ⟨k1, kp⟩, k2, ks⟩ := hSw
      go_simp
     simp only [Act.put, lsA, lsB, lsC]
     clear hS10
     refine wpAnyL_take (i := 11) (oi := ⟨some 63, .build 56 #[(0, .tmp 62)], 56, "run.go:48", #[⟨10, .data⟩], none⟩) (v := .agg #[.int .i64 kk, .int .u64 0]) rfl (by decide) (by kernel_rfl) (by kernel_rfl) (by kernel_rfl) (fun _ _ _ h => h) (Or.inl ⟨by rfl, fun w2 hSw => ?_⟩) hS11 (fun hS12 => ?_)
     ·go_simp
     simp only [Act.put, lsA, lsB, lsC]
     clear hS11
     have B0 : Hid (Below wr.heap.size wr wz) := by rw [← hwz]; exact (Below.refl _ _).drew
     refine wpAnyL_one (i := 12) (o := ⟨some 64, .buildSlice 63 1 #[(0, .tmp 63)], 63, "run.go:48", #[⟨11, .data⟩], none⟩) (by kernel_rfl) rfl (fun K hK => ?_)
     go_simp
     go_wp2_with fail
     refine hK.out _ _ ⟨fun _ => HS1.out _ (B0.out.trans ((below_alloc1 wz _).mono B0.out.size)), trivial⟩ ?_
     clear hK K
     obtain ⟨vA, wA, hrun, hoA, hgA, _⟩ := run_append_own (P := Tryd.prog) (wz.alloc (.cells #[.int .i64 kk, .int .u64 0] 56)) (rb + 1) 63 63 56 i0 (.agg #[.int .i64 0, .int .u64 0]) 2 16 Tryd.underlying63 hi hz0 hz1 hz2 rfl (by decide) (.slice aq j cq) j _ (HOW.out _ (B0.out.trans ((below_alloc1 wz _).mono B0.out.size))) ⟨wz.heap.size, 0, none⟩ 1 1 [.int .i64 kk, .int .u64 0] rfl (cell_two_new _ _ _ _) (by simp [Value.oneCell']) (by unfold maxLen; omega) (by omega) (HSZ.out _ (B0.out.trans ((below_alloc1 wz _).mono B0.out.size)))
     have hst := HAP.out _ _ _ (B0.out.trans ((below_alloc1 wz _).mono B0.out.size)) hoA hgA
     obtain ⟨aoA, capA, hvA⟩ := own_val2 hoA
     have z0 := hst.2.1.1.1
     have zl := hst.2.1.1.2
     have zf := hst.2.2
     have HST := hide hst
     clear hst hoA hgA
     refine wpAnyL_one (i := 13) (o := ⟨some 65, .call { callee := Callee.builtin .append, args := #[.tmp 57, .tmp 64], argTypes := #[63, 63] }, 63, "run.go:48", #[⟨5, .data⟩, ⟨12, .data⟩], none⟩) (by kernel_rfl) rfl (fun K hK => ?_)
     rw [if_pos (by kernel_rfl)]
     refine wp_append1 (.tmp 57) (.tmp 64) 63 rfl (v := .slice aq j cq) (v' := vA) (w' := wA) rfl rfl hrun ?_
     simp only [Act.put, List.setIfInBounds_toArray]
     refine hK.out _ _ ⟨fun _ => HST.out.2.1, trivial⟩ ?_
     clear hK K
     refine wpAnyL_one (i := 14) (o := ⟨some 66, .nilCheck (.tmp 52), 0, "run.go:48", #[⟨0, .data⟩, ⟨0, .phase⟩, ⟨1, .phase⟩, ⟨2, .phase⟩, ⟨3, .phase⟩, ⟨4, .phase⟩, ⟨5, .phase⟩, ⟨6, .phase⟩, ⟨7, .phase⟩, ⟨8, .phase⟩, ⟨9, .phase⟩, ⟨10, .phase⟩, ⟨11, .phase⟩, ⟨12, .phase⟩, ⟨13, .phase⟩], none⟩) (by kernel_rfl) rfl (fun K hK => ?_)
     go_simp
     go_wp2_with fail
     refine hK.out _ _ ⟨fun _ => HST.out.2.1, trivial⟩ ?_
     clear hK K
     refine wpAnyL_one (i := 15) (o := ⟨some 67, .fieldAddr 67 (.tmp 66) 3, 0, "run.go:48", #[⟨14, .data⟩, ⟨0, .phase⟩, ⟨1, .phase⟩, ⟨2, .phase⟩, ⟨3, .phase⟩, ⟨4, .phase⟩, ⟨5, .phase⟩, ⟨6, .phase⟩, ⟨7, .phase⟩, ⟨8, .phase⟩, ⟨9, .phase⟩, ⟨10, .phase⟩, ⟨11, .phase⟩, ⟨12, .phase⟩, ⟨13, .phase⟩], none⟩) (by kernel_rfl) rfl (fun K hK => ?_)
     go_simp
     go_wp2_with fail
     refine hK.out _ _ ⟨fun _ => HST.out.2.1, trivial⟩ ?_
     clear hK K
     refine wpAnyL_one (i := 16) (o := ⟨some 68, .fieldAddr 65 (.tmp 67) 2, 0, "run.go:48", #[⟨15, .data⟩, ⟨0, .phase⟩, ⟨1, .phase⟩, ⟨2, .phase⟩, ⟨3, .phase⟩, ⟨4, .phase⟩, ⟨5, .phase⟩, ⟨6, .phase⟩, ⟨7, .phase⟩, ⟨8, .phase⟩, ⟨9, .phase⟩, ⟨10, .phase⟩, ⟨11, .phase⟩, ⟨12, .phase⟩, ⟨13, .phase⟩], none⟩) (by kernel_rfl) rfl (fun K hK => ?_)
     go_simp
     go_wp2_with fail
     refine hK.out _ _ ⟨fun _ => HST.out.2.1, trivial⟩ ?_
     clear hK K
     subst hvA
     clear hrun
     refine wpAnyL_one (i := 17) (o := ⟨none, .store 63 (.tmp 68) (.tmp 65), 0, "run.go:48", #[⟨16, .data⟩, ⟨13, .data⟩, ⟨13, .chain⟩, ⟨0, .phase⟩, ⟨1, .phase⟩, ⟨2, .phase⟩, ⟨3, .phase⟩, ⟨4, .phase⟩, ⟨5, .phase⟩, ⟨6, .phase⟩, ⟨7, .phase⟩, ⟨8, .phase⟩, ⟨9, .phase⟩, ⟨10, .phase⟩, ⟨11, .phase⟩, ⟨12, .phase⟩, ⟨13, .phase⟩], none⟩) (by kernel_rfl) rfl (fun K hK => ?_)
     go_simp
     go_wp2_with fail
     refine hK.out _ _ ⟨fun h => (by cases (show true = false from h)), trivial⟩ ?_
     clear hK K
     refine wpAnyL_done (by kernel_rfl) ?_ _
     clear HS9

     have HN2 : Hid (∃ vQ, Rl W g g' p ⟨x0, x1, x2, x3, x4, x5, x6, x7⟩ rb (mk0 a lf) (j + 1) vQ (wA.setCell ⟨rb, 20, none⟩ (.slice aoA (j + 1) capA))) := ⟨_, HST.out.1⟩
     clear HST z0 zl zf
     go_wp2
     go_roundw
     case rel => exact ⟨j + 1, by omega, by go_num, HN2⟩
     case measure => simp [intOf]; omega
    ·obtain rfl : j = ns := by omega
     have c18 : wr.cell? ⟨rb, 18, none⟩ = some (.int .i64 a) := (hrl.cell 18).trans rfl
     have rl := block_lt hrl.blk
     obtain ⟨c, hrx, hcp, hce, hcr, hvq⟩ : ∃ c, Rx c (.slice none 0 0) (mk0 a lf) wr ∧ c.p = p ∧ c.e = ⟨x0, x1, x2, x3, x4, x5, x6, x7⟩ ∧ c.rb = rb ∧ ∃ qa qc, c.vQ = .slice qa p.ns qc := by
      rw [← HNS.out] at hrl
      exact hrl.done rfl rfl
     have HOV : Hid (Calls Tryd.prog 39 #[.pointer (some ⟨rb, 0, none⟩), .int .i64 8] wr fun e w' => e = .returned (.tuple #[]) ∧ Hid (Rx c (.slice none 0 0) ((mk0 a lf).stop 8) w' ∧ Bk c.rb wr w')) := by
      show Calls _ _ _ _ _
      rw [← hcr]
      exact overR hrx 8
     have HFN : Hid (∀ w' : World, Below rb wr w' → w'.heap[W.heap.size + 1 + 1]? = some (.cells #[.slice none 0 0, .int .i64 0] 30 (0, 0)) ∧ Below W.heap.size W w' ∧ W.heap.size ≤ rb) := fun w' hb => by
      have hl := hrl.lo
      exact ⟨(hb.block _ hl).trans hrl.fx, hrl.bel.trans (hb.mono (by omega)), by omega⟩
     have HRX := hide hrx
     have HCC := hide (And.intro hcp (And.intro hce hcr))
     have HVQ := hide hvq
     clear hrl HRL hrx hcp hce hcr hvq
     by_cases hneg : a < 0
     ·have e9 : decide (a < 0) = true := decide_eq_true hneg
      have hld := HLD.out
      rw [if_pos hneg] at hld
      have HLE : Hid (ldS p (m : Nat) fuel = (mk0 a lf).stop 8) := hld
      clear hld HLD
      go_wp2_with fail
      refine HOV.out.mono ?_
      rintro x wb ⟨rfl, Gb⟩
      have hbb : Below rb wr wb := by rw [← HCC.out.2.2]; exact Gb.out.2.b
      obtain ⟨X, hbw, hlw⟩ := HFN.out wb hbb
      have HE : Hid (∃ c vS, Rx c vS (ldS p (m : Nat) fuel) wb ∧ c.p = p ∧ c.e = ⟨x0, x1, x2, x3, x4, x5, x6, x7⟩ ∧ c.rb = rb ∧ W.heap.size ≤ c.rb ∧ Below W.heap.size W wb ∧ ∃ qa qc, c.vQ = .slice qa p.ns qc) := ⟨c, _, by rw [HLE.out]; exact Gb.out.1, HCC.out.1, HCC.out.2.1, HCC.out.2.2, by rw [HCC.out.2.2]; exact hlw, hbw, HVQ.out⟩
      clear hbb hbw hlw Gb HOV HFN HRX HCC
      rw [HEB.out] at X
      have e1 : wb.setCell ⟨eb + 1, 0, none⟩ (.slice none 0 0) = wb := set_same X rfl
      have e2 : wb.setCell ⟨eb + 1, 1, none⟩ (.int .i64 0) = wb := set_same X rfl
      have E1 := hide e1
      have E2 := hide e2
      have s0 := block_cell X 0
      have s1 := block_cell X 1
      have sf0 := block_free X 0
      have sf1 := block_free X 1
      have sl := block_lt X
      simp at s0 s1
      clear X e1 e2
      go_wp2
      rw [E1.out, E2.out]
      refine bodyPost_ret (v := .tuple #[.pointer (some ⟨rb, 0, none⟩), .agg #[.slice none 0 0, .int .i64 0]]) (by simp [results, Tryd.results15, go_sem, s0, s1]) rfl ?_
      exact ⟨fun q => (by rw [HPL.out] at q; cases q), fun _ => ⟨rb, rfl, HE⟩⟩

     ·have e9 : decide (a < 0) = false := decide_eq_false hneg
      have hld := HLD.out
      rw [if_neg hneg] at hld
      have HLE : Hid (ldS p (m : Nat) fuel = mk0 a lf) := hld
      clear hld HLD
      obtain ⟨X, hbw, hlw⟩ := HFN.out wr (Below.refl _ _)
      have HE : Hid (∃ c vS, Rx c vS (ldS p (m : Nat) fuel) wr ∧ c.p = p ∧ c.e = ⟨x0, x1, x2, x3, x4, x5, x6, x7⟩ ∧ c.rb = rb ∧ W.heap.size ≤ c.rb ∧ Below W.heap.size W wr ∧ ∃ qa qc, c.vQ = .slice qa p.ns qc) := ⟨c, _, by rw [HLE.out]; exact HRX.out, HCC.out.1, HCC.out.2.1, HCC.out.2.2, by rw [HCC.out.2.2]; exact hlw, hbw, HVQ.out⟩
      clear hbw hlw HOV HFN HRX HCC
      rw [HEB.out] at X
      have e1 : wr.setCell ⟨eb + 1, 0, none⟩ (.slice none 0 0) = wr := set_same X rfl
      have e2 : wr.setCell ⟨eb + 1, 1, none⟩ (.int .i64 0) = wr := set_same X rfl
      have E1 := hide e1
      have E2 := hide e2
      have s0 := block_cell X 0
      have s1 := block_cell X 1
      have sf0 := block_free X 0
      have sf1 := block_free X 1
      have sl := block_lt X
      simp at s0 s1
      clear X e1 e2
      go_wp2
      rw [E1.out, E2.out]
      refine bodyPost_ret (v := .tuple #[.pointer (some ⟨rb, 0, none⟩), .agg #[.slice none 0 0, .int .i64 0]]) (by simp [results, Tryd.results15, go_sem, s0, s1]) rfl ?_
      exact ⟨fun q => (by rw [HPL.out] at q; cases q), fun _ => ⟨rb, rfl, HE⟩⟩

end Go.Proofs.YtmoklddfaocihaaDoor
