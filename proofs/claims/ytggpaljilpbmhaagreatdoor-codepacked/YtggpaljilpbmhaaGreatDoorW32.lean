import Derived.Test.YtggpaljilpbmhaaGreatDoorW26
import Derived.RangeFuncNested
import Derived.RangeFuncBound
import Derived.RangeFuncCalls
import Derived.RangeFuncLeaves
import Derived.Shelf.Abstract
import Derived.Shelf.RegionOpen
import Derived.WalkKit
import Derived.OwnWalkIn
import Derived.TacticsInMore
import Derived.LoopNIn
import Derived.LoopIn
import Derived.BigRegionIn
import Derived.Test.YtggpaljilpbmhaaGreatDoorW29
namespace Go.Proofs.YtggpaljilpbmhaaGreatDoor
open Go.RowKit Go.Shelf
attribute [local go_sem] Oper.semAt_some

/-- The tree of the probe in its box. -/
structure Tx (B kb : Nat) (v : Gv) (ev kk : Int) (w : World) : Prop where
 blk : w.heap[kb]? = some (.cells #[.slice v.aN 4 v.cN, .slice v.aE 4 v.cE, .slice v.aA 4 v.cA] 191 (0, 0))
 t : Tw B v ev kk w
theorem Tx.next {B kb : Nat} {v : Gv} {ev kk : Int} {w w' : World} (h : Tx B kb v ev kk w) (hb : Below w.heap.size w w') : Tx B kb v ev kk w' := ⟨(hb.block _ (block_lt h.blk)).trans h.blk, h.t.next hb⟩
/-- What a round keeps: all cells but those of one block. -/
def KpR (rb : Nat) (W W' : World) : Prop := ∀ (a : Addr) v, a.block ≠ rb → W.cell? a = some v → W'.cell? a = some v
theorem kpR_t {rb : Nat} {A B C : World} (h : KpR rb A B) (k : KpR rb B C) : KpR rb A C := fun a v n hv => k a v n (h a v n hv)
theorem kpR_b {rb : Nat} {w : World} (W : World) (l : Nat) (o o' : Obj) (_ : w.heap.size ≤ l) (h : W.heap[l]? = some o) (hc : o.isCells = false) (_ : o.isWalk = false) : KpR rb W (W.putObj l o') := fun _ _ _ hv =>
 cell_kept hv (grownBy_putObj' W l o') (fun r e => by cases e; exact ⟨o, h, hc⟩)
set_option maxRecDepth 10000 in
theorem parts_any (t : Value) (w : World) (ht : ∃ a, t = .pointer (some a)) : Calls Tryz.prog 174 #[t, .int .i64 0] w fun e w' => e = .returned (.func (.func 201) #[] #[.pointer (some ⟨w.heap.size + 1, 0, none⟩), .pointer (some ⟨w.heap.size, 0, none⟩)]) ∧ w' = (w.alloc (.cells #[t] 225)).alloc (.cells #[.int .i64 0] 3) := by
 obtain ⟨a, rfl⟩ := ht
 go_enter Tryz.func174, Tryz.ntmps174
 go_wp2
 go_ret
 exact ⟨rfl, rfl⟩
/-- What the walk through the parts reads. -/
structure Pr (b1 b2 kb be : Nat) (cE : Nat) (W : World) : Prop where
 x1 : W.cell? ⟨b1, 0, none⟩ = some (.int .i64 0)
 x2 : W.cell? ⟨b2, 0, none⟩ = some (.pointer (some ⟨kb, 0, none⟩))
 x3 : W.cell? ⟨kb, 1, none⟩ = some (.slice (some ⟨be, 0, none⟩) 4 cE)
 x4 : W.cell? ⟨be, 0, none⟩ = some (.int .i64 4)
 x5 : W.cell? ⟨be, 1, none⟩ = some (.int .i64 4)
theorem Pr.kept {b1 b2 kb be cE rb : Nat} {W W' : World} (h : Pr b1 b2 kb be cE W) (k : KpR rb W W') (n1 : b1 ≠ rb) (n2 : b2 ≠ rb) (n3 : kb ≠ rb) (n4 : be ≠ rb) : Pr b1 b2 kb be cE W' :=
 ⟨k _ _ n1 h.x1, k _ _ n2 h.x2, k _ _ n3 h.x3, k _ _ n4 h.x4, k _ _ n4 h.x5⟩
set_option maxRecDepth 100000 in
set_option maxHeartbeats 2000000 in
theorem parts1_in (n : Nat) (hn : 1 ≤ n) (l b1 b2 kb be cE rb : Nat) (n1 : b1 ≠ rb) (n2 : b2 ≠ rb) (n3 : kb ≠ rb) (n4 : be ≠ rb) (J Jx : List Unit → World → Prop) (hD : ∀ pre W, J pre W → J pre W.drew)
  (hY : ∀ pre (x : Unit) W, J pre W → pre.length < 1 → YieldAt Fence.wide (n - 1) Tryz.prog l #[.int .i64 1] W fun e W' =>
   (e = .returned (.bool true) ∧ J (pre ++ [x]) W' ∧ KpR rb W W') ∨ (e = .returned (.bool false) ∧ Jx (pre ++ [x]) W'))
  (W : World) (hP : Pr b1 b2 kb be cE W) (h0 : J [] W) :
  CallsIn Fence.wide n Tryz.prog 201 #[.func (.yield l) #[] #[], .pointer (some ⟨b1, 0, none⟩), .pointer (some ⟨b2, 0, none⟩)] W fun e W' => (∃ v, e = .returned v) ∧
   ((∃ ys, ys = [()] ∧ J ys W') ∨ (∃ pre, pre <+: [()] ∧ Jx pre W')) := by
 have x1 := hP.x1
 have HP := hide hP
 have HD := hide hD
 clear hP hD
 refine callsIn_of_wp Tryz.func201 rfl trivial ?_ rfl
 simp only [Tryz.ntmps201, List.size_toArray, List.length_cons, List.length_nil, Nat.reduceAdd, Nat.reduceSub, Array.replicate_succ, Array.replicate_zero, List.push_toArray, List.append_toArray, List.nil_append, List.cons_append]
 gi_wp2
 gi_loopw [4] (fun p wr => (p = .int .i64 1 ∧ Hid (Pr b1 b2 kb be cE wr ∧ J [] wr)) ∨ (p = .int .i64 4 ∧ Hid (Pr b1 b2 kb be cE wr ∧ J [()] wr))) (fun p _ => 4 - (intOf p).toNat)
 case atStart => exact .inl ⟨rfl, HP.out, h0⟩
 case round =>
  rcases hrel with ⟨rfl, HJ⟩ | ⟨rfl, HJ⟩
  ·have y1 := HJ.out.1.x1
   have y2 := HJ.out.1.x2
   have y3 := HJ.out.1.x3
   have y4 := HJ.out.1.x4
   have HPD : Hid (Pr b1 b2 kb be cE wr.drew) := ⟨HJ.out.1.x1, HJ.out.1.x2, HJ.out.1.x3, HJ.out.1.x4, HJ.out.1.x5⟩
   obtain ⟨fn, tmps, assign, body, hy, hR⟩ := hY [] () wr.drew (HD.out _ _ HJ.out.2) (by decide)
   gi_wp2
   gi_region
   clear y1 y2 y3 y4
   gi_wp2
   refine hR.mono ?_
   rintro e W3 (⟨rfl, hJ3, hk3⟩ | ⟨rfl, hJx3⟩)
   ·have q := HPD.out.kept hk3 n1 n2 n3 n4
    have y2 := q.x2
    have y3 := q.x3
    have y5 := q.x5
    have HN : Hid (Pr b1 b2 kb be cE W3 ∧ J [()] W3) := ⟨q, hJ3⟩
    clear q
    gi_wp2
    go_roundw
    case rel => exact .inr ⟨rfl, HN.out⟩
    case measure => simp [intOf]
   ·gi_wp2
    refine bodyPost_ret (results_none rfl _ _ _) rfl ?_
    exact ⟨⟨_, rfl⟩, .inr ⟨[()], List.prefix_refl _, hJx3⟩⟩
  ·have y1 := HJ.out.1.x1
   have y2 := HJ.out.1.x2
   have y3 := HJ.out.1.x3
   have y4 := HJ.out.1.x4
   have HN := hide (HD.out _ _ HJ.out.2)
   gi_wp2
   gi_region
   gi_wp2
   go_end0
   exact ⟨⟨_, rfl⟩, .inl ⟨_, rfl, HN.out⟩⟩
theorem parts_stops (n : Nat) (hn : 1 ≤ n) (b1 b2 kb be cE rb : Nat) (n1 : b1 ≠ rb) (n2 : b2 ≠ rb) (n3 : kb ≠ rb) (n4 : be ≠ rb) (w : World) (hP : Pr b1 b2 kb be cE w) :
  SeqStopsK Fence.wide n Tryz.prog 201 #[.pointer (some ⟨b1, 0, none⟩), .pointer (some ⟨b2, 0, none⟩)] (fun _ : Unit => #[Value.int .i64 1]) (KpR rb) (fun ys => ys = [()]) (fun pre => pre <+: [()]) 1 w := fun l J Jx W hW hA _ hY h0 => by
 have k : ∀ {a v}, w.cell? a = some v → W.cell? a = some v := fun {a v} e => (hW.cell (block_lt_of_cell e)).trans e
 exact parts1_in n hn l b1 b2 kb be cE rb n1 n2 n3 n4 J Jx (fun pre W h => hA pre W _ none h (grown_of_below (Below.refl _ _).drew none) (fun r e => by cases e)) hY W ⟨k hP.x1, k hP.x2, k hP.x3, k hP.x4, k hP.x5⟩ h0
theorem three_box2L (W : World) (o1 o2 o3 : Array Value) (t1 t2 t3 : TypeId) {W3 : World} (h : ((W.alloc (.cells o1 t1)).alloc (.cells o2 t2)).alloc (.cells o3 t3) = W3) : W3.heap[W.heap.size]? = some (.cells o1 t1 (0, 0)) ∧ W3.heap[W.heap.size + 1]? = some (.cells o2 t2 (0, 0)) ∧ W3.heap[W.heap.size + 2]? = some (.cells o3 t3 (0, 0)) ∧ Below W.heap.size W W3 := by
 obtain ⟨W2, hW2⟩ : ∃ W2, (W.alloc (.cells o1 t1)).alloc (.cells o2 t2) = W2 := ⟨_, rfl⟩
 obtain ⟨h1, h2, b⟩ := two_box2L W _ _ _ _ hW2
 have s2 : W2.heap.size = W.heap.size + 2 := by rw [← hW2]; simp
 rw [hW2] at h
 have b3 := below_alloc1 W2 (.cells o3 t3)
 have a3 := alloc_atK W2 (.cells o3 t3)
 rw [h] at b3 a3
 rw [s2] at a3
 exact ⟨(b3.block _ (by omega)).trans h1, (b3.block _ (by omega)).trans h2, a3, b.trans (b3.mono b.size)⟩
theorem box_cellL {W : World} {B : Nat} {v : Value} {t : TypeId} (h : W.heap[B]? = some (.cells #[v] t (0, 0))) : W.cell? ⟨B, 0, none⟩ = some v ∧ W.frozen? ⟨B, 0, none⟩ = false := by
 constructor <;> simp [World.cell?, World.frozen?, h]
set_option maxRecDepth 100000 in
set_option maxHeartbeats 4000000 in
theorem rule_any {B kb : Nat} {v : Gv} {ev kk : Int} {w : World} (h : Tx B kb v ev kk w) : Calls Tryz.prog 148 #[.pointer (some ⟨kb, 0, none⟩), .int .u64 ev] w fun e w' => e = .returned (.int .i64 1) ∧ Below w.heap.size w w' := by
 refine (callsIn_wide (n := 3)).1 ?_
 obtain ⟨bn, en, ln, kn, cn, _⟩ := own_at h.t.n (by decide)
 obtain ⟨be, ee, le, ke, ce, _⟩ := own_at h.t.e (by decide)
 have c0 := block_cell h.blk 0
 have c1 := block_cell h.blk 1
 have cl := block_lt h.blk
 simp at c0 c1
 rw [en] at c0
 rw [ee] at c1
 have m1 := cn 4 _ rfl
 have d0 := ce 0 _ rfl
 have d1 := ce 1 _ rfl
 obtain ⟨W3, hW3⟩ : ∃ W3, ((w.alloc (.cells #[.pointer (some ⟨kb, 0, none⟩)] 225)).alloc (.cells #[.int .u64 ev] 28)).alloc (.cells #[.int .i64 0] 3) = W3 := ⟨_, rfl⟩
 obtain ⟨A1, A2, A3, B3⟩ := three_box2L w _ _ _ _ _ _ hW3
 have s3 : W3.heap.size = w.heap.size + 3 := by rw [← hW3]; simp
 obtain ⟨W5, hW5⟩ : ∃ W5, (W3.alloc (.cells #[.pointer (some ⟨kb, 0, none⟩)] 225)).alloc (.cells #[.int .i64 0] 3) = W5 := ⟨_, rfl⟩
 obtain ⟨A4, A5, B5⟩ := two_box2L W3 _ _ _ _ hW5
 have BW : Below w.heap.size w W5 := B3.trans (B5.mono B3.size)
 have k3 : ∀ {a : Addr} {u}, w.cell? a = some u → W5.cell? a = some u := fun {a u} e => (BW.cell (block_lt_of_cell e)).trans e
 have PR : Pr (W3.heap.size + 1) W3.heap.size kb be v.cE W5 := ⟨(block_cell A5 0).trans rfl, (block_cell A4 0).trans rfl, k3 c1, k3 d0, k3 d1⟩
 have a1 := (B5.block _ (block_lt A1)).trans A1
 have a2 := (B5.block _ (block_lt A2)).trans A2
 have a3 := (B5.block _ (block_lt A3)).trans A3
 have t1 := box_cellL a1
 have t2 := box_cellL a2
 have t3 := box_cellL a3
 have y1 := box_cellL A1
 have z0 := k3 c0
 have z1 := k3 m1
 refine callsIn_of_wp_marks Tryz.func148 rfl trivial ?_ rfl
 simp only [Tryz.ntmps148, List.size_toArray, List.length_cons, List.length_nil, Nat.reduceAdd, Nat.reduceSub, Array.replicate_succ, Array.replicate_zero, List.push_toArray, List.append_toArray, List.nil_append, List.cons_append]
 gi_wp2_with (refine ⟨trivial, ?_⟩; gi_at_call 174; refine (callsIn_wide.2 (parts_any _ _ ⟨_, rfl⟩)).mono ?_; rintro e w' ⟨rfl, rfl⟩)
 have s5 : w.heap.size ≤ W5.heap.size := BW.size
 rw [s3] at PR
 have lk := cl
 have hT : W5.cell? ⟨w.heap.size + 1 + 1, 0, none⟩ = some (.int .i64 0) ∧ W5.frozen? ⟨w.heap.size + 1 + 1, 0, none⟩ = false := t3
 refine wpIn_rangeFunc_ownF rfl (by omega) (gf := 201) (lb := #[.pointer (some ⟨w.heap.size + 3 + 1, 0, none⟩), .pointer (some ⟨w.heap.size + 3, 0, none⟩)]) rfl trivial (enters_of Tryz.func201 (by kernel_rfl) rfl)
  (parts_stops (3 - 1) (by omega) (w.heap.size + 3 + 1) (w.heap.size + 3) kb be v.cE (w.heap.size + 1 + 1) (by omega) (by omega) (by omega) (by omega) W5 PR) kpR_t kpR_b (Below.refl _ _) (fun _ => rfl)
  (fun pre W => (pre = [] ∧ (W.cell? ⟨w.heap.size, 0, none⟩ = some (.pointer (some ⟨kb, 0, none⟩)) ∧ W.cell? ⟨w.heap.size + 1, 0, none⟩ = some (.int .u64 ev) ∧ W.cell? ⟨kb, 0, none⟩ = some (.slice (some ⟨bn, 0, none⟩) 4 v.cN) ∧ W.cell? ⟨bn, 4, none⟩ = some (.int .u64 ev)) ∧ W.cell? ⟨w.heap.size + 1 + 1, 0, none⟩ = some (.int .i64 0) ∧ W.frozen? ⟨w.heap.size + 1 + 1, 0, none⟩ = false) ∧ Below w.heap.size w W)
  (fun c pre W => (c = .ret ∧ pre = [()] ∧ W.cell? ⟨w.heap.size + 1 + 1, 0, none⟩ = some (.int .i64 1)) ∧ Below w.heap.size w W)
  (OwnFrom.and (Own.from (fun s A B row hs hg hr => ⟨hs.1, ⟨cell_kept hs.2.1.1 hg hr, cell_kept hs.2.1.2.1 hg hr, cell_kept hs.2.1.2.2.1 hg hr, cell_kept hs.2.1.2.2.2 hg hr⟩, cell_kept hs.2.2.1 hg hr, (frozen_kept hs.2.2.1 hg hr).trans hs.2.2.2⟩) _) (ownFrom_below (Nat.le_refl _) s5))
  (fun c => OwnFrom.and (Own.from (fun s A B row hs hg hr => ⟨hs.1, hs.2.1, cell_kept hs.2.2 hg hr⟩) _) (ownFrom_below (Nat.le_refl _) s5))
  ⟨⟨rfl, ⟨t1.1, t2.1, z0, z1⟩, hT.1, hT.2⟩, BW⟩
  (fun x => { tmps := #[.pointer (some ⟨kb, 0, none⟩), .int .u64 ev, .pointer (some ⟨w.heap.size, 0, none⟩), .pointer (some ⟨w.heap.size + 1, 0, none⟩), .pointer (some ⟨w.heap.size + 1 + 1, 0, none⟩), .int .i64 1, .pointer (some ⟨kb, 0, none⟩), .func (.func 201) #[] #[.pointer (some ⟨w.heap.size + 3 + 1, 0, none⟩), .pointer (some ⟨w.heap.size + 3, 0, none⟩)], .int .i64 1, undef, undef, undef, undef, undef, undef, undef, undef, undef, undef, undef], defers := [] }) ?assign ?body ?done ?stop
 case assign =>
  intro l x W K hK
  gi_wp2
  exact hK
 case body =>
  rintro l pre x W ⟨⟨rfl, ⟨g1, g2, g3, g4⟩, g5, g6⟩, hB⟩ hpl
  clear hW3 hW5 A1 A2 A3 A4 A5 B3 B5 k3 PR a1 a2 a3 t1 t2 t3 y1 z0 z1 hT c0 c1 m1 d0 d1 cn ce
  have HF1 : Hid (KeepsOthers W (W.setCell ⟨w.heap.size + 1 + 1, 0, none⟩ (.int .i64 1)).drew) := (KeepsOthers.setCell _ _ _).trans (KeepsOthers.drew _)
  have HF2 : Hid ((W.setCell ⟨w.heap.size + 1 + 1, 0, none⟩ (.int .i64 1)).drew.cell? ⟨w.heap.size + 1 + 1, 0, none⟩ = some (.int .i64 1)) := World.cell?_setCell_same' _ _ _ (by rw [g5]; rfl)
  have HF3 : Hid (Below w.heap.size w (W.setCell ⟨w.heap.size + 1 + 1, 0, none⟩ (.int .i64 1)).drew) := (hB.setCell (p := ⟨w.heap.size + 1 + 1, 0, none⟩) (by show w.heap.size ≤ w.heap.size + 1 + 1; omega) _).drew
  gi_wp2
  gi_region
  all_goals
   gi_wp2
   exact ⟨HF1.out, ⟨rfl, rfl, HF2.out⟩, HF3.out⟩
 case done =>
  rintro D ys W hD rfl ⟨⟨hne, _⟩, _⟩ hK
  cases hne
 case stop =>
  rintro D c pre W hD hpre ⟨⟨rfl, rfl, hc⟩, hB⟩ hK
  gi_wp2
  refine ⟨by simp, .inl ⟨_, _, rfl, run_takeDeferred hK, ?_⟩⟩
  have hc5 := cell_kept hc (grownBy_putObj' _ D (.deferred none)) (fun r e => by cases e; exact ⟨_, hK, rfl⟩)
  refine ⟨.int .i64 1, ?_, rfl, hB.trans (belowK_b (w := w) (Nat.le_refl _) W D _ _ (by omega) hK rfl rfl)⟩
  simp [results, Tryz.results148, go_sem, hc5]
end Go.Proofs.YtggpaljilpbmhaaGreatDoor
namespace Go.Proofs.YtggpaljilpbmhaaGreatDoor
open Go.RowKit

section
variable {B kb : Nat} {v : Gv} {ev kk : Int} {w : World}
set_option maxRecDepth 10000 in
set_option maxHeartbeats 3200000 in
theorem fault0 (h : Tx B kb v ev kk w) : Calls Tryz.prog 109 #[.pointer (some ⟨kb, 0, none⟩), .int .i64 0] w fun e w' => e = .returned (.int .i64 0) ∧ Hid (Below w.heap.size w w') := by
 obtain ⟨bn, en, ln, kn, cn, _⟩ := own_at h.t.n (by decide)
 have c0 := block_cell h.blk 0
 have cl := block_lt h.blk
 simp at c0
 rw [en] at c0
 have n0 := cn 0 _ rfl
 have n1 := cn 1 _ rfl
 have n2 := cn 2 _ rfl
 obtain ⟨W1, hW1⟩ : ∃ W1, w.alloc (.cells #[.int .i64 1, .int .u64 1, .string ⟨#[]⟩] 121) = W1 := ⟨_, rfl⟩
 have B1 : Below w.heap.size w W1 := by rw [← hW1]; exact below_alloc1 w _
 have A1 : W1.heap[w.heap.size]? = some (.cells #[.int .i64 1, .int .u64 1, .string ⟨#[]⟩] 121 (0, 0)) := by rw [← hW1]; exact alloc_atK w _
 have HRU := hide (rule_any (h.next B1))
 have HSH : Hid (∀ w, Calls Tryz.prog 154 #[.int .i64 1] w fun e w' => e = .returned (.agg (shA 1)) ∧ Hid (Below w.heap.size w w')) := fun w => shapeOf4 1 (by decide) w
 simp [shA] at HSH
 have hfd := field_place
 have HB1 := hide B1
 have HA1 := hide A1
 have HW1 := hide hW1
 clear h cn en hW1 B1 A1
 go_enter Tryz.func109, Tryz.ntmps109
 go_upto_region 2 with fail
 rw [HW1.out]
 clear HW1 c0 cl n0 n1 n2
 have x0 := block_cell HA1.out 0
 have xl := block_lt HA1.out
 simp at x0
 have HB2 := HB1
 clear HRU HA1 HB1
 go_wp2_with fail
 refine (HSH.out _).mono ?_
 rintro e w3 ⟨rfl, G3⟩
 have HB3 := hide (HB2.out.trans (G3.out.mono HB2.out.size))
 clear HSH HB2 G3 x0 xl
 go_wp2
 go_ret
 exact ⟨rfl, HB3⟩
set_option maxRecDepth 10000 in
set_option maxHeartbeats 3200000 in
theorem fault1 (h : Tx B kb v ev kk w) : Calls Tryz.prog 109 #[.pointer (some ⟨kb, 0, none⟩), .int .i64 1] w fun e w' => e = .returned (.int .i64 0) ∧ Hid (Below w.heap.size w w') := by
 obtain ⟨bn, en, ln, kn, cn, _⟩ := own_at h.t.n (by decide)
 have c0 := block_cell h.blk 0
 have cl := block_lt h.blk
 simp at c0
 rw [en] at c0
 have n0 := cn 3 _ rfl
 have n1 := cn 4 _ rfl
 have n2 := cn 5 _ rfl
 obtain ⟨W1, hW1⟩ : ∃ W1, w.alloc (.cells #[.int .i64 2, .int .u64 ev, .string ⟨#[]⟩] 121) = W1 := ⟨_, rfl⟩
 have B1 : Below w.heap.size w W1 := by rw [← hW1]; exact below_alloc1 w _
 have A1 : W1.heap[w.heap.size]? = some (.cells #[.int .i64 2, .int .u64 ev, .string ⟨#[]⟩] 121 (0, 0)) := by rw [← hW1]; exact alloc_atK w _
 have HRU := hide (rule_any (h.next B1))
 have HSH : Hid (∀ w, Calls Tryz.prog 154 #[.int .i64 2] w fun e w' => e = .returned (.agg (shA 2)) ∧ Hid (Below w.heap.size w w')) := fun w => shapeOf4 2 (by decide) w
 simp [shA] at HSH
 have hfd := field_place
 have HB1 := hide B1
 have HA1 := hide A1
 have HW1 := hide hW1
 clear h cn en hW1 B1 A1
 go_enter Tryz.func109, Tryz.ntmps109
 go_upto_region 2 with fail
 rw [HW1.out]
 clear HW1 c0 cl n0 n1 n2
 have x0 := block_cell HA1.out 0
 have x1 := block_cell HA1.out 1
 have xl := block_lt HA1.out
 simp at x0 x1
 go_wp2_with fail
 refine HRU.out.mono ?_
 rintro e w2 ⟨rfl, G2⟩
 have a2 := (G2.block _ (block_lt HA1.out)).trans HA1.out
 have HB2 := hide (HB1.out.trans (G2.mono HB1.out.size))
 clear HRU x0 x1 xl HA1 HB1 G2
 have x0 := block_cell a2 0
 have xl := block_lt a2
 simp at x0
 clear a2
 go_wp2_with fail
 refine (HSH.out _).mono ?_
 rintro e w3 ⟨rfl, G3⟩
 have HB3 := hide (HB2.out.trans (G3.out.mono HB2.out.size))
 clear HSH HB2 G3 x0 xl
 go_wp2
 go_ret
 exact ⟨rfl, HB3⟩
set_option maxRecDepth 10000 in
set_option maxHeartbeats 3200000 in
theorem fault2 (h : Tx B kb v ev kk w) : Calls Tryz.prog 109 #[.pointer (some ⟨kb, 0, none⟩), .int .i64 2] w fun e w' => e = .returned (.int .i64 0) ∧ Hid (Below w.heap.size w w') := by
 obtain ⟨bn, en, ln, kn, cn, _⟩ := own_at h.t.n (by decide)
 have c0 := block_cell h.blk 0
 have cl := block_lt h.blk
 simp at c0
 rw [en] at c0
 have n0 := cn 6 _ rfl
 have n1 := cn 7 _ rfl
 have n2 := cn 8 _ rfl
 obtain ⟨W1, hW1⟩ : ∃ W1, w.alloc (.cells #[.int .i64 3, .int .u64 1, .string ⟨#[]⟩] 121) = W1 := ⟨_, rfl⟩
 have B1 : Below w.heap.size w W1 := by rw [← hW1]; exact below_alloc1 w _
 have A1 : W1.heap[w.heap.size]? = some (.cells #[.int .i64 3, .int .u64 1, .string ⟨#[]⟩] 121 (0, 0)) := by rw [← hW1]; exact alloc_atK w _
 have HRU := hide (rule_any (h.next B1))
 have HSH : Hid (∀ w, Calls Tryz.prog 154 #[.int .i64 3] w fun e w' => e = .returned (.agg (shA 3)) ∧ Hid (Below w.heap.size w w')) := fun w => shapeOf4 3 (by decide) w
 simp [shA] at HSH
 have hfd := field_place
 have HB1 := hide B1
 have HA1 := hide A1
 have HW1 := hide hW1
 clear h cn en hW1 B1 A1
 go_enter Tryz.func109, Tryz.ntmps109
 go_upto_region 2 with fail
 rw [HW1.out]
 clear HW1 c0 cl n0 n1 n2
 have x0 := block_cell HA1.out 0
 have xl := block_lt HA1.out
 simp at x0
 have HB2 := HB1
 clear HRU HA1 HB1
 go_wp2_with fail
 refine (HSH.out _).mono ?_
 rintro e w3 ⟨rfl, G3⟩
 have HB3 := hide (HB2.out.trans (G3.out.mono HB2.out.size))
 clear HSH HB2 G3 x0 xl
 go_wp2
 go_ret
 exact ⟨rfl, HB3⟩
set_option maxRecDepth 10000 in
set_option maxHeartbeats 3200000 in
theorem fault3 (h : Tx B kb v ev kk w) : Calls Tryz.prog 109 #[.pointer (some ⟨kb, 0, none⟩), .int .i64 3] w fun e w' => e = .returned (.int .i64 0) ∧ Hid (Below w.heap.size w w') := by
 obtain ⟨bn, en, ln, kn, cn, _⟩ := own_at h.t.n (by decide)
 have c0 := block_cell h.blk 0
 have cl := block_lt h.blk
 simp at c0
 rw [en] at c0
 have n0 := cn 9 _ rfl
 have n1 := cn 10 _ rfl
 have n2 := cn 11 _ rfl
 obtain ⟨W1, hW1⟩ : ∃ W1, w.alloc (.cells #[.int .i64 12, .int .u64 kk, .string ⟨#[]⟩] 121) = W1 := ⟨_, rfl⟩
 have B1 : Below w.heap.size w W1 := by rw [← hW1]; exact below_alloc1 w _
 have A1 : W1.heap[w.heap.size]? = some (.cells #[.int .i64 12, .int .u64 kk, .string ⟨#[]⟩] 121 (0, 0)) := by rw [← hW1]; exact alloc_atK w _
 have HRU := hide (rule_any (h.next B1))
 have HSH : Hid (∀ w, Calls Tryz.prog 154 #[.int .i64 12] w fun e w' => e = .returned (.agg (shA 12)) ∧ Hid (Below w.heap.size w w')) := fun w => shapeOf4 12 (by decide) w
 simp [shA] at HSH
 have hfd := field_place
 have HB1 := hide B1
 have HA1 := hide A1
 have HW1 := hide hW1
 clear h cn en hW1 B1 A1
 go_enter Tryz.func109, Tryz.ntmps109
 go_upto_region 2 with fail
 rw [HW1.out]
 clear HW1 c0 cl n0 n1 n2
 have x0 := block_cell HA1.out 0
 have xl := block_lt HA1.out
 simp at x0
 have HB2 := HB1
 clear HRU HA1 HB1
 go_wp2_with fail
 refine (HSH.out _).mono ?_
 rintro e w3 ⟨rfl, G3⟩
 have HB3 := hide (HB2.out.trans (G3.out.mono HB2.out.size))
 clear HSH HB2 G3 x0 xl
 go_wp2
 go_ret
 exact ⟨rfl, HB3⟩
end
set_option maxRecDepth 10000 in
set_option maxHeartbeats 3200000 in
theorem checkC {tb : Nat} {ev kk : Int} {W : World} (h : Pn tb ev kk W) (h0 : 0 ≤ ev) (h1 : ev ≤ 5) (h2 : 1 ≤ kk) (h3 : kk ≤ 999) : Calls Tryz.prog 51 #[.slice (some ⟨tb, 0, none⟩) 4 4] W fun e w' => e = .returned .nilIface ∧ Hid (Below W.heap.size W w') := by
 have HTR := hide (treeOfC h h0 h1 h2 h3)
 clear h h0 h1 h2 h3
 go_enter Tryz.func51, Tryz.ntmps51
 go_wp2_with fail
 refine HTR.out.mono ?_
 rintro e w1 ⟨v, rfl, G1⟩
 clear HTR
 obtain ⟨W2, hW2⟩ : ∃ W2, w1.alloc (.cells #[.slice v.aN 4 v.cN, .slice v.aE 4 v.cE, .slice v.aA 4 v.cA] 191) = W2 := ⟨_, rfl⟩
 have B2 : Below w1.heap.size w1 W2 := by rw [← hW2]; exact below_alloc1 _ _
 have A2 : W2.heap[w1.heap.size]? = some (.cells #[.slice v.aN 4 v.cN, .slice v.aE 4 v.cE, .slice v.aA 4 v.cA] 191 (0, 0)) := by rw [← hW2]; exact alloc_atK _ _
 have HJ0 : Hid (Tx W.heap.size w1.heap.size v ev kk W2 ∧ Below W.heap.size W W2) := ⟨⟨A2, G1.out.1.next B2⟩, G1.out.2.trans (B2.mono G1.out.2.size)⟩
 have c0 := block_cell A2 0
 have cl := block_lt A2
 simp at c0
 have HW2 := hide hW2
 clear hW2 B2 A2 G1
 go_upto_region 2 with fail
 rw [HW2.out]
 clear HW2
 generalize w1.heap.size = kb at *
 go_upto_block 0 with fail
 clear c0 cl
 go_cut [18] from 19 (fun _ V => Hid (Below W.heap.size W V))
 case first =>
  go_wp2
  go_loopw [18] (fun i wr => ∃ j : Nat, j ≤ 4 ∧ i = .int .i64 (j : Nat) ∧ Hid (Tx W.heap.size kb v ev kk wr ∧ Below W.heap.size W wr)) (fun i _ => 4 - (intOf i).toNat)
  case atStart => exact ⟨0, by omega, rfl, HJ0.out⟩
  case round =>
   obtain ⟨j, hj, rfl, HJ⟩ := hrel
   clear HJ0
   by_cases hlt : j < 4
   ·rcases (show j = 0 ∨ j = 1 ∨ j = 2 ∨ j = 3 by omega) with rfl | rfl | rfl | rfl
    ·have HFA := hide (fault0 HJ.out.1)
     clear hj hlt
     go_wp2_with fail
     refine HFA.out.mono ?_
     rintro e w3 ⟨rfl, G3⟩
     have HN : Hid (Tx W.heap.size kb v ev kk w3 ∧ Below W.heap.size W w3) := ⟨HJ.out.1.next G3.out, HJ.out.2.trans (G3.out.mono HJ.out.2.size)⟩
     clear HFA G3 HJ
     go_wp2
     go_roundw
     case rel => exact ⟨1, by omega, by go_num, HN.out⟩
     case measure => simp [intOf]
    ·have HFA := hide (fault1 HJ.out.1)
     clear hj hlt
     go_wp2_with fail
     refine HFA.out.mono ?_
     rintro e w3 ⟨rfl, G3⟩
     have HN : Hid (Tx W.heap.size kb v ev kk w3 ∧ Below W.heap.size W w3) := ⟨HJ.out.1.next G3.out, HJ.out.2.trans (G3.out.mono HJ.out.2.size)⟩
     clear HFA G3 HJ
     go_wp2
     go_roundw
     case rel => exact ⟨2, by omega, by go_num, HN.out⟩
     case measure => simp [intOf]
    ·have HFA := hide (fault2 HJ.out.1)
     clear hj hlt
     go_wp2_with fail
     refine HFA.out.mono ?_
     rintro e w3 ⟨rfl, G3⟩
     have HN : Hid (Tx W.heap.size kb v ev kk w3 ∧ Below W.heap.size W w3) := ⟨HJ.out.1.next G3.out, HJ.out.2.trans (G3.out.mono HJ.out.2.size)⟩
     clear HFA G3 HJ
     go_wp2
     go_roundw
     case rel => exact ⟨3, by omega, by go_num, HN.out⟩
     case measure => simp [intOf]
    ·have HFA := hide (fault3 HJ.out.1)
     clear hj hlt
     go_wp2_with fail
     refine HFA.out.mono ?_
     rintro e w3 ⟨rfl, G3⟩
     have HN : Hid (Tx W.heap.size kb v ev kk w3 ∧ Below W.heap.size W w3) := ⟨HJ.out.1.next G3.out, HJ.out.2.trans (G3.out.mono HJ.out.2.size)⟩
     clear HFA G3 HJ
     go_wp2
     go_roundw
     case rel => exact ⟨4, by omega, by go_num, HN.out⟩
     case measure => simp [intOf]
   ·obtain rfl : j = 4 := by omega
    have HN := hide HJ.out.2
    clear HJ hj hlt
    go_wp2
    go_meet
    case rel => exact HN.out
 case rest =>
 have HD := hide hcut.out
 clear hcut HJ0
 go_wp2
 go_ret
 exact ⟨rfl, HD⟩
end Go.Proofs.YtggpaljilpbmhaaGreatDoor
namespace Go.Proofs.YtggpaljilpbmhaaGreatDoor
open Go.RowKit

def inc (l : List (Int × Int)) : List Value := l.flatMap (fun x => [.int .i64 x.1, .int .i64 x.2])
theorem inc_snoc (L : List (Int × Int)) (x : Int × Int) : inc (L ++ [x]) = inc L ++ [.int .i64 x.1, .int .i64 x.2] := by simp [inc]
/-- The compiler over the probe, as it lies. -/
structure Cm (cb tb : Nat) (ev kk nx : Int) (es : Nat → Int) (aI : Option Addr) (cI : Nat) (I : List (Int × Int)) (w : World) : Prop where
 blk : w.heap[cb]? = some (.cells #[.slice (some ⟨tb, 0, none⟩) 4 4, .int .i64 nx, .slice none 0 0, .slice none 0 0, .int .i64 (es 0), .int .i64 (es 1), .int .i64 (es 2), .int .i64 (es 3), .int .i64 (es 4), .int .i64 (es 5), .slice aI I.length cI, .slice none 0 0, .slice none 0 0] 118 (0, 0))
 row : w.ownsRow (cb + 1) 42 2 (.slice aI I.length cI) I.length (inc I)
 pn : Pn tb ev kk w
 lt : tb < cb
/-- Boxes of nodes stay. -/
def Knd (w w' : World) : Prop := ∀ (b : Nat) (cs : Array Value), w.heap[b]? = some (.cells cs 121 (0, 0)) → w'.heap[b]? = some (.cells cs 121 (0, 0))
theorem Knd.trans {a b c : World} (h : Knd a b) (k : Knd b c) : Knd a c := fun q cs e => k q cs (h q cs e)
theorem Knd.below {w w' : World} (hb : Below w.heap.size w w') : Knd w w' := fun _ _ e => (hb.block _ (block_lt e)).trans e
theorem Knd.set {w : World} {q : Nat} {cs : Array Value} {t : TypeId} {z : Nat × Nat} (hq : w.heap[q]? = some (.cells cs t z)) (ht : t ≠ 121) (j : Nat) (x : Value) : Knd w (w.setCell ⟨q, j, none⟩ x) := fun b cs' e => by
 refine ((grown_setT w q j x).block b (block_lt e) (fun e2 => ?_)).trans e
 cases e2
 rw [hq] at e
 cases e
 exact ht rfl
section
variable {cb tb : Nat} {ev kk nx : Int} {es : Nat → Int} {aI : Option Addr} {cI : Nat} {I : List (Int × Int)} {w w1 w2 : World}
theorem Cm.next (h : Cm cb tb ev kk nx es aI cI I w) (hb : Below w.heap.size w w1) : Cm cb tb ev kk nx es aI cI I w1 :=
 ⟨(hb.block _ (block_lt h.blk)).trans h.blk, own_keep h.row hb, h.pn.next hb h.pn.1, h.lt⟩
/-- A cell of the compiler's own is written. -/
theorem Cm.set (h : Cm cb tb ev kk nx es aI cI I w) {nx' : Int} {es' : Nat → Int} {j : Nat} {x : Value} (he : #[.slice (some ⟨tb, 0, none⟩) 4 4, .int .i64 nx', .slice none 0 0, .slice none 0 0, .int .i64 (es' 0), .int .i64 (es' 1), .int .i64 (es' 2), .int .i64 (es' 3), .int .i64 (es' 4), .int .i64 (es' 5), .slice aI I.length cI, .slice none 0 0, .slice none 0 0] = (#[.slice (some ⟨tb, 0, none⟩) 4 4, .int .i64 nx, .slice none 0 0, .slice none 0 0, .int .i64 (es 0), .int .i64 (es 1), .int .i64 (es 2), .int .i64 (es 3), .int .i64 (es 4), .int .i64 (es 5), .slice aI I.length cI, .slice none 0 0, .slice none 0 0] : Array Value).setIfInBounds j x) : Cm cb tb ev kk nx' es' aI cI I (w.setCell ⟨cb, j, none⟩ x) ∧ Below cb w (w.setCell ⟨cb, j, none⟩ x) := by
 have gs := grown_setT w cb j x
 have hle := Nat.le_of_lt (block_lt h.blk)
 have hb : Below cb w (w.setCell ⟨cb, j, none⟩ x) := (Below.refl _ w).grown gs hle (fun q e => by cases e; exact Nat.le_refl _)
 exact ⟨⟨by rw [heap_setCell_same w cb j _ _ x h.blk, he], own_offT h.row h.blk (by decide) gs, h.pn.next hb h.lt, h.lt⟩, hb⟩
theorem Cm.app (h : Cm cb tb ev kk nx es aI cI I w) {x : Int × Int} {a : Option Addr} {c : Nat} (hb : Below w.heap.size w w1) (ho : w2.ownsRow (cb + 1) 42 2 (.slice a (I.length + 1) c) (I.length + 1) (inc I ++ [.int .i64 x.1, .int .i64 x.2])) (hg : w1.grownBy w2 (Value.slice aI I.length cI).ownBlock) :
  Cm cb tb ev kk nx es a c (I ++ [x]) (w2.setCell ⟨cb, 10, none⟩ (.slice a (I.length + 1) c)) ∧ w2.heap[cb]? = some (.cells #[.slice (some ⟨tb, 0, none⟩) 4 4, .int .i64 nx, .slice none 0 0, .slice none 0 0, .int .i64 (es 0), .int .i64 (es 1), .int .i64 (es 2), .int .i64 (es 3), .int .i64 (es 4), .int .i64 (es 5), .slice aI I.length cI, .slice none 0 0, .slice none 0 0] 118 (0, 0)) ∧ Below cb w w2 ∧ Knd w (w2.setCell ⟨cb, 10, none⟩ (.slice a (I.length + 1) c)) := by
 have h1 := h.next hb
 have b2 := blk_offR h1.blk h1.row (by decide) hg
 have hle : cb ≤ w.heap.size := Nat.le_of_lt (block_lt h.blk)
 have bel : Below cb w w2 := (hb.mono hle).grown hg (Nat.le_trans hle hb.size) (fun q e => by have := (h1.row.lt q e).1; omega)
 have gs := grown_setT w2 cb 10 (.slice a (I.length + 1) c)
 have bs := heap_setCell_same w2 cb 10 _ _ (.slice a (I.length + 1) c) b2
 have bel2 : Below cb w (w2.setCell ⟨cb, 10, none⟩ (.slice a (I.length + 1) c)) := bel.setCell (p := ⟨cb, 10, none⟩) (Nat.le_refl _) _
 have kn : Knd w1 w2 := fun b cs e => blk_offR e h1.row (by decide) hg
 refine ⟨⟨?_, ?_, h.pn.next bel2 h.lt, h.lt⟩, b2, bel, ((Knd.below hb).trans kn).trans (Knd.set b2 (by decide) _ _)⟩
 ·rw [bs]; simp
 ·have q := own_offT ho b2 (by decide) gs
  rw [← inc_snoc] at q
  simpa using q
set_option maxRecDepth 10000 in
theorem hereC (h : Cm cb tb ev kk nx es aI cI I w) : Calls Tryz.prog 113 #[.pointer (some ⟨cb, 0, none⟩)] w fun e w' => e = .returned (.int .i64 (I.length : Nat)) ∧ w' = w := by
 have c := block_cell h.blk 10
 have cl := block_lt h.blk
 simp at c
 clear h
 go_enter Tryz.func113, Tryz.ntmps113
 go_wp2
 go_ret
 exact ⟨rfl, rfl⟩
set_option maxRecDepth 10000 in
set_option maxHeartbeats 3200000 in
theorem emitC (h : Cm cb tb ev kk nx es aI cI I w) (o a : Int) (hl : I.length ≤ 100) : Calls Tryz.prog 115 #[.pointer (some ⟨cb, 0, none⟩), .int .i64 o, .int .i64 a] w fun e w' => e = .returned (.tuple #[]) ∧ Hid (∃ a' c', Cm cb tb ev kk nx es a' c' (I ++ [(o, a)]) w' ∧ Below cb w w' ∧ Knd w w') := by
 obtain ⟨iN, hN, hN0, hN1, hN2⟩ := info_parts Tryz.infoN
 have c := block_cell h.blk 10
 have cl := block_lt h.blk
 simp at c
 have HC := hide h
 have HOW : Hid (∀ o, (w.alloc o).ownsRow (cb + 1) 42 2 (.slice aI I.length cI) I.length (inc I)) := fun o => (h.next (below_alloc1 w o)).row
 have HSZ : Hid (∀ o, cb + 1 ≤ (w.alloc o).heap.size) := fun o => block_lt (h.next (below_alloc1 w o)).blk
 clear h
 generalize hn : I.length = n at *
 go_enter Tryz.func115, Tryz.ntmps115
 go_wp2_with (at_builtin; refine wpList_append_own _ rfl (.tmp 11) (.tmp 15) 25 rfl (cb + 1) 42 iN (.agg #[.int .i64 0, .int .i64 0]) 2 16 Tryz.underlying25 hN hN0 hN1 hN2 rfl (by decide) (.slice aI n cI) n _ rfl (HOW.out _) ⟨w.heap.size, 0, none⟩ 1 1 [.int .i64 o, .int .i64 a] rfl rfl (cell_two_newL _ _ _ _) (by simp [Value.oneCell']) (by unfold maxLen; omega) (by omega) (HSZ.out _) ?_; intro vX wX ho hg _; obtain ⟨aX, cX, hvX⟩ := own_val2 ho; subst hvX; rw [← hn] at ho hg; have hX := HC.out.app (x := (o, a)) (below_alloc1 _ _) ho hg; rw [hn] at hX; have y := block_cell hX.2.1 10; have yf := block_free hX.2.1 10; have yl := block_lt hX.2.1; simp at y; have HX := hide hX; clear ho hg hX HOW HSZ c cl)
 go_end0
 exact ⟨rfl, _, _, HX.out.1, HX.out.2.2.1.setCell (p := ⟨cb, 10, none⟩) (Nat.le_refl _) _, HX.out.2.2.2⟩
set_option maxRecDepth 10000 in
set_option maxHeartbeats 3200000 in
theorem node0 (h : Cm cb tb ev kk 0 es aI cI I w) : Calls Tryz.prog 112 #[.pointer (some ⟨cb, 0, none⟩)] w fun e w' => e = .returned (.agg #[.int .i64 1, .int .u64 1, .string ⟨#[]⟩]) ∧ Hid (Cm cb tb ev kk 1 es aI cI I w' ∧ Below cb w w') := by
 have c0 := block_cell h.blk 0
 have c1 := block_cell h.blk 1
 have cl := block_lt h.blk
 simp at c0 c1
 have n0 := h.pn.2 0 _ rfl
 have n1 := h.pn.2 1 _ rfl
 have n2 := h.pn.2 2 _ rfl
 have nl := h.pn.1
 obtain ⟨W1, hW1⟩ : ∃ W1, w.alloc (.cells #[.int .i64 0, .int .u64 0, .string ⟨#[]⟩] 121) = W1 := ⟨_, rfl⟩
 have B1 : Below w.heap.size w W1 := by rw [← hW1]; exact below_alloc1 w _
 have A1 : W1.heap[w.heap.size]? = some (.cells #[.int .i64 0, .int .u64 0, .string ⟨#[]⟩] 121 (0, 0)) := by rw [← hW1]; exact alloc_atK w _
 have z0 := (B1.cell (p := ⟨cb, 0, none⟩) cl).trans c0
 have z1 := (B1.cell (p := ⟨cb, 1, none⟩) cl).trans c1
 have y0 := (B1.cell (p := ⟨tb, 0, none⟩) nl).trans n0
 have y1 := (B1.cell (p := ⟨tb, 1, none⟩) nl).trans n1
 have y2 := (B1.cell (p := ⟨tb, 2, none⟩) nl).trans n2
 have zl := Nat.lt_of_lt_of_le cl B1.size
 have yl := Nat.lt_of_lt_of_le nl B1.size
 obtain ⟨W2, hW2⟩ : ∃ W2, (W1.alloc (.cells #[.int .i64 1, .int .u64 1, .string ⟨#[]⟩] 121)).drew = W2 := ⟨_, rfl⟩
 have B2 : Below W1.heap.size W1 W2 := by rw [← hW2]; exact (below_alloc1 W1 _).drew
 have A2 : W2.heap[W1.heap.size]? = some (.cells #[.int .i64 1, .int .u64 1, .string ⟨#[]⟩] 121 (0, 0)) := by rw [← hW2]; exact alloc_atK W1 _
 have HLW := hide cl
 have HRX : Hid (∀ q, (Value.slice aI I.length cI).ownBlock = some q → q ≠ w.heap.size) := fun q e => by have := (h.row.lt q e).2; omega
 have HC1 := hide (h.next B1)
 have HC2 := hide ((h.next B1).next B2)
 have HR2 := hide ((B2.block _ (block_lt A1)).trans A1)
 have HA2 := hide A2
 have HBW : Hid (Below cb w W2) := (B1.trans (B2.mono B1.size)).mono (Nat.le_of_lt cl)
 have HW1 := hide hW1
 have HW2 := hide hW2
 have HS1 : Hid (W1.heap.size = w.heap.size + 1) := by show _ = _; rw [← hW1]; simp
 clear h c0 c1 cl n0 n1 n2 nl hW1 hW2 B1 A1 B2 A2
 go_enter Tryz.func112, Tryz.ntmps112
 go_upto_region 1 with fail
 rw [HW1.out]
 clear HW1
 go_region
 rw [HW2.out]
 clear HW2 z0 z1 y0 y1 y2 zl yl
 have c1 := block_cell HC2.out.blk 1
 have f1 := block_free HC2.out.blk 1
 have cl := block_lt HC2.out.blk
 simp at c1
 have G3 := hide (HC2.out.set (nx' := 1) (es' := es) (j := 1) (x := .int .i64 1) (by simp))
 go_upto_region 3 with fail
 obtain ⟨W3, hW3⟩ : ∃ W3, W2.setCell ⟨cb, 1, none⟩ (.int .i64 1) = W3 := ⟨_, rfl⟩
 have g3 := grown_setT W2 cb 1 (.int .i64 1)
 rw [hW3] at g3
 rw [hW3]
 rw [hW3] at G3
 have ne1 : W1.heap.size ≠ cb := by have := HLW.out; have := HS1.out; omega
 have ne2 : w.heap.size ≠ cb := by have := HLW.out; omega
 have a3 := (g3.block _ (block_lt HA2.out) (by simpa using ne1)).trans HA2.out
 have r3 := (g3.block _ (block_lt HR2.out) (by simpa using ne2)).trans HR2.out
 clear c1 f1 cl hW3 g3 HC1 HC2
 have x0 := block_cell a3 0
 have x1 := block_cell a3 1
 have x2 := block_cell a3 2
 have xl := block_lt a3
 have q0 := block_cell r3 0
 have q1 := block_cell r3 1
 have q2 := block_cell r3 2
 have p0 := block_free r3 0
 have p1 := block_free r3 1
 have p2 := block_free r3 2
 have ql := block_lt r3
 simp at x0 x1 x2 q0 q1 q2
 have HB3 : Hid (Below cb w W3) := HBW.out.trans G3.out.2
 have HR3 := hide r3
 have HNE : Hid (cb ≤ w.heap.size) := Nat.le_of_lt HLW.out
 have HN2 : Hid (w.heap.size ≠ cb) := ne2
 have HTN : Hid (tb < w.heap.size) := Nat.lt_trans G3.out.1.lt HLW.out
 have HRW : Hid (∀ q, (Value.slice aI I.length cI).ownBlock = some q → q ≠ w.heap.size) := HRX.out
 clear a3 r3 HBW HA2 HR2 ne1 ne2
 go_wp2
 generalize hwf : World.setCell _ _ _ = wf
 obtain ⟨g4, r4, b4⟩ := set3L HR3.out HB3.out HNE.out _ _ _ hwf
 have HCF : Hid (Cm cb tb ev kk 1 es aI cI I wf) := by
  refine ⟨(g4.block _ (block_lt G3.out.1.blk) (by simpa using HN2.out.symm)).trans G3.out.1.blk, World.ownsRow.kept G3.out.1.row g4 (.inr (fun e => HRW.out _ e rfl)), ?_, G3.out.1.lt⟩
  refine G3.out.1.pn.next (n := w.heap.size) ?_ HTN.out
  exact (Below.refl _ W3).grown g4 (by have := block_lt HR3.out; omega) (fun q e => by cases e; exact Nat.le_refl _)
 clear hwf g4
 have z0 := block_cell r4 0
 have z1 := block_cell r4 1
 have z2 := block_cell r4 2
 simp at z0 z1 z2
 refine bodyPost_ret (v := .agg #[.int .i64 1, .int .u64 1, .string ⟨#[]⟩]) (by simp [results, Tryz.results112, go_sem, z0, z1, z2]) rfl ?_
 exact ⟨rfl, HCF.out, b4⟩
set_option maxRecDepth 10000 in
set_option maxHeartbeats 3200000 in
theorem node1 (h : Cm cb tb ev kk 1 es aI cI I w) : Calls Tryz.prog 112 #[.pointer (some ⟨cb, 0, none⟩)] w fun e w' => e = .returned (.agg #[.int .i64 2, .int .u64 ev, .string ⟨#[]⟩]) ∧ Hid (Cm cb tb ev kk 2 es aI cI I w' ∧ Below cb w w') := by
 have c0 := block_cell h.blk 0
 have c1 := block_cell h.blk 1
 have cl := block_lt h.blk
 simp at c0 c1
 have n0 := h.pn.2 3 _ rfl
 have n1 := h.pn.2 4 _ rfl
 have n2 := h.pn.2 5 _ rfl
 have nl := h.pn.1
 obtain ⟨W1, hW1⟩ : ∃ W1, w.alloc (.cells #[.int .i64 0, .int .u64 0, .string ⟨#[]⟩] 121) = W1 := ⟨_, rfl⟩
 have B1 : Below w.heap.size w W1 := by rw [← hW1]; exact below_alloc1 w _
 have A1 : W1.heap[w.heap.size]? = some (.cells #[.int .i64 0, .int .u64 0, .string ⟨#[]⟩] 121 (0, 0)) := by rw [← hW1]; exact alloc_atK w _
 have z0 := (B1.cell (p := ⟨cb, 0, none⟩) cl).trans c0
 have z1 := (B1.cell (p := ⟨cb, 1, none⟩) cl).trans c1
 have y0 := (B1.cell (p := ⟨tb, 3, none⟩) nl).trans n0
 have y1 := (B1.cell (p := ⟨tb, 4, none⟩) nl).trans n1
 have y2 := (B1.cell (p := ⟨tb, 5, none⟩) nl).trans n2
 have zl := Nat.lt_of_lt_of_le cl B1.size
 have yl := Nat.lt_of_lt_of_le nl B1.size
 obtain ⟨W2, hW2⟩ : ∃ W2, (W1.alloc (.cells #[.int .i64 2, .int .u64 ev, .string ⟨#[]⟩] 121)).drew = W2 := ⟨_, rfl⟩
 have B2 : Below W1.heap.size W1 W2 := by rw [← hW2]; exact (below_alloc1 W1 _).drew
 have A2 : W2.heap[W1.heap.size]? = some (.cells #[.int .i64 2, .int .u64 ev, .string ⟨#[]⟩] 121 (0, 0)) := by rw [← hW2]; exact alloc_atK W1 _
 have HLW := hide cl
 have HRX : Hid (∀ q, (Value.slice aI I.length cI).ownBlock = some q → q ≠ w.heap.size) := fun q e => by have := (h.row.lt q e).2; omega
 have HC1 := hide (h.next B1)
 have HC2 := hide ((h.next B1).next B2)
 have HR2 := hide ((B2.block _ (block_lt A1)).trans A1)
 have HA2 := hide A2
 have HBW : Hid (Below cb w W2) := (B1.trans (B2.mono B1.size)).mono (Nat.le_of_lt cl)
 have HW1 := hide hW1
 have HW2 := hide hW2
 have HS1 : Hid (W1.heap.size = w.heap.size + 1) := by show _ = _; rw [← hW1]; simp
 clear h c0 c1 cl n0 n1 n2 nl hW1 hW2 B1 A1 B2 A2
 go_enter Tryz.func112, Tryz.ntmps112
 go_upto_region 1 with fail
 rw [HW1.out]
 clear HW1
 go_region
 rw [HW2.out]
 clear HW2 z0 z1 y0 y1 y2 zl yl
 have c1 := block_cell HC2.out.blk 1
 have f1 := block_free HC2.out.blk 1
 have cl := block_lt HC2.out.blk
 simp at c1
 have G3 := hide (HC2.out.set (nx' := 2) (es' := es) (j := 1) (x := .int .i64 2) (by simp))
 go_upto_region 3 with fail
 obtain ⟨W3, hW3⟩ : ∃ W3, W2.setCell ⟨cb, 1, none⟩ (.int .i64 2) = W3 := ⟨_, rfl⟩
 have g3 := grown_setT W2 cb 1 (.int .i64 2)
 rw [hW3] at g3
 rw [hW3]
 rw [hW3] at G3
 have ne1 : W1.heap.size ≠ cb := by have := HLW.out; have := HS1.out; omega
 have ne2 : w.heap.size ≠ cb := by have := HLW.out; omega
 have a3 := (g3.block _ (block_lt HA2.out) (by simpa using ne1)).trans HA2.out
 have r3 := (g3.block _ (block_lt HR2.out) (by simpa using ne2)).trans HR2.out
 clear c1 f1 cl hW3 g3 HC1 HC2
 have x0 := block_cell a3 0
 have x1 := block_cell a3 1
 have x2 := block_cell a3 2
 have xl := block_lt a3
 have q0 := block_cell r3 0
 have q1 := block_cell r3 1
 have q2 := block_cell r3 2
 have p0 := block_free r3 0
 have p1 := block_free r3 1
 have p2 := block_free r3 2
 have ql := block_lt r3
 simp at x0 x1 x2 q0 q1 q2
 have HB3 : Hid (Below cb w W3) := HBW.out.trans G3.out.2
 have HR3 := hide r3
 have HNE : Hid (cb ≤ w.heap.size) := Nat.le_of_lt HLW.out
 have HN2 : Hid (w.heap.size ≠ cb) := ne2
 have HTN : Hid (tb < w.heap.size) := Nat.lt_trans G3.out.1.lt HLW.out
 have HRW : Hid (∀ q, (Value.slice aI I.length cI).ownBlock = some q → q ≠ w.heap.size) := HRX.out
 clear a3 r3 HBW HA2 HR2 ne1 ne2
 go_wp2
 generalize hwf : World.setCell _ _ _ = wf
 obtain ⟨g4, r4, b4⟩ := set3L HR3.out HB3.out HNE.out _ _ _ hwf
 have HCF : Hid (Cm cb tb ev kk 2 es aI cI I wf) := by
  refine ⟨(g4.block _ (block_lt G3.out.1.blk) (by simpa using HN2.out.symm)).trans G3.out.1.blk, World.ownsRow.kept G3.out.1.row g4 (.inr (fun e => HRW.out _ e rfl)), ?_, G3.out.1.lt⟩
  refine G3.out.1.pn.next (n := w.heap.size) ?_ HTN.out
  exact (Below.refl _ W3).grown g4 (by have := block_lt HR3.out; omega) (fun q e => by cases e; exact Nat.le_refl _)
 clear hwf g4
 have z0 := block_cell r4 0
 have z1 := block_cell r4 1
 have z2 := block_cell r4 2
 simp at z0 z1 z2
 refine bodyPost_ret (v := .agg #[.int .i64 2, .int .u64 ev, .string ⟨#[]⟩]) (by simp [results, Tryz.results112, go_sem, z0, z1, z2]) rfl ?_
 exact ⟨rfl, HCF.out, b4⟩
set_option maxRecDepth 10000 in
set_option maxHeartbeats 3200000 in
theorem node2 (h : Cm cb tb ev kk 2 es aI cI I w) : Calls Tryz.prog 112 #[.pointer (some ⟨cb, 0, none⟩)] w fun e w' => e = .returned (.agg #[.int .i64 3, .int .u64 1, .string ⟨#[]⟩]) ∧ Hid (Cm cb tb ev kk 3 es aI cI I w' ∧ Below cb w w') := by
 have c0 := block_cell h.blk 0
 have c1 := block_cell h.blk 1
 have cl := block_lt h.blk
 simp at c0 c1
 have n0 := h.pn.2 6 _ rfl
 have n1 := h.pn.2 7 _ rfl
 have n2 := h.pn.2 8 _ rfl
 have nl := h.pn.1
 obtain ⟨W1, hW1⟩ : ∃ W1, w.alloc (.cells #[.int .i64 0, .int .u64 0, .string ⟨#[]⟩] 121) = W1 := ⟨_, rfl⟩
 have B1 : Below w.heap.size w W1 := by rw [← hW1]; exact below_alloc1 w _
 have A1 : W1.heap[w.heap.size]? = some (.cells #[.int .i64 0, .int .u64 0, .string ⟨#[]⟩] 121 (0, 0)) := by rw [← hW1]; exact alloc_atK w _
 have z0 := (B1.cell (p := ⟨cb, 0, none⟩) cl).trans c0
 have z1 := (B1.cell (p := ⟨cb, 1, none⟩) cl).trans c1
 have y0 := (B1.cell (p := ⟨tb, 6, none⟩) nl).trans n0
 have y1 := (B1.cell (p := ⟨tb, 7, none⟩) nl).trans n1
 have y2 := (B1.cell (p := ⟨tb, 8, none⟩) nl).trans n2
 have zl := Nat.lt_of_lt_of_le cl B1.size
 have yl := Nat.lt_of_lt_of_le nl B1.size
 obtain ⟨W2, hW2⟩ : ∃ W2, (W1.alloc (.cells #[.int .i64 3, .int .u64 1, .string ⟨#[]⟩] 121)).drew = W2 := ⟨_, rfl⟩
 have B2 : Below W1.heap.size W1 W2 := by rw [← hW2]; exact (below_alloc1 W1 _).drew
 have A2 : W2.heap[W1.heap.size]? = some (.cells #[.int .i64 3, .int .u64 1, .string ⟨#[]⟩] 121 (0, 0)) := by rw [← hW2]; exact alloc_atK W1 _
 have HLW := hide cl
 have HRX : Hid (∀ q, (Value.slice aI I.length cI).ownBlock = some q → q ≠ w.heap.size) := fun q e => by have := (h.row.lt q e).2; omega
 have HC1 := hide (h.next B1)
 have HC2 := hide ((h.next B1).next B2)
 have HR2 := hide ((B2.block _ (block_lt A1)).trans A1)
 have HA2 := hide A2
 have HBW : Hid (Below cb w W2) := (B1.trans (B2.mono B1.size)).mono (Nat.le_of_lt cl)
 have HW1 := hide hW1
 have HW2 := hide hW2
 have HS1 : Hid (W1.heap.size = w.heap.size + 1) := by show _ = _; rw [← hW1]; simp
 clear h c0 c1 cl n0 n1 n2 nl hW1 hW2 B1 A1 B2 A2
 go_enter Tryz.func112, Tryz.ntmps112
 go_upto_region 1 with fail
 rw [HW1.out]
 clear HW1
 go_region
 rw [HW2.out]
 clear HW2 z0 z1 y0 y1 y2 zl yl
 have c1 := block_cell HC2.out.blk 1
 have f1 := block_free HC2.out.blk 1
 have cl := block_lt HC2.out.blk
 simp at c1
 have G3 := hide (HC2.out.set (nx' := 3) (es' := es) (j := 1) (x := .int .i64 3) (by simp))
 go_upto_region 3 with fail
 obtain ⟨W3, hW3⟩ : ∃ W3, W2.setCell ⟨cb, 1, none⟩ (.int .i64 3) = W3 := ⟨_, rfl⟩
 have g3 := grown_setT W2 cb 1 (.int .i64 3)
 rw [hW3] at g3
 rw [hW3]
 rw [hW3] at G3
 have ne1 : W1.heap.size ≠ cb := by have := HLW.out; have := HS1.out; omega
 have ne2 : w.heap.size ≠ cb := by have := HLW.out; omega
 have a3 := (g3.block _ (block_lt HA2.out) (by simpa using ne1)).trans HA2.out
 have r3 := (g3.block _ (block_lt HR2.out) (by simpa using ne2)).trans HR2.out
 clear c1 f1 cl hW3 g3 HC1 HC2
 have x0 := block_cell a3 0
 have x1 := block_cell a3 1
 have x2 := block_cell a3 2
 have xl := block_lt a3
 have q0 := block_cell r3 0
 have q1 := block_cell r3 1
 have q2 := block_cell r3 2
 have p0 := block_free r3 0
 have p1 := block_free r3 1
 have p2 := block_free r3 2
 have ql := block_lt r3
 simp at x0 x1 x2 q0 q1 q2
 have HB3 : Hid (Below cb w W3) := HBW.out.trans G3.out.2
 have HR3 := hide r3
 have HNE : Hid (cb ≤ w.heap.size) := Nat.le_of_lt HLW.out
 have HN2 : Hid (w.heap.size ≠ cb) := ne2
 have HTN : Hid (tb < w.heap.size) := Nat.lt_trans G3.out.1.lt HLW.out
 have HRW : Hid (∀ q, (Value.slice aI I.length cI).ownBlock = some q → q ≠ w.heap.size) := HRX.out
 clear a3 r3 HBW HA2 HR2 ne1 ne2
 go_wp2
 generalize hwf : World.setCell _ _ _ = wf
 obtain ⟨g4, r4, b4⟩ := set3L HR3.out HB3.out HNE.out _ _ _ hwf
 have HCF : Hid (Cm cb tb ev kk 3 es aI cI I wf) := by
  refine ⟨(g4.block _ (block_lt G3.out.1.blk) (by simpa using HN2.out.symm)).trans G3.out.1.blk, World.ownsRow.kept G3.out.1.row g4 (.inr (fun e => HRW.out _ e rfl)), ?_, G3.out.1.lt⟩
  refine G3.out.1.pn.next (n := w.heap.size) ?_ HTN.out
  exact (Below.refl _ W3).grown g4 (by have := block_lt HR3.out; omega) (fun q e => by cases e; exact Nat.le_refl _)
 clear hwf g4
 have z0 := block_cell r4 0
 have z1 := block_cell r4 1
 have z2 := block_cell r4 2
 simp at z0 z1 z2
 refine bodyPost_ret (v := .agg #[.int .i64 3, .int .u64 1, .string ⟨#[]⟩]) (by simp [results, Tryz.results112, go_sem, z0, z1, z2]) rfl ?_
 exact ⟨rfl, HCF.out, b4⟩
set_option maxRecDepth 10000 in
set_option maxHeartbeats 3200000 in
theorem node3 (h : Cm cb tb ev kk 3 es aI cI I w) : Calls Tryz.prog 112 #[.pointer (some ⟨cb, 0, none⟩)] w fun e w' => e = .returned (.agg #[.int .i64 12, .int .u64 kk, .string ⟨#[]⟩]) ∧ Hid (Cm cb tb ev kk 4 es aI cI I w' ∧ Below cb w w') := by
 have c0 := block_cell h.blk 0
 have c1 := block_cell h.blk 1
 have cl := block_lt h.blk
 simp at c0 c1
 have n0 := h.pn.2 9 _ rfl
 have n1 := h.pn.2 10 _ rfl
 have n2 := h.pn.2 11 _ rfl
 have nl := h.pn.1
 obtain ⟨W1, hW1⟩ : ∃ W1, w.alloc (.cells #[.int .i64 0, .int .u64 0, .string ⟨#[]⟩] 121) = W1 := ⟨_, rfl⟩
 have B1 : Below w.heap.size w W1 := by rw [← hW1]; exact below_alloc1 w _
 have A1 : W1.heap[w.heap.size]? = some (.cells #[.int .i64 0, .int .u64 0, .string ⟨#[]⟩] 121 (0, 0)) := by rw [← hW1]; exact alloc_atK w _
 have z0 := (B1.cell (p := ⟨cb, 0, none⟩) cl).trans c0
 have z1 := (B1.cell (p := ⟨cb, 1, none⟩) cl).trans c1
 have y0 := (B1.cell (p := ⟨tb, 9, none⟩) nl).trans n0
 have y1 := (B1.cell (p := ⟨tb, 10, none⟩) nl).trans n1
 have y2 := (B1.cell (p := ⟨tb, 11, none⟩) nl).trans n2
 have zl := Nat.lt_of_lt_of_le cl B1.size
 have yl := Nat.lt_of_lt_of_le nl B1.size
 obtain ⟨W2, hW2⟩ : ∃ W2, (W1.alloc (.cells #[.int .i64 12, .int .u64 kk, .string ⟨#[]⟩] 121)).drew = W2 := ⟨_, rfl⟩
 have B2 : Below W1.heap.size W1 W2 := by rw [← hW2]; exact (below_alloc1 W1 _).drew
 have A2 : W2.heap[W1.heap.size]? = some (.cells #[.int .i64 12, .int .u64 kk, .string ⟨#[]⟩] 121 (0, 0)) := by rw [← hW2]; exact alloc_atK W1 _
 have HLW := hide cl
 have HRX : Hid (∀ q, (Value.slice aI I.length cI).ownBlock = some q → q ≠ w.heap.size) := fun q e => by have := (h.row.lt q e).2; omega
 have HC1 := hide (h.next B1)
 have HC2 := hide ((h.next B1).next B2)
 have HR2 := hide ((B2.block _ (block_lt A1)).trans A1)
 have HA2 := hide A2
 have HBW : Hid (Below cb w W2) := (B1.trans (B2.mono B1.size)).mono (Nat.le_of_lt cl)
 have HW1 := hide hW1
 have HW2 := hide hW2
 have HS1 : Hid (W1.heap.size = w.heap.size + 1) := by show _ = _; rw [← hW1]; simp
 clear h c0 c1 cl n0 n1 n2 nl hW1 hW2 B1 A1 B2 A2
 go_enter Tryz.func112, Tryz.ntmps112
 go_upto_region 1 with fail
 rw [HW1.out]
 clear HW1
 go_region
 rw [HW2.out]
 clear HW2 z0 z1 y0 y1 y2 zl yl
 have c1 := block_cell HC2.out.blk 1
 have f1 := block_free HC2.out.blk 1
 have cl := block_lt HC2.out.blk
 simp at c1
 have G3 := hide (HC2.out.set (nx' := 4) (es' := es) (j := 1) (x := .int .i64 4) (by simp))
 go_upto_region 3 with fail
 obtain ⟨W3, hW3⟩ : ∃ W3, W2.setCell ⟨cb, 1, none⟩ (.int .i64 4) = W3 := ⟨_, rfl⟩
 have g3 := grown_setT W2 cb 1 (.int .i64 4)
 rw [hW3] at g3
 rw [hW3]
 rw [hW3] at G3
 have ne1 : W1.heap.size ≠ cb := by have := HLW.out; have := HS1.out; omega
 have ne2 : w.heap.size ≠ cb := by have := HLW.out; omega
 have a3 := (g3.block _ (block_lt HA2.out) (by simpa using ne1)).trans HA2.out
 have r3 := (g3.block _ (block_lt HR2.out) (by simpa using ne2)).trans HR2.out
 clear c1 f1 cl hW3 g3 HC1 HC2
 have x0 := block_cell a3 0
 have x1 := block_cell a3 1
 have x2 := block_cell a3 2
 have xl := block_lt a3
 have q0 := block_cell r3 0
 have q1 := block_cell r3 1
 have q2 := block_cell r3 2
 have p0 := block_free r3 0
 have p1 := block_free r3 1
 have p2 := block_free r3 2
 have ql := block_lt r3
 simp at x0 x1 x2 q0 q1 q2
 have HB3 : Hid (Below cb w W3) := HBW.out.trans G3.out.2
 have HR3 := hide r3
 have HNE : Hid (cb ≤ w.heap.size) := Nat.le_of_lt HLW.out
 have HN2 : Hid (w.heap.size ≠ cb) := ne2
 have HTN : Hid (tb < w.heap.size) := Nat.lt_trans G3.out.1.lt HLW.out
 have HRW : Hid (∀ q, (Value.slice aI I.length cI).ownBlock = some q → q ≠ w.heap.size) := HRX.out
 clear a3 r3 HBW HA2 HR2 ne1 ne2
 go_wp2
 generalize hwf : World.setCell _ _ _ = wf
 obtain ⟨g4, r4, b4⟩ := set3L HR3.out HB3.out HNE.out _ _ _ hwf
 have HCF : Hid (Cm cb tb ev kk 4 es aI cI I wf) := by
  refine ⟨(g4.block _ (block_lt G3.out.1.blk) (by simpa using HN2.out.symm)).trans G3.out.1.blk, World.ownsRow.kept G3.out.1.row g4 (.inr (fun e => HRW.out _ e rfl)), ?_, G3.out.1.lt⟩
  refine G3.out.1.pn.next (n := w.heap.size) ?_ HTN.out
  exact (Below.refl _ W3).grown g4 (by have := block_lt HR3.out; omega) (fun q e => by cases e; exact Nat.le_refl _)
 clear hwf g4
 have z0 := block_cell r4 0
 have z1 := block_cell r4 1
 have z2 := block_cell r4 2
 simp at z0 z1 z2
 refine bodyPost_ret (v := .agg #[.int .i64 12, .int .u64 kk, .string ⟨#[]⟩]) (by simp [results, Tryz.results112, go_sem, z0, z1, z2]) rfl ?_
 exact ⟨rfl, HCF.out, b4⟩
end
end Go.Proofs.YtggpaljilpbmhaaGreatDoor
