import Derived.Test.YtpdjnbpjgpdnkaaGreatDoorX56
import Derived.RangeFuncNested
import Derived.RangeFuncBound
import Derived.RangeFuncCalls
import Derived.RangeFuncLeaves
import Derived.Shelf.Abstract
import Derived.Shelf.RegionOpen
import Derived.WalkKit
import Derived.OwnWalkIn
import Derived.TacticsInMore
import Derived.LoopNIn
import Derived.LoopIn
import Derived.BigRegionIn
namespace Go.Proofs.YtpdjnbpjgpdnkaaGreatDoor
open Go.RowKit Go.Shelf
attribute [local go_sem] Oper.semAt_some

/-- The tree of the probe in its box. -/
structure Tx (B kb : Nat) (v : Gv) (ev kk : Int) (w : World) : Prop where
 blk : w.heap[kb]? = some (.cells #[.slice v.aN 4 v.cN, .slice v.aE 4 v.cE, .slice v.aA 4 v.cA] 107 (0, 0))
 t : Tw B v ev kk w
theorem Tx.next {B kb : Nat} {v : Gv} {ev kk : Int} {w w' : World} (h : Tx B kb v ev kk w) (hb : Below w.heap.size w w') : Tx B kb v ev kk w' := ⟨(hb.block _ (block_lt h.blk)).trans h.blk, h.t.next hb⟩
/-- What a round keeps: all cells but those of one block. -/
def KpR (rb : Nat) (W W' : World) : Prop := ∀ (a : Addr) v, a.block ≠ rb → W.cell? a = some v → W'.cell? a = some v
theorem kpR_t {rb : Nat} {A B C : World} (h : KpR rb A B) (k : KpR rb B C) : KpR rb A C := fun a v n hv => k a v n (h a v n hv)
theorem kpR_b {rb : Nat} {w : World} (W : World) (l : Nat) (o o' : Obj) (_ : w.heap.size ≤ l) (h : W.heap[l]? = some o) (hc : o.isCells = false) (_ : o.isWalk = false) : KpR rb W (W.putObj l o') := fun _ _ _ hv =>
 cell_kept hv (grownBy_putObj' W l o') (fun r e => by cases e; exact ⟨o, h, hc⟩)
set_option maxRecDepth 10000 in
theorem parts_any (t : Value) (w : World) (ht : ∃ a, t = .pointer (some a)) : Calls Tryz.prog 81 #[t, .int .i64 0] w fun e w' => e = .returned (.func (.func 102) #[] #[.pointer (some ⟨w.heap.size + 1, 0, none⟩), .pointer (some ⟨w.heap.size, 0, none⟩)]) ∧ w' = (w.alloc (.cells #[t] 130)).alloc (.cells #[.int .i64 0] 3) := by
 obtain ⟨a, rfl⟩ := ht
 go_enter Tryz.func81, Tryz.ntmps81
 go_wp2
 go_ret
 exact ⟨rfl, rfl⟩
/-- What the walk through the parts reads. -/
structure Pr (b1 b2 kb be : Nat) (cE : Nat) (W : World) : Prop where
 x1 : W.cell? ⟨b1, 0, none⟩ = some (.int .i64 0)
 x2 : W.cell? ⟨b2, 0, none⟩ = some (.pointer (some ⟨kb, 0, none⟩))
 x3 : W.cell? ⟨kb, 1, none⟩ = some (.slice (some ⟨be, 0, none⟩) 4 cE)
 x4 : W.cell? ⟨be, 0, none⟩ = some (.int .i64 4)
 x5 : W.cell? ⟨be, 1, none⟩ = some (.int .i64 4)
theorem Pr.kept {b1 b2 kb be cE rb : Nat} {W W' : World} (h : Pr b1 b2 kb be cE W) (k : KpR rb W W') (n1 : b1 ≠ rb) (n2 : b2 ≠ rb) (n3 : kb ≠ rb) (n4 : be ≠ rb) : Pr b1 b2 kb be cE W' :=
 ⟨k _ _ n1 h.x1, k _ _ n2 h.x2, k _ _ n3 h.x3, k _ _ n4 h.x4, k _ _ n4 h.x5⟩
set_option maxRecDepth 100000 in
set_option maxHeartbeats 2000000 in
theorem parts1_in (n : Nat) (hn : 1 ≤ n) (l b1 b2 kb be cE rb : Nat) (n1 : b1 ≠ rb) (n2 : b2 ≠ rb) (n3 : kb ≠ rb) (n4 : be ≠ rb) (J Jx : List Unit → World → Prop) (hD : ∀ pre W, J pre W → J pre W.drew)
  (hY : ∀ pre (x : Unit) W, J pre W → pre.length < 1 → YieldAt Fence.wide (n - 1) Tryz.prog l #[.int .i64 1] W fun e W' =>
   (e = .returned (.bool true) ∧ J (pre ++ [x]) W' ∧ KpR rb W W') ∨ (e = .returned (.bool false) ∧ Jx (pre ++ [x]) W'))
  (W : World) (hP : Pr b1 b2 kb be cE W) (h0 : J [] W) :
  CallsIn Fence.wide n Tryz.prog 102 #[.func (.yield l) #[] #[], .pointer (some ⟨b1, 0, none⟩), .pointer (some ⟨b2, 0, none⟩)] W fun e W' => (∃ v, e = .returned v) ∧
   ((∃ ys, ys = [()] ∧ J ys W') ∨ (∃ pre, pre <+: [()] ∧ Jx pre W')) := by
 have x1 := hP.x1
 have HP := hide hP
 have HD := hide hD
 clear hP hD
 refine callsIn_of_wp Tryz.func102 rfl trivial ?_ rfl
 simp only [Tryz.ntmps102, List.size_toArray, List.length_cons, List.length_nil, Nat.reduceAdd, Nat.reduceSub, Array.replicate_succ, Array.replicate_zero, List.push_toArray, List.append_toArray, List.nil_append, List.cons_append]
 gi_wp2
 gi_loopw [4] (fun p wr => (p = .int .i64 1 ∧ Hid (Pr b1 b2 kb be cE wr ∧ J [] wr)) ∨ (p = .int .i64 4 ∧ Hid (Pr b1 b2 kb be cE wr ∧ J [()] wr))) (fun p _ => 4 - (intOf p).toNat)
 case atStart => exact .inl ⟨rfl, HP.out, h0⟩
 case round =>
  rcases hrel with ⟨rfl, HJ⟩ | ⟨rfl, HJ⟩
  ·have y1 := HJ.out.1.x1
   have y2 := HJ.out.1.x2
   have y3 := HJ.out.1.x3
   have y4 := HJ.out.1.x4
   have HPD : Hid (Pr b1 b2 kb be cE wr.drew) := ⟨HJ.out.1.x1, HJ.out.1.x2, HJ.out.1.x3, HJ.out.1.x4, HJ.out.1.x5⟩
   obtain ⟨fn, tmps, assign, body, hy, hR⟩ := hY [] () wr.drew (HD.out _ _ HJ.out.2) (by decide)
   gi_wp2
   gi_region
   clear y1 y2 y3 y4
   gi_wp2
   refine hR.mono ?_
   rintro e W3 (⟨rfl, hJ3, hk3⟩ | ⟨rfl, hJx3⟩)
   ·have q := HPD.out.kept hk3 n1 n2 n3 n4
    have y2 := q.x2
    have y3 := q.x3
    have y5 := q.x5
    have HN : Hid (Pr b1 b2 kb be cE W3 ∧ J [()] W3) := ⟨q, hJ3⟩
    clear q
    gi_wp2
    go_roundw
    case rel => exact .inr ⟨rfl, HN.out⟩
    case measure => simp [intOf]
   ·gi_wp2
    refine bodyPost_ret (results_none rfl _ _ _) rfl ?_
    exact ⟨⟨_, rfl⟩, .inr ⟨[()], List.prefix_refl _, hJx3⟩⟩
  ·have y1 := HJ.out.1.x1
   have y2 := HJ.out.1.x2
   have y3 := HJ.out.1.x3
   have y4 := HJ.out.1.x4
   have HN := hide (HD.out _ _ HJ.out.2)
   gi_wp2
   gi_region
   gi_wp2
   go_end0
   exact ⟨⟨_, rfl⟩, .inl ⟨_, rfl, HN.out⟩⟩
theorem parts_stops (n : Nat) (hn : 1 ≤ n) (b1 b2 kb be cE rb : Nat) (n1 : b1 ≠ rb) (n2 : b2 ≠ rb) (n3 : kb ≠ rb) (n4 : be ≠ rb) (w : World) (hP : Pr b1 b2 kb be cE w) :
  SeqStopsK Fence.wide n Tryz.prog 102 #[.pointer (some ⟨b1, 0, none⟩), .pointer (some ⟨b2, 0, none⟩)] (fun _ : Unit => #[Value.int .i64 1]) (KpR rb) (fun ys => ys = [()]) (fun pre => pre <+: [()]) 1 w := fun l J Jx W hW hA _ hY h0 => by
 have k : ∀ {a v}, w.cell? a = some v → W.cell? a = some v := fun {a v} e => (hW.cell (block_lt_of_cell e)).trans e
 exact parts1_in n hn l b1 b2 kb be cE rb n1 n2 n3 n4 J Jx (fun pre W h => hA pre W _ none h (grown_of_below (Below.refl _ _).drew none) (fun r e => by cases e)) hY W ⟨k hP.x1, k hP.x2, k hP.x3, k hP.x4, k hP.x5⟩ h0
theorem three_box2L (W : World) (o1 o2 o3 : Array Value) (t1 t2 t3 : TypeId) {W3 : World} (h : ((W.alloc (.cells o1 t1)).alloc (.cells o2 t2)).alloc (.cells o3 t3) = W3) : W3.heap[W.heap.size]? = some (.cells o1 t1 (0, 0)) ∧ W3.heap[W.heap.size + 1]? = some (.cells o2 t2 (0, 0)) ∧ W3.heap[W.heap.size + 2]? = some (.cells o3 t3 (0, 0)) ∧ Below W.heap.size W W3 := by
 obtain ⟨W2, hW2⟩ : ∃ W2, (W.alloc (.cells o1 t1)).alloc (.cells o2 t2) = W2 := ⟨_, rfl⟩
 obtain ⟨h1, h2, b⟩ := two_box2L W _ _ _ _ hW2
 have s2 : W2.heap.size = W.heap.size + 2 := by rw [← hW2]; simp
 rw [hW2] at h
 have b3 := below_alloc1 W2 (.cells o3 t3)
 have a3 := alloc_atK W2 (.cells o3 t3)
 rw [h] at b3 a3
 rw [s2] at a3
 exact ⟨(b3.block _ (by omega)).trans h1, (b3.block _ (by omega)).trans h2, a3, b.trans (b3.mono b.size)⟩
theorem box_cellL {W : World} {B : Nat} {v : Value} {t : TypeId} (h : W.heap[B]? = some (.cells #[v] t (0, 0))) : W.cell? ⟨B, 0, none⟩ = some v ∧ W.frozen? ⟨B, 0, none⟩ = false := by
 constructor <;> simp [World.cell?, World.frozen?, h]
set_option maxRecDepth 100000 in
set_option maxHeartbeats 4000000 in
theorem rule_any {B kb : Nat} {v : Gv} {ev kk : Int} {w : World} (h : Tx B kb v ev kk w) : Calls Tryz.prog 62 #[.pointer (some ⟨kb, 0, none⟩), .int .u64 ev] w fun e w' => e = .returned (.int .i64 1) ∧ Below w.heap.size w w' := by
 refine (callsIn_wide (n := 3)).1 ?_
 obtain ⟨bn, en, ln, kn, cn, _⟩ := own_at h.t.n (by decide)
 obtain ⟨be, ee, le, ke, ce, _⟩ := own_at h.t.e (by decide)
 have c0 := block_cell h.blk 0
 have c1 := block_cell h.blk 1
 have cl := block_lt h.blk
 simp at c0 c1
 rw [en] at c0
 rw [ee] at c1
 have m1 := cn 4 _ rfl
 have d0 := ce 0 _ rfl
 have d1 := ce 1 _ rfl
 obtain ⟨W3, hW3⟩ : ∃ W3, ((w.alloc (.cells #[.pointer (some ⟨kb, 0, none⟩)] 130)).alloc (.cells #[.int .u64 ev] 28)).alloc (.cells #[.int .i64 0] 3) = W3 := ⟨_, rfl⟩
 obtain ⟨A1, A2, A3, B3⟩ := three_box2L w _ _ _ _ _ _ hW3
 have s3 : W3.heap.size = w.heap.size + 3 := by rw [← hW3]; simp
 obtain ⟨W5, hW5⟩ : ∃ W5, (W3.alloc (.cells #[.pointer (some ⟨kb, 0, none⟩)] 130)).alloc (.cells #[.int .i64 0] 3) = W5 := ⟨_, rfl⟩
 obtain ⟨A4, A5, B5⟩ := two_box2L W3 _ _ _ _ hW5
 have BW : Below w.heap.size w W5 := B3.trans (B5.mono B3.size)
 have k3 : ∀ {a : Addr} {u}, w.cell? a = some u → W5.cell? a = some u := fun {a u} e => (BW.cell (block_lt_of_cell e)).trans e
 have PR : Pr (W3.heap.size + 1) W3.heap.size kb be v.cE W5 := ⟨(block_cell A5 0).trans rfl, (block_cell A4 0).trans rfl, k3 c1, k3 d0, k3 d1⟩
 have a1 := (B5.block _ (block_lt A1)).trans A1
 have a2 := (B5.block _ (block_lt A2)).trans A2
 have a3 := (B5.block _ (block_lt A3)).trans A3
 have t1 := box_cellL a1
 have t2 := box_cellL a2
 have t3 := box_cellL a3
 have y1 := box_cellL A1
 have z0 := k3 c0
 have z1 := k3 m1
 refine callsIn_of_wp_marks Tryz.func62 rfl trivial ?_ rfl
 simp only [Tryz.ntmps62, List.size_toArray, List.length_cons, List.length_nil, Nat.reduceAdd, Nat.reduceSub, Array.replicate_succ, Array.replicate_zero, List.push_toArray, List.append_toArray, List.nil_append, List.cons_append]
 gi_wp2_with (refine ⟨trivial, ?_⟩; gi_at_call 81; refine (callsIn_wide.2 (parts_any _ _ ⟨_, rfl⟩)).mono ?_; rintro e w' ⟨rfl, rfl⟩)
 have s5 : w.heap.size ≤ W5.heap.size := BW.size
 rw [s3] at PR
 have lk := cl
 have hT : W5.cell? ⟨w.heap.size + 1 + 1, 0, none⟩ = some (.int .i64 0) ∧ W5.frozen? ⟨w.heap.size + 1 + 1, 0, none⟩ = false := t3
 refine wpIn_rangeFunc_ownF rfl (by omega) (gf := 102) (lb := #[.pointer (some ⟨w.heap.size + 3 + 1, 0, none⟩), .pointer (some ⟨w.heap.size + 3, 0, none⟩)]) rfl trivial (enters_of Tryz.func102 (by kernel_rfl) rfl)
  (parts_stops (3 - 1) (by omega) (w.heap.size + 3 + 1) (w.heap.size + 3) kb be v.cE (w.heap.size + 1 + 1) (by omega) (by omega) (by omega) (by omega) W5 PR) kpR_t kpR_b (Below.refl _ _) (fun _ => rfl)
  (fun pre W => (pre = [] ∧ (W.cell? ⟨w.heap.size, 0, none⟩ = some (.pointer (some ⟨kb, 0, none⟩)) ∧ W.cell? ⟨w.heap.size + 1, 0, none⟩ = some (.int .u64 ev) ∧ W.cell? ⟨kb, 0, none⟩ = some (.slice (some ⟨bn, 0, none⟩) 4 v.cN) ∧ W.cell? ⟨bn, 4, none⟩ = some (.int .u64 ev)) ∧ W.cell? ⟨w.heap.size + 1 + 1, 0, none⟩ = some (.int .i64 0) ∧ W.frozen? ⟨w.heap.size + 1 + 1, 0, none⟩ = false) ∧ Below w.heap.size w W)
  (fun c pre W => (c = .ret ∧ pre = [()] ∧ W.cell? ⟨w.heap.size + 1 + 1, 0, none⟩ = some (.int .i64 1)) ∧ Below w.heap.size w W)
  (OwnFrom.and (Own.from (fun s A B row hs hg hr => ⟨hs.1, ⟨cell_kept hs.2.1.1 hg hr, cell_kept hs.2.1.2.1 hg hr, cell_kept hs.2.1.2.2.1 hg hr, cell_kept hs.2.1.2.2.2 hg hr⟩, cell_kept hs.2.2.1 hg hr, (frozen_kept hs.2.2.1 hg hr).trans hs.2.2.2⟩) _) (ownFrom_below (Nat.le_refl _) s5))
  (fun c => OwnFrom.and (Own.from (fun s A B row hs hg hr => ⟨hs.1, hs.2.1, cell_kept hs.2.2 hg hr⟩) _) (ownFrom_below (Nat.le_refl _) s5))
  ⟨⟨rfl, ⟨t1.1, t2.1, z0, z1⟩, hT.1, hT.2⟩, BW⟩
  (fun x => { tmps := #[.pointer (some ⟨kb, 0, none⟩), .int .u64 ev, .pointer (some ⟨w.heap.size, 0, none⟩), .pointer (some ⟨w.heap.size + 1, 0, none⟩), .pointer (some ⟨w.heap.size + 1 + 1, 0, none⟩), .int .i64 1, .pointer (some ⟨kb, 0, none⟩), .func (.func 102) #[] #[.pointer (some ⟨w.heap.size + 3 + 1, 0, none⟩), .pointer (some ⟨w.heap.size + 3, 0, none⟩)], .int .i64 1, undef, undef, undef, undef, undef, undef, undef, undef, undef, undef, undef], defers := [] }) ?assign ?body ?done ?stop
 case assign =>
  intro l x W K hK
  gi_wp2
  exact hK
 case body =>
  rintro l pre x W ⟨⟨rfl, ⟨g1, g2, g3, g4⟩, g5, g6⟩, hB⟩ hpl
  clear hW3 hW5 A1 A2 A3 A4 A5 B3 B5 k3 PR a1 a2 a3 t1 t2 t3 y1 z0 z1 hT c0 c1 m1 d0 d1 cn ce
  have HF1 : Hid (KeepsOthers W (W.setCell ⟨w.heap.size + 1 + 1, 0, none⟩ (.int .i64 1)).drew) := (KeepsOthers.setCell _ _ _).trans (KeepsOthers.drew _)
  have HF2 : Hid ((W.setCell ⟨w.heap.size + 1 + 1, 0, none⟩ (.int .i64 1)).drew.cell? ⟨w.heap.size + 1 + 1, 0, none⟩ = some (.int .i64 1)) := World.cell?_setCell_same' _ _ _ (by rw [g5]; rfl)
  have HF3 : Hid (Below w.heap.size w (W.setCell ⟨w.heap.size + 1 + 1, 0, none⟩ (.int .i64 1)).drew) := (hB.setCell (p := ⟨w.heap.size + 1 + 1, 0, none⟩) (by show w.heap.size ≤ w.heap.size + 1 + 1; omega) _).drew
  gi_wp2
  gi_region
  all_goals
   gi_wp2
   exact ⟨HF1.out, ⟨rfl, rfl, HF2.out⟩, HF3.out⟩
 case done =>
  rintro D ys W hD rfl ⟨⟨hne, _⟩, _⟩ hK
  cases hne
 case stop =>
  rintro D c pre W hD hpre ⟨⟨rfl, rfl, hc⟩, hB⟩ hK
  gi_wp2
  refine ⟨by simp, .inl ⟨_, _, rfl, run_takeDeferred hK, ?_⟩⟩
  have hc5 := cell_kept hc (grownBy_putObj' _ D (.deferred none)) (fun r e => by cases e; exact ⟨_, hK, rfl⟩)
  refine ⟨.int .i64 1, ?_, rfl, hB.trans (belowK_b (w := w) (Nat.le_refl _) W D _ _ (by omega) hK rfl rfl)⟩
  simp [results, Tryz.results62, go_sem, hc5]
end Go.Proofs.YtpdjnbpjgpdnkaaGreatDoor
