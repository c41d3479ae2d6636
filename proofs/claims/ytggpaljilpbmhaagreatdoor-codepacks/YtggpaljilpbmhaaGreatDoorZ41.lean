import Derived.Test.YtggpaljilpbmhaaGreatDoorZ35
import Derived.Test.YtggpaljilpbmhaaGreatDoorZ30
import Derived.Test.YtggpaljilpbmhaaGreatDoorZ40
import Derived.Deep.DeepCutAuto
namespace Go.Proofs.YtggpaljilpbmhaaGreatDoor
open Go.RowKit

theorem nums_set (k : IntKind) (f : Nat → Int) (n : Nat) (x : Int) : nums k (fun j => if j = n then x else f j) (n + 1) = nums k f n ++ [.int k x] := by
 rw [nums_next, if_pos rfl]
 congr 1
 unfold nums
 refine List.map_congr_left (fun j hj => ?_)
 have := List.mem_range.1 hj
 show Value.int k (if j = n then x else f j) = _
 rw [if_neg (by omega)]
theorem nums2_set (f g : Nat → Int) (n : Nat) (x y : Int) : nums2 (fun j => if j = n then x else f j) (fun j => if j = n then y else g j) (n + 1) = nums2 f g n ++ [.int .i64 x, .int .i64 y] := by
 rw [nums2_next, if_pos rfl, if_pos rfl]
 congr 1
 exact nums2_congr (fun j hj => if_neg (by omega)) (fun j hj => if_neg (by omega))
/-- The results laid down once more, and no fault. -/
theorem unpacked_end {W w7 : World} {R0 lim pb fb rp : Nat} {B : List Nat} {pos : Nat} {va vb vc : Value} {nc ns n : Nat} {en : Nat → Int} {q : Pv} (h1 : q.nc = nc) (h2 : q.ns = ns) (h3 : q.n = n) (hq : Pkw q) (h : Uw W R0 lim pb fb rp B pos va vb vc nc ns n (nums .u64 q.C nc) (nums .i64 q.S ns) (nums2 q.op q.arg n) en w7) :
  ∀ W10, (set9 w7 pb va vb (.int .i64 (en 0)) (.int .i64 (en 1)) (.int .i64 (en 2)) (.int .i64 (en 3)) (.int .i64 (en 4)) (.int .i64 (en 5)) vc).setCell ⟨pb + 1, 0, none⟩ .nilIface = W10 → ∃ gq : Pg, va = .slice gq.ca q.nc gq.cc ∧ vb = .slice gq.sa q.ns gq.sc ∧ vc = .slice gq.ia q.n gq.ic ∧ Po W.heap.size gq q W10 ∧ Below W.heap.size W W10 ∧ W10.heap[pb]? = some (.cells #[va, vb, .int .i64 (en 0), .int .i64 (en 1), .int .i64 (en 2), .int .i64 (en 3), .int .i64 (en 4), .int .i64 (en 5), vc] 27 (0, 0)) ∧ W10.heap[pb + 1]? = some (.cells #[.nilIface] 33 (0, 0)) := by
 intro W10 hW
 have i1 := h.o1
 have i2 := h.o2
 have i3 := h.o3
 have i4 := h.o4
 obtain ⟨s1, gr⟩ := set9_blk h.pc rfl va vb (.int .i64 (en 0)) (.int .i64 (en 1)) (.int .i64 (en 2)) (.int .i64 (en 3)) (.int .i64 (en 4)) (.int .i64 (en 5)) vc
 have k2 := (gr.block _ (block_lt h.pe) (by simp)).trans h.pe
 have s2 := heap_setCell_same _ (pb + 1) 0 _ _ .nilIface k2
 have G2 := grown_set (set9 w7 pb va vb (.int .i64 (en 0)) (.int .i64 (en 1)) (.int .i64 (en 2)) (.int .i64 (en 3)) (.int .i64 (en 4)) (.int .i64 (en 5)) vc) (pb + 1) 0 .nilIface
 have k1 := (G2.block _ (block_lt s1) (by simp)).trans s1
 rw [hW] at s2 k1 G2
 have B9 := h.bel.grown gr h.bel.size (fun x e => by cases e; exact i1)
 have B10 := B9.grown G2 B9.size (fun x e => by cases e; omega)
 have a1 := h.qa.kept gr (.inr (own_off2 h.qa (by decide) h.pc))
 have a2 := h.qb.kept gr (.inr (own_off2 h.qb (by decide) h.pc))
 have a3 := h.qc.kept gr (.inr (own_off2 h.qc (by decide) h.pc))
 have b1 : W10.ownsRow W.heap.size 28 1 va q.nc (nums .u64 q.C q.nc) := by
  rw [h1]
  exact own_low (a1.kept G2 (.inr (own_off2 a1 (by decide) k2))) (by omega)
 have b2 : W10.ownsRow W.heap.size 3 1 vb q.ns (nums .i64 q.S q.ns) := by
  rw [h2]
  exact own_low (a2.kept G2 (.inr (own_off2 a2 (by decide) k2))) (by omega)
 have b3 : Irow W10 W.heap.size vc q.n q.op q.arg := by
  rw [h3]
  exact own_low (a3.kept G2 (.inr (own_off2 a3 (by decide) k2))) (by omega)
 obtain ⟨gq, e1, e2, e3, hp⟩ := po_mk b1 b2 b3 hq.nc hq.ns hq.n
 exact ⟨gq, e1, e2, e3, hp, B10, k1, s2⟩
end Go.Proofs.YtggpaljilpbmhaaGreatDoor
