import Derived.Test.YtggpaljilpbmhaaGreatDoorZ28
import Derived.Test.YtggpaljilpbmhaaGreatDoorZ29
namespace Go.Proofs.YtggpaljilpbmhaaGreatDoor
open Go.RowKit Go.Sort

section
variable {gb : Nat} {v : Gv} {ev kk : Int} {w : World}
end
end Go.Proofs.YtggpaljilpbmhaaGreatDoor
namespace Go.Proofs.YtggpaljilpbmhaaGreatDoor
open Go.RowKit Go.Sort

section
variable {B gb : Nat} {v : Gv} {L : List (Int × Int)} {E A : List Int} {O O' : List (Int × Int)} {w : World}
end
/-- How many are open, read out of the growth's cell. -/
def opW (gb : Nat) (w : World) : Nat := match w.cell? ⟨gb, 3, none⟩ with
 | some (.slice _ n _) => n
 | _ => 0
theorem opW_eq {B gb : Nat} {v : Gv} {L : List (Int × Int)} {E A : List Int} {O : List (Int × Int)} {w : World} (h : Gr B gb v L E A O w) : opW gb w = O.length := by
 unfold opW
 rw [block_cell h.blk 3]
 rfl
section
variable {gb : Nat} {v : Gv} {ev kk : Int} {w : World}
/-- The probe's growth while its nodes are closed. -/
inductive Gc (gb : Nat) (ev kk : Int) (v : Gv) (w : World) : Nat → Prop
 | c0 (h : Gr (gb + 1) gb v [(1, 1), (2, ev), (3, 1), (12, kk)] [0, 0, 0, 0] [0, 0, 1, 2] [(0, 0), (1, 0), (2, 0), (3, 0)] w) : Gc gb ev kk v w 4
 | c1 (h : Gr (gb + 1) gb v [(1, 1), (2, ev), (3, 1), (12, kk)] [0, 0, 0, 4] [0, 0, 1, 2] [(0, 0), (1, 0), (2, 1)] w) : Gc gb ev kk v w 3
 | c2 (h : Gr (gb + 1) gb v [(1, 1), (2, ev), (3, 1), (12, kk)] [0, 0, 4, 4] [0, 0, 1, 2] [(0, 0), (1, 1)] w) : Gc gb ev kk v w 2
 | c3 (h : Gr (gb + 1) gb v [(1, 1), (2, ev), (3, 1), (12, kk)] [0, 4, 4, 4] [0, 0, 1, 2] [(0, 1)] w) : Gc gb ev kk v w 1
 | c4 (h : Gr (gb + 1) gb v [(1, 1), (2, ev), (3, 1), (12, kk)] [4, 4, 4, 4] [0, 0, 1, 2] [] w) : Gc gb ev kk v w 0
theorem Gc.len {n : Nat} (h : Gc gb ev kk v w n) : opW gb w = n := by
 cases h <;> rename_i h <;> exact opW_eq h
end
end Go.Proofs.YtggpaljilpbmhaaGreatDoor
namespace Go.Proofs.YtggpaljilpbmhaaGreatDoor
open Go.RowKit Go.Sort

theorem two_box2L (W : World) (o1 o2 : Array Value) (t1 t2 : TypeId) {W2 : World} (h : (W.alloc (.cells o1 t1)).alloc (.cells o2 t2) = W2) : W2.heap[W.heap.size]? = some (.cells o1 t1 (0, 0)) ∧ W2.heap[W.heap.size + 1]? = some (.cells o2 t2 (0, 0)) ∧ Below W.heap.size W W2 := by
 have b1 := below_alloc1 W (.cells o1 t1)
 have b2 := below_alloc1 (W.alloc (.cells o1 t1)) (.cells o2 t2)
 rw [h] at b2
 have e : (W.alloc (.cells o1 t1)).heap.size = W.heap.size + 1 := by simp
 refine ⟨(b2.block _ (by rw [e]; omega)).trans (alloc_atK _ _), ?_, b1.trans (b2.mono (by rw [e]; omega))⟩
 rw [← h, ← e]
 exact alloc_atK _ _
/-- The probe's nodes as they are handed in. -/
def Pn (tb : Nat) (ev kk : Int) (w : World) : Prop := tb < w.heap.size ∧ ∀ i u, (ndc [(1, 1), (2, ev), (3, 1), (12, kk)])[i]? = some u → w.cell? ⟨tb, i, none⟩ = some u
theorem Pn.next {tb : Nat} {ev kk : Int} {w w' : World} {n : Nat} (h : Pn tb ev kk w) (hb : Below n w w') (hn : tb < n) : Pn tb ev kk w' := by
 refine ⟨?_, fun i u e => (hb.cell (p := ⟨tb, i, none⟩) hn).trans (h.2 i u e)⟩
 have h0 := (hb.cell (p := ⟨tb, 0, none⟩) hn).trans (h.2 0 _ rfl)
 exact block_lt_of_cell h0
/-- The tree of the probe: its three rows. -/
structure Tw (B : Nat) (v : Gv) (ev kk : Int) (w : World) : Prop where
 n : w.ownsRow B 121 3 (.slice v.aN 4 v.cN) 4 (ndc [(1, 1), (2, ev), (3, 1), (12, kk)])
 e : w.ownsRow B 3 1 (.slice v.aE 4 v.cE) 4 (itc [4, 4, 4, 4])
 a : w.ownsRow B 3 1 (.slice v.aA 4 v.cA) 4 (itc [0, 0, 1, 2])
theorem Tw.next {B : Nat} {v : Gv} {ev kk : Int} {w w' : World} (h : Tw B v ev kk w) (hb : Below w.heap.size w w') : Tw B v ev kk w' := ⟨own_keep h.n hb, own_keep h.e hb, own_keep h.a hb⟩
end Go.Proofs.YtggpaljilpbmhaaGreatDoor
