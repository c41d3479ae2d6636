import Derived.Test.YtneginefcloceaaBPi
import Derived.Deep.DeepCutAuto
import Derived.Deep.RegionHeld3
namespace Go.Proofs.Ytneginefcloceaa
open Go.RowKit

/-- A ballot and an error. -/
def BalR (w : World) (n m : Int) (L : List Lk) (k : Int) (e : Ending) (w' : World) : Prop := ∃ ev, e = .returned (.tuple #[.agg #[.int .u64 n, .int .i64 m], ev]) ∧ Hid (ErrP w' L k ev ∧ Below w.heap.size w w')
theorem two_box (w : World) (o1 o2 : Obj) : ((w.alloc o1).alloc o2).heap[w.heap.size]? = some o1 ∧ ((w.alloc o1).alloc o2).heap[w.heap.size + 1]? = some o2 := by
  have e1 : (w.alloc o1).heap.size = w.heap.size + 1 := by simp
  refine ⟨(Below.heap_alloc _ _ _ (by rw [e1]; omega)).trans (alloc_atK _ _), ?_⟩
  have h := alloc_atK (w.alloc o1) o2
  rw [e1] at h
  exact h
/-- A ballot is laid into its box. -/
theorem bal_set {w V : World} {pr : Nat} {x0 y0 : Value} {t : TypeId} (hb : Below w.heap.size w V) (hp : w.heap.size ≤ pr) (hr : V.heap[pr]? = some (.cells #[x0, y0] t (0, 0))) (x y : Value) :
    Below w.heap.size w ((V.setCell ⟨pr, 0, none⟩ x).setCell ⟨pr, 1, none⟩ y) ∧ ((V.setCell ⟨pr, 0, none⟩ x).setCell ⟨pr, 1, none⟩ y).cell? ⟨pr, 0, none⟩ = some x ∧ ((V.setCell ⟨pr, 0, none⟩ x).setCell ⟨pr, 1, none⟩ y).cell? ⟨pr, 1, none⟩ = some y := by
  have h1 := hb.grown (grown_set V pr 0 x) hb.size (fun k e => by cases e; exact hp)
  have h2 := h1.grown (grown_set _ pr 1 y) h1.size (fun k e => by cases e; exact hp)
  have s1 := heap_setCell_same V pr 0 _ _ x hr
  simp only [List.setIfInBounds_toArray, List.set_cons_zero] at s1
  have s2 := heap_setCell_same _ pr 1 _ _ y s1
  simp only [List.setIfInBounds_toArray, List.set_cons_zero, List.set_cons_succ] at s2
  exact ⟨h2, block_cell s2 0, block_cell s2 1⟩
theorem err_set {V : World} {pr : Nat} {y0 : Value} {k0 : IntKind} {n0 : Int} {t : TypeId} {l : Lk} {ev : Value} {k : Int} (hc : Chain V.heap.size V [l] ev k) (hk : k ≠ 0) (hr : V.heap[pr]? = some (.cells #[.int k0 n0, y0] t (0, 0))) (x y : Value) :
    ErrP ((V.setCell ⟨pr, 0, none⟩ x).setCell ⟨pr, 1, none⟩ y) [l] k ev := by
  obtain ⟨g, u, e, hg, c0, c1, c2, hu⟩ := hc
  have hne : pr ≠ g := fun e => by subst e; rw [block_cell hr 0] at c0; cases c0
  have far : ∀ i, ((V.setCell ⟨pr, 0, none⟩ x).setCell ⟨pr, 1, none⟩ y).cell? ⟨g, i, none⟩ = V.cell? ⟨g, i, none⟩ := fun i => by
    rw [World.cell?_setCell_far _ ⟨pr, 1, none⟩ ⟨g, i, none⟩ _ hne, World.cell?_setCell_far _ ⟨pr, 0, none⟩ ⟨g, i, none⟩ _ hne]
  refine .inr ⟨⟨g, u, e, ?_, (far 0).trans c0, (far 1).trans c1, (far 2).trans c2, hu⟩, by simp, by simp, hk⟩
  have z1 := (grown_set V pr 0 x).size
  have z2 := (grown_set (V.setCell ⟨pr, 0, none⟩ x) pr 1 y).size
  omega
/-- The next ballot: number, node, links, reason. -/
def Cf.next (c : Cf) (n m : Int) (v : Bool) : Int × Int × List Lk × Int :=
  if v = false then (0, 0, [⟨ballotN, 0⟩], 181) else if n = 0 then (1, 0, [], 0) else if n = (c.mn : Int) ∧ m = 2 * c.f then (0, 0, [⟨ballotN, 0⟩], 183) else if m < 2 * c.f then (n, m + 1, [], 0) else (n + 1, 0, [], 0)
set_option maxRecDepth 10000 in
set_option maxHeartbeats 400000 in
theorem nodes_raw {w : World} {p : Nat} {f : Int} (hc : w.cell? ⟨p, 0, none⟩ = some (.int .i64 f)) (h1 : 1 ≤ f) (h3 : f ≤ 3) :
    Calls Try.prog 29 #[.pointer (some ⟨p, 0, none⟩)] w fun e w' => e = .returned (.int .i64 (2 * f + 1)) ∧ w' = w := by
  have HM : Hid (Calls Try.prog 53 #[.pointer (some ⟨p, 0, none⟩)] w fun e w' => e = .returned (.bool true) ∧ w' = w) := by
    go_enter Try.func53, Try.ntmps53
    go_wp2
    go_ret
    exact ⟨by simp; omega, rfl⟩
  go_enter Try.func29, Try.ntmps29
  go_wp2_with fail
  refine HM.out.mono ?_
  rintro e w1 ⟨rfl, rfl⟩
  go_wp2
  go_ret
  exact ⟨rfl, rfl⟩
end Go.Proofs.Ytneginefcloceaa
