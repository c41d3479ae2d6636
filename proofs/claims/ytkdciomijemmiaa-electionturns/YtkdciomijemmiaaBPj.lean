import Derived.Test.YtkdciomijemmiaaBPi
import Derived.Deep.DeepCutAuto
import Derived.Deep.RegionHeld3
namespace Go.Proofs.Ytkdciomijemmiaa
open Go.RowKit

/-- A ballot and an error. -/
def BalR (w : World) (n m : Int) (L : List Lk) (k : Int) (e : Ending) (w' : World) : Prop := ∃ ev, e = .returned (.tuple #[.agg #[.int .u64 n, .int .i64 m], ev]) ∧ Hid (ErrP w' L k ev ∧ Below w.heap.size w w')
theorem two_box (w : World) (o1 o2 : Obj) : ((w.alloc o1).alloc o2).heap[w.heap.size]? = some o1 ∧ ((w.alloc o1).alloc o2).heap[w.heap.size + 1]? = some o2 := by
  have e1 : (w.alloc o1).heap.size = w.heap.size + 1 := by simp
  refine ⟨(Below.heap_alloc _ _ _ (by rw [e1]; omega)).trans (alloc_atK _ _), ?_⟩
  have h := alloc_atK (w.alloc o1) o2
  rw [e1] at h
  exact h
/-- A ballot is laid into its box. -/
theorem bal_set {w V : World} {pr : Nat} {x0 y0 : Value} {t : TypeId} (hb : Below w.heap.size w V) (hp : w.heap.size ≤ pr) (hr : V.heap[pr]? = some (.cells #[x0, y0] t (0, 0))) (x y : Value) :
    Below w.heap.size w ((V.setCell ⟨pr, 0, none⟩ x).setCell ⟨pr, 1, none⟩ y) ∧ ((V.setCell ⟨pr, 0, none⟩ x).setCell ⟨pr, 1, none⟩ y).cell? ⟨pr, 0, none⟩ = some x ∧ ((V.setCell ⟨pr, 0, none⟩ x).setCell ⟨pr, 1, none⟩ y).cell? ⟨pr, 1, none⟩ = some y := by
  have h1 := hb.grown (grown_set V pr 0 x) hb.size (fun k e => by cases e; exact hp)
  have h2 := h1.grown (grown_set _ pr 1 y) h1.size (fun k e => by cases e; exact hp)
  have s1 := heap_setCell_same V pr 0 _ _ x hr
  simp only [List.setIfInBounds_toArray, List.set_cons_zero] at s1
  have s2 := heap_setCell_same _ pr 1 _ _ y s1
  simp only [List.setIfInBounds_toArray, List.set_cons_zero, List.set_cons_succ] at s2
  exact ⟨h2, block_cell s2 0, block_cell s2 1⟩
theorem err_set {V : World} {pr : Nat} {y0 : Value} {k0 : IntKind} {n0 : Int} {t : TypeId} {l : Lk} {ev : Value} {k : Int} (hc : Chain V.heap.size V [l] ev k) (hk : k ≠ 0) (hr : V.heap[pr]? = some (.cells #[.int k0 n0, y0] t (0, 0))) (x y : Value) :
    ErrP ((V.setCell ⟨pr, 0, none⟩ x).setCell ⟨pr, 1, none⟩ y) [l] k ev := by
  obtain ⟨g, u, e, hg, c0, c1, c2, hu⟩ := hc
  have hne : pr ≠ g := fun e => by subst e; rw [block_cell hr 0] at c0; cases c0
  have far : ∀ i, ((V.setCell ⟨pr, 0, none⟩ x).setCell ⟨pr, 1, none⟩ y).cell? ⟨g, i, none⟩ = V.cell? ⟨g, i, none⟩ := fun i => by
    rw [World.cell?_setCell_far _ ⟨pr, 1, none⟩ ⟨g, i, none⟩ _ hne, World.cell?_setCell_far _ ⟨pr, 0, none⟩ ⟨g, i, none⟩ _ hne]
  refine .inr ⟨⟨g, u, e, ?_, (far 0).trans c0, (far 1).trans c1, (far 2).trans c2, hu⟩, by simp, by simp, hk⟩
  have z1 := (grown_set V pr 0 x).size
  have z2 := (grown_set (V.setCell ⟨pr, 0, none⟩ x) pr 1 y).size
  omega
/-- The next ballot: number, node, links, reason. -/
def Cf.next (c : Cf) (n m : Int) (v : Bool) : Int × Int × List Lk × Int :=
  if v = false then (0, 0, [⟨ballotN, 0⟩], 181) else if n = 0 then (1, 0, [], 0) else if n = (c.mn : Int) ∧ m = 2 * c.f then (0, 0, [⟨ballotN, 0⟩], 183) else if m < 2 * c.f then (n, m + 1, [], 0) else (n + 1, 0, [], 0)
set_option maxRecDepth 10000 in
set_option maxHeartbeats 400000 in
theorem nodes_raw {w : World} {p : Nat} {f : Int} (hc : w.cell? ⟨p, 0, none⟩ = some (.int .i64 f)) (h1 : 1 ≤ f) (h3 : f ≤ 3) :
    Calls Try.prog 58 #[.pointer (some ⟨p, 0, none⟩)] w fun e w' => e = .returned (.int .i64 (2 * f + 1)) ∧ w' = w := by
  have HM : Hid (Calls Try.prog 51 #[.pointer (some ⟨p, 0, none⟩)] w fun e w' => e = .returned (.bool true) ∧ w' = w) := by
    go_enter Try.func51, Try.ntmps51
    go_wp2
    go_ret
    exact ⟨by simp; omega, rfl⟩
  go_enter Try.func58, Try.ntmps58
  go_wp2_with fail
  refine HM.out.mono ?_
  rintro e w1 ⟨rfl, rfl⟩
  go_wp2
  go_ret
  exact ⟨rfl, rfl⟩
set_option maxRecDepth 10000 in
set_option maxHeartbeats 400000 in
/-- Next, where the ballot is none to begin from. -/
theorem next_no {w : World} {a : Option Addr} (n m : Int) (k : Int) (hk : k ≠ 0)
    (hw : ∀ W, Below w.heap.size w W → Calls Try.prog 68 #[.pointer a, .agg #[.int .u64 n, .int .i64 m]] W fun e w' => e = .returned (.int .i64 k) ∧ Below W.heap.size W w') :
    Calls Try.prog 62 #[.pointer a, .agg #[.int .u64 n, .int .i64 m]] w (BalR w 0 0 [⟨ballotN, 0⟩] k) := by
  obtain ⟨W1, hW1⟩ : ∃ W1, (w.alloc (.cells #[.int .u64 n, .int .i64 m] 45)).alloc (.cells #[.int .u64 0, .int .i64 0] 45) = W1 := ⟨_, rfl⟩
  have B1 : Hid (Below w.heap.size w W1) := by rw [← hW1]; exact ((Below.refl _ w).alloc (Nat.le_refl _) _).alloc (by simp) _
  obtain ⟨t1, t2⟩ := two_box w (.cells #[.int .u64 n, .int .i64 m] 45) (.cells #[.int .u64 0, .int .i64 0] 45)
  obtain ⟨pb, hpb⟩ : ∃ p, w.heap.size = p := ⟨_, rfl⟩
  obtain ⟨pr, hpr⟩ : ∃ p, w.heap.size + 1 = p := ⟨_, rfl⟩
  rw [hW1, hpb] at t1
  rw [hW1, hpr] at t2
  have HT2 := hide t2
  have q0 := block_cell t1 0
  have q1 := block_cell t1 1
  have HWR := hide (hw W1 B1.out)
  have HRF := hide (fun W => refusalB (w := W) 0 k)
  have HPR : Hid (w.heap.size ≤ pr) := by show _ ≤ _; omega
  have HW1 := hide hW1
  have HPB := hide hpb
  have HPRE := hide hpr
  clear hW1 hpb hpr t1 t2 hw
  unfold BalR
  go_enter Try.func62, Try.ntmps62
  go_upto_region 1 with fail
  rw [HW1.out, HPRE.out, HPB.out]
  go_wp2_with fail
  refine HWR.out.mono ?_
  rintro e w2 ⟨rfl, b2⟩
  have B2 := hide (B1.out.trans (b2.mono B1.out.size))
  have T2 := hide ((b2.block _ (block_lt HT2.out)).trans HT2.out)
  clear b2 q0 q1 HT2 B1
  go_wp2_with fail
  refine (HRF.out _).mono ?_
  rintro e w3 ⟨g, rfl, G3⟩
  have T3 := hide ((G3.out.2.block _ (block_lt T2.out)).trans T2.out)
  have FIN := hide (bal_set (B2.out.trans (G3.out.2.mono B2.out.size)) HPR.out T3.out (.int .u64 0) (.int .i64 0))
  have FER := hide (err_set G3.out.1 hk T3.out (.int .u64 0) (.int .i64 0))
  have y0 := block_cell T3.out 0
  have y1 := block_cell T3.out 1
  have y2 := block_free T3.out 0
  have y3 := block_free T3.out 1
  clear G3 B2 T2 T3 HRF HWR
  go_wp2
  have z0 := FIN.out.2.1
  have z1 := FIN.out.2.2
  refine bodyPost_ret (v := .tuple #[.agg #[.int .u64 0, .int .i64 0], .iface 118 (.pointer (some ⟨g, 0, none⟩))]) (by simp [results, Try.results62, go_sem, z0, z1]) rfl ⟨_, rfl, FER.out, FIN.out.1⟩
end Go.Proofs.Ytkdciomijemmiaa
