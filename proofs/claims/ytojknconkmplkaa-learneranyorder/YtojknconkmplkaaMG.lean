import Derived.Test.YtojknconkmplkaaMF
import Derived.Deep.DeepCutAuto
import Derived.Deep.RegionHeld3
namespace Go.Proofs.Ytojknconkmplkaa
open Go.RowKit

/-- A ballot and an error. -/
def BalR (w : World) (n m : Int) (L : List Lk) (k : Int) (e : Ending) (w' : World) : Prop := ∃ ev, e = .returned (.tuple #[.agg #[.int .u64 n, .int .i64 m], ev]) ∧ Hid (ErrP w' L k ev ∧ Below w.heap.size w w')
theorem two_box (w : World) (o1 o2 : Obj) : ((w.alloc o1).alloc o2).heap[w.heap.size]? = some o1 ∧ ((w.alloc o1).alloc o2).heap[w.heap.size + 1]? = some o2 := by
  have e1 : (w.alloc o1).heap.size = w.heap.size + 1 := by simp
  refine ⟨(Below.heap_alloc _ _ _ (by rw [e1]; omega)).trans (alloc_atK _ _), ?_⟩
  have h := alloc_atK (w.alloc o1) o2
  rw [e1] at h
  exact h
/-- A ballot is laid into its box. -/
theorem bal_set {w V : World} {pr : Nat} {x0 y0 : Value} {t : TypeId} (hb : Below w.heap.size w V) (hp : w.heap.size ≤ pr) (hr : V.heap[pr]? = some (.cells #[x0, y0] t (0, 0))) (x y : Value) :
    Below w.heap.size w ((V.setCell ⟨pr, 0, none⟩ x).setCell ⟨pr, 1, none⟩ y) ∧ ((V.setCell ⟨pr, 0, none⟩ x).setCell ⟨pr, 1, none⟩ y).cell? ⟨pr, 0, none⟩ = some x ∧ ((V.setCell ⟨pr, 0, none⟩ x).setCell ⟨pr, 1, none⟩ y).cell? ⟨pr, 1, none⟩ = some y := by
  have h1 := hb.grown (grown_set V pr 0 x) hb.size (fun k e => by cases e; exact hp)
  have h2 := h1.grown (grown_set _ pr 1 y) h1.size (fun k e => by cases e; exact hp)
  have s1 := heap_setCell_same V pr 0 _ _ x hr
  simp only [List.setIfInBounds_toArray, List.set_cons_zero] at s1
  have s2 := heap_setCell_same _ pr 1 _ _ y s1
  simp only [List.setIfInBounds_toArray, List.set_cons_zero, List.set_cons_succ] at s2
  exact ⟨h2, block_cell s2 0, block_cell s2 1⟩
theorem err_set {V : World} {pr : Nat} {y0 : Value} {k0 : IntKind} {n0 : Int} {t : TypeId} {l : Lk} {ev : Value} {k : Int} (hc : Chain V.heap.size V [l] ev k) (hk : k ≠ 0) (hr : V.heap[pr]? = some (.cells #[.int k0 n0, y0] t (0, 0))) (x y : Value) :
    ErrP ((V.setCell ⟨pr, 0, none⟩ x).setCell ⟨pr, 1, none⟩ y) [l] k ev := by
  obtain ⟨g, u, e, hg, c0, c1, c2, hu⟩ := hc
  have hne : pr ≠ g := fun e => by subst e; rw [block_cell hr 0] at c0; cases c0
  have far : ∀ i, ((V.setCell ⟨pr, 0, none⟩ x).setCell ⟨pr, 1, none⟩ y).cell? ⟨g, i, none⟩ = V.cell? ⟨g, i, none⟩ := fun i => by
    rw [World.cell?_setCell_far _ ⟨pr, 1, none⟩ ⟨g, i, none⟩ _ hne, World.cell?_setCell_far _ ⟨pr, 0, none⟩ ⟨g, i, none⟩ _ hne]
  refine .inr ⟨⟨g, u, e, ?_, (far 0).trans c0, (far 1).trans c1, (far 2).trans c2, hu⟩, by simp, by simp, hk⟩
  have z1 := (grown_set V pr 0 x).size
  have z2 := (grown_set (V.setCell ⟨pr, 0, none⟩ x) pr 1 y).size
  omega
/-- The next ballot: number, node, links, reason. -/
def Cf.next (c : Cf) (n m : Int) (v : Bool) : Int × Int × List Lk × Int :=
  if v = false then (0, 0, [⟨ballotN, 0⟩], 181) else if n = 0 then (1, 0, [], 0) else if n = (c.mn : Int) ∧ m = 2 * c.f then (0, 0, [⟨ballotN, 0⟩], 183) else if m < 2 * c.f then (n, m + 1, [], 0) else (n + 1, 0, [], 0)
set_option maxRecDepth 10000 in
set_option maxHeartbeats 400000 in
theorem nodes_raw {w : World} {p : Nat} {f : Int} (hc : w.cell? ⟨p, 0, none⟩ = some (.int .i64 f)) (h1 : 1 ≤ f) (h3 : f ≤ 3) :
    Calls Try.prog 33 #[.pointer (some ⟨p, 0, none⟩)] w fun e w' => e = .returned (.int .i64 (2 * f + 1)) ∧ w' = w := by
  have HM : Hid (Calls Try.prog 46 #[.pointer (some ⟨p, 0, none⟩)] w fun e w' => e = .returned (.bool true) ∧ w' = w) := by
    go_enter Try.func46, Try.ntmps46
    go_wp2
    go_ret
    exact ⟨by simp; omega, rfl⟩
  go_enter Try.func33, Try.ntmps33
  go_wp2_with fail
  refine HM.out.mono ?_
  rintro e w1 ⟨rfl, rfl⟩
  go_wp2
  go_ret
  exact ⟨rfl, rfl⟩
end Go.Proofs.Ytojknconkmplkaa
namespace Go.Proofs.Ytojknconkmplkaa
open Go.RowKit

theorem two_cells (w : World) (a b c d : Value) (t : TypeId) : Below w.heap.size w ((w.alloc (.cells #[a, b] t)).alloc (.cells #[c, d] t)).drew ∧ ((w.alloc (.cells #[a, b] t)).alloc (.cells #[c, d] t)).drew.cell? ⟨w.heap.size, 0, none⟩ = some a ∧ ((w.alloc (.cells #[a, b] t)).alloc (.cells #[c, d] t)).drew.cell? ⟨w.heap.size, 1, none⟩ = some b ∧ ((w.alloc (.cells #[a, b] t)).alloc (.cells #[c, d] t)).drew.cell? ⟨w.heap.size + 1, 0, none⟩ = some c ∧ ((w.alloc (.cells #[a, b] t)).alloc (.cells #[c, d] t)).drew.cell? ⟨w.heap.size + 1, 1, none⟩ = some d := by
  obtain ⟨h1, h2⟩ := two_box w (.cells #[a, b] t) (.cells #[c, d] t)
  exact ⟨(((Below.refl _ w).alloc (Nat.le_refl _) _).alloc (by simp) _).drew, block_cell h1 0, block_cell h1 1, block_cell h2 0, block_cell h2 1⟩
end Go.Proofs.Ytojknconkmplkaa
namespace Go.Proofs.Ytojknconkmplkaa
open Go.RowKit

/-- A number and an error. -/
def NumR (w : World) (n : Int) (L : List Lk) (k : Int) (e : Ending) (w' : World) : Prop := ∃ ev, e = .returned (.tuple #[.int .u64 n, ev]) ∧ Hid (ErrP w' L k ev ∧ Below w.heap.size w w')
/-- The rank. -/
def Cf.rank (c : Cf) (n m : Int) : Int := if n = 0 then 0 else (n - 1) * (2 * c.f + 1) + m + 1
end Go.Proofs.Ytojknconkmplkaa
namespace Go.Proofs.Ytojknconkmplkaa
open Go.RowKit

theorem bal_neq (a c : Int) (b d : Int) (w : World) : (binOp BinOp.neq 39 (.agg #[.int .u64 a, .int .i64 b]) (.agg #[.int .u64 c, .int .i64 d])).run Try.prog w = .ok (.bool (!(decide (a = c) && decide (b = d)))) w := by
  by_cases h1 : a = c
  · subst h1
    by_cases h2 : b = d
    · subst h2; go_simp
    · go_simp
  · go_simp
theorem Cf.valid_iff (c : Cf) (n : Nat) (m : Int) : c.valid n m = true ↔ ((n : Int) = 0 ∧ m = 0) ∨ (1 ≤ (n : Int) ∧ (n : Int) ≤ (c.mn : Int) ∧ 0 ≤ m ∧ m < 2 * c.f + 1) := by
  unfold Cf.valid
  by_cases h0 : n = 0
  · rw [if_pos h0, decide_eq_true_eq]; omega
  · rw [if_neg h0, Bool.and_eq_true]
    unfold Cf.node
    rw [decide_eq_true_eq, decide_eq_true_eq]
    omega
theorem wrap_u (x : Int) (h1 : 0 ≤ x) (h2 : x < 18446744073709551616) : IntKind.u64.wrap x = x := by
  have e : IntKind.u64.wrap x = x % 18446744073709551616 := rfl
  rw [e]; omega
theorem Cf.Ok.f_cases {c : Cf} (h : c.Ok) : c.f = 1 ∨ c.f = 2 ∨ c.f = 3 := by
  have := h.f1; have := h.f3; omega
theorem rank_nonneg {c : Cf} (hok : c.Ok) {n : Nat} {m : Int} (hv : c.valid n m = true) : 0 ≤ c.rank n m ∧ c.rank n m ≤ (c.mn : Int) * (2 * c.f + 1) ∧ (c.mn : Int) * (2 * c.f + 1) ≤ 7696581394432 := by
  have h2 := hok.mn2
  unfold Cf.rank
  rcases (c.valid_iff n m).1 hv with h | h <;> rcases hok.f_cases with hf | hf | hf <;> rw [hf] <;> (try rw [hf] at h) <;> split <;> omega
theorem rank_zero {c : Cf} (hok : c.Ok) {n : Nat} {m : Int} (hv : c.valid n m = true) : c.rank n m = 0 → (n : Int) = 0 ∧ m = 0 := by
  unfold Cf.rank
  rcases (c.valid_iff n m).1 hv with h | h <;> rcases hok.f_cases with hf | hf | hf <;> rw [hf] <;> (try rw [hf] at h) <;> split <;> omega
theorem rank_back {c : Cf} (hok : c.Ok) {n : Nat} {m : Int} (hv : c.valid n m = true) (h0 : c.rank n m ≠ 0) : (c.rank n m - 1) / (2 * c.f + 1) + 1 = (n : Int) ∧ (c.rank n m - 1) % (2 * c.f + 1) = m := by
  unfold Cf.rank at *
  rcases (c.valid_iff n m).1 hv with h | h
  · rw [if_pos h.1] at h0; exact absurd rfl h0
  · rw [if_neg (by omega)]
    rcases hok.f_cases with hf | hf | hf <;> rw [hf] <;> rw [hf] at h <;> omega
theorem rank_lt {c : Cf} (hok : c.Ok) {n : Nat} {m : Int} (hv : c.valid n m = true) {n' : Nat} {m' : Int} (hv' : c.valid n' m' = true) : (c.rank n m < c.rank n' m' ↔ cmpB n m n' m' < 0) ∧ (c.rank n m = c.rank n' m' ↔ (n : Int) = n' ∧ m = m') := by
  have h1 := (c.valid_iff n m).1 hv
  have h2 := (c.valid_iff n' m').1 hv'
  unfold Cf.rank cmpB
  rcases hok.f_cases with hf | hf | hf <;> rw [hf] <;> rw [hf] at h1 h2 <;> (repeat' split) <;> constructor <;> constructor <;> intro h <;> omega
end Go.Proofs.Ytojknconkmplkaa
namespace Go.Proofs.Ytojknconkmplkaa
open Go.RowKit

/-- All replicas. -/
def allB (f : Int) : Int := if f = 1 then 7 else if f = 2 then 31 else 127
set_option maxRecDepth 10000 in
set_option maxHeartbeats 400000 in
theorem all_dead {w : World} {a : Option Addr} (h : Dead w a) :
    Calls Try.prog 51 #[.pointer a] w fun e w' => e = .returned (.int .u32 0) ∧ w' = w := by
  have HM := hide (nodes_dead h)
  clear h
  go_enter Try.func51, Try.ntmps51
  go_wp2_with fail
  refine HM.out.mono ?_
  rintro e w1 ⟨rfl, rfl⟩
  go_wp2
  go_ret
  exact ⟨rfl, rfl⟩
set_option maxRecDepth 10000 in
set_option maxHeartbeats 400000 in
theorem all_live {w : World} {a : Option Addr} {c : Cf} (h : PG w a c) (hk : c.Ok) :
    Calls Try.prog 51 #[.pointer a] w fun e w' => e = .returned (.int .u32 (allB c.f)) ∧ w' = w := by
  have HM := hide (nodes_live h hk)
  have hf := hk.f_cases
  clear h hk
  generalize c.f = f at *
  rcases hf with rfl | rfl | rfl
  all_goals
    go_enter Try.func51, Try.ntmps51
    go_wp2_with fail
    refine HM.out.mono ?_
    rintro e w1 ⟨rfl, rfl⟩
    go_wp2
    go_ret
    exact ⟨rfl, rfl⟩
end Go.Proofs.Ytojknconkmplkaa
