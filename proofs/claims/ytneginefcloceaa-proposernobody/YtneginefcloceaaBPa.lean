import Derived.Test.YtneginefcloceaaBSk
import Derived.Laws.Externs
namespace Go.Proofs.Ytneginefcloceaa
open Go.RowKit

/-- The program's group, as it lies: c's cells. -/
def PG (W : World) (a : Option Addr) (c : Cf) : Prop := ∃ p, a = some ⟨p, 0, none⟩ ∧ W.heap[p]? = some (.cells c.cells 119 (0, 0))
theorem PG.kept {W W' : World} {a : Option Addr} {c : Cf} (h : PG W a c) (hb : Below W.heap.size W W') : PG W' a c := by
  obtain ⟨p, h1, h2⟩ := h
  exact ⟨p, h1, (hb.block _ (block_lt h2)).trans h2⟩
theorem PG.cells {W : World} {a : Option Addr} {c : Cf} (h : PG W a c) : ∃ p, a = some ⟨p, 0, none⟩ ∧ p < W.heap.size ∧ W.cell? ⟨p, 0, none⟩ = some (.int .i64 c.f) ∧ W.cell? ⟨p, 3, none⟩ = some (.int .u64 (c.win : Nat)) ∧ W.cell? ⟨p, 8, none⟩ = some (.int .u64 (c.mn : Nat)) ∧ W.cell? ⟨p, 9, none⟩ = some (.int .u64 (c.ms : Nat)) := by
  obtain ⟨p, h1, h2⟩ := h
  exact ⟨p, h1, block_lt h2, block_cell h2 0, block_cell h2 3, block_cell h2 8, block_cell h2 9⟩
/-- No group that New made: nil, or one whose F is 0. -/
def Dead (W : World) (a : Option Addr) : Prop := a = none ∨ ∃ p, a = some ⟨p, 0, none⟩ ∧ p < W.heap.size ∧ W.cell? ⟨p, 0, none⟩ = some (.int .i64 0)
theorem Dead.kept {W W' : World} {a : Option Addr} (h : Dead W a) (hb : Below W.heap.size W W') : Dead W' a := by
  rcases h with h | ⟨p, h1, h2, h3⟩
  · exact .inl h
  · exact .inr ⟨p, h1, Nat.lt_of_lt_of_le h2 hb.size, (hb.cell (p := ⟨p, 0, none⟩) h2).trans h3⟩
set_option maxRecDepth 10000 in
set_option maxHeartbeats 400000 in
theorem made_dead {w : World} {a : Option Addr} (h : Dead w a) :
    Calls Try.prog 53 #[.pointer a] w fun e w' => e = .returned (.bool false) ∧ w' = w := by
  rcases h with rfl | ⟨p, rfl, _, hc⟩
  · go_enter Try.func53, Try.ntmps53
    go_wp2
    go_ret
    exact ⟨rfl, rfl⟩
  · go_enter Try.func53, Try.ntmps53
    go_wp2
    go_ret
    exact ⟨rfl, rfl⟩
set_option maxRecDepth 10000 in
set_option maxHeartbeats 400000 in
theorem made_live {w : World} {a : Option Addr} {c : Cf} (h : PG w a c) (hk : c.Ok) :
    Calls Try.prog 53 #[.pointer a] w fun e w' => e = .returned (.bool true) ∧ w' = w := by
  obtain ⟨p, rfl, _, hc, -, -, -⟩ := h.cells
  have h1 := hk.f1
  clear h hk
  generalize c.f = f at *
  go_enter Try.func53, Try.ntmps53
  go_wp2
  go_ret
  exact ⟨by simp; omega, rfl⟩
theorem add64_run (x y : Nat) (w : World) : (callFunc 72 #[.int .u64 (x : Nat), .int .u64 (y : Nat), .int .u64 0]).run Try.prog w =
    .ok (.value (.tuple #[.int .u64 (((x + y) % 18446744073709551616 : Nat) : Int), .int .u64 (((x + y) / 18446744073709551616 : Nat) : Int)])) w := by
  rw [run_callFunc_extern (fn := Try.f72) Try.func72 (by kernel_rfl) (by kernel_rfl) (by kernel_rfl) (e := add64Entry) (by kernel_rfl), run_add64 x y 0 (by omega) (by omega) (by omega) (by omega)]
  simp only [Result.andThen]
  congr 5 <;> omega
set_option maxRecDepth 10000 in
set_option maxHeartbeats 400000 in
theorem add_any (a b most : Nat) (w : World) (h1 : a < 18446744073709551616) (h2 : b < 18446744073709551616) (h3 : most < 18446744073709551616) :
    Calls Try.prog 70 #[.int .u64 (a : Nat), .int .u64 (b : Nat), .int .u64 (most : Nat)] w fun e w' => e = .returned (.int .u64 ((addB a b most : Nat) : Int)) ∧ w' = w := by
  have hr := add64_run a b
  by_cases g : a + b < 18446744073709551616
  · have e1 : (a + b) % 18446744073709551616 = a + b := Nat.mod_eq_of_lt g
    have e2 : (a + b) / 18446744073709551616 = 0 := Nat.div_eq_of_lt g
    simp only [e1, e2] at hr
    clear e1 e2
    have hv : Hid ((most < a + b → addB a b most = most) ∧ (¬ most < a + b → addB a b most = a + b)) := by show _ ∧ _; unfold addB; split <;> omega
    generalize addB a b most = v at *
    generalize a + b = s at *
    go_enter Try.func70, Try.ntmps70
    go_wp2
    · go_ret
      exact ⟨by rw [hv.out.1 (by assumption)]; rfl, rfl⟩
    · go_ret
      exact ⟨by rw [hv.out.2 (by assumption)]; rfl, rfl⟩
  · have e2 : (a + b) / 18446744073709551616 = 1 := by omega
    simp only [e2] at hr
    clear e2
    have hv : Hid (addB a b most = most) := by show _ = _; unfold addB; rw [if_pos (by omega)]
    generalize addB a b most = v at *
    generalize (a + b) % 18446744073709551616 = s at *
    go_enter Try.func70, Try.ntmps70
    go_wp2
    go_ret
    exact ⟨by rw [hv.out]; rfl, rfl⟩
end Go.Proofs.Ytneginefcloceaa
