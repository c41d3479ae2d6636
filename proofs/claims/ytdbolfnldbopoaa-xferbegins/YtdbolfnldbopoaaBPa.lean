import Derived.Test.YtdbolfnldbopoaaBSk
import Derived.Laws.Externs
namespace Go.Proofs.Ytdbolfnldbopoaa
open Go.RowKit

/-- The program's group, as it lies: c's cells. -/
def PG (W : World) (a : Option Addr) (c : Cf) : Prop := ∃ p, a = some ⟨p, 0, none⟩ ∧ W.heap[p]? = some (.cells c.cells 104 (0, 0))
theorem PG.kept {W W' : World} {a : Option Addr} {c : Cf} (h : PG W a c) (hb : Below W.heap.size W W') : PG W' a c := by
  obtain ⟨p, h1, h2⟩ := h
  exact ⟨p, h1, (hb.block _ (block_lt h2)).trans h2⟩
theorem PG.cells {W : World} {a : Option Addr} {c : Cf} (h : PG W a c) : ∃ p, a = some ⟨p, 0, none⟩ ∧ p < W.heap.size ∧ W.cell? ⟨p, 0, none⟩ = some (.int .i64 c.f) ∧ W.cell? ⟨p, 3, none⟩ = some (.int .u64 (c.win : Nat)) ∧ W.cell? ⟨p, 8, none⟩ = some (.int .u64 (c.mn : Nat)) ∧ W.cell? ⟨p, 9, none⟩ = some (.int .u64 (c.ms : Nat)) := by
  obtain ⟨p, h1, h2⟩ := h
  exact ⟨p, h1, block_lt h2, block_cell h2 0, block_cell h2 3, block_cell h2 8, block_cell h2 9⟩
/-- No group that New made: nil, or one whose F is 0. -/
def Dead (W : World) (a : Option Addr) : Prop := a = none ∨ ∃ p, a = some ⟨p, 0, none⟩ ∧ p < W.heap.size ∧ W.cell? ⟨p, 0, none⟩ = some (.int .i64 0)
theorem Dead.kept {W W' : World} {a : Option Addr} (h : Dead W a) (hb : Below W.heap.size W W') : Dead W' a := by
  rcases h with h | ⟨p, h1, h2, h3⟩
  · exact .inl h
  · exact .inr ⟨p, h1, Nat.lt_of_lt_of_le h2 hb.size, (hb.cell (p := ⟨p, 0, none⟩) h2).trans h3⟩
set_option maxRecDepth 10000 in
set_option maxHeartbeats 400000 in
theorem made_dead {w : World} {a : Option Addr} (h : Dead w a) :
    Calls Try.prog 50 #[.pointer a] w fun e w' => e = .returned (.bool false) ∧ w' = w := by
  rcases h with rfl | ⟨p, rfl, _, hc⟩
  · go_enter Try.func50, Try.ntmps50
    go_wp2
    go_ret
    exact ⟨rfl, rfl⟩
  · go_enter Try.func50, Try.ntmps50
    go_wp2
    go_ret
    exact ⟨rfl, rfl⟩
set_option maxRecDepth 10000 in
set_option maxHeartbeats 400000 in
theorem made_live {w : World} {a : Option Addr} {c : Cf} (h : PG w a c) (hk : c.Ok) :
    Calls Try.prog 50 #[.pointer a] w fun e w' => e = .returned (.bool true) ∧ w' = w := by
  obtain ⟨p, rfl, _, hc, -, -, -⟩ := h.cells
  have h1 := hk.f1
  clear h hk
  generalize c.f = f at *
  go_enter Try.func50, Try.ntmps50
  go_wp2
  go_ret
  exact ⟨by simp; omega, rfl⟩
end Go.Proofs.Ytdbolfnldbopoaa
