import Derived.Test.YtgeacmhofgnkfaaLNobI
import Derived.Test.YtgeacmhofgnkfaaLNobG
import Derived.Maps.OwnSet
namespace Go.Proofs.Ytgeacmhofgnkfaa
open Go.RowKit

theorem cell_of_cells {w : World} {p : Nat} {c : Array Value} {t : TypeId} (h : w.heap[p]? = some (.cells c t (0, 0))) (k : Nat) : w.cell? ⟨p, k, none⟩ = c[k]? := by simp [World.cell?, h]
theorem frozen_of_cells {w : World} {p : Nat} {c : Array Value} {t : TypeId} (h : w.heap[p]? = some (.cells c t (0, 0))) (k : Nat) : w.frozen? ⟨p, k, none⟩ = false := by simp [World.frozen?, h]

/-- All but two blocks lie as they lay. -/
structure NewK (a p : Nat) (w w' : World) : Prop where
  os : w'.os = w.os
  output : w'.output = w.output
  tape : w'.tape = w.tape
  size : w.heap.size ≤ w'.heap.size
  block : ∀ k, k < w.heap.size → k ≠ a → k ≠ p → w'.heap[k]? = w.heap[k]?
theorem NewK.below {a p : Nat} {w w' : World} (h : NewK a p w w') {n : Nat} (ha : n ≤ a) (hp : n ≤ p) (hn : n ≤ w.heap.size) : Below n w w' :=
  ⟨h.os, h.tape, h.output, h.size, fun k hk => h.block k (by omega) (by omega) (by omega)⟩

set_option maxRecDepth 10000 in
theorem made_new {w : World} {p a : Nat} (c1 : w.cell? ⟨p, 1, none⟩ = some (.map (some a))) :
    Calls Try.prog 18 #[.pointer (some ⟨p, 0, none⟩)] w fun e w' => e = .returned (.bool true) ∧ w' = w := by
  have hm := map_some a w
  go_enter Try.func18, Try.ntmps18
  go_wp2
  go_ret
  exact ⟨rfl, rfl⟩

set_option maxRecDepth 10000 in
set_option maxHeartbeats 800000 in
theorem create_new {w : World} {a b p : Nat} (h : NewL w a b p) :
    Calls Try.prog 5 #[.pointer (some ⟨p, 0, none⟩), .int .u64 1, .int .u64 1, .int .u64 1] w fun e w' => e = .returned (.int .i64 0) ∧ NewK a p w w' := by
  have c1 := (cell_of_cells h.lp 1).trans (led_1 a b)
  have hlt : p < w.heap.size := World.block_lt_of_cell? w ⟨p, 1, none⟩ c1
  have hla : a < w.heap.size := (Array.getElem?_eq_some_iff.1 h.ma).1
  have hpa : p ≠ a := by
    intro e
    have h1 := h.lp
    rw [e, h.ma] at h1
    cases h1
  have HM := hide (made_new c1)
  have hl := look_none h.ma 1 (by decide)
  have hma : ∀ o, (w.alloc o).heap[a]? = some (.map #[] 0) := fun o => ((World.grownBy_alloc w o none).block a hla (by simp)).trans h.ma
  have hlp : ∀ o, (w.alloc o).heap[p]? = some (.cells (led a b) 37 (0, 0)) := fun o => ((World.grownBy_alloc w o none).block p hlt (by simp)).trans h.lp
  have hlen : ∀ o, (Builtin.len_ #[25] 3 #[.map (some a)]).run Try.prog (w.alloc o) = .ok (.int .i64 0) (w.alloc o) := fun o => (own_empty (hma o)).len Try.underlying25 _
  have HF : Hid (∀ o, _) := fun o => full_one (w := w.alloc o) (p := p) ((cell_of_cells (hlp o) 3).trans (led_3 a b))
  have HS : Hid (∀ o, Calls Try.prog 20 #[.pointer (some ⟨p, 0, none⟩), .agg #[.int .u64 1, .int .u64 1, .int .u64 0, .int .u64 1]] (w.alloc o) fun e w' => e = .returned (.tuple #[]) ∧ Hid (∀ k x y z, Calls Try.prog 21 #[.pointer (some ⟨p, 0, none⟩), .int .i64 k, .int .u64 x, .int .u64 y, .int .u64 z] w' fun e w2 => e = .returned (.tuple #[]) ∧ Hid (NewK a p w w2))) := fun o => by
    have hg0 := World.grownBy_alloc w o (some a)
    refine (setacc_one (w := w.alloc o) (p := p) (a := a) ((cell_of_cells (hlp o) 1).trans (led_1 a b)) ((cell_of_cells (hlp o) 324).trans (led_324 a b)) (hma o) hpa).mono ?_
    rintro e w' ⟨rfl, hg⟩
    refine ⟨rfl, fun k x y z => ?_⟩
    have hl2 : w'.heap[p]? = some (.cells (led a b) 37 (0, 0)) := (hg.block p (by have := hg0.size; omega) (by simpa using hpa)).trans (hlp o)
    refine (lwrite_one (w := w') (p := p) k x y z ((cell_of_cells hl2 3).trans (led_3 a b)) ((cell_of_cells hl2 9).trans (led_9 a b)) ((cell_of_cells hl2 10).trans (led_10 a b)) ((cell_of_cells hl2 11).trans (led_11 a b)) ((cell_of_cells hl2 12).trans (led_12 a b)) ((cell_of_cells hl2 13).trans (led_13 a b)) ((cell_of_cells hl2 324).trans (led_324 a b)) (frozen_of_cells hl2)).mono ?_
    rintro e w2 ⟨rfl, hg2⟩
    exact ⟨rfl, (hg2.os.trans hg.os).trans hg0.os, (hg2.output.trans hg.output).trans hg0.output, (hg2.tape.trans hg.tape).trans hg0.tape, Nat.le_trans hg0.size (Nat.le_trans hg.size hg2.size), fun q hq h1 h2 => (hg2.block q (by have := hg0.size; have := hg.size; omega) (by simpa using h2)).trans ((hg.block q (by have := hg0.size; omega) (by simpa using h1)).trans (hg0.block q hq (by simpa using h1)))⟩
  clear h hma hlp hla
  go_enter Try.func5, Try.ntmps5
  go_wp2_with fail
  refine HM.out.mono ?_
  rintro e w1 ⟨rfl, rfl⟩
  go_wp2_with fail
  refine (HF.out _).mono ?_
  rintro e w2 ⟨rfl, rfl⟩
  go_wp2_with fail
  refine (HS.out _).mono ?_
  rintro e w3 ⟨rfl, HW⟩
  go_wp2_with fail
  refine (HW.out _ _ _ _).mono ?_
  rintro e w4 ⟨rfl, HK⟩
  go_wp2
  go_ret
  exact ⟨rfl, HK.out⟩
end Go.Proofs.Ytgeacmhofgnkfaa
