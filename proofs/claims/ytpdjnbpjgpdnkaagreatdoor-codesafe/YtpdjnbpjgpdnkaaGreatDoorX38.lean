import Derived.Test.YtpdjnbpjgpdnkaaGreatDoorX16
import Derived.Test.YtpdjnbpjgpdnkaaGreatDoorX17
import Derived.Test.YtpdjnbpjgpdnkaaGreatDoorX21
namespace Go.Proofs.YtpdjnbpjgpdnkaaGreatDoor
open Go.RowKit

theorem Lb.cells {W : World} {g : Pg} {p : Pv} {rb : Nat} {w : World} (h : Lb W g p rb w) : w.cell? ⟨W.heap.size, 0, none⟩ = some (.slice g.ca p.nc g.cc) ∧ w.cell? ⟨W.heap.size, 1, none⟩ = some (.slice g.sa p.ns g.sc) ∧ w.cell? ⟨W.heap.size, 2, none⟩ = some (.int .i64 (p.en 0)) ∧ w.cell? ⟨W.heap.size, 3, none⟩ = some (.int .i64 (p.en 1)) ∧ w.cell? ⟨W.heap.size, 4, none⟩ = some (.int .i64 (p.en 2)) ∧ w.cell? ⟨W.heap.size, 5, none⟩ = some (.int .i64 (p.en 3)) ∧ w.cell? ⟨W.heap.size, 6, none⟩ = some (.int .i64 (p.en 4)) ∧ w.cell? ⟨W.heap.size, 7, none⟩ = some (.int .i64 (p.en 5)) ∧ w.cell? ⟨W.heap.size, 8, none⟩ = some (.slice g.ia p.n g.ic) ∧ W.heap.size < w.heap.size :=
 ⟨block_cell h.prg 0, block_cell h.prg 1, block_cell h.prg 2, block_cell h.prg 3, block_cell h.prg 4, block_cell h.prg 5, block_cell h.prg 6, block_cell h.prg 7, block_cell h.prg 8, block_lt h.prg⟩
theorem lb_new {W W2 : World} {g : Pg} {p : Pv} (hW : (W.alloc (.cells (g.cs p).toArray 27)).alloc (.cells #[.slice none 0 0, .slice none 0 0, .int .i64 0, .int .i64 0, .int .i64 0, .int .i64 0, .int .i64 0, .int .i64 0, .slice none 0 0] 27) = W2) : Lb W g p (W.heap.size + 1) W2 := by
 have e1 : (W.alloc (.cells (g.cs p).toArray 27)).heap.size = W.heap.size + 1 := by simp
 refine ⟨?_, ?_, ?_⟩
 ·rw [← hW]
  exact ((below_alloc1 _ _).block _ (by rw [e1]; omega)).trans (alloc_atK _ _)
 ·rw [← hW, ← e1]
  exact alloc_atK _ _
 ·rw [← hW]; exact (below_alloc1 W _).alloc (by simp) _
theorem cell_two_new (w : World) (x y : Value) (t : TypeId) : ∀ j u, [x, y][j]? = some u → (w.alloc (.cells #[x, y] t)).cell? ((⟨w.heap.size, 0, none⟩ : Addr).add j) = some u := by
 intro j u hj
 have e : (⟨w.heap.size, 0, none⟩ : Addr).add j = ⟨w.heap.size, j, none⟩ := by
  rcases j with _ | j <;> simp [Addr.add]
 rw [← hj, e]
 exact (World.cell?_alloc_new w #[x, y] t j).trans (by simp)
theorem Tryz.infoU : (Tryz.prog.info? 28).map (fun i => (i.zero, i.size, i.bytes)) = some (some (.int .u64 0), 1, 8) := by kernel_rfl
theorem Tryz.infoN : (Tryz.prog.info? 63).map (fun i => (i.zero, i.size, i.bytes)) = some (some (.agg #[.int .i64 0, .int .i64 0]), 2, 16) := by kernel_rfl
end Go.Proofs.YtpdjnbpjgpdnkaaGreatDoor
namespace Go.Proofs.YtpdjnbpjgpdnkaaGreatDoor
open Go.RowKit

end Go.Proofs.YtpdjnbpjgpdnkaaGreatDoor
namespace Go.Proofs.YtpdjnbpjgpdnkaaGreatDoor
open Go.RowKit

theorem rowC_nums (p : Pv) : ∀ n, rowC p n = nums2 p.op p.arg n
 | 0 => rfl
 | n + 1 => by rw [rowC_succ, nums2_next, rowC_nums p n]
theorem ld_fill2 {W : World} {g : Pg} {p : Pv} {rb cb : Nat} {va vb vc : Value} {ja jb jc : Nat} {xa xb xc : List Value} {w : World} (h : Lb W g p rb w) (hc : w.heap[cb]? = some (.cells #[.slice none 0 0, .slice none 0 0, .int .i64 0, .int .i64 0, .int .i64 0, .int .i64 0, .int .i64 0, .int .i64 0, .slice none 0 0] 27 (0, 0))) (ra : w.ownsRow W.heap.size 28 1 va ja xa) (rB : w.ownsRow W.heap.size 3 1 vb jb xb) (rC : w.ownsRow W.heap.size 63 2 vc jc xc) (lc : W.heap.size ≤ cb) (np : cb ≠ W.heap.size) (nr : cb ≠ rb) :
  Ld W g p rb cb va vb vc ja jb jc xa xb xc (set9 w cb va vb (.int .i64 (p.en 0)) (.int .i64 (p.en 1)) (.int .i64 (p.en 2)) (.int .i64 (p.en 3)) (.int .i64 (p.en 4)) (.int .i64 (p.en 5)) vc) := by
 have G := set9_grown w cb va vb (.int .i64 (p.en 0)) (.int .i64 (p.en 1)) (.int .i64 (p.en 2)) (.int .i64 (p.en 3)) (.int .i64 (p.en 4)) (.int .i64 (p.en 5)) vc
 exact ⟨(G.block _ (block_lt h.prg) (by simpa using fun e => np e.symm)).trans h.prg, (G.block _ (block_lt h.res) (by simpa using fun e => nr e.symm)).trans h.res, set9_at hc _ _ _ _ _ _ _ _ _, ra.kept G (.inr (own_off2 ra (by decide) hc)), rB.kept G (.inr (own_off2 rB (by decide) hc)), rC.kept G (.inr (own_off2 rC (by decide) hc)), h.bel.trans (below_of_grown G lc h.bel.size), lc, np, nr⟩
end Go.Proofs.YtpdjnbpjgpdnkaaGreatDoor
