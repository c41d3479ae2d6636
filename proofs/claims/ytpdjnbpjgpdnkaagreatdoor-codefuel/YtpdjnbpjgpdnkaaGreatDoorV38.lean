import Derived.Test.YtpdjnbpjgpdnkaaGreatDoorV22
import Derived.Test.YtpdjnbpjgpdnkaaGreatDoorV19
namespace Go.Proofs.YtpdjnbpjgpdnkaaGreatDoor
open Go.RowKit

end Go.Proofs.YtpdjnbpjgpdnkaaGreatDoor
namespace Go.Proofs.YtpdjnbpjgpdnkaaGreatDoor
open Go.RowKit

theorem rowC_nums (p : Pv) : ∀ n, rowC p n = nums2 p.op p.arg n
 | 0 => rfl
 | n + 1 => by rw [rowC_succ, nums2_next, rowC_nums p n]
theorem ld_fill2 {W : World} {g : Pg} {p : Pv} {rb cb : Nat} {va vb vc : Value} {ja jb jc : Nat} {xa xb xc : List Value} {w : World} (h : Lb W g p rb w) (hc : w.heap[cb]? = some (.cells #[.slice none 0 0, .slice none 0 0, .int .i64 0, .int .i64 0, .int .i64 0, .int .i64 0, .int .i64 0, .int .i64 0, .slice none 0 0] 27 (0, 0))) (ra : w.ownsRow W.heap.size 28 1 va ja xa) (rB : w.ownsRow W.heap.size 3 1 vb jb xb) (rC : w.ownsRow W.heap.size 63 2 vc jc xc) (lc : W.heap.size ≤ cb) (np : cb ≠ W.heap.size) (nr : cb ≠ rb) :
  Ld W g p rb cb va vb vc ja jb jc xa xb xc (set9 w cb va vb (.int .i64 (p.en 0)) (.int .i64 (p.en 1)) (.int .i64 (p.en 2)) (.int .i64 (p.en 3)) (.int .i64 (p.en 4)) (.int .i64 (p.en 5)) vc) := by
 have G := set9_grown w cb va vb (.int .i64 (p.en 0)) (.int .i64 (p.en 1)) (.int .i64 (p.en 2)) (.int .i64 (p.en 3)) (.int .i64 (p.en 4)) (.int .i64 (p.en 5)) vc
 exact ⟨(G.block _ (block_lt h.prg) (by simpa using fun e => np e.symm)).trans h.prg, (G.block _ (block_lt h.res) (by simpa using fun e => nr e.symm)).trans h.res, set9_at hc _ _ _ _ _ _ _ _ _, ra.kept G (.inr (own_off2 ra (by decide) hc)), rB.kept G (.inr (own_off2 rB (by decide) hc)), rC.kept G (.inr (own_off2 rC (by decide) hc)), h.bel.trans (below_of_grown G lc h.bel.size), lc, np, nr⟩
end Go.Proofs.YtpdjnbpjgpdnkaaGreatDoor
