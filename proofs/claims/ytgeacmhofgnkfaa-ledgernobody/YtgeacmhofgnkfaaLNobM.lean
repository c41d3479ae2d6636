import Derived.Test.YtgeacmhofgnkfaaLNobL
namespace Go.Proofs.Ytgeacmhofgnkfaa
open Go.RowKit

/-- A call that came in. -/
structure OpS where
  (K A B C N : Int) (so : Option Addr) (sn sc : Nat)
def OpS.cells (o : OpS) : Array Value := #[.int .i64 o.K, .int .u64 o.A, .int .u64 o.B, .int .u64 o.C, .int .i64 o.N, .slice o.so o.sn o.sc]

set_option maxRecDepth 10000 in
set_option maxHeartbeats 1600000 in
theorem does_nob {w : World} {po : Option Addr} (h : Nob w po) (o : OpS) (hs : ShP w.heap.size w o.so o.sn) (h1 : 1 ≤ o.K) (h9 : o.K ≤ 9) :
    Calls Try.prog 6 #[.pointer po, .agg o.cells] w fun e w' => e = .returned (.int .i64 3) ∧ Below w.heap.size w w' := by
  obtain ⟨K, A, B, C, N, so, sn, sc⟩ := o
  simp only at hs h1 h9
  have hb := below_alloc w (.cells #[.int .i64 K, .int .u64 A, .int .u64 B, .int .u64 C, .int .i64 N, .slice so sn sc] 46)
  have hn := h.below hb
  have HB := hide hb
  have hcell : ∀ k v, (#[Value.int .i64 K, .int .u64 A, .int .u64 B, .int .u64 C, .int .i64 N, .slice so sn sc])[k]? = some v → (w.alloc (.cells #[.int .i64 K, .int .u64 A, .int .u64 B, .int .u64 C, .int .i64 N, .slice so sn sc] 46)).cell? ⟨w.heap.size, k, none⟩ = some v := fun k v hv => (World.cell?_alloc_new w _ _ _).trans hv
  have HS : Hid (Calls Try.prog 27 #[.slice so sn sc] (w.alloc (.cells #[.int .i64 K, .int .u64 A, .int .u64 B, .int .u64 C, .int .i64 N, .slice so sn sc] 46)).drew fun e w' => ∃ so' n' c', e = .returned (.slice so' n' c') ∧ w'.cell? ⟨w.heap.size, 1, none⟩ = some (.int .u64 A) ∧ w'.cell? ⟨w.heap.size, 5, none⟩ = some (.slice so sn sc) ∧ Hid (Below w.heap.size w w') ∧ Hid (Calls Try.prog 26 #[.pointer po, .int .u64 A, .slice so' n' c'] w' fun e w2 => e = .returned (.int .i64 3) ∧ w2 = w')) := by
    obtain ⟨W, hW⟩ : ∃ W, w.alloc (.cells #[.int .i64 K, .int .u64 A, .int .u64 B, .int .u64 C, .int .i64 N, .slice so sn sc] 46) = W := ⟨_, rfl⟩
    have hsz : W.heap.size = w.heap.size + 1 := by rw [← hW]; simp
    rw [hW] at hb hcell hn ⊢
    have hs' : ShP W.drew.heap.size W.drew so sn := by
      obtain ⟨a1, b, off, a2, a3, a4⟩ := hs.below hb
      exact ⟨a1, b, off, a2, fun h => by have := a3 h; show b < W.heap.size; omega, a4⟩
    refine (lendShares_any sc hs').mono ?_
    rintro e w' ⟨⟨so', n', c', rfl⟩, hb'⟩
    have hbW : Below W.heap.size W w' := ⟨hb'.os, hb'.tape, hb'.output, hb'.size, hb'.block⟩
    have hbw : Below w.heap.size w w' := hb.trans ⟨hb'.os, hb'.tape, hb'.output, hb'.size, fun k hk => hb'.block k (by show k < W.heap.size; omega)⟩
    exact ⟨so', n', c', rfl, (hbW.cell (p := ⟨w.heap.size, 1, none⟩) (by simp; omega)).trans (hcell 1 _ rfl), (hbW.cell (p := ⟨w.heap.size, 5, none⟩) (by simp; omega)).trans (hcell 5 _ rfl), hbw, settle_nob A so' n' c' (h.below hbw)⟩
  have HN := hide hn
  clear hs h hb hcell hn
  rw [show (OpS.mk K A B C N so sn sc).cells = #[.int .i64 K, .int .u64 A, .int .u64 B, .int .u64 C, .int .i64 N, .slice so sn sc] from rfl]
  have hK : K = 1 ∨ K = 2 ∨ K = 3 ∨ K = 4 ∨ K = 5 ∨ K = 6 ∨ K = 7 ∨ K = 8 ∨ K = 9 := by omega
  clear h1 h9
  rcases hK with rfl | rfl | rfl | rfl | rfl | rfl | rfl | rfl | rfl
  · go_enter Try.func6, Try.ntmps6
    go_wp2_with fail
    refine (create_nob _ _ _ HN.out).mono ?_
    rintro e w1 ⟨rfl, rfl⟩
    go_wp2
    go_ret
    exact ⟨rfl, HB.out⟩
  · go_enter Try.func6, Try.ntmps6
    go_wp2_with fail
    refine (close_nob _ HN.out).mono ?_
    rintro e w1 ⟨rfl, rfl⟩
    go_wp2
    go_ret
    exact ⟨rfl, HB.out⟩
  · go_enter Try.func6, Try.ntmps6
    go_wp2_with fail
    refine (move_nob _ _ _ HN.out).mono ?_
    rintro e w1 ⟨rfl, rfl⟩
    go_wp2
    go_ret
    exact ⟨rfl, HB.out⟩
  · go_enter Try.func6, Try.ntmps6
    go_wp2_with fail
    refine (hold_nob _ _ _ HN.out).mono ?_
    rintro e w1 ⟨rfl, rfl⟩
    go_wp2
    go_ret
    exact ⟨rfl, HB.out⟩
  · go_enter Try.func6, Try.ntmps6
    go_wp2_with fail
    refine (pay_nob _ _ _ HN.out).mono ?_
    rintro e w1 ⟨rfl, rfl⟩
    go_wp2
    go_ret
    exact ⟨rfl, HB.out⟩
  · go_enter Try.func6, Try.ntmps6
    go_wp2_with fail
    go_region_held (fun w' => w'.cell? ⟨w.heap.size, 1, none⟩ = some (.int .u64 A) ∧ w'.cell? ⟨w.heap.size, 5, none⟩ = some (.slice so sn sc)) (go_keep)
      (first | (go_at_call 27; refine HS.out.mono ?_; rintro e w1 ⟨so', n', c', rfl, h1, h5, HBw, HT⟩) | (go_at_call 26; refine HT.out.mono ?_; rintro e w2 ⟨rfl, rfl⟩))
    go_wp2
    go_ret
    exact ⟨rfl, HBw.out⟩
  · go_enter Try.func6, Try.ntmps6
    go_wp2_with fail
    refine (mark_nob HN.out).mono ?_
    rintro e w1 ⟨rfl, rfl⟩
    go_wp2
    go_ret
    exact ⟨rfl, HB.out⟩
  · go_enter Try.func6, Try.ntmps6
    go_wp2_with fail
    refine (undo_nob _ HN.out).mono ?_
    rintro e w1 ⟨rfl, rfl⟩
    go_wp2
    go_ret
    exact ⟨rfl, HB.out⟩
  · go_enter Try.func6, Try.ntmps6
    go_wp2_with fail
    refine (keep_nob _ HN.out).mono ?_
    rintro e w1 ⟨rfl, rfl⟩
    go_wp2
    go_ret
    exact ⟨rfl, HB.out⟩
end Go.Proofs.Ytgeacmhofgnkfaa
