import Derived.Test.YtgdliomkdkjlaaaPLawC
import Derived.Deep.RegionWith
namespace Go.Proofs.Ytgdliomkdkjlaaa
open Go.RowKit Crc

/-- What a read leaves: the reader a field further, the box as it was. -/
theorem after_read {lim p : Nat} {w w1 wx : World} {s' : RS} {o : Obj} (hx : wx = (w.alloc o).drew) (hp : p < w.heap.size) (hg : wx.grownBy w1 (some p)) (hr : RdS lim w1 p s') : (∀ j, w1.cell? ⟨w.heap.size, j, none⟩ = (w.alloc o).cell? ⟨w.heap.size, j, none⟩) ∧ Hid (RdS lim w1 p s' ∧ w.grownBy w1 (some p)) := by
  subst hx
  have hb := below_alloc w o
  refine ⟨fun j => ?_, hr, ?_⟩
  · exact World.cell?_of_block (w := w.alloc o) (w' := w1) (a := ⟨w.heap.size, j, none⟩) (hg.block w.heap.size (by show w.heap.size < (w.alloc o).heap.size; simp) (by simp; omega))
  · exact ⟨hg.os.trans hb.os, hg.tape.trans hb.tape, hg.output.trans hb.output, Nat.le_trans hb.size hg.size, fun k hk hne => (hg.block k (Nat.lt_of_lt_of_le hk hb.size) hne).trans (hb.block k hk)⟩

set_option maxRecDepth 10000 in
set_option maxHeartbeats 800000 in
theorem take_u64 (lim p : Nat) (f : Fl) (X R : List Nat) (s : RS) (w : World) (hN : f.N < 18446744073709551616) (h4 : f.K = 4) (hX : f.enc = some X) (hR : RdS lim w p s) (hrest : s.rest = X ++ R) :
    Calls Try.prog 24 #[.pointer (some ⟨p, 0, none⟩), .agg f.cells] w fun e w' => e = .returned (.bool true) ∧ RdS lim w' p (s.step X.length 0) ∧ w.grownBy w' (some p) := by
  obtain ⟨K, N, I, bo, bn, bc, B, S, M⟩ := f
  simp only at hN h4
  unfold Fl.cells
  simp only
  subst h4
  obtain rfl : big N 8 = X := by simpa [Fl.enc] using hX
  obtain ⟨a1, a2⟩ := ahead_big N 8 R (by simpa using hN)
  rw [← hrest] at a1 a2
  have HC : Hid (∀ o : Obj, Calls Try.prog 69 #[.pointer (some ⟨p, 0, none⟩)] (w.alloc o).drew fun e w1 => e = .returned (.int .u64 (N : Nat)) ∧ (∀ j, w1.cell? ⟨w.heap.size, j, none⟩ = (w.alloc o).cell? ⟨w.heap.size, j, none⟩) ∧ Hid (RdS lim w1 p (s.step (big N 8).length 0) ∧ w.grownBy w1 (some p))) := by
    intro o
    have hRa : RdS lim (w.alloc o).drew p s := (hR.kept (World.grownBy_alloc w o none) (fun g hg => by cases hg)).kept (w' := (w.alloc o).drew) (row := none) ⟨rfl, rfl, rfl, Nat.le_refl _, fun _ _ _ => rfl⟩ (fun g hg => by cases hg)
    refine (rU64_any lim p s _ hRa).mono ?_
    rintro e w1 ⟨rfl, hr, hg⟩
    rw [a2] at hr
    refine ⟨by rw [a1], ?_⟩
    rw [big_length]
    exact after_read rfl hR.plt hg hr
  clear hX hR hrest a1 a2
  go_enter Try.func24, Try.ntmps24
  go_wp2_with fail
  go_region_with (go_at_call 69; refine (HC.out _).mono ?_; rintro e w1 ⟨rfl, hcs, HP⟩; have hc1 := hcs 1; simp at hc1; clear hcs)
  all_goals go_wp2
  all_goals go_ret
  all_goals exact ⟨rfl, HP.out⟩
end Go.Proofs.Ytgdliomkdkjlaaa
