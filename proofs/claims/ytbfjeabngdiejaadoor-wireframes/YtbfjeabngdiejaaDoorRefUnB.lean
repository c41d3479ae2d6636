import Derived.Test.YtbfjeabngdiejaaDoorRefUn
import Derived.Deep.RegionHeld
namespace Go.Proofs.YtbfjeabngdiejaaDoor
open Go.RowKit Crc

set_option maxHeartbeats 800000 in
theorem un_version (b off : Nat) (n cap v : Nat) (w : World) (hbw : b < w.heap.size) (h12 : 12 ≤ n) (hl : n ≤ 65507) (k0 : w.cell? ⟨b, off, none⟩ = some (.int .u8 81)) (k1 : w.cell? ⟨b, off + 1, none⟩ = some (.int .u8 77)) (k2 : w.cell? ⟨b, off + 2, none⟩ = some (.int .u8 (v : Int))) (hv : v ≠ 1) :
    Calls Tryd.prog 23 #[.slice (some ⟨b, off, none⟩) n cap] w fun e w' => e = .returned (badV (2, 23)) ∧ Below w.heap.size w w' := by
  have h' : decide ((65507 : Int) < (n : Int)) = false := by simp; omega
  have h2 : decide ((n : Int) < 12) = false := by simp; omega
  have c2 : ((v : Int) != 1) = true := by simp; omega
  clear hv
  go_enter Tryd.func23, Tryd.ntmps23
  go_wp2_with fail
  refine bodyPost_ret (v := badV (2, 23)) (by simp [badV, results, Tryd.results23, go_sem]) rfl ⟨rfl, ?_⟩
  repeat (first | exact Below.refl _ _ | exact Nat.le_refl _ | apply Below.setCell | apply Below.alloc)

set_option maxHeartbeats 1600000 in
theorem un_len (b off : Nat) (n cap c4 c5 c6 c7 : Nat) (w : World) (hbw : b < w.heap.size) (h12 : 12 ≤ n) (hl : n ≤ 65507) (k0 : w.cell? ⟨b, off, none⟩ = some (.int .u8 81)) (k1 : w.cell? ⟨b, off + 1, none⟩ = some (.int .u8 77)) (k2 : w.cell? ⟨b, off + 2, none⟩ = some (.int .u8 1))
  (k4 : w.cell? ⟨b, off + 4, none⟩ = some (.int .u8 (c4 : Int))) (k5 : w.cell? ⟨b, off + 5, none⟩ = some (.int .u8 (c5 : Int))) (k6 : w.cell? ⟨b, off + 6, none⟩ = some (.int .u8 (c6 : Int))) (k7 : w.cell? ⟨b, off + 7, none⟩ = some (.int .u8 (c7 : Int)))
  (h4 : c4 < 256) (h5 : c5 < 256) (h6 : c6 < 256) (h7 : c7 < 256) (hne : n ≠ 12 + (((c4 * 256 + c5) * 256 + c6) * 256 + c7)) :
    Calls Tryd.prog 23 #[.slice (some ⟨b, off, none⟩) n cap] w fun e w' => e = .returned (badV (if n < 12 + (((c4 * 256 + c5) * 256 + c6) * 256 + c7) then (n, 20) else (12 + (((c4 * 256 + c5) * 256 + c6) * 256 + c7), 28))) ∧ Below w.heap.size w w' := by
  have h' : decide ((65507 : Int) < (n : Int)) = false := by simp; omega
  have h2 : decide ((n : Int) < 12) = false := by simp; omega
  obtain ⟨L, hL⟩ : ∃ L, L = ((c4 * 256 + c5) * 256 + c6) * 256 + c7 := ⟨_, rfl⟩
  have he : (c4 : Int) * 16777216 + (c5 : Int) * 65536 + (c6 : Int) * 256 + (c7 : Int) = (L : Int) := by omega
  have hLb : L ≤ 4294967295 := by omega
  rw [← hL] at hne ⊢
  clear hL
  have j4 : (4 : Int) < (n : Int) := by omega
  have j5 : (5 : Int) < (n : Int) := by omega
  have j6 : (6 : Int) < (n : Int) := by omega
  have j7 : (7 : Int) < (n : Int) := by omega
  by_cases hlt : n < 12 + L
  · have d1 : decide ((n : Int) < 12 + (L : Int)) = true := by simp; omega
    rw [if_pos hlt]
    clear hne hlt
    go_enter Tryd.func23, Tryd.ntmps23
    go_wp2_with fail
    go_quiet (fail)
    go_wp2_with fail
    refine bodyPost_ret (v := badV (n, 20)) (by simp [badV, results, Tryd.results23, go_sem]) rfl ⟨rfl, ?_⟩
    repeat (first | exact Below.refl _ _ | exact Nat.le_refl _ | apply below_drewN | apply Below.setCell | apply Below.alloc)
  · have d1 : decide ((n : Int) < 12 + (L : Int)) = false := by simp; omega
    have d2 : decide (12 + (L : Int) < (n : Int)) = true := by simp; omega
    rw [if_neg hlt]
    clear hne hlt
    go_enter Tryd.func23, Tryd.ntmps23
    go_wp2_with fail
    go_quiet (fail)
    go_wp2_with fail
    refine bodyPost_ret (v := badV (12 + L, 28)) (by simp [badV, results, Tryd.results23, go_sem]) rfl ⟨rfl, ?_⟩
    repeat (first | exact Below.refl _ _ | exact Nat.le_refl _ | apply below_drewN | apply Below.setCell | apply Below.alloc)
end Go.Proofs.YtbfjeabngdiejaaDoor
