import Derived.Test.YtbfjeabngdiejaaDoorRefUnB
namespace Go.Proofs.YtbfjeabngdiejaaDoor
open Go.RowKit Crc

set_option maxHeartbeats 1600000 in
theorem un_sum (b off : Nat) (B : List Nat) (L cap : Nat) (w : World) (hn : B.length = 12 + L) (hbw : b < w.heap.size) (hl : L ≤ 65495) (hcap : 12 + L ≤ cap) (hB : ∀ x ∈ B, x < 256)
  (hc : ∀ i, i < 12 + L → w.cell? ⟨b, off + i, none⟩ = some (.int .u8 ((B.getD i 0 : Nat) : Int))) (hm : B.getD 0 0 = 81 ∧ B.getD 1 0 = 77 ∧ B.getD 2 0 = 1) (hL : L = ((B.getD 4 0 * 256 + B.getD 5 0) * 256 + B.getD 6 0) * 256 + B.getD 7 0)
  (hs : Crc.sum (B.take (8 + L)) ≠ lo4 (B.getD (8 + L) 0) (B.getD (9 + L) 0) (B.getD (10 + L) 0) (B.getD (11 + L) 0)) :
    Calls Tryd.prog 23 #[.slice (some ⟨b, off, none⟩) (12 + L) cap] w fun e w' => e = .returned (badV (8 + L, 24)) ∧ Below w.heap.size w w' := by
  have h' : decide ((65507 : Int) < 12 + (L : Int)) = false := by simp; omega
  have h2 : decide (12 + (L : Int) < 12) = false := by simp; omega
  have d1 : decide (12 + (L : Int) < 12 + (L : Int)) = false := by simp
  have k0 : w.cell? ⟨b, off, none⟩ = some (.int .u8 81) := by have := hc 0 (by omega); rw [hm.1] at this; exact this
  have k1 : w.cell? ⟨b, off + 1, none⟩ = some (.int .u8 77) := by have := hc 1 (by omega); rw [hm.2.1] at this; exact this
  have k2 : w.cell? ⟨b, off + 2, none⟩ = some (.int .u8 1) := by have := hc 2 (by omega); rw [hm.2.2] at this; exact this
  have k4 := hc 4 (by omega)
  have k5 := hc 5 (by omega)
  have k6 := hc 6 (by omega)
  have k7 := hc 7 (by omega)
  have k8 := hc (8 + L) (by omega)
  have k9 := hc (9 + L) (by omega)
  have k10 := hc (10 + L) (by omega)
  have k11 := hc (11 + L) (by omega)
  have h4 := getD_lt B hB 4
  have h5 := getD_lt B hB 5
  have h6 := getD_lt B hB 6
  have h7 := getD_lt B hB 7
  have h8 := getD_lt B hB (8 + L)
  have h9 := getD_lt B hB (9 + L)
  have h10 := getD_lt B hB (10 + L)
  have h11 := getD_lt B hB (11 + L)
  have HS : Hid (∀ w1 : World, w1.heap = (w.alloc (.cells #[.int .i64 0, .int .i64 0] 34)).heap → Calls Tryd.prog 22 #[.slice (some ⟨b, off, none⟩) (8 + L) cap] w1 fun e w' => e = .returned (.int .u32 (Crc.sum (B.take (8 + L)) : Nat)) ∧ w' = w1) := by
    intro w1 h1
    refine ref_any b off _ (B.take (8 + L)) (8 + L) cap w1 (fun _ => rfl) (by rw [List.length_take]; omega) (by omega) (fun x hx => hB x (List.mem_of_mem_take hx)) (fun i hi => ?_)
    rw [getD_take hi]
    refine (World.cell?_of_block (w := w.alloc (.cells #[.int .i64 0, .int .i64 0] 34)) (w' := w1) (a := ⟨b, off + i, none⟩) (by rw [h1])).trans ?_
    exact (((Below.refl _ w).alloc (Nat.le_refl _) _).cell (p := ⟨b, off + i, none⟩) hbw).trans (hc i (by omega))
  clear hc hm hn hB
  generalize B.getD 4 0 = c4 at *
  generalize B.getD 5 0 = c5 at *
  generalize B.getD 6 0 = c6 at *
  generalize B.getD 7 0 = c7 at *
  generalize B.getD (8 + L) 0 = s0 at *
  generalize B.getD (9 + L) 0 = s1 at *
  generalize B.getD (10 + L) 0 = s2 at *
  generalize B.getD (11 + L) 0 = s3 at *
  generalize Crc.sum (B.take (8 + L)) = S at *
  obtain ⟨T, hT⟩ : ∃ T, T = lo4 s0 s1 s2 s3 := ⟨_, rfl⟩
  rw [← hT] at hs
  unfold lo4 at hT
  have hTe : (s0 : Int) + (s1 : Int) * 256 + (s2 : Int) * 65536 + (s3 : Int) * 16777216 = (T : Int) := by omega
  have he : (c4 : Int) * 16777216 + (c5 : Int) * 65536 + (c6 : Int) * 256 + (c7 : Int) = (L : Int) := by omega
  have hne : ((T : Int) != (S : Int)) = true := by simp; omega
  clear hL hT hs
  have j4 : (4 : Int) < 12 + (L : Int) := by omega
  have j5 : (5 : Int) < 12 + (L : Int) := by omega
  have j6 : (6 : Int) < 12 + (L : Int) := by omega
  have j7 : (7 : Int) < 12 + (L : Int) := by omega
  go_enter Tryd.func23, Tryd.ntmps23
  go_wp2_with fail
  go_quiet (fail)
  go_wp2_with fail
  go_quiet (fail)
  go_wp2_with fail
  refine (HS.out _ ?_).mono ?_
  · rfl
  rintro e w1 ⟨rfl, rfl⟩
  go_wp2_with fail
  refine bodyPost_ret (v := badV (8 + L, 24)) (by simp [badV, results, Tryd.results23, go_sem]) rfl ⟨rfl, ?_⟩
  repeat (first | exact Below.refl _ _ | exact Nat.le_refl _ | apply below_drewN | apply Below.setCell | apply Below.alloc)
end Go.Proofs.YtbfjeabngdiejaaDoor
