import Derived.Test.YtbfjeabngdiejaaDoorRefUnC
namespace Go.Proofs.YtbfjeabngdiejaaDoor
open Go.RowKit Crc

theorem keep_two {w : World} {g b o : Nat} {x u u' : Value} (h : w.cell? ⟨b, o, none⟩ = some x) (hb : ¬ b = g) : ((w.setCell ⟨g, 0, none⟩ u).setCell ⟨g, 1, none⟩ u').cell? ⟨b, o, none⟩ = some x := by
  rw [World.cell?_of_block (w := w.setCell ⟨g, 0, none⟩ u) (heap_setCell_other _ _ _ _ (by simpa using hb)), World.cell?_of_block (w := w) (heap_setCell_other _ _ _ _ (by simpa using hb))]
  exact h

set_option maxHeartbeats 1600000 in
theorem un_good (b off : Nat) (B : List Nat) (L cap : Nat) (w : World) (hn : B.length = 12 + L) (hbw : b < w.heap.size) (hl : L ≤ 65495) (hcap : 12 + L ≤ cap) (hB : ∀ x ∈ B, x < 256)
  (hc : ∀ i, i < 12 + L → w.cell? ⟨b, off + i, none⟩ = some (.int .u8 ((B.getD i 0 : Nat) : Int))) (hm : B.getD 0 0 = 81 ∧ B.getD 1 0 = 77 ∧ B.getD 2 0 = 1) (hL : L = ((B.getD 4 0 * 256 + B.getD 5 0) * 256 + B.getD 6 0) * 256 + B.getD 7 0)
  (hs : Crc.sum (B.take (8 + L)) = lo4 (B.getD (8 + L) 0) (B.getD (9 + L) 0) (B.getD (10 + L) 0) (B.getD (11 + L) 0)) :
    Calls Tryd.prog 23 #[.slice (some ⟨b, off, none⟩) (12 + L) cap] w fun e w' => ∃ v, e = .returned (.tuple #[.int .i64 (B.getD 3 0 : Nat), v, .agg #[.int .i64 0, .int .i64 0]]) ∧ Owns w.heap.size w' v ((B.drop 8).take L) ∧ Below w.heap.size w w' := by
  have h' : decide ((65507 : Int) < 12 + (L : Int)) = false := by simp; omega
  have h2 : decide (12 + (L : Int) < 12) = false := by simp; omega
  have d1 : decide (12 + (L : Int) < 12 + (L : Int)) = false := by simp
  have k0 : w.cell? ⟨b, off, none⟩ = some (.int .u8 81) := by have := hc 0 (by omega); rw [hm.1] at this; exact this
  have k1 : w.cell? ⟨b, off + 1, none⟩ = some (.int .u8 77) := by have := hc 1 (by omega); rw [hm.2.1] at this; exact this
  have k2 : w.cell? ⟨b, off + 2, none⟩ = some (.int .u8 1) := by have := hc 2 (by omega); rw [hm.2.2] at this; exact this
  have k4 := hc 4 (by omega)
  have k5 := hc 5 (by omega)
  have k6 := hc 6 (by omega)
  have k7 := hc 7 (by omega)
  have k8 := hc (8 + L) (by omega)
  have k9 := hc (9 + L) (by omega)
  have k10 := hc (10 + L) (by omega)
  have k11 := hc (11 + L) (by omega)
  have h4 := getD_lt B hB 4
  have h5 := getD_lt B hB 5
  have h6 := getD_lt B hB 6
  have h7 := getD_lt B hB 7
  have h8 := getD_lt B hB (8 + L)
  have h9 := getD_lt B hB (9 + L)
  have h10 := getD_lt B hB (10 + L)
  have h11 := getD_lt B hB (11 + L)
  have HS : Hid (∀ w1 : World, w1.heap = (w.alloc (.cells #[.int .i64 0, .int .i64 0] 34)).heap → Calls Tryd.prog 22 #[.slice (some ⟨b, off, none⟩) (8 + L) cap] w1 fun e w' => e = .returned (.int .u32 (Crc.sum (B.take (8 + L)) : Nat)) ∧ w' = w1) := by
    intro w1 h1
    refine ref_any b off _ (B.take (8 + L)) (8 + L) cap w1 (fun _ => rfl) (by rw [List.length_take]; omega) (by omega) (fun x hx => hB x (List.mem_of_mem_take hx)) (fun i hi => ?_)
    rw [getD_take hi]
    refine (World.cell?_of_block (w := w.alloc (.cells #[.int .i64 0, .int .i64 0] 34)) (w' := w1) (a := ⟨b, off + i, none⟩) (by rw [h1])).trans ?_
    exact (((Below.refl _ w).alloc (Nat.le_refl _) _).cell (p := ⟨b, off + i, none⟩) hbw).trans (hc i (by omega))
  have HCP : Hid (∀ w1 : World, Below (w.heap.size + 1) (w.alloc (.cells #[.int .i64 0, .int .i64 0] 34)) w1 → Calls Tryd.prog 26 #[.slice (some ⟨b, off + 8, none⟩) L (cap - 8)] w1 fun e w' => ∃ v, e = .returned v ∧ Owns w1.heap.size w' v ((B.drop 8).take L) ∧ Below w1.heap.size w1 w') := by
    intro w1 h1
    have hsz := h1.size
    simp at hsz
    refine copy_walk b (off + 8) _ ((B.drop 8).take L) L (cap - 8) w1 (fun _ => rfl) (by rw [List.length_take, List.length_drop]; omega) (by omega) (fun x hx => hB x (List.mem_of_mem_drop (List.mem_of_mem_take hx))) (fun _ => by omega) (fun i hi => ?_)
    rw [getD_take hi, getD_drop, show off + 8 + i = off + (8 + i) by omega, h1.cell (p := ⟨b, off + (8 + i), none⟩) (by show b < _; omega)]
    exact (((Below.refl _ w).alloc (Nat.le_refl _) _).cell (p := ⟨b, off + (8 + i), none⟩) hbw).trans (hc (8 + i) (by omega))
  have k3 := hc 3 (by omega)
  have h3 := getD_lt B hB 3
  clear hc hm hn hB
  generalize B.getD 3 0 = K at *
  generalize B.getD 4 0 = c4 at *
  generalize B.getD 5 0 = c5 at *
  generalize B.getD 6 0 = c6 at *
  generalize B.getD 7 0 = c7 at *
  generalize B.getD (8 + L) 0 = s0 at *
  generalize B.getD (9 + L) 0 = s1 at *
  generalize B.getD (10 + L) 0 = s2 at *
  generalize B.getD (11 + L) 0 = s3 at *
  generalize Crc.sum (B.take (8 + L)) = S at *
  obtain ⟨T, hT⟩ : ∃ T, T = lo4 s0 s1 s2 s3 := ⟨_, rfl⟩
  rw [← hT] at hs
  unfold lo4 at hT
  have hTe : (s0 : Int) + (s1 : Int) * 256 + (s2 : Int) * 65536 + (s3 : Int) * 16777216 = (T : Int) := by omega
  have he : (c4 : Int) * 16777216 + (c5 : Int) * 65536 + (c6 : Int) * 256 + (c7 : Int) = (L : Int) := by omega
  have hne : ((T : Int) != (S : Int)) = false := by simp; omega
  clear hL hT hs
  have j4 : (4 : Int) < 12 + (L : Int) := by omega
  have j5 : (5 : Int) < 12 + (L : Int) := by omega
  have j6 : (6 : Int) < 12 + (L : Int) := by omega
  have j7 : (7 : Int) < 12 + (L : Int) := by omega
  go_enter Tryd.func23, Tryd.ntmps23
  go_wp2_with fail
  go_quiet (fail)
  go_wp2_with fail
  go_quiet (fail)
  go_wp2_with fail
  refine (HS.out _ ?_).mono ?_
  · rfl
  rintro e w1 ⟨rfl, hw1⟩
  have hbz : Below (w.heap.size + 1) (w.alloc (.cells #[.int .i64 0, .int .i64 0] 34)) w1 := by rw [hw1]; repeat (first | exact Below.refl _ _ | apply below_drewN)
  clear hw1
  have z3 : w1.cell? ⟨b, off + 3, none⟩ = some (.int .u8 (K : Int)) := (hbz.cell (p := ⟨b, off + 3, none⟩) (by show b < _; omega)).trans ((((Below.refl _ w).alloc (Nat.le_refl _) _).cell (p := ⟨b, off + 3, none⟩) hbw).trans k3)
  have r0 : w1.cell? ⟨w.heap.size, 0, none⟩ = some (.int .i64 0) := (hbz.cell (p := ⟨w.heap.size, 0, none⟩) (by show w.heap.size < _; omega)).trans (by simp)
  have r1 : w1.cell? ⟨w.heap.size, 1, none⟩ = some (.int .i64 0) := (hbz.cell (p := ⟨w.heap.size, 1, none⟩) (by show w.heap.size < _; omega)).trans (by simp)
  have f0 : w1.frozen? ⟨w.heap.size, 0, none⟩ = false := (hbz.frozen (p := ⟨w.heap.size, 0, none⟩) (by show w.heap.size < _; omega)).trans (by simp)
  have f1 : w1.frozen? ⟨w.heap.size, 1, none⟩ = false := (hbz.frozen (p := ⟨w.heap.size, 1, none⟩) (by show w.heap.size < _; omega)).trans (by simp)
  have HBZ : Hid (Below (w.heap.size + 1) (w.alloc (.cells #[.int .i64 0, .int .i64 0] 34)) w1) := hbz
  have hsz1 : w.heap.size < w1.heap.size := by have := hbz.size; simp at this; omega
  have hbw1 : b < w1.heap.size := by omega
  clear hbz
  go_wp2_with fail
  have j3 : (3 : Int) < 12 + (L : Int) := by omega
  have w8 : IntKind.i64.wrap (8 + (L : Int)) = 8 + (L : Int) := by rw [IntKind.wrap_i64]; omega
  have i1 : (8 : Int) + (L : Int) ≤ (cap : Int) := by omega
  have i5 : ¬ cap = 8 := by omega
  have hbn : ¬ b = w.heap.size := by omega
  have hbn' : ¬ w.heap.size = b := by omega
  have HSZ : Hid (w.heap.size < w1.heap.size) := hsz1
  have HWK : Hid (wrap64 (K : Int) = (K : Int)) := by show _ = _; unfold wrap64; omega
  have HBW1 : Hid (b < w1.heap.size) := hbw1
  clear k4 k5 k6 k7 k8 k9 k10 k11 h4 h5 h6 h7 h8 h9 h10 h11 k0 k1 k2 hTe he hne j4 j5 j6 j7 HS k3 h3 hcap hl h' h2 d1 hbw hsz1 hbw1
  go_region_held (fun w' => w'.cell? ⟨b, off + 3, none⟩ = some (.int .u8 (K : Int))) (first | go_keep | (exact keep_two (by assumption) hbn))
    ((go_at_call 26; refine (HCP.out _ ?_).mono ?_; exact ⟨HBZ.out.os, HBZ.out.tape, HBZ.out.output, HBZ.out.size, HBZ.out.block⟩; rintro e w2 ⟨v, rfl, ho, hb⟩; have y3 := (hb.cell (p := ⟨b, off + 3, none⟩) HBW1.out).trans z3; have y0 := (hb.cell (p := ⟨w.heap.size, 0, none⟩) HSZ.out).trans r0; have y1 := (hb.cell (p := ⟨w.heap.size, 1, none⟩) HSZ.out).trans r1; have g0 := (hb.frozen (p := ⟨w.heap.size, 0, none⟩) HSZ.out).trans f0; have g1 := (hb.frozen (p := ⟨w.heap.size, 1, none⟩) HSZ.out).trans f1))
  go_wp2_with fail
  refine bodyPost_ret (v := .tuple #[.int .i64 (wrap64 (K : Int)), v, .agg #[.int .i64 0, .int .i64 0]]) (by simp [results, Tryd.results23, go_sem, y0, y1]) rfl ⟨v, by rw [HWK.out], ?_, ?_⟩
  · have hdr : w1.drew.heap.size = w1.heap.size := rfl
    have hne : v.ownBlock = none ∨ v.ownBlock ≠ some w.heap.size := by
      refine .inr (fun e => ?_)
      have := (ho.1.lt _ e).1
      have := HSZ.out
      omega
    exact ((ho.kept (grown_set' _ _ _ _) hne).kept (grown_set' _ _ _ _) hne).lower (by have := HSZ.out; omega)
  · have h1 : Below w.heap.size w w1 := ((Below.refl _ _).alloc (Nat.le_refl _) _).trans (HBZ.out.mono (by omega))
    have hb' : Below w1.heap.size w1 w2 := ⟨hb.os, hb.tape, hb.output, hb.size, hb.block⟩
    exact ((h1.trans (hb'.mono (by have := HSZ.out; omega))).setCell (Nat.le_refl _) _).setCell (Nat.le_refl _) _
end Go.Proofs.YtbfjeabngdiejaaDoor
