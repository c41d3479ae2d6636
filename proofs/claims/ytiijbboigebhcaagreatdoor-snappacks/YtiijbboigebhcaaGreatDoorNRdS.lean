import Derived.Test.YtiijbboigebhcaaGreatDoorNRl
namespace Go.Proofs.YtiijbboigebhcaaGreatDoor
open Go.RowKit Crc

set_option maxRecDepth 10000 in
set_option maxHeartbeats 1600000 in
theorem readSession_any {lim p : Nat} {w : World} {s : RS} (h : RdP lim w (some ⟨p, 0, none⟩) s) : Calls Tryz.prog 80 #[.pointer (some ⟨p, 0, none⟩)] w fun e w' => ∃ (a b c : Nat) (d : Int) (ao : Option Addr) (n cap : Nat), e = .returned (.agg #[.int .u64 (a : Int), .int .u64 (b : Int), .int .u64 (c : Int), .int .i64 d, .slice ao n cap]) ∧ Hid (a = (rdSn s).1.1 ∧ b = (rdSn s).1.2.1 ∧ c = (rdSn s).1.2.2.1 ∧ d = wrap64 ((rdSn s).1.2.2.2.1 : Int) ∧ n = (rdSn s).1.2.2.2.2.length ∧ Owns w.heap.size w' (.slice ao n cap) (rdSn s).1.2.2.2.2 ∧ At_ lim p w (rdSn s).2 w') := by
  have hpw := (At_.start h).pos.2
  obtain ⟨W0, hW0⟩ : ∃ W0, w.alloc (.cells #[.int .u64 0, .int .u64 0, .int .u64 0, .int .i64 0, .slice none 0 0] 61) = W0 := ⟨_, rfl⟩
  have s0 : W0.heap.size = w.heap.size + 1 := by rw [← hW0]; simp
  have a0 : At_ lim p w s W0 := by rw [← hW0]; exact (At_.start h).alloc _
  have q0 : W0.heap[w.heap.size]? = some (.cells #[.int .u64 0, .int .u64 0, .int .u64 0, .int .i64 0, .slice none 0 0] 61 (0, 0)) := by rw [← hW0]; exact alloc_atN _ _
  have RES : Hid (∀ s' W, At_ lim p W0 s' W → W.heap[w.heap.size]? = some (.cells #[.int .u64 0, .int .u64 0, .int .u64 0, .int .i64 0, .slice none 0 0] 61 (0, 0)) ∧ At_ lim p w s' W) := fun s' W hb => ⟨(hb.block (by omega) (by omega)).trans q0, a0.trans hb⟩
  have HS0 := hide s0
  have H0 := hide a0.again
  have HW0 := hide hW0
  clear h hW0 s0 a0 q0
  go_enter Tryz.func80, Tryz.ntmps80
  go_wp2_with fail
  rw [HW0.out]
  refine (num_at H0.out).mono ?_
  rintro e w1 ⟨rfl, H1⟩
  clear H0
  go_wp2_with fail
  refine (num_at H1.out).mono ?_
  rintro e w2 ⟨rfl, H2⟩
  clear H1
  go_wp2_with fail
  refine (num_at H2.out).mono ?_
  rintro e w3 ⟨rfl, H3⟩
  clear H2
  go_wp2_with fail
  refine (num_at H3.out).mono ?_
  rintro e w4 ⟨rfl, H4⟩
  clear H3
  go_wp2_with fail
  refine (blob_at H4.out 256 (by omega) (by omega)).mono ?_
  rintro e w5 ⟨ao, n, cap, rfl, hn, G5⟩
  obtain ⟨hC, hA⟩ := RES.out _ _ G5.out.2
  have z0 := block_cell hC 0
  have f0 := block_free hC 0
  have z1 := block_cell hC 1
  have f1 := block_free hC 1
  have z2 := block_cell hC 2
  have f2 := block_free hC 2
  have z3 := block_cell hC 3
  have f3 := block_free hC 3
  have z4 := block_cell hC 4
  have f4 := block_free hC 4
  simp at z0 z1 z2 z3 z4
  have FIN : Hid (∀ x0 x1 x2 x3 x4, Owns w.heap.size (((((w5.setCell ⟨w.heap.size, 0, none⟩ x0).setCell ⟨w.heap.size, 1, none⟩ x1).setCell ⟨w.heap.size, 2, none⟩ x2).setCell ⟨w.heap.size, 3, none⟩ x3).setCell ⟨w.heap.size, 4, none⟩ x4) (.slice ao n cap) (rdSn s).1.2.2.2.2 ∧ At_ lim p w (rdSn s).2 (((((w5.setCell ⟨w.heap.size, 0, none⟩ x0).setCell ⟨w.heap.size, 1, none⟩ x1).setCell ⟨w.heap.size, 2, none⟩ x2).setCell ⟨w.heap.size, 3, none⟩ x3).setCell ⟨w.heap.size, 4, none⟩ x4)) := fun x0 x1 x2 x3 x4 => by
    have g : w5.grownBy (((((w5.setCell ⟨w.heap.size, 0, none⟩ x0).setCell ⟨w.heap.size, 1, none⟩ x1).setCell ⟨w.heap.size, 2, none⟩ x2).setCell ⟨w.heap.size, 3, none⟩ x3).setCell ⟨w.heap.size, 4, none⟩ x4) (some w.heap.size) := by repeat (first | exact grown_set _ _ _ _ | refine grown_trans (row := some _) ?_ (grown_set _ _ _ _))
    have hs := HS0.out
    exact ⟨(G5.out.1.kept g (.inr (fun e => by have := (G5.out.1.1.lt _ e).1; omega))).lower (by omega), hA.box hpw (Nat.le_refl _) g⟩
  have HN := hide hn
  clear hC hA RES HW0 H4 hn G5 HS0
  go_wp2
  refine bodyPost_ret (v := .agg #[.int .u64 (nV s : Int), .int .u64 (nV (nS s) : Int), .int .u64 (nV (nS (nS s)) : Int), .int .i64 (wrap64 (nV (nS (nS (nS s))) : Int)), .slice ao n cap]) (by simp [results, Tryz.results80, go_sem, z0, z1, z2, z3, z4]) rfl ⟨_, _, _, _, _, _, _, rfl, rfl, rfl, rfl, rfl, HN.out, FIN.out _ _ _ _ _⟩
end Go.Proofs.YtiijbboigebhcaaGreatDoor
