import Derived.Test.YtiijbboigebhcaaGreatDoorNRl
namespace Go.Proofs.YtiijbboigebhcaaGreatDoor
open Go.RowKit Crc

theorem owns_str {base : Nat} {w : World} {ao : Option Addr} {n cap : Nat} {B : List Nat} (h : Owns base w (.slice ao n cap) B) : (convert 36 9 (.slice ao n cap)).run Tryz.prog w = .ok (.string (strOf B)) w := by
  obtain ⟨ao', cap', e, hs, -⟩ := h.form
  cases e
  exact run_str hs
set_option maxRecDepth 10000 in
set_option maxHeartbeats 3200000 in
theorem readDeal_any {lim p : Nat} {w : World} {s : RS} (h : RdP lim w (some ⟨p, 0, none⟩) s) : Calls Tryz.prog 78 #[.pointer (some ⟨p, 0, none⟩)] w fun e w' => e = .returned (.agg (rdDe s).1.cells.toArray) ∧ Hid (At_ lim p w (rdDe s).2 w') := by
  have hpw := (At_.start h).pos.2
  obtain ⟨W0, hW0⟩ : ∃ W0, w.alloc (.cells #[.int .u64 0, .int .u64 0, .int .u64 0, .int .u64 0, .int .u64 0, .int .u64 0, .int .u64 0, .int .i64 0, .int .u64 0, .int .u64 0, .int .u64 0, .int .u64 0, .string ⟨#[]⟩] 58) = W0 := ⟨_, rfl⟩
  have s0 : W0.heap.size = w.heap.size + 1 := by rw [← hW0]; simp
  have a0 : At_ lim p w s W0 := by rw [← hW0]; exact (At_.start h).alloc _
  have q0 : W0.heap[w.heap.size]? = some (.cells #[.int .u64 0, .int .u64 0, .int .u64 0, .int .u64 0, .int .u64 0, .int .u64 0, .int .u64 0, .int .i64 0, .int .u64 0, .int .u64 0, .int .u64 0, .int .u64 0, .string ⟨#[]⟩] 58 (0, 0)) := by rw [← hW0]; exact alloc_atN _ _
  have RES : Hid (∀ s' W, At_ lim p W0 s' W → W.heap[w.heap.size]? = some (.cells #[.int .u64 0, .int .u64 0, .int .u64 0, .int .u64 0, .int .u64 0, .int .u64 0, .int .u64 0, .int .i64 0, .int .u64 0, .int .u64 0, .int .u64 0, .int .u64 0, .string ⟨#[]⟩] 58 (0, 0)) ∧ At_ lim p w s' W) := fun s' W hb => ⟨(hb.block (by omega) (by omega)).trans q0, a0.trans hb⟩
  have H0 := hide a0.again
  have HW0 := hide hW0
  have HE : Hid ((rdDe s).1.cells = [.int .u64 ((nV s : Nat) : Int), .int .u64 ((nV (nS s) : Nat) : Int), .int .u64 ((nV (nS (nS s)) : Nat) : Int), .int .u64 ((nV (nS (nS (nS s))) : Nat) : Int), .int .u64 ((nV (nS (nS (nS (nS s)))) : Nat) : Int), .int .u64 ((nV (nS (nS (nS (nS (nS s))))) : Nat) : Int), .int .u64 ((nV (nS (nS (nS (nS (nS (nS s)))))) : Nat) : Int), .int .i64 ((oV (nS (nS (nS (nS (nS (nS (nS s))))))) : Nat) : Int), .int .u64 ((nV (oS (nS (nS (nS (nS (nS (nS (nS s)))))))) : Nat) : Int), .int .u64 ((nV (nS (oS (nS (nS (nS (nS (nS (nS (nS s))))))))) : Nat) : Int), .int .u64 ((nV (nS (nS (oS (nS (nS (nS (nS (nS (nS (nS s)))))))))) : Nat) : Int), .int .u64 ((nV (nS (nS (nS (oS (nS (nS (nS (nS (nS (nS (nS s))))))))))) : Nat) : Int), .string (strOf (bV (nS (nS (nS (nS (oS (nS (nS (nS (nS (nS (nS (nS s)))))))))))) 512))] ∧ (rdDe s).2 = bS (nS (nS (nS (nS (oS (nS (nS (nS (nS (nS (nS (nS s)))))))))))) 512) := ⟨rfl, rfl⟩
  have N0 : Hid (∀ W, At_ lim p W0 s W → Calls Tryz.prog 75 #[.pointer (some ⟨p, 0, none⟩)] W fun e w' => e = .returned (.int .u64 ((nV s : Nat) : Int)) ∧ Hid (At_ lim p W0 (nS s) w')) := fun W h => num_at h
  have N1 : Hid (∀ W, At_ lim p W0 (nS s) W → Calls Tryz.prog 75 #[.pointer (some ⟨p, 0, none⟩)] W fun e w' => e = .returned (.int .u64 ((nV (nS s) : Nat) : Int)) ∧ Hid (At_ lim p W0 (nS (nS s)) w')) := fun W h => num_at h
  have N2 : Hid (∀ W, At_ lim p W0 (nS (nS s)) W → Calls Tryz.prog 75 #[.pointer (some ⟨p, 0, none⟩)] W fun e w' => e = .returned (.int .u64 ((nV (nS (nS s)) : Nat) : Int)) ∧ Hid (At_ lim p W0 (nS (nS (nS s))) w')) := fun W h => num_at h
  have N3 : Hid (∀ W, At_ lim p W0 (nS (nS (nS s))) W → Calls Tryz.prog 75 #[.pointer (some ⟨p, 0, none⟩)] W fun e w' => e = .returned (.int .u64 ((nV (nS (nS (nS s))) : Nat) : Int)) ∧ Hid (At_ lim p W0 (nS (nS (nS (nS s)))) w')) := fun W h => num_at h
  have N4 : Hid (∀ W, At_ lim p W0 (nS (nS (nS (nS s)))) W → Calls Tryz.prog 75 #[.pointer (some ⟨p, 0, none⟩)] W fun e w' => e = .returned (.int .u64 ((nV (nS (nS (nS (nS s)))) : Nat) : Int)) ∧ Hid (At_ lim p W0 (nS (nS (nS (nS (nS s))))) w')) := fun W h => num_at h
  have N5 : Hid (∀ W, At_ lim p W0 (nS (nS (nS (nS (nS s))))) W → Calls Tryz.prog 75 #[.pointer (some ⟨p, 0, none⟩)] W fun e w' => e = .returned (.int .u64 ((nV (nS (nS (nS (nS (nS s))))) : Nat) : Int)) ∧ Hid (At_ lim p W0 (nS (nS (nS (nS (nS (nS s)))))) w')) := fun W h => num_at h
  have N6 : Hid (∀ W, At_ lim p W0 (nS (nS (nS (nS (nS (nS s)))))) W → Calls Tryz.prog 75 #[.pointer (some ⟨p, 0, none⟩)] W fun e w' => e = .returned (.int .u64 ((nV (nS (nS (nS (nS (nS (nS s)))))) : Nat) : Int)) ∧ Hid (At_ lim p W0 (nS (nS (nS (nS (nS (nS (nS s))))))) w')) := fun W h => num_at h
  have N7 : Hid (∀ W, At_ lim p W0 (nS (nS (nS (nS (nS (nS (nS s))))))) W → Calls Tryz.prog 74 #[.pointer (some ⟨p, 0, none⟩)] W fun e w' => e = .returned (.int .u8 ((oV (nS (nS (nS (nS (nS (nS (nS s))))))) : Nat) : Int)) ∧ Hid (At_ lim p W0 (oS (nS (nS (nS (nS (nS (nS (nS s)))))))) w')) := fun W h => oct_at h
  have N8 : Hid (∀ W, At_ lim p W0 (oS (nS (nS (nS (nS (nS (nS (nS s)))))))) W → Calls Tryz.prog 75 #[.pointer (some ⟨p, 0, none⟩)] W fun e w' => e = .returned (.int .u64 ((nV (oS (nS (nS (nS (nS (nS (nS (nS s)))))))) : Nat) : Int)) ∧ Hid (At_ lim p W0 (nS (oS (nS (nS (nS (nS (nS (nS (nS s))))))))) w')) := fun W h => num_at h
  have N9 : Hid (∀ W, At_ lim p W0 (nS (oS (nS (nS (nS (nS (nS (nS (nS s))))))))) W → Calls Tryz.prog 75 #[.pointer (some ⟨p, 0, none⟩)] W fun e w' => e = .returned (.int .u64 ((nV (nS (oS (nS (nS (nS (nS (nS (nS (nS s))))))))) : Nat) : Int)) ∧ Hid (At_ lim p W0 (nS (nS (oS (nS (nS (nS (nS (nS (nS (nS s)))))))))) w')) := fun W h => num_at h
  have N10 : Hid (∀ W, At_ lim p W0 (nS (nS (oS (nS (nS (nS (nS (nS (nS (nS s)))))))))) W → Calls Tryz.prog 75 #[.pointer (some ⟨p, 0, none⟩)] W fun e w' => e = .returned (.int .u64 ((nV (nS (nS (oS (nS (nS (nS (nS (nS (nS (nS s)))))))))) : Nat) : Int)) ∧ Hid (At_ lim p W0 (nS (nS (nS (oS (nS (nS (nS (nS (nS (nS (nS s))))))))))) w')) := fun W h => num_at h
  have N11 : Hid (∀ W, At_ lim p W0 (nS (nS (nS (oS (nS (nS (nS (nS (nS (nS (nS s))))))))))) W → Calls Tryz.prog 75 #[.pointer (some ⟨p, 0, none⟩)] W fun e w' => e = .returned (.int .u64 ((nV (nS (nS (nS (oS (nS (nS (nS (nS (nS (nS (nS s))))))))))) : Nat) : Int)) ∧ Hid (At_ lim p W0 (nS (nS (nS (nS (oS (nS (nS (nS (nS (nS (nS (nS s)))))))))))) w')) := fun W h => num_at h
  have NO : Hid (∀ W, At_ lim p W0 (nS (nS (nS (nS (nS (nS (nS s))))))) W → oV (nS (nS (nS (nS (nS (nS (nS s))))))) < 256) := fun W h => h.oct
  have NB : Hid (∀ W, At_ lim p W0 (nS (nS (nS (nS (oS (nS (nS (nS (nS (nS (nS (nS s)))))))))))) W → Calls Tryz.prog 122 #[.pointer (some ⟨p, 0, none⟩), .int .i64 512] W fun e w' => ∃ ao n cap, e = .returned (.slice ao n cap) ∧ n = (bV (nS (nS (nS (nS (oS (nS (nS (nS (nS (nS (nS (nS s)))))))))))) 512).length ∧ Hid (Owns W0.heap.size w' (.slice ao n cap) (bV (nS (nS (nS (nS (oS (nS (nS (nS (nS (nS (nS (nS s)))))))))))) 512) ∧ At_ lim p W0 (bS (nS (nS (nS (nS (oS (nS (nS (nS (nS (nS (nS (nS s)))))))))))) 512) w')) := fun W h => blob_at h 512 (by omega) (by omega)
  clear h hW0 s0 a0 q0
  generalize rdDe s = rd at *
  generalize nV s = a0 at *
  generalize nS s = s1 at *
  generalize nV s1 = a1 at *
  generalize nS s1 = s2 at *
  generalize nV s2 = a2 at *
  generalize nS s2 = s3 at *
  generalize nV s3 = a3 at *
  generalize nS s3 = s4 at *
  generalize nV s4 = a4 at *
  generalize nS s4 = s5 at *
  generalize nV s5 = a5 at *
  generalize nS s5 = s6 at *
  generalize nV s6 = a6 at *
  generalize nS s6 = s7 at *
  generalize oV s7 = a7 at *
  generalize oS s7 = s8 at *
  generalize nV s8 = a8 at *
  generalize nS s8 = s9 at *
  generalize nV s9 = a9 at *
  generalize nS s9 = s10 at *
  generalize nV s10 = a10 at *
  generalize nS s10 = s11 at *
  generalize nV s11 = a11 at *
  generalize nS s11 = s12 at *
  generalize bV s12 512 = D at *
  generalize bS s12 512 = s13 at *
  go_enter Tryz.func78, Tryz.ntmps78
  go_wp2_with fail
  rw [HW0.out]
  refine (N0.out _ H0.out).mono ?_
  rintro e w1 ⟨rfl, H1⟩
  clear H0 N0
  go_wp2_with fail
  refine (N1.out _ H1.out).mono ?_
  rintro e w2 ⟨rfl, H2⟩
  clear H1 N1
  go_wp2_with fail
  refine (N2.out _ H2.out).mono ?_
  rintro e w3 ⟨rfl, H3⟩
  clear H2 N2
  go_wp2_with fail
  refine (N3.out _ H3.out).mono ?_
  rintro e w4 ⟨rfl, H4⟩
  clear H3 N3
  go_wp2_with fail
  refine (N4.out _ H4.out).mono ?_
  rintro e w5 ⟨rfl, H5⟩
  clear H4 N4
  go_wp2_with fail
  refine (N5.out _ H5.out).mono ?_
  rintro e w6 ⟨rfl, H6⟩
  clear H5 N5
  go_wp2_with fail
  refine (N6.out _ H6.out).mono ?_
  rintro e w7 ⟨rfl, H7⟩
  clear H6 N6
  go_wp2_with fail
  have ho := NO.out _ H7.out
  refine (N7.out _ H7.out).mono ?_
  rintro e w8 ⟨rfl, H8⟩
  clear H7 N7
  go_wp2_with fail
  refine (N8.out _ H8.out).mono ?_
  rintro e w9 ⟨rfl, H9⟩
  clear H8 N8
  go_wp2_with fail
  refine (N9.out _ H9.out).mono ?_
  rintro e w10 ⟨rfl, H10⟩
  clear H9 N9
  go_wp2_with fail
  refine (N10.out _ H10.out).mono ?_
  rintro e w11 ⟨rfl, H11⟩
  clear H10 N10
  go_wp2_with fail
  refine (N11.out _ H11.out).mono ?_
  rintro e w12 ⟨rfl, H12⟩
  clear H11 N11
  go_wp2_with fail
  refine (NB.out _ H12.out).mono ?_
  rintro e w13 ⟨ao, n, cap, rfl, hn, G13⟩
  have hcv := owns_str G13.out.1
  obtain ⟨hC, hA⟩ := RES.out _ _ G13.out.2
  have z0 := block_cell hC 0
  have f0 := block_free hC 0
  have z1 := block_cell hC 1
  have f1 := block_free hC 1
  have z2 := block_cell hC 2
  have f2 := block_free hC 2
  have z3 := block_cell hC 3
  have f3 := block_free hC 3
  have z4 := block_cell hC 4
  have f4 := block_free hC 4
  have z5 := block_cell hC 5
  have f5 := block_free hC 5
  have z6 := block_cell hC 6
  have f6 := block_free hC 6
  have z7 := block_cell hC 7
  have f7 := block_free hC 7
  have z8 := block_cell hC 8
  have f8 := block_free hC 8
  have z9 := block_cell hC 9
  have f9 := block_free hC 9
  have z10 := block_cell hC 10
  have f10 := block_free hC 10
  have z11 := block_cell hC 11
  have f11 := block_free hC 11
  have z12 := block_cell hC 12
  have f12 := block_free hC 12
  simp at z0 z1 z2 z3 z4 z5 z6 z7 z8 z9 z10 z11 z12
  have FIN : Hid (∀ x0 x1 x2 x3 x4 x5 x6 x7 x8 x9 x10 x11 x12, At_ lim p w rd.2 (((((((((((((w13.setCell ⟨w.heap.size, 0, none⟩ x0).setCell ⟨w.heap.size, 1, none⟩ x1).setCell ⟨w.heap.size, 2, none⟩ x2).setCell ⟨w.heap.size, 3, none⟩ x3).setCell ⟨w.heap.size, 4, none⟩ x4).setCell ⟨w.heap.size, 5, none⟩ x5).setCell ⟨w.heap.size, 6, none⟩ x6).setCell ⟨w.heap.size, 7, none⟩ x7).setCell ⟨w.heap.size, 8, none⟩ x8).setCell ⟨w.heap.size, 9, none⟩ x9).setCell ⟨w.heap.size, 10, none⟩ x10).setCell ⟨w.heap.size, 11, none⟩ x11).setCell ⟨w.heap.size, 12, none⟩ x12)) := fun x0 x1 x2 x3 x4 x5 x6 x7 x8 x9 x10 x11 x12 => by
    rw [HE.out.2]
    exact hA.box hpw (Nat.le_refl _) (grown_trans (row := some w.heap.size) (grown_trans (row := some w.heap.size) (grown_trans (row := some w.heap.size) (grown_trans (row := some w.heap.size) (grown_trans (row := some w.heap.size) (grown_trans (row := some w.heap.size) (grown_trans (row := some w.heap.size) (grown_trans (row := some w.heap.size) (grown_trans (row := some w.heap.size) (grown_trans (row := some w.heap.size) (grown_trans (row := some w.heap.size) (grown_trans (row := some w.heap.size) (grown_set _ _ _ _) (grown_set _ _ _ _)) (grown_set _ _ _ _)) (grown_set _ _ _ _)) (grown_set _ _ _ _)) (grown_set _ _ _ _)) (grown_set _ _ _ _)) (grown_set _ _ _ _)) (grown_set _ _ _ _)) (grown_set _ _ _ _)) (grown_set _ _ _ _)) (grown_set _ _ _ _)) (grown_set _ _ _ _))
  have HE1 := hide HE.out.1
  clear hC hA RES HW0 H12 hn G13 NB NO HE
  generalize strOf D = str at *
  go_wp2
  refine bodyPost_ret (v := .agg #[.int .u64 (a0 : Int), .int .u64 (a1 : Int), .int .u64 (a2 : Int), .int .u64 (a3 : Int), .int .u64 (a4 : Int), .int .u64 (a5 : Int), .int .u64 (a6 : Int), .int .i64 (a7 : Int), .int .u64 (a8 : Int), .int .u64 (a9 : Int), .int .u64 (a10 : Int), .int .u64 (a11 : Int), .string (str)]) (by simp [results, Tryz.results78, go_sem, z0, z1, z2, z3, z4, z5, z6, z7, z8, z9, z10, z11, z12]) rfl ?_
  exact ⟨by rw [HE1.out], FIN.out _ _ _ _ _ _ _ _ _ _ _ _ _⟩
end Go.Proofs.YtiijbboigebhcaaGreatDoor
