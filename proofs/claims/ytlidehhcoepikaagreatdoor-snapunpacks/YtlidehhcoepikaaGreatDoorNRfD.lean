import Derived.Test.YtlidehhcoepikaaGreatDoorM41
import Derived.Test.YtlidehhcoepikaaGreatDoorNRdD
namespace Go.Proofs.YtlidehhcoepikaaGreatDoor
open Go.RowKit Crc

set_option maxRecDepth 10000 in
set_option maxHeartbeats 3200000 in
theorem refDeal_any {d p : Nat} {w : World} {s : RS} (h : RefS d w p s) (hd : d < w.heap.size) : Calls Tryz.prog 45 #[.pointer (some ⟨p, 0, none⟩)] w fun e w' => e = .returned (.agg (rdDe s).1.cells.toArray) ∧ Hid (w.grownBy w' (some p) ∧ RefS d w' p (rdDe s).2) := by
  have hp := refS_size h
  obtain ⟨W0, hW0⟩ : ∃ W0, w.alloc (.cells #[.int .u64 0, .int .u64 0, .int .u64 0, .int .u64 0, .int .u64 0, .int .u64 0, .int .u64 0, .int .i64 0, .int .u64 0, .int .u64 0, .int .u64 0, .int .u64 0, .string ⟨#[]⟩] 58) = W0 := ⟨_, rfl⟩
  have s0 : W0.heap.size = w.heap.size + 1 := by rw [← hW0]; simp
  have g0 : w.grownBy W0 (some p) := by rw [← hW0]; exact World.grownBy_alloc _ _ _
  have q0 : W0.heap[w.heap.size]? = some (.cells #[.int .u64 0, .int .u64 0, .int .u64 0, .int .u64 0, .int .u64 0, .int .u64 0, .int .u64 0, .int .i64 0, .int .u64 0, .int .u64 0, .int .u64 0, .int .u64 0, .string ⟨#[]⟩] 58 (0, 0)) := by rw [← hW0]; exact alloc_atN _ _
  have RES : Hid (∀ W, W0.grownBy W (some p) → W.heap[w.heap.size]? = some (.cells #[.int .u64 0, .int .u64 0, .int .u64 0, .int .u64 0, .int .u64 0, .int .u64 0, .int .u64 0, .int .i64 0, .int .u64 0, .int .u64 0, .int .u64 0, .int .u64 0, .string ⟨#[]⟩] 58 (0, 0))) := fun W hg => (hg.block _ (by omega) (by simp; omega)).trans q0
  obtain ⟨W1, hW1⟩ : ∃ W1, W0.alloc (.cells #[.int .u64 0, .int .u64 0, .int .u64 0, .int .u64 0, .int .u64 0, .int .u64 0, .int .u64 0, .int .i64 0, .int .u64 0, .int .u64 0, .int .u64 0, .int .u64 0, .string ⟨#[]⟩] 58) = W1 := ⟨_, rfl⟩
  have D0 : Hid (Dr d p W0 (w.heap.size + 1) 58 s #[.int .u64 0, .int .u64 0, .int .u64 0, .int .u64 0, .int .u64 0, .int .u64 0, .int .u64 0, .int .i64 0, .int .u64 0, .int .u64 0, .int .u64 0, .int .u64 0, .string ⟨#[]⟩] W1) := by
    have q := Dr.start (d := d) (p := p) (w := W0) (s := s) (h.quiet (by rw [← hW0]; exact World.grownBy_alloc _ _ none)) #[.int .u64 0, .int .u64 0, .int .u64 0, .int .u64 0, .int .u64 0, .int .u64 0, .int .u64 0, .int .i64 0, .int .u64 0, .int .u64 0, .int .u64 0, .int .u64 0, .string ⟨#[]⟩] 58
    rw [s0, hW1] at q
    exact q
  have GW0 := hide g0
  have HW : Hid ((w.alloc (.cells #[.int .u64 0, .int .u64 0, .int .u64 0, .int .u64 0, .int .u64 0, .int .u64 0, .int .u64 0, .int .i64 0, .int .u64 0, .int .u64 0, .int .u64 0, .int .u64 0, .string ⟨#[]⟩] 58)).alloc (.cells #[.int .u64 0, .int .u64 0, .int .u64 0, .int .u64 0, .int .u64 0, .int .u64 0, .int .u64 0, .int .i64 0, .int .u64 0, .int .u64 0, .int .u64 0, .int .u64 0, .string ⟨#[]⟩] 58) = W1) := by
    show _ = _
    rw [hW0]; exact hW1
  have hdW : d < W0.heap.size := by omega
  have hpW : p < W0.heap.size := by omega
  have HE : Hid ((rdDe s).1.cells = [.int .u64 ((nV s : Nat) : Int), .int .u64 ((nV (nS s) : Nat) : Int), .int .u64 ((nV (nS (nS s)) : Nat) : Int), .int .u64 ((nV (nS (nS (nS s))) : Nat) : Int), .int .u64 ((nV (nS (nS (nS (nS s)))) : Nat) : Int), .int .u64 ((nV (nS (nS (nS (nS (nS s))))) : Nat) : Int), .int .u64 ((nV (nS (nS (nS (nS (nS (nS s)))))) : Nat) : Int), .int .i64 ((oV (nS (nS (nS (nS (nS (nS (nS s))))))) : Nat) : Int), .int .u64 ((nV (oS (nS (nS (nS (nS (nS (nS (nS s)))))))) : Nat) : Int), .int .u64 ((nV (nS (oS (nS (nS (nS (nS (nS (nS (nS s))))))))) : Nat) : Int), .int .u64 ((nV (nS (nS (oS (nS (nS (nS (nS (nS (nS (nS s)))))))))) : Nat) : Int), .int .u64 ((nV (nS (nS (nS (oS (nS (nS (nS (nS (nS (nS (nS s))))))))))) : Nat) : Int), .string (strOf (bV (nS (nS (nS (nS (oS (nS (nS (nS (nS (nS (nS (nS s)))))))))))) 512))] ∧ (rdDe s).2 = bS (nS (nS (nS (nS (oS (nS (nS (nS (nS (nS (nS (nS s)))))))))))) 512) := ⟨rfl, rfl⟩
  have N0 : Hid (∀ W cs, Dr d p W0 (w.heap.size + 1) 58 s cs W → Calls Tryz.prog 42 #[.pointer (some ⟨p, 0, none⟩)] W fun e w' => e = .returned (.int .u64 ((nV s : Nat) : Int)) ∧ Hid (Dr d p W0 (w.heap.size + 1) 58 (nS s) cs w')) := fun W cs h => num_dr hpW (by omega) h
  have N1 : Hid (∀ W cs, Dr d p W0 (w.heap.size + 1) 58 (nS s) cs W → Calls Tryz.prog 42 #[.pointer (some ⟨p, 0, none⟩)] W fun e w' => e = .returned (.int .u64 ((nV (nS s) : Nat) : Int)) ∧ Hid (Dr d p W0 (w.heap.size + 1) 58 (nS (nS s)) cs w')) := fun W cs h => num_dr hpW (by omega) h
  have N2 : Hid (∀ W cs, Dr d p W0 (w.heap.size + 1) 58 (nS (nS s)) cs W → Calls Tryz.prog 42 #[.pointer (some ⟨p, 0, none⟩)] W fun e w' => e = .returned (.int .u64 ((nV (nS (nS s)) : Nat) : Int)) ∧ Hid (Dr d p W0 (w.heap.size + 1) 58 (nS (nS (nS s))) cs w')) := fun W cs h => num_dr hpW (by omega) h
  have N3 : Hid (∀ W cs, Dr d p W0 (w.heap.size + 1) 58 (nS (nS (nS s))) cs W → Calls Tryz.prog 42 #[.pointer (some ⟨p, 0, none⟩)] W fun e w' => e = .returned (.int .u64 ((nV (nS (nS (nS s))) : Nat) : Int)) ∧ Hid (Dr d p W0 (w.heap.size + 1) 58 (nS (nS (nS (nS s)))) cs w')) := fun W cs h => num_dr hpW (by omega) h
  have N4 : Hid (∀ W cs, Dr d p W0 (w.heap.size + 1) 58 (nS (nS (nS (nS s)))) cs W → Calls Tryz.prog 42 #[.pointer (some ⟨p, 0, none⟩)] W fun e w' => e = .returned (.int .u64 ((nV (nS (nS (nS (nS s)))) : Nat) : Int)) ∧ Hid (Dr d p W0 (w.heap.size + 1) 58 (nS (nS (nS (nS (nS s))))) cs w')) := fun W cs h => num_dr hpW (by omega) h
  have N5 : Hid (∀ W cs, Dr d p W0 (w.heap.size + 1) 58 (nS (nS (nS (nS (nS s))))) cs W → Calls Tryz.prog 42 #[.pointer (some ⟨p, 0, none⟩)] W fun e w' => e = .returned (.int .u64 ((nV (nS (nS (nS (nS (nS s))))) : Nat) : Int)) ∧ Hid (Dr d p W0 (w.heap.size + 1) 58 (nS (nS (nS (nS (nS (nS s)))))) cs w')) := fun W cs h => num_dr hpW (by omega) h
  have N6 : Hid (∀ W cs, Dr d p W0 (w.heap.size + 1) 58 (nS (nS (nS (nS (nS (nS s)))))) cs W → Calls Tryz.prog 42 #[.pointer (some ⟨p, 0, none⟩)] W fun e w' => e = .returned (.int .u64 ((nV (nS (nS (nS (nS (nS (nS s)))))) : Nat) : Int)) ∧ Hid (Dr d p W0 (w.heap.size + 1) 58 (nS (nS (nS (nS (nS (nS (nS s))))))) cs w')) := fun W cs h => num_dr hpW (by omega) h
  have N7 : Hid (∀ W cs, Dr d p W0 (w.heap.size + 1) 58 (nS (nS (nS (nS (nS (nS (nS s))))))) cs W → Calls Tryz.prog 40 #[.pointer (some ⟨p, 0, none⟩), .int .i64 1] W fun e w' => e = .returned (.int .u64 ((oV (nS (nS (nS (nS (nS (nS (nS s))))))) : Nat) : Int)) ∧ Hid (Dr d p W0 (w.heap.size + 1) 58 (oS (nS (nS (nS (nS (nS (nS (nS s)))))))) cs w')) := fun W cs h => oct_dr hpW (by omega) h
  have N8 : Hid (∀ W cs, Dr d p W0 (w.heap.size + 1) 58 (oS (nS (nS (nS (nS (nS (nS (nS s)))))))) cs W → Calls Tryz.prog 42 #[.pointer (some ⟨p, 0, none⟩)] W fun e w' => e = .returned (.int .u64 ((nV (oS (nS (nS (nS (nS (nS (nS (nS s)))))))) : Nat) : Int)) ∧ Hid (Dr d p W0 (w.heap.size + 1) 58 (nS (oS (nS (nS (nS (nS (nS (nS (nS s))))))))) cs w')) := fun W cs h => num_dr hpW (by omega) h
  have N9 : Hid (∀ W cs, Dr d p W0 (w.heap.size + 1) 58 (nS (oS (nS (nS (nS (nS (nS (nS (nS s))))))))) cs W → Calls Tryz.prog 42 #[.pointer (some ⟨p, 0, none⟩)] W fun e w' => e = .returned (.int .u64 ((nV (nS (oS (nS (nS (nS (nS (nS (nS (nS s))))))))) : Nat) : Int)) ∧ Hid (Dr d p W0 (w.heap.size + 1) 58 (nS (nS (oS (nS (nS (nS (nS (nS (nS (nS s)))))))))) cs w')) := fun W cs h => num_dr hpW (by omega) h
  have N10 : Hid (∀ W cs, Dr d p W0 (w.heap.size + 1) 58 (nS (nS (oS (nS (nS (nS (nS (nS (nS (nS s)))))))))) cs W → Calls Tryz.prog 42 #[.pointer (some ⟨p, 0, none⟩)] W fun e w' => e = .returned (.int .u64 ((nV (nS (nS (oS (nS (nS (nS (nS (nS (nS (nS s)))))))))) : Nat) : Int)) ∧ Hid (Dr d p W0 (w.heap.size + 1) 58 (nS (nS (nS (oS (nS (nS (nS (nS (nS (nS (nS s))))))))))) cs w')) := fun W cs h => num_dr hpW (by omega) h
  have N11 : Hid (∀ W cs, Dr d p W0 (w.heap.size + 1) 58 (nS (nS (nS (oS (nS (nS (nS (nS (nS (nS (nS s))))))))))) cs W → Calls Tryz.prog 42 #[.pointer (some ⟨p, 0, none⟩)] W fun e w' => e = .returned (.int .u64 ((nV (nS (nS (nS (oS (nS (nS (nS (nS (nS (nS (nS s))))))))))) : Nat) : Int)) ∧ Hid (Dr d p W0 (w.heap.size + 1) 58 (nS (nS (nS (nS (oS (nS (nS (nS (nS (nS (nS (nS s)))))))))))) cs w')) := fun W cs h => num_dr hpW (by omega) h
  have NO : Hid (∀ W cs, Dr d p W0 (w.heap.size + 1) 58 (nS (nS (nS (nS (nS (nS (nS s))))))) cs W → oV (nS (nS (nS (nS (nS (nS (nS s))))))) < 256) := fun W cs h => h.rd.oct
  have NB : Hid (∀ W cs, Dr d p W0 (w.heap.size + 1) 58 (nS (nS (nS (nS (oS (nS (nS (nS (nS (nS (nS (nS s)))))))))))) cs W → Calls Tryz.prog 85 #[.pointer (some ⟨p, 0, none⟩), .int .i64 512] W fun e w' => ∃ ao n cap, e = .returned (.slice ao n cap) ∧ n = (bV (nS (nS (nS (nS (oS (nS (nS (nS (nS (nS (nS (nS s)))))))))))) 512).length ∧ Hid (Owns W.heap.size w' (.slice ao n cap) (bV (nS (nS (nS (nS (oS (nS (nS (nS (nS (nS (nS (nS s)))))))))))) 512) ∧ Dr d p W0 (w.heap.size + 1) 58 (bS (nS (nS (nS (nS (oS (nS (nS (nS (nS (nS (nS (nS s)))))))))))) 512) cs w')) := fun W cs h => blob_dr hpW (by omega) h 512 (by omega) (by omega)
  clear h hW0 g0 q0 hW1
  generalize rdDe s = rd at *
  generalize nV s = a0 at *
  generalize nS s = t1 at *
  generalize nV t1 = a1 at *
  generalize nS t1 = t2 at *
  generalize nV t2 = a2 at *
  generalize nS t2 = t3 at *
  generalize nV t3 = a3 at *
  generalize nS t3 = t4 at *
  generalize nV t4 = a4 at *
  generalize nS t4 = t5 at *
  generalize nV t5 = a5 at *
  generalize nS t5 = t6 at *
  generalize nV t6 = a6 at *
  generalize nS t6 = t7 at *
  generalize oV t7 = a7 at *
  generalize oS t7 = t8 at *
  generalize nV t8 = a8 at *
  generalize nS t8 = t9 at *
  generalize nV t9 = a9 at *
  generalize nS t9 = t10 at *
  generalize nV t10 = a10 at *
  generalize nS t10 = t11 at *
  generalize nV t11 = a11 at *
  generalize nS t11 = t12 at *
  generalize bV t12 512 = D at *
  generalize bS t12 512 = t13 at *
  go_enter Tryz.func45, Tryz.ntmps45
  go_wp2_with fail
  rw [HW.out]
  refine (N0.out _ _ (D0.out)).mono ?_
  rintro e v1 ⟨rfl, H1⟩
  have c1 := block_cell H1.out.box 0
  have f1 := block_free H1.out.box 0
  have l1 := block_lt H1.out.box
  simp at c1
  have K1 : Hid (Dr d p W0 (w.heap.size + 1) 58 t1 #[.int .u64 (a0 : Int), .int .u64 0, .int .u64 0, .int .u64 0, .int .u64 0, .int .u64 0, .int .u64 0, .int .i64 0, .int .u64 0, .int .u64 0, .int .u64 0, .int .u64 0, .string ⟨#[]⟩] (v1.setCell ⟨w.heap.size + 1, 0, none⟩ (.int .u64 (a0 : Int)))) := H1.out.set hdW hpW (by omega) 0 (.int .u64 (a0 : Int))
  go_wp2_with fail
  refine (N1.out _ _ (K1.out)).mono ?_
  rintro e v2 ⟨rfl, H2⟩
  have c2 := block_cell H2.out.box 1
  have f2 := block_free H2.out.box 1
  have l2 := block_lt H2.out.box
  simp at c2
  clear c1 f1 l1
  have K2 : Hid (Dr d p W0 (w.heap.size + 1) 58 t2 #[.int .u64 (a0 : Int), .int .u64 (a1 : Int), .int .u64 0, .int .u64 0, .int .u64 0, .int .u64 0, .int .u64 0, .int .i64 0, .int .u64 0, .int .u64 0, .int .u64 0, .int .u64 0, .string ⟨#[]⟩] (v2.setCell ⟨w.heap.size + 1, 1, none⟩ (.int .u64 (a1 : Int)))) := H2.out.set hdW hpW (by omega) 1 (.int .u64 (a1 : Int))
  clear K1 H1
  go_wp2_with fail
  refine (N2.out _ _ (K2.out)).mono ?_
  rintro e v3 ⟨rfl, H3⟩
  have c3 := block_cell H3.out.box 2
  have f3 := block_free H3.out.box 2
  have l3 := block_lt H3.out.box
  simp at c3
  clear c2 f2 l2
  have K3 : Hid (Dr d p W0 (w.heap.size + 1) 58 t3 #[.int .u64 (a0 : Int), .int .u64 (a1 : Int), .int .u64 (a2 : Int), .int .u64 0, .int .u64 0, .int .u64 0, .int .u64 0, .int .i64 0, .int .u64 0, .int .u64 0, .int .u64 0, .int .u64 0, .string ⟨#[]⟩] (v3.setCell ⟨w.heap.size + 1, 2, none⟩ (.int .u64 (a2 : Int)))) := H3.out.set hdW hpW (by omega) 2 (.int .u64 (a2 : Int))
  clear K2 H2
  go_wp2_with fail
  refine (N3.out _ _ (K3.out)).mono ?_
  rintro e v4 ⟨rfl, H4⟩
  have c4 := block_cell H4.out.box 3
  have f4 := block_free H4.out.box 3
  have l4 := block_lt H4.out.box
  simp at c4
  clear c3 f3 l3
  have K4 : Hid (Dr d p W0 (w.heap.size + 1) 58 t4 #[.int .u64 (a0 : Int), .int .u64 (a1 : Int), .int .u64 (a2 : Int), .int .u64 (a3 : Int), .int .u64 0, .int .u64 0, .int .u64 0, .int .i64 0, .int .u64 0, .int .u64 0, .int .u64 0, .int .u64 0, .string ⟨#[]⟩] (v4.setCell ⟨w.heap.size + 1, 3, none⟩ (.int .u64 (a3 : Int)))) := H4.out.set hdW hpW (by omega) 3 (.int .u64 (a3 : Int))
  clear K3 H3
  go_wp2_with fail
  refine (N4.out _ _ (K4.out)).mono ?_
  rintro e v5 ⟨rfl, H5⟩
  have c5 := block_cell H5.out.box 4
  have f5 := block_free H5.out.box 4
  have l5 := block_lt H5.out.box
  simp at c5
  clear c4 f4 l4
  have K5 : Hid (Dr d p W0 (w.heap.size + 1) 58 t5 #[.int .u64 (a0 : Int), .int .u64 (a1 : Int), .int .u64 (a2 : Int), .int .u64 (a3 : Int), .int .u64 (a4 : Int), .int .u64 0, .int .u64 0, .int .i64 0, .int .u64 0, .int .u64 0, .int .u64 0, .int .u64 0, .string ⟨#[]⟩] (v5.setCell ⟨w.heap.size + 1, 4, none⟩ (.int .u64 (a4 : Int)))) := H5.out.set hdW hpW (by omega) 4 (.int .u64 (a4 : Int))
  clear K4 H4
  go_wp2_with fail
  refine (N5.out _ _ (K5.out)).mono ?_
  rintro e v6 ⟨rfl, H6⟩
  have c6 := block_cell H6.out.box 5
  have f6 := block_free H6.out.box 5
  have l6 := block_lt H6.out.box
  simp at c6
  clear c5 f5 l5
  have K6 : Hid (Dr d p W0 (w.heap.size + 1) 58 t6 #[.int .u64 (a0 : Int), .int .u64 (a1 : Int), .int .u64 (a2 : Int), .int .u64 (a3 : Int), .int .u64 (a4 : Int), .int .u64 (a5 : Int), .int .u64 0, .int .i64 0, .int .u64 0, .int .u64 0, .int .u64 0, .int .u64 0, .string ⟨#[]⟩] (v6.setCell ⟨w.heap.size + 1, 5, none⟩ (.int .u64 (a5 : Int)))) := H6.out.set hdW hpW (by omega) 5 (.int .u64 (a5 : Int))
  clear K5 H5
  go_wp2_with fail
  refine (N6.out _ _ (K6.out)).mono ?_
  rintro e v7 ⟨rfl, H7⟩
  have c7 := block_cell H7.out.box 6
  have f7 := block_free H7.out.box 6
  have l7 := block_lt H7.out.box
  simp at c7
  clear c6 f6 l6
  have K7 : Hid (Dr d p W0 (w.heap.size + 1) 58 t7 #[.int .u64 (a0 : Int), .int .u64 (a1 : Int), .int .u64 (a2 : Int), .int .u64 (a3 : Int), .int .u64 (a4 : Int), .int .u64 (a5 : Int), .int .u64 (a6 : Int), .int .i64 0, .int .u64 0, .int .u64 0, .int .u64 0, .int .u64 0, .string ⟨#[]⟩] (v7.setCell ⟨w.heap.size + 1, 6, none⟩ (.int .u64 (a6 : Int)))) := H7.out.set hdW hpW (by omega) 6 (.int .u64 (a6 : Int))
  clear K6 H6
  go_wp2_with fail
  have ho := NO.out _ _ (K7.out)
  refine (N7.out _ _ (K7.out)).mono ?_
  rintro e v8 ⟨rfl, H8⟩
  have c8 := block_cell H8.out.box 7
  have f8 := block_free H8.out.box 7
  have l8 := block_lt H8.out.box
  simp at c8
  clear c7 f7 l7
  have K8 : Hid (Dr d p W0 (w.heap.size + 1) 58 t8 #[.int .u64 (a0 : Int), .int .u64 (a1 : Int), .int .u64 (a2 : Int), .int .u64 (a3 : Int), .int .u64 (a4 : Int), .int .u64 (a5 : Int), .int .u64 (a6 : Int), .int .i64 (a7 : Int), .int .u64 0, .int .u64 0, .int .u64 0, .int .u64 0, .string ⟨#[]⟩] (v8.setCell ⟨w.heap.size + 1, 7, none⟩ (.int .i64 (a7 : Int)))) := H8.out.set hdW hpW (by omega) 7 (.int .i64 (a7 : Int))
  clear K7 H7
  go_wp2_with fail
  refine wp_loop_rounds 4 ?_
  rw [rounds_succ]
  go_wp2_with fail
  refine (N8.out _ _ (K8.out)).mono ?_
  rintro e v9 ⟨rfl, H9⟩
  have c9 := block_cell H9.out.box 8
  have f9 := block_free H9.out.box 8
  have l9 := block_lt H9.out.box
  simp at c9
  clear c8 f8 l8
  have K9 : Hid (Dr d p W0 (w.heap.size + 1) 58 t9 #[.int .u64 (a0 : Int), .int .u64 (a1 : Int), .int .u64 (a2 : Int), .int .u64 (a3 : Int), .int .u64 (a4 : Int), .int .u64 (a5 : Int), .int .u64 (a6 : Int), .int .i64 (a7 : Int), .int .u64 (a8 : Int), .int .u64 0, .int .u64 0, .int .u64 0, .string ⟨#[]⟩] (v9.setCell ⟨w.heap.size + 1, 8, none⟩ (.int .u64 (a8 : Int)))) := H9.out.set hdW hpW (by omega) 8 (.int .u64 (a8 : Int))
  clear K8 H8
  go_wp2_with fail
  rw [rounds_succ]
  go_wp2_with fail
  refine (N9.out _ _ (K9.out)).mono ?_
  rintro e v10 ⟨rfl, H10⟩
  have c10 := block_cell H10.out.box 9
  have f10 := block_free H10.out.box 9
  have l10 := block_lt H10.out.box
  simp at c10
  clear c9 f9 l9
  have K10 : Hid (Dr d p W0 (w.heap.size + 1) 58 t10 #[.int .u64 (a0 : Int), .int .u64 (a1 : Int), .int .u64 (a2 : Int), .int .u64 (a3 : Int), .int .u64 (a4 : Int), .int .u64 (a5 : Int), .int .u64 (a6 : Int), .int .i64 (a7 : Int), .int .u64 (a8 : Int), .int .u64 (a9 : Int), .int .u64 0, .int .u64 0, .string ⟨#[]⟩] (v10.setCell ⟨w.heap.size + 1, 9, none⟩ (.int .u64 (a9 : Int)))) := H10.out.set hdW hpW (by omega) 9 (.int .u64 (a9 : Int))
  clear K9 H9
  go_wp2_with fail
  rw [rounds_succ]
  go_wp2_with fail
  refine (N10.out _ _ (K10.out)).mono ?_
  rintro e v11 ⟨rfl, H11⟩
  have c11 := block_cell H11.out.box 10
  have f11 := block_free H11.out.box 10
  have l11 := block_lt H11.out.box
  simp at c11
  clear c10 f10 l10
  have K11 : Hid (Dr d p W0 (w.heap.size + 1) 58 t11 #[.int .u64 (a0 : Int), .int .u64 (a1 : Int), .int .u64 (a2 : Int), .int .u64 (a3 : Int), .int .u64 (a4 : Int), .int .u64 (a5 : Int), .int .u64 (a6 : Int), .int .i64 (a7 : Int), .int .u64 (a8 : Int), .int .u64 (a9 : Int), .int .u64 (a10 : Int), .int .u64 0, .string ⟨#[]⟩] (v11.setCell ⟨w.heap.size + 1, 10, none⟩ (.int .u64 (a10 : Int)))) := H11.out.set hdW hpW (by omega) 10 (.int .u64 (a10 : Int))
  clear K10 H10
  go_wp2_with fail
  rw [rounds_succ]
  go_wp2_with fail
  refine (N11.out _ _ (K11.out)).mono ?_
  rintro e v12 ⟨rfl, H12⟩
  have c12 := block_cell H12.out.box 11
  have f12 := block_free H12.out.box 11
  have l12 := block_lt H12.out.box
  simp at c12
  clear c11 f11 l11
  have K12 : Hid (Dr d p W0 (w.heap.size + 1) 58 t12 #[.int .u64 (a0 : Int), .int .u64 (a1 : Int), .int .u64 (a2 : Int), .int .u64 (a3 : Int), .int .u64 (a4 : Int), .int .u64 (a5 : Int), .int .u64 (a6 : Int), .int .i64 (a7 : Int), .int .u64 (a8 : Int), .int .u64 (a9 : Int), .int .u64 (a10 : Int), .int .u64 (a11 : Int), .string ⟨#[]⟩] (v12.setCell ⟨w.heap.size + 1, 11, none⟩ (.int .u64 (a11 : Int)))) := H12.out.set hdW hpW (by omega) 11 (.int .u64 (a11 : Int))
  clear K11 H11
  go_wp2_with fail
  refine (NB.out _ _ (K12.out)).mono ?_
  rintro e v13 ⟨ao, n, cap, rfl, hn, G13⟩
  have hcv := owns_str G13.out.1
  have c13 := block_cell G13.out.2.box 12
  have f13 := block_free G13.out.2.box 12
  have l13 := block_lt G13.out.2.box
  simp at c13
  clear c12 f12
  generalize strOf D = str at *
  obtain ⟨V, hV⟩ : ∃ V, v13.setCell ⟨w.heap.size + 1, 12, none⟩ (.string str) = V := ⟨_, rfl⟩
  have DV : Hid (Dr d p W0 (w.heap.size + 1) 58 t13 #[.int .u64 (a0 : Int), .int .u64 (a1 : Int), .int .u64 (a2 : Int), .int .u64 (a3 : Int), .int .u64 (a4 : Int), .int .u64 (a5 : Int), .int .u64 (a6 : Int), .int .i64 (a7 : Int), .int .u64 (a8 : Int), .int .u64 (a9 : Int), .int .u64 (a10 : Int), .int .u64 (a11 : Int), .string str] V) := by
    rw [← hV]
    exact G13.out.2.set hdW hpW (by omega) 12 (.string str)
  have e0 := block_cell DV.out.box 0
  have e1 := block_cell DV.out.box 1
  have e2 := block_cell DV.out.box 2
  have e3 := block_cell DV.out.box 3
  have e4 := block_cell DV.out.box 4
  have e5 := block_cell DV.out.box 5
  have e6 := block_cell DV.out.box 6
  have e7 := block_cell DV.out.box 7
  have e8 := block_cell DV.out.box 8
  have e9 := block_cell DV.out.box 9
  have e10 := block_cell DV.out.box 10
  have e11 := block_cell DV.out.box 11
  have e12 := block_cell DV.out.box 12
  simp at e0 e1 e2 e3 e4 e5 e6 e7 e8 e9 e10 e11 e12
  have hC := RES.out _ DV.out.gr
  have z0 := block_cell hC 0
  have g0 := block_free hC 0
  have z1 := block_cell hC 1
  have g1 := block_free hC 1
  have z2 := block_cell hC 2
  have g2 := block_free hC 2
  have z3 := block_cell hC 3
  have g3 := block_free hC 3
  have z4 := block_cell hC 4
  have g4 := block_free hC 4
  have z5 := block_cell hC 5
  have g5 := block_free hC 5
  have z6 := block_cell hC 6
  have g6 := block_free hC 6
  have z7 := block_cell hC 7
  have g7 := block_free hC 7
  have z8 := block_cell hC 8
  have g8 := block_free hC 8
  have z9 := block_cell hC 9
  have g9 := block_free hC 9
  have z10 := block_cell hC 10
  have g10 := block_free hC 10
  have z11 := block_cell hC 11
  have g11 := block_free hC 11
  have z12 := block_cell hC 12
  have g12 := block_free hC 12
  simp at z0 z1 z2 z3 z4 z5 z6 z7 z8 z9 z10 z11 z12
  have FIN : Hid (∀ x0 x1 x2 x3 x4 x5 x6 x7 x8 x9 x10 x11 x12, w.grownBy (((((((((((((V.setCell ⟨w.heap.size, 0, none⟩ x0).setCell ⟨w.heap.size, 1, none⟩ x1).setCell ⟨w.heap.size, 2, none⟩ x2).setCell ⟨w.heap.size, 3, none⟩ x3).setCell ⟨w.heap.size, 4, none⟩ x4).setCell ⟨w.heap.size, 5, none⟩ x5).setCell ⟨w.heap.size, 6, none⟩ x6).setCell ⟨w.heap.size, 7, none⟩ x7).setCell ⟨w.heap.size, 8, none⟩ x8).setCell ⟨w.heap.size, 9, none⟩ x9).setCell ⟨w.heap.size, 10, none⟩ x10).setCell ⟨w.heap.size, 11, none⟩ x11).setCell ⟨w.heap.size, 12, none⟩ x12) (some p) ∧ RefS d (((((((((((((V.setCell ⟨w.heap.size, 0, none⟩ x0).setCell ⟨w.heap.size, 1, none⟩ x1).setCell ⟨w.heap.size, 2, none⟩ x2).setCell ⟨w.heap.size, 3, none⟩ x3).setCell ⟨w.heap.size, 4, none⟩ x4).setCell ⟨w.heap.size, 5, none⟩ x5).setCell ⟨w.heap.size, 6, none⟩ x6).setCell ⟨w.heap.size, 7, none⟩ x7).setCell ⟨w.heap.size, 8, none⟩ x8).setCell ⟨w.heap.size, 9, none⟩ x9).setCell ⟨w.heap.size, 10, none⟩ x10).setCell ⟨w.heap.size, 11, none⟩ x11).setCell ⟨w.heap.size, 12, none⟩ x12) p rd.2) := fun x0 x1 x2 x3 x4 x5 x6 x7 x8 x9 x10 x11 x12 => by
    have g : V.grownBy (((((((((((((V.setCell ⟨w.heap.size, 0, none⟩ x0).setCell ⟨w.heap.size, 1, none⟩ x1).setCell ⟨w.heap.size, 2, none⟩ x2).setCell ⟨w.heap.size, 3, none⟩ x3).setCell ⟨w.heap.size, 4, none⟩ x4).setCell ⟨w.heap.size, 5, none⟩ x5).setCell ⟨w.heap.size, 6, none⟩ x6).setCell ⟨w.heap.size, 7, none⟩ x7).setCell ⟨w.heap.size, 8, none⟩ x8).setCell ⟨w.heap.size, 9, none⟩ x9).setCell ⟨w.heap.size, 10, none⟩ x10).setCell ⟨w.heap.size, 11, none⟩ x11).setCell ⟨w.heap.size, 12, none⟩ x12) (some w.heap.size) := (grown_trans (row := some w.heap.size) (grown_trans (row := some w.heap.size) (grown_trans (row := some w.heap.size) (grown_trans (row := some w.heap.size) (grown_trans (row := some w.heap.size) (grown_trans (row := some w.heap.size) (grown_trans (row := some w.heap.size) (grown_trans (row := some w.heap.size) (grown_trans (row := some w.heap.size) (grown_trans (row := some w.heap.size) (grown_trans (row := some w.heap.size) (grown_trans (row := some w.heap.size) (grown_set _ _ _ _) (grown_set _ _ _ _)) (grown_set _ _ _ _)) (grown_set _ _ _ _)) (grown_set _ _ _ _)) (grown_set _ _ _ _)) (grown_set _ _ _ _)) (grown_set _ _ _ _)) (grown_set _ _ _ _)) (grown_set _ _ _ _)) (grown_set _ _ _ _)) (grown_set _ _ _ _)) (grown_set _ _ _ _))
    rw [HE.out.2]
    exact ⟨grown_new (grown_trans (row := some p) GW0.out DV.out.gr) g (Nat.le_refl _), DV.out.rd.kept g (by simp; omega) (by simp; omega)⟩
  have HE1 := hide HE.out.1
  have HVV := hide hV
  have hqV := block_lt DV.out.box
  clear hC RES HE NB NO G13 hn DV N0 N1 N2 N3 N4 N5 N6 N7 N8 N9 N10 N11 H12 K12
  go_wp2
  refine bodyPost_ret (v := .agg #[.int .u64 (a0 : Int), .int .u64 (a1 : Int), .int .u64 (a2 : Int), .int .u64 (a3 : Int), .int .u64 (a4 : Int), .int .u64 (a5 : Int), .int .u64 (a6 : Int), .int .i64 (a7 : Int), .int .u64 (a8 : Int), .int .u64 (a9 : Int), .int .u64 (a10 : Int), .int .u64 (a11 : Int), .string str]) (by simp [results, Tryz.results45, go_sem, z0, z1, z2, z3, z4, z5, z6, z7, z8, z9, z10, z11, z12]) rfl ?_
  exact ⟨by rw [HE1.out], FIN.out _ _ _ _ _ _ _ _ _ _ _ _ _⟩
end Go.Proofs.YtlidehhcoepikaaGreatDoor
