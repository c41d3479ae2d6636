import Derived.Test.YtiijbboigebhcaaGreatDoorM7
import Derived.Test.YtiijbboigebhcaaGreatDoorM4
namespace Go.Proofs.YtiijbboigebhcaaGreatDoor
open Go.RowKit Crc

theorem alloc_atN (w : World) (o : Obj) : (w.alloc o).heap[w.heap.size]? = some o := by simp [World.alloc, -World.alloc_eq]
/-- The reader stands so, and nothing old but it has turned. -/
def At_ (lim p : Nat) (w : World) (s : RS) (w' : World) : Prop := RdP lim w' (some ⟨p, 0, none⟩) s ∧ w.grownBy w' (some p)
theorem At_.start {lim p : Nat} {w : World} {s : RS} (h : RdP lim w (some ⟨p, 0, none⟩) s) : At_ lim p w s w := ⟨h, ⟨rfl, rfl, rfl, Nat.le_refl _, fun _ _ _ => rfl⟩⟩
theorem num_at {lim p : Nat} {w W : World} {s : RS} (h : At_ lim p w s W) : Calls Tryz.prog 75 #[.pointer (some ⟨p, 0, none⟩)] W fun e w' => e = .returned (.int .u64 (nV s : Nat)) ∧ Hid (At_ lim p w (nS s) w') :=
  (rNumP h.1).mono fun _ _ ⟨a, b, c⟩ => ⟨a, b, grown_trans (row := some p) h.2 c⟩
theorem oct_at {lim p : Nat} {w W : World} {s : RS} (h : At_ lim p w s W) : Calls Tryz.prog 74 #[.pointer (some ⟨p, 0, none⟩)] W fun e w' => e = .returned (.int .u8 (oV s : Nat)) ∧ Hid (At_ lim p w (oS s) w') :=
  (rU8P h.1).mono fun _ _ ⟨a, b, c⟩ => ⟨a, b, grown_trans (row := some p) h.2 c⟩
theorem cnt_at {lim p : Nat} {w W : World} {s : RS} (h : At_ lim p w s W) (m : Int) (h1 : -9223372036854775808 ≤ m) (h2 : m < 9223372036854775808) : Calls Tryz.prog 121 #[.pointer (some ⟨p, 0, none⟩), .int .i64 m] W fun e w' => e = .returned (.int .i64 (cV s m : Nat)) ∧ Hid (At_ lim p w (cS s m) w') :=
  (rCountP h.1 m h1 h2).mono fun _ _ ⟨a, b, c⟩ => ⟨a, b, grown_trans (row := some p) h.2 c⟩
theorem blob_at {lim p : Nat} {w W : World} {s : RS} (h : At_ lim p w s W) (m : Int) (h1 : -9223372036854775808 ≤ m) (h2 : m < 9223372036854775808) : Calls Tryz.prog 122 #[.pointer (some ⟨p, 0, none⟩), .int .i64 m] W fun e w' => ∃ ao n cap, e = .returned (.slice ao n cap) ∧ n = (bV s m).length ∧ Hid (Owns w.heap.size w' (.slice ao n cap) (bV s m) ∧ At_ lim p w (bS s m) w') :=
  (rBlobP h.1 m h1 h2).mono fun _ _ ⟨v, a, o, b, c⟩ => by
    obtain ⟨ao, cap, e, -⟩ := o.form
    subst e
    exact ⟨ao, _, cap, a, rfl, o.lower h.2.size, b, grown_trans (row := some p) h.2 c⟩
theorem At_.pos {lim p : Nat} {w W : World} {s : RS} (h : At_ lim p w s W) : lim ≤ p ∧ p < W.heap.size := by
  rcases h.1 with ⟨e, -⟩ | ⟨q, e, hR⟩
  · cases e
  · cases e
    exact ⟨hR.limp, hR.plt⟩
theorem At_.small {lim p : Nat} {w W : World} {s : RS} (h : At_ lim p w s W) : ∀ x ∈ s.rest, x < 256 := by
  rcases h.1 with ⟨e, -⟩ | ⟨q, e, hR⟩
  · cases e
  · intro x hx
    obtain ⟨_, _, _, hS, _⟩ := hR
    unfold RS.rest restB at hx
    split at hx
    · exact hS.2.2.2.1 x (List.mem_of_mem_drop hx)
    · cases hx
theorem At_.oct {lim p : Nat} {w W : World} {s : RS} (h : At_ lim p w s W) : oV s < 256 := hi_take_lt (k := 1) h.small
/-- Writing into newer memory is no matter to it. -/
theorem At_.box {lim p q : Nat} {w W W' : World} {s : RS} (h : At_ lim p w s W) (hp : p < w.heap.size) (hq : w.heap.size ≤ q) (hg : W.grownBy W' (some q)) : At_ lim p w s W' := by
  have hl := h.pos.1
  refine ⟨h.1.kept hg (fun k e => by cases e; exact ⟨by omega, by simp [rowP]; omega⟩), hg.os.trans h.2.os, hg.tape.trans h.2.tape, hg.output.trans h.2.output, Nat.le_trans h.2.size hg.size, fun i hi hr => (hg.block i (Nat.lt_of_lt_of_le hi h.2.size) (by simp; omega)).trans (h.2.block i hi hr)⟩
theorem At_.quiet {lim p : Nat} {w W W' : World} {s : RS} (h : At_ lim p w s W) (hg : W.grownBy W' none) : At_ lim p w s W' :=
  ⟨h.1.kept hg (fun k e => by cases e), hg.os.trans h.2.os, hg.tape.trans h.2.tape, hg.output.trans h.2.output, Nat.le_trans h.2.size hg.size, fun i hi hr => (hg.block i (Nat.lt_of_lt_of_le hi h.2.size) (by simp)).trans (h.2.block i hi hr)⟩
theorem At_.alloc {lim p : Nat} {w W : World} {s : RS} (h : At_ lim p w s W) (o : Obj) : At_ lim p w s (W.alloc o) := h.quiet (World.grownBy_alloc _ _ none)
/-- Begun once more behind it. -/
theorem At_.again {lim p : Nat} {w W : World} {s : RS} (h : At_ lim p w s W) : At_ lim p W s W := At_.start h.1
theorem At_.trans {lim p : Nat} {w W W' : World} {s s' : RS} (h : At_ lim p w s W) (h' : At_ lim p W s' W') : At_ lim p w s' W' := ⟨h'.1, grown_trans (row := some p) h.2 h'.2⟩
theorem At_.block {lim p : Nat} {w W : World} {s : RS} (h : At_ lim p w s W) {q : Nat} (hq : q < w.heap.size) (hne : q ≠ p) : W.heap[q]? = w.heap[q]? := h.2.block q hq (by simpa using hne)
set_option maxRecDepth 10000 in
set_option maxHeartbeats 1600000 in
theorem readAccount_any {lim p : Nat} {w : World} {s : RS} (h : RdP lim w (some ⟨p, 0, none⟩) s) : Calls Tryz.prog 116 #[.pointer (some ⟨p, 0, none⟩)] w fun e w' => e = .returned (.agg (rdAc s).1.cells.toArray) ∧ Hid (At_ lim p w (rdAc s).2 w') := by
  have hpw := (At_.start h).pos.2
  obtain ⟨W0, hW0⟩ : ∃ W0, w.alloc (.cells #[.int .u64 0, .int .u64 0, .int .u64 0, .int .u64 0] 63) = W0 := ⟨_, rfl⟩
  have s0 : W0.heap.size = w.heap.size + 1 := by rw [← hW0]; simp
  have a0 : At_ lim p w s W0 := by rw [← hW0]; exact (At_.start h).alloc _
  have q0 : W0.heap[w.heap.size]? = some (.cells #[.int .u64 0, .int .u64 0, .int .u64 0, .int .u64 0] 63 (0, 0)) := by rw [← hW0]; exact alloc_atN _ _
  have RES : Hid (∀ s' W, At_ lim p W0 s' W → W.heap[w.heap.size]? = some (.cells #[.int .u64 0, .int .u64 0, .int .u64 0, .int .u64 0] 63 (0, 0)) ∧ At_ lim p w s' W) := fun s' W hb => ⟨(hb.block (by omega) (by omega)).trans q0, a0.trans hb⟩
  have H0 := hide a0.again
  have HW0 := hide hW0
  clear h hW0 s0 a0 q0
  go_enter Tryz.func116, Tryz.ntmps116
  go_wp2_with fail
  rw [HW0.out]
  refine (num_at H0.out).mono ?_
  rintro e w1 ⟨rfl, H1⟩
  clear H0
  go_wp2_with fail
  refine (num_at H1.out).mono ?_
  rintro e w2 ⟨rfl, H2⟩
  clear H1
  go_wp2_with fail
  refine (num_at H2.out).mono ?_
  rintro e w3 ⟨rfl, H3⟩
  clear H2
  go_wp2_with fail
  refine (num_at H3.out).mono ?_
  rintro e w4 ⟨rfl, H4⟩
  clear H3
  obtain ⟨hC, hA⟩ := RES.out _ _ H4.out
  have z0 := block_cell hC 0
  have f0 := block_free hC 0
  have z1 := block_cell hC 1
  have f1 := block_free hC 1
  have z2 := block_cell hC 2
  have f2 := block_free hC 2
  have z3 := block_cell hC 3
  have f3 := block_free hC 3
  simp at z0 z1 z2 z3
  have FIN : Hid (∀ x0 x1 x2 x3, At_ lim p w (rdAc s).2 ((((w4.setCell ⟨w.heap.size, 0, none⟩ x0).setCell ⟨w.heap.size, 1, none⟩ x1).setCell ⟨w.heap.size, 2, none⟩ x2).setCell ⟨w.heap.size, 3, none⟩ x3)) := fun x0 x1 x2 x3 => hA.box hpw (Nat.le_refl _) (by repeat (first | exact grown_set _ _ _ _ | refine grown_trans (row := some _) ?_ (grown_set _ _ _ _)))
  clear hC hA RES HW0 H4
  go_wp2
  refine bodyPost_ret (v := .agg (rdAc s).1.cells.toArray) (by simp [results, Tryz.results116, go_sem, z0, z1, z2, z3, rdAc, Ac.cells]) rfl ⟨rfl, FIN.out _ _ _ _⟩
set_option maxRecDepth 10000 in
set_option maxHeartbeats 1600000 in
theorem readHold_any {lim p : Nat} {w : World} {s : RS} (h : RdP lim w (some ⟨p, 0, none⟩) s) : Calls Tryz.prog 118 #[.pointer (some ⟨p, 0, none⟩)] w fun e w' => e = .returned (.agg (rdHo s).1.cells.toArray) ∧ Hid (At_ lim p w (rdHo s).2 w') := by
  have hpw := (At_.start h).pos.2
  obtain ⟨W0, hW0⟩ : ∃ W0, w.alloc (.cells #[.int .u64 0, .int .u64 0, .int .u64 0] 65) = W0 := ⟨_, rfl⟩
  have s0 : W0.heap.size = w.heap.size + 1 := by rw [← hW0]; simp
  have a0 : At_ lim p w s W0 := by rw [← hW0]; exact (At_.start h).alloc _
  have q0 : W0.heap[w.heap.size]? = some (.cells #[.int .u64 0, .int .u64 0, .int .u64 0] 65 (0, 0)) := by rw [← hW0]; exact alloc_atN _ _
  have RES : Hid (∀ s' W, At_ lim p W0 s' W → W.heap[w.heap.size]? = some (.cells #[.int .u64 0, .int .u64 0, .int .u64 0] 65 (0, 0)) ∧ At_ lim p w s' W) := fun s' W hb => ⟨(hb.block (by omega) (by omega)).trans q0, a0.trans hb⟩
  have H0 := hide a0.again
  have HW0 := hide hW0
  clear h hW0 s0 a0 q0
  go_enter Tryz.func118, Tryz.ntmps118
  go_wp2_with fail
  rw [HW0.out]
  refine (num_at H0.out).mono ?_
  rintro e w1 ⟨rfl, H1⟩
  clear H0
  go_wp2_with fail
  refine (num_at H1.out).mono ?_
  rintro e w2 ⟨rfl, H2⟩
  clear H1
  go_wp2_with fail
  refine (num_at H2.out).mono ?_
  rintro e w3 ⟨rfl, H3⟩
  clear H2
  obtain ⟨hC, hA⟩ := RES.out _ _ H3.out
  have z0 := block_cell hC 0
  have f0 := block_free hC 0
  have z1 := block_cell hC 1
  have f1 := block_free hC 1
  have z2 := block_cell hC 2
  have f2 := block_free hC 2
  simp at z0 z1 z2
  have FIN : Hid (∀ x0 x1 x2, At_ lim p w (rdHo s).2 (((w3.setCell ⟨w.heap.size, 0, none⟩ x0).setCell ⟨w.heap.size, 1, none⟩ x1).setCell ⟨w.heap.size, 2, none⟩ x2)) := fun x0 x1 x2 => hA.box hpw (Nat.le_refl _) (by repeat (first | exact grown_set _ _ _ _ | refine grown_trans (row := some _) ?_ (grown_set _ _ _ _)))
  clear hC hA RES HW0 H3
  go_wp2
  refine bodyPost_ret (v := .agg (rdHo s).1.cells.toArray) (by simp [results, Tryz.results118, go_sem, z0, z1, z2, rdHo, Ho.cells]) rfl ⟨rfl, FIN.out _ _ _⟩
set_option maxRecDepth 10000 in
set_option maxHeartbeats 1600000 in
theorem readEntry_any {lim p : Nat} {w : World} {s : RS} (h : RdP lim w (some ⟨p, 0, none⟩) s) : Calls Tryz.prog 120 #[.pointer (some ⟨p, 0, none⟩)] w fun e w' => e = .returned (.agg (rdEn s).1.cells.toArray) ∧ Hid (At_ lim p w (rdEn s).2 w') := by
  have hpw := (At_.start h).pos.2
  obtain ⟨W0, hW0⟩ : ∃ W0, w.alloc (.cells #[.int .u64 0, .int .i64 0, .int .u64 0, .int .u64 0, .int .u64 0] 67) = W0 := ⟨_, rfl⟩
  have s0 : W0.heap.size = w.heap.size + 1 := by rw [← hW0]; simp
  have a0 : At_ lim p w s W0 := by rw [← hW0]; exact (At_.start h).alloc _
  have q0 : W0.heap[w.heap.size]? = some (.cells #[.int .u64 0, .int .i64 0, .int .u64 0, .int .u64 0, .int .u64 0] 67 (0, 0)) := by rw [← hW0]; exact alloc_atN _ _
  have RES : Hid (∀ s' W, At_ lim p W0 s' W → W.heap[w.heap.size]? = some (.cells #[.int .u64 0, .int .i64 0, .int .u64 0, .int .u64 0, .int .u64 0] 67 (0, 0)) ∧ At_ lim p w s' W) := fun s' W hb => ⟨(hb.block (by omega) (by omega)).trans q0, a0.trans hb⟩
  have H0 := hide a0.again
  have HW0 := hide hW0
  clear h hW0 s0 a0 q0
  go_enter Tryz.func120, Tryz.ntmps120
  go_wp2_with fail
  rw [HW0.out]
  refine (num_at H0.out).mono ?_
  rintro e w1 ⟨rfl, H1⟩
  clear H0
  go_wp2_with fail
  have ho := H1.out.oct
  refine (oct_at H1.out).mono ?_
  rintro e w2 ⟨rfl, H2⟩
  clear H1
  go_wp2_with fail
  refine (num_at H2.out).mono ?_
  rintro e w3 ⟨rfl, H3⟩
  clear H2
  go_wp2_with fail
  refine (num_at H3.out).mono ?_
  rintro e w4 ⟨rfl, H4⟩
  clear H3
  go_wp2_with fail
  refine (num_at H4.out).mono ?_
  rintro e w5 ⟨rfl, H5⟩
  clear H4
  obtain ⟨hC, hA⟩ := RES.out _ _ H5.out
  have z0 := block_cell hC 0
  have f0 := block_free hC 0
  have z1 := block_cell hC 1
  have f1 := block_free hC 1
  have z2 := block_cell hC 2
  have f2 := block_free hC 2
  have z3 := block_cell hC 3
  have f3 := block_free hC 3
  have z4 := block_cell hC 4
  have f4 := block_free hC 4
  simp at z0 z1 z2 z3 z4
  have FIN : Hid (∀ x0 x1 x2 x3 x4, At_ lim p w (rdEn s).2 (((((w5.setCell ⟨w.heap.size, 0, none⟩ x0).setCell ⟨w.heap.size, 1, none⟩ x1).setCell ⟨w.heap.size, 2, none⟩ x2).setCell ⟨w.heap.size, 3, none⟩ x3).setCell ⟨w.heap.size, 4, none⟩ x4)) := fun x0 x1 x2 x3 x4 => hA.box hpw (Nat.le_refl _) (by repeat (first | exact grown_set _ _ _ _ | refine grown_trans (row := some _) ?_ (grown_set _ _ _ _)))
  clear hC hA RES HW0 H5
  go_wp2
  refine bodyPost_ret (v := .agg (rdEn s).1.cells.toArray) (by simp [results, Tryz.results120, go_sem, z0, z1, z2, z3, z4, rdEn, En.cells]) rfl ⟨rfl, FIN.out _ _ _ _ _⟩
end Go.Proofs.YtiijbboigebhcaaGreatDoor
