import Derived.Test.YtldhafpeigdloaaGreatDoorM12
import Derived.Test.YtldhafpeigdloaaGreatDoorM0
import Derived.Deep.MidRow
namespace Go.Proofs.YtldhafpeigdloaaGreatDoor
open Go.RowKit Crc

theorem grown_drew1 (w : World) (p : Nat) : w.grownBy w.drew (some p) := ⟨rfl, rfl, rfl, Nat.le_refl _, fun _ _ _ => rfl⟩
theorem cell_set_off {w : World} {p o o' : Nat} {u v : Value} (h : w.cell? ⟨p, o, none⟩ = some u) (hne : o ≠ o') : (w.setCell ⟨p, o', none⟩ v).cell? ⟨p, o, none⟩ = some u := by
  exact (World.cell?_setCell_other w ⟨p, o', none⟩ ⟨p, o, none⟩ v (by intro e; cases e; exact hne rfl)).trans h
set_option maxRecDepth 10000 in
set_option maxHeartbeats 800000 in
theorem fLow_any (lim p : Nat) (s : RS) (w : World) (hR : RdS lim w p s) (hK : s.K.R.length = 49) :
    Calls Tryz.prog 115 #[.pointer (some ⟨p, 0, none⟩)] w fun e w' => e = .returned (.tuple #[]) ∧ Hid (RdS lim w' p ((rdBound s 0 1099511627776).setR 4 (.int .u64 ((numAt s.rest).1 : Nat))) ∧ w.grownBy w' (some p)) := by
  have H1 : Hid (Calls Tryz.prog 130 #[.pointer (some ⟨p, 0, none⟩), .int .u64 0, .int .u64 1099511627776] w fun e w1 => e = .returned (.int .u64 ((numAt s.rest).1 : Nat)) ∧ Hid (RdS lim w1 p (rdBound s 0 1099511627776) ∧ w.grownBy w1 (some p))) := readBound_any lim p s 0 1099511627776 _ hR
  have HK : Hid ((rdBound s 0 1099511627776).K.R.length = 49) := by show _ = _; rw [rdBound_K]; exact hK
  clear hR hK
  go_enter Tryz.func115, Tryz.ntmps115
  go_wp2_with fail
  refine H1.out.mono ?_
  rintro e w1 ⟨rfl, G1⟩
  obtain ⟨u, hu⟩ := some_at (j := 4) (by have := HK.out; omega : 4 < (rdBound s 0 1099511627776).K.R.length)
  obtain ⟨c0, f0⟩ := G1.out.1.cellR 4
  rw [hu] at c0
  clear hu
  go_wp2
  go_end0
  exact ⟨rfl, G1.out.1.setR 4 _, grown_trans (row := some p) G1.out.2 (grown_set _ _ _ _)⟩

set_option maxRecDepth 10000 in
set_option maxHeartbeats 800000 in
theorem fStamp_any (lim p : Nat) (s : RS) (w : World) (hR : RdS lim w p s) (hK : s.K.R.length = 49) :
    Calls Tryz.prog 122 #[.pointer (some ⟨p, 0, none⟩)] w fun e w' => e = .returned (.tuple #[]) ∧ Hid (RdS lim w' p ((rdBound s 0 1099511627776).setR 9 (.int .u64 ((numAt s.rest).1 : Nat))) ∧ w.grownBy w' (some p)) := by
  have H1 : Hid (Calls Tryz.prog 130 #[.pointer (some ⟨p, 0, none⟩), .int .u64 0, .int .u64 1099511627776] w fun e w1 => e = .returned (.int .u64 ((numAt s.rest).1 : Nat)) ∧ Hid (RdS lim w1 p (rdBound s 0 1099511627776) ∧ w.grownBy w1 (some p))) := readBound_any lim p s 0 1099511627776 _ hR
  have HK : Hid ((rdBound s 0 1099511627776).K.R.length = 49) := by show _ = _; rw [rdBound_K]; exact hK
  clear hR hK
  go_enter Tryz.func122, Tryz.ntmps122
  go_wp2_with fail
  refine H1.out.mono ?_
  rintro e w1 ⟨rfl, G1⟩
  obtain ⟨u, hu⟩ := some_at (j := 9) (by have := HK.out; omega : 9 < (rdBound s 0 1099511627776).K.R.length)
  obtain ⟨c0, f0⟩ := G1.out.1.cellR 9
  rw [hu] at c0
  clear hu
  go_wp2
  go_end0
  exact ⟨rfl, G1.out.1.setR 9 _, grown_trans (row := some p) G1.out.2 (grown_set _ _ _ _)⟩

set_option maxRecDepth 10000 in
set_option maxHeartbeats 800000 in
theorem fIndex_any (lim p : Nat) (s : RS) (w : World) (hR : RdS lim w p s) (hK : s.K.R.length = 49) :
    Calls Tryz.prog 114 #[.pointer (some ⟨p, 0, none⟩)] w fun e w' => e = .returned (.tuple #[]) ∧ Hid (RdS lim w' p ((rdBound s 0 39).setR 14 (.int .u64 ((numAt s.rest).1 : Nat))) ∧ w.grownBy w' (some p)) := by
  have H1 : Hid (Calls Tryz.prog 130 #[.pointer (some ⟨p, 0, none⟩), .int .u64 0, .int .u64 39] w fun e w1 => e = .returned (.int .u64 ((numAt s.rest).1 : Nat)) ∧ Hid (RdS lim w1 p (rdBound s 0 39) ∧ w.grownBy w1 (some p))) := readBound_any lim p s 0 39 _ hR
  have HK : Hid ((rdBound s 0 39).K.R.length = 49) := by show _ = _; rw [rdBound_K]; exact hK
  clear hR hK
  go_enter Tryz.func114, Tryz.ntmps114
  go_wp2_with fail
  refine H1.out.mono ?_
  rintro e w1 ⟨rfl, G1⟩
  obtain ⟨u, hu⟩ := some_at (j := 14) (by have := HK.out; omega : 14 < (rdBound s 0 39).K.R.length)
  obtain ⟨c0, f0⟩ := G1.out.1.cellR 14
  rw [hu] at c0
  clear hu
  go_wp2
  go_end0
  exact ⟨rfl, G1.out.1.setR 14 _, grown_trans (row := some p) G1.out.2 (grown_set _ _ _ _)⟩

set_option maxRecDepth 10000 in
set_option maxHeartbeats 800000 in
theorem fCmd_any (lim p : Nat) (s : RS) (w : World) (hR : RdS lim w p s) (hK : s.K.R.length = 49) :
    Calls Tryz.prog 113 #[.pointer (some ⟨p, 0, none⟩)] w fun e w' => e = .returned (.tuple #[]) ∧ Hid (∃ v, Owns w.heap.size w' v (blobAt s.rest 700).1 ∧ RdS lim w' p ((s.step (blobAt s.rest 700).2.1 (blobAt s.rest 700).2.2).setR 11 v) ∧ w.grownBy w' (some p)) := by
  have hp := hR.plt
  have H1 := hide (rBlob_any lim p s 700 w hR (by omega) (by omega))
  have HK : Hid ((s.step (blobAt s.rest 700).2.1 (blobAt s.rest 700).2.2).K.R.length = 49) := by show _ = _; rw [step_K]; exact hK
  clear hR hK
  generalize s.step (blobAt s.rest 700).2.1 (blobAt s.rest 700).2.2 = t at *
  go_enter Tryz.func113, Tryz.ntmps113
  go_wp2_with fail
  refine H1.out.mono ?_
  rintro e w1 ⟨v, rfl, g1, _, g2, g3⟩
  have G1 := hide g1
  have G2 := hide g2
  have G3 := hide g3
  obtain ⟨u, hu⟩ := some_at (j := 11) (by have := HK.out; omega : 11 < t.K.R.length)
  obtain ⟨c0, f0⟩ := G2.out.cellR 11
  rw [hu] at c0
  obtain ⟨vo, vc, hv, _, _⟩ := G1.out.form
  subst hv
  clear hu g1 g2 g3
  go_wp2
  go_end0
  exact ⟨rfl, _, G1.out.kept (grown_set _ _ _ _) (.inr (fun e => by have := (G1.out.1.lt _ e).1; omega)), G2.out.setR 11 _, grown_trans (row := some p) G3.out (grown_set _ _ _ _)⟩

set_option maxRecDepth 10000 in
set_option maxHeartbeats 800000 in
theorem fRes_any (lim p : Nat) (s : RS) (w : World) (hR : RdS lim w p s) (hK : s.K.R.length = 49) :
    Calls Tryz.prog 118 #[.pointer (some ⟨p, 0, none⟩)] w fun e w' => e = .returned (.tuple #[]) ∧ Hid (∃ v, Owns w.heap.size w' v (blobAt s.rest 256).1 ∧ RdS lim w' p ((s.step (blobAt s.rest 256).2.1 (blobAt s.rest 256).2.2).setR 12 v) ∧ w.grownBy w' (some p)) := by
  have hp := hR.plt
  have H1 := hide (rBlob_any lim p s 256 w hR (by omega) (by omega))
  have HK : Hid ((s.step (blobAt s.rest 256).2.1 (blobAt s.rest 256).2.2).K.R.length = 49) := by show _ = _; rw [step_K]; exact hK
  clear hR hK
  generalize s.step (blobAt s.rest 256).2.1 (blobAt s.rest 256).2.2 = t at *
  go_enter Tryz.func118, Tryz.ntmps118
  go_wp2_with fail
  refine H1.out.mono ?_
  rintro e w1 ⟨v, rfl, g1, _, g2, g3⟩
  have G1 := hide g1
  have G2 := hide g2
  have G3 := hide g3
  obtain ⟨u, hu⟩ := some_at (j := 12) (by have := HK.out; omega : 12 < t.K.R.length)
  obtain ⟨c0, f0⟩ := G2.out.cellR 12
  rw [hu] at c0
  obtain ⟨vo, vc, hv, _, _⟩ := G1.out.form
  subst hv
  clear hu g1 g2 g3
  go_wp2
  go_end0
  exact ⟨rfl, _, G1.out.kept (grown_set _ _ _ _) (.inr (fun e => by have := (G1.out.1.lt _ e).1; omega)), G2.out.setR 12 _, grown_trans (row := some p) G3.out (grown_set _ _ _ _)⟩

set_option maxRecDepth 10000 in
set_option maxHeartbeats 800000 in
theorem fSeq_any (lim p : Nat) (s : RS) (w : World) (hR : RdS lim w p s) (hK : s.K.R.length = 49) :
    Calls Tryz.prog 120 #[.pointer (some ⟨p, 0, none⟩)] w fun e w' => e = .returned (.tuple #[]) ∧ Hid (RdS lim w' p ((rdNum s).setR 8 (.int .u64 ((numAt s.rest).1 : Nat))) ∧ w.grownBy w' (some p)) := by
  have H1 : Hid (Calls Tryz.prog 133 #[.pointer (some ⟨p, 0, none⟩)] w fun e w1 => e = .returned (.int .u64 ((numAt s.rest).1 : Nat)) ∧ Hid (RdS lim w1 p (rdNum s) ∧ w.grownBy w1 (some p))) := (rNum_any lim p s w hR).mono (fun _ _ h => ⟨h.1, h.2⟩)
  have HK : Hid ((rdNum s).K.R.length = 49) := by show _ = _; unfold rdNum; rw [step_K]; exact hK
  clear hR hK
  go_enter Tryz.func120, Tryz.ntmps120
  go_wp2_with fail
  refine H1.out.mono ?_
  rintro e w1 ⟨rfl, G1⟩
  obtain ⟨u, hu⟩ := some_at (j := 8) (by have := HK.out; omega : 8 < (rdNum s).K.R.length)
  obtain ⟨c0, f0⟩ := G1.out.1.cellR 8
  rw [hu] at c0
  clear hu
  go_wp2
  go_end0
  exact ⟨rfl, G1.out.1.setR 8 _, grown_trans (row := some p) G1.out.2 (grown_set _ _ _ _)⟩

set_option maxRecDepth 10000 in
set_option maxHeartbeats 800000 in
theorem fSus_any (lim p : Nat) (s : RS) (w : World) (hR : RdS lim w p s) (hK : s.K.R.length = 49) :
    Calls Tryz.prog 123 #[.pointer (some ⟨p, 0, none⟩)] w fun e w' => e = .returned (.tuple #[]) ∧ Hid (RdS lim w' p ((s.step 1 (flagW s.rest)).setR 13 (.bool (flagV s.rest))) ∧ w.grownBy w' (some p)) := by
  have H1 : Hid (Calls Tryz.prog 134 #[.pointer (some ⟨p, 0, none⟩)] w fun e w1 => e = .returned (.bool (flagV s.rest)) ∧ Hid (RdS lim w1 p (s.step 1 (flagW s.rest)) ∧ w.grownBy w1 (some p))) := (rFlag_any lim p s w hR).mono (fun _ _ h => ⟨h.1, h.2⟩)
  have HK : Hid ((s.step 1 (flagW s.rest)).K.R.length = 49) := by show _ = _; rw [step_K]; exact hK
  clear hR hK
  generalize s.step 1 (flagW s.rest) = t at *
  generalize flagV s.rest = b at *
  go_enter Tryz.func123, Tryz.ntmps123
  go_wp2_with fail
  refine H1.out.mono ?_
  rintro e w1 ⟨rfl, G1⟩
  obtain ⟨u, hu⟩ := some_at (j := 13) (by have := HK.out; omega : 13 < t.K.R.length)
  obtain ⟨c0, f0⟩ := G1.out.1.cellR 13
  rw [hu] at c0
  clear hu
  go_wp2
  go_end0
  exact ⟨rfl, G1.out.1.setR 13 _, grown_trans (row := some p) G1.out.2 (grown_set _ _ _ _)⟩

set_option maxRecDepth 10000 in
set_option maxHeartbeats 800000 in
theorem fCode_any (lim p : Nat) (s : RS) (w : World) (hR : RdS lim w p s) (hK : s.K.R.length = 49) :
    Calls Tryz.prog 116 #[.pointer (some ⟨p, 0, none⟩)] w fun e w' => e = .returned (.tuple #[]) ∧ Hid (RdS lim w' p ((rdBound s 0 1023).setR 10 (.int .i64 (wrap64 ((numAt s.rest).1 : Nat)))) ∧ w.grownBy w' (some p)) := by
  have H1 : Hid (Calls Tryz.prog 130 #[.pointer (some ⟨p, 0, none⟩), .int .u64 0, .int .u64 1023] w fun e w1 => e = .returned (.int .u64 ((numAt s.rest).1 : Nat)) ∧ Hid (RdS lim w1 p (rdBound s 0 1023) ∧ w.grownBy w1 (some p))) := readBound_any lim p s 0 1023 _ hR
  have HK : Hid ((rdBound s 0 1023).K.R.length = 49) := by show _ = _; rw [rdBound_K]; exact hK
  clear hR hK
  go_enter Tryz.func116, Tryz.ntmps116
  go_wp2_with fail
  refine H1.out.mono ?_
  rintro e w1 ⟨rfl, G1⟩
  obtain ⟨u, hu⟩ := some_at (j := 10) (by have := HK.out; omega : 10 < (rdBound s 0 1023).K.R.length)
  obtain ⟨c0, f0⟩ := G1.out.1.cellR 10
  rw [hu] at c0
  clear hu
  go_wp2
  go_end0
  exact ⟨rfl, G1.out.1.setR 10 _, grown_trans (row := some p) G1.out.2 (grown_set _ _ _ _)⟩

set_option maxRecDepth 10000 in
set_option maxHeartbeats 800000 in
theorem fChunk_any (lim p : Nat) (s : RS) (w : World) (hR : RdS lim w p s) (hK : s.K.R.length = 49) :
    Calls Tryz.prog 112 #[.pointer (some ⟨p, 0, none⟩)] w fun e w' => e = .returned (.tuple #[]) ∧ Hid (∃ v, Owns w.heap.size w' v (blobAt s.rest 1024).1 ∧ RdS lim w' p (let t := (s.step (blobAt s.rest 1024).2.1 (blobAt s.rest 1024).2.2).setR 12 v; if (blobAt s.rest 1024).1.length = 0 then t.failP s.pos 29 else t) ∧ w.grownBy w' (some p)) := by
  have hp := hR.plt
  have HA := hide (rAt_any lim p s w hR)
  have H1 := hide (rBlob_any lim p s 1024 w hR (by omega) (by omega))
  have HK : Hid ((s.step (blobAt s.rest 1024).2.1 (blobAt s.rest 1024).2.2).K.R.length = 49) := by show _ = _; rw [step_K]; exact hK
  clear hR hK
  generalize s.step (blobAt s.rest 1024).2.1 (blobAt s.rest 1024).2.2 = t at *
  generalize (blobAt s.rest 1024).1 = C at *
  generalize s.pos = pos at *
  go_enter Tryz.func112, Tryz.ntmps112
  go_wp2_with fail
  refine HA.out.mono ?_
  rintro e w0 ⟨rfl, rfl⟩
  go_wp2_with fail
  refine H1.out.mono ?_
  rintro e w1 ⟨v, rfl, g1, _, g2, g3⟩
  have G1 := hide g1
  have G2 := hide g2
  have G3 := hide g3
  obtain ⟨u, hu⟩ := some_at (j := 12) (by have := HK.out; omega : 12 < t.K.R.length)
  obtain ⟨c0, f0⟩ := G2.out.cellR 12
  rw [hu] at c0
  obtain ⟨vo, vc, hv, _, _⟩ := G1.out.form
  subst hv
  clear hu g1 g2 g3
  have HS := hide (G2.out.setR 12 (.slice vo C.length vc))
  have HG := hide (grown_trans (row := some p) G3.out (grown_set w1 p (12 + 5) (.slice vo C.length vc)))
  have HO := hide (G1.out.kept (grown_set w1 p (12 + 5) (.slice vo C.length vc)) (.inr (fun e => by have := (G1.out.1.lt _ e).1; omega)))
  by_cases hz : C.length = 0
  · have z1 : ((C.length : Int) == 0) = true := by rw [hz]; rfl
    have HZ := hide hz
    clear G1 G2 G3 hz
    go_wp2_with fail
    refine (failP_any lim p _ pos 29 _ HS.out).mono ?_
    rintro e w2 ⟨rfl, g4, g5⟩
    have G4 := hide g4
    have G5 := hide g5
    clear g4 g5
    go_wp2
    go_end0
    exact ⟨rfl, _, HO.out.kept G5.out (.inr (fun e => by have := (HO.out.1.lt _ e).1; omega)), by first | exact G4.out | (rw [if_pos HZ.out]; exact G4.out), grown_trans (row := some p) HG.out G5.out⟩
  · have z1 : ((C.length : Int) == 0) = false := by simp only [beq_eq_false_iff_ne, ne_eq]; omega
    have HZ := hide hz
    clear G1 G2 G3 hz
    go_wp2
    go_end0
    exact ⟨rfl, _, HO.out, by first | exact HS.out | (rw [if_neg HZ.out]; exact HS.out), HG.out⟩
set_option maxRecDepth 10000 in
set_option maxHeartbeats 800000 in
theorem fTotal_any (lim p : Nat) (s : RS) (w : World) (hR : RdS lim w p s) (hK : s.K.R.length = 49) (i : Nat) (hi : s.K.R[14]? = some (.int .u64 (i : Int))) (l : Nat) (hl : IntKind.u64.wrap ((i : Int) + 1) = (l : Int)) :
    Calls Tryz.prog 124 #[.pointer (some ⟨p, 0, none⟩)] w fun e w' => e = .returned (.tuple #[]) ∧ Hid (RdS lim w' p ((rdBound s l 40).setR 15 (.int .u64 ((numAt s.rest).1 : Nat))) ∧ w.grownBy w' (some p)) := by
  have H1 : Hid (∀ W : World, W.heap = w.heap → Calls Tryz.prog 130 #[.pointer (some ⟨p, 0, none⟩), .int .u64 (l : Int), .int .u64 40] W fun e w1 => e = .returned (.int .u64 ((numAt s.rest).1 : Nat)) ∧ Hid (RdS lim w1 p (rdBound s l 40) ∧ W.grownBy w1 (some p))) := fun W hW => readBound_any lim p s l 40 _ (Rd.world hR hW)
  have HK : Hid ((rdBound s l 40).K.R.length = 49) := by show _ = _; rw [rdBound_K]; exact hK
  obtain ⟨c14, f14⟩ := hR.cellR 14
  rw [hi] at c14
  have HI : Hid ((rdBound s l 40).K.R[14]? = some (.int .u64 (i : Int))) := by show _ = _; rw [rdBound_K]; exact hi
  clear hR hK hi
  go_enter Tryz.func124, Tryz.ntmps124
  go_wp2
  go_region_held (fun w' => w'.cell? ⟨p, 19, none⟩ = some (.int .u64 (i : Int))) (first | go_keep | exact cell_set_off c14' (by decide))
    ((go_at_call 130; refine (H1.out _ ?_).mono ?_; rfl; rintro e w1 ⟨rfl, G1⟩; have c14' := (G1.out.1.cellR 14).1; rw [HI.out] at c14'; obtain ⟨u, hu⟩ := some_at (j := 15) (by have := HK.out; omega : 15 < (rdBound s l 40).K.R.length); obtain ⟨c15, f15⟩ := G1.out.1.cellR 15; rw [hu] at c15; clear hu))
  go_wp2
  go_end0
  exact ⟨rfl, G1.out.1.setR 15 _, grown_trans (row := some p) (grown_trans (row := some p) (grown_drew1 w p) G1.out.2) (grown_set _ _ _ _)⟩
end Go.Proofs.YtldhafpeigdloaaGreatDoor
namespace Go.Proofs.YtldhafpeigdloaaGreatDoor
open Go.RowKit Crc

/-- An operation with a known run. -/
theorem op_value {P : Program} {o : Oper} {a : Act} {w w' : World} {K : Act → World → Prop} {Q : Exit → Act → World → Prop} {v : Value} (e : (execOp a.eval o).run P w = .ok (.value v) w') (h : K (a.put o.dst v) w') : Oper.wp P o a w K Q := by
  unfold Oper.wp
  rw [e]
  exact h
theorem op_pure {P : Program} {o : Oper} {a : Act} {w : World} {K : Act → World → Prop} {Q : Exit → Act → World → Prop} {v : Value} (e : (execOp a.eval o).run P w = .ok (.value v) w) (h : K (a.put o.dst v) w) : Oper.wp P o a w K Q := op_value e h
theorem exec_build {P : Program} {o : Oper} {a : Act} {w : World} {t : TypeId} {parts : Array (Nat × Operand)} {V : Value} (ho : o.op = .build t parts) (h : (Instr.build t (parts.map fun x => (x.1, a.eval x.2))).run P w = .ok V w) : (execOp a.eval o).run P w = .ok (.value V) w := by
  unfold execOp
  simp only [ho, Sem.run_bind, h, Result.andThen_ok, Sem.run_pure]
theorem wpList_pure {P : Program} {ops : Array Oper} {rest : List Oper} {op : Oper} {a : Act} {w : World} {Q : Exit → Act → World → Prop} {v : Value} (hgd : op.guard = none) (e : (execOp a.eval op).run P w = .ok (.value v) w) (h : wpList P ops Q rest (a.put op.dst v) w) : wpList P ops Q (op :: rest) a w :=
  wpList_plain hgd fun _ hK => op_pure e (hK _ _ h)
end Go.Proofs.YtldhafpeigdloaaGreatDoor
namespace Go.Proofs.YtldhafpeigdloaaGreatDoor
open Go.RowKit Crc

/-- The bytes of a hash that lie ahead. -/
def hashB (B : List Nat) : List Nat := if B.length < 32 then List.replicate 32 0 else B.take 32
theorem hashB_len (B : List Nat) : (hashB B).length = 32 := by
  unfold hashB
  split
  · simp
  · rw [List.length_take]; omega
set_option maxRecDepth 10000 in
set_option maxHeartbeats 400000 in
theorem ahead32_no {w : World} (ao : Option Addr) (n cap : Nat) (hn : n < 32) :
    Calls Tryz.prog 142 #[.slice ao n cap, .int .i64 32] w fun e w' => e = .returned (.tuple #[.slice none 0 0, .int .i64 20]) ∧ w' = w := by
  have d : decide ((n : Int) < 32) = true := by simp; omega
  clear hn
  go_enter Tryz.func142, Tryz.ntmps142
  go_wp2
  go_ret2
  exact ⟨rfl, rfl⟩
set_option maxRecDepth 10000 in
set_option maxHeartbeats 400000 in
theorem ahead32_yes {w : World} (b off n cap : Nat) (hn : 32 ≤ n) (hc : n ≤ cap) :
    Calls Tryz.prog 142 #[.slice (some ⟨b, off, none⟩) n cap, .int .i64 32] w fun e w' => e = .returned (.tuple #[.slice (some ⟨b, off, none⟩) 32 cap, .int .i64 0]) ∧ w' = w := by
  have d : decide ((n : Int) < 32) = false := by simp; omega
  have hkc : (32 : Int) ≤ (cap : Int) := by omega
  go_enter Tryz.func142, Tryz.ntmps142
  go_wp2
  go_ret2
  exact ⟨rfl, rfl⟩

theorem block_there2 {W : World} {g : Nat} {Z : Array Value} {t : TypeId} {n : Nat} (hb : W.heap[g]? = some (.cells Z t (0, 0))) (h : n ≤ Z.size) : W.there g 0 n := fun j hj => by
  rw [Nat.zero_add, block_cell hb j]
  exact ⟨by rw [Array.getElem?_eq_getElem (by omega)]; rfl, block_free hb j⟩
theorem range_block {W : World} {g : Nat} {cs : List Value} {t : TypeId} (hb : W.heap[g]? = some (.cells cs.toArray t (0, 0))) : W.rangeAt g 0 cs := fun j v hv => by
  rw [Nat.zero_add, block_cell hb j]
  simpa using hv
theorem grown_setCellsH (b : Nat) : ∀ (vs : List Value) (o : Nat) (w : World), w.grownBy (w.setCells b o vs) (some b)
  | [], _, w => ⟨rfl, rfl, rfl, Nat.le_refl _, fun _ _ _ => rfl⟩
  | v :: r, o, w => by
    rw [World.setCells]
    exact grown_trans (row := some b) (grown_set w b o v) (grown_setCellsH b r (o + 1) _)
theorem grown_row (w : World) (g : Nat) (cs : Array Value) : w.grownBy (w.setRow g cs) (some g) :=
  ⟨rfl, rfl, rfl, by simp [World.setRow], fun k _ hk => setRow_other w g k cs (fun e => hk (by rw [e]))⟩
/-- What is new does not count. -/
theorem grown_newer {w W W' : World} {g : Nat} {row : Option Nat} (h : w.grownBy W row) (hg : W.grownBy W' (some g)) (hn : w.heap.size ≤ g) : w.grownBy W' row :=
  ⟨hg.os.trans h.os, hg.tape.trans h.tape, hg.output.trans h.output, Nat.le_trans h.size hg.size, fun k hk hr => (hg.block k (Nat.lt_of_lt_of_le hk h.size) (by simp; omega)).trans (h.block k hk hr)⟩
theorem grown_weak {w W : World} (h : w.grownBy W none) (p : Nat) : w.grownBy W (some p) := ⟨h.os, h.tape, h.output, h.size, fun k hk _ => h.block k hk (by simp)⟩
theorem two_boxes {w W : World} {Z1 Z2 : Array Value} {t : TypeId} (hW : (w.alloc (.cells Z1 t)).alloc (.cells Z2 t) = W) : w.grownBy W none ∧ W.heap[w.heap.size]? = some (.cells Z1 t (0, 0)) ∧ W.heap[w.heap.size + 1]? = some (.cells Z2 t (0, 0)) ∧ W.heap.size = w.heap.size + 1 + 1 := by
  have hsz : (w.alloc (.cells Z1 t)).heap.size = w.heap.size + 1 := by simp
  subst hW
  refine ⟨grown_quiet (World.grownBy_alloc _ _ _) (World.grownBy_alloc _ _ _), ?_, ?_, by simp⟩
  · exact ((World.grownBy_alloc _ _ none).block _ (by rw [hsz]; omega) (by simp)).trans (alloc_at _ _)
  · rw [← hsz]; exact alloc_at _ _

set_option maxRecDepth 10000 in
set_option maxHeartbeats 1600000 in
theorem readHash_yes (lim p : Nat) (s : RS) (w : World) (hR : RdS lim w p s) (h32 : 32 ≤ s.rest.length) :
    Calls Tryz.prog 132 #[.pointer (some ⟨p, 0, none⟩)] w fun e w' => e = .returned (.agg (vals (s.rest.take 32)).toArray) ∧ Hid (RdS lim w' p (s.step 32 0) ∧ w.grownBy w' (some p)) := by
  have hp := hR.plt
  have HRR := hide hR
  have HH : Hid ((s.rest.take 32).length = 32 ∧ ∀ x ∈ s.rest.take 32, x < 256) := ⟨by rw [List.length_take]; omega, fun x hx => (rest_lt hR).1 x (List.mem_of_mem_take hx)⟩
  have H32 := hide h32
  have HRL : Hid (lim ≤ p) := by obtain ⟨_, _, _, _, _, hl⟩ := hR; exact hl
  have HSZ : Hid ((Tryz.prog.info? 33).map (·.size) = some (vals (s.rest.take 32)).length) := by show _ = _; rw [vals_len, HH.out.1]; kernel_rfl
  have HFT : Hid (s.sound → s.pos + 32 ≤ s.B.length) := fun h => by have := rest_len h; omega
  clear hR h32
  obtain ⟨H, hH⟩ : ∃ H, s.rest.take 32 = H := ⟨_, rfl⟩
  have HHe := hide hH
  rw [hH] at HH HSZ ⊢
  clear hH
  go_enter Tryz.func132, Tryz.ntmps132
  go_wp2_with fail
  generalize hW : World.alloc (World.alloc w _) _ = W
  obtain ⟨Z1, Z2, z1, z2, hW⟩ : ∃ Z1 Z2 : Array Value, Z1.size = 32 ∧ Z2.size = 32 ∧ (w.alloc (.cells Z1 33)).alloc (.cells Z2 33) = W := ⟨_, _, by rfl, by rfl, hW⟩
  obtain ⟨g0, b0, b1, hsz⟩ := two_boxes hW
  have HZ := hide (And.intro z1 z2)
  have G0 := hide g0
  have B0 := hide b0
  have B1 := hide b1
  clear hW z1 z2 g0 b0 b1 hsz
  refine (rest_any lim p s.made s.place s.why s.B s.pos W (HRR.out.quiet G0.out)).mono ?_
  rintro e w1 ⟨ao, n, cap, rfl, hS, q, hq⟩
  have hn : 32 ≤ n ∧ n ≤ cap ∧ n = s.rest.length := ⟨by rw [hS.1]; exact H32.out, hS.2.1, hS.1⟩
  obtain ⟨n32, ncap, -⟩ := hn
  obtain ⟨b, off, e1, hsrc⟩ : ∃ b off, ao = some ⟨b, off, none⟩ ∧ ∀ j v, (vals H)[j]? = some v → w1.cell? ((⟨b, off, none⟩ : Addr).add j) = some v := by
    obtain ⟨h1, h2, h3, h4, b, off, h5, h6, h7⟩ := hS
    refine ⟨b, off, h5 (by omega), ?_⟩
    refine vals_cell (fun i hi => ?_)
    have hl := HH.out.1
    rw [hq, ← HHe.out, getD_take (by omega)]
    exact h7 i (by omega)
  subst e1
  have HSRC := hide hsrc
  have G1 : Hid (w.grownBy w1 none) := by rw [hq]; exact grown_quiet G0.out (drew_grown W q)
  have R1 : Hid (RdS lim w1 p s) := by rw [hq]; exact HRR.out.quiet (grown_quiet G0.out (drew_grown W q))
  have B01 : Hid (w1.heap[w.heap.size]? = some (.cells Z1 33 (0, 0))) := by rw [hq]; exact B0.out
  have B11 : Hid (w1.heap[w.heap.size + 1]? = some (.cells Z2 33 (0, 0))) := by rw [hq]; exact B1.out
  clear hq hS hsrc G0 B0 B1 HRR
  go_wp2_with fail
  refine (ahead32_yes b off n cap n32 ncap).mono ?_
  rintro e w2 ⟨rfl, rfl⟩
  have hcs : (vals H).length = Nat.min 32 32 := by rw [vals_len]; exact HH.out.1
  have hcl : (vals H).length = 32 := by rw [vals_len]; exact HH.out.1
  have HCS := hide hcs
  have HCL := hide hcl
  clear hcs hcl
  go_wp2_with (refine wpList_copy_own rfl (.tmp 12) (.tmp 13) 31 31 rfl 5 Tryz.underlying31 size5 (w.heap.size + 1) 0 32 32 ⟨b, off, none⟩ 32 cap rfl rfl Z2 33 B11.out (vals H) HCS.out HSRC.out (by rw [HCL.out, HZ.out.2]; omega) (vals_one' H) ?_)
  have hrow : vals H ++ List.drop (vals H).length Z2.toList = vals H := by
    rw [List.drop_of_length_le (by rw [HCL.out, Array.length_toList, HZ.out.2]; omega)]
    simp
  rw [hrow]
  generalize hW3 : World.setRow w2 (w.heap.size + 1) (vals H).toArray = W3
  have g3 := grown_row w2 (w.heap.size + 1) (vals H).toArray
  have hb3 := setRow_heap w2 (w.heap.size + 1) _ (vals H).toArray _ _ B11.out
  rw [hW3] at g3 hb3
  have hl := HRL.out
  have B13 := hide hb3
  have B03 : Hid (W3.heap[w.heap.size]? = some (.cells Z1 33 (0, 0))) := (g3.block _ (block_lt B01.out) (by simp)).trans B01.out
  have R3 : Hid (RdS lim W3 p s) := R1.out.kept g3 (fun g e => by cases e; omega)
  have N3 := hide (grown_newer G1.out g3 (by omega))
  clear hW3 hrow g3 hb3 G1 R1 B01 B11 HSRC n32 ncap hl
  refine (step_any lim p s 32 32 0 W3 R3.out rfl (fun h _ => HFT.out h)).mono ?_
  rintro e w4 ⟨rfl, r4, g4⟩
  have R4 := hide r4
  have N4 := hide (grown_trans (row := some p) (grown_weak N3.out p) g4)
  have B14 := hide ((g4.block _ (block_lt B13.out) (by simp; omega)).trans B13.out)
  have B04 := hide ((g4.block _ (block_lt B03.out) (by simp; omega)).trans B03.out)
  have RG4 := hide (range_block B14.out)
  have TH4 : Hid (w4.there w.heap.size 0 (vals H).length) := block_there2 B04.out (by rw [HCL.out, HZ.out.1]; omega)
  clear r4 g4 R3 N3 B13 B03
  go_wp2_with (first
    | (refine wpList_load_mid rfl 33 _ rfl (w.heap.size + 1) 0 rfl (vals H) _ RG4.out Tryz.underlying33 rfl HSZ.out ?_)
    | (refine wpList_store_mid rfl 33 _ _ rfl w.heap.size 0 (vals H).toArray rfl rfl (by simpa using TH4.out) (by simpa using HSZ.out) (all_oneCell_toArray (vals_one' H)) ?_))
  have hl := HRL.out
  have hld := run_loadVar_mid (P := Tryz.prog) (w4.setCells w.heap.size 0 (vals H)) w.heap.size 0 33 (vals H) _ (World.rangeAt_setCells_same _ _ _ _ TH4.out) Tryz.underlying33 rfl HSZ.out
  refine bodyPost_ret (v := .agg (vals H).toArray) ?_ rfl ⟨rfl, R4.out.kept (grown_setCellsH _ _ _ _) (fun g e => by cases e; omega), grown_newer N4.out (grown_setCellsH _ _ _ _) (Nat.le_refl _)⟩
  simp [results, Tryz.results132, asAddr, hld, Act.put]

theorem copy_nil (g : Nat) (w : World) : (Builtin.copy_ #[31, 31] 3 #[.slice (some ⟨g, 0, none⟩) 32 32, .slice none 0 0]).run Tryz.prog w = .ok (.int .i64 0) w := by kernel_rfl
set_option maxRecDepth 10000 in
set_option maxHeartbeats 1600000 in
theorem readHash_no (lim p : Nat) (s : RS) (w : World) (hR : RdS lim w p s) (h32 : s.rest.length < 32) :
    Calls Tryz.prog 132 #[.pointer (some ⟨p, 0, none⟩)] w fun e w' => e = .returned (.agg (vals (List.replicate 32 0)).toArray) ∧ Hid (RdS lim w' p (s.step 32 20) ∧ w.grownBy w' (some p)) := by
  have hp := hR.plt
  have HRR := hide hR
  have HCL : Hid ((vals (List.replicate 32 0)).length = 32) := rfl
  have H32 := hide h32
  have HRL : Hid (lim ≤ p) := by obtain ⟨_, _, _, _, _, hl⟩ := hR; exact hl
  have HSZ : Hid ((Tryz.prog.info? 33).map (·.size) = some (vals (List.replicate 32 0)).length) := by show _ = _; rw [HCL.out]; kernel_rfl
  clear hR h32
  obtain ⟨H, hH⟩ : ∃ H, List.replicate 32 0 = H := ⟨_, rfl⟩
  have HHe := hide hH
  rw [hH] at HCL HSZ ⊢
  clear hH
  go_enter Tryz.func132, Tryz.ntmps132
  go_wp2_with fail
  generalize hW : World.alloc (World.alloc w _) _ = W
  obtain ⟨Z1, Z2, z1, z2, hW⟩ : ∃ Z1 Z2 : Array Value, Z1.size = 32 ∧ Z2 = (vals (List.replicate 32 0)).toArray ∧ (w.alloc (.cells Z1 33)).alloc (.cells Z2 33) = W := ⟨_, _, by rfl, by rfl, hW⟩
  obtain ⟨g0, b0, b1, hsz⟩ := two_boxes hW
  rw [z2, HHe.out] at b1
  have HZ := hide z1
  have G0 := hide g0
  have B0 := hide b0
  have B1 := hide b1
  clear hW z1 z2 g0 b0 b1 hsz
  refine (rest_any lim p s.made s.place s.why s.B s.pos W (HRR.out.quiet G0.out)).mono ?_
  rintro e w1 ⟨ao, n, cap, rfl, hS, q, hq⟩
  have n32 : n < 32 := by rw [hS.1]; exact H32.out
  have G1 : Hid (w.grownBy w1 none) := by rw [hq]; exact grown_quiet G0.out (drew_grown W q)
  have R1 : Hid (RdS lim w1 p s) := by rw [hq]; exact HRR.out.quiet (grown_quiet G0.out (drew_grown W q))
  have B03 : Hid (w1.heap[w.heap.size]? = some (.cells Z1 33 (0, 0))) := by rw [hq]; exact B0.out
  have B13 : Hid (w1.heap[w.heap.size + 1]? = some (.cells (vals H).toArray 33 (0, 0))) := by rw [hq]; exact B1.out
  clear hq hS G0 B0 B1 HRR
  go_wp2_with fail
  refine (ahead32_no ao n cap n32).mono ?_
  rintro e w2 ⟨rfl, rfl⟩
  have hcp := copy_nil (w.heap.size + 1)
  clear n32
  go_wp2_with fail
  refine (step_any lim p s 32 32 20 w2 R1.out rfl (fun _ h => by cases h)).mono ?_
  rintro e w4 ⟨rfl, r4, g4⟩
  have R4 := hide r4
  have N4 := hide (grown_trans (row := some p) (grown_weak G1.out p) g4)
  have B14 := hide ((g4.block _ (block_lt B13.out) (by simp; omega)).trans B13.out)
  have B04 := hide ((g4.block _ (block_lt B03.out) (by simp; omega)).trans B03.out)
  have RG4 := hide (range_block B14.out)
  have TH4 : Hid (w4.there w.heap.size 0 (vals H).length) := block_there2 B04.out (by rw [HCL.out, HZ.out]; omega)
  clear r4 g4 R1 G1 B13 B03
  go_wp2_with (first
    | (refine wpList_load_mid rfl 33 _ rfl (w.heap.size + 1) 0 rfl (vals H) _ RG4.out Tryz.underlying33 rfl HSZ.out ?_)
    | (refine wpList_store_mid rfl 33 _ _ rfl w.heap.size 0 (vals H).toArray rfl rfl (by simpa using TH4.out) (by simpa using HSZ.out) (all_oneCell_toArray (vals_one' H)) ?_))
  have hl := HRL.out
  have hld := run_loadVar_mid (P := Tryz.prog) (w4.setCells w.heap.size 0 (vals H)) w.heap.size 0 33 (vals H) _ (World.rangeAt_setCells_same _ _ _ _ TH4.out) Tryz.underlying33 rfl HSZ.out
  refine bodyPost_ret (v := .agg (vals H).toArray) ?_ rfl ⟨rfl, R4.out.kept (grown_setCellsH _ _ _ _) (fun g e => by cases e; omega), grown_newer N4.out (grown_setCellsH _ _ _ _) (Nat.le_refl _)⟩
  simp [results, Tryz.results132, asAddr, hld, Act.put]

/-- A hash that is read. -/
def rdHash (s : RS) : RS := s.step 32 (aheadW s.rest 32)
theorem readHash_any (lim p : Nat) (s : RS) (w : World) (hR : RdS lim w p s) :
    Calls Tryz.prog 132 #[.pointer (some ⟨p, 0, none⟩)] w fun e w' => e = .returned (.agg (vals (hashB s.rest)).toArray) ∧ Hid (RdS lim w' p (rdHash s) ∧ w.grownBy w' (some p)) := by
  unfold rdHash aheadW hashB
  by_cases h : s.rest.length < 32
  · rw [if_pos h, if_pos h]; exact readHash_no lim p s w hR h
  · rw [if_neg h, if_neg h]; exact readHash_yes lim p s w hR (by omega)
end Go.Proofs.YtldhafpeigdloaaGreatDoor
namespace Go.Proofs.YtldhafpeigdloaaGreatDoor
open Go.RowKit Crc

/-- The state with some cells behind the reader set, one behind the other. -/
def RS.setRs (s : RS) : Nat → List Value → RS
  | _, [] => s
  | j, v :: r => (s.setR j v).setRs (j + 1) r
theorem RdS.setRs {lim p : Nat} : ∀ (vs : List Value) (j : Nat) {w : World} {s : RS}, RdS lim w p s → RdS lim (w.setCells p (j + 5) vs) p (s.setRs j vs)
  | [], _, _, _, h => h
  | v :: r, j, w, s, h => by
    rw [World.setCells, RS.setRs, show j + 5 + 1 = (j + 1) + 5 by omega]
    exact RdS.setRs r (j + 1) (h.setR j v)
theorem RdS.thereR {lim p : Nat} {w : World} {s : RS} (h : RdS lim w p s) (j n : Nat) (hn : j + n ≤ s.K.R.length) : w.there p (j + 5) n := fun i hi => by
  obtain ⟨a, b⟩ := h.cellR (j + i)
  rw [show j + 5 + i = j + i + 5 by omega]
  refine ⟨?_, b⟩
  rw [a, List.getElem?_eq_getElem (by omega)]
  rfl
theorem setR_len (s : RS) (j : Nat) (v : Value) : (s.setR j v).K.R.length = s.K.R.length := by simp [RS.setR]
theorem setRs_len : ∀ (vs : List Value) (s : RS) (j : Nat), (s.setRs j vs).K.R.length = s.K.R.length
  | [], _, _ => rfl
  | v :: r, s, j => by rw [RS.setRs, setRs_len r, setR_len]
theorem setRs_far : ∀ (vs : List Value) (s : RS) (j i : Nat), i < j ∨ j + vs.length ≤ i → (s.setRs j vs).K.R[i]? = s.K.R[i]?
  | [], _, _, _, _ => rfl
  | v :: r, s, j, i, h => by
    rw [RS.setRs, setRs_far r _ _ _ (by simp at h; omega)]
    simp only [RS.setR]
    rw [List.getElem?_set_ne (by simp at h; omega)]
theorem setRs_t : ∀ (vs : List Value) (s : RS) (j : Nat), (s.setRs j vs).K.t = s.K.t
  | [], _, _ => rfl
  | v :: r, s, j => by rw [RS.setRs, setRs_t r]; rfl
theorem setR_far (s : RS) (j i : Nat) (v : Value) (h : i ≠ j) : (s.setR j v).K.R[i]? = s.K.R[i]? := by
  simp only [RS.setR]
  rw [List.getElem?_set_ne (fun e => h e.symm)]

set_option maxRecDepth 10000 in
set_option maxHeartbeats 800000 in
theorem fRoot_any (lim p : Nat) (s : RS) (w : World) (hR : RdS lim w p s) (hK : s.K.R.length = 49) :
    Calls Tryz.prog 119 #[.pointer (some ⟨p, 0, none⟩)] w fun e w' => e = .returned (.tuple #[]) ∧ Hid (RdS lim w' p ((rdHash s).setRs 16 (vals (hashB s.rest))) ∧ w.grownBy w' (some p)) := by
  have H1 := hide (readHash_any lim p s w hR)
  have HK : Hid ((rdHash s).K.R.length = 49) := by show _ = _; unfold rdHash; rw [step_K]; exact hK
  have HL : Hid ((vals (hashB s.rest)).length = 32) := by show _ = _; rw [vals_len, hashB_len]
  have HSZ : Hid ((Tryz.prog.info? 33).map (·.size) = some (vals (hashB s.rest)).length) := by show _ = _; rw [HL.out]; kernel_rfl
  have HONE := hide (vals_one' (hashB s.rest))
  clear hR hK
  generalize vals (hashB s.rest) = cs at *
  go_enter Tryz.func119, Tryz.ntmps119
  go_wp2_with fail
  refine H1.out.mono ?_
  rintro e w1 ⟨rfl, G1⟩
  have TH : Hid (w1.there p 21 cs.length) := G1.out.1.thereR 16 cs.length (by rw [HK.out, HL.out]; omega)
  go_wp2_with (refine wpList_store_mid rfl 33 _ _ rfl p 21 cs.toArray rfl rfl (by simpa using TH.out) (by simpa using HSZ.out) (all_oneCell_toArray HONE.out) ?_)
  go_end0
  refine ⟨rfl, ?_⟩
  show _ ∧ _
  exact ⟨by simpa using RdS.setRs cs 16 G1.out.1, grown_trans (row := some p) G1.out.2 (by simpa using grown_setCellsH p cs 21 w1)⟩
end Go.Proofs.YtldhafpeigdloaaGreatDoor
