import Derived.Test.YtidhondcfagoaaaDoorM36
import Derived.Test.YtidhondcfagoaaaDoorM38
namespace Go.Proofs.YtidhondcfagoaaaDoor
open Go.RowKit Crc

/-- The state with one cell behind the reader set. -/
def RS.setR (s : RS) (j : Nat) (v : Value) : RS := { s with K := ⟨s.K.t, s.K.R.set j v⟩ }
theorem RdS.setR {lim : Nat} {w : World} {p : Nat} {s : RS} (h : RdS lim w p s) (j : Nat) (v : Value) : RdS lim (w.setCell ⟨p, j + 5, none⟩ v) p (s.setR j v) := by
  obtain ⟨ao, cap, hb, hS, hp, hl⟩ := h
  refine ⟨ao, cap, ?_, hS.kept (grown_set w p (j + 5) v) (fun g e => by cases e; exact hl), hp, hl⟩
  rw [heap_setCell_same w p (j + 5) _ _ v hb]
  simp [RS.setR]
theorem RdS.cellR {lim : Nat} {w : World} {p : Nat} {s : RS} (h : RdS lim w p s) (j : Nat) : w.cell? ⟨p, j + 5, none⟩ = s.K.R[j]? ∧ w.frozen? ⟨p, j + 5, none⟩ = false := by
  obtain ⟨ao, cap, hb, hS, hp, hl⟩ := h
  refine ⟨?_, block_free hb _⟩
  rw [block_cell hb]
  simp
theorem step_K (s : RS) (z : Nat) (y : Int) : (s.step z y).K = s.K := by unfold RS.step; split <;> (try split) <;> rfl
theorem failP_K (s : RS) (a y : Int) : (s.failP a y).K = s.K := by unfold RS.failP; split <;> rfl
theorem rdBound_K (s : RS) (a b : Nat) : (rdBound s a b).K = s.K := by
  unfold rdBound
  split
  · exact step_K _ _ _
  · rw [failP_K]; exact step_K _ _ _
theorem balS_K (s : RS) : (balS s).K = s.K := by
  unfold balS balS2
  split
  · rw [failP_K, step_K]; exact rdBound_K _ _ _
  · rw [step_K]; exact rdBound_K _ _ _
theorem rqS3_K (s : RS) : (rqS3 s).K = s.K := by
  unfold rqS3 rqS2 rdNum
  rw [step_K, step_K]
  exact rdBound_K _ _ _
theorem rdGo_K : ∀ (n : Nat) (s : RS), (rdGo n s).2.K = s.K
  | 0, s => rfl
  | n + 1, s => by rw [rdGo]; exact (rdGo_K n _).trans (rqS3_K s)
theorem bEnd_K (s : RS) : (bEnd s).K = s.K := by
  unfold bEnd
  rw [rdGo_K]
  unfold bS2
  rw [step_K]
  exact rdBound_K _ _ _
theorem some_at {R : List Value} {j : Nat} (h : j < R.length) : ∃ v, R[j]? = some v := ⟨_, List.getElem?_eq_getElem h⟩

set_option maxRecDepth 10000 in
set_option maxHeartbeats 800000 in
theorem fSlot_any (lim p : Nat) (s : RS) (w : World) (hR : RdS lim w p s) (hK : s.K.R.length = 49) :
    Calls Tryd.prog 52 #[.pointer (some ⟨p, 0, none⟩)] w fun e w' => e = .returned (.tuple #[]) ∧ Hid (RdS lim w' p ((rdBound s 0 1099511627776).setR 3 (.int .u64 ((numAt s.rest).1 : Nat))) ∧ w.grownBy w' (some p)) := by
  have H1 : Hid (Calls Tryd.prog 62 #[.pointer (some ⟨p, 0, none⟩), .int .u64 0, .int .u64 1099511627776] w fun e w1 => e = .returned (.int .u64 ((numAt s.rest).1 : Nat)) ∧ Hid (RdS lim w1 p (rdBound s 0 1099511627776) ∧ w.grownBy w1 (some p))) := readBound_any lim p s 0 1099511627776 _ hR
  have HK : Hid ((rdBound s 0 1099511627776).K.R.length = 49) := by show _ = _; rw [rdBound_K]; exact hK
  clear hR hK
  go_enter Tryd.func52, Tryd.ntmps52
  go_wp2_with fail
  refine H1.out.mono ?_
  rintro e w1 ⟨rfl, G1⟩
  obtain ⟨u, hu⟩ := some_at (j := 3) (by have := HK.out; omega : 3 < (rdBound s 0 1099511627776).K.R.length)
  obtain ⟨c0, f0⟩ := G1.out.1.cellR 3
  rw [hu] at c0
  clear hu
  go_wp2
  go_end0
  exact ⟨rfl, G1.out.1.setR 3 _, grown_trans (row := some p) G1.out.2 (grown_set _ _ _ _)⟩

set_option maxRecDepth 10000 in
set_option maxHeartbeats 800000 in
theorem fBallot_any (lim p : Nat) (s : RS) (w : World) (hR : RdS lim w p s) (hK : s.K.R.length = 49) :
    Calls Tryd.prog 41 #[.pointer (some ⟨p, 0, none⟩)] w fun e w' => e = .returned (.tuple #[]) ∧ Hid (RdS lim w' p (((balS s).setR 1 (.int .u64 ((numAt s.rest).1 : Nat))).setR 2 (.int .i64 ((nodeV s : Nat) : Int))) ∧ w.grownBy w' (some p)) := by
  have H1 := hide (readBallot_any lim p s w hR)
  have HK : Hid ((balS s).K.R.length = 49) := by show _ = _; rw [balS_K]; exact hK
  clear hR hK
  go_enter Tryd.func41, Tryd.ntmps41
  go_wp2_with fail
  refine H1.out.mono ?_
  rintro e w1 ⟨rfl, G1⟩
  obtain ⟨u, hu⟩ := some_at (j := 1) (by have := HK.out; omega : 1 < (balS s).K.R.length)
  obtain ⟨c0, f0⟩ := G1.out.1.cellR 1
  rw [hu] at c0
  obtain ⟨u', hu'⟩ := some_at (j := 2) (by have := HK.out; omega : 2 < (balS s).K.R.length)
  obtain ⟨c1, f1⟩ := G1.out.1.cellR 2
  rw [hu'] at c1
  clear hu hu'
  go_wp2
  go_end0
  exact ⟨rfl, (G1.out.1.setR 1 _).setR 2 _, grown_trans (row := some p) (grown_trans (row := some p) G1.out.2 (grown_set _ _ _ _)) (grown_set _ _ _ _)⟩

theorem own_set {base p j : Nat} {w : World} {v : Value} {rs : List Rq} (h : OwnRs base w v rs) (hf : FreeRs base w rs) (hp : p < base) (x : Value) : OwnRs base (w.setCell ⟨p, j, none⟩ x) v rs ∧ FreeRs base (w.setCell ⟨p, j, none⟩ x) rs := h.past hf (grown_set _ _ _ _) hp

set_option maxRecDepth 10000 in
set_option maxHeartbeats 800000 in
theorem fBatch_any (lim p : Nat) (s : RS) (w : World) (hR : RdS lim w p s) (hK : s.K.R.length = 49) :
    Calls Tryd.prog 42 #[.pointer (some ⟨p, 0, none⟩)] w fun e w' => e = .returned (.tuple #[]) ∧ Hid (∃ v rs1, OwnRs w.heap.size w' v rs1 ∧ FreeRs w.heap.size w' rs1 ∧ rs1.map Rq.val = bVals s ∧ RdS lim w' p (((bEnd s).setR 6 (.int .u64 ((numAt s.rest).1 : Nat))).setR 7 v) ∧ w.grownBy w' (some p)) := by
  have hp := hR.plt
  have H1 := hide (readBatch_any lim p s w hR)
  have HK : Hid ((bEnd s).K.R.length = 49) := by show _ = _; rw [bEnd_K]; exact hK
  clear hR hK
  go_enter Tryd.func42, Tryd.ntmps42
  go_wp2_with fail
  refine H1.out.mono ?_
  rintro e w1 ⟨v, rs1, rfl, G1⟩
  obtain ⟨u, hu⟩ := some_at (j := 6) (by have := HK.out; omega : 6 < (bEnd s).K.R.length)
  obtain ⟨c0, f0⟩ := G1.out.2.2.2.1.cellR 6
  rw [hu] at c0
  obtain ⟨u', hu'⟩ := some_at (j := 7) (by have := HK.out; omega : 7 < (bEnd s).K.R.length)
  obtain ⟨c1, f1⟩ := G1.out.2.2.2.1.cellR 7
  rw [hu'] at c1
  obtain ⟨vo, vc, _, hv, _⟩ := G1.out.1.form
  subst hv
  clear hu hu'
  go_wp2
  go_end0
  obtain ⟨g1, g2, g3, g4, g5⟩ := G1.out
  obtain ⟨a1, a2⟩ := own_set g1 g2 hp (j := 6 + 5) (.int .u64 ((numAt s.rest).1 : Nat))
  obtain ⟨b1, b2⟩ := own_set a1 a2 hp (j := 7 + 5) (.slice vo rs1.length vc)
  exact ⟨rfl, _, rs1, b1, b2, g3, (g4.setR 6 _).setR 7 _, grown_trans (row := some p) (grown_trans (row := some p) g5 (grown_set _ _ _ _)) (grown_set _ _ _ _)⟩

end Go.Proofs.YtidhondcfagoaaaDoor
namespace Go.Proofs.YtidhondcfagoaaaDoor
open Go.RowKit Crc

theorem grown_drew1 (w : World) (p : Nat) : w.grownBy w.drew (some p) := ⟨rfl, rfl, rfl, Nat.le_refl _, fun _ _ _ => rfl⟩
theorem cell_set_off {w : World} {p o o' : Nat} {u v : Value} (h : w.cell? ⟨p, o, none⟩ = some u) (hne : o ≠ o') : (w.setCell ⟨p, o', none⟩ v).cell? ⟨p, o, none⟩ = some u := by
  exact (World.cell?_setCell_other w ⟨p, o', none⟩ ⟨p, o, none⟩ v (by intro e; cases e; exact hne rfl)).trans h
set_option maxRecDepth 10000 in
set_option maxHeartbeats 800000 in
theorem fLow_any (lim p : Nat) (s : RS) (w : World) (hR : RdS lim w p s) (hK : s.K.R.length = 49) :
    Calls Tryd.prog 46 #[.pointer (some ⟨p, 0, none⟩)] w fun e w' => e = .returned (.tuple #[]) ∧ Hid (RdS lim w' p ((rdBound s 0 1099511627776).setR 4 (.int .u64 ((numAt s.rest).1 : Nat))) ∧ w.grownBy w' (some p)) := by
  have H1 : Hid (Calls Tryd.prog 62 #[.pointer (some ⟨p, 0, none⟩), .int .u64 0, .int .u64 1099511627776] w fun e w1 => e = .returned (.int .u64 ((numAt s.rest).1 : Nat)) ∧ Hid (RdS lim w1 p (rdBound s 0 1099511627776) ∧ w.grownBy w1 (some p))) := readBound_any lim p s 0 1099511627776 _ hR
  have HK : Hid ((rdBound s 0 1099511627776).K.R.length = 49) := by show _ = _; rw [rdBound_K]; exact hK
  clear hR hK
  go_enter Tryd.func46, Tryd.ntmps46
  go_wp2_with fail
  refine H1.out.mono ?_
  rintro e w1 ⟨rfl, G1⟩
  obtain ⟨u, hu⟩ := some_at (j := 4) (by have := HK.out; omega : 4 < (rdBound s 0 1099511627776).K.R.length)
  obtain ⟨c0, f0⟩ := G1.out.1.cellR 4
  rw [hu] at c0
  clear hu
  go_wp2
  go_end0
  exact ⟨rfl, G1.out.1.setR 4 _, grown_trans (row := some p) G1.out.2 (grown_set _ _ _ _)⟩

set_option maxRecDepth 10000 in
set_option maxHeartbeats 800000 in
theorem fStamp_any (lim p : Nat) (s : RS) (w : World) (hR : RdS lim w p s) (hK : s.K.R.length = 49) :
    Calls Tryd.prog 53 #[.pointer (some ⟨p, 0, none⟩)] w fun e w' => e = .returned (.tuple #[]) ∧ Hid (RdS lim w' p ((rdBound s 0 1099511627776).setR 9 (.int .u64 ((numAt s.rest).1 : Nat))) ∧ w.grownBy w' (some p)) := by
  have H1 : Hid (Calls Tryd.prog 62 #[.pointer (some ⟨p, 0, none⟩), .int .u64 0, .int .u64 1099511627776] w fun e w1 => e = .returned (.int .u64 ((numAt s.rest).1 : Nat)) ∧ Hid (RdS lim w1 p (rdBound s 0 1099511627776) ∧ w.grownBy w1 (some p))) := readBound_any lim p s 0 1099511627776 _ hR
  have HK : Hid ((rdBound s 0 1099511627776).K.R.length = 49) := by show _ = _; rw [rdBound_K]; exact hK
  clear hR hK
  go_enter Tryd.func53, Tryd.ntmps53
  go_wp2_with fail
  refine H1.out.mono ?_
  rintro e w1 ⟨rfl, G1⟩
  obtain ⟨u, hu⟩ := some_at (j := 9) (by have := HK.out; omega : 9 < (rdBound s 0 1099511627776).K.R.length)
  obtain ⟨c0, f0⟩ := G1.out.1.cellR 9
  rw [hu] at c0
  clear hu
  go_wp2
  go_end0
  exact ⟨rfl, G1.out.1.setR 9 _, grown_trans (row := some p) G1.out.2 (grown_set _ _ _ _)⟩

set_option maxRecDepth 10000 in
set_option maxHeartbeats 800000 in
theorem fIndex_any (lim p : Nat) (s : RS) (w : World) (hR : RdS lim w p s) (hK : s.K.R.length = 49) :
    Calls Tryd.prog 45 #[.pointer (some ⟨p, 0, none⟩)] w fun e w' => e = .returned (.tuple #[]) ∧ Hid (RdS lim w' p ((rdBound s 0 39).setR 14 (.int .u64 ((numAt s.rest).1 : Nat))) ∧ w.grownBy w' (some p)) := by
  have H1 : Hid (Calls Tryd.prog 62 #[.pointer (some ⟨p, 0, none⟩), .int .u64 0, .int .u64 39] w fun e w1 => e = .returned (.int .u64 ((numAt s.rest).1 : Nat)) ∧ Hid (RdS lim w1 p (rdBound s 0 39) ∧ w.grownBy w1 (some p))) := readBound_any lim p s 0 39 _ hR
  have HK : Hid ((rdBound s 0 39).K.R.length = 49) := by show _ = _; rw [rdBound_K]; exact hK
  clear hR hK
  go_enter Tryd.func45, Tryd.ntmps45
  go_wp2_with fail
  refine H1.out.mono ?_
  rintro e w1 ⟨rfl, G1⟩
  obtain ⟨u, hu⟩ := some_at (j := 14) (by have := HK.out; omega : 14 < (rdBound s 0 39).K.R.length)
  obtain ⟨c0, f0⟩ := G1.out.1.cellR 14
  rw [hu] at c0
  clear hu
  go_wp2
  go_end0
  exact ⟨rfl, G1.out.1.setR 14 _, grown_trans (row := some p) G1.out.2 (grown_set _ _ _ _)⟩

set_option maxRecDepth 10000 in
set_option maxHeartbeats 800000 in
theorem fCmd_any (lim p : Nat) (s : RS) (w : World) (hR : RdS lim w p s) (hK : s.K.R.length = 49) :
    Calls Tryd.prog 44 #[.pointer (some ⟨p, 0, none⟩)] w fun e w' => e = .returned (.tuple #[]) ∧ Hid (∃ v, Owns w.heap.size w' v (blobAt s.rest 700).1 ∧ RdS lim w' p ((s.step (blobAt s.rest 700).2.1 (blobAt s.rest 700).2.2).setR 11 v) ∧ w.grownBy w' (some p)) := by
  have hp := hR.plt
  have H1 := hide (rBlob_any lim p s 700 w hR (by omega) (by omega))
  have HK : Hid ((s.step (blobAt s.rest 700).2.1 (blobAt s.rest 700).2.2).K.R.length = 49) := by show _ = _; rw [step_K]; exact hK
  clear hR hK
  generalize s.step (blobAt s.rest 700).2.1 (blobAt s.rest 700).2.2 = t at *
  go_enter Tryd.func44, Tryd.ntmps44
  go_wp2_with fail
  refine H1.out.mono ?_
  rintro e w1 ⟨v, rfl, g1, _, g2, g3⟩
  have G1 := hide g1
  have G2 := hide g2
  have G3 := hide g3
  obtain ⟨u, hu⟩ := some_at (j := 11) (by have := HK.out; omega : 11 < t.K.R.length)
  obtain ⟨c0, f0⟩ := G2.out.cellR 11
  rw [hu] at c0
  obtain ⟨vo, vc, hv, _, _⟩ := G1.out.form
  subst hv
  clear hu g1 g2 g3
  go_wp2
  go_end0
  exact ⟨rfl, _, G1.out.kept (grown_set _ _ _ _) (.inr (fun e => by have := (G1.out.1.lt _ e).1; omega)), G2.out.setR 11 _, grown_trans (row := some p) G3.out (grown_set _ _ _ _)⟩

set_option maxRecDepth 10000 in
set_option maxHeartbeats 800000 in
theorem fRes_any (lim p : Nat) (s : RS) (w : World) (hR : RdS lim w p s) (hK : s.K.R.length = 49) :
    Calls Tryd.prog 49 #[.pointer (some ⟨p, 0, none⟩)] w fun e w' => e = .returned (.tuple #[]) ∧ Hid (∃ v, Owns w.heap.size w' v (blobAt s.rest 256).1 ∧ RdS lim w' p ((s.step (blobAt s.rest 256).2.1 (blobAt s.rest 256).2.2).setR 12 v) ∧ w.grownBy w' (some p)) := by
  have hp := hR.plt
  have H1 := hide (rBlob_any lim p s 256 w hR (by omega) (by omega))
  have HK : Hid ((s.step (blobAt s.rest 256).2.1 (blobAt s.rest 256).2.2).K.R.length = 49) := by show _ = _; rw [step_K]; exact hK
  clear hR hK
  generalize s.step (blobAt s.rest 256).2.1 (blobAt s.rest 256).2.2 = t at *
  go_enter Tryd.func49, Tryd.ntmps49
  go_wp2_with fail
  refine H1.out.mono ?_
  rintro e w1 ⟨v, rfl, g1, _, g2, g3⟩
  have G1 := hide g1
  have G2 := hide g2
  have G3 := hide g3
  obtain ⟨u, hu⟩ := some_at (j := 12) (by have := HK.out; omega : 12 < t.K.R.length)
  obtain ⟨c0, f0⟩ := G2.out.cellR 12
  rw [hu] at c0
  obtain ⟨vo, vc, hv, _, _⟩ := G1.out.form
  subst hv
  clear hu g1 g2 g3
  go_wp2
  go_end0
  exact ⟨rfl, _, G1.out.kept (grown_set _ _ _ _) (.inr (fun e => by have := (G1.out.1.lt _ e).1; omega)), G2.out.setR 12 _, grown_trans (row := some p) G3.out (grown_set _ _ _ _)⟩

set_option maxRecDepth 10000 in
set_option maxHeartbeats 800000 in
theorem fSeq_any (lim p : Nat) (s : RS) (w : World) (hR : RdS lim w p s) (hK : s.K.R.length = 49) :
    Calls Tryd.prog 51 #[.pointer (some ⟨p, 0, none⟩)] w fun e w' => e = .returned (.tuple #[]) ∧ Hid (RdS lim w' p ((rdNum s).setR 8 (.int .u64 ((numAt s.rest).1 : Nat))) ∧ w.grownBy w' (some p)) := by
  have H1 : Hid (Calls Tryd.prog 65 #[.pointer (some ⟨p, 0, none⟩)] w fun e w1 => e = .returned (.int .u64 ((numAt s.rest).1 : Nat)) ∧ Hid (RdS lim w1 p (rdNum s) ∧ w.grownBy w1 (some p))) := (rNum_any lim p s w hR).mono (fun _ _ h => ⟨h.1, h.2⟩)
  have HK : Hid ((rdNum s).K.R.length = 49) := by show _ = _; unfold rdNum; rw [step_K]; exact hK
  clear hR hK
  go_enter Tryd.func51, Tryd.ntmps51
  go_wp2_with fail
  refine H1.out.mono ?_
  rintro e w1 ⟨rfl, G1⟩
  obtain ⟨u, hu⟩ := some_at (j := 8) (by have := HK.out; omega : 8 < (rdNum s).K.R.length)
  obtain ⟨c0, f0⟩ := G1.out.1.cellR 8
  rw [hu] at c0
  clear hu
  go_wp2
  go_end0
  exact ⟨rfl, G1.out.1.setR 8 _, grown_trans (row := some p) G1.out.2 (grown_set _ _ _ _)⟩

set_option maxRecDepth 10000 in
set_option maxHeartbeats 800000 in
theorem fSus_any (lim p : Nat) (s : RS) (w : World) (hR : RdS lim w p s) (hK : s.K.R.length = 49) :
    Calls Tryd.prog 54 #[.pointer (some ⟨p, 0, none⟩)] w fun e w' => e = .returned (.tuple #[]) ∧ Hid (RdS lim w' p ((s.step 1 (flagW s.rest)).setR 13 (.bool (flagV s.rest))) ∧ w.grownBy w' (some p)) := by
  have H1 : Hid (Calls Tryd.prog 66 #[.pointer (some ⟨p, 0, none⟩)] w fun e w1 => e = .returned (.bool (flagV s.rest)) ∧ Hid (RdS lim w1 p (s.step 1 (flagW s.rest)) ∧ w.grownBy w1 (some p))) := (rFlag_any lim p s w hR).mono (fun _ _ h => ⟨h.1, h.2⟩)
  have HK : Hid ((s.step 1 (flagW s.rest)).K.R.length = 49) := by show _ = _; rw [step_K]; exact hK
  clear hR hK
  generalize s.step 1 (flagW s.rest) = t at *
  generalize flagV s.rest = b at *
  go_enter Tryd.func54, Tryd.ntmps54
  go_wp2_with fail
  refine H1.out.mono ?_
  rintro e w1 ⟨rfl, G1⟩
  obtain ⟨u, hu⟩ := some_at (j := 13) (by have := HK.out; omega : 13 < t.K.R.length)
  obtain ⟨c0, f0⟩ := G1.out.1.cellR 13
  rw [hu] at c0
  clear hu
  go_wp2
  go_end0
  exact ⟨rfl, G1.out.1.setR 13 _, grown_trans (row := some p) G1.out.2 (grown_set _ _ _ _)⟩

set_option maxRecDepth 10000 in
set_option maxHeartbeats 800000 in
theorem fCode_any (lim p : Nat) (s : RS) (w : World) (hR : RdS lim w p s) (hK : s.K.R.length = 49) :
    Calls Tryd.prog 47 #[.pointer (some ⟨p, 0, none⟩)] w fun e w' => e = .returned (.tuple #[]) ∧ Hid (RdS lim w' p ((rdBound s 0 1023).setR 10 (.int .i64 (wrap64 ((numAt s.rest).1 : Nat)))) ∧ w.grownBy w' (some p)) := by
  have H1 : Hid (Calls Tryd.prog 62 #[.pointer (some ⟨p, 0, none⟩), .int .u64 0, .int .u64 1023] w fun e w1 => e = .returned (.int .u64 ((numAt s.rest).1 : Nat)) ∧ Hid (RdS lim w1 p (rdBound s 0 1023) ∧ w.grownBy w1 (some p))) := readBound_any lim p s 0 1023 _ hR
  have HK : Hid ((rdBound s 0 1023).K.R.length = 49) := by show _ = _; rw [rdBound_K]; exact hK
  clear hR hK
  go_enter Tryd.func47, Tryd.ntmps47
  go_wp2_with fail
  refine H1.out.mono ?_
  rintro e w1 ⟨rfl, G1⟩
  obtain ⟨u, hu⟩ := some_at (j := 10) (by have := HK.out; omega : 10 < (rdBound s 0 1023).K.R.length)
  obtain ⟨c0, f0⟩ := G1.out.1.cellR 10
  rw [hu] at c0
  clear hu
  go_wp2
  go_end0
  exact ⟨rfl, G1.out.1.setR 10 _, grown_trans (row := some p) G1.out.2 (grown_set _ _ _ _)⟩

set_option maxRecDepth 10000 in
set_option maxHeartbeats 800000 in
theorem fChunk_any (lim p : Nat) (s : RS) (w : World) (hR : RdS lim w p s) (hK : s.K.R.length = 49) :
    Calls Tryd.prog 43 #[.pointer (some ⟨p, 0, none⟩)] w fun e w' => e = .returned (.tuple #[]) ∧ Hid (∃ v, Owns w.heap.size w' v (blobAt s.rest 1024).1 ∧ RdS lim w' p (let t := (s.step (blobAt s.rest 1024).2.1 (blobAt s.rest 1024).2.2).setR 12 v; if (blobAt s.rest 1024).1.length = 0 then t.failP s.pos 29 else t) ∧ w.grownBy w' (some p)) := by
  have hp := hR.plt
  have HA := hide (rAt_any lim p s w hR)
  have H1 := hide (rBlob_any lim p s 1024 w hR (by omega) (by omega))
  have HK : Hid ((s.step (blobAt s.rest 1024).2.1 (blobAt s.rest 1024).2.2).K.R.length = 49) := by show _ = _; rw [step_K]; exact hK
  clear hR hK
  generalize s.step (blobAt s.rest 1024).2.1 (blobAt s.rest 1024).2.2 = t at *
  generalize (blobAt s.rest 1024).1 = C at *
  generalize s.pos = pos at *
  go_enter Tryd.func43, Tryd.ntmps43
  go_wp2_with fail
  refine HA.out.mono ?_
  rintro e w0 ⟨rfl, rfl⟩
  go_wp2_with fail
  refine H1.out.mono ?_
  rintro e w1 ⟨v, rfl, g1, _, g2, g3⟩
  have G1 := hide g1
  have G2 := hide g2
  have G3 := hide g3
  obtain ⟨u, hu⟩ := some_at (j := 12) (by have := HK.out; omega : 12 < t.K.R.length)
  obtain ⟨c0, f0⟩ := G2.out.cellR 12
  rw [hu] at c0
  obtain ⟨vo, vc, hv, _, _⟩ := G1.out.form
  subst hv
  clear hu g1 g2 g3
  have HS := hide (G2.out.setR 12 (.slice vo C.length vc))
  have HG := hide (grown_trans (row := some p) G3.out (grown_set w1 p (12 + 5) (.slice vo C.length vc)))
  have HO := hide (G1.out.kept (grown_set w1 p (12 + 5) (.slice vo C.length vc)) (.inr (fun e => by have := (G1.out.1.lt _ e).1; omega)))
  by_cases hz : C.length = 0
  · have z1 : ((C.length : Int) == 0) = true := by rw [hz]; rfl
    have HZ := hide hz
    clear G1 G2 G3 hz
    go_wp2_with fail
    refine (failP_any lim p _ pos 29 _ HS.out).mono ?_
    rintro e w2 ⟨rfl, g4, g5⟩
    have G4 := hide g4
    have G5 := hide g5
    clear g4 g5
    go_wp2
    go_end0
    exact ⟨rfl, _, HO.out.kept G5.out (.inr (fun e => by have := (HO.out.1.lt _ e).1; omega)), by first | exact G4.out | (rw [if_pos HZ.out]; exact G4.out), grown_trans (row := some p) HG.out G5.out⟩
  · have z1 : ((C.length : Int) == 0) = false := by simp only [beq_eq_false_iff_ne, ne_eq]; omega
    have HZ := hide hz
    clear G1 G2 G3 hz
    go_wp2
    go_end0
    exact ⟨rfl, _, HO.out, by first | exact HS.out | (rw [if_neg HZ.out]; exact HS.out), HG.out⟩
set_option maxRecDepth 10000 in
set_option maxHeartbeats 800000 in
theorem fTotal_any (lim p : Nat) (s : RS) (w : World) (hR : RdS lim w p s) (hK : s.K.R.length = 49) (i : Nat) (hi : s.K.R[14]? = some (.int .u64 (i : Int))) (l : Nat) (hl : IntKind.u64.wrap ((i : Int) + 1) = (l : Int)) :
    Calls Tryd.prog 55 #[.pointer (some ⟨p, 0, none⟩)] w fun e w' => e = .returned (.tuple #[]) ∧ Hid (RdS lim w' p ((rdBound s l 40).setR 15 (.int .u64 ((numAt s.rest).1 : Nat))) ∧ w.grownBy w' (some p)) := by
  have H1 : Hid (∀ W : World, W.heap = w.heap → Calls Tryd.prog 62 #[.pointer (some ⟨p, 0, none⟩), .int .u64 (l : Int), .int .u64 40] W fun e w1 => e = .returned (.int .u64 ((numAt s.rest).1 : Nat)) ∧ Hid (RdS lim w1 p (rdBound s l 40) ∧ W.grownBy w1 (some p))) := fun W hW => readBound_any lim p s l 40 _ (Rd.world hR hW)
  have HK : Hid ((rdBound s l 40).K.R.length = 49) := by show _ = _; rw [rdBound_K]; exact hK
  obtain ⟨c14, f14⟩ := hR.cellR 14
  rw [hi] at c14
  have HI : Hid ((rdBound s l 40).K.R[14]? = some (.int .u64 (i : Int))) := by show _ = _; rw [rdBound_K]; exact hi
  clear hR hK hi
  go_enter Tryd.func55, Tryd.ntmps55
  go_wp2
  go_region_held (fun w' => w'.cell? ⟨p, 19, none⟩ = some (.int .u64 (i : Int))) (first | go_keep | exact cell_set_off c14' (by decide))
    ((go_at_call 62; refine (H1.out _ ?_).mono ?_; rfl; rintro e w1 ⟨rfl, G1⟩; have c14' := (G1.out.1.cellR 14).1; rw [HI.out] at c14'; obtain ⟨u, hu⟩ := some_at (j := 15) (by have := HK.out; omega : 15 < (rdBound s l 40).K.R.length); obtain ⟨c15, f15⟩ := G1.out.1.cellR 15; rw [hu] at c15; clear hu))
  go_wp2
  go_end0
  exact ⟨rfl, G1.out.1.setR 15 _, grown_trans (row := some p) (grown_trans (row := some p) (grown_drew1 w p) G1.out.2) (grown_set _ _ _ _)⟩
end Go.Proofs.YtidhondcfagoaaaDoor
