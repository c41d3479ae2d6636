import Derived.Test.YtldhafpeigdloaaGreatDoorM13
import Derived.Deep.DeepCutAuto
namespace Go.Proofs.YtldhafpeigdloaaGreatDoor
open Go.RowKit Crc

theorem callsAt {P : Program} {f : FuncId} {args : Array Value} {w w' : World} {Q : Ending → World → Prop} (e : w = w') (h : Calls P f args w' Q) : Calls P f args w Q := by rw [e]; exact h
theorem drew_grown1' (w : World) : w.grownBy w.drew none := ⟨rfl, rfl, rfl, Nat.le_refl _, fun _ _ _ => rfl⟩
theorem set5_far {w : World} {b b' o : Nat} (hne : ¬ b' = b) (a0 a1 a2 a3 a4 : Value) : (((((w.setCell ⟨b, 0, none⟩ a0).setCell ⟨b, 1, none⟩ a1).setCell ⟨b, 2, none⟩ a2).setCell ⟨b, 3, none⟩ a3).setCell ⟨b, 4, none⟩ a4).cell? ⟨b', o, none⟩ = w.cell? ⟨b', o, none⟩ := by
  have h : ∀ (w : World) (i : Nat) (a : Value), (w.setCell ⟨b, i, none⟩ a).cell? ⟨b', o, none⟩ = w.cell? ⟨b', o, none⟩ := fun w i a => World.cell?_setCell_other w ⟨b, i, none⟩ ⟨b', o, none⟩ a (by intro e; cases e; exact hne rfl)
  rw [h, h, h, h, h]
theorem set5_grown (w : World) (b : Nat) (a0 a1 a2 a3 a4 : Value) : w.grownBy (((((w.setCell ⟨b, 0, none⟩ a0).setCell ⟨b, 1, none⟩ a1).setCell ⟨b, 2, none⟩ a2).setCell ⟨b, 3, none⟩ a3).setCell ⟨b, 4, none⟩ a4) (some b) :=
  grown_trans (row := some b) (grown_trans (row := some b) (grown_trans (row := some b) (grown_trans (row := some b) (grown_set w b 0 a0) (grown_set _ b 1 a1)) (grown_set _ b 2 a2)) (grown_set _ b 3 a3)) (grown_set _ b 4 a4)
theorem cells5 {W : World} {b : Nat} {x0 x1 x2 x3 x4 : Value} {t : TypeId} (h : W.heap[b]? = some (.cells #[x0, x1, x2, x3, x4] t (0, 0))) : W.cell? ⟨b, 0, none⟩ = some x0 ∧ W.cell? ⟨b, 1, none⟩ = some x1 ∧ W.cell? ⟨b, 2, none⟩ = some x2 ∧ W.cell? ⟨b, 3, none⟩ = some x3 ∧ W.cell? ⟨b, 4, none⟩ = some x4 := by
  have p0 := block_cell h 0
  have p1 := block_cell h 1
  have p2 := block_cell h 2
  have p3 := block_cell h 3
  have p4 := block_cell h 4
  simp at p0 p1 p2 p3 p4
  exact ⟨p0, p1, p2, p3, p4⟩
/-- A vote that is read. -/
def vS1 (s : RS) (least : Nat) : RS := if (numAt s.rest).1 < least then (rdBound s 0 1099511627776).failP s.pos 30 else rdBound s 0 1099511627776
def vEnd (s : RS) (least : Nat) : RS := bEnd (balS (vS1 s least))

set_option maxRecDepth 10000 in
set_option maxHeartbeats 1600000 in
theorem readVote_any (lim p : Nat) (s : RS) (least : Nat) (w : World) (hR : RdS lim w p s) :
    Calls Tryz.prog 135 #[.pointer (some ⟨p, 0, none⟩), .int .u64 (least : Int)] w fun e w' => ∃ v rs1, e = .returned (.agg #[.int .u64 ((numAt s.rest).1 : Nat), .int .u64 ((numAt (vS1 s least).rest).1 : Nat), .int .i64 ((nodeV (vS1 s least) : Nat) : Int), .int .u64 ((numAt (balS (vS1 s least)).rest).1 : Nat), v]) ∧ Hid (OwnRs w.heap.size w' v rs1 ∧ FreeRs w.heap.size w' rs1 ∧ rs1.map Rq.val = bVals (balS (vS1 s least)) ∧ RdS lim w' p (vEnd s least) ∧ w.grownBy w' (some p)) := by
  have hp := hR.plt
  have HLP : Hid (lim ≤ p) := hR.limp
  obtain ⟨W0, hW0⟩ : ∃ W0, w.alloc (.cells #[.int .u64 0, .int .u64 0, .int .i64 0, .int .u64 0, .slice none 0 0] 66) = W0 := ⟨_, rfl⟩
  have S0 : Hid (RdS lim W0 p s ∧ w.grownBy W0 none ∧ W0.heap[w.heap.size]? = some (.cells #[.int .u64 0, .int .u64 0, .int .i64 0, .int .u64 0, .slice none 0 0] 66 (0, 0))) := by
    have g := World.grownBy_alloc w (.cells #[.int .u64 0, .int .u64 0, .int .i64 0, .int .u64 0, .slice none 0 0] 66) none
    rw [← hW0]
    exact ⟨hR.quiet g, g, alloc_at _ _⟩
  have HW0 := hide hW0
  have HA := hide (rAt_any lim p s W0 S0.out.1)
  have H1 : Hid (Calls Tryz.prog 130 #[.pointer (some ⟨p, 0, none⟩), .int .u64 0, .int .u64 1099511627776] W0 fun e w1 => e = .returned (.int .u64 ((numAt s.rest).1 : Nat)) ∧ Hid (RdS lim w1 p (rdBound s 0 1099511627776) ∧ W0.grownBy w1 (some p))) := readBound_any lim p s 0 1099511627776 _ S0.out.1
  have HV : Hid (∀ W, (if (numAt s.rest).1 < least then RdS lim W p ((rdBound s 0 1099511627776).failP s.pos 30) else RdS lim W p (rdBound s 0 1099511627776)) → RdS lim W p (vS1 s least)) := fun W h => by
    unfold vS1
    by_cases c : (numAt s.rest).1 < least
    · rw [if_pos c] at h ⊢; exact h
    · rw [if_neg c] at h ⊢; exact h
  have HE : Hid (vEnd s least = bEnd (balS (vS1 s least))) := rfl
  clear hR hW0
  generalize hs2 : vS1 s least = s2 at *
  clear hs2
  generalize hsl : (numAt s.rest).1 = slot at *
  clear hsl
  generalize s.pos = pos at *
  have HBL : Hid (∀ W, RdS lim W p s2 → Calls Tryz.prog 126 #[.pointer (some ⟨p, 0, none⟩)] W fun e w' => e = .returned (.agg #[.int .u64 ((numAt s2.rest).1 : Nat), .int .i64 ((nodeV s2 : Nat) : Int)]) ∧ Hid (RdS lim w' p (balS s2) ∧ W.grownBy w' (some p))) := fun W h => readBallot_any lim p s2 W h
  generalize (numAt s2.rest).1 = num at *
  generalize nodeV s2 = node at *
  go_enter Tryz.func135, Tryz.ntmps135
  go_wp2_with fail
  refine callsAt HW0.out ?_
  refine HA.out.mono ?_
  rintro e w1 ⟨rfl, rfl⟩
  go_wp2_with fail
  refine H1.out.mono ?_
  rintro e w2 ⟨rfl, G2⟩
  clear HA H1
  go_upto_if 14 with fail
  go_cut [] from 8 (fun W => Hid (RdS lim W p s2 ∧ w1.grownBy W (some p)))
  case first =>
    by_cases c : slot < least
    · have HVC : Hid (∀ W, RdS lim W p ((rdBound s 0 1099511627776).failP pos 30) → RdS lim W p s2) := fun W h => HV.out W (by rw [if_pos c]; exact h)
      clear HV
      go_wp2_with fail
      refine (failP_any lim p _ pos 30 w2 G2.out.1).mono ?_
      rintro e w3 ⟨rfl, r3, g3⟩
      have R3 := hide (And.intro (HVC.out _ r3) (grown_trans (row := some p) G2.out.2 g3))
      clear r3 g3
      go_wp2
      go_meet
      case rel => exact R3
    · have R3 : Hid (RdS lim w2 p s2 ∧ w1.grownBy w2 (some p)) := ⟨HV.out _ (by rw [if_neg c]; exact G2.out.1), G2.out.2⟩
      clear HV
      go_wp2
      go_meet
      case rel => exact R3
  case rest =>
  have hsz := S0.out.2.1.size
  have hbx : wc.heap[w.heap.size]? = some (.cells #[.int .u64 0, .int .u64 0, .int .i64 0, .int .u64 0, .slice none 0 0] 66 (0, 0)) := (hcut.out.2.block _ (block_lt S0.out.2.2) (by simp; omega)).trans S0.out.2.2
  have HG := hide (grown_trans (row := some p) (grown_weak S0.out.2.1 p) hcut.out.2)
  have HBX := hide hbx
  have R2 := hide hcut.out.1
  clear hcut S0 hbx G2 HV hsz
  go_wp2_with fail
  refine (HBL.out wc R2.out).mono ?_
  rintro e w4 ⟨rfl, G4⟩
  have HBX4 := hide ((G4.out.2.block _ (block_lt HBX.out) (by simp; omega)).trans HBX.out)
  have HG4 := hide (grown_trans (row := some p) HG.out G4.out.2)
  have R4 := hide G4.out.1
  have hlt4 := block_lt HBX4.out
  clear G4 HBX HG R2
  have HRB : Hid (∀ W, (w4.alloc (.cells #[.int .u64 (num : Int), .int .i64 (node : Int)] 25)).grownBy W none → Calls Tryz.prog 127 #[.pointer (some ⟨p, 0, none⟩)] W fun e w' => ∃ vo m vc, e = .returned (.agg #[.int .u64 ((numAt (balS s2).rest).1 : Nat), .slice vo m vc]) ∧ (w'.cell? ⟨w4.heap.size, 0, none⟩ = some (.int .u64 (num : Int)) ∧ w'.cell? ⟨w4.heap.size, 1, none⟩ = some (.int .i64 (node : Int))) ∧ Hid (w'.heap[w.heap.size]? = some (.cells #[.int .u64 0, .int .u64 0, .int .i64 0, .int .u64 0, .slice none 0 0] 66 (0, 0)) ∧ ∃ rs1, OwnRs w4.heap.size w' (.slice vo m vc) rs1 ∧ FreeRs w4.heap.size w' rs1 ∧ rs1.map Rq.val = bVals (balS s2) ∧ RdS lim w' p (bEnd (balS s2)) ∧ w.grownBy w' (some p))) := fun W hW => by
    have gA := World.grownBy_alloc w4 (.cells #[.int .u64 (num : Int), .int .i64 (node : Int)] 25) none
    have gW := grown_quiet gA hW
    have hba := alloc_at w4 (.cells #[.int .u64 (num : Int), .int .i64 (node : Int)] 25)
    have hbW : W.heap[w4.heap.size]? = _ := (hW.block _ (block_lt hba) (by simp)).trans hba
    refine (readBatch_any lim p (balS s2) W (R4.out.quiet gW)).mono ?_
    rintro e w' ⟨v, rs1, rfl, G⟩
    obtain ⟨g1, g2, g3, g4, g5⟩ := G.out
    obtain ⟨vo, vc, b1, rfl, _⟩ := g1.form
    have hb' := (g5.block _ (block_lt hbW) (by simp; omega)).trans hbW
    have c0 := block_cell hb' 0
    have c1 := block_cell hb' 1
    simp at c0 c1
    have hx := (gW.block _ hlt4 (by simp)).trans HBX4.out
    have hx' := (g5.block _ (block_lt hx) (by simp; omega)).trans hx
    exact ⟨vo, _, vc, rfl, ⟨c0, c1⟩, hx', rs1, g1.lower gW.size, g2.lower gW.size, g3, g4, grown_trans (row := some p) (grown_trans (row := some p) HG4.out (grown_weak gW p)) g5⟩
  go_upto_region 6 with fail
  have k0 : (w4.alloc (.cells #[.int .u64 (num : Int), .int .i64 (node : Int)] 25)).cell? ⟨w4.heap.size, 0, none⟩ = some (.int .u64 (num : Int)) := World.cell?_alloc_new _ _ _ _
  have k1 : (w4.alloc (.cells #[.int .u64 (num : Int), .int .i64 (node : Int)] 25)).cell? ⟨w4.heap.size, 1, none⟩ = some (.int .i64 (node : Int)) := World.cell?_alloc_new _ _ _ _
  go_region_held (fun w' => w'.cell? ⟨w4.heap.size, 0, none⟩ = some (.int .u64 (num : Int)) ∧ w'.cell? ⟨w4.heap.size, 1, none⟩ = some (.int .i64 (node : Int))) (first | go_keep | exact ⟨(set5_far hne _ _ _ _ _).trans hkk.1, (set5_far hne _ _ _ _ _).trans hkk.2⟩)
    ((go_at_call 127; refine (HRB.out _ ?_).mono ?_; exact drew_grown1' _; rintro e w5 ⟨vo, m, vc, rfl, hkk, G5⟩; obtain ⟨y0, y1, y2, y3, y4⟩ := cells5 G5.out.1; have f0 := block_free G5.out.1 0; have f1 := block_free G5.out.1 1; have f2 := block_free G5.out.1 2; have f3 := block_free G5.out.1 3; have f4 := block_free G5.out.1 4; have hne : ¬ w4.heap.size = w.heap.size := by omega))
  have hl := HLP.out
  have FIN : Hid (∃ rs1, OwnRs w.heap.size (((((w5.setCell ⟨w.heap.size, 0, none⟩ (.int .u64 (slot : Int))).setCell ⟨w.heap.size, 1, none⟩ (.int .u64 (num : Int))).setCell ⟨w.heap.size, 2, none⟩ (.int .i64 (node : Int))).setCell ⟨w.heap.size, 3, none⟩ (.int .u64 ((numAt (balS s2).rest).1 : Nat))).setCell ⟨w.heap.size, 4, none⟩ (.slice vo m vc)) (.slice vo m vc) rs1 ∧ FreeRs w.heap.size (((((w5.setCell ⟨w.heap.size, 0, none⟩ (.int .u64 (slot : Int))).setCell ⟨w.heap.size, 1, none⟩ (.int .u64 (num : Int))).setCell ⟨w.heap.size, 2, none⟩ (.int .i64 (node : Int))).setCell ⟨w.heap.size, 3, none⟩ (.int .u64 ((numAt (balS s2).rest).1 : Nat))).setCell ⟨w.heap.size, 4, none⟩ (.slice vo m vc)) rs1 ∧ rs1.map Rq.val = bVals (balS s2) ∧ RdS lim (((((w5.setCell ⟨w.heap.size, 0, none⟩ (.int .u64 (slot : Int))).setCell ⟨w.heap.size, 1, none⟩ (.int .u64 (num : Int))).setCell ⟨w.heap.size, 2, none⟩ (.int .i64 (node : Int))).setCell ⟨w.heap.size, 3, none⟩ (.int .u64 ((numAt (balS s2).rest).1 : Nat))).setCell ⟨w.heap.size, 4, none⟩ (.slice vo m vc)) p (vEnd s least) ∧ w.grownBy (((((w5.setCell ⟨w.heap.size, 0, none⟩ (.int .u64 (slot : Int))).setCell ⟨w.heap.size, 1, none⟩ (.int .u64 (num : Int))).setCell ⟨w.heap.size, 2, none⟩ (.int .i64 (node : Int))).setCell ⟨w.heap.size, 3, none⟩ (.int .u64 ((numAt (balS s2).rest).1 : Nat))).setCell ⟨w.heap.size, 4, none⟩ (.slice vo m vc)) (some p)) := by
    obtain ⟨_, rs1, g1, g2, g3, g4, g5⟩ := G5.out
    have gS := set5_grown w5 w.heap.size (.int .u64 (slot : Int)) (.int .u64 (num : Int)) (.int .i64 (node : Int)) (.int .u64 ((numAt (balS s2).rest).1 : Nat)) (.slice vo m vc)
    obtain ⟨o1, o2⟩ := g1.past g2 gS hlt4
    exact ⟨rs1, o1.lower (by omega), o2.lower (by omega), g3, by rw [HE.out]; exact g4.kept gS (fun g e => by cases e; omega), grown_newer g5 gS (Nat.le_refl _)⟩
  clear hkk
  go_wp2
  refine bodyPost_ret (v := .agg #[.int .u64 (slot : Int), .int .u64 (num : Int), .int .i64 (node : Int), .int .u64 ((numAt (balS s2).rest).1 : Nat), .slice vo m vc]) (by simp [results, Tryz.results135, go_sem, y0, y1, y2, y3, y4]) rfl ?_
  obtain ⟨rs1, FIN⟩ := FIN.out
  exact ⟨_, rs1, rfl, FIN⟩
end Go.Proofs.YtldhafpeigdloaaGreatDoor
