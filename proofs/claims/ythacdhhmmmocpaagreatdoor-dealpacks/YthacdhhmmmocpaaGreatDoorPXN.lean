import Derived.Test.YthacdhhmmmocpaaGreatDoorM21
import Derived.Test.YthacdhhmmmocpaaGreatDoorM19
import Derived.Test.YthacdhhmmmocpaaGreatDoorM14
import Derived.Deep.RegionHeld
namespace Go.Proofs.YthacdhhmmmocpaaGreatDoor
open Go.RowKit Crc

/-- A writer's state. -/
structure WS where
  made : Bool
  place : Int
  why : Int
  most : Int
  L : List Nat
  K : Kd
def WS.sound (s : WS) : Prop := s.made = true ∧ s.why = 0
instance (s : WS) : Decidable s.sound := by unfold WS.sound; exact inferInstance
/-- A field that is to be laid down, with its own reason not to. -/
def WS.put (s : WS) (F : List Nat) (y : Int) : WS := if s.sound then (if y ≠ 0 then { s with place := (s.L.length : Int), why := y } else if s.most < ((s.L.length + F.length : Nat) : Int) then { s with place := (s.L.length : Int), why := 21 } else { s with L := s.L ++ F }) else s
def WS.takes (s : WS) (F : List Nat) (y : Int) : Prop := s.sound ∧ y = 0 ∧ ((s.L.length + F.length : Nat) : Int) ≤ s.most
def WrS (base : Nat) (w : World) (p : Nat) (s : WS) : Prop := Wr s.K base w p s.made s.place s.why s.most s.L
theorem WS.put_takes {s : WS} {F : List Nat} {y : Int} (h : s.takes F y) : s.put F y = { s with L := s.L ++ F } := by
  unfold WS.put
  rw [if_pos h.1, if_neg (by simp [h.2.1]), if_neg (by have := h.2.2; omega)]
theorem WS.put_not {s : WS} (hs : ¬ s.sound) (F : List Nat) (y : Int) : s.put F y = s := by unfold WS.put; rw [if_neg hs]
theorem WS.put_own {s : WS} (hs : s.sound) (F : List Nat) {y : Int} (hy : y ≠ 0) : s.put F y = { s with place := (s.L.length : Int), why := y } := by unfold WS.put; rw [if_pos hs, if_pos hy]
theorem WS.put_long {s : WS} (hs : s.sound) {F : List Nat} (hl : s.most < ((s.L.length + F.length : Nat) : Int)) : s.put F 0 = { s with place := (s.L.length : Int), why := 21 } := by unfold WS.put; rw [if_pos hs, if_neg (by simp), if_pos hl]

/-- A fault noted. -/
theorem WrS.failed {base p : Nat} {w : World} {s : WS} (h : WrS base w p s) (q : Nat) (y : Int) :
    WrS base (((w.drewN q).setCell ⟨p, 1, none⟩ (.int .i64 (s.L.length : Int))).setCell ⟨p, 2, none⟩ (.int .i64 y)) p { s with place := (s.L.length : Int), why := y } ∧ w.grownBy (((w.drewN q).setCell ⟨p, 1, none⟩ (.int .i64 (s.L.length : Int))).setCell ⟨p, 2, none⟩ (.int .i64 y)) (some p) := by
  obtain ⟨v, hb, hO, hne⟩ := h
  have hb1 : ((w.drewN q).setCell ⟨p, 1, none⟩ (.int .i64 (s.L.length : Int))).heap[p]? = some (.cells (List.toArray (.bool s.made :: .int .i64 (s.L.length : Int) :: .int .i64 s.why :: .int .i64 s.most :: v :: s.K.R)) s.K.t (0, 0)) := by
    rw [heap_setCell_same (w.drewN q) p 1 _ _ _ (show (w.drewN q).heap[p]? = _ from hb)]; simp
  refine ⟨⟨v, ?_, ((hO.drew q).kept (grown_set _ _ _ _) (.inr hne)).kept (grown_set _ _ _ _) (.inr hne), hne⟩, grown_trans (row := some p) (grown_trans (a := w) (b := w.drewN q) (row := some p) ⟨rfl, rfl, rfl, Nat.le_refl _, fun _ _ _ => rfl⟩ (grown_set (w.drewN q) _ _ _)) (grown_set _ _ _ _)⟩
  rw [heap_setCell_same _ p 2 _ _ _ hb1]; simp

set_option maxRecDepth 10000 in
set_option maxHeartbeats 1600000 in
theorem takes_no (base p : Nat) (s : WS) (F : List Nat) (sz y : Int) (w : World) (hW : WrS base w p s) (hno : ¬ s.takes F y) (hsz : y = 0 → sz = (F.length : Int)) (hm : s.made = true → s.most ≤ 65507 ∧ (s.L.length : Int) ≤ s.most) :
    Calls Tryz.prog 48 #[.pointer (some ⟨p, 0, none⟩), .int .i64 sz, .int .i64 y] w fun e w' => e = .returned (.bool false) ∧ WrS base w' p (s.put F y) ∧ Tch 4 w w' p := by
  have HW := hide hW
  obtain ⟨v, hb, hO, hne⟩ := hW
  obtain ⟨ao, cap, rfl, hS, _⟩ := hO.form
  have c0 := block_cell hb 0
  have c1 := block_cell hb 1
  have c2 := block_cell hb 2
  have c3 := block_cell hb 3
  have c4 := block_cell hb 4
  have f1 := block_free hb 1
  have f2 := block_free hb 2
  simp at c0 c1 c2 c3 c4
  have HSD := hide (sound_any p s.made s.why w c0 c2)
  clear hb hO hne hS
  by_cases hs : s.sound
  · have hmm := hm hs.1
    rw [hs.1] at c0
    rw [hs.2] at c2
    rw [hs.1, hs.2] at HSD
    have HFA := hide (fun q y' => fail_sound p s.place (s.L.length : Int) y' (w.drewN q) c0 c1 c2 f1 f2)
    have HFF := hide (fun q y' => HW.out.failed q y')
    have HC4 : Hid (∀ q y', (((w.drewN q).setCell ⟨p, 1, none⟩ (.int .i64 (s.L.length : Int))).setCell ⟨p, 2, none⟩ (.int .i64 y')).cell? ⟨p, 4, none⟩ = some (.slice ao s.L.length cap)) := by
      intro q y'
      obtain ⟨v', hb', hO', hne'⟩ := (HFF.out q y').1
      have h4 := block_cell hb' 4
      obtain ⟨v0, hb0, _, _⟩ := HW.out
      have hx := block_cell hb0 4
      rw [c4] at hx
      simp at hx
      have hb1 : ((w.drewN q).setCell ⟨p, 1, none⟩ (.int .i64 (s.L.length : Int))).heap[p]? = some (.cells (List.toArray (.bool s.made :: .int .i64 (s.L.length : Int) :: .int .i64 s.why :: .int .i64 s.most :: v0 :: s.K.R)) s.K.t (0, 0)) := by
        rw [heap_setCell_same (w.drewN q) p 1 _ _ _ (show (w.drewN q).heap[p]? = _ from hb0)]; simp
      have hb2 : (((w.drewN q).setCell ⟨p, 1, none⟩ (.int .i64 (s.L.length : Int))).setCell ⟨p, 2, none⟩ (.int .i64 y')).heap[p]? = some (.cells (List.toArray (.bool s.made :: .int .i64 (s.L.length : Int) :: .int .i64 y' :: .int .i64 s.most :: v0 :: s.K.R)) s.K.t (0, 0)) := by
        rw [heap_setCell_same _ p 2 _ _ _ hb1]; simp
      have h5 := block_cell hb2 4
      simp at h5
      rw [h5, ← hx]
    have HS2 : Hid (∀ q y', y' ≠ 0 → Calls Tryz.prog 70 #[.pointer (some ⟨p, 0, none⟩)] (((w.drewN q).setCell ⟨p, 1, none⟩ (.int .i64 (s.L.length : Int))).setCell ⟨p, 2, none⟩ (.int .i64 y')) fun e w' => e = .returned (.bool false) ∧ w' = (((w.drewN q).setCell ⟨p, 1, none⟩ (.int .i64 (s.L.length : Int))).setCell ⟨p, 2, none⟩ (.int .i64 y'))) := by
      intro q y' hy'
      obtain ⟨v', hb', _, _⟩ := (HFF.out q y').1
      have h0 := block_cell hb' 0
      have h2 := block_cell hb' 2
      simp at h0 h2
      have h := sound_any p s.made y' _ h0 h2
      rw [show (s.made && (y' == 0)) = false by simp [hy']] at h
      exact h
    by_cases hy : y = 0
    · have hlong : s.most < ((s.L.length + F.length : Nat) : Int) := by
        by_cases h : ((s.L.length + F.length : Nat) : Int) ≤ s.most
        · exact absurd ⟨hs, hy, h⟩ hno
        · omega
      obtain rfl := hsz hy
      subst hy
      have HPT := hide (WS.put_long hs hlong)
      have hd : decide (s.most - (s.L.length : Int) < (F.length : Int)) = true := by simp; omega
      generalize hn : s.L.length = n at *
      clear hs hno hsz hm hlong hn HW
      go_enter Tryz.func48, Tryz.ntmps48
      go_wp2_with fail
      refine HSD.out.mono ?_
      rintro e w1 ⟨rfl, rfl⟩
      go_wp2_with fail
      go_quiet (fail)
      go_wp2_with fail
      go_region_held (fun w' => w'.cell? ⟨p, 4, none⟩ = some (.slice ao n cap)) (go_keep)
        ((go_at_call 71; refine (HFA.out _ _).mono ?_; rintro e w2 ⟨rfl, hw2⟩; have hx4 : w2.cell? ⟨p, 4, none⟩ = some (.slice ao n cap) := (by rw [hw2]; exact HC4.out _ _); have HW2 := hide hw2; clear hw2))
      all_goals
        have HS3 : Hid (Calls Tryz.prog 70 #[.pointer (some ⟨p, 0, none⟩)] w2 fun e w' => e = .returned (.bool false) ∧ w' = w2) := by rw [HW2.out]; exact HS2.out _ _ (by decide)
        have HRS : Hid (WrS base w2 p (s.put F 0) ∧ Tch 4 w1 w2 p) := by
          have h := HFF.out (nq + 1) 21
          rw [← HW2.out] at h
          rw [HPT.out]
          exact ⟨h.1, Tch.row h.2 (hx4.trans c4.symm)⟩
        clear HW2 HFF HC4 HS2 HFA HSD
        go_wp2_with fail
        refine HS3.out.mono ?_
        rintro e w3 ⟨rfl, rfl⟩
        go_wp2
        go_ret
        exact ⟨rfl, HRS.out⟩
    · have HPT := hide (WS.put_own hs F hy)
      have hyb : (y == 0) = false := by simp [hy]
      have hyb' : (y != 0) = true := by simp [hy]
      have HY := hide hy
      generalize hn : s.L.length = n at *
      clear hs hno hsz hm hn HW hy
      go_enter Tryz.func48, Tryz.ntmps48
      go_wp2_with fail
      refine HSD.out.mono ?_
      rintro e w1 ⟨rfl, rfl⟩
      go_wp2_with fail
      go_region_held (fun w' => w'.cell? ⟨p, 4, none⟩ = some (.slice ao n cap)) (go_keep)
        ((go_at_call 71; refine (HFA.out 1 _).mono ?_; rintro e w2 ⟨rfl, hw2⟩; have hx4 : w2.cell? ⟨p, 4, none⟩ = some (.slice ao n cap) := (by rw [hw2]; exact HC4.out _ _); have HW2 := hide hw2; clear hw2))
      all_goals
        have HS3 : Hid (Calls Tryz.prog 70 #[.pointer (some ⟨p, 0, none⟩)] w2 fun e w' => e = .returned (.bool false) ∧ w' = w2) := by rw [HW2.out]; exact HS2.out _ _ HY.out
        have HRS : Hid (WrS base w2 p (s.put F y) ∧ Tch 4 w1 w2 p) := by
          have h := HFF.out 1 y
          rw [← HW2.out] at h
          rw [HPT.out]
          exact ⟨h.1, Tch.row h.2 (hx4.trans c4.symm)⟩
        clear HW2 HFF HC4 HS2 HFA HSD
        go_wp2_with fail
        refine HS3.out.mono ?_
        rintro e w3 ⟨rfl, rfl⟩
        go_wp2
        go_ret
        exact ⟨rfl, HRS.out⟩
  · have HPN : Hid (s.put F y = s) := WS.put_not hs F y
    have HB : Hid ((s.made && (s.why == 0)) = false) := by
      show _ = _
      unfold WS.sound at hs
      cases hmd : s.made with
      | false => rfl
      | true => rw [hmd] at hs; simp at hs ⊢; exact hs
    rw [HB.out] at HSD
    clear hs hno hsz hm c1 c3 c4 f1 f2
    go_enter Tryz.func48, Tryz.ntmps48
    go_wp2_with fail
    refine HSD.out.mono ?_
    rintro e w1 ⟨rfl, rfl⟩
    go_wp2
    go_ret
    refine ⟨rfl, ?_, Tch.refl _ _ _⟩
    rw [HPN.out]
    exact HW.out
end Go.Proofs.YthacdhhmmmocpaaGreatDoor
