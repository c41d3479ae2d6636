import Derived.Test.YthacdhhmmmocpaaGreatDoorM23
import Derived.Test.YthacdhhmmmocpaaGreatDoorM24
import Derived.Test.YthacdhhmmmocpaaGreatDoorPTold
namespace Go.Proofs.YthacdhhmmmocpaaGreatDoor
open Go.RowKit Crc

/-- What Err and End tell: the number and the place. -/
def RS.errC (s : RS) : Int := if s.made = true then s.why else 3
def RS.errA (s : RS) : Int := if s.made = true then s.place else 0
def RS.endC (s : RS) : Int := if s.sound then (if s.pos < s.B.length then 28 else 0) else s.errC
def RS.endA (s : RS) : Int := if s.sound then (if s.pos < s.B.length then (s.pos : Int) else 0) else s.errA

theorem refS_size {d p : Nat} {w : World} {s : RS} (h : RefS d w p s) : p < w.heap.size := by obtain ⟨ao, cap, hb, -⟩ := h; exact block_lt hb

set_option maxRecDepth 10000 in
set_option maxHeartbeats 400000 in
theorem refErr_any (d p : Nat) (s : RS) (w : World) (hR : RefS d w p s) :
    Calls Tryz.prog 67 #[.pointer (some ⟨p, 0, none⟩)] w fun e w' => e = .returned (.agg #[.int .i64 s.errC, .int .i64 s.errA]) ∧ Below w.heap.size w w' := by
  have hp := refS_size hR
  obtain ⟨ao, cap, hb, -⟩ := hR
  have c0 := block_cell hb 0
  have c3 := block_cell hb 3
  have c4 := block_cell hb 4
  simp at c0 c3 c4
  have hne : ¬ w.heap.size = p := by omega
  clear hb
  by_cases hm : s.made = true
  · have HE : Hid (s.errC = s.why ∧ s.errA = s.place) := by unfold RS.errC RS.errA; rw [if_pos hm, if_pos hm]; exact ⟨rfl, rfl⟩
    rw [hm] at c0
    generalize s.errC = ec at *
    generalize s.errA = ea at *
    obtain ⟨rfl, rfl⟩ := HE.out
    generalize s.why = y at *
    generalize s.place = a at *
    have a0 : ∀ o, (w.alloc o).cell? ⟨p, 0, none⟩ = some (.bool true) := fun o => (World.grownBy_alloc w o none).cell c0 (by simp)
    have a3 : ∀ o, (w.alloc o).cell? ⟨p, 3, none⟩ = some (.int .i64 y) := fun o => (World.grownBy_alloc w o none).cell c3 (by simp)
    have a4 : ∀ o, (w.alloc o).cell? ⟨p, 4, none⟩ = some (.int .i64 a) := fun o => (World.grownBy_alloc w o none).cell c4 (by simp)
    clear hm HE hp c0 c3 c4
    go_enter Tryz.func67, Tryz.ntmps67
    go_wp2
    refine bodyPost_ret (v := .agg #[.int .i64 y, .int .i64 a]) (by simp [results, Tryz.results67, go_sem]) rfl ⟨rfl, (Below.refl _ w).alloc (Nat.le_refl _) _⟩
  · have hm : s.made = false := by simpa using hm
    have HE : Hid (s.errC = 3 ∧ s.errA = 0) := by unfold RS.errC RS.errA; rw [hm]; exact ⟨rfl, rfl⟩
    rw [hm] at c0
    rw [HE.out.1, HE.out.2]
    have a0 : ∀ o, (w.alloc o).cell? ⟨p, 0, none⟩ = some (.bool false) := fun o => (World.grownBy_alloc w o none).cell c0 (by simp)
    clear hm HE hp c0 c3 c4
    go_enter Tryz.func67, Tryz.ntmps67
    go_wp2
    refine bodyPost_ret (v := .agg #[.int .i64 3, .int .i64 0]) (by simp [results, Tryz.results67, go_sem]) rfl ⟨rfl, (Below.refl _ w).alloc (Nat.le_refl _) _⟩

set_option maxRecDepth 10000 in
set_option maxHeartbeats 800000 in
theorem refEnd_any (d p : Nat) (s : RS) (w : World) (hR : RefS d w p s) :
    Calls Tryz.prog 45 #[.pointer (some ⟨p, 0, none⟩)] w fun e w' => e = .returned (.agg #[.int .i64 s.endC, .int .i64 s.endA]) ∧ Below w.heap.size w w' := by
  have hp := refS_size hR
  have HRA : Hid (∀ o, RefS d (w.alloc o) p s) := fun o => hR.kept (World.grownBy_alloc w o none) (by simp) (by simp)
  obtain ⟨ao, cap, hb, h1, h2, -⟩ := hR
  have c1 := block_cell hb 1
  have c2 := block_cell hb 2
  simp at c1 c2
  have HBL : Hid (∀ (o : Obj) (w1 : World) (u v : Value), Below w.heap.size (w.alloc o) w1 → Below w.heap.size w ((w1.setCell ⟨w.heap.size, 0, none⟩ u).setCell ⟨w.heap.size, 1, none⟩ v)) := fun o w1 u v h => ((((Below.refl _ w).alloc (Nat.le_refl _) o).trans h).setCell (p := ⟨w.heap.size, 0, none⟩) (Nat.le_refl _) u).setCell (p := ⟨w.heap.size, 1, none⟩) (Nat.le_refl _) v
  have hne : ¬ w.heap.size = p := by omega
  clear hb hp h1
  by_cases hs : s.sound
  · have a1 : ∀ o, (w.alloc o).cell? ⟨p, 1, none⟩ = some (.slice ao s.B.length cap) := fun o => (World.grownBy_alloc w o none).cell c1 (by simp)
    have a2 : ∀ o, (w.alloc o).cell? ⟨p, 2, none⟩ = some (.int .i64 (s.pos : Int)) := fun o => (World.grownBy_alloc w o none).cell c2 (by simp)
    have HDD := hide (fun o => dead_sound d p s (w.alloc o) (HRA.out o) hs)
    clear c1 c2 HRA
    by_cases hlt : s.pos < s.B.length
    · have HE : Hid (s.endC = 28 ∧ s.endA = (s.pos : Int)) := by unfold RS.endC RS.endA; rw [if_pos hs, if_pos hs, if_pos hlt, if_pos hlt]; exact ⟨rfl, rfl⟩
      rw [HE.out.1, HE.out.2]
      generalize s.pos = pos at *
      generalize s.B.length = n at *
      have d1 : decide ((pos : Int) < (n : Int)) = true := by simp; omega
      have d2 : decide (pos < n) = true := by simp; omega
      clear HE hlt hs
      go_enter Tryz.func45, Tryz.ntmps45
      go_wp2_with fail
      refine (HDD.out _).mono ?_
      rintro e w1 ⟨rfl, rfl⟩
      go_wp2_with fail
      go_quiet (fail)
      go_wp2
      refine bodyPost_ret (v := .agg #[.int .i64 28, .int .i64 (pos : Int)]) (by simp [results, Tryz.results45, go_sem]) rfl ⟨rfl, HBL.out _ _ _ _ (below_drewN (Below.refl _ _) _)⟩
    · have HE : Hid (s.endC = 0 ∧ s.endA = 0) := by unfold RS.endC RS.endA; rw [if_pos hs, if_pos hs, if_neg hlt, if_neg hlt]; exact ⟨rfl, rfl⟩
      rw [HE.out.1, HE.out.2]
      generalize s.pos = pos at *
      generalize s.B.length = n at *
      have d1 : decide ((pos : Int) < (n : Int)) = false := by simp; omega
      have d2 : decide (pos < n) = false := by simp; omega
      clear HE hlt hs
      go_enter Tryz.func45, Tryz.ntmps45
      go_wp2_with fail
      refine (HDD.out _).mono ?_
      rintro e w1 ⟨rfl, rfl⟩
      go_wp2_with fail
      go_quiet (fail)
      go_wp2
      refine bodyPost_ret (v := .agg #[.int .i64 0, .int .i64 0]) (by simp [results, Tryz.results45, go_sem]) rfl ⟨rfl, HBL.out _ _ _ _ (below_drewN (Below.refl _ _) _)⟩
  · have HE : Hid (s.endC = s.errC ∧ s.endA = s.errA) := by unfold RS.endC RS.endA; rw [if_neg hs, if_neg hs]; exact ⟨rfl, rfl⟩
    rw [HE.out.1, HE.out.2]
    have HDD := hide (fun o => dead_not d p s (w.alloc o) (HRA.out o) hs)
    have HER := hide (fun o => refErr_any d p s (w.alloc o) (HRA.out o))
    generalize s.errC = ec at *
    generalize s.errA = ea at *
    clear HE hs c1 c2 HRA h2
    have HFZ : Hid (∀ (o : Obj) w1, Below (w.alloc o).heap.size (w.alloc o) w1 → Below w.heap.size (w.alloc o) w1) := fun o w1 h => h.mono (by simp)
    go_enter Tryz.func45, Tryz.ntmps45
    go_wp2_with fail
    refine (HDD.out _).mono ?_
    rintro e w1 ⟨rfl, rfl⟩
    go_wp2_with fail
    refine (HER.out _).mono ?_
    rintro e w2 ⟨rfl, hb2⟩
    have hcc := hb2.cell (p := ⟨w.heap.size, 0, none⟩) (by simp)
    have hcd := hb2.cell (p := ⟨w.heap.size, 1, none⟩) (by simp)
    have hfc : ∀ j, w2.frozen? ⟨w.heap.size, j, none⟩ = false := fun j => block_free ((hb2.block w.heap.size (by simp)).trans (heap_alloc_new w _)) j
    have hf0 := hfc 0
    have hf1 := hfc 1
    have hbh : w2.heap[w.heap.size]? = some (.cells #[.int .i64 0, .int .i64 0] 67 (0, 0)) := (hb2.block w.heap.size (by simp)).trans (heap_alloc_new w _)
    have hbh1 : (w2.setCell ⟨w.heap.size, 0, none⟩ (.int .i64 ec)).heap[w.heap.size]? = some (.cells #[.int .i64 ec, .int .i64 0] 67 (0, 0)) := by
      rw [heap_setCell_same w2 w.heap.size 0 _ _ _ hbh]; simp
    have hbh2 : ((w2.setCell ⟨w.heap.size, 0, none⟩ (.int .i64 ec)).setCell ⟨w.heap.size, 1, none⟩ (.int .i64 ea)).heap[w.heap.size]? = some (.cells #[.int .i64 ec, .int .i64 ea] 67 (0, 0)) := by
      rw [heap_setCell_same _ w.heap.size 1 _ _ _ hbh1]; simp
    have r0 := block_cell hbh1 0
    have r1 := block_cell hbh2 1
    simp only [List.getElem?_toArray, List.getElem?_cons_zero, List.getElem?_cons_succ] at r0 r1
    have R01 := hide (And.intro r0 r1)
    clear hbh hbh1 hbh2 r0 r1
    have HB2 := hide (HFZ.out _ _ hb2)
    clear hb2 hfc
    simp at hcc hcd
    go_wp2
    refine bodyPost_ret (v := .agg #[.int .i64 ec, .int .i64 ea]) (by simp [results, Tryz.results45, go_sem, R01.out.1, R01.out.2]) rfl ⟨rfl, HBL.out _ _ _ _ HB2.out⟩
end Go.Proofs.YthacdhhmmmocpaaGreatDoor
