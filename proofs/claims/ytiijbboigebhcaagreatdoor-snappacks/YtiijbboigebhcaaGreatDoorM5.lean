import Derived.Test.YtiijbboigebhcaaGreatDoorM0
import Derived.Test.YtiijbboigebhcaaGreatDoorM4
import Derived.Deep.RegionHeld
namespace Go.Proofs.YtiijbboigebhcaaGreatDoor
open Go.RowKit Crc

theorem assert_ptr (g : Nat) (w : World) : (Instr.typeAssert (.iface 117 (.pointer (some ⟨g, 0, none⟩))) 38 117 true).run Tryz.prog w = .ok (.tuple #[.pointer (some ⟨g, 0, none⟩), .bool true]) w := by kernel_rfl
theorem assert_num (n : Int) (w : World) : (Instr.typeAssert (.iface 59 (.int .i64 n)) 38 59 true).run Tryz.prog w = .ok (.tuple #[.int .i64 n, .bool true]) w := by kernel_rfl
set_option maxRecDepth 10000 in
set_option maxHeartbeats 400000 in
theorem refusal_any (at_ why : Int) (w : World) :
    Calls Tryz.prog 63 #[.int .i64 at_, .int .i64 why] w fun e w' => ∃ v, e = .returned v ∧ v = .iface 117 (.pointer (some ⟨w.heap.size, 0, none⟩)) ∧ IsFault w' v at_ why ∧ Below w.heap.size w w' := by
  go_enter Tryz.func63, Tryz.ntmps63
  go_wp2
  go_ret
  refine ⟨_, rfl, rfl, ⟨w.heap.size, rfl, ?_, ?_, ?_⟩, (Below.refl _ _).alloc (Nat.le_refl _) _⟩ <;> simp
end Go.Proofs.YtiijbboigebhcaaGreatDoor
namespace Go.Proofs.YtiijbboigebhcaaGreatDoor
open Go.RowKit Crc

/-- What Err and End tell: the number and the place. -/
def RS.errC (s : RS) : Int := if s.made = true then s.why else 3
def RS.errA (s : RS) : Int := if s.made = true then s.place else 0
def RS.endC (s : RS) : Int := if s.sound then (if s.pos < s.B.length then 28 else 0) else s.errC
def RS.endA (s : RS) : Int := if s.sound then (if s.pos < s.B.length then (s.pos : Int) else 0) else s.errA

theorem refS_size {d p : Nat} {w : World} {s : RS} (h : RefS d w p s) : p < w.heap.size := by obtain ⟨ao, cap, hb, -⟩ := h; exact block_lt hb

set_option maxRecDepth 10000 in
set_option maxHeartbeats 400000 in
theorem refErr_any (d p : Nat) (s : RS) (w : World) (hR : RefS d w p s) :
    Calls Tryz.prog 86 #[.pointer (some ⟨p, 0, none⟩)] w fun e w' => e = .returned (.agg #[.int .i64 s.errC, .int .i64 s.errA]) ∧ Below w.heap.size w w' := by
  have hp := refS_size hR
  obtain ⟨ao, cap, hb, -⟩ := hR
  have c0 := block_cell hb 0
  have c3 := block_cell hb 3
  have c4 := block_cell hb 4
  simp at c0 c3 c4
  have hne : ¬ w.heap.size = p := by omega
  clear hb
  by_cases hm : s.made = true
  · have HE : Hid (s.errC = s.why ∧ s.errA = s.place) := by unfold RS.errC RS.errA; rw [if_pos hm, if_pos hm]; exact ⟨rfl, rfl⟩
    rw [hm] at c0
    generalize s.errC = ec at *
    generalize s.errA = ea at *
    obtain ⟨rfl, rfl⟩ := HE.out
    generalize s.why = y at *
    generalize s.place = a at *
    have a0 : ∀ o, (w.alloc o).cell? ⟨p, 0, none⟩ = some (.bool true) := fun o => (World.grownBy_alloc w o none).cell c0 (by simp)
    have a3 : ∀ o, (w.alloc o).cell? ⟨p, 3, none⟩ = some (.int .i64 y) := fun o => (World.grownBy_alloc w o none).cell c3 (by simp)
    have a4 : ∀ o, (w.alloc o).cell? ⟨p, 4, none⟩ = some (.int .i64 a) := fun o => (World.grownBy_alloc w o none).cell c4 (by simp)
    clear hm HE hp c0 c3 c4
    go_enter Tryz.func86, Tryz.ntmps86
    go_wp2
    refine bodyPost_ret (v := .agg #[.int .i64 y, .int .i64 a]) (by simp [results, Tryz.results86, go_sem]) rfl ⟨rfl, (Below.refl _ w).alloc (Nat.le_refl _) _⟩
  · have hm : s.made = false := by simpa using hm
    have HE : Hid (s.errC = 3 ∧ s.errA = 0) := by unfold RS.errC RS.errA; rw [hm]; exact ⟨rfl, rfl⟩
    rw [hm] at c0
    rw [HE.out.1, HE.out.2]
    have a0 : ∀ o, (w.alloc o).cell? ⟨p, 0, none⟩ = some (.bool false) := fun o => (World.grownBy_alloc w o none).cell c0 (by simp)
    clear hm HE hp c0 c3 c4
    go_enter Tryz.func86, Tryz.ntmps86
    go_wp2
    refine bodyPost_ret (v := .agg #[.int .i64 3, .int .i64 0]) (by simp [results, Tryz.results86, go_sem]) rfl ⟨rfl, (Below.refl _ w).alloc (Nat.le_refl _) _⟩

set_option maxRecDepth 10000 in
set_option maxHeartbeats 800000 in
theorem refEnd_any (d p : Nat) (s : RS) (w : World) (hR : RefS d w p s) :
    Calls Tryz.prog 47 #[.pointer (some ⟨p, 0, none⟩)] w fun e w' => e = .returned (.agg #[.int .i64 s.endC, .int .i64 s.endA]) ∧ Below w.heap.size w w' := by
  have hp := refS_size hR
  have HRA : Hid (∀ o, RefS d (w.alloc o) p s) := fun o => hR.kept (World.grownBy_alloc w o none) (by simp) (by simp)
  obtain ⟨ao, cap, hb, h1, h2, -⟩ := hR
  have c1 := block_cell hb 1
  have c2 := block_cell hb 2
  simp at c1 c2
  have HBL : Hid (∀ (o : Obj) (w1 : World) (u v : Value), Below w.heap.size (w.alloc o) w1 → Below w.heap.size w ((w1.setCell ⟨w.heap.size, 0, none⟩ u).setCell ⟨w.heap.size, 1, none⟩ v)) := fun o w1 u v h => ((((Below.refl _ w).alloc (Nat.le_refl _) o).trans h).setCell (p := ⟨w.heap.size, 0, none⟩) (Nat.le_refl _) u).setCell (p := ⟨w.heap.size, 1, none⟩) (Nat.le_refl _) v
  have hne : ¬ w.heap.size = p := by omega
  clear hb hp h1
  by_cases hs : s.sound
  · have a1 : ∀ o, (w.alloc o).cell? ⟨p, 1, none⟩ = some (.slice ao s.B.length cap) := fun o => (World.grownBy_alloc w o none).cell c1 (by simp)
    have a2 : ∀ o, (w.alloc o).cell? ⟨p, 2, none⟩ = some (.int .i64 (s.pos : Int)) := fun o => (World.grownBy_alloc w o none).cell c2 (by simp)
    have HDD := hide (fun o => dead_sound d p s (w.alloc o) (HRA.out o) hs)
    clear c1 c2 HRA
    by_cases hlt : s.pos < s.B.length
    · have HE : Hid (s.endC = 28 ∧ s.endA = (s.pos : Int)) := by unfold RS.endC RS.endA; rw [if_pos hs, if_pos hs, if_pos hlt, if_pos hlt]; exact ⟨rfl, rfl⟩
      rw [HE.out.1, HE.out.2]
      generalize s.pos = pos at *
      generalize s.B.length = n at *
      have d1 : decide ((pos : Int) < (n : Int)) = true := by simp; omega
      have d2 : decide (pos < n) = true := by simp; omega
      clear HE hlt hs
      go_enter Tryz.func47, Tryz.ntmps47
      go_wp2_with fail
      refine (HDD.out _).mono ?_
      rintro e w1 ⟨rfl, rfl⟩
      go_wp2_with fail
      go_quiet (fail)
      go_wp2
      refine bodyPost_ret (v := .agg #[.int .i64 28, .int .i64 (pos : Int)]) (by simp [results, Tryz.results47, go_sem]) rfl ⟨rfl, HBL.out _ _ _ _ (below_drewN (Below.refl _ _) _)⟩
    · have HE : Hid (s.endC = 0 ∧ s.endA = 0) := by unfold RS.endC RS.endA; rw [if_pos hs, if_pos hs, if_neg hlt, if_neg hlt]; exact ⟨rfl, rfl⟩
      rw [HE.out.1, HE.out.2]
      generalize s.pos = pos at *
      generalize s.B.length = n at *
      have d1 : decide ((pos : Int) < (n : Int)) = false := by simp; omega
      have d2 : decide (pos < n) = false := by simp; omega
      clear HE hlt hs
      go_enter Tryz.func47, Tryz.ntmps47
      go_wp2_with fail
      refine (HDD.out _).mono ?_
      rintro e w1 ⟨rfl, rfl⟩
      go_wp2_with fail
      go_quiet (fail)
      go_wp2
      refine bodyPost_ret (v := .agg #[.int .i64 0, .int .i64 0]) (by simp [results, Tryz.results47, go_sem]) rfl ⟨rfl, HBL.out _ _ _ _ (below_drewN (Below.refl _ _) _)⟩
  · have HE : Hid (s.endC = s.errC ∧ s.endA = s.errA) := by unfold RS.endC RS.endA; rw [if_neg hs, if_neg hs]; exact ⟨rfl, rfl⟩
    rw [HE.out.1, HE.out.2]
    have HDD := hide (fun o => dead_not d p s (w.alloc o) (HRA.out o) hs)
    have HER := hide (fun o => refErr_any d p s (w.alloc o) (HRA.out o))
    generalize s.errC = ec at *
    generalize s.errA = ea at *
    clear HE hs c1 c2 HRA h2
    have HFZ : Hid (∀ (o : Obj) w1, Below (w.alloc o).heap.size (w.alloc o) w1 → Below w.heap.size (w.alloc o) w1) := fun o w1 h => h.mono (by simp)
    go_enter Tryz.func47, Tryz.ntmps47
    go_wp2_with fail
    refine (HDD.out _).mono ?_
    rintro e w1 ⟨rfl, rfl⟩
    go_wp2_with fail
    refine (HER.out _).mono ?_
    rintro e w2 ⟨rfl, hb2⟩
    have hcc := hb2.cell (p := ⟨w.heap.size, 0, none⟩) (by simp)
    have hcd := hb2.cell (p := ⟨w.heap.size, 1, none⟩) (by simp)
    have hfc : ∀ j, w2.frozen? ⟨w.heap.size, j, none⟩ = false := fun j => block_free ((hb2.block w.heap.size (by simp)).trans (heap_alloc_new w _)) j
    have hf0 := hfc 0
    have hf1 := hfc 1
    have hbh : w2.heap[w.heap.size]? = some (.cells #[.int .i64 0, .int .i64 0] 105 (0, 0)) := (hb2.block w.heap.size (by simp)).trans (heap_alloc_new w _)
    have hbh1 : (w2.setCell ⟨w.heap.size, 0, none⟩ (.int .i64 ec)).heap[w.heap.size]? = some (.cells #[.int .i64 ec, .int .i64 0] 105 (0, 0)) := by
      rw [heap_setCell_same w2 w.heap.size 0 _ _ _ hbh]; simp
    have hbh2 : ((w2.setCell ⟨w.heap.size, 0, none⟩ (.int .i64 ec)).setCell ⟨w.heap.size, 1, none⟩ (.int .i64 ea)).heap[w.heap.size]? = some (.cells #[.int .i64 ec, .int .i64 ea] 105 (0, 0)) := by
      rw [heap_setCell_same _ w.heap.size 1 _ _ _ hbh1]; simp
    have r0 := block_cell hbh1 0
    have r1 := block_cell hbh2 1
    simp only [List.getElem?_toArray, List.getElem?_cons_zero, List.getElem?_cons_succ] at r0 r1
    have R01 := hide (And.intro r0 r1)
    clear hbh hbh1 hbh2 r0 r1
    have HB2 := hide (HFZ.out _ _ hb2)
    clear hb2 hfc
    simp at hcc hcd
    go_wp2
    refine bodyPost_ret (v := .agg #[.int .i64 ec, .int .i64 ea]) (by simp [results, Tryz.results47, go_sem, R01.out.1, R01.out.2]) rfl ⟨rfl, HBL.out _ _ _ _ HB2.out⟩
end Go.Proofs.YtiijbboigebhcaaGreatDoor
namespace Go.Proofs.YtiijbboigebhcaaGreatDoor
open Go.RowKit Crc

/-! A nil reader reads nothing. -/
set_option maxRecDepth 10000 in
theorem rest_nil (w : World) :
    Calls Tryz.prog 113 #[.pointer none] w fun e w' => e = .returned (.slice none 0 0) ∧ w' = w := by
  go_enter Tryz.func113, Tryz.ntmps113
  go_wp2
  go_ret
  exact ⟨rfl, rfl⟩
set_option maxRecDepth 10000 in
theorem step_nil (zi why : Int) (w : World) :
    Calls Tryz.prog 114 #[.pointer none, .int .i64 zi, .int .i64 why] w fun e w' => e = .returned (.tuple #[]) ∧ w' = w := by
  go_enter Tryz.func114, Tryz.ntmps114
  go_wp2
  go_end0
  exact ⟨rfl, rfl⟩
theorem countAt_nil (most : Int) : countAt [] most = (0, 0, 20) := rfl
theorem blobAt_nil (most : Int) : blobAt [] most = ([], 0, 20) := rfl
theorem textAt_nil (most : Int) (ok : Bool) : textAt [] most ok = (ByteArray.empty, 0, 20) := rfl

set_option maxRecDepth 10000 in
set_option maxHeartbeats 400000 in
theorem fixed_nil (k : Nat) (ki : Int) (w : World) (hki : ki = (k : Int)) (hk : 0 < k) (hk8 : k ≤ 8) :
    Calls Tryz.prog 111 #[.pointer none, .int .i64 ki] w fun e w' => e = .returned (.int .u64 0) ∧ w.grownBy w' none := by
  subst hki
  have HBA := hide (bytesAhead_any (lim := 0) (w := w) (ao := none) (n := 0) (cap := 0) (B := []) k hk hk8 shows_none)
  go_enter Tryz.func111, Tryz.ntmps111
  go_wp2_with fail
  refine (rest_nil w).mono ?_
  rintro e w1 ⟨rfl, rfl⟩
  go_wp2_with fail
  refine HBA.out.mono ?_
  rintro e w2 ⟨a2, n2, c2, rfl, hs2, hn2, rfl⟩
  have hz : n2 = 0 := by
    have h1 := hs2.1
    rw [if_pos hk] at h1
    exact h1
  subst hz
  have HS2 := hide hs2
  clear hs2
  go_wp2_with fail
  refine (step_nil _ _ _).mono ?_
  rintro e w3 ⟨rfl, rfl⟩
  go_wp2_with fail
  refine (high_sh (B := []) (lim := 0) (cap := c2) (ao := a2) shows_none (by omega)).mono ?_
  rintro e w4 ⟨rfl, rfl⟩
  go_wp2
  go_ret
  exact ⟨rfl, ⟨rfl, rfl, rfl, Nat.le_refl _, fun _ _ _ => rfl⟩⟩

set_option maxRecDepth 10000 in
theorem rU8_nil (w : World) :
    Calls Tryz.prog 74 #[.pointer none] w fun e w' => e = .returned (.int .u8 0) ∧ w.grownBy w' none := by
  have HF := hide (fixed_nil 1 1 w rfl (by omega) (by omega))
  go_enter Tryz.func74, Tryz.ntmps74
  go_wp2_with fail
  refine HF.out.mono ?_
  rintro e w1 ⟨rfl, hg⟩
  go_wp2
  go_ret
  exact ⟨rfl, hg⟩

set_option maxRecDepth 10000 in
theorem rU32_nil (w : World) :
    Calls Tryz.prog 72 #[.pointer none] w fun e w' => e = .returned (.int .u32 0) ∧ w.grownBy w' none := by
  have HF := hide (fixed_nil 4 4 w rfl (by omega) (by omega))
  go_enter Tryz.func72, Tryz.ntmps72
  go_wp2_with fail
  refine HF.out.mono ?_
  rintro e w1 ⟨rfl, hg⟩
  go_wp2
  go_ret
  exact ⟨rfl, hg⟩

set_option maxRecDepth 10000 in
set_option maxHeartbeats 400000 in
theorem rNum_nil (w : World) :
    Calls Tryz.prog 75 #[.pointer none] w fun e w' => e = .returned (.int .u64 0) ∧ w.grownBy w' none := by
  have HA : Hid (Calls Tryz.prog 112 #[.slice none 0 0] w fun e w' => e = .returned (.tuple #[.int .u64 0, .int .i64 0, .int .i64 20]) ∧ w' = w) := numAhead_any (lim := 0) (B := []) shows_none
  go_enter Tryz.func75, Tryz.ntmps75
  go_wp2_with fail
  refine (rest_nil w).mono ?_
  rintro e w1 ⟨rfl, rfl⟩
  go_wp2_with fail
  refine HA.out.mono ?_
  rintro e w2 ⟨rfl, rfl⟩
  go_wp2_with fail
  refine (step_nil _ _ _).mono ?_
  rintro e w3 ⟨rfl, rfl⟩
  go_wp2
  go_ret
  exact ⟨rfl, ⟨rfl, rfl, rfl, Nat.le_refl _, fun _ _ _ => rfl⟩⟩

set_option maxRecDepth 10000 in
set_option maxHeartbeats 400000 in
theorem rCount_nil (most : Int) (w : World) (hm1 : -9223372036854775808 ≤ most) (hm2 : most < 9223372036854775808) :
    Calls Tryz.prog 121 #[.pointer none, .int .i64 most] w fun e w' => e = .returned (.int .i64 0) ∧ w.grownBy w' none := by
  have HA : Hid (Calls Tryz.prog 133 #[.slice none 0 0, .int .i64 most] w fun e w' => e = .returned (.tuple #[.int .i64 0, .int .i64 0, .int .i64 20]) ∧ ∃ q, w' = w.drewN q) := countAhead_any (lim := 0) (B := []) shows_none most hm1 hm2
  go_enter Tryz.func121, Tryz.ntmps121
  go_wp2_with fail
  refine (rest_nil w).mono ?_
  rintro e w1 ⟨rfl, rfl⟩
  go_wp2_with fail
  refine HA.out.mono ?_
  rintro e w2 ⟨rfl, q, rfl⟩
  go_wp2_with fail
  refine (step_nil _ _ _).mono ?_
  rintro e w3 ⟨rfl, rfl⟩
  go_wp2
  go_ret
  exact ⟨rfl, ⟨rfl, rfl, rfl, Nat.le_refl _, fun _ _ _ => rfl⟩⟩

set_option maxRecDepth 10000 in
set_option maxHeartbeats 400000 in
theorem rBlob_nil (most : Int) (w : World) (hm1 : -9223372036854775808 ≤ most) (hm2 : most < 9223372036854775808) :
    Calls Tryz.prog 122 #[.pointer none, .int .i64 most] w fun e w' => ∃ v, e = .returned v ∧ Owns w.heap.size w' v [] ∧ w.grownBy w' none := by
  have HA : Hid (Calls Tryz.prog 134 #[.slice none 0 0, .int .i64 most] w fun e w' => ∃ a2 n2 c2, e = .returned (.tuple #[.slice a2 n2 c2, .int .i64 0, .int .i64 20]) ∧ Shows 0 w a2 n2 c2 [] ∧ ∃ q, w' = w.drewN q) := blobAhead_any (lim := 0) (B := []) shows_none most hm1 hm2
  go_enter Tryz.func122, Tryz.ntmps122
  go_wp2_with fail
  refine (rest_nil w).mono ?_
  rintro e w1 ⟨rfl, rfl⟩
  go_wp2_with fail
  refine HA.out.mono ?_
  rintro e w2 ⟨a2, n2, c2, rfl, hs2, q, rfl⟩
  have HS2 := hide (hs2.world (w' := w1.drewN q) rfl)
  clear hs2
  go_wp2_with fail
  refine (step_nil _ _ _).mono ?_
  rintro e w3 ⟨rfl, rfl⟩
  go_wp2_with fail
  refine (copied_sh HS2.out (Nat.zero_le _)).mono ?_
  rintro e w4 ⟨v, rfl, hv, _, hfr⟩
  go_wp2
  go_ret
  exact ⟨v, rfl, ⟨hfr.1, by simp, by simp⟩, grown_from (below_none hfr.2)⟩

set_option maxRecDepth 10000 in
theorem rLeft_nil (w : World) :
    Calls Tryz.prog 81 #[.pointer none] w fun e w' => e = .returned (.int .i64 0) ∧ w' = w := by
  go_enter Tryz.func81, Tryz.ntmps81
  go_wp2
  go_ret
  exact ⟨rfl, rfl⟩

theorem cell_lt {w : World} {b o : Nat} {v : Value} (h : w.cell? ⟨b, o, none⟩ = some v) : b < w.heap.size := World.block_lt_of_cell? w _ h
/-- What an error says: no fault, or a fault of this layer. -/
def ErrV (w : World) (v : Value) (c a : Int) : Prop := (v = .nilIface ∧ c = 0 ∧ a = 0) ∨ (IsFault w v a c ∧ c ≠ 0)
set_option maxRecDepth 10000 in
theorem rErr_nil (w : World) :
    Calls Tryz.prog 73 #[.pointer none] w fun e w' => ∃ v, e = .returned v ∧ ErrV w' v 3 0 ∧ Below w.heap.size w w' := by
  go_enter Tryz.func73, Tryz.ntmps73
  go_wp2_with fail
  refine (refusal_any 0 3 w).mono ?_
  rintro e w1 ⟨v, rfl, hv, hf, hb⟩
  have HF := hide (And.intro hf hb)
  clear hv hf hb
  go_wp2
  go_ret
  exact ⟨v, rfl, .inr ⟨HF.out.1, by decide⟩, HF.out.2⟩

set_option maxRecDepth 10000 in
set_option maxHeartbeats 400000 in
theorem toldF_any (p : Nat) (made : Bool) (place why : Int) (w : World) (h0 : w.cell? ⟨p, 0, none⟩ = some (.bool made)) (h1 : w.cell? ⟨p, 1, none⟩ = some (.int .i64 place)) (h2 : w.cell? ⟨p, 2, none⟩ = some (.int .i64 why)) (hz : made = true → why = 0 → place = 0) :
    Calls Tryz.prog 64 #[.pointer (some ⟨p, 0, none⟩)] w fun e w' => ∃ v, e = .returned v ∧ ErrV w' v (if made = true then why else 3) (if made = true then place else 0) ∧ Below w.heap.size w w' := by
  by_cases hm : made = true
  · subst hm
    simp only [if_true]
    by_cases hw : why = 0
    · subst hw
      obtain rfl := hz rfl rfl
      refine (told_sound p w h0 h2).mono ?_
      rintro e w' ⟨rfl, rfl⟩
      exact ⟨_, rfl, .inl ⟨rfl, rfl, rfl⟩, Below.refl _ _⟩
    · have hwb : (why == 0) = false := by simp [hw]
      have hwb' : (why != 0) = true := by simp [hw]
      have HW := hide hw
      have HRF : Hid (∀ q, Calls Tryz.prog 63 #[.int .i64 place, .int .i64 why] (w.drewN q) fun e w' => ∃ v, e = .returned v ∧ w'.cell? ⟨p, 1, none⟩ = some (.int .i64 place) ∧ w'.cell? ⟨p, 2, none⟩ = some (.int .i64 why) ∧ Hid (IsFault w' v place why ∧ Below w.heap.size w w')) := by
        intro q
        refine (refusal_any place why (w.drewN q)).mono ?_
        rintro e w1 ⟨v, rfl, hv, hf, hb⟩
        exact ⟨v, rfl, (hb.cell (p := ⟨p, 1, none⟩) (cell_lt h1)).trans h1, (hb.cell (p := ⟨p, 2, none⟩) (cell_lt h2)).trans h2, hf, ⟨hb.os, hb.tape, hb.output, hb.size, hb.block⟩⟩
      clear hz hw
      go_enter Tryz.func64, Tryz.ntmps64
      go_wp2_with fail
      go_region_held (fun w' => w'.cell? ⟨p, 1, none⟩ = some (.int .i64 place) ∧ w'.cell? ⟨p, 2, none⟩ = some (.int .i64 why)) (go_keep)
        ((go_at_call 63; refine (HRF.out _).mono ?_; rintro e w1 ⟨v, rfl, hx1, hx2, HF⟩))
      all_goals go_wp2
      all_goals go_ret
      all_goals exact ⟨v, rfl, .inr ⟨HF.out.1, HW.out⟩, HF.out.2⟩
  · obtain rfl : made = false := by simpa using hm
    simp only [Bool.false_eq_true, if_false]
    clear hz hm
    go_enter Tryz.func64, Tryz.ntmps64
    go_wp2_with fail
    refine (refusal_any 0 3 w).mono ?_
    rintro e w1 ⟨v, rfl, hv, hf, hb⟩
    have HF := hide (And.intro hf hb)
    clear hv hf hb
    go_wp2
    go_ret
    exact ⟨v, rfl, .inr ⟨HF.out.1, by decide⟩, HF.out.2⟩

/-! The program's reader, nil or not. -/
def RS0 : RS := ⟨false, 0, 0, [], 0, KR⟩
def RdP (lim : Nat) (w : World) (po : Option Addr) (s : RS) : Prop := (po = none ∧ s = RS0) ∨ ∃ p, po = some ⟨p, 0, none⟩ ∧ RdS lim w p s
def rowP (po : Option Addr) : Option Nat := po.map (·.block)
theorem RS0_not : ¬ RS0.sound := by intro h; cases h.1
theorem RS0_rest : RS0.rest = [] := rfl
theorem RdP.kept {lim : Nat} {w w' : World} {po : Option Addr} {s : RS} {row : Option Nat} (h : RdP lim w po s) (hg : w.grownBy w' row) (hr : ∀ g, row = some g → lim ≤ g ∧ rowP po ≠ some g) : RdP lim w' po s := by
  rcases h with ⟨rfl, rfl⟩ | ⟨p, rfl, h⟩
  · exact .inl ⟨rfl, rfl⟩
  · exact .inr ⟨p, rfl, h.kept hg (fun g e => ⟨(hr g e).1, fun e2 => (hr g e).2 (by rw [e2]; rfl)⟩)⟩
theorem grown_any {w w' : World} {row : Option Nat} (h : w.grownBy w' none) : w.grownBy w' row := ⟨h.os, h.tape, h.output, h.size, fun k hk _ => h.block k hk (by simp)⟩

set_option maxRecDepth 10000 in
set_option maxHeartbeats 400000 in
theorem rErrP {lim : Nat} {w : World} {po : Option Addr} {s : RS} (h : RdP lim w po s) (hz : s.sound → s.place = 0) :
    Calls Tryz.prog 73 #[.pointer po] w fun e w' => ∃ v, e = .returned v ∧ ErrV w' v s.errC s.errA ∧ Below w.heap.size w w' := by
  rcases h with ⟨rfl, rfl⟩ | ⟨p, rfl, ao, cap, hb, -⟩
  · exact rErr_nil w
  · have c0 := block_cell hb 0
    have c1 := block_cell hb 1
    have c2 := block_cell hb 2
    simp at c0 c1 c2
    have HT := hide (toldF_any p s.made s.place s.why w c0 c1 c2 (fun h1 h2 => hz ⟨h1, h2⟩))
    have HE : Hid (s.errC = (if s.made = true then s.why else 3) ∧ s.errA = (if s.made = true then s.place else 0)) := ⟨rfl, rfl⟩
    rw [← HE.out.1, ← HE.out.2] at HT
    generalize s.errC = ec at *
    generalize s.errA = ea at *
    clear hb c0 c1 c2 hz HE
    go_enter Tryz.func73, Tryz.ntmps73
    go_wp2_with fail
    refine HT.out.mono ?_
    rintro e w1 ⟨v, rfl, hv, hb1⟩
    go_wp2
    go_ret
    exact ⟨v, rfl, hv, hb1⟩

theorem errV_none {w : World} {v : Value} {a : Int} (h : ErrV w v 0 a) : v = .nilIface := by
  rcases h with ⟨h, _⟩ | ⟨_, h⟩
  · exact h
  · exact absurd rfl h
theorem errV_some {w : World} {v : Value} {c a : Int} (h : ErrV w v c a) (hc : c ≠ 0) : ∃ g, v = .iface 117 (.pointer (some ⟨g, 0, none⟩)) := by
  rcases h with ⟨_, h, _⟩ | ⟨⟨g, h, _⟩, _⟩
  · exact absurd h hc
  · exact ⟨g, h⟩
theorem RS.errC_not {s : RS} (hs : ¬ s.sound) : s.errC ≠ 0 := by
  unfold RS.errC
  split
  · rename_i h; exact fun h2 => hs ⟨h, h2⟩
  · decide
theorem RS.errC_sound {s : RS} (hs : s.sound) : s.errC = 0 := by unfold RS.errC; rw [if_pos hs.1]; exact hs.2

set_option maxRecDepth 10000 in
set_option maxHeartbeats 800000 in
theorem rEndP {lim : Nat} {w : World} {po : Option Addr} {s : RS} (h : RdP lim w po s) (hz : s.sound → s.place = 0) :
    Calls Tryz.prog 38 #[.pointer po] w fun e w' => ∃ v, e = .returned v ∧ ErrV w' v s.endC s.endA ∧ Below w.heap.size w w' := by
  have HER := hide (rErrP h hz)
  by_cases hs : s.sound
  · rcases h with ⟨rfl, rfl⟩ | ⟨p, rfl, hR⟩
    · exact absurd hs RS0_not
    · have HLF := hide (fun w1 (hg : w.grownBy w1 none) => rLeft_any lim p s w1 (hR.kept hg (fun g hg => by cases hg)))
      have hC0 := RS.errC_sound hs
      rw [hC0] at HER
      obtain ⟨ao, cap, hb, hS, hpl, -⟩ := id hR
      have HBK : Hid (∀ w1, Below w.heap.size w w1 → w1.cell? ⟨p, 4, none⟩ = some (.int .i64 (s.pos : Int))) := fun w1 h1 => by
        have h2 := h1.cell (p := ⟨p, 4, none⟩) (block_lt hb)
        rw [h2]
        have h3 := block_cell hb 4
        simpa using h3
      clear hb hS hR hC0
      by_cases hlt : s.pos < s.B.length
      · have HE : Hid (s.endC = 28 ∧ s.endA = (s.pos : Int)) := by unfold RS.endC RS.endA; rw [if_pos hs, if_pos hs, if_pos hlt, if_pos hlt]; exact ⟨rfl, rfl⟩
        rw [HE.out.1, HE.out.2]
        obtain ⟨L, hL⟩ : ∃ L, L = s.B.length - s.pos := ⟨_, rfl⟩
        rw [← hL] at HLF
        have hL0 : (0 : Int) < (L : Int) := by omega
        have hL1 : decide (0 < L) = true := by simp; omega
        clear HE hlt hL hpl
        go_enter Tryz.func38, Tryz.ntmps38
        go_wp2_with fail
        refine HER.out.mono ?_
        rintro e w1 ⟨v, rfl, hv, hb1⟩
        obtain rfl := errV_none hv
        have HB1 := hide hb1
        have hc4 := HBK.out w1 hb1
        clear hv hb1
        go_wp2_with fail
        refine (HLF.out w1 (below_none HB1.out)).mono ?_
        rintro e w2 ⟨rfl, q, rfl⟩
        have hc4' : (w1.drewN q).cell? ⟨p, 4, none⟩ = some (.int .i64 (s.pos : Int)) := hc4
        go_wp2_with fail
        refine (refusal_any (s.pos : Int) 28 (w1.drewN q)).mono ?_
        rintro e w3 ⟨v, rfl, hv, hf, hb⟩
        have HF := hide (And.intro hf hb)
        clear hv hf hb
        go_wp2
        go_ret
        have hb := HF.out.2
        exact ⟨v, rfl, .inr ⟨HF.out.1, by decide⟩, HB1.out.trans ⟨hb.os, hb.tape, hb.output, hb.size, fun k hk => hb.block k (Nat.lt_of_lt_of_le hk HB1.out.size)⟩⟩
      · have HE : Hid (s.endC = 0 ∧ s.endA = 0) := by unfold RS.endC RS.endA; rw [if_pos hs, if_pos hs, if_neg hlt, if_neg hlt]; exact ⟨rfl, rfl⟩
        rw [HE.out.1, HE.out.2]
        obtain ⟨L, hL⟩ : ∃ L, L = s.B.length - s.pos := ⟨_, rfl⟩
        rw [← hL] at HLF
        obtain rfl : L = 0 := by omega
        clear HE hlt hL hpl
        go_enter Tryz.func38, Tryz.ntmps38
        go_wp2_with fail
        refine HER.out.mono ?_
        rintro e w1 ⟨v, rfl, hv, hb1⟩
        obtain rfl := errV_none hv
        have HB1 := hide hb1
        clear hv hb1
        go_wp2_with fail
        refine (HLF.out w1 (below_none HB1.out)).mono ?_
        rintro e w2 ⟨rfl, q, rfl⟩
        go_wp2
        go_ret
        exact ⟨_, rfl, .inl ⟨rfl, rfl, rfl⟩, below_drewN HB1.out _⟩
  · have HE : Hid (s.endC = s.errC ∧ s.endA = s.errA) := by unfold RS.endC RS.endA; rw [if_neg hs, if_neg hs]; exact ⟨rfl, rfl⟩
    rw [HE.out.1, HE.out.2]
    have HNZ := hide (RS.errC_not hs)
    generalize s.errC = ec at *
    generalize s.errA = ea at *
    clear HE hs h hz
    go_enter Tryz.func38, Tryz.ntmps38
    go_wp2_with fail
    refine HER.out.mono ?_
    rintro e w1 ⟨v, rfl, hv, hb1⟩
    obtain ⟨g, rfl⟩ := errV_some hv HNZ.out
    have HV := hide (And.intro hv hb1)
    clear hv hb1
    go_wp2
    go_ret
    exact ⟨_, rfl, HV.out.1, HV.out.2⟩

theorem rLeftP {lim : Nat} {w : World} {po : Option Addr} {s : RS} (h : RdP lim w po s) :
    Calls Tryz.prog 81 #[.pointer po] w fun e w' => e = .returned (.int .i64 ((s.B.length - s.pos : Nat) : Int)) ∧ ∃ q, w' = w.drewN q := by
  rcases h with ⟨rfl, rfl⟩ | ⟨p, rfl, h⟩
  · exact (rLeft_nil w).mono fun e w' ⟨h1, h2⟩ => ⟨h1, 0, h2⟩
  · exact rLeft_any lim p s w h
theorem rU8P {lim : Nat} {w : World} {po : Option Addr} {s : RS} (h : RdP lim w po s) :
    Calls Tryz.prog 74 #[.pointer po] w fun e w' => e = .returned (.int .u8 (hi (aheadV s.rest 1) : Nat)) ∧ RdP lim w' po (s.step 1 (aheadW s.rest 1)) ∧ w.grownBy w' (rowP po) := by
  rcases h with ⟨rfl, rfl⟩ | ⟨p, rfl, h⟩
  · exact (rU8_nil w).mono fun e w' ⟨h1, h2⟩ => ⟨h1, .inl ⟨rfl, RS.step_not RS0_not _ _⟩, h2⟩
  · exact (rU8_any lim p s w h).mono fun e w' ⟨h1, h2, h3⟩ => ⟨h1, .inr ⟨p, rfl, h2⟩, h3⟩
theorem rU32P {lim : Nat} {w : World} {po : Option Addr} {s : RS} (h : RdP lim w po s) :
    Calls Tryz.prog 72 #[.pointer po] w fun e w' => e = .returned (.int .u32 (hi (aheadV s.rest 4) : Nat)) ∧ RdP lim w' po (s.step 4 (aheadW s.rest 4)) ∧ w.grownBy w' (rowP po) := by
  rcases h with ⟨rfl, rfl⟩ | ⟨p, rfl, h⟩
  · exact (rU32_nil w).mono fun e w' ⟨h1, h2⟩ => ⟨h1, .inl ⟨rfl, RS.step_not RS0_not _ _⟩, h2⟩
  · exact (rU32_any lim p s w h).mono fun e w' ⟨h1, h2, h3⟩ => ⟨h1, .inr ⟨p, rfl, h2⟩, h3⟩
theorem rNumP {lim : Nat} {w : World} {po : Option Addr} {s : RS} (h : RdP lim w po s) :
    Calls Tryz.prog 75 #[.pointer po] w fun e w' => e = .returned (.int .u64 ((numAt s.rest).1 : Nat)) ∧ RdP lim w' po (s.step (numAt s.rest).2.1 (numAt s.rest).2.2) ∧ w.grownBy w' (rowP po) := by
  rcases h with ⟨rfl, rfl⟩ | ⟨p, rfl, h⟩
  · exact (rNum_nil w).mono fun e w' ⟨h1, h2⟩ => ⟨h1, .inl ⟨rfl, RS.step_not RS0_not _ _⟩, h2⟩
  · exact (rNum_any lim p s w h).mono fun e w' ⟨h1, h2, h3⟩ => ⟨h1, .inr ⟨p, rfl, h2⟩, h3⟩
theorem rCountP {lim : Nat} {w : World} {po : Option Addr} {s : RS} (h : RdP lim w po s) (most : Int) (hm1 : -9223372036854775808 ≤ most) (hm2 : most < 9223372036854775808) :
    Calls Tryz.prog 121 #[.pointer po, .int .i64 most] w fun e w' => e = .returned (.int .i64 ((countAt s.rest most).1 : Nat)) ∧ RdP lim w' po (s.step (countAt s.rest most).2.1 (countAt s.rest most).2.2) ∧ w.grownBy w' (rowP po) := by
  rcases h with ⟨rfl, rfl⟩ | ⟨p, rfl, h⟩
  · exact (rCount_nil most w hm1 hm2).mono fun e w' ⟨h1, h2⟩ => ⟨h1, .inl ⟨rfl, RS.step_not RS0_not _ _⟩, h2⟩
  · exact (rCount_any lim p s most w h hm1 hm2).mono fun e w' ⟨h1, h2, h3⟩ => ⟨h1, .inr ⟨p, rfl, h2⟩, h3⟩
theorem rBlobP {lim : Nat} {w : World} {po : Option Addr} {s : RS} (h : RdP lim w po s) (most : Int) (hm1 : -9223372036854775808 ≤ most) (hm2 : most < 9223372036854775808) :
    Calls Tryz.prog 122 #[.pointer po, .int .i64 most] w fun e w' => ∃ v, e = .returned v ∧ Owns w.heap.size w' v (blobAt s.rest most).1 ∧ RdP lim w' po (s.step (blobAt s.rest most).2.1 (blobAt s.rest most).2.2) ∧ w.grownBy w' (rowP po) := by
  rcases h with ⟨rfl, rfl⟩ | ⟨p, rfl, h⟩
  · exact (rBlob_nil most w hm1 hm2).mono fun e w' ⟨v, h1, h0, h2⟩ => ⟨v, h1, h0, .inl ⟨rfl, RS.step_not RS0_not _ _⟩, h2⟩
  · exact (rBlob_any lim p s most w h hm1 hm2).mono fun e w' ⟨v, h1, h0, _, h2, h3⟩ => ⟨v, h1, h0, .inr ⟨p, rfl, h2⟩, h3⟩
end Go.Proofs.YtiijbboigebhcaaGreatDoor
