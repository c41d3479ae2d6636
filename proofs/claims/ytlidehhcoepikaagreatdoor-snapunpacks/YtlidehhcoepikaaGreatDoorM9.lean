import Derived.Test.YtlidehhcoepikaaGreatDoorM8
import Derived.Test.YtlidehhcoepikaaGreatDoorM1
import Derived.Test.YtlidehhcoepikaaGreatDoorM7
namespace Go.Proofs.YtlidehhcoepikaaGreatDoor
open Go.RowKit Crc

set_option maxRecDepth 10000 in
set_option maxHeartbeats 400000 in
theorem newWriter_full (w : World) :
    Calls Tryz.prog 20 #[.int .i64 65507] w fun e w' => e = .returned (.pointer (some ⟨w.heap.size, 0, none⟩)) ∧ Wr KW w.heap.size w' w.heap.size true 0 0 65507 [] ∧ Below w.heap.size w w' := by
  go_enter Tryz.func20, Tryz.ntmps20
  go_wp2
  go_ret
  refine ⟨rfl, ⟨.slice none 0 0, ?_, Owns.nil _ _, by simp [Value.ownBlock]⟩, (Below.refl _ w).alloc (Nat.le_refl _) _⟩
  exact heap_alloc_new w _

set_option maxRecDepth 10000 in
set_option maxHeartbeats 400000 in
theorem told_sound (p : Nat) (w : World) (h0 : w.cell? ⟨p, 0, none⟩ = some (.bool true)) (h2 : w.cell? ⟨p, 2, none⟩ = some (.int .i64 0)) :
    Calls Tryz.prog 64 #[.pointer (some ⟨p, 0, none⟩)] w fun e w' => e = .returned .nilIface ∧ w' = w := by
  go_enter Tryz.func64, Tryz.ntmps64
  go_wp2
  go_ret
  exact ⟨rfl, rfl⟩

set_option maxRecDepth 10000 in
set_option maxHeartbeats 400000 in
theorem wBytes_good {K : Kd} (base p : Nat) (place most : Int) (L : List Nat) (w : World) (hW : Wr K base w p true place 0 most L) :
    Calls Tryz.prog 24 #[.pointer (some ⟨p, 0, none⟩)] w fun e w' => ∃ v, e = .returned (.tuple #[v, .nilIface]) ∧ Owns w.heap.size w' v L ∧ Below w.heap.size w w' := by
  obtain ⟨u, hb, hO, hne⟩ := hW
  obtain ⟨ao, cap, rfl, hS, _⟩ := hO.form
  have c0 := block_cell hb 0
  have c2 := block_cell hb 2
  have c4 := block_cell hb 4
  simp at c0 c2 c4
  have HTS := hide (told_sound p w c0 c2)
  have HCP := hide (copied_sh hS (Nat.le_refl _))
  have HOO := hide hO.2
  clear hb hO hne hS c0 c2
  generalize L.length = n at c4 HCP
  go_enter Tryz.func24, Tryz.ntmps24
  go_wp2_with fail
  refine HTS.out.mono ?_
  rintro e w1 ⟨rfl, rfl⟩
  go_wp2_with fail
  refine HCP.out.mono ?_
  rintro e w2 ⟨v, rfl, _, _, hfr⟩
  go_wp2
  go_ret2
  exact ⟨v, rfl, ⟨hfr.1, HOO.out⟩, hfr.2⟩

set_option maxRecDepth 10000 in
set_option maxHeartbeats 400000 in
theorem readerAt_any (ao : Option Addr) (n cap pos : Nat) (w : World) :
    Calls Tryz.prog 71 #[.slice ao n cap, .int .i64 (pos : Int)] w fun e w' => e = .returned (.agg #[.bool true, .int .i64 0, .int .i64 0, .slice ao n cap, .int .i64 (pos : Int)]) ∧ Below w.heap.size w w' := by
  go_enter Tryz.func71, Tryz.ntmps71
  go_wp2
  refine bodyPost_ret (v := .agg #[.bool true, .int .i64 0, .int .i64 0, .slice ao n cap, .int .i64 (pos : Int)]) (by simp [results, Tryz.results71, go_sem]) rfl ⟨rfl, (Below.refl _ w).alloc (Nat.le_refl _) _⟩

set_option maxRecDepth 10000 in
set_option maxHeartbeats 400000 in
theorem newReader_any {lim : Nat} {w : World} {ao : Option Addr} {n cap : Nat} {B : List Nat} (h : Shows lim w ao n cap B) (hlw : lim ≤ w.heap.size) :
    Calls Tryz.prog 35 #[.slice ao n cap] w fun e w' => ∃ p lim', e = .returned (.pointer (some ⟨p, 0, none⟩)) ∧ w.heap.size ≤ p ∧ w.heap.size ≤ lim' ∧ RdS lim' w' p ⟨true, 0, 0, B, 0, KR⟩ ∧ Below w.heap.size w w' := by
  have HCP := hide (copied_sh h hlw)
  have HB := hide h.2.2.2.1
  have HN := hide h.1
  have HN2 := hide h.2.2.1
  clear h
  go_enter Tryz.func35, Tryz.ntmps35
  go_wp2_with fail
  refine HCP.out.mono ?_
  rintro e w1 ⟨v, rfl, _, _, hfr⟩
  have HO1 : Hid (Owns w.heap.size w1 v B) := ⟨hfr.1, HB.out, by rw [← HN.out]; exact HN2.out⟩
  have HB1 := hide hfr.2
  clear hfr
  obtain ⟨a1, c1, rfl, hs1, _⟩ := HO1.out.form
  have HS1 := hide hs1
  have HBL : Hid (B.length = n) := HN.out.symm
  clear hs1
  generalize hbl : B.length = m at *
  go_wp2_with fail
  refine (readerAt_any a1 m c1 0 w1).mono ?_
  rintro e w2 ⟨rfl, hb2⟩
  have HB2 := hide hb2
  clear hb2
  go_wp2
  go_ret
  refine ⟨w2.heap.size, w1.heap.size, rfl, Nat.le_trans HB1.out.size HB2.out.size, HB1.out.size, ⟨a1, c1, ?_, ?_, Nat.zero_le _, HB2.out.size⟩, ?_⟩
  · rw [hbl]
    exact heap_alloc_new w2 _
  · rw [hbl]
    exact (HS1.out.kept (below_none HB2.out) (fun g hg => by cases hg)).kept (World.grownBy_alloc w2 _ none) (fun g hg => by cases hg)
  · exact (HB1.out.trans (HB2.out.mono HB1.out.size)).alloc (Nat.le_trans HB1.out.size HB2.out.size) _

set_option maxRecDepth 10000 in
set_option maxHeartbeats 400000 in
theorem rLeft_any (lim p : Nat) (s : RS) (w : World) (hR : RdS lim w p s) :
    Calls Tryz.prog 81 #[.pointer (some ⟨p, 0, none⟩)] w fun e w' => e = .returned (.int .i64 ((s.B.length - s.pos : Nat) : Int)) ∧ ∃ q, w' = w.drewN q := by
  obtain ⟨ao, cap, hb, hS, hp, hl⟩ := hR
  have c3 := block_cell hb 3
  have c4 := block_cell hb 4
  simp at c3 c4
  have hn := hS.2.2.1
  clear hb hS hl
  have HE : Hid ((s.B.length : Int) - (s.pos : Int) = ((s.B.length - s.pos : Nat) : Int)) := by show _ = _; omega
  generalize s.B.length = n at *
  generalize s.pos = pos at *
  have h0 : (pos : Int) ≤ (n : Int) := by omega
  go_enter Tryz.func81, Tryz.ntmps81
  go_wp2_with fail
  go_quiet (fail)
  go_wp2
  go_ret
  exact ⟨by rw [← HE.out]; rfl, _, rfl⟩

set_option maxRecDepth 10000 in
set_option maxHeartbeats 400000 in
theorem rErr_sound (lim p : Nat) (s : RS) (w : World) (hR : RdS lim w p s) (hs : s.sound) :
    Calls Tryz.prog 73 #[.pointer (some ⟨p, 0, none⟩)] w fun e w' => e = .returned .nilIface ∧ w' = w := by
  obtain ⟨ao, cap, hb, hS, hp, hl⟩ := hR
  have c0 := block_cell hb 0
  have c2 := block_cell hb 2
  simp at c0 c2
  rw [hs.1] at c0
  rw [hs.2] at c2
  have HTS := hide (told_sound p w c0 c2)
  clear hb hS hp hl hs c0 c2
  go_enter Tryz.func73, Tryz.ntmps73
  go_wp2_with fail
  refine HTS.out.mono ?_
  rintro e w1 ⟨rfl, rfl⟩
  go_wp2
  go_ret
  exact ⟨rfl, rfl⟩

set_option maxRecDepth 10000 in
set_option maxHeartbeats 400000 in
theorem rEnd_sound (lim p : Nat) (s : RS) (w : World) (hR : RdS lim w p s) (hs : s.sound) (he : s.pos = s.B.length) :
    Calls Tryz.prog 38 #[.pointer (some ⟨p, 0, none⟩)] w fun e w' => e = .returned .nilIface ∧ ∃ q, w' = w.drewN q := by
  have HER := hide (rErr_sound lim p s w hR hs)
  have HLF : Hid (Calls Tryz.prog 81 #[.pointer (some ⟨p, 0, none⟩)] w fun e w' => e = .returned (.int .i64 0) ∧ ∃ q, w' = w.drewN q) := by
    have h := rLeft_any lim p s w hR
    rw [he, Nat.sub_self] at h
    exact h
  clear hR hs he
  go_enter Tryz.func38, Tryz.ntmps38
  go_wp2_with fail
  refine HER.out.mono ?_
  rintro e w1 ⟨rfl, rfl⟩
  go_wp2_with fail
  refine HLF.out.mono ?_
  rintro e w2 ⟨rfl, q, rfl⟩
  go_wp2
  go_ret
  exact ⟨rfl, q, rfl⟩
end Go.Proofs.YtlidehhcoepikaaGreatDoor
namespace Go.Proofs.YtlidehhcoepikaaGreatDoor
open Go.RowKit Crc

theorem assert_ptr (g : Nat) (w : World) : (Instr.typeAssert (.iface 117 (.pointer (some ⟨g, 0, none⟩))) 38 117 true).run Tryz.prog w = .ok (.tuple #[.pointer (some ⟨g, 0, none⟩), .bool true]) w := by kernel_rfl
theorem assert_num (n : Int) (w : World) : (Instr.typeAssert (.iface 59 (.int .i64 n)) 38 59 true).run Tryz.prog w = .ok (.tuple #[.int .i64 n, .bool true]) w := by kernel_rfl
set_option maxRecDepth 10000 in
set_option maxHeartbeats 400000 in
theorem refusal_any (at_ why : Int) (w : World) :
    Calls Tryz.prog 63 #[.int .i64 at_, .int .i64 why] w fun e w' => ∃ v, e = .returned v ∧ v = .iface 117 (.pointer (some ⟨w.heap.size, 0, none⟩)) ∧ IsFault w' v at_ why ∧ Below w.heap.size w w' := by
  go_enter Tryz.func63, Tryz.ntmps63
  go_wp2
  go_ret
  refine ⟨_, rfl, rfl, ⟨w.heap.size, rfl, ?_, ?_, ?_⟩, (Below.refl _ _).alloc (Nat.le_refl _) _⟩ <;> simp
end Go.Proofs.YtlidehhcoepikaaGreatDoor
namespace Go.Proofs.YtlidehhcoepikaaGreatDoor
open Go.RowKit Crc

/-- What Err and End tell: the number and the place. -/
def RS.errC (s : RS) : Int := if s.made = true then s.why else 3
def RS.errA (s : RS) : Int := if s.made = true then s.place else 0
def RS.endC (s : RS) : Int := if s.sound then (if s.pos < s.B.length then 28 else 0) else s.errC
def RS.endA (s : RS) : Int := if s.sound then (if s.pos < s.B.length then (s.pos : Int) else 0) else s.errA

theorem refS_size {d p : Nat} {w : World} {s : RS} (h : RefS d w p s) : p < w.heap.size := by obtain ⟨ao, cap, hb, -⟩ := h; exact block_lt hb

set_option maxRecDepth 10000 in
set_option maxHeartbeats 400000 in
theorem refErr_any (d p : Nat) (s : RS) (w : World) (hR : RefS d w p s) :
    Calls Tryz.prog 86 #[.pointer (some ⟨p, 0, none⟩)] w fun e w' => e = .returned (.agg #[.int .i64 s.errC, .int .i64 s.errA]) ∧ Below w.heap.size w w' := by
  have hp := refS_size hR
  obtain ⟨ao, cap, hb, -⟩ := hR
  have c0 := block_cell hb 0
  have c3 := block_cell hb 3
  have c4 := block_cell hb 4
  simp at c0 c3 c4
  have hne : ¬ w.heap.size = p := by omega
  clear hb
  by_cases hm : s.made = true
  · have HE : Hid (s.errC = s.why ∧ s.errA = s.place) := by unfold RS.errC RS.errA; rw [if_pos hm, if_pos hm]; exact ⟨rfl, rfl⟩
    rw [hm] at c0
    generalize s.errC = ec at *
    generalize s.errA = ea at *
    obtain ⟨rfl, rfl⟩ := HE.out
    generalize s.why = y at *
    generalize s.place = a at *
    have a0 : ∀ o, (w.alloc o).cell? ⟨p, 0, none⟩ = some (.bool true) := fun o => (World.grownBy_alloc w o none).cell c0 (by simp)
    have a3 : ∀ o, (w.alloc o).cell? ⟨p, 3, none⟩ = some (.int .i64 y) := fun o => (World.grownBy_alloc w o none).cell c3 (by simp)
    have a4 : ∀ o, (w.alloc o).cell? ⟨p, 4, none⟩ = some (.int .i64 a) := fun o => (World.grownBy_alloc w o none).cell c4 (by simp)
    clear hm HE hp c0 c3 c4
    go_enter Tryz.func86, Tryz.ntmps86
    go_wp2
    refine bodyPost_ret (v := .agg #[.int .i64 y, .int .i64 a]) (by simp [results, Tryz.results86, go_sem]) rfl ⟨rfl, (Below.refl _ w).alloc (Nat.le_refl _) _⟩
  · have hm : s.made = false := by simpa using hm
    have HE : Hid (s.errC = 3 ∧ s.errA = 0) := by unfold RS.errC RS.errA; rw [hm]; exact ⟨rfl, rfl⟩
    rw [hm] at c0
    rw [HE.out.1, HE.out.2]
    have a0 : ∀ o, (w.alloc o).cell? ⟨p, 0, none⟩ = some (.bool false) := fun o => (World.grownBy_alloc w o none).cell c0 (by simp)
    clear hm HE hp c0 c3 c4
    go_enter Tryz.func86, Tryz.ntmps86
    go_wp2
    refine bodyPost_ret (v := .agg #[.int .i64 3, .int .i64 0]) (by simp [results, Tryz.results86, go_sem]) rfl ⟨rfl, (Below.refl _ w).alloc (Nat.le_refl _) _⟩

set_option maxRecDepth 10000 in
set_option maxHeartbeats 800000 in
theorem refEnd_any (d p : Nat) (s : RS) (w : World) (hR : RefS d w p s) :
    Calls Tryz.prog 47 #[.pointer (some ⟨p, 0, none⟩)] w fun e w' => e = .returned (.agg #[.int .i64 s.endC, .int .i64 s.endA]) ∧ Below w.heap.size w w' := by
  have hp := refS_size hR
  have HRA : Hid (∀ o, RefS d (w.alloc o) p s) := fun o => hR.kept (World.grownBy_alloc w o none) (by simp) (by simp)
  obtain ⟨ao, cap, hb, h1, h2, -⟩ := hR
  have c1 := block_cell hb 1
  have c2 := block_cell hb 2
  simp at c1 c2
  have HBL : Hid (∀ (o : Obj) (w1 : World) (u v : Value), Below w.heap.size (w.alloc o) w1 → Below w.heap.size w ((w1.setCell ⟨w.heap.size, 0, none⟩ u).setCell ⟨w.heap.size, 1, none⟩ v)) := fun o w1 u v h => ((((Below.refl _ w).alloc (Nat.le_refl _) o).trans h).setCell (p := ⟨w.heap.size, 0, none⟩) (Nat.le_refl _) u).setCell (p := ⟨w.heap.size, 1, none⟩) (Nat.le_refl _) v
  have hne : ¬ w.heap.size = p := by omega
  clear hb hp h1
  by_cases hs : s.sound
  · have a1 : ∀ o, (w.alloc o).cell? ⟨p, 1, none⟩ = some (.slice ao s.B.length cap) := fun o => (World.grownBy_alloc w o none).cell c1 (by simp)
    have a2 : ∀ o, (w.alloc o).cell? ⟨p, 2, none⟩ = some (.int .i64 (s.pos : Int)) := fun o => (World.grownBy_alloc w o none).cell c2 (by simp)
    have HDD := hide (fun o => dead_sound d p s (w.alloc o) (HRA.out o) hs)
    clear c1 c2 HRA
    by_cases hlt : s.pos < s.B.length
    · have HE : Hid (s.endC = 28 ∧ s.endA = (s.pos : Int)) := by unfold RS.endC RS.endA; rw [if_pos hs, if_pos hs, if_pos hlt, if_pos hlt]; exact ⟨rfl, rfl⟩
      rw [HE.out.1, HE.out.2]
      generalize s.pos = pos at *
      generalize s.B.length = n at *
      have d1 : decide ((pos : Int) < (n : Int)) = true := by simp; omega
      have d2 : decide (pos < n) = true := by simp; omega
      clear HE hlt hs
      go_enter Tryz.func47, Tryz.ntmps47
      go_wp2_with fail
      refine (HDD.out _).mono ?_
      rintro e w1 ⟨rfl, rfl⟩
      go_wp2_with fail
      go_quiet (fail)
      go_wp2
      refine bodyPost_ret (v := .agg #[.int .i64 28, .int .i64 (pos : Int)]) (by simp [results, Tryz.results47, go_sem]) rfl ⟨rfl, HBL.out _ _ _ _ (below_drewN (Below.refl _ _) _)⟩
    · have HE : Hid (s.endC = 0 ∧ s.endA = 0) := by unfold RS.endC RS.endA; rw [if_pos hs, if_pos hs, if_neg hlt, if_neg hlt]; exact ⟨rfl, rfl⟩
      rw [HE.out.1, HE.out.2]
      generalize s.pos = pos at *
      generalize s.B.length = n at *
      have d1 : decide ((pos : Int) < (n : Int)) = false := by simp; omega
      have d2 : decide (pos < n) = false := by simp; omega
      clear HE hlt hs
      go_enter Tryz.func47, Tryz.ntmps47
      go_wp2_with fail
      refine (HDD.out _).mono ?_
      rintro e w1 ⟨rfl, rfl⟩
      go_wp2_with fail
      go_quiet (fail)
      go_wp2
      refine bodyPost_ret (v := .agg #[.int .i64 0, .int .i64 0]) (by simp [results, Tryz.results47, go_sem]) rfl ⟨rfl, HBL.out _ _ _ _ (below_drewN (Below.refl _ _) _)⟩
  · have HE : Hid (s.endC = s.errC ∧ s.endA = s.errA) := by unfold RS.endC RS.endA; rw [if_neg hs, if_neg hs]; exact ⟨rfl, rfl⟩
    rw [HE.out.1, HE.out.2]
    have HDD := hide (fun o => dead_not d p s (w.alloc o) (HRA.out o) hs)
    have HER := hide (fun o => refErr_any d p s (w.alloc o) (HRA.out o))
    generalize s.errC = ec at *
    generalize s.errA = ea at *
    clear HE hs c1 c2 HRA h2
    have HFZ : Hid (∀ (o : Obj) w1, Below (w.alloc o).heap.size (w.alloc o) w1 → Below w.heap.size (w.alloc o) w1) := fun o w1 h => h.mono (by simp)
    go_enter Tryz.func47, Tryz.ntmps47
    go_wp2_with fail
    refine (HDD.out _).mono ?_
    rintro e w1 ⟨rfl, rfl⟩
    go_wp2_with fail
    refine (HER.out _).mono ?_
    rintro e w2 ⟨rfl, hb2⟩
    have hcc := hb2.cell (p := ⟨w.heap.size, 0, none⟩) (by simp)
    have hcd := hb2.cell (p := ⟨w.heap.size, 1, none⟩) (by simp)
    have hfc : ∀ j, w2.frozen? ⟨w.heap.size, j, none⟩ = false := fun j => block_free ((hb2.block w.heap.size (by simp)).trans (heap_alloc_new w _)) j
    have hf0 := hfc 0
    have hf1 := hfc 1
    have hbh : w2.heap[w.heap.size]? = some (.cells #[.int .i64 0, .int .i64 0] 105 (0, 0)) := (hb2.block w.heap.size (by simp)).trans (heap_alloc_new w _)
    have hbh1 : (w2.setCell ⟨w.heap.size, 0, none⟩ (.int .i64 ec)).heap[w.heap.size]? = some (.cells #[.int .i64 ec, .int .i64 0] 105 (0, 0)) := by
      rw [heap_setCell_same w2 w.heap.size 0 _ _ _ hbh]; simp
    have hbh2 : ((w2.setCell ⟨w.heap.size, 0, none⟩ (.int .i64 ec)).setCell ⟨w.heap.size, 1, none⟩ (.int .i64 ea)).heap[w.heap.size]? = some (.cells #[.int .i64 ec, .int .i64 ea] 105 (0, 0)) := by
      rw [heap_setCell_same _ w.heap.size 1 _ _ _ hbh1]; simp
    have r0 := block_cell hbh1 0
    have r1 := block_cell hbh2 1
    simp only [List.getElem?_toArray, List.getElem?_cons_zero, List.getElem?_cons_succ] at r0 r1
    have R01 := hide (And.intro r0 r1)
    clear hbh hbh1 hbh2 r0 r1
    have HB2 := hide (HFZ.out _ _ hb2)
    clear hb2 hfc
    simp at hcc hcd
    go_wp2
    refine bodyPost_ret (v := .agg #[.int .i64 ec, .int .i64 ea]) (by simp [results, Tryz.results47, go_sem, R01.out.1, R01.out.2]) rfl ⟨rfl, HBL.out _ _ _ _ HB2.out⟩
end Go.Proofs.YtlidehhcoepikaaGreatDoor
