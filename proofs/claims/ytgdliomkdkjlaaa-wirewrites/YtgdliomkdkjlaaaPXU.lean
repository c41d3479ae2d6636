import Derived.Test.YtgdliomkdkjlaaaPXT
import Derived.Test.YtgdliomkdkjlaaaPMade
namespace Go.Proofs.Ytgdliomkdkjlaaa
open Go.RowKit Crc

theorem below_drewX {l : Nat} {w w1 : World} (h : Below l w w1) : Below l w w1.drew := ⟨h.os, h.tape, h.output, h.size, h.block⟩
/-- What Bytes shows and tells. -/
def WS.shown (s : WS) : List Nat := if s.sound then s.L else []
def WS.errC (s : WS) : Int := if s.made = true then s.why else 3
def WS.errA (s : WS) : Int := if s.made = true then s.place else 0
theorem WS.errC_not {s : WS} (hs : ¬ s.sound) : s.errC ≠ 0 := by
  unfold WS.errC
  split
  · rename_i h; exact fun h2 => hs ⟨h, h2⟩
  · decide
theorem WS.errC_sound {s : WS} (hs : s.sound) : s.errC = 0 := by unfold WS.errC; rw [if_pos hs.1]; exact hs.2

set_option maxRecDepth 10000 in
theorem wLen_nil (w : World) :
    Calls Try.prog 8 #[.pointer none] w fun e w' => e = .returned (.int .i64 0) ∧ w' = w := by
  go_enter Try.func8, Try.ntmps8
  go_wp2
  go_ret
  exact ⟨rfl, rfl⟩
theorem wLenP {base : Nat} {w : World} {po : Option Addr} {s : WS} (hW : WrP base w po s) :
    Calls Try.prog 8 #[.pointer po] w fun e w' => e = .returned (.int .i64 (s.L.length : Nat)) ∧ w' = w := by
  rcases hW with ⟨rfl, rfl⟩ | ⟨p, rfl, hW⟩
  · exact wLen_nil w
  · exact wLen_any base p s.made s.place s.why s.most s.L w hW

set_option maxRecDepth 10000 in
set_option maxHeartbeats 400000 in
theorem wBytes_nil (w : World) :
    Calls Try.prog 23 #[.pointer none] w fun e w' => ∃ x, e = .returned (.tuple #[.slice none 0 0, x]) ∧ ErrV w' x 3 0 ∧ Below w.heap.size w w' := by
  go_enter Try.func23, Try.ntmps23
  go_wp2_with fail
  refine (refusal_any 0 3 w).mono ?_
  rintro e w1 ⟨v, rfl, hv, hf, hb⟩
  have HF := hide (And.intro hf hb)
  clear hv hf hb
  go_wp2
  go_ret2
  exact ⟨v, rfl, .inr ⟨HF.out.1, by decide⟩, HF.out.2⟩

set_option maxRecDepth 10000 in
set_option maxHeartbeats 400000 in
theorem wBytes_not (base p : Nat) (s : WS) (w : World) (hW : WrS base w p s) (hs : ¬ s.sound) (hz : s.sound → s.place = 0) :
    Calls Try.prog 23 #[.pointer (some ⟨p, 0, none⟩)] w fun e w' => ∃ x, e = .returned (.tuple #[.slice none 0 0, x]) ∧ ErrV w' x s.errC s.errA ∧ Below w.heap.size w w' := by
  obtain ⟨u, hb, hO, hne⟩ := hW
  have c0 := block_cell hb 0
  have c1 := block_cell hb 1
  have c2 := block_cell hb 2
  simp at c0 c1 c2
  have HT := hide (toldF_any p s.made s.place s.why w c0 c1 c2 (fun h1 h2 => hz ⟨h1, h2⟩))
  have HE : Hid (s.errC = (if s.made = true then s.why else 3) ∧ s.errA = (if s.made = true then s.place else 0)) := ⟨rfl, rfl⟩
  rw [← HE.out.1, ← HE.out.2] at HT
  have HN := hide (WS.errC_not hs)
  generalize s.errC = ec at *
  generalize s.errA = ea at *
  clear hb hO hne c0 c1 c2 hz HE hs
  go_enter Try.func23, Try.ntmps23
  go_wp2_with fail
  refine HT.out.mono ?_
  rintro e w1 ⟨v, rfl, hv, hb1⟩
  obtain ⟨g, rfl⟩ := errV_some hv HN.out
  have HF := hide (And.intro hv hb1)
  clear hv hb1
  go_wp2
  go_ret2
  exact ⟨_, rfl, HF.out.1, HF.out.2⟩

theorem wBytesP {base : Nat} {w : World} {po : Option Addr} {s : WS} (hW : WrP base w po s) (hz : s.sound → s.place = 0) :
    Calls Try.prog 23 #[.pointer po] w fun e w' => ∃ v x, e = .returned (.tuple #[v, x]) ∧ Hid (Owns w.heap.size w' v s.shown ∧ ErrV w' x s.errC s.errA ∧ Below w.heap.size w w') := by
  by_cases hs : s.sound
  · obtain ⟨p, rfl, hWp⟩ := wrP_some hW hs
    refine (wBytes_good base p s.place s.most s.L w (wrS_open hWp hs)).mono ?_
    rintro e w' ⟨v, rfl, h1, h2⟩
    refine ⟨v, _, rfl, ?_, .inl ⟨rfl, WS.errC_sound hs, ?_⟩, h2⟩
    · unfold WS.shown; rw [if_pos hs]; exact h1
    · unfold WS.errA; rw [if_pos hs.1]; exact hz hs
  · have hsh : s.shown = [] := by unfold WS.shown; rw [if_neg hs]
    rw [hsh]
    rcases hW with ⟨rfl, rfl⟩ | ⟨p, rfl, hW⟩
    · refine (wBytes_nil w).mono ?_
      rintro e w' ⟨x, rfl, h1, h2⟩
      exact ⟨_, x, rfl, Owns.nil _ _, h1, h2⟩
    · refine (wBytes_not base p s w hW hs hz).mono ?_
      rintro e w' ⟨x, rfl, h1, h2⟩
      exact ⟨_, x, rfl, Owns.nil _ _, h1, h2⟩

set_option maxRecDepth 10000 in
set_option maxHeartbeats 400000 in
theorem refBytes_not {base p : Nat} {w : World} {s : WS} (hW : RefW base w p s) (hs : ¬ s.sound) :
    Calls Try.prog 44 #[.pointer (some ⟨p, 0, none⟩)] w fun e w' => e = .returned (.tuple #[.slice none 0 0, .agg #[.int .i64 s.errC, .int .i64 s.errA]]) ∧ Below w.heap.size w w' := by
  have hp := hW.plt
  obtain ⟨v, hb, hO, hne⟩ := hW
  have c0 := block_cell hb 0
  have c3 := block_cell hb 3
  have c4 := block_cell hb 4
  simp at c0 c3 c4
  have hnp : ¬ w.heap.size = p := by omega
  clear hb hO hne
  by_cases hm : s.made = true
  · have HE : Hid (s.errC = s.why ∧ s.errA = s.place) := by unfold WS.errC WS.errA; rw [if_pos hm, if_pos hm]; exact ⟨rfl, rfl⟩
    have hwy : s.why ≠ 0 := fun h => hs ⟨hm, h⟩
    rw [hm] at c0
    rw [HE.out.1, HE.out.2]
    generalize s.why = y at *
    generalize s.place = a at *
    have hyb : (y == 0) = false := by simp [hwy]
    have hyb' : (y != 0) = true := by simp [hwy]
    have a0 : ∀ o, (w.alloc o).cell? ⟨p, 0, none⟩ = some (.bool true) := fun o => (World.grownBy_alloc w o none).cell c0 (by simp)
    have a3 : ∀ o, (w.alloc o).cell? ⟨p, 3, none⟩ = some (.int .i64 y) := fun o => (World.grownBy_alloc w o none).cell c3 (by simp)
    have a4 : ∀ o, (w.alloc o).cell? ⟨p, 4, none⟩ = some (.int .i64 a) := fun o => (World.grownBy_alloc w o none).cell c4 (by simp)
    clear hm HE hp c0 c3 c4 hs hwy
    go_enter Try.func44, Try.ntmps44
    go_wp2_with fail
    go_region_held (fun w' => w'.cell? ⟨p, 3, none⟩ = some (.int .i64 y) ∧ w'.cell? ⟨p, 4, none⟩ = some (.int .i64 a)) (go_keep) (fail)
    all_goals go_wp2
    all_goals refine bodyPost_ret (v := .tuple #[.slice none 0 0, .agg #[.int .i64 y, .int .i64 a]]) (by simp [results, Try.results44, go_sem]) rfl ⟨rfl, ?_⟩
    all_goals exact below_drewX ((Below.refl _ w).alloc (Nat.le_refl _) _)
  · have hm : s.made = false := by simpa using hm
    have HE : Hid (s.errC = 3 ∧ s.errA = 0) := by unfold WS.errC WS.errA; rw [hm]; exact ⟨rfl, rfl⟩
    rw [hm] at c0
    rw [HE.out.1, HE.out.2]
    have a0 : ∀ o, (w.alloc o).cell? ⟨p, 0, none⟩ = some (.bool false) := fun o => (World.grownBy_alloc w o none).cell c0 (by simp)
    clear hm HE hp c0 c3 c4 hs
    go_enter Try.func44, Try.ntmps44
    go_wp2
    refine bodyPost_ret (v := .tuple #[.slice none 0 0, .agg #[.int .i64 3, .int .i64 0]]) (by simp [results, Try.results44, go_sem]) rfl ⟨rfl, (Below.refl _ w).alloc (Nat.le_refl _) _⟩

set_option maxRecDepth 10000 in
set_option maxHeartbeats 400000 in
theorem refBytes_sound {base p : Nat} {w : World} {s : WS} (hW : RefW base w p s) (hs : s.sound) :
    Calls Try.prog 44 #[.pointer (some ⟨p, 0, none⟩)] w fun e w' => ∃ v, e = .returned (.tuple #[v, .agg #[.int .i64 0, .int .i64 0]]) ∧ Owns w.heap.size w' v s.L ∧ Below w.heap.size w w' := by
  have hp := hW.plt
  obtain ⟨v, hb, hO, hne⟩ := hW
  obtain ⟨ao, cap, rfl, hS, _⟩ := hO.form
  have c0 := block_cell hb 0
  have c2 := block_cell hb 2
  have c3 := block_cell hb 3
  simp at c0 c2 c3
  rw [hs.1] at c0
  rw [hs.2] at c3
  have hnp : ¬ w.heap.size = p := by omega
  have HCP : Hid (Calls Try.prog 48 #[.slice ao s.L.length cap] (w.alloc (.cells #[.int .i64 0, .int .i64 0] 34)) fun e w' => ∃ v, e = .returned v ∧ w'.heap[w.heap.size]? = some (.cells #[.int .i64 0, .int .i64 0] 34 (0, 0)) ∧ Hid (Owns w.heap.size ((w'.setCell ⟨w.heap.size, 0, none⟩ (.int .i64 0)).setCell ⟨w.heap.size, 1, none⟩ (.int .i64 0)) v s.L ∧ Below w.heap.size w ((w'.setCell ⟨w.heap.size, 0, none⟩ (.int .i64 0)).setCell ⟨w.heap.size, 1, none⟩ (.int .i64 0)))) := by
    have hg := World.grownBy_alloc w (.cells #[.int .i64 0, .int .i64 0] 34) none
    refine (copy_any (hS.kept hg (fun g h => by cases h)) hg.size).mono ?_
    rintro e w1 ⟨v, rfl, h1, h2⟩
    rw [show (w.alloc (.cells #[.int .i64 0, .int .i64 0] 34)).heap.size = w.heap.size + 1 by simp] at h1 h2
    have hbk := (h2.block w.heap.size (by omega)).trans (heap_alloc_new w (.cells #[.int .i64 0, .int .i64 0] 34))
    have hf : v.ownBlock ≠ some w.heap.size := fun e => by have := ownx_far h1 _ e; omega
    refine ⟨v, rfl, hbk, ((h1.lower (by omega)).kept (grown_set _ _ _ _) (.inr hf)).kept (grown_set _ _ _ _) (.inr hf), ?_⟩
    exact ((((Below.refl _ w).alloc (Nat.le_refl _) _).trans (h2.mono (by omega))).setCell (p := ⟨w.heap.size, 0, none⟩) (Nat.le_refl _) _).setCell (p := ⟨w.heap.size, 1, none⟩) (Nat.le_refl _) _
  have a0 : ∀ o, (w.alloc o).cell? ⟨p, 0, none⟩ = some (.bool true) := fun o => (World.grownBy_alloc w o none).cell c0 (by simp)
  have a2 : ∀ o, (w.alloc o).cell? ⟨p, 2, none⟩ = some (.slice ao s.L.length cap) := fun o => (World.grownBy_alloc w o none).cell c2 (by simp)
  have a3 : ∀ o, (w.alloc o).cell? ⟨p, 3, none⟩ = some (.int .i64 0) := fun o => (World.grownBy_alloc w o none).cell c3 (by simp)
  clear hb hO hne hS hp c0 c2 c3 hs
  generalize s.L.length = n at *
  go_enter Try.func44, Try.ntmps44
  go_wp2_with fail
  refine HCP.out.mono ?_
  rintro e w1 ⟨v, rfl, hbk, HR⟩
  have k0 := block_cell hbk 0
  have k1 := block_cell hbk 1
  have kf0 := block_free hbk 0
  have kf1 := block_free hbk 1
  simp at k0 k1
  have hb1 := heap_setCell_same w1 w.heap.size 0 _ _ (.int .i64 0) hbk
  have HE0 := hide (block_cell hb1 0)
  have hb2 := heap_setCell_same _ w.heap.size 1 _ _ (.int .i64 0) hb1
  have HE1 := hide (block_cell hb2 1)
  clear hbk hb1 hb2
  go_wp2
  have e0 := HE0.out
  have e1 := HE1.out
  simp at e0 e1
  refine bodyPost_ret (v := .tuple #[v, .agg #[.int .i64 0, .int .i64 0]]) (by simp [results, Try.results44, go_sem, e0, e1, Result.andThen]) rfl ⟨v, rfl, HR.out⟩
end Go.Proofs.Ytgdliomkdkjlaaa
