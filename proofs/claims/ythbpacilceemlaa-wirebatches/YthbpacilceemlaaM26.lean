import Derived.Test.YthbpacilceemlaaM23
import Derived.Test.YthbpacilceemlaaPUtfC
import Derived.Lib.ConvBytes
import Derived.Test.YthbpacilceemlaaM17
namespace Go.Proofs.Ythbpacilceemlaa
open Go.RowKit Crc

theorem bytesW_below (w : World) (e : TypeId) (s : ByteArray) : Below w.heap.size w (Go.Lib.bytesWorld w e s) := by
  refine ⟨rfl, rfl, rfl, ?_, fun j hj => Go.Lib.bytesWorld_at_old w e s j hj⟩
  rw [Go.Lib.bytesWorld_size]; omega

theorem strB_getD (S : ByteArray) (i : Nat) (hi : i < S.size) : (strB S).getD i 0 = (S.data.toList.getD i 0).toNat := by
  have h : i < S.data.toList.length := by simpa using hi
  simp [strB, List.getD, List.getElem?_eq_getElem h]
theorem bytesW_shows (w : World) (S : ByteArray) (hS : S.size ≤ 140737488355328) : Shows (w.heap.size + 1) (Go.Lib.bytesWorld w 5 S) (some ⟨w.heap.size, 0, none⟩) S.size (grownCap w S.size 0 5) (strB S) := by
  refine ⟨(strB_len S).symm, ?_, hS, strB_lt S, w.heap.size, 0, fun _ => rfl, by omega, fun i hi => ?_⟩
  · have := grownCap_ge w S.size 0 5; omega
  · rw [Nat.zero_add, Go.Lib.bytesWorld_cell w 5 S i hi, strB_getD S i hi]

set_option maxRecDepth 10000 in
set_option maxHeartbeats 400000 in
theorem refWText {base p : Nat} {w : World} {s : WS} (hW : RefW base w p s) (hi : s.Inv) (hbs : base ≤ w.heap.size) (S : ByteArray) (cm : Int) (hS : S.size ≤ 140737488351232) :
    Calls Try.prog 50 #[.pointer (some ⟨p, 0, none⟩), .string S, .int .i64 cm] w fun e w' => e = .returned (.tuple #[]) ∧ Hid (RefW base w' p (s.put (numB S.size ++ strB S) (txtY S cm)) ∧ Tch 2 w w' p) := by
  by_cases h : cm < (S.size : Int)
  · have HC : Hid (txtY S cm = 21) := by unfold txtY; rw [if_pos h]; rfl
    rw [HC.out]
    have HP := hide (put_none hW hi hbs (numB S.size ++ strB S) (y := 21) (by decide))
    have d1 : decide (cm < (S.size : Int)) = true := by simp [h]
    clear hW hi h
    go_enter Try.func50, Try.ntmps50
    go_wp2_with fail
    refine HP.out.mono ?_
    rintro e w2 ⟨rfl, H⟩
    go_wp2
    refine bodyPost_ret (v := .tuple #[]) (by simp [results, Try.results50, go_sem]) rfl ⟨rfl, H⟩
  have HU := hide (utf8_any S w (by omega))
  have d1 : decide (cm < (S.size : Int)) = false := by simp; omega
  by_cases hu : utf8Ok S = true
  · have HC : Hid (txtY S cm = 0) := by unfold txtY; rw [if_neg h, if_pos hu]; rfl
    rw [HC.out]
    rw [hu] at HU
    have hnl : (numB S.size).length ≤ 10 := numTo_len 9 S.size
    have HB := hide (refNumB S.size S.size w rfl (by omega))
    have HCV : Hid (∀ w1, (convert 9 29 (.string S)).run Try.prog w1 = .ok (.slice (some ⟨w1.heap.size, 0, none⟩) S.size (grownCap w1 S.size 0 5)) (Go.Lib.bytesWorld w1 5 S)) :=
      fun w1 => Go.Lib.run_convert_string_bytes (P := Try.prog) w1 9 29 5 S (u := .string) Try.underlying9 Try.underlying29 Try.underlying5
    have HJN : Hid (∀ w1 a1 c1, Shows w1.heap.size w1 a1 (numB S.size).length c1 (numB S.size) → Below w.heap.size w w1 → Calls Try.prog 94 #[.slice a1 (numB S.size).length c1, .slice (some ⟨w1.heap.size, 0, none⟩) S.size (grownCap w1 S.size 0 5)] (Go.Lib.bytesWorld w1 5 S) fun e w' => ∃ v, e = .returned v ∧ Hid (Owns w.heap.size w' v (numB S.size ++ strB S) ∧ Below w.heap.size w w')) := by
      intro w1 a1 c1 hs1 hb1
      have hbw := bytesW_below w1 5 S
      have hbt : Below w.heap.size w (Go.Lib.bytesWorld w1 5 S) := hb1.trans (hbw.mono hb1.size)
      refine (join_any (hs1.kept (below_none hbw) (fun g hg => by cases hg)) hbw.size (bytesW_shows w1 S (by omega)) (by rw [Go.Lib.bytesWorld_size]; omega) (by omega)).mono ?_
      rintro e w' ⟨v, rfl, h1, h2⟩
      exact ⟨v, rfl, h1.lower hbt.size, hbt.trans (h2.mono hbt.size)⟩
    have HP : Hid (∀ w1 x, Owns w.heap.size w1 x (numB S.size ++ strB S) → Below w.heap.size w w1 → _) := fun w1 x h1 h2 => put_after hW hi hbs (v := x) 0 h1 h2
    have hcv : IntKind.u64.wrap (S.size : Int) = (S.size : Int) := by simp [IntKind.wrap, IntKind.bits, IntKind.signed]; omega
    clear hW hi h HC hnl hu
    go_enter Try.func50, Try.ntmps50
    go_wp2_with fail
    refine HU.out.mono ?_
    rintro e w0 ⟨rfl, rfl⟩
    go_wp2_with fail
    refine HB.out.mono ?_
    rintro e w1 ⟨x, rfl, h1, h2⟩
    obtain ⟨a1, c1, rfl, hs1, _⟩ := h1.form
    have HJ1 := hide (HJN.out w1 a1 c1 hs1 h2)
    have hc1 := HCV.out w1
    clear h1 h2 hs1 HJN HCV
    generalize (numB S.size).length = m at *
    generalize Go.Lib.bytesWorld w1 5 S = W1 at *
    go_wp2_with fail
    refine HJ1.out.mono ?_
    rintro e w2 ⟨x2, rfl, H2⟩
    have HP1 := hide (HP.out w2 x2 H2.out.1 H2.out.2)
    obtain ⟨a2, c2, rfl, _, _⟩ := H2.out.1.form
    clear H2 HP
    generalize (numB S.size ++ strB S).length = m2 at *
    go_wp2_with fail
    refine HP1.out.mono ?_
    rintro e w3 ⟨rfl, H⟩
    go_wp2
    go_end0
    exact ⟨rfl, H⟩
  · have HC : Hid (txtY S cm = 27) := by unfold txtY; rw [if_neg h, if_neg hu]; rfl
    rw [HC.out]
    have hu' : utf8Ok S = false := by simpa using hu
    rw [hu'] at HU
    have HP := hide (put_none hW hi hbs (numB S.size ++ strB S) (y := 27) (by decide))
    clear hW hi h hu hu'
    go_enter Try.func50, Try.ntmps50
    go_wp2_with fail
    refine HU.out.mono ?_
    rintro e w0 ⟨rfl, rfl⟩
    go_wp2_with fail
    refine HP.out.mono ?_
    rintro e w2 ⟨rfl, H⟩
    go_wp2
    refine bodyPost_ret (v := .tuple #[]) (by simp [results, Try.results50, go_sem]) rfl ⟨rfl, H⟩
end Go.Proofs.Ythbpacilceemlaa
namespace Go.Proofs.Ythbpacilceemlaa
open Go.RowKit Crc

theorem below_drewX {l : Nat} {w w1 : World} (h : Below l w w1) : Below l w w1.drew := ⟨h.os, h.tape, h.output, h.size, h.block⟩
/-- What Bytes shows and tells. -/
def WS.shown (s : WS) : List Nat := if s.sound then s.L else []
def WS.errC (s : WS) : Int := if s.made = true then s.why else 3
def WS.errA (s : WS) : Int := if s.made = true then s.place else 0
theorem WS.errC_not {s : WS} (hs : ¬ s.sound) : s.errC ≠ 0 := by
  unfold WS.errC
  split
  · rename_i h; exact fun h2 => hs ⟨h, h2⟩
  · decide
theorem WS.errC_sound {s : WS} (hs : s.sound) : s.errC = 0 := by unfold WS.errC; rw [if_pos hs.1]; exact hs.2

set_option maxRecDepth 10000 in
theorem wLen_nil (w : World) :
    Calls Try.prog 9 #[.pointer none] w fun e w' => e = .returned (.int .i64 0) ∧ w' = w := by
  go_enter Try.func9, Try.ntmps9
  go_wp2
  go_ret
  exact ⟨rfl, rfl⟩
theorem wLenP {base : Nat} {w : World} {po : Option Addr} {s : WS} (hW : WrP base w po s) :
    Calls Try.prog 9 #[.pointer po] w fun e w' => e = .returned (.int .i64 (s.L.length : Nat)) ∧ w' = w := by
  rcases hW with ⟨rfl, rfl⟩ | ⟨p, rfl, hW⟩
  · exact wLen_nil w
  · exact wLen_any base p s.made s.place s.why s.most s.L w hW

set_option maxRecDepth 10000 in
set_option maxHeartbeats 400000 in
theorem wBytes_nil (w : World) :
    Calls Try.prog 24 #[.pointer none] w fun e w' => ∃ x, e = .returned (.tuple #[.slice none 0 0, x]) ∧ ErrV w' x 3 0 ∧ Below w.heap.size w w' := by
  go_enter Try.func24, Try.ntmps24
  go_wp2_with fail
  refine (refusal_any 0 3 w).mono ?_
  rintro e w1 ⟨v, rfl, hv, hf, hb⟩
  have HF := hide (And.intro hf hb)
  clear hv hf hb
  go_wp2
  go_ret2
  exact ⟨v, rfl, .inr ⟨HF.out.1, by decide⟩, HF.out.2⟩

set_option maxRecDepth 10000 in
set_option maxHeartbeats 400000 in
theorem wBytes_not (base p : Nat) (s : WS) (w : World) (hW : WrS base w p s) (hs : ¬ s.sound) (hz : s.sound → s.place = 0) :
    Calls Try.prog 24 #[.pointer (some ⟨p, 0, none⟩)] w fun e w' => ∃ x, e = .returned (.tuple #[.slice none 0 0, x]) ∧ ErrV w' x s.errC s.errA ∧ Below w.heap.size w w' := by
  obtain ⟨u, hb, hO, hne⟩ := hW
  have c0 := block_cell hb 0
  have c1 := block_cell hb 1
  have c2 := block_cell hb 2
  simp at c0 c1 c2
  have HT := hide (toldF_any p s.made s.place s.why w c0 c1 c2 (fun h1 h2 => hz ⟨h1, h2⟩))
  have HE : Hid (s.errC = (if s.made = true then s.why else 3) ∧ s.errA = (if s.made = true then s.place else 0)) := ⟨rfl, rfl⟩
  rw [← HE.out.1, ← HE.out.2] at HT
  have HN := hide (WS.errC_not hs)
  generalize s.errC = ec at *
  generalize s.errA = ea at *
  clear hb hO hne c0 c1 c2 hz HE hs
  go_enter Try.func24, Try.ntmps24
  go_wp2_with fail
  refine HT.out.mono ?_
  rintro e w1 ⟨v, rfl, hv, hb1⟩
  obtain ⟨g, rfl⟩ := errV_some hv HN.out
  have HF := hide (And.intro hv hb1)
  clear hv hb1
  go_wp2
  go_ret2
  exact ⟨_, rfl, HF.out.1, HF.out.2⟩

theorem wBytesP {base : Nat} {w : World} {po : Option Addr} {s : WS} (hW : WrP base w po s) (hz : s.sound → s.place = 0) :
    Calls Try.prog 24 #[.pointer po] w fun e w' => ∃ v x, e = .returned (.tuple #[v, x]) ∧ Hid (Owns w.heap.size w' v s.shown ∧ ErrV w' x s.errC s.errA ∧ Below w.heap.size w w') := by
  by_cases hs : s.sound
  · obtain ⟨p, rfl, hWp⟩ := wrP_some hW hs
    refine (wBytes_good base p s.place s.most s.L w (wrS_open hWp hs)).mono ?_
    rintro e w' ⟨v, rfl, h1, h2⟩
    refine ⟨v, _, rfl, ?_, .inl ⟨rfl, WS.errC_sound hs, ?_⟩, h2⟩
    · unfold WS.shown; rw [if_pos hs]; exact h1
    · unfold WS.errA; rw [if_pos hs.1]; exact hz hs
  · have hsh : s.shown = [] := by unfold WS.shown; rw [if_neg hs]
    rw [hsh]
    rcases hW with ⟨rfl, rfl⟩ | ⟨p, rfl, hW⟩
    · refine (wBytes_nil w).mono ?_
      rintro e w' ⟨x, rfl, h1, h2⟩
      exact ⟨_, x, rfl, Owns.nil _ _, h1, h2⟩
    · refine (wBytes_not base p s w hW hs hz).mono ?_
      rintro e w' ⟨x, rfl, h1, h2⟩
      exact ⟨_, x, rfl, Owns.nil _ _, h1, h2⟩

set_option maxRecDepth 10000 in
set_option maxHeartbeats 400000 in
theorem refBytes_not {base p : Nat} {w : World} {s : WS} (hW : RefW base w p s) (hs : ¬ s.sound) :
    Calls Try.prog 51 #[.pointer (some ⟨p, 0, none⟩)] w fun e w' => e = .returned (.tuple #[.slice none 0 0, .agg #[.int .i64 s.errC, .int .i64 s.errA]]) ∧ Below w.heap.size w w' := by
  have hp := hW.plt
  obtain ⟨v, hb, hO, hne⟩ := hW
  have c0 := block_cell hb 0
  have c3 := block_cell hb 3
  have c4 := block_cell hb 4
  simp at c0 c3 c4
  have hnp : ¬ w.heap.size = p := by omega
  clear hb hO hne
  by_cases hm : s.made = true
  · have HE : Hid (s.errC = s.why ∧ s.errA = s.place) := by unfold WS.errC WS.errA; rw [if_pos hm, if_pos hm]; exact ⟨rfl, rfl⟩
    have hwy : s.why ≠ 0 := fun h => hs ⟨hm, h⟩
    rw [hm] at c0
    rw [HE.out.1, HE.out.2]
    generalize s.why = y at *
    generalize s.place = a at *
    have hyb : (y == 0) = false := by simp [hwy]
    have hyb' : (y != 0) = true := by simp [hwy]
    have a0 : ∀ o, (w.alloc o).cell? ⟨p, 0, none⟩ = some (.bool true) := fun o => (World.grownBy_alloc w o none).cell c0 (by simp)
    have a3 : ∀ o, (w.alloc o).cell? ⟨p, 3, none⟩ = some (.int .i64 y) := fun o => (World.grownBy_alloc w o none).cell c3 (by simp)
    have a4 : ∀ o, (w.alloc o).cell? ⟨p, 4, none⟩ = some (.int .i64 a) := fun o => (World.grownBy_alloc w o none).cell c4 (by simp)
    clear hm HE hp c0 c3 c4 hs hwy
    go_enter Try.func51, Try.ntmps51
    go_wp2_with fail
    go_region_held (fun w' => w'.cell? ⟨p, 3, none⟩ = some (.int .i64 y) ∧ w'.cell? ⟨p, 4, none⟩ = some (.int .i64 a)) (go_keep) (fail)
    all_goals go_wp2
    all_goals refine bodyPost_ret (v := .tuple #[.slice none 0 0, .agg #[.int .i64 y, .int .i64 a]]) (by simp [results, Try.results51, go_sem]) rfl ⟨rfl, ?_⟩
    all_goals exact below_drewX ((Below.refl _ w).alloc (Nat.le_refl _) _)
  · have hm : s.made = false := by simpa using hm
    have HE : Hid (s.errC = 3 ∧ s.errA = 0) := by unfold WS.errC WS.errA; rw [hm]; exact ⟨rfl, rfl⟩
    rw [hm] at c0
    rw [HE.out.1, HE.out.2]
    have a0 : ∀ o, (w.alloc o).cell? ⟨p, 0, none⟩ = some (.bool false) := fun o => (World.grownBy_alloc w o none).cell c0 (by simp)
    clear hm HE hp c0 c3 c4 hs
    go_enter Try.func51, Try.ntmps51
    go_wp2
    refine bodyPost_ret (v := .tuple #[.slice none 0 0, .agg #[.int .i64 3, .int .i64 0]]) (by simp [results, Try.results51, go_sem]) rfl ⟨rfl, (Below.refl _ w).alloc (Nat.le_refl _) _⟩

set_option maxRecDepth 10000 in
set_option maxHeartbeats 400000 in
theorem refBytes_sound {base p : Nat} {w : World} {s : WS} (hW : RefW base w p s) (hs : s.sound) :
    Calls Try.prog 51 #[.pointer (some ⟨p, 0, none⟩)] w fun e w' => ∃ v, e = .returned (.tuple #[v, .agg #[.int .i64 0, .int .i64 0]]) ∧ Owns w.heap.size w' v s.L ∧ Below w.heap.size w w' := by
  have hp := hW.plt
  obtain ⟨v, hb, hO, hne⟩ := hW
  obtain ⟨ao, cap, rfl, hS, _⟩ := hO.form
  have c0 := block_cell hb 0
  have c2 := block_cell hb 2
  have c3 := block_cell hb 3
  simp at c0 c2 c3
  rw [hs.1] at c0
  rw [hs.2] at c3
  have hnp : ¬ w.heap.size = p := by omega
  have HCP : Hid (Calls Try.prog 54 #[.slice ao s.L.length cap] (w.alloc (.cells #[.int .i64 0, .int .i64 0] 34)) fun e w' => ∃ v, e = .returned v ∧ w'.heap[w.heap.size]? = some (.cells #[.int .i64 0, .int .i64 0] 34 (0, 0)) ∧ Hid (Owns w.heap.size ((w'.setCell ⟨w.heap.size, 0, none⟩ (.int .i64 0)).setCell ⟨w.heap.size, 1, none⟩ (.int .i64 0)) v s.L ∧ Below w.heap.size w ((w'.setCell ⟨w.heap.size, 0, none⟩ (.int .i64 0)).setCell ⟨w.heap.size, 1, none⟩ (.int .i64 0)))) := by
    have hg := World.grownBy_alloc w (.cells #[.int .i64 0, .int .i64 0] 34) none
    refine (copy_any (hS.kept hg (fun g h => by cases h)) hg.size).mono ?_
    rintro e w1 ⟨v, rfl, h1, h2⟩
    rw [show (w.alloc (.cells #[.int .i64 0, .int .i64 0] 34)).heap.size = w.heap.size + 1 by simp] at h1 h2
    have hbk := (h2.block w.heap.size (by omega)).trans (heap_alloc_new w (.cells #[.int .i64 0, .int .i64 0] 34))
    have hf : v.ownBlock ≠ some w.heap.size := fun e => by have := ownx_far h1 _ e; omega
    refine ⟨v, rfl, hbk, ((h1.lower (by omega)).kept (grown_set _ _ _ _) (.inr hf)).kept (grown_set _ _ _ _) (.inr hf), ?_⟩
    exact ((((Below.refl _ w).alloc (Nat.le_refl _) _).trans (h2.mono (by omega))).setCell (p := ⟨w.heap.size, 0, none⟩) (Nat.le_refl _) _).setCell (p := ⟨w.heap.size, 1, none⟩) (Nat.le_refl _) _
  have a0 : ∀ o, (w.alloc o).cell? ⟨p, 0, none⟩ = some (.bool true) := fun o => (World.grownBy_alloc w o none).cell c0 (by simp)
  have a2 : ∀ o, (w.alloc o).cell? ⟨p, 2, none⟩ = some (.slice ao s.L.length cap) := fun o => (World.grownBy_alloc w o none).cell c2 (by simp)
  have a3 : ∀ o, (w.alloc o).cell? ⟨p, 3, none⟩ = some (.int .i64 0) := fun o => (World.grownBy_alloc w o none).cell c3 (by simp)
  clear hb hO hne hS hp c0 c2 c3 hs
  generalize s.L.length = n at *
  go_enter Try.func51, Try.ntmps51
  go_wp2_with fail
  refine HCP.out.mono ?_
  rintro e w1 ⟨v, rfl, hbk, HR⟩
  have k0 := block_cell hbk 0
  have k1 := block_cell hbk 1
  have kf0 := block_free hbk 0
  have kf1 := block_free hbk 1
  simp at k0 k1
  have hb1 := heap_setCell_same w1 w.heap.size 0 _ _ (.int .i64 0) hbk
  have HE0 := hide (block_cell hb1 0)
  have hb2 := heap_setCell_same _ w.heap.size 1 _ _ (.int .i64 0) hb1
  have HE1 := hide (block_cell hb2 1)
  clear hbk hb1 hb2
  go_wp2
  have e0 := HE0.out
  have e1 := HE1.out
  simp at e0 e1
  refine bodyPost_ret (v := .tuple #[v, .agg #[.int .i64 0, .int .i64 0]]) (by simp [results, Try.results51, go_sem, e0, e1, Result.andThen]) rfl ⟨v, rfl, HR.out⟩
end Go.Proofs.Ythbpacilceemlaa
