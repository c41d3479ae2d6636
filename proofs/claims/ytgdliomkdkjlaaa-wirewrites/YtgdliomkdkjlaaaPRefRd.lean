import Derived.Test.YtgdliomkdkjlaaaPReaderF
import Derived.Test.YtgdliomkdkjlaaaPCopy
namespace Go.Proofs.Ytgdliomkdkjlaaa
open Go.RowKit Crc

/-- Nil, or a block's. -/
def NilOr (ao : Option Addr) (cap d n : Nat) : Prop := ao = some ⟨d, 0, none⟩ ∨ ao = none ∧ cap = 0 ∧ n = 0
/-- The reference's reader as it lies: its bytes in block d. -/
def RefS (d : Nat) (w : World) (p : Nat) (s : RS) : Prop :=
  ∃ ao cap, w.heap[p]? = some (.cells #[.bool s.made, .slice ao s.B.length cap, .int .i64 (s.pos : Int), .int .i64 s.why, .int .i64 s.place] 48 (0, 0)) ∧ (s.B.length ≤ cap ∧ NilOr ao cap d s.B.length) ∧ s.B.length ≤ 140737488355328 ∧ (∀ x ∈ s.B, x < 256) ∧ s.pos ≤ s.B.length ∧
    (0 < s.B.length → ao = some ⟨d, 0, none⟩) ∧ (0 < s.B.length → d ≠ p) ∧ ∀ i, i < s.B.length → w.cell? ⟨d, i, none⟩ = some (.int .u8 ((s.B.getD i 0 : Nat) : Int))
theorem RefS.kept {d : Nat} {w w' : World} {p : Nat} {s : RS} {row : Option Nat} (h : RefS d w p s) (hg : w.grownBy w' row) (hp : row ≠ some p) (hd : row ≠ some d) : RefS d w' p s := by
  obtain ⟨ao, cap, hb, h1, h2, h3, h4, h5, h6, h7⟩ := h
  refine ⟨ao, cap, ?_, h1, h2, h3, h4, h5, h6, fun i hi => ?_⟩
  · rw [hg.block p (block_lt hb) (fun e => hp e.symm)]; exact hb
  · exact hg.cell (h7 i hi) (fun e => hd e.symm)

set_option maxRecDepth 10000 in
theorem dead_sound (d p : Nat) (s : RS) (w : World) (hR : RefS d w p s) (hs : s.sound) :
    Calls Try.prog 85 #[.pointer (some ⟨p, 0, none⟩)] w fun e w' => e = .returned (.bool false) ∧ w' = w := by
  obtain ⟨ao, cap, hb, -⟩ := hR
  have c0 := block_cell hb 0
  have c3 := block_cell hb 3
  simp at c0 c3
  rw [hs.1] at c0
  rw [hs.2] at c3
  clear hb hs
  go_enter Try.func85, Try.ntmps85
  go_wp2
  go_ret
  exact ⟨rfl, rfl⟩

set_option maxRecDepth 10000 in
theorem dead_not (d p : Nat) (s : RS) (w : World) (hR : RefS d w p s) (hs : ¬ s.sound) :
    Calls Try.prog 85 #[.pointer (some ⟨p, 0, none⟩)] w fun e w' => e = .returned (.bool true) ∧ w' = w := by
  obtain ⟨ao, cap, hb, -⟩ := hR
  have c0 := block_cell hb 0
  have c3 := block_cell hb 3
  simp at c0 c3
  clear hb
  unfold RS.sound at hs
  by_cases hm : s.made = true
  · rw [hm] at c0
    generalize s.why = why at *
    have hwb : (why != 0) = true := by simp; intro h; exact hs ⟨hm, h⟩
    clear hs hm
    go_enter Try.func85, Try.ntmps85
    go_wp2
    go_ret
    exact ⟨rfl, rfl⟩
  · have hm : s.made = false := by simpa using hm
    rw [hm] at c0
    clear hm hs c3
    go_enter Try.func85, Try.ntmps85
    go_wp2
    go_ret
    exact ⟨rfl, rfl⟩

set_option maxRecDepth 10000 in
theorem refLeft_any (d p : Nat) (s : RS) (w : World) (hR : RefS d w p s) (hz : s.made = false → s.B.length = s.pos) :
    Calls Try.prog 63 #[.pointer (some ⟨p, 0, none⟩)] w fun e w' => e = .returned (.int .i64 ((s.B.length - s.pos : Nat) : Int)) ∧ ∃ q, w' = w.drewN q := by
  obtain ⟨ao, cap, hb, h1, h2, h3, h4, -⟩ := hR
  have c0 := block_cell hb 0
  have c1 := block_cell hb 1
  have c2 := block_cell hb 2
  simp at c0 c1 c2
  clear hb h1
  have HE : Hid ((s.B.length : Int) - (s.pos : Int) = ((s.B.length - s.pos : Nat) : Int)) := by show _ = _; omega
  by_cases hm : s.made = true
  · rw [hm] at c0
    clear hz hm
    generalize s.B.length = n at *
    generalize s.pos = pos at *
    have h0 : (pos : Int) ≤ (n : Int) := by omega
    go_enter Try.func63, Try.ntmps63
    go_wp2_with fail
    go_quiet (fail)
    go_wp2
    go_ret
    exact ⟨by rw [← HE.out]; rfl, _, rfl⟩
  · have hm : s.made = false := by simpa using hm
    have hz := hz hm
    rw [hm] at c0
    have HZ : Hid (s.B.length - s.pos = 0) := by show _ = _; omega
    clear hz hm
    go_enter Try.func63, Try.ntmps63
    go_wp2
    go_ret
    exact ⟨by rw [HZ.out]; rfl, 0, rfl⟩

set_option maxRecDepth 10000 in
theorem refFail_any (d p : Nat) (s : RS) (code : Int) (at_ : Nat) (w : World) (hR : RefS d w p s) (ha : at_ ≤ s.B.length) :
    Calls Try.prog 86 #[.pointer (some ⟨p, 0, none⟩), .int .i64 code, .int .i64 (at_ : Int)] w fun e w' => e = .returned (.tuple #[]) ∧ RefS d w' p { s with why := code, place := at_, pos := at_ } ∧ w.grownBy w' (some p) := by
  obtain ⟨ao, cap, hb, h1, h2, h3, h4, h5, h6, h7⟩ := hR
  have f2 := block_free hb 2
  have f3 := block_free hb 3
  have f4 := block_free hb 4
  have c2 := block_cell hb 2
  have c3 := block_cell hb 3
  have c4 := block_cell hb 4
  simp at c2 c3 c4
  have HF : Hid (RefS d (((w.setCell ⟨p, 2, none⟩ (.int .i64 (at_ : Int))).setCell ⟨p, 3, none⟩ (.int .i64 code)).setCell ⟨p, 4, none⟩ (.int .i64 (at_ : Int))) p { s with why := code, place := at_, pos := at_ } ∧ w.grownBy (((w.setCell ⟨p, 2, none⟩ (.int .i64 (at_ : Int))).setCell ⟨p, 3, none⟩ (.int .i64 code)).setCell ⟨p, 4, none⟩ (.int .i64 (at_ : Int))) (some p)) := by
    have hg : w.grownBy (((w.setCell ⟨p, 2, none⟩ (.int .i64 (at_ : Int))).setCell ⟨p, 3, none⟩ (.int .i64 code)).setCell ⟨p, 4, none⟩ (.int .i64 (at_ : Int))) (some p) := grown_trans (row := some p) (grown_trans (row := some p) (grown_set w _ _ _) (grown_set _ _ _ _)) (grown_set _ _ _ _)
    refine ⟨⟨ao, cap, ?_, h1, h2, h3, ha, h5, h6, fun i hi => ?_⟩, hg⟩
    · have hb1 : (w.setCell ⟨p, 2, none⟩ (.int .i64 (at_ : Int))).heap[p]? = some (.cells #[.bool s.made, .slice ao s.B.length cap, .int .i64 (at_ : Int), .int .i64 s.why, .int .i64 s.place] 48 (0, 0)) := by
        rw [heap_setCell_same w p 2 _ _ _ hb]; simp
      have hb2 : ((w.setCell ⟨p, 2, none⟩ (.int .i64 (at_ : Int))).setCell ⟨p, 3, none⟩ (.int .i64 code)).heap[p]? = some (.cells #[.bool s.made, .slice ao s.B.length cap, .int .i64 (at_ : Int), .int .i64 code, .int .i64 s.place] 48 (0, 0)) := by
        rw [heap_setCell_same _ p 3 _ _ _ hb1]; simp
      rw [heap_setCell_same _ p 4 _ _ _ hb2]; simp
    · exact hg.cell (h7 i hi) (fun e => h6 (by simp only at hi; omega) (by cases e; rfl))
  clear hb h1 h2 h3 h4 h5 h6 h7 ha
  go_enter Try.func86, Try.ntmps86
  go_wp2
  go_end0
  exact ⟨rfl, HF.out⟩
end Go.Proofs.Ytgdliomkdkjlaaa
