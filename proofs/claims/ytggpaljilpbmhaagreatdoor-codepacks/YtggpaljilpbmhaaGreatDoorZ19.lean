import Derived.Test.YtggpaljilpbmhaaGreatDoorZ05
import Derived.Test.YtggpaljilpbmhaaGreatDoorZ21
namespace Go.Proofs.YtggpaljilpbmhaaGreatDoor
open Go.RowKit Crc

theorem numGo_ok : ∀ (B : List Nat) (i n : Nat), i ≤ 9 → n < 2 ^ (7 * i) → (numGo B i n).1 < 18446744073709551616 ∧ (numGo B i n).2.1 ≤ i + B.length ∧ (numGo B i n).2.1 ≤ 10 ∧ ((numGo B i n).2.2 ≠ 0 → (numGo B i n).1 = 0 ∧ (numGo B i n).2.1 = 0)
 | [], i, n, hi, hn => by simp [numGo]
 | c :: r, i, n, hi, hn => by
  have hstep : n + c % 128 * 2 ^ (7 * i) < 2 ^ (7 * (i + 1)) := by
   rw [show 7 * (i + 1) = 7 * i + 7 by omega, Nat.pow_add]
   have h2 : c % 128 * 2 ^ (7 * i) ≤ 127 * 2 ^ (7 * i) := Nat.mul_le_mul_right _ (by omega)
   omega
  rw [numGo]
  split
  ·simp
  ·rename_i h9
   split
   ·rename_i h128
    have := numGo_ok r (i + 1) (n + c % 128 * 2 ^ (7 * i)) (by omega) hstep
    refine ⟨this.1, ?_, this.2.2⟩
    have h2 := this.2.1
    simp only [List.length_cons]
    omega
   ·split
    ·simp
    ·refine ⟨?_, by simp only [List.length_cons]; omega, by show i + 1 ≤ 10; omega, fun h => absurd rfl h⟩
     show n + c % 128 * 2 ^ (7 * i) < _
     rcases Nat.lt_or_ge i 9 with h | h
     ·have h1 : 2 ^ (7 * (i + 1)) ≤ 2 ^ 63 := Nat.pow_le_pow_right (by omega) (by omega)
      omega
     ·obtain rfl : i = 9 := by omega
      have : c % 128 ≤ 1 := by omega
      have : c % 128 * 2 ^ (7 * 9) ≤ 1 * 2 ^ (7 * 9) := Nat.mul_le_mul_right _ this
      omega
theorem numAt_ok (B : List Nat) : (numAt B).1 < 18446744073709551616 ∧ (numAt B).2.1 ≤ B.length ∧ (numAt B).2.1 ≤ 10 ∧ ((numAt B).2.2 ≠ 0 → (numAt B).1 = 0 ∧ (numAt B).2.1 = 0) := by
 have := numGo_ok B 0 0 (by omega) (by simp)
 simpa [numAt] using this

/-- A length at the head of bytes. -/
def countAt (B : List Nat) (most : Int) : Nat × Nat × Int :=
 if (numAt B).2.2 ≠ 0 then (0, 0, (numAt B).2.2) else if most < ((numAt B).1 : Int) then (0, 0, 21) else ((numAt B).1, (numAt B).2.1, 0)
set_option maxRecDepth 10000 in
set_option maxHeartbeats 800000 in
theorem countAhead_any {lim : Nat} {w : World} {ao : Option Addr} {n cap : Nat} {B : List Nat} (h : Shows lim w ao n cap B) (most : Int) (hm1 : -9223372036854775808 ≤ most) (hm2 : most < 9223372036854775808) :
  Calls Tryz.prog 167 #[.slice ao n cap, .int .i64 most] w fun e w' => e = .returned (.tuple #[.int .i64 ((countAt B most).1 : Nat), .int .i64 ((countAt B most).2.1 : Nat), .int .i64 (countAt B most).2.2]) ∧ ∃ q, w' = w.drewN q := by
 have HNA := hide (numAhead_any h)
 obtain ⟨k1, k2, k3, _⟩ := numAt_ok B
 have HCA : Hid (countAt B most = if (numAt B).2.2 ≠ 0 then (0, 0, (numAt B).2.2) else if most < ((numAt B).1 : Int) then (0, 0, 21) else ((numAt B).1, (numAt B).2.1, 0)) := rfl
 clear h
 generalize hr : numAt B = r at *
 clear hr
 obtain ⟨x, z, y⟩ := r
 simp only at k1 k2 k3
 by_cases hy : y = 0
 ·subst hy
  by_cases hmx : most < (x : Int)
  ·have HF : Hid (countAt B most = (0, 0, 21)) := by have := HCA.out; simp [hmx] at this; exact this
   clear HCA
   by_cases hm0 : most < 0
   ·have d0 : decide (most < 0) = true := by simp; omega
    go_enter Tryz.func167, Tryz.ntmps167
    go_wp2_with fail
    refine HNA.out.mono ?_
    rintro e w1 ⟨rfl, rfl⟩
    go_wp2
    go_ret3
    exact ⟨by rw [HF.out]; rfl, 0, rfl⟩
   ·have d0 : decide (most < 0) = false := by simp; omega
    have e0 : most % 18446744073709551616 = most := by omega
    have d1 : decide (most < (x : Int)) = true := by simp; omega
    go_enter Tryz.func167, Tryz.ntmps167
    go_wp2_with fail
    refine HNA.out.mono ?_
    rintro e w1 ⟨rfl, rfl⟩
    go_wp2
    go_ret3
    exact ⟨by rw [HF.out]; rfl, 0, rfl⟩
  ·have HF : Hid (countAt B most = (x, z, 0)) := by have := HCA.out; simp [hmx] at this; exact this
   have d0 : decide (most < 0) = false := by simp; omega
   have e0 : most % 18446744073709551616 = most := by omega
   have d1 : decide (most < (x : Int)) = false := by simp; omega
   have hx63 : (x : Int) < 9223372036854775808 := by omega
   clear HCA
   go_enter Tryz.func167, Tryz.ntmps167
   go_wp2_with fail
   refine HNA.out.mono ?_
   rintro e w1 ⟨rfl, rfl⟩
   go_wp2
   go_ret3
   exact ⟨by rw [HF.out]; rfl, 0, rfl⟩
 ·have HF : Hid (countAt B most = (0, 0, y)) := by have := HCA.out; simp [hy] at this; exact this
  have hyb : (y == 0) = false := by simp [hy]
  clear HCA hy
  go_enter Tryz.func167, Tryz.ntmps167
  go_wp2_with fail
  refine HNA.out.mono ?_
  rintro e w1 ⟨rfl, rfl⟩
  go_wp2
  go_ret3
  exact ⟨by rw [HF.out]; rfl, 0, rfl⟩
end Go.Proofs.YtggpaljilpbmhaaGreatDoor
namespace Go.Proofs.YtggpaljilpbmhaaGreatDoor
open Go.RowKit Crc

theorem countAt_ok (B : List Nat) (most : Int) : (countAt B most).2.1 ≤ B.length ∧ (countAt B most).2.1 ≤ 10 ∧ ((countAt B most).2.2 = 0 → 0 ≤ most → ((countAt B most).1 : Int) ≤ most) ∧ ((countAt B most).2.2 = 0 → 0 ≤ most) ∧ ((countAt B most).2.2 ≠ 0 → (countAt B most).1 = 0 ∧ (countAt B most).2.1 = 0) := by
 have h := numAt_ok B
 unfold countAt
 split
 ·rename_i h1; simp [h1]
 ·split
  ·simp
  ·rename_i h2
   refine ⟨h.2.1, h.2.2.1, fun _ _ => ?_, fun _ => ?_, fun h => absurd rfl h⟩
   ·show ((numAt B).1 : Int) ≤ most; omega
   ·omega

/-- A field whose size is no more than what is left may be stepped over. -/
theorem step_fits {lim : Nat} {w : World} {p : Nat} {s : RS} (hR : RdS lim w p s) {z : Nat} (hz : z ≤ s.rest.length) : s.sound → s.pos + z ≤ s.B.length := by
 intro h
 have h3 := rest_len h
 have h4 := hR.pos
 omega

set_option maxRecDepth 10000 in
set_option maxHeartbeats 800000 in
theorem rNum_any (lim p : Nat) (s : RS) (w : World) (hR : RdS lim w p s) :
  Calls Tryz.prog 140 #[.pointer (some ⟨p, 0, none⟩)] w fun e w' => e = .returned (.int .u64 ((numAt s.rest).1 : Nat)) ∧ RdS lim w' p (s.step (numAt s.rest).2.1 (numAt s.rest).2.2) ∧ w.grownBy w' (some p) := by
 have HRS := hide (rest_any lim p s.made s.place s.why s.B s.pos w hR)
 have HST := hide (fun q => step_any lim p s (numAt s.rest).2.1 (numAt s.rest).2.1 (numAt s.rest).2.2 (w.drewN q) (Rd.world hR rfl) rfl (fun h _ => step_fits hR (numAt_ok s.rest).2.1 h))
 clear hR
 go_enter Tryz.func140, Tryz.ntmps140
 go_wp2_with fail
 refine HRS.out.mono ?_
 rintro e w1 ⟨a1, n1, c1, rfl, hs1, q, rfl⟩
 have HS1 := hide (hs1.world (w' := w.drewN q) rfl)
 clear hs1
 go_wp2_with fail
 refine (numAhead_any HS1.out).mono ?_
 rintro e w2 ⟨rfl, rfl⟩
 clear HS1
 go_wp2_with fail
 refine (HST.out q).mono ?_
 rintro e w3 ⟨rfl, hr3, hg3⟩
 go_wp2
 go_ret
 exact ⟨rfl, hr3, grown_from hg3⟩

set_option maxRecDepth 10000 in
set_option maxHeartbeats 800000 in
theorem rCount_any (lim p : Nat) (s : RS) (most : Int) (w : World) (hR : RdS lim w p s) (hm1 : -9223372036854775808 ≤ most) (hm2 : most < 9223372036854775808) :
  Calls Tryz.prog 139 #[.pointer (some ⟨p, 0, none⟩), .int .i64 most] w fun e w' => e = .returned (.int .i64 ((countAt s.rest most).1 : Nat)) ∧ RdS lim w' p (s.step (countAt s.rest most).2.1 (countAt s.rest most).2.2) ∧ w.grownBy w' (some p) := by
 have HRS := hide (rest_any lim p s.made s.place s.why s.B s.pos w hR)
 have HST := hide (fun q => step_any lim p s (countAt s.rest most).2.1 (countAt s.rest most).2.1 (countAt s.rest most).2.2 (w.drewN q) (Rd.world hR rfl) rfl (fun h _ => step_fits hR (countAt_ok s.rest most).1 h))
 clear hR
 go_enter Tryz.func139, Tryz.ntmps139
 go_wp2_with fail
 refine HRS.out.mono ?_
 rintro e w1 ⟨a1, n1, c1, rfl, hs1, q, rfl⟩
 have HS1 : Hid (Shows lim (w.drewN q) a1 n1 c1 s.rest) := hs1.world (w' := w.drewN q) rfl
 clear hs1
 go_wp2_with fail
 refine (countAhead_any HS1.out most hm1 hm2).mono ?_
 rintro e w2 ⟨rfl, q2, rfl⟩
 clear HS1
 go_wp2_with fail
 refine (HST.out _).mono ?_
 rintro e w3 ⟨rfl, hr3, hg3⟩
 go_wp2
 go_ret
 exact ⟨rfl, hr3, grown_from hg3⟩

theorem RdS.kept {lim : Nat} {w w' : World} {p : Nat} {s : RS} {row : Option Nat} (h : RdS lim w p s) (hg : w.grownBy w' row) (hr : ∀ g, row = some g → lim ≤ g ∧ g ≠ p) : RdS lim w' p s := by
 obtain ⟨ao, cap, hb, hS, hp, hl⟩ := h
 exact ⟨ao, cap, (hg.block p (block_lt hb) (fun e => (hr p e.symm).2 rfl)).trans hb, hS.kept hg (fun g e => (hr g e).1), hp, hl⟩
theorem RdS.plt {lim : Nat} {w : World} {p : Nat} {s : RS} (h : RdS lim w p s) : p < w.heap.size := by obtain ⟨ao, cap, hb, hS, hp, hl⟩ := h; exact block_lt hb
theorem copied_sh {lim : Nat} {w : World} {ao : Option Addr} {n cap : Nat} {B : List Nat} (h : Shows lim w ao n cap B) (hlw : lim ≤ w.heap.size) :
  Calls Tryz.prog 87 #[.slice ao n cap] w fun e w' => ∃ v, e = .returned v ∧ (v = .slice none 0 0 ∨ v = .slice (some ⟨w.heap.size, 0, none⟩) n n) ∧ (0 < n → v ≠ .slice none 0 0) ∧ Fresh w w' v B := by
 obtain ⟨h1, h2, h3, h4, b, off, h5, h6, h7⟩ := h
 exact copied_any b off ao B n cap w h5 h1 h3 (fun h => Nat.lt_of_lt_of_le (h6 h) hlw) h7
end Go.Proofs.YtggpaljilpbmhaaGreatDoor
namespace Go.Proofs.YtggpaljilpbmhaaGreatDoor
open Go.RowKit Crc

/-- Nil, or a block's. -/
def NilOr (ao : Option Addr) (cap d n : Nat) : Prop := ao = some ⟨d, 0, none⟩ ∨ ao = none ∧ cap = 0 ∧ n = 0
/-- The reference's reader as it lies: its bytes in block d. -/
def RefS (d : Nat) (w : World) (p : Nat) (s : RS) : Prop :=
 ∃ ao cap, w.heap[p]? = some (.cells #[.bool s.made, .slice ao s.B.length cap, .int .i64 (s.pos : Int), .int .i64 s.why, .int .i64 s.place] 175 (0, 0)) ∧ (s.B.length ≤ cap ∧ NilOr ao cap d s.B.length) ∧ s.B.length ≤ 140737488355328 ∧ (∀ x ∈ s.B, x < 256) ∧ s.pos ≤ s.B.length ∧
  (0 < s.B.length → ao = some ⟨d, 0, none⟩) ∧ (0 < s.B.length → d ≠ p) ∧ ∀ i, i < s.B.length → w.cell? ⟨d, i, none⟩ = some (.int .u8 ((s.B.getD i 0 : Nat) : Int))
theorem RefS.kept {d : Nat} {w w' : World} {p : Nat} {s : RS} {row : Option Nat} (h : RefS d w p s) (hg : w.grownBy w' row) (hp : row ≠ some p) (hd : row ≠ some d) : RefS d w' p s := by
 obtain ⟨ao, cap, hb, h1, h2, h3, h4, h5, h6, h7⟩ := h
 refine ⟨ao, cap, ?_, h1, h2, h3, h4, h5, h6, fun i hi => ?_⟩
 ·rw [hg.block p (block_lt hb) (fun e => hp e.symm)]; exact hb
 ·exact hg.cell (h7 i hi) (fun e => hd e.symm)

set_option maxRecDepth 10000 in
theorem dead_sound (d p : Nat) (s : RS) (w : World) (hR : RefS d w p s) (hs : s.sound) :
  Calls Tryz.prog 134 #[.pointer (some ⟨p, 0, none⟩)] w fun e w' => e = .returned (.bool false) ∧ w' = w := by
 obtain ⟨ao, cap, hb, -⟩ := hR
 have c0 := block_cell hb 0
 have c3 := block_cell hb 3
 simp at c0 c3
 rw [hs.1] at c0
 rw [hs.2] at c3
 clear hb hs
 go_enter Tryz.func134, Tryz.ntmps134
 go_wp2
 go_ret
 exact ⟨rfl, rfl⟩

set_option maxRecDepth 10000 in
theorem dead_not (d p : Nat) (s : RS) (w : World) (hR : RefS d w p s) (hs : ¬ s.sound) :
  Calls Tryz.prog 134 #[.pointer (some ⟨p, 0, none⟩)] w fun e w' => e = .returned (.bool true) ∧ w' = w := by
 obtain ⟨ao, cap, hb, -⟩ := hR
 have c0 := block_cell hb 0
 have c3 := block_cell hb 3
 simp at c0 c3
 clear hb
 unfold RS.sound at hs
 by_cases hm : s.made = true
 ·rw [hm] at c0
  generalize s.why = why at *
  have hwb : (why != 0) = true := by simp; intro h; exact hs ⟨hm, h⟩
  clear hs hm
  go_enter Tryz.func134, Tryz.ntmps134
  go_wp2
  go_ret
  exact ⟨rfl, rfl⟩
 ·have hm : s.made = false := by simpa using hm
  rw [hm] at c0
  clear hm hs c3
  go_enter Tryz.func134, Tryz.ntmps134
  go_wp2
  go_ret
  exact ⟨rfl, rfl⟩

set_option maxRecDepth 10000 in
theorem refLeft_any (d p : Nat) (s : RS) (w : World) (hR : RefS d w p s) (hz : s.made = false → s.B.length = s.pos) :
  Calls Tryz.prog 96 #[.pointer (some ⟨p, 0, none⟩)] w fun e w' => e = .returned (.int .i64 ((s.B.length - s.pos : Nat) : Int)) ∧ ∃ q, w' = w.drewN q := by
 obtain ⟨ao, cap, hb, h1, h2, h3, h4, -⟩ := hR
 have c0 := block_cell hb 0
 have c1 := block_cell hb 1
 have c2 := block_cell hb 2
 simp at c0 c1 c2
 clear hb h1
 have HE : Hid ((s.B.length : Int) - (s.pos : Int) = ((s.B.length - s.pos : Nat) : Int)) := by show _ = _; omega
 by_cases hm : s.made = true
 ·rw [hm] at c0
  clear hz hm
  generalize s.B.length = n at *
  generalize s.pos = pos at *
  have h0 : (pos : Int) ≤ (n : Int) := by omega
  go_enter Tryz.func96, Tryz.ntmps96
  go_wp2_with fail
  go_quiet (fail)
  go_wp2
  go_ret
  exact ⟨by rw [← HE.out]; rfl, _, rfl⟩
 ·have hm : s.made = false := by simpa using hm
  have hz := hz hm
  rw [hm] at c0
  have HZ : Hid (s.B.length - s.pos = 0) := by show _ = _; omega
  clear hz hm
  go_enter Tryz.func96, Tryz.ntmps96
  go_wp2
  go_ret
  exact ⟨by rw [HZ.out]; rfl, 0, rfl⟩

set_option maxRecDepth 10000 in
theorem refFail_any (d p : Nat) (s : RS) (code : Int) (at_ : Nat) (w : World) (hR : RefS d w p s) (ha : at_ ≤ s.B.length) :
  Calls Tryz.prog 135 #[.pointer (some ⟨p, 0, none⟩), .int .i64 code, .int .i64 (at_ : Int)] w fun e w' => e = .returned (.tuple #[]) ∧ RefS d w' p { s with why := code, place := at_, pos := at_ } ∧ w.grownBy w' (some p) := by
 obtain ⟨ao, cap, hb, h1, h2, h3, h4, h5, h6, h7⟩ := hR
 have f2 := block_free hb 2
 have f3 := block_free hb 3
 have f4 := block_free hb 4
 have c2 := block_cell hb 2
 have c3 := block_cell hb 3
 have c4 := block_cell hb 4
 simp at c2 c3 c4
 have HF : Hid (RefS d (((w.setCell ⟨p, 2, none⟩ (.int .i64 (at_ : Int))).setCell ⟨p, 3, none⟩ (.int .i64 code)).setCell ⟨p, 4, none⟩ (.int .i64 (at_ : Int))) p { s with why := code, place := at_, pos := at_ } ∧ w.grownBy (((w.setCell ⟨p, 2, none⟩ (.int .i64 (at_ : Int))).setCell ⟨p, 3, none⟩ (.int .i64 code)).setCell ⟨p, 4, none⟩ (.int .i64 (at_ : Int))) (some p)) := by
  have hg : w.grownBy (((w.setCell ⟨p, 2, none⟩ (.int .i64 (at_ : Int))).setCell ⟨p, 3, none⟩ (.int .i64 code)).setCell ⟨p, 4, none⟩ (.int .i64 (at_ : Int))) (some p) := grown_trans (row := some p) (grown_trans (row := some p) (grown_set w _ _ _) (grown_set _ _ _ _)) (grown_set _ _ _ _)
  refine ⟨⟨ao, cap, ?_, h1, h2, h3, ha, h5, h6, fun i hi => ?_⟩, hg⟩
  ·have hb1 : (w.setCell ⟨p, 2, none⟩ (.int .i64 (at_ : Int))).heap[p]? = some (.cells #[.bool s.made, .slice ao s.B.length cap, .int .i64 (at_ : Int), .int .i64 s.why, .int .i64 s.place] 175 (0, 0)) := by
    rw [heap_setCell_same w p 2 _ _ _ hb]; simp
   have hb2 : ((w.setCell ⟨p, 2, none⟩ (.int .i64 (at_ : Int))).setCell ⟨p, 3, none⟩ (.int .i64 code)).heap[p]? = some (.cells #[.bool s.made, .slice ao s.B.length cap, .int .i64 (at_ : Int), .int .i64 code, .int .i64 s.place] 175 (0, 0)) := by
    rw [heap_setCell_same _ p 3 _ _ _ hb1]; simp
   rw [heap_setCell_same _ p 4 _ _ _ hb2]; simp
  ·exact hg.cell (h7 i hi) (fun e => h6 (by simp only at hi; omega) (by cases e; rfl))
 clear hb h1 h2 h3 h4 h5 h6 h7 ha
 go_enter Tryz.func135, Tryz.ntmps135
 go_wp2
 go_end0
 exact ⟨rfl, HF.out⟩
end Go.Proofs.YtggpaljilpbmhaaGreatDoor
namespace Go.Proofs.YtggpaljilpbmhaaGreatDoor
open Go.RowKit Crc

theorem RefS.world {d : Nat} {w w' : World} {p : Nat} {s : RS} (h : RefS d w p s) (he : w'.heap = w.heap) : RefS d w' p s := by
 obtain ⟨ao, cap, hb, h1, h2, h3, h4, h5, h6, h7⟩ := h
 refine ⟨ao, cap, by rw [he]; exact hb, h1, h2, h3, h4, h5, h6, fun i hi => ?_⟩
 exact (World.cell?_of_block (w := w) (w' := w') (a := ⟨d, i, none⟩) (by rw [he])).trans (h7 i hi)
theorem RefS.posle {d : Nat} {w : World} {p : Nat} {s : RS} (h : RefS d w p s) : s.pos ≤ s.B.length := by obtain ⟨ao, cap, hb, h1, h2, h3, h4, _⟩ := h; exact h4
/-- The place moved on. -/
theorem RefS.moved {d : Nat} {w : World} {p : Nat} {s : RS} (h : RefS d w p s) (k : Nat) (hk : s.pos + k ≤ s.B.length) :
  RefS d (w.setCell ⟨p, 2, none⟩ (.int .i64 ((s.pos : Int) + (k : Int)))) p { s with pos := s.pos + k } ∧ w.grownBy (w.setCell ⟨p, 2, none⟩ (.int .i64 ((s.pos : Int) + (k : Int)))) (some p) := by
 obtain ⟨ao, cap, hb, h1, h2, h3, h4, h5, h6, h7⟩ := h
 refine ⟨⟨ao, cap, ?_, h1, h2, h3, hk, h5, h6, fun i hi => ?_⟩, grown_set _ _ _ _⟩
 ·rw [heap_setCell_same w p 2 _ _ _ hb]; simp
 ·exact (grown_set w p 2 _).cell (h7 i hi) (fun e => h6 (by simp only at hi; omega) (by cases e; rfl))

theorem wrap64_nat {n : Nat} (h : n < 9223372036854775808) : IntKind.i64.wrap (n : Int) = (n : Int) := by
 have h1 : (n : Int) < 9223372036854775808 := by omega
 simp [IntKind.wrap, IntKind.bits, IntKind.signed]
 omega
theorem wrapu64_nat {n : Nat} (h : n < 18446744073709551616) : IntKind.u64.wrap (n : Int) = (n : Int) := by
 have h1 : (n : Int) < 18446744073709551616 := by omega
 simp [IntKind.wrap, IntKind.bits, IntKind.signed]
 omega

set_option maxRecDepth 10000 in
set_option maxHeartbeats 1600000 in
theorem refFixed_any (d p : Nat) (s : RS) (k : Nat) (ki : Int) (w : World) (hki : ki = (k : Int)) (hk : 0 < k) (hk8 : k ≤ 8) (hR : RefS d w p s) :
  Calls Tryz.prog 93 #[.pointer (some ⟨p, 0, none⟩), .int .i64 ki] w fun e w' => e = .returned (.int .u64 (hi (aheadV s.rest k) : Nat)) ∧ RefS d w' p (s.step k (aheadW s.rest k)) ∧ w.grownBy w' (some p) := by
 subst hki
 by_cases hs : s.sound
 ·have HDD := hide (dead_sound d p s w hR hs)
  have HLE := hide (refLeft_any d p s w hR (fun h => by rw [hs.1] at h; cases h))
  have hpl := hR.posle
  have hrest : s.rest = s.B.drop s.pos := by unfold RS.rest restB; rw [if_pos (show s.made = true ∧ s.why = 0 from hs)]
  by_cases hsh : s.B.length - s.pos < k
  ·have HE : Hid (hi (aheadV s.rest k) = 0 ∧ aheadW s.rest k = 20) := by
    have : s.rest.length < k := by rw [hrest, List.length_drop]; exact hsh
    exact ⟨by unfold aheadV; rw [if_pos this]; rfl, by unfold aheadW; rw [if_pos this]⟩
   have HS : Hid (s.step k 20 = { s with why := 20, place := s.pos, pos := s.pos }) := by unfold RS.step; rw [if_pos hs]; rfl
   have HFA := hide (fun q => refFail_any d p s 20 s.pos (w.drewN q) (hR.world rfl) hpl)
   obtain ⟨ao, cap, hb, -⟩ := hR
   have c2 := block_cell hb 2
   simp at c2
   have HL : Hid (((s.B.length - s.pos : Nat) : Int) < (k : Int)) := by show _ < _; omega
   generalize hm : s.B.length - s.pos = m at *
   have h1 := HL.out
   generalize hq : s.pos = pos at *
   clear hb hrest hsh hs hpl hm
   go_enter Tryz.func93, Tryz.ntmps93
   go_wp2_with fail
   refine HDD.out.mono ?_
   rintro e w1 ⟨rfl, rfl⟩
   go_wp2_with fail
   refine HLE.out.mono ?_
   rintro e w1 ⟨rfl, q, rfl⟩
   go_wp2_with fail
   refine (HFA.out q).mono ?_
   rintro e w2 ⟨rfl, h5, h6⟩
   go_wp2
   go_ret
   refine ⟨by rw [HE.out.1]; rfl, ?_, grown_from h6⟩
   rw [HE.out.2, HS.out]
   exact h5
  ·have hnl : ¬ s.rest.length < k := by rw [hrest, List.length_drop]; exact hsh
   have HE : Hid (aheadV s.rest k = (s.B.drop s.pos).take k ∧ aheadW s.rest k = 0) := by
    exact ⟨by unfold aheadV; rw [if_neg hnl, hrest], by unfold aheadW; rw [if_neg hnl]⟩
   have HS : Hid (s.step k 0 = { s with pos := s.pos + k }) := by unfold RS.step; rw [if_pos hs]; rfl
   have HMV := hide (fun q => (hR.world (w' := w.drewN q) rfl).moved k (by omega))
   have HB : Hid (∀ x ∈ s.B, x < 256) := by obtain ⟨ao, cap, hb, h1, h2, h3, -⟩ := hR; exact h3
   obtain ⟨ao, cap, hb, h1, h2, h3, h4, h5, h6, h7⟩ := hR
   obtain rfl := h5 (by omega)
   have HC := hide h7
   have c1 := block_cell hb 1
   have c2 := block_cell hb 2
   have f2 := block_free hb 2
   simp at c1 c2
   have HLn := hide (show s.pos + k ≤ s.B.length by omega)
   have hL : ¬ (((s.B.length - s.pos : Nat) : Int) < (k : Int)) := by omega
   have hn47 : (s.B.length : Int) ≤ 140737488355328 := by omega
   have hpk : (s.pos : Int) + (k : Int) ≤ (s.B.length : Int) := by omega
   generalize hm : s.B.length - s.pos = m at *
   clear hb hrest hsh hs hpl hm h1 h2 h3 h4 h5 h6 h7 hnl
   go_enter Tryz.func93, Tryz.ntmps93
   go_wp2_with fail
   refine HDD.out.mono ?_
   rintro e wa ⟨rfl, rfl⟩
   go_wp2_with fail
   refine HLE.out.mono ?_
   rintro e w1 ⟨rfl, q, rfl⟩
   go_wp2_with fail
   go_loopw [5, 6] (fun v i wr => ∃ j x q : Nat, j ≤ k ∧ i = .int .i64 j ∧ v = .int .u64 x ∧ wr = wa.drewN q ∧ Hid (x = hi ((s.B.drop s.pos).take j))) (fun _ i _ => k - (intOf i).toNat)
   case atStart => exact ⟨0, 0, q, Nat.zero_le _, rfl, rfl, rfl, by show _ = _; simp [hi]⟩
   case round =>
    obtain ⟨j, x, q, hj, rfl, rfl, rfl, HX⟩ := hrel
    by_cases hlt : j < k
    ·have hcj := HC.out (s.pos + j) (by have := HLn.out; omega)
     have hcb : s.B.getD (s.pos + j) 0 < 256 := getD_lt s.B HB.out _
     have hst := hi_step (s.B.drop s.pos) j (by rw [List.length_drop]; have := HLn.out; omega)
     rw [← HX.out] at hst
     have hgd : (s.B.drop s.pos).getD j 0 = s.B.getD (s.pos + j) 0 := by rw [List.getD_eq_getElem?_getD, List.getElem?_drop, ← List.getD_eq_getElem?_getD]
     rw [hgd] at hst
     obtain ⟨c, hcd⟩ : ∃ c, c = s.B.getD (s.pos + j) 0 := ⟨_, rfl⟩
     rw [← hcd] at hcj hcb hst
     have hxl : x < 72057594037927936 := by
      have h1 := hi_lt ((s.B.drop s.pos).take j) (fun x hx => HB.out x (List.mem_of_mem_drop (List.mem_of_mem_take hx)))
      rw [← HX.out, List.length_take] at h1
      have h2 : 256 ^ min j (s.B.drop s.pos).length ≤ 256 ^ 7 := Nat.pow_le_pow_right (by omega) (by omega)
      omega
     have HS1 : Hid (x * 256 + c = hi ((s.B.drop s.pos).take (j + 1))) := hst.symm
     have hEl : ((s.pos + j : Nat) : Int) < (s.B.length : Int) := by have := HLn.out; omega
     have he : IntKind.i64.wrap ((s.pos : Int) + (j : Int)) = ((s.pos + j : Nat) : Int) := by rw [← Int.natCast_add]; exact wrap64_nat (by omega)
     have hx1 : IntKind.u64.wrap ((x : Int) * 256) = ((x * 256 : Nat) : Int) := by rw [show (x : Int) * 256 = ((x * 256 : Nat) : Int) by omega]; exact wrapu64_nat (by omega)
     have hx2 : IntKind.u64.wrap (((x * 256 : Nat) : Int) + (c : Int)) = ((x * 256 + c : Nat) : Int) := by rw [← Int.natCast_add]; exact wrapu64_nat (by omega)
     have hcp : IntKind.u64.wrap (c : Int) = (c : Int) := wrapu64_nat (by omega)
     generalize hE : s.pos + j = E at *
     generalize hX : x * 256 = X at *
     generalize hY : X + c = Y at *
     have HY := hide hY
     clear hst hcd HX hgd hE hX hY
     have hji : (j : Int) < (k : Int) := by omega
     have hcc : (c : Int) < 256 := by omega
     go_wp2_with fail
     go_quiet (fail)
     go_wp2
     go_roundw
     case rel => exact ⟨j + 1, Y, _, by omega, by go_num, rfl, rfl, HS1⟩
     case measure => simp [intOf]; omega
    ·obtain rfl : j = k := by omega
     have HFX : Hid (x = hi (aheadV s.rest j)) := by
      show _ = _
      rw [HX.out, HE.out.1]
     have HMQ := hide (HMV.out q)
     have hpk2 : (s.pos : Int) + (j : Int) ≤ 140737488355328 := by omega
     clear HX HC HMV
     go_wp2
     go_ret
     refine ⟨by rw [← HFX.out]; rfl, ?_, grown_from HMQ.out.2⟩
     rw [HE.out.2, HS.out]
     exact HMQ.out.1
 ·have HDD := hide (dead_not d p s w hR hs)
  have HE : Hid (hi (aheadV s.rest k) = 0 ∧ ∀ y, s.step k y = s) := by
   have hrest : s.rest = [] := restB_sound hs
   refine ⟨?_, fun y => by unfold RS.step; rw [if_neg hs]⟩
   rw [hrest]
   unfold aheadV
   split <;> simp [hi]
  have HR := hide hR
  clear hR hs
  go_enter Tryz.func93, Tryz.ntmps93
  go_wp2_with fail
  refine HDD.out.mono ?_
  rintro e wa ⟨rfl, rfl⟩
  go_wp2
  go_ret
  refine ⟨by rw [HE.out.1]; rfl, ?_, ⟨rfl, rfl, rfl, Nat.le_refl _, fun _ _ _ => rfl⟩⟩
  rw [HE.out.2]
  exact HR.out
end Go.Proofs.YtggpaljilpbmhaaGreatDoor
