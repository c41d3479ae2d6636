import Derived.Test.YtggpaljilpbmhaaGreatDoorY23
import Derived.Test.YtggpaljilpbmhaaGreatDoorY17
namespace Go.Proofs.YtggpaljilpbmhaaGreatDoor
open Go.RowKit

section
variable {c : Mc} {mb : Nat} {s : Ms} {w : World}
/-- What a step of a machine does to memory. -/
def Gm (c : Mc) (mb : Nat) (s : Ms) (w w' : World) : Prop := Pm c mb s w' ∧ w.grownBy w' (some mb)
theorem fldN (k n : Int) (w : World) : (Instr.field 134 (.agg #[.int .i64 k, .int .u64 n]) 1).run Tryz.prog w = .ok (.int .u64 n) w := by kernel_rfl
theorem grown_below {w' : World} (hb : Below w.heap.size w w') : w.grownBy w' (some mb) := ⟨hb.os, hb.tape, hb.output, hb.size, fun k hk _ => hb.block k hk⟩
theorem grown_up {w1 w2 : World} {r : Option Nat} {v : Nat} (h1 : w.grownBy w1 r) (h2 : w1.grownBy w2 (some v)) (hv : w.heap.size ≤ v) : w.grownBy w2 r := ⟨h2.os.trans h1.os, h2.tape.trans h1.tape, h2.output.trans h1.output, Nat.le_trans h1.size h2.size, fun k hk hr => (h2.block k (Nat.lt_of_lt_of_le hk h1.size) (by simp; omega)).trans (h1.block k hk hr)⟩
theorem Gm.trans {s1 s2 : Ms} {w1 w2 : World} (h1 : Gm c mb s1 w w1) (h2 : Gm c mb s2 w1 w2) : Gm c mb s2 w w2 := ⟨h2.1, grown_tr h1.2 h2.2⟩
set_option maxRecDepth 10000 in
set_option maxHeartbeats 1600000 in
theorem numberC (n : Int) (w : World) : Calls Tryz.prog 71 #[.int .u64 n] w fun e w' => e = .returned (.agg #[.int .i64 0, .int .u64 n]) ∧ Hid (Below w.heap.size w w') := by
 have HB := hide (below_alloc1 w (.cells #[.int .i64 0, .int .u64 n] 134))
 go_enter Tryz.func71, Tryz.ntmps71
 go_wp2
 refine bodyPost_ret (v := .agg #[.int .i64 0, .int .u64 n]) (by simp [results, Tryz.results71, go_sem]) rfl ?_
 exact ⟨rfl, HB⟩
set_option maxRecDepth 10000 in
set_option maxHeartbeats 1600000 in
theorem truthC (b : Bool) (w : World) : Calls Tryz.prog 72 #[.bool b] w fun e w' => e = .returned (.agg #[.int .i64 1, .int .u64 (bI b)]) ∧ Hid (Below w.heap.size w w') := by
 have HB := hide (below_alloc1 w (.cells #[.int .i64 1, .int .u64 (bI b)] 134))
 cases b with
 | true =>
  go_enter Tryz.func72, Tryz.ntmps72
  go_wp2
  refine bodyPost_ret (v := .agg #[.int .i64 1, .int .u64 (bI true)]) (by simp [results, Tryz.results72, go_sem, bI]) rfl ?_
  exact ⟨rfl, HB⟩
 | false =>
  go_enter Tryz.func72, Tryz.ntmps72
  go_wp2
  refine bodyPost_ret (v := .agg #[.int .i64 1, .int .u64 (bI false)]) (by simp [results, Tryz.results72, go_sem, bI]) rfl ?_
  exact ⟨rfl, HB⟩
set_option maxRecDepth 10000 in
set_option maxHeartbeats 1600000 in
theorem stopC (h : Pm c mb s w) (e0 : Int) : Calls Tryz.prog 69 #[.pointer (some ⟨mb, 0, none⟩), .int .i64 e0] w fun e w' => e = .returned (.tuple #[]) ∧ Hid (Gm c mb (s.stop e0) w w') := by
 have c1 := h.cell (i := 411) (by decide)
 have f1 := h.free 411
 have c2 := h.cell (i := 412) (by decide)
 have f2 := h.free 412
 have c3 := h.cell (i := 406) (by decide)
 have f3 := h.free 406
 have hl := h.lt
 have H : Hid (Gm c mb (s.stop e0) w (((w.setCell ⟨mb, 411, none⟩ (.bool true)).setCell ⟨mb, 412, none⟩ (.int .i64 e0)).setCell ⟨mb, 406, none⟩ (.int .i64 (-1)))) := by
  have h1 := h.set (fc_ov true)
  have h2 := h1.set (fc_en e0)
  have h3 := h2.set (fc_pc (-1))
  exact ⟨h3, grown_tr (grown_tr (grown_setT w _ _ _) (grown_setT _ _ _ _)) (grown_setT _ _ _ _)⟩
 clear h
 generalize fcell c s 411 = u1 at *
 generalize fcell c s 412 = u2 at *
 generalize fcell c s 406 = u3 at *
 go_enter Tryz.func69, Tryz.ntmps69
 go_wp2
 go_end0
 exact ⟨rfl, H⟩
set_option maxRecDepth 10000 in
set_option maxHeartbeats 1600000 in
theorem layC (h : Pm c mb s w) (hh64 : s.h < 64) (k n : Int) : Calls Tryz.prog 70 #[.pointer (some ⟨mb, 0, none⟩), .agg #[.int .i64 k, .int .u64 n]] w fun e w' => e = .returned (.tuple #[]) ∧ Hid (Gm c mb (s.push k n) w w') := by
 obtain ⟨W1, hW1⟩ : ∃ W1, w.alloc (.cells #[.int .i64 k, .int .u64 n] 134) = W1 := ⟨_, rfl⟩
 have B1 : Below w.heap.size w W1 := by rw [← hW1]; exact below_alloc1 w _
 have A1 : W1.heap[w.heap.size]? = some (.cells #[.int .i64 k, .int .u64 n] 134 (0, 0)) := by rw [← hW1]; exact alloc_atK _ _
 have v0 := block_cell A1 0
 have v1 := block_cell A1 1
 have vl := block_lt A1
 simp at v0 v1
 have h1 := h.below B1
 have HP : Hid (Gm c mb s w W1.drew) := ⟨h1.below (Below.refl _ _).drew, grown_below (B1.drew)⟩
 have c1 : W1.cell? ⟨mb, 405, none⟩ = some (.int .i64 (s.h : Nat)) := h1.cell (i := 405) (by decide)
 have s0 := h1.cell (i := 277 + s.h * 2) (by omega)
 have s1 := h1.cell (i := 277 + s.h * 2 + 1) (by omega)
 rw [(fc_stk hh64).1] at s0
 rw [(fc_stk hh64).2] at s1
 have f0 := h1.free (277 + s.h * 2)
 have f1 := h1.free (277 + s.h * 2 + 1)
 have ml := h1.lt
 have HN : Hid (∀ wz, W1.drew = wz → Gm c mb { s with sk := updI s.sk s.h k, sv := updI s.sv s.h n } w ((wz.setCell ⟨mb, 277 + s.h * 2, none⟩ (.int .i64 k)).setCell ⟨mb, 277 + s.h * 2 + 1, none⟩ (.int .u64 n))) := fun wz e => by
  rw [← e]
  exact ⟨HP.out.1.lay hh64 k n, grown_tr (grown_tr HP.out.2 (grown_setT _ _ _ _)) (grown_setT _ _ _ _)⟩
 have HW1 := hide hW1
 clear h h1 B1 A1 hW1 HP
 obtain ⟨hh, hhe⟩ : ∃ hh, s.h = hh := ⟨_, rfl⟩
 have HE := hide hhe
 generalize s.sk s.h = x0 at *
 generalize s.sv s.h = x1 at *
 rw [hhe] at c1 s0 s1 f0 f1 HN hh64
 clear hhe
 go_enter Tryz.func70, Tryz.ntmps70
 go_upto_region 1 with fail
 rw [HW1.out]
 clear HW1
 generalize w.heap.size = vb at *
 obtain ⟨wz, hwz⟩ : ∃ wz, (W1).drew = wz := ⟨_, rfl⟩
 have HS9 : Hid ((fun (w : World) => w.cell? ⟨mb, 405, none⟩ = some (.int .i64 (hh : Nat)) ∧ mb < w.heap.size ∧ w.cell? ⟨vb, 0, none⟩ = some (.int .i64 k) ∧ w.cell? ⟨vb, 1, none⟩ = some (.int .u64 n) ∧ vb < w.heap.size ∧ w.cell? ⟨mb, 277 + hh * 2, none⟩ = some (.int .i64 x0) ∧ w.cell? ⟨mb, 277 + hh * 2 + 1, none⟩ = some (.int .u64 x1) ∧ w.frozen? ⟨mb, 277 + hh * 2, none⟩ = false ∧ w.frozen? ⟨mb, 277 + hh * 2 + 1, none⟩ = false) wz) := by rw [← hwz]; exact ⟨c1, ml, v0, v1, vl, s0, s1, f0, f1⟩
 refine wp_region_L 9 (fun (w : World) => w.cell? ⟨mb, 405, none⟩ = some (.int .i64 (hh : Nat)) ∧ mb < w.heap.size ∧ w.cell? ⟨vb, 0, none⟩ = some (.int .i64 k) ∧ w.cell? ⟨vb, 1, none⟩ = some (.int .u64 n) ∧ vb < w.heap.size ∧ w.cell? ⟨mb, 277 + hh * 2, none⟩ = some (.int .i64 x0) ∧ w.cell? ⟨mb, 277 + hh * 2 + 1, none⟩ = some (.int .u64 x1) ∧ w.frozen? ⟨mb, 277 + hh * 2, none⟩ = false ∧ w.frozen? ⟨mb, 277 + hh * 2 + 1, none⟩ = false) (fun _ => True) (by kernel_rfl) (by rw [hwz]; exact HS9.out) trivial (fun hS0 => ?_)
 rw [hwz] at hS0 ⊢
 refine wpAnyL_take (i := 0) (oi := ⟨some 4, .move (.tmp 0), 80, "operate.go:34", #[], none⟩) (v := .pointer (some ⟨mb, 0, none⟩)) rfl (by decide) (by kernel_rfl) (by kernel_rfl) (by kernel_rfl) (fun _ _ _ h => h) (Or.inl ⟨by rfl, fun w2 hSw => ?_⟩) hS0 (fun hS1 => ?_)
 ·go_simp
 simp only [Act.put, lsA, lsB, lsC]
 clear hS0
 refine wpAnyL_take (i := 1) (oi := ⟨some 5, .move (.tmp 0), 80, "operate.go:34", #[], none⟩) (v := .pointer (some ⟨mb, 0, none⟩)) rfl (by decide) (by kernel_rfl) (by kernel_rfl) (by kernel_rfl) (fun _ _ _ h => h) (Or.inl ⟨by rfl, fun w2 hSw => ?_⟩) hS1 (fun hS2 => ?_)
 ·go_simp
 simp only [Act.put, lsA, lsB, lsC]
 clear hS1
 refine wpAnyL_take (i := 2) (oi := ⟨some 6, .nilCheck (.tmp 5), 0, "operate.go:34", #[⟨1, .data⟩], none⟩) (v := .pointer (some ⟨mb, 0, none⟩)) rfl (by decide) (by kernel_rfl) (by kernel_rfl) (by kernel_rfl) (fun _ _ _ h => h) (Or.inl ⟨by rfl, fun w2 hSw => ?_⟩) hS2 (fun hS3 => ?_)
 ·go_simp
 simp only [Act.put, lsA, lsB, lsC]
 clear hS2
 refine wpAnyL_take (i := 3) (oi := ⟨some 7, .fieldAddr 140 (.tmp 6) 8, 0, "operate.go:34", #[⟨2, .data⟩], none⟩) (v := .pointer (some ⟨mb, 405, none⟩)) rfl (by decide) (by kernel_rfl) (by kernel_rfl) (by kernel_rfl) (fun _ _ _ h => h) (Or.inl ⟨by rfl, fun w2 hSw => ?_⟩) hS3 (fun hS4 => ?_)
 ·go_simp
 simp only [Act.put, lsA, lsB, lsC]
 clear hS3
 refine wpAnyL_take1 (i := 4) (oi := ⟨some 8, .load 3 (.tmp 7), 3, "operate.go:34", #[⟨3, .data⟩], none⟩) (v := .int .i64 (hh : Nat)) rfl (by decide) (by kernel_rfl) (by kernel_rfl) (by kernel_rfl) (fun _ _ _ h => h) (Or.inl ⟨by rfl, fun w2 hSw => ?_⟩) hS4 (by kernel_rfl) rfl (by kernel_rfl) (fun hS5 => ?_)
 ·obtain ⟨k1, kl, k2, k3, vl, k4, k5, k6, k7⟩ := hSw
  go_simp
 simp only [Act.put, lsA, lsB, lsC]
 clear hS4
 refine wpAnyL_take1 (i := 5) (oi := ⟨some 9, .load 134 (.tmp 3), 134, "operate.go:34", #[], none⟩) (v := .agg #[.int .i64 k, .int .u64 n]) rfl (by decide) (by kernel_rfl) (by kernel_rfl) (by kernel_rfl) (fun _ _ _ h => h) (Or.inl ⟨by rfl, fun w2 hSw => ?_⟩) hS5 (by kernel_rfl) rfl (by kernel_rfl) (fun hS6 => ?_)
 ·obtain ⟨k1, kl, k2, k3, vl, k4, k5, k6, k7⟩ := hSw
  go_simp
 simp only [Act.put, lsA, lsB, lsC]
 clear hS5
 refine wpAnyL_take (i := 6) (oi := ⟨some 10, .nilCheck (.tmp 4), 0, "operate.go:34", #[⟨0, .data⟩], none⟩) (v := .pointer (some ⟨mb, 0, none⟩)) rfl (by decide) (by kernel_rfl) (by kernel_rfl) (by kernel_rfl) (fun _ _ _ h => h) (Or.inl ⟨by rfl, fun w2 hSw => ?_⟩) hS6 (fun hS7 => ?_)
 ·go_simp
 simp only [Act.put, lsA, lsB, lsC]
 clear hS6
 refine wpAnyL_take (i := 7) (oi := ⟨some 11, .fieldAddr 140 (.tmp 10) 7, 0, "operate.go:34", #[⟨6, .data⟩], none⟩) (v := .pointer (some ⟨mb, 277, none⟩)) rfl (by decide) (by kernel_rfl) (by kernel_rfl) (by kernel_rfl) (fun _ _ _ h => h) (Or.inl ⟨by rfl, fun w2 hSw => ?_⟩) hS7 (fun hS8 => ?_)
 ·go_simp
 simp only [Act.put, lsA, lsB, lsC]
 clear hS7
 refine wpAnyL_take (i := 8) (oi := ⟨some 12, .indexAddr 138 (.tmp 11) (.tmp 8), 0, "operate.go:34", #[⟨7, .data⟩, ⟨4, .data⟩, ⟨0, .phase⟩, ⟨1, .phase⟩, ⟨2, .phase⟩, ⟨3, .phase⟩, ⟨4, .phase⟩, ⟨5, .phase⟩], none⟩) (v := .pointer (some ⟨mb, 277 + hh * 2, none⟩)) rfl (by decide) (by kernel_rfl) (by kernel_rfl) (by kernel_rfl) (fun _ _ _ h => h) (Or.inl ⟨by rfl, fun w2 hSw => ?_⟩) hS8 (fun hS9 => ?_)
 ·go_simp
  intro hx
  omega
 simp only [Act.put, lsA, lsB, lsC]
 clear hS8
 obtain ⟨k1, kl, k2, k3, vl, k4, k5, k6, k7⟩ := hS9.1 rfl
 clear hS9
 refine wpAnyL_one (i := 9) (o := ⟨none, .store 134 (.tmp 12) (.tmp 9), 0, "operate.go:34", #[⟨8, .data⟩, ⟨5, .data⟩, ⟨0, .phase⟩, ⟨1, .phase⟩, ⟨2, .phase⟩, ⟨3, .phase⟩, ⟨4, .phase⟩, ⟨5, .phase⟩], none⟩) (by kernel_rfl) rfl (fun K hK => ?_)
 go_simp
 go_wp2_with fail
 refine hK.out _ _ ⟨fun h => (by cases (show true = false from h)), trivial⟩ ?_
 clear hK K HS9
 refine wpAnyL_done (by kernel_rfl) ?_ _
 have H3 := hide (HN.out wz hwz)
 clear HN hwz k1 k2 k3 k4 k5 k6 k7 kl vl v0 v1 c1 s0 s1 f0 f1 ml
 have c2 : ((wz.setCell ⟨mb, 277 + hh * 2, none⟩ (.int .i64 k)).setCell ⟨mb, 277 + hh * 2 + 1, none⟩ (.int .u64 n)).cell? ⟨mb, 405, none⟩ = some (.int .i64 (hh : Nat)) := H3.out.1.cell (i := 405) (by decide)
 have f2 := H3.out.1.free 405
 have ml := H3.out.1.lt
 obtain ⟨wy, hwy⟩ : ∃ wy, (wz.setCell ⟨mb, 277 + hh * 2, none⟩ (.int .i64 k)).setCell ⟨mb, 277 + hh * 2 + 1, none⟩ (.int .u64 n) = wy := ⟨_, rfl⟩
 rw [hwy] at H3 c2 f2 ml
 rw [hwy]
 clear hwy
 have H4 : Hid (Gm c mb (s.push k n) w (wy.setCell ⟨mb, 405, none⟩ (.int .i64 ((hh + 1 : Nat) : Int)))) := ⟨by
  have q := H3.out.1.set (fc_h (hh + 1))
  have e : s.push k n = { s with h := hh + 1, sk := updI s.sk hh k, sv := updI s.sv hh n } := by unfold Ms.push; rw [HE.out]
  rw [e]
  exact q, grown_tr H3.out.2 (grown_setT _ _ _ _)⟩
 clear H3
 go_wp2
 go_end0
 exact ⟨rfl, H4⟩
set_option maxRecDepth 10000 in
set_option maxHeartbeats 1600000 in
theorem takeC (h : Pm c mb s w) (h0 : 0 < s.h) (hh64 : s.h ≤ 64) : Calls Tryz.prog 73 #[.pointer (some ⟨mb, 0, none⟩)] w fun e w' => e = .returned (.agg #[.int .i64 (s.sk (s.h - 1)), .int .u64 (s.top 0)]) ∧ Hid (Gm c mb (s.pop 1) w w') := by
 obtain ⟨W1, hW1⟩ : ∃ W1, w.alloc (.cells #[.int .i64 0, .int .u64 0] 134) = W1 := ⟨_, rfl⟩
 have B1 : Below w.heap.size w W1 := by rw [← hW1]; exact below_alloc1 w _
 have A1 : W1.heap[w.heap.size]? = some (.cells #[.int .i64 0, .int .u64 0] 134 (0, 0)) := by rw [← hW1]; exact alloc_atK _ _
 have h1 := h.below B1
 have cc : W1.cell? ⟨mb, 405, none⟩ = some (.int .i64 (s.h : Nat)) := h1.cell (i := 405) (by decide)
 have cf := h1.free 405
 have cl := h1.lt
 have hne : w.heap.size ≠ mb := Nat.ne_of_gt h.lt
 obtain ⟨hh, hhe⟩ : ∃ hh, s.h = hh + 1 := ⟨s.h - 1, by omega⟩
 have HP : Hid (Pm c mb (s.pop 1) (W1.setCell ⟨mb, 405, none⟩ (.int .i64 ((hh : Nat) : Int))) ∧ w.grownBy (W1.setCell ⟨mb, 405, none⟩ (.int .i64 ((hh : Nat) : Int))) (some mb) ∧ (W1.setCell ⟨mb, 405, none⟩ (.int .i64 ((hh : Nat) : Int))).heap[w.heap.size]? = some (.cells #[.int .i64 0, .int .u64 0] 134 (0, 0))) := by
  refine ⟨?_, grown_tr (grown_below B1) (grown_setT _ _ _ _), ((grown_setT W1 mb 405 _).block _ (block_lt A1) (by simpa using hne)).trans A1⟩
  have q := h1.set (fc_h (s := s) hh)
  have e : s.pop 1 = { s with h := hh } := by unfold Ms.pop; rw [hhe]; rfl
  rw [e]
  exact q
 have HW1 := hide hW1
 have HT : Hid (s.top 0 = s.sv hh ∧ s.sk (s.h - 1) = s.sk hh) := by
  unfold Ms.top
  rw [hhe]
  exact ⟨rfl, rfl⟩
 have hlt : hh < 64 := by omega
 have HEH : Hid ((s.pop 1).h = hh) := by show s.h - 1 = hh; omega
 have HFS := hide (fc_stk (c := c) (s := s.pop 1) hlt)
 rw [hhe] at cc
 rw [HT.out.1, HT.out.2]
 obtain ⟨x0, hx0⟩ : ∃ x0, s.sk hh = x0 := ⟨_, rfl⟩
 obtain ⟨x1, hx1⟩ : ∃ x1, s.sv hh = x1 := ⟨_, rfl⟩
 rw [hx0, hx1]
 have HX0 := hide (And.intro hx0 hx1)
 clear hx0 hx1
 clear h h1 B1 A1 hW1 HT hhe h0 hh64
 obtain ⟨vb, hvb⟩ : ∃ vb, w.heap.size = vb := ⟨_, rfl⟩
 have HVB := hide (And.intro hvb hne)
 rw [hvb] at HP
 go_enter Tryz.func73, Tryz.ntmps73
 go_upto_region 1 with fail
 rw [HW1.out]
 clear HW1 hvb hne
 go_upto_region 2 with fail
 obtain ⟨wy, hwy⟩ : ∃ wy, W1.setCell ⟨mb, 405, none⟩ (.int .i64 ((hh : Nat) : Int)) = wy := ⟨_, rfl⟩
 rw [hwy] at HP
 rw [hwy]
 clear hwy cc cf cl
 have c1 : wy.cell? ⟨mb, 405, none⟩ = some (.int .i64 (hh : Nat)) := by
  rw [← HEH.out]
  exact HP.out.1.cell (i := 405) (by decide)
 have s0 := HP.out.1.cell (i := 277 + hh * 2) (by omega)
 have s1 := HP.out.1.cell (i := 277 + hh * 2 + 1) (by omega)
 rw [HFS.out.1] at s0
 rw [HFS.out.2] at s1
 have ml := HP.out.1.lt
 have v0 := block_cell HP.out.2.2 0
 have v1 := block_cell HP.out.2.2 1
 have vf0 := block_free HP.out.2.2 0
 have vf1 := block_free HP.out.2.2 1
 have vl := block_lt HP.out.2.2
 simp at v0 v1
 have e0 : (s.pop 1).sk hh = s.sk hh := rfl
 have e1 : (s.pop 1).sv hh = s.sv hh := rfl
 rw [e0, HX0.out.1] at s0
 rw [e1, HX0.out.2] at s1
 clear e0 e1
 obtain ⟨wz, hwz⟩ : ∃ wz, (wy).drew = wz := ⟨_, rfl⟩
 have HS9 : Hid ((fun (w : World) => w.cell? ⟨mb, 405, none⟩ = some (.int .i64 (hh : Nat)) ∧ mb < w.heap.size ∧ w.cell? ⟨mb, 277 + hh * 2, none⟩ = some (.int .i64 x0) ∧ w.cell? ⟨mb, 277 + hh * 2 + 1, none⟩ = some (.int .u64 x1) ∧ vb < w.heap.size ∧ w.cell? ⟨vb, 0, none⟩ = some (.int .i64 0) ∧ w.cell? ⟨vb, 1, none⟩ = some (.int .u64 0) ∧ w.frozen? ⟨vb, 0, none⟩ = false ∧ w.frozen? ⟨vb, 1, none⟩ = false) wz) := by rw [← hwz]; exact ⟨c1, ml, s0, s1, vl, v0, v1, vf0, vf1⟩
 refine wp_region_L 9 (fun (w : World) => w.cell? ⟨mb, 405, none⟩ = some (.int .i64 (hh : Nat)) ∧ mb < w.heap.size ∧ w.cell? ⟨mb, 277 + hh * 2, none⟩ = some (.int .i64 x0) ∧ w.cell? ⟨mb, 277 + hh * 2 + 1, none⟩ = some (.int .u64 x1) ∧ vb < w.heap.size ∧ w.cell? ⟨vb, 0, none⟩ = some (.int .i64 0) ∧ w.cell? ⟨vb, 1, none⟩ = some (.int .u64 0) ∧ w.frozen? ⟨vb, 0, none⟩ = false ∧ w.frozen? ⟨vb, 1, none⟩ = false) (fun _ => True) (by kernel_rfl) (by rw [hwz]; exact HS9.out) trivial (fun hS0 => ?_)
 rw [hwz] at hS0 ⊢
 refine wpAnyL_take (i := 0) (oi := ⟨some 10, .move (.tmp 0), 80, "operate.go:41", #[], none⟩) (v := .pointer (some ⟨mb, 0, none⟩)) rfl (by decide) (by kernel_rfl) (by kernel_rfl) (by kernel_rfl) (fun _ _ _ h => h) (Or.inl ⟨by rfl, fun w2 hSw => ?_⟩) hS0 (fun hS1 => ?_)
 ·go_simp
 simp only [Act.put, lsA, lsB, lsC]
 clear hS0
 refine wpAnyL_take (i := 1) (oi := ⟨some 11, .move (.tmp 0), 80, "operate.go:41", #[], none⟩) (v := .pointer (some ⟨mb, 0, none⟩)) rfl (by decide) (by kernel_rfl) (by kernel_rfl) (by kernel_rfl) (fun _ _ _ h => h) (Or.inl ⟨by rfl, fun w2 hSw => ?_⟩) hS1 (fun hS2 => ?_)
 ·go_simp
 simp only [Act.put, lsA, lsB, lsC]
 clear hS1
 refine wpAnyL_take (i := 2) (oi := ⟨some 12, .nilCheck (.tmp 11), 0, "operate.go:41", #[⟨1, .data⟩], none⟩) (v := .pointer (some ⟨mb, 0, none⟩)) rfl (by decide) (by kernel_rfl) (by kernel_rfl) (by kernel_rfl) (fun _ _ _ h => h) (Or.inl ⟨by rfl, fun w2 hSw => ?_⟩) hS2 (fun hS3 => ?_)
 ·go_simp
 simp only [Act.put, lsA, lsB, lsC]
 clear hS2
 refine wpAnyL_take (i := 3) (oi := ⟨some 13, .fieldAddr 140 (.tmp 12) 8, 0, "operate.go:41", #[⟨2, .data⟩], none⟩) (v := .pointer (some ⟨mb, 405, none⟩)) rfl (by decide) (by kernel_rfl) (by kernel_rfl) (by kernel_rfl) (fun _ _ _ h => h) (Or.inl ⟨by rfl, fun w2 hSw => ?_⟩) hS3 (fun hS4 => ?_)
 ·go_simp
 simp only [Act.put, lsA, lsB, lsC]
 clear hS3
 refine wpAnyL_take1 (i := 4) (oi := ⟨some 14, .load 3 (.tmp 13), 3, "operate.go:41", #[⟨3, .data⟩], none⟩) (v := .int .i64 (hh : Nat)) rfl (by decide) (by kernel_rfl) (by kernel_rfl) (by kernel_rfl) (fun _ _ _ h => h) (Or.inl ⟨by rfl, fun w2 hSw => ?_⟩) hS4 (by kernel_rfl) rfl (by kernel_rfl) (fun hS5 => ?_)
 ·obtain ⟨k1, kl, k2, k3, vl, k4, k5, k6, k7⟩ := hSw
  go_simp
 simp only [Act.put, lsA, lsB, lsC]
 clear hS4
 refine wpAnyL_take (i := 5) (oi := ⟨some 15, .nilCheck (.tmp 10), 0, "operate.go:41", #[⟨0, .data⟩], none⟩) (v := .pointer (some ⟨mb, 0, none⟩)) rfl (by decide) (by kernel_rfl) (by kernel_rfl) (by kernel_rfl) (fun _ _ _ h => h) (Or.inl ⟨by rfl, fun w2 hSw => ?_⟩) hS5 (fun hS6 => ?_)
 ·go_simp
 simp only [Act.put, lsA, lsB, lsC]
 clear hS5
 refine wpAnyL_take (i := 6) (oi := ⟨some 16, .fieldAddr 140 (.tmp 15) 7, 0, "operate.go:41", #[⟨5, .data⟩], none⟩) (v := .pointer (some ⟨mb, 277, none⟩)) rfl (by decide) (by kernel_rfl) (by kernel_rfl) (by kernel_rfl) (fun _ _ _ h => h) (Or.inl ⟨by rfl, fun w2 hSw => ?_⟩) hS6 (fun hS7 => ?_)
 ·go_simp
 simp only [Act.put, lsA, lsB, lsC]
 clear hS6
 refine wpAnyL_take (i := 7) (oi := ⟨some 17, .indexAddr 138 (.tmp 16) (.tmp 14), 0, "operate.go:41", #[⟨6, .data⟩, ⟨4, .data⟩], none⟩) (v := .pointer (some ⟨mb, 277 + hh * 2, none⟩)) rfl (by decide) (by kernel_rfl) (by kernel_rfl) (by kernel_rfl) (fun _ _ _ h => h) (Or.inl ⟨by rfl, fun w2 hSw => ?_⟩) hS7 (fun hS8 => ?_)
 ·go_simp
  intro hx
  omega
 simp only [Act.put, lsA, lsB, lsC]
 clear hS7
 refine wpAnyL_take1 (i := 8) (oi := ⟨some 18, .load 134 (.tmp 17), 134, "operate.go:41", #[⟨7, .data⟩], none⟩) (v := .agg #[.int .i64 x0, .int .u64 x1]) rfl (by decide) (by kernel_rfl) (by kernel_rfl) (by kernel_rfl) (fun _ _ _ h => h) (Or.inl ⟨by rfl, fun w2 hSw => ?_⟩) hS8 (by kernel_rfl) rfl (by kernel_rfl) (fun hS9 => ?_)
 ·obtain ⟨k1, kl, k2, k3, vl, k4, k5, k6, k7⟩ := hSw
  go_simp
 simp only [Act.put, lsA, lsB, lsC]
 clear hS8
 obtain ⟨k1, kl, k2, k3, vl, k4, k5, k6, k7⟩ := hS9.1 rfl
 clear hS9
 refine wpAnyL_one (i := 9) (o := ⟨none, .store 134 (.tmp 2) (.tmp 18), 0, "operate.go:41", #[⟨8, .data⟩, ⟨0, .phase⟩, ⟨1, .phase⟩, ⟨2, .phase⟩, ⟨3, .phase⟩, ⟨4, .phase⟩, ⟨5, .phase⟩, ⟨6, .phase⟩, ⟨7, .phase⟩, ⟨8, .phase⟩], none⟩) (by kernel_rfl) rfl (fun K hK => ?_)
 go_simp
 go_wp2_with fail
 refine hK.out _ _ ⟨fun h => (by cases (show true = false from h)), trivial⟩ ?_
 clear hK K HS9
 refine wpAnyL_done (by kernel_rfl) ?_ _
 have HX : Hid (Gm c mb (s.pop 1) w ((wz.setCell ⟨vb, 0, none⟩ (.int .i64 x0)).setCell ⟨vb, 1, none⟩ (.int .u64 x1)) ∧ ((wz.setCell ⟨vb, 0, none⟩ (.int .i64 x0)).setCell ⟨vb, 1, none⟩ (.int .u64 x1)).heap[vb]? = some (.cells #[.int .i64 x0, .int .u64 x1] 134 (0, 0))) := by
  have hb : w.heap.size ≤ vb := by rw [HVB.out.1]; exact Nat.le_refl _
  have hn : vb ≠ mb := by rw [← HVB.out.1]; exact HVB.out.2
  have g1 : w.grownBy wz (some mb) := by rw [← hwz]; exact grown_tr HP.out.2.1 (grown_below (Below.refl _ _).drew)
  have p1 : Pm c mb (s.pop 1) wz := by rw [← hwz]; exact HP.out.1.below (Below.refl _ _).drew
  have a1 : wz.heap[vb]? = some (.cells #[.int .i64 0, .int .u64 0] 134 (0, 0)) := by rw [← hwz]; exact HP.out.2.2
  have g2 := grown_tr (grown_setT wz vb 0 (.int .i64 x0)) (grown_setT _ vb 1 (.int .u64 x1))
  refine ⟨⟨p1.grown g2 (by simpa using hn), grown_up g1 g2 hb⟩, ?_⟩
  simp [World.setCell, Array.getElem?_modify, a1]
 clear HP k1 k2 k3 k4 k5 k6 k7 kl vl hwz c1 s0 s1 ml v0 v1 vf0 vf1
 have q0 := block_cell HX.out.2 0
 have q1 := block_cell HX.out.2 1
 simp at q0 q1
 have HY := hide HX.out.1
 clear HX
 go_wp2
 refine bodyPost_ret (v := .agg #[.int .i64 x0, .int .u64 x1]) (by simp [results, Tryz.results73, go_sem, q0, q1]) rfl ?_
 exact ⟨rfl, HY⟩
set_option maxRecDepth 10000 in
set_option maxHeartbeats 1600000 in
theorem takeTruthC (h : Pm c mb s w) (h0 : 0 < s.h) (hh64 : s.h ≤ 64) : Calls Tryz.prog 74 #[.pointer (some ⟨mb, 0, none⟩)] w fun e w' => e = .returned (.bool (decide (s.top 0 = 1))) ∧ Hid (Gm c mb (s.pop 1) w w') := by
 have HT := hide (takeC h h0 hh64)
 obtain ⟨x1, hx1⟩ : ∃ x1, s.top 0 = x1 := ⟨_, rfl⟩
 rw [hx1] at HT ⊢
 generalize s.sk (s.h - 1) = x0 at *
 clear h h0 hh64 hx1
 obtain ⟨b, hb⟩ : ∃ b, decide (x1 = 1) = b := ⟨_, rfl⟩
 rw [hb]
 have hb2 : (x1 == 1) = b := by rw [← hb]; rfl
 clear hb
 have hfd := fldN x0 x1
 go_enter Tryz.func74, Tryz.ntmps74
 go_wp2_with fail
 refine HT.out.mono ?_
 rintro e w1 ⟨rfl, G1⟩
 clear HT
 go_wp2
 go_ret
 exact ⟨rfl, G1⟩
set_option maxRecDepth 10000 in
set_option maxHeartbeats 1600000 in
theorem takeTwoC (h : Pm c mb s w) (h0 : 2 ≤ s.h) (hh64 : s.h ≤ 64) : Calls Tryz.prog 122 #[.pointer (some ⟨mb, 0, none⟩)] w fun e w' => e = .returned (.tuple #[.int .u64 (s.top 1), .int .u64 (s.top 0)]) ∧ Hid (Gm c mb (s.pop 2) w w') := by
 have HT := hide (takeC h (by omega) hh64)
 have HT2 : Hid (∀ w1, Gm c mb (s.pop 1) w w1 → Calls Tryz.prog 73 #[.pointer (some ⟨mb, 0, none⟩)] w1 fun e w' => e = .returned (.agg #[.int .i64 ((s.pop 1).sk ((s.pop 1).h - 1)), .int .u64 (s.top 1)]) ∧ Hid (Gm c mb (s.pop 2) w w')) := fun w1 g1 => by
  have a1 : 0 < (s.pop 1).h := by show 0 < s.h - 1; omega
  have a2 : (s.pop 1).h ≤ 64 := by show s.h - 1 ≤ 64; omega
  refine (takeC g1.1 a1 a2).mono ?_
  rintro e w2 ⟨rfl, g2⟩
  have e1 : (s.pop 1).top 0 = s.top 1 := by unfold Ms.top; show s.sv (s.h - 1 - 1 - 0) = s.sv (s.h - 1 - 1); rfl
  have e2 : (s.pop 1).pop 1 = s.pop 2 := by unfold Ms.pop; show ({ s with h := s.h - 1 - 1 } : Ms) = _; rfl
  rw [e1]
  rw [e2] at g2
  exact ⟨rfl, g1.trans g2.out⟩
 generalize s.top 0 = x1 at *
 generalize s.top 1 = x2 at *
 generalize s.sk (s.h - 1) = x0 at *
 generalize (s.pop 1).sk ((s.pop 1).h - 1) = x3 at *
 clear h h0 hh64
 have hfd := fldN x0 x1
 have hfe := fldN x3 x2
 go_enter Tryz.func122, Tryz.ntmps122
 go_wp2_with fail
 refine HT.out.mono ?_
 rintro e w1 ⟨rfl, G1⟩
 clear HT
 go_wp2_with fail
 refine (HT2.out w1 G1.out).mono ?_
 rintro e w2 ⟨rfl, G2⟩
 clear HT2 G1
 go_wp2
 refine bodyPost_ret (v := .tuple #[.int .u64 x2, .int .u64 x1]) (by simp [results, Tryz.results122, go_sem]) rfl ?_
 exact ⟨rfl, G2⟩
end
end Go.Proofs.YtggpaljilpbmhaaGreatDoor
namespace Go.Proofs.YtggpaljilpbmhaaGreatDoor
open Go.RowKit

set_option maxRecDepth 10000 in
set_option maxHeartbeats 1600000 in
/-- A comparison of the program. -/
theorem holdsC (o : Nat) (h9 : 9 ≤ o) (h16 : o ≤ 16) (a b : Int) (w : World) : Calls Tryz.prog 123 #[.int .i64 (o : Nat), .int .u64 a, .int .u64 b] w fun e w' => e = .returned (.bool (cmpB o a b)) ∧ w' = w := by
 have hc : o = 9 ∨ o = 10 ∨ o = 11 ∨ o = 12 ∨ o = 13 ∨ o = 14 ∨ o = 15 ∨ o = 16 := by omega
 rcases hc with rfl | rfl | rfl | rfl | rfl | rfl | rfl | rfl
 all_goals
  unfold cmpB
  simp only [Nat.reduceEqDiff, or_false, or_true, if_false, reduceIte]
  go_enter Tryz.func123, Tryz.ntmps123
  go_wp2
  go_ret
  exact ⟨by first | rfl | (simp [BEq.beq]; done) | simp, rfl⟩
set_option maxRecDepth 10000 in
theorem fittingC (n ov : Int) (w : World) : Calls Tryz.prog 189 #[.int .u64 n, .int .u64 ov] w fun e w' => e = .returned (.tuple #[.int .u64 (if ov = 0 then n else 0), .int .i64 (if ov = 0 then 0 else 3)]) ∧ w' = w := by
 by_cases h : ov = 0
 ·subst h
  rw [if_pos rfl, if_pos rfl]
  go_enter Tryz.func189, Tryz.ntmps189
  go_wp2
  go_ret2
  exact ⟨rfl, rfl⟩
 ·rw [if_neg h, if_neg h]
  go_enter Tryz.func189, Tryz.ntmps189
  go_wp2
  go_ret2
  exact ⟨rfl, rfl⟩
end Go.Proofs.YtggpaljilpbmhaaGreatDoor
