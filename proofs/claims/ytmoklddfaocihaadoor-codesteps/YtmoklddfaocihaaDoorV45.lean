import Derived.Test.YtmoklddfaocihaaDoorV44
import Derived.Test.YtmoklddfaocihaaDoorV39
import Derived.Test.YtmoklddfaocihaaDoorV18
namespace Go.Proofs.YtmoklddfaocihaaDoor
open Go.RowKit

set_option maxRecDepth 10000 in
set_option maxHeartbeats 12800000 in
theorem stateR {c : Rc} {vS : Value} {s : Ms} {w : World} (h : Rx c vS s w) (hh1 : s.h ≤ 1000) (hns : c.p.ns ≤ 128) (hQ : ∃ qa qc, c.vQ = .slice qa c.p.ns qc) : Calls Tryd.prog 21 #[.pointer (some ⟨c.rb, 0, none⟩)] w fun e w' => ∃ a1 d1 a2 d2, e = .returned (.agg (stA s (.slice a1 s.h d1) (.slice a2 c.p.ns d2))) ∧ Hid (Cv w' (.slice a1 s.h d1) s.h s.sk s.sv ∧ Cv w' (.slice a2 c.p.ns d2) c.p.ns c.p.S s.slt ∧ Below w.heap.size w w') := by
 obtain ⟨qa, qc, hvq⟩ := hQ
 obtain ⟨i0, hi, hz0, hz1, hz2⟩ := info_parts Tryd.infoCV
 obtain ⟨sa, sc, sb, hvs, hsc, hsb, hsk, hsv⟩ := (Cv.of h.stk).ex
 obtain ⟨at0, hat⟩ : ∃ x, s.pc = x := ⟨_, rfl⟩
 obtain ⟨lf, hlf⟩ : ∃ x, s.left = x := ⟨_, rfl⟩
 obtain ⟨p0, hp0⟩ : ∃ x, s.paid 0 = x := ⟨_, rfl⟩
 obtain ⟨p1, hp1⟩ : ∃ x, s.paid 1 = x := ⟨_, rfl⟩
 obtain ⟨p2, hp2⟩ : ∃ x, s.paid 2 = x := ⟨_, rfl⟩
 obtain ⟨ov, hov⟩ : ∃ x, s.ov = x := ⟨_, rfl⟩
 have HO : ∀ v1 v2, stA s v1 v2 = #[.int .i64 at0, v1, v2, .int .u64 lf, .int .u64 p0, .int .u64 p1, .int .u64 p2, .bool ov] := fun v1 v2 => by
  unfold stA
  rw [hat, hlf, hp0, hp1, hp2, hov]
 obtain ⟨hh, hhh⟩ : ∃ x, s.h = x := ⟨_, rfl⟩
 obtain ⟨ns, hnn⟩ : ∃ x, c.p.ns = x := ⟨_, rfl⟩
 obtain ⟨rb, hrb⟩ : ∃ x, c.rb = x := ⟨_, rfl⟩
 rw [hhh] at hvs hsc hsb hsk hsv hh1
 rw [hnn] at hvq hns
 subst hvs
 have HM1 : Hid (∀ w' : World, Below w.heap.size w w' → w'.cell? ⟨rb, 19, none⟩ = some (.slice sa hh sc)) := fun w' hb => by rw [← hrb]; exact ((h.next hb).cell 19).trans rfl
 have HM2 : Hid (∀ w' : World, Below w.heap.size w w' → w'.cell? ⟨rb, 20, none⟩ = some (.slice qa ns qc)) := fun w' hb => by rw [← hrb, ← hvq]; exact ((h.next hb).cell 20).trans rfl
 have HRL : Hid (∀ w' : World, Below w.heap.size w w' → rb < w'.heap.size) := fun w' hb => by rw [← hrb]; exact (h.next hb).lt
 have HK1 : Hid (0 < hh → ∃ kb, sa = some ⟨kb, 0, none⟩ ∧ ∀ j, j < hh → ∀ w' : World, Below w.heap.size w w' → w'.cell? ⟨kb, j * 2, none⟩ = some (.int .i64 (s.sk j)) ∧ w'.cell? ⟨kb, j * 2 + 1, none⟩ = some (.int .u64 (s.sv j)) ∧ kb < w'.heap.size) := fun q => by
  obtain ⟨e1, l1⟩ := hsb q
  exact ⟨sb, e1, fun j hj w' hb => ⟨(hb.cell (p := ⟨sb, _, none⟩) l1).trans (hsk j hj), (hb.cell (p := ⟨sb, _, none⟩) l1).trans (hsv j hj), Nat.lt_of_lt_of_le l1 hb.size⟩⟩
 have HK2 : Hid (0 < ns → ∃ kb, qa = some ⟨kb, 0, none⟩ ∧ ∀ j, j < ns → ∀ w' : World, Below w.heap.size w w' → w'.cell? ⟨kb, j * 2, none⟩ = some (.int .i64 (c.p.S j)) ∧ w'.cell? ⟨kb, j * 2 + 1, none⟩ = some (.int .u64 (s.slt j)) ∧ kb < w'.heap.size) := fun q => by
  refine ⟨c.qb, ?_, fun j hj w' hb => ?_⟩
  ·have e := (h.slot (m := 0) (by omega)).1
   rw [hvq] at e
   cases e
   rfl
  ·obtain ⟨_, _, q3, q4, q5, _, _⟩ := (h.next hb).slot (m := j) (by omega)
   exact ⟨q4, q5, q3⟩
 obtain ⟨W1, hW1⟩ : ∃ W1, w.alloc (.cells #[.int .i64 0, .slice none 0 0, .slice none 0 0, .int .u64 0, .int .u64 0, .int .u64 0, .int .u64 0, .bool false] 65) = W1 := ⟨_, rfl⟩
 have B1 : Below w.heap.size w W1 := by rw [← hW1]; exact below_alloc1 w _
 have HS1W : Hid (W1.heap.size = w.heap.size + 1) := by show _ = _; rw [← hW1]; simp
 have c0 : W1.cell? ⟨rb, 0, none⟩ = some (.bool true) := by rw [← hrb]; exact ((h.next B1).cell 0).trans rfl
 have c18 : W1.cell? ⟨rb, 18, none⟩ = some (.int .i64 at0) := by rw [← hrb, ← hat]; exact ((h.next B1).cell 18).trans rfl
 have c19 := HM1.out W1 B1
 have c20 := HM2.out W1 B1
 have c21 : W1.cell? ⟨rb, 21, none⟩ = some (.int .u64 lf) := by rw [← hrb, ← hlf]; exact ((h.next B1).cell 21).trans rfl
 have c22 : W1.cell? ⟨rb, 22, none⟩ = some (.int .u64 p0) := by rw [← hrb, ← hp0]; exact ((h.next B1).cell 22).trans rfl
 have c23 : W1.cell? ⟨rb, 23, none⟩ = some (.int .u64 p1) := by rw [← hrb, ← hp1]; exact ((h.next B1).cell 23).trans rfl
 have c24 : W1.cell? ⟨rb, 24, none⟩ = some (.int .u64 p2) := by rw [← hrb, ← hp2]; exact ((h.next B1).cell 24).trans rfl
 have c25 : W1.cell? ⟨rb, 25, none⟩ = some (.bool ov) := by rw [← hrb, ← hov]; exact ((h.next B1).cell 25).trans rfl
 have rl := HRL.out W1 B1
 obtain ⟨W2, hW2⟩ : ∃ W2, (w.alloc (.cells #[.int .i64 0, .slice none 0 0, .slice none 0 0, .int .u64 0, .int .u64 0, .int .u64 0, .int .u64 0, .bool false] 65)).alloc (.cells #[.int .i64 at0, .slice sa hh sc, .slice qa ns qc, .int .u64 lf, .int .u64 p0, .int .u64 p1, .int .u64 p2, .bool ov] 65) = W2 := ⟨_, rfl⟩
 obtain ⟨O2, X2, B2⟩ := two_box2 w _ _ _ _ hW2
 have S2 : W2.heap.size = w.heap.size + 1 + 1 := by rw [← hW2]; simp
 rw [hW1] at hW2
 have HSX0 : Hid (Sx w (w.heap.size + 1) (w.heap.size + 1 + 1) 0 #[.int .i64 at0, .slice sa hh sc, .slice qa ns qc, .int .u64 lf, .int .u64 p0, .int .u64 p1, .int .u64 p2, .bool ov] (.slice none 0 0) 0 s.sk s.sv (.slice none 0 0) 0 s.sk s.sv W2) := ⟨X2, O2, World.ownsRow_nil _ _ _ _, World.ownsRow_nil _ _ _ _, fun q e => by simp [Value.ownBlock] at e, by omega, by omega, by omega, B2⟩
 have HSX1 := hide (HSX0.out.swap 1 s.sk s.sv)
 have b1 := block_cell X2 1
 have f1 := block_free X2 1
 have bl := block_lt X2
 simp at b1
 rw [S2] at HSX1
 have HW1 := hide hW1
 have HW2 := hide hW2
 have HOH := hide HO
 rw [hrb, hhh, hnn]
 clear h HO hat hlf hp0 hp1 hp2 hov hrb hvq hW1 hW2 X2 O2 B2 S2 hsb hsk hsv B1 HSX0
 go_enter Tryd.func21, Tryd.ntmps21
 go_upto_region 1 with fail
 rw [HW1.out]
 clear HW1
 go_upto_region 4 with fail
 rw [HW2.out]
 clear HW2 c0 c18 c19 c20 c21 c22 c23 c24 c25 rl
 rw [HS1W.out]
 obtain ⟨xb, hxb⟩ : ∃ xb, w.heap.size + 1 = xb := ⟨_, rfl⟩
 rw [hxb] at HSX1 b1 f1 bl
 rw [hxb]
 clear hxb HS1W
 go_upto_region 6 with fail
 obtain ⟨w3, hw3⟩ : ∃ w3, W2.setCell ⟨xb, 1, none⟩ (.slice none 0 0) = w3 := ⟨_, rfl⟩
 rw [hw3] at HSX1
 rw [hw3]
 have HR1 : Hid (∃ v, Sx w xb (xb + 1) (xb + 1) #[.int .i64 at0, v, .slice qa ns qc, .int .u64 lf, .int .u64 p0, .int .u64 p1, .int .u64 p2, .bool ov] v 0 s.sk s.sv (.slice none 0 0) 0 s.sk s.sv w3) := ⟨.slice none 0 0, HSX1.out⟩
 clear hw3 HSX1 b1 f1 bl
 go_loopw [4] (fun i wr => ∃ j : Nat, j ≤ hh ∧ i = .int .i64 (j : Nat) ∧ Hid (∃ v, Sx w xb ((xb + 1)) (xb + 1) #[.int .i64 at0, v, .slice qa ns qc, .int .u64 lf, .int .u64 p0, .int .u64 p1, .int .u64 p2, .bool ov] v j s.sk s.sv (.slice none 0 0) 0 s.sk s.sv wr)) (fun i _ => hh - (intOf i).toNat)
 case atStart => exact ⟨0, by omega, rfl, HR1⟩
 case round =>
  obtain ⟨j, hj, rfl, HJ⟩ := hrel
  clear HR1
  obtain ⟨vJ, hsx⟩ := HJ.out
  obtain ⟨aq, cq, rfl⟩ := own_val2 hsx.ow
  have HSX := hide hsx
  have y1 : wr.cell? ⟨rb, 19, none⟩ = some (.slice sa hh sc) := HM1.out wr hsx.bel
  have yl := HRL.out wr hsx.bel
  clear HJ
  by_cases hlt : j < hh
  ·obtain ⟨kb, hsrc, hk⟩ := HK1.out (by omega)
   obtain ⟨kk, hkk⟩ : ∃ kk, s.sk j = kk := ⟨_, rfl⟩
   obtain ⟨yy, hyy⟩ : ∃ yy, s.sv j = yy := ⟨_, rfl⟩
   have HS0 : Hid (∀ w' : World, Below w.heap.size w w' → w'.heap[xb]? = some (.cells #[.int .i64 at0, .slice aq j cq, .slice qa ns qc, .int .u64 lf, .int .u64 p0, .int .u64 p1, .int .u64 p2, .bool ov] 65 (0, 0)) → (fun (w : World) => (w.cell? ⟨xb, 1, none⟩ = some (.slice aq j cq) ∧ xb < w.heap.size) ∧ (w.cell? ⟨rb, 19, none⟩ = some (.slice (some ⟨kb, 0, none⟩) hh sc) ∧ rb < w.heap.size) ∧ w.cell? ⟨kb, j * 2, none⟩ = some (.int .i64 kk) ∧ w.cell? ⟨kb, j * 2 + 1, none⟩ = some (.int .u64 yy) ∧ kb < w.heap.size) w') := fun w' hb hbx => by
    obtain ⟨q1, q2, q3⟩ := hk j hlt w' hb
    have q0 := HM1.out w' hb
    rw [hsrc] at q0
    rw [← hkk, ← hyy]
    exact ⟨⟨(block_cell hbx 1).trans rfl, block_lt hbx⟩, ⟨q0, HRL.out w' hb⟩, q1, q2, q3⟩
   have HS1 : Hid (∀ w' : World, Below wr.heap.size wr w' → (fun (w : World) => (w.cell? ⟨xb, 1, none⟩ = some (.slice aq j cq) ∧ xb < w.heap.size) ∧ (w.cell? ⟨rb, 19, none⟩ = some (.slice (some ⟨kb, 0, none⟩) hh sc) ∧ rb < w.heap.size) ∧ w.cell? ⟨kb, j * 2, none⟩ = some (.int .i64 kk) ∧ w.cell? ⟨kb, j * 2 + 1, none⟩ = some (.int .u64 yy) ∧ kb < w.heap.size) w') := fun w' hb => by
    have q := HSX.out.next hb
    exact HS0.out w' q.bel q.bx
   have HOW : Hid (∀ w' : World, Below wr.heap.size wr w' → w'.ownsRow (xb + 1) 56 2 (.slice aq j cq) j (vals2 s.sk s.sv j)) := fun w' hb => own_keep HSX.out.ow hb
   have HSZ : Hid (∀ w' : World, Below wr.heap.size wr w' → (xb + 1) ≤ w'.heap.size) := fun w' hb => Nat.le_trans HSX.out.sz hb.size
   have HAP : Hid (∀ (w1 w2 : World) (v' : Value), Below wr.heap.size wr w1 → w2.ownsRow (xb + 1) 56 2 v' (j + 1) (vals2 s.sk s.sv j ++ [.int .i64 kk, .int .u64 yy]) → w1.grownBy w2 (Value.slice aq j cq).ownBlock → Sx w xb ((xb + 1)) (xb + 1) #[.int .i64 at0, v', .slice qa ns qc, .int .u64 lf, .int .u64 p0, .int .u64 p1, .int .u64 p2, .bool ov] v' (j + 1) s.sk s.sv (.slice none 0 0) 0 s.sk s.sv (w2.setCell ⟨xb, 1, none⟩ v') ∧ (fun (w : World) => (w.cell? ⟨xb, 1, none⟩ = some (.slice aq j cq) ∧ xb < w.heap.size) ∧ (w.cell? ⟨rb, 19, none⟩ = some (.slice (some ⟨kb, 0, none⟩) hh sc) ∧ rb < w.heap.size) ∧ w.cell? ⟨kb, j * 2, none⟩ = some (.int .i64 kk) ∧ w.cell? ⟨kb, j * 2 + 1, none⟩ = some (.int .u64 yy) ∧ kb < w.heap.size) w2 ∧ w2.frozen? ⟨xb, 1, none⟩ = false) := fun w1 w2 v' hb ho hg => by
    rw [← hkk, ← hyy] at ho
    obtain ⟨q1, q2, q3⟩ := HSX.out.app hb ho hg
    exact ⟨q3 1, HS0.out w2 q2 q1, block_free q1 1⟩
   rw [hsrc] at y1
   clear hsrc hk hkk hyy hsx HS0 HSX
   go_upto_region 8 with fail
   clear y1 yl
   obtain ⟨wz, hwz⟩ : ∃ wz, (wr).drew = wz := ⟨_, rfl⟩
   have HS9 : Hid ((fun (w : World) => (w.cell? ⟨xb, 1, none⟩ = some (.slice aq j cq) ∧ xb < w.heap.size) ∧ (w.cell? ⟨rb, 19, none⟩ = some (.slice (some ⟨kb, 0, none⟩) hh sc) ∧ rb < w.heap.size) ∧ w.cell? ⟨kb, j * 2, none⟩ = some (.int .i64 kk) ∧ w.cell? ⟨kb, j * 2 + 1, none⟩ = some (.int .u64 yy) ∧ kb < w.heap.size) wz) := by rw [← hwz]; exact HS1.out _ (Below.refl _ _).drew
   refine wp_region_L 13 (fun (w : World) => (w.cell? ⟨xb, 1, none⟩ = some (.slice aq j cq) ∧ xb < w.heap.size) ∧ (w.cell? ⟨rb, 19, none⟩ = some (.slice (some ⟨kb, 0, none⟩) hh sc) ∧ rb < w.heap.size) ∧ w.cell? ⟨kb, j * 2, none⟩ = some (.int .i64 kk) ∧ w.cell? ⟨kb, j * 2 + 1, none⟩ = some (.int .u64 yy) ∧ kb < w.heap.size) (fun _ => True) (by kernel_rfl) (by rw [hwz]; exact HS9.out) trivial (fun hS0 => ?_)
   rw [hwz] at hS0 ⊢
   refine wpAnyL_take (i := 0) (oi := ⟨some 27, .fieldAddr 65 (.tmp 3) 1, 0, "run.go:225", #[], none⟩) (v := .pointer (some ⟨xb, 1, none⟩)) rfl (by decide) (by kernel_rfl) (by kernel_rfl) (by kernel_rfl) (fun _ _ _ h => h) (Or.inl ⟨by rfl, fun w2 hSw => ?_⟩) hS0 (fun hS1 => ?_)
   ·go_simp
   simp only [Act.put, lsA, lsB, lsC]
   clear hS0
   refine wpAnyL_takeP [11, 13] (i := 1) (oi := ⟨some 28, .load 63 (.tmp 27), 63, "run.go:225", #[⟨0, .data⟩], none⟩) (v := .slice aq j cq) rfl (by decide) (by kernel_rfl) (by kernel_rfl) (by kernel_rfl) (by kernel_rfl) (by kernel_rfl) (fun _ _ _ h => h) (Or.inl ⟨by rfl, fun w2 hSw => ?_⟩) hS1 (fun hS2 => ?_)
   ·obtain ⟨⟨k0, kl⟩, ⟨k1, kp⟩, k2, k3, ks⟩ := hSw
    go_simp
   simp only [Act.put, lsA, lsB, lsC]
   clear hS1
   refine wpAnyL_take (i := 2) (oi := ⟨some 29, .move (.tmp 0), 62, "run.go:225", #[], none⟩) (v := .pointer (some ⟨rb, 0, none⟩)) rfl (by decide) (by kernel_rfl) (by kernel_rfl) (by kernel_rfl) (fun _ _ _ h => h) (Or.inl ⟨by rfl, fun w2 hSw => ?_⟩) hS2 (fun hS3 => ?_)
   ·go_simp
   simp only [Act.put, lsA, lsB, lsC]
   clear hS2
   refine wpAnyL_take (i := 3) (oi := ⟨some 30, .nilCheck (.tmp 29), 0, "run.go:225", #[⟨2, .data⟩], none⟩) (v := .pointer (some ⟨rb, 0, none⟩)) rfl (by decide) (by kernel_rfl) (by kernel_rfl) (by kernel_rfl) (fun _ _ _ h => h) (Or.inl ⟨by rfl, fun w2 hSw => ?_⟩) hS3 (fun hS4 => ?_)
   ·go_simp
   simp only [Act.put, lsA, lsB, lsC]
   clear hS3
   refine wpAnyL_take (i := 4) (oi := ⟨some 31, .fieldAddr 67 (.tmp 30) 3, 0, "run.go:225", #[⟨3, .data⟩], none⟩) (v := .pointer (some ⟨rb, 18, none⟩)) rfl (by decide) (by kernel_rfl) (by kernel_rfl) (by kernel_rfl) (fun _ _ _ h => h) (Or.inl ⟨by rfl, fun w2 hSw => ?_⟩) hS4 (fun hS5 => ?_)
   ·go_simp
   simp only [Act.put, lsA, lsB, lsC]
   clear hS4
   refine wpAnyL_take (i := 5) (oi := ⟨some 32, .fieldAddr 65 (.tmp 31) 1, 0, "run.go:225", #[⟨4, .data⟩], none⟩) (v := .pointer (some ⟨rb, 19, none⟩)) rfl (by decide) (by kernel_rfl) (by kernel_rfl) (by kernel_rfl) (fun _ _ _ h => h) (Or.inl ⟨by rfl, fun w2 hSw => ?_⟩) hS5 (fun hS6 => ?_)
   ·go_simp
   simp only [Act.put, lsA, lsB, lsC]
   clear hS5
   refine wpAnyL_takeP [8, 9, 10, 11, 13] (i := 6) (oi := ⟨some 33, .load 63 (.tmp 32), 63, "run.go:225", #[⟨5, .data⟩], none⟩) (v := .slice (some ⟨kb, 0, none⟩) hh sc) rfl (by decide) (by kernel_rfl) (by kernel_rfl) (by kernel_rfl) (by kernel_rfl) (by kernel_rfl) (fun _ _ _ h => h) (Or.inl ⟨by rfl, fun w2 hSw => ?_⟩) hS6 (fun hS7 => ?_)
   ·obtain ⟨⟨k0, kl⟩, ⟨k1, kp⟩, k2, k3, ks⟩ := hSw
    go_simp
   simp only [Act.put, lsA, lsB, lsC]
   clear hS6
   refine wpAnyL_take (i := 7) (oi := ⟨some 34, .move (.tmp 4), 3, "run.go:225", #[], none⟩) (v := .int .i64 (j : Nat)) rfl (by decide) (by kernel_rfl) (by kernel_rfl) (by kernel_rfl) (fun _ _ _ h => h) (Or.inl ⟨by rfl, fun w2 hSw => ?_⟩) hS7 (fun hS8 => ?_)
   ·go_simp
   simp only [Act.put, lsA, lsB, lsC]
   clear hS7
   refine wpAnyL_take (i := 8) (oi := ⟨some 35, .indexAddr 63 (.tmp 33) (.tmp 34), 0, "run.go:225", #[⟨6, .data⟩, ⟨7, .data⟩], none⟩) (v := .pointer (some ⟨kb, j * 2, none⟩)) rfl (by decide) (by kernel_rfl) (by kernel_rfl) (by kernel_rfl) (fun _ _ _ h => h) (Or.inl ⟨by rfl, fun w2 hSw => ?_⟩) hS8 (fun hS9 => ?_)
   ·go_simp
    all_goals (intro hx; omega)
   simp only [Act.put, lsA, lsB, lsC]
   clear hS8
   refine wpAnyL_takeP [10, 11, 13] (i := 9) (oi := ⟨some 36, .load 56 (.tmp 35), 56, "run.go:225", #[⟨8, .data⟩], none⟩) (v := .agg #[.int .i64 kk, .int .u64 yy]) rfl (by decide) (by kernel_rfl) (by kernel_rfl) (by kernel_rfl) (by kernel_rfl) (by kernel_rfl) (fun _ _ _ h => h) (Or.inl ⟨by rfl, fun w2 hSw => ?_⟩) hS9 (fun hS10 => ?_)
   ·obtain ⟨⟨k0, kl⟩, ⟨k1, kp⟩, k2, k3, ks⟩ := hSw
    go_simp
   simp only [Act.put, lsA, lsB, lsC]
   clear hS9
   have B0 : Hid (Below wr.heap.size wr wz) := by rw [← hwz]; exact (Below.refl _ _).drew
   refine wpAnyL_one (i := 10) (o := ⟨some 37, .buildSlice 63 1 #[(0, .tmp 36)], 63, "run.go:225", #[⟨9, .data⟩], none⟩) (by kernel_rfl) rfl (fun K hK => ?_)
   go_simp
   go_wp2_with fail
   refine hK.out _ _ ⟨fun _ => HS1.out _ (B0.out.trans ((below_alloc1 wz _).mono B0.out.size)), trivial⟩ ?_
   clear hK K
   obtain ⟨vA, wA, hrun, hoA, hgA, _⟩ := run_append_own (P := Tryd.prog) (wz.alloc (.cells #[.int .i64 kk, .int .u64 yy] 56)) (xb + 1) 63 63 56 i0 (.agg #[.int .i64 0, .int .u64 0]) 2 16 Tryd.underlying63 hi hz0 hz1 hz2 rfl (by decide) (.slice aq j cq) j _ (HOW.out _ (B0.out.trans ((below_alloc1 wz _).mono B0.out.size))) ⟨wz.heap.size, 0, none⟩ 1 1 [.int .i64 kk, .int .u64 yy] rfl (cell_two_new _ _ _ _) (by simp [Value.oneCell']) (by unfold maxLen; omega) (by omega) (HSZ.out _ (B0.out.trans ((below_alloc1 wz _).mono B0.out.size)))
   have hst := HAP.out _ _ _ (B0.out.trans ((below_alloc1 wz _).mono B0.out.size)) hoA hgA
   obtain ⟨aoA, capA, hvA⟩ := own_val2 hoA
   have z0 := hst.2.1.1.1
   have zl := hst.2.1.1.2
   have zf := hst.2.2
   have HST := hide hst
   clear hst hoA hgA
   refine wpAnyL_one (i := 11) (o := ⟨some 38, .call { callee := Callee.builtin .append, args := #[.tmp 28, .tmp 37], argTypes := #[63, 63] }, 63, "run.go:225", #[⟨1, .data⟩, ⟨10, .data⟩], none⟩) (by kernel_rfl) rfl (fun K hK => ?_)
   rw [if_pos (by kernel_rfl)]
   refine wp_append1 (.tmp 28) (.tmp 37) 63 rfl (v := .slice aq j cq) (v' := vA) (w' := wA) rfl rfl hrun ?_
   simp only [Act.put, List.setIfInBounds_toArray]
   refine hK.out _ _ ⟨fun _ => HST.out.2.1, trivial⟩ ?_
   clear hK K
   refine wpAnyL_one (i := 12) (o := ⟨some 39, .fieldAddr 65 (.tmp 3) 1, 0, "run.go:225", #[⟨0, .phase⟩, ⟨1, .phase⟩, ⟨2, .phase⟩, ⟨3, .phase⟩, ⟨4, .phase⟩, ⟨5, .phase⟩, ⟨6, .phase⟩, ⟨7, .phase⟩, ⟨8, .phase⟩, ⟨9, .phase⟩, ⟨10, .phase⟩, ⟨11, .phase⟩], none⟩) (by kernel_rfl) rfl (fun K hK => ?_)
   go_simp
   go_wp2_with fail
   refine hK.out _ _ ⟨fun _ => HST.out.2.1, trivial⟩ ?_
   clear hK K
   subst hvA
   clear hrun
   refine wpAnyL_one (i := 13) (o := ⟨none, .store 63 (.tmp 39) (.tmp 38), 0, "run.go:225", #[⟨12, .data⟩, ⟨11, .data⟩, ⟨11, .chain⟩, ⟨0, .phase⟩, ⟨1, .phase⟩, ⟨2, .phase⟩, ⟨3, .phase⟩, ⟨4, .phase⟩, ⟨5, .phase⟩, ⟨6, .phase⟩, ⟨7, .phase⟩, ⟨8, .phase⟩, ⟨9, .phase⟩, ⟨10, .phase⟩, ⟨11, .phase⟩], none⟩) (by kernel_rfl) rfl (fun K hK => ?_)
   go_simp
   go_wp2_with fail
   refine hK.out _ _ ⟨fun h => (by cases (show true = false from h)), trivial⟩ ?_
   clear hK K
   refine wpAnyL_done (by kernel_rfl) ?_ _
   clear HS9

   have HN2 : Hid (∃ v, Sx w xb ((xb + 1)) (xb + 1) #[.int .i64 at0, v, .slice qa ns qc, .int .u64 lf, .int .u64 p0, .int .u64 p1, .int .u64 p2, .bool ov] v (j + 1) s.sk s.sv (.slice none 0 0) 0 s.sk s.sv (wA.setCell ⟨xb, 1, none⟩ (.slice aoA (j + 1) capA))) := ⟨_, HST.out.1⟩
   clear HST z0 zl zf
   go_wp2
   go_roundw
   case rel => exact ⟨j + 1, by omega, by go_num, HN2⟩
   case measure => simp [intOf]; omega
  ·obtain rfl : hh = j := by omega
   have b2 := block_cell hsx.bx 2
   have f2 := block_free hsx.bx 2
   have bl := block_lt hsx.bx
   simp at b2
   have HSW := hide (hsx.swap 2 c.p.S s.slt)
   have HBL := hide hsx.bel
   obtain ⟨a1, ha1⟩ : ∃ a1, aq = a1 := ⟨_, rfl⟩
   obtain ⟨d1, hd1⟩ : ∃ d1, cq = d1 := ⟨_, rfl⟩
   rw [ha1, hd1] at HSW
   clear hsx HSX ha1 hd1
   go_upto_region 11 with fail
   obtain ⟨B2, hB2⟩ : ∃ B2, wr.heap.size = B2 := ⟨_, rfl⟩
   obtain ⟨w9, hw9⟩ : ∃ w9, wr.setCell ⟨xb, 2, none⟩ (.slice none 0 0) = w9 := ⟨_, rfl⟩
   rw [hw9, hB2] at HSW
   rw [hw9]
   have HR3 : Hid (∃ v, Sx w xb B2 (xb + 1) #[.int .i64 at0, .slice a1 hh d1, v, .int .u64 lf, .int .u64 p0, .int .u64 p1, .int .u64 p2, .bool ov] v 0 c.p.S s.slt (.slice a1 hh d1) hh s.sk s.sv w9) := ⟨_, HSW.out⟩
   clear hw9 hB2 HSW HBL b2 f2 bl y1 yl
   go_loopw [5] (fun i wr => ∃ j : Nat, j ≤ ns ∧ i = .int .i64 (j : Nat) ∧ Hid (∃ v, Sx w xb B2 (xb + 1) #[.int .i64 at0, .slice a1 hh d1, v, .int .u64 lf, .int .u64 p0, .int .u64 p1, .int .u64 p2, .bool ov] v j c.p.S s.slt (.slice a1 hh d1) hh s.sk s.sv wr)) (fun i _ => ns - (intOf i).toNat)
   case atStart => exact ⟨0, by omega, rfl, HR3⟩
   case round =>
    obtain ⟨j, hj, rfl, HJ⟩ := hrel
    clear HR3
    obtain ⟨vJ, hsx⟩ := HJ.out
    obtain ⟨aq, cq, rfl⟩ := own_val2 hsx.ow
    have HSX := hide hsx
    have y1 : wr.cell? ⟨rb, 20, none⟩ = some (.slice qa ns qc) := HM2.out wr hsx.bel
    have yl := HRL.out wr hsx.bel
    clear HJ
    by_cases hlt : j < ns
    ·obtain ⟨kb, hsrc, hk⟩ := HK2.out (by omega)
     obtain ⟨kk, hkk⟩ : ∃ kk, c.p.S j = kk := ⟨_, rfl⟩
     obtain ⟨yy, hyy⟩ : ∃ yy, s.slt j = yy := ⟨_, rfl⟩
     have HS0 : Hid (∀ w' : World, Below w.heap.size w w' → w'.heap[xb]? = some (.cells #[.int .i64 at0, .slice a1 hh d1, .slice aq j cq, .int .u64 lf, .int .u64 p0, .int .u64 p1, .int .u64 p2, .bool ov] 65 (0, 0)) → (fun (w : World) => (w.cell? ⟨xb, 2, none⟩ = some (.slice aq j cq) ∧ xb < w.heap.size) ∧ (w.cell? ⟨rb, 20, none⟩ = some (.slice (some ⟨kb, 0, none⟩) ns qc) ∧ rb < w.heap.size) ∧ w.cell? ⟨kb, j * 2, none⟩ = some (.int .i64 kk) ∧ w.cell? ⟨kb, j * 2 + 1, none⟩ = some (.int .u64 yy) ∧ kb < w.heap.size) w') := fun w' hb hbx => by
      obtain ⟨q1, q2, q3⟩ := hk j hlt w' hb
      have q0 := HM2.out w' hb
      rw [hsrc] at q0
      rw [← hkk, ← hyy]
      exact ⟨⟨(block_cell hbx 2).trans rfl, block_lt hbx⟩, ⟨q0, HRL.out w' hb⟩, q1, q2, q3⟩
     have HS1 : Hid (∀ w' : World, Below wr.heap.size wr w' → (fun (w : World) => (w.cell? ⟨xb, 2, none⟩ = some (.slice aq j cq) ∧ xb < w.heap.size) ∧ (w.cell? ⟨rb, 20, none⟩ = some (.slice (some ⟨kb, 0, none⟩) ns qc) ∧ rb < w.heap.size) ∧ w.cell? ⟨kb, j * 2, none⟩ = some (.int .i64 kk) ∧ w.cell? ⟨kb, j * 2 + 1, none⟩ = some (.int .u64 yy) ∧ kb < w.heap.size) w') := fun w' hb => by
      have q := HSX.out.next hb
      exact HS0.out w' q.bel q.bx
     have HOW : Hid (∀ w' : World, Below wr.heap.size wr w' → w'.ownsRow B2 56 2 (.slice aq j cq) j (vals2 c.p.S s.slt j)) := fun w' hb => own_keep HSX.out.ow hb
     have HSZ : Hid (∀ w' : World, Below wr.heap.size wr w' → B2 ≤ w'.heap.size) := fun w' hb => Nat.le_trans HSX.out.sz hb.size
     have HAP : Hid (∀ (w1 w2 : World) (v' : Value), Below wr.heap.size wr w1 → w2.ownsRow B2 56 2 v' (j + 1) (vals2 c.p.S s.slt j ++ [.int .i64 kk, .int .u64 yy]) → w1.grownBy w2 (Value.slice aq j cq).ownBlock → Sx w xb B2 (xb + 1) #[.int .i64 at0, .slice a1 hh d1, v', .int .u64 lf, .int .u64 p0, .int .u64 p1, .int .u64 p2, .bool ov] v' (j + 1) c.p.S s.slt (.slice a1 hh d1) hh s.sk s.sv (w2.setCell ⟨xb, 2, none⟩ v') ∧ (fun (w : World) => (w.cell? ⟨xb, 2, none⟩ = some (.slice aq j cq) ∧ xb < w.heap.size) ∧ (w.cell? ⟨rb, 20, none⟩ = some (.slice (some ⟨kb, 0, none⟩) ns qc) ∧ rb < w.heap.size) ∧ w.cell? ⟨kb, j * 2, none⟩ = some (.int .i64 kk) ∧ w.cell? ⟨kb, j * 2 + 1, none⟩ = some (.int .u64 yy) ∧ kb < w.heap.size) w2 ∧ w2.frozen? ⟨xb, 2, none⟩ = false) := fun w1 w2 v' hb ho hg => by
      rw [← hkk, ← hyy] at ho
      obtain ⟨q1, q2, q3⟩ := HSX.out.app hb ho hg
      exact ⟨q3 2, HS0.out w2 q2 q1, block_free q1 2⟩
     rw [hsrc] at y1
     clear hsrc hk hkk hyy hsx HS0 HSX
     go_upto_region 13 with fail
     clear y1 yl
     obtain ⟨wz, hwz⟩ : ∃ wz, (wr).drew = wz := ⟨_, rfl⟩
     have HS9 : Hid ((fun (w : World) => (w.cell? ⟨xb, 2, none⟩ = some (.slice aq j cq) ∧ xb < w.heap.size) ∧ (w.cell? ⟨rb, 20, none⟩ = some (.slice (some ⟨kb, 0, none⟩) ns qc) ∧ rb < w.heap.size) ∧ w.cell? ⟨kb, j * 2, none⟩ = some (.int .i64 kk) ∧ w.cell? ⟨kb, j * 2 + 1, none⟩ = some (.int .u64 yy) ∧ kb < w.heap.size) wz) := by rw [← hwz]; exact HS1.out _ (Below.refl _ _).drew
     refine wp_region_L 13 (fun (w : World) => (w.cell? ⟨xb, 2, none⟩ = some (.slice aq j cq) ∧ xb < w.heap.size) ∧ (w.cell? ⟨rb, 20, none⟩ = some (.slice (some ⟨kb, 0, none⟩) ns qc) ∧ rb < w.heap.size) ∧ w.cell? ⟨kb, j * 2, none⟩ = some (.int .i64 kk) ∧ w.cell? ⟨kb, j * 2 + 1, none⟩ = some (.int .u64 yy) ∧ kb < w.heap.size) (fun _ => True) (by kernel_rfl) (by rw [hwz]; exact HS9.out) trivial (fun hS0 => ?_)
     rw [hwz] at hS0 ⊢
     refine wpAnyL_take (i := 0) (oi := ⟨some 51, .fieldAddr 65 (.tmp 3) 2, 0, "run.go:229", #[], none⟩) (v := .pointer (some ⟨xb, 2, none⟩)) rfl (by decide) (by kernel_rfl) (by kernel_rfl) (by kernel_rfl) (fun _ _ _ h => h) (Or.inl ⟨by rfl, fun w2 hSw => ?_⟩) hS0 (fun hS1 => ?_)
     ·go_simp
     simp only [Act.put, lsA, lsB, lsC]
     clear hS0
     refine wpAnyL_takeP [11, 13] (i := 1) (oi := ⟨some 52, .load 63 (.tmp 51), 63, "run.go:229", #[⟨0, .data⟩], none⟩) (v := .slice aq j cq) rfl (by decide) (by kernel_rfl) (by kernel_rfl) (by kernel_rfl) (by kernel_rfl) (by kernel_rfl) (fun _ _ _ h => h) (Or.inl ⟨by rfl, fun w2 hSw => ?_⟩) hS1 (fun hS2 => ?_)
     ·obtain ⟨⟨k0, kl⟩, ⟨k1, kp⟩, k2, k3, ks⟩ := hSw
      go_simp
     simp only [Act.put, lsA, lsB, lsC]
     clear hS1
     refine wpAnyL_take (i := 2) (oi := ⟨some 53, .move (.tmp 0), 62, "run.go:229", #[], none⟩) (v := .pointer (some ⟨rb, 0, none⟩)) rfl (by decide) (by kernel_rfl) (by kernel_rfl) (by kernel_rfl) (fun _ _ _ h => h) (Or.inl ⟨by rfl, fun w2 hSw => ?_⟩) hS2 (fun hS3 => ?_)
     ·go_simp
     simp only [Act.put, lsA, lsB, lsC]
     clear hS2
     refine wpAnyL_take (i := 3) (oi := ⟨some 54, .nilCheck (.tmp 53), 0, "run.go:229", #[⟨2, .data⟩], none⟩) (v := .pointer (some ⟨rb, 0, none⟩)) rfl (by decide) (by kernel_rfl) (by kernel_rfl) (by kernel_rfl) (fun _ _ _ h => h) (Or.inl ⟨by rfl, fun w2 hSw => ?_⟩) hS3 (fun hS4 => ?_)
     ·go_simp
     simp only [Act.put, lsA, lsB, lsC]
     clear hS3
     refine wpAnyL_take (i := 4) (oi := ⟨some 55, .fieldAddr 67 (.tmp 54) 3, 0, "run.go:229", #[⟨3, .data⟩], none⟩) (v := .pointer (some ⟨rb, 18, none⟩)) rfl (by decide) (by kernel_rfl) (by kernel_rfl) (by kernel_rfl) (fun _ _ _ h => h) (Or.inl ⟨by rfl, fun w2 hSw => ?_⟩) hS4 (fun hS5 => ?_)
     ·go_simp
     simp only [Act.put, lsA, lsB, lsC]
     clear hS4
     refine wpAnyL_take (i := 5) (oi := ⟨some 56, .fieldAddr 65 (.tmp 55) 2, 0, "run.go:229", #[⟨4, .data⟩], none⟩) (v := .pointer (some ⟨rb, 20, none⟩)) rfl (by decide) (by kernel_rfl) (by kernel_rfl) (by kernel_rfl) (fun _ _ _ h => h) (Or.inl ⟨by rfl, fun w2 hSw => ?_⟩) hS5 (fun hS6 => ?_)
     ·go_simp
     simp only [Act.put, lsA, lsB, lsC]
     clear hS5
     refine wpAnyL_takeP [8, 9, 10, 11, 13] (i := 6) (oi := ⟨some 57, .load 63 (.tmp 56), 63, "run.go:229", #[⟨5, .data⟩], none⟩) (v := .slice (some ⟨kb, 0, none⟩) ns qc) rfl (by decide) (by kernel_rfl) (by kernel_rfl) (by kernel_rfl) (by kernel_rfl) (by kernel_rfl) (fun _ _ _ h => h) (Or.inl ⟨by rfl, fun w2 hSw => ?_⟩) hS6 (fun hS7 => ?_)
     ·obtain ⟨⟨k0, kl⟩, ⟨k1, kp⟩, k2, k3, ks⟩ := hSw
      go_simp
     simp only [Act.put, lsA, lsB, lsC]
     clear hS6
     refine wpAnyL_take (i := 7) (oi := ⟨some 58, .move (.tmp 5), 3, "run.go:229", #[], none⟩) (v := .int .i64 (j : Nat)) rfl (by decide) (by kernel_rfl) (by kernel_rfl) (by kernel_rfl) (fun _ _ _ h => h) (Or.inl ⟨by rfl, fun w2 hSw => ?_⟩) hS7 (fun hS8 => ?_)
     ·go_simp
     simp only [Act.put, lsA, lsB, lsC]
     clear hS7
     refine wpAnyL_take (i := 8) (oi := ⟨some 59, .indexAddr 63 (.tmp 57) (.tmp 58), 0, "run.go:229", #[⟨6, .data⟩, ⟨7, .data⟩], none⟩) (v := .pointer (some ⟨kb, j * 2, none⟩)) rfl (by decide) (by kernel_rfl) (by kernel_rfl) (by kernel_rfl) (fun _ _ _ h => h) (Or.inl ⟨by rfl, fun w2 hSw => ?_⟩) hS8 (fun hS9 => ?_)
     ·go_simp
      all_goals (intro hx; omega)
     simp only [Act.put, lsA, lsB, lsC]
     clear hS8
     refine wpAnyL_takeP [10, 11, 13] (i := 9) (oi := ⟨some 60, .load 56 (.tmp 59), 56, "run.go:229", #[⟨8, .data⟩], none⟩) (v := .agg #[.int .i64 kk, .int .u64 yy]) rfl (by decide) (by kernel_rfl) (by kernel_rfl) (by kernel_rfl) (by kernel_rfl) (by kernel_rfl) (fun _ _ _ h => h) (Or.inl ⟨by rfl, fun w2 hSw => ?_⟩) hS9 (fun hS10 => ?_)
     ·obtain ⟨⟨k0, kl⟩, ⟨k1, kp⟩, k2, k3, ks⟩ := hSw
      go_simp
     simp only [Act.put, lsA, lsB, lsC]
     clear hS9
     have B0 : Hid (Below wr.heap.size wr wz) := by rw [← hwz]; exact (Below.refl _ _).drew
     refine wpAnyL_one (i := 10) (o := ⟨some 61, .buildSlice 63 1 #[(0, .tmp 60)], 63, "run.go:229", #[⟨9, .data⟩], none⟩) (by kernel_rfl) rfl (fun K hK => ?_)
     go_simp
     go_wp2_with fail
     refine hK.out _ _ ⟨fun _ => HS1.out _ (B0.out.trans ((below_alloc1 wz _).mono B0.out.size)), trivial⟩ ?_
     clear hK K
     obtain ⟨vA, wA, hrun, hoA, hgA, _⟩ := run_append_own (P := Tryd.prog) (wz.alloc (.cells #[.int .i64 kk, .int .u64 yy] 56)) B2 63 63 56 i0 (.agg #[.int .i64 0, .int .u64 0]) 2 16 Tryd.underlying63 hi hz0 hz1 hz2 rfl (by decide) (.slice aq j cq) j _ (HOW.out _ (B0.out.trans ((below_alloc1 wz _).mono B0.out.size))) ⟨wz.heap.size, 0, none⟩ 1 1 [.int .i64 kk, .int .u64 yy] rfl (cell_two_new _ _ _ _) (by simp [Value.oneCell']) (by unfold maxLen; omega) (by omega) (HSZ.out _ (B0.out.trans ((below_alloc1 wz _).mono B0.out.size)))
     have hst := HAP.out _ _ _ (B0.out.trans ((below_alloc1 wz _).mono B0.out.size)) hoA hgA
     obtain ⟨aoA, capA, hvA⟩ := own_val2 hoA
     have z0 := hst.2.1.1.1
     have zl := hst.2.1.1.2
     have zf := hst.2.2
     have HST := hide hst
     clear hst hoA hgA
     refine wpAnyL_one (i := 11) (o := ⟨some 62, .call { callee := Callee.builtin .append, args := #[.tmp 52, .tmp 61], argTypes := #[63, 63] }, 63, "run.go:229", #[⟨1, .data⟩, ⟨10, .data⟩], none⟩) (by kernel_rfl) rfl (fun K hK => ?_)
     rw [if_pos (by kernel_rfl)]
     refine wp_append1 (.tmp 52) (.tmp 61) 63 rfl (v := .slice aq j cq) (v' := vA) (w' := wA) rfl rfl hrun ?_
     simp only [Act.put, List.setIfInBounds_toArray]
     refine hK.out _ _ ⟨fun _ => HST.out.2.1, trivial⟩ ?_
     clear hK K
     refine wpAnyL_one (i := 12) (o := ⟨some 63, .fieldAddr 65 (.tmp 3) 2, 0, "run.go:229", #[⟨0, .phase⟩, ⟨1, .phase⟩, ⟨2, .phase⟩, ⟨3, .phase⟩, ⟨4, .phase⟩, ⟨5, .phase⟩, ⟨6, .phase⟩, ⟨7, .phase⟩, ⟨8, .phase⟩, ⟨9, .phase⟩, ⟨10, .phase⟩, ⟨11, .phase⟩], none⟩) (by kernel_rfl) rfl (fun K hK => ?_)
     go_simp
     go_wp2_with fail
     refine hK.out _ _ ⟨fun _ => HST.out.2.1, trivial⟩ ?_
     clear hK K
     subst hvA
     clear hrun
     refine wpAnyL_one (i := 13) (o := ⟨none, .store 63 (.tmp 63) (.tmp 62), 0, "run.go:229", #[⟨12, .data⟩, ⟨11, .data⟩, ⟨11, .chain⟩, ⟨0, .phase⟩, ⟨1, .phase⟩, ⟨2, .phase⟩, ⟨3, .phase⟩, ⟨4, .phase⟩, ⟨5, .phase⟩, ⟨6, .phase⟩, ⟨7, .phase⟩, ⟨8, .phase⟩, ⟨9, .phase⟩, ⟨10, .phase⟩, ⟨11, .phase⟩], none⟩) (by kernel_rfl) rfl (fun K hK => ?_)
     go_simp
     go_wp2_with fail
     refine hK.out _ _ ⟨fun h => (by cases (show true = false from h)), trivial⟩ ?_
     clear hK K
     refine wpAnyL_done (by kernel_rfl) ?_ _
     clear HS9

     have HN2 : Hid (∃ v, Sx w xb B2 (xb + 1) #[.int .i64 at0, .slice a1 hh d1, v, .int .u64 lf, .int .u64 p0, .int .u64 p1, .int .u64 p2, .bool ov] v (j + 1) c.p.S s.slt (.slice a1 hh d1) hh s.sk s.sv (wA.setCell ⟨xb, 2, none⟩ (.slice aoA (j + 1) capA))) := ⟨_, HST.out.1⟩
     clear HST z0 zl zf
     go_wp2
     go_roundw
     case rel => exact ⟨j + 1, by omega, by go_num, HN2⟩
     case measure => simp [intOf]; omega
    ·obtain rfl : j = ns := by omega
     have ex0 := block_cell hsx.bx 0
     have ex1 := block_cell hsx.bx 1
     have ex2 := block_cell hsx.bx 2
     have ex3 := block_cell hsx.bx 3
     have ex4 := block_cell hsx.bx 4
     have ex5 := block_cell hsx.bx 5
     have ex6 := block_cell hsx.bx 6
     have ex7 := block_cell hsx.bx 7
     have exl := block_lt hsx.bx
     have v0 := block_cell hsx.ob 0
     have v1 := block_cell hsx.ob 1
     have v2 := block_cell hsx.ob 2
     have v3 := block_cell hsx.ob 3
     have v4 := block_cell hsx.ob 4
     have v5 := block_cell hsx.ob 5
     have v6 := block_cell hsx.ob 6
     have v7 := block_cell hsx.ob 7
     have f0 := block_free hsx.ob 0
     have f1 := block_free hsx.ob 1
     have f2 := block_free hsx.ob 2
     have f3 := block_free hsx.ob 3
     have f4 := block_free hsx.ob 4
     have f5 := block_free hsx.ob 5
     have f6 := block_free hsx.ob 6
     have f7 := block_free hsx.ob 7
     have vl := block_lt hsx.ob
     simp at ex0 ex1 ex2 ex3 ex4 ex5 ex6 ex7 v0 v1 v2 v3 v4 v5 v6 v7
     have HGS : Hid (∀ wf, set8 wr w.heap.size (.int .i64 at0) (.slice a1 hh d1) (.slice aq j cq) (.int .u64 lf) (.int .u64 p0) (.int .u64 p1) (.int .u64 p2) (.bool ov) = wf → wr.grownBy wf (some w.heap.size) ∧ wf.heap[w.heap.size]? = some (.cells #[.int .i64 at0, .slice a1 hh d1, .slice aq j cq, .int .u64 lf, .int .u64 p0, .int .u64 p1, .int .u64 p2, .bool ov] 65 (0, 0))) := fun wf e => set8_blk HSX.out.ob rfl e
     have hxw : ¬ xb = w.heap.size := by have := hsx.l0; omega
     clear hsx
     go_wp2
     generalize hwf : World.setCell _ _ _ = wf
     obtain ⟨g1, g2⟩ := HGS.out wf hwf
     have HE : Hid (Cv wf (.slice a1 hh d1) hh s.sk s.sv ∧ Cv wf (.slice aq j cq) j c.p.S s.slt ∧ Below w.heap.size w wf) := by
      have q := HSX.out
      exact ⟨Cv.of (own_offT q.ou q.ob (by decide) g1), Cv.of (own_offT q.ow q.ob (by decide) g1), q.bel.grown g1 q.bel.size (fun z e => by cases e; exact Nat.le_refl _)⟩
     have c0 := block_cell g2 0
     have c1 := block_cell g2 1
     have c2 := block_cell g2 2
     have c3 := block_cell g2 3
     have c4 := block_cell g2 4
     have c5 := block_cell g2 5
     have c6 := block_cell g2 6
     have c7 := block_cell g2 7
     simp at c0 c1 c2 c3 c4 c5 c6 c7
     clear g1 g2 v0 v1 v2 v3 v4 v5 v6 v7 f0 f1 f2 f3 f4 f5 f6 f7 vl hwf
     refine bodyPost_ret (v := .agg #[.int .i64 at0, .slice a1 hh d1, .slice aq j cq, .int .u64 lf, .int .u64 p0, .int .u64 p1, .int .u64 p2, .bool ov]) (by simp [results, Tryd.results21, go_sem, c0, c1, c2, c3, c4, c5, c6, c7]) rfl ?_
     exact ⟨a1, d1, aq, cq, by rw [HOH.out], HE⟩

end Go.Proofs.YtmoklddfaocihaaDoor
