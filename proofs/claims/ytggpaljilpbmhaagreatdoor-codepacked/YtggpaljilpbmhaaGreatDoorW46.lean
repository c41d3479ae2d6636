import Derived.Test.YtggpaljilpbmhaaGreatDoorW38
import Derived.WalkMore
namespace Go.Proofs.YtggpaljilpbmhaaGreatDoor
open Go.RowKit

section
variable {c : Mc} {mb : Nat} {w : World} {p : Pv} {k : Kn} {s0 : Ms}
theorem below_da (W : World) (o : Obj) : Below W.heap.size W (W.drew.alloc o) := ((Below.refl _ W).drew).alloc (Nat.le_refl _) o
theorem Stk.kind {s : Ms} {l : List Bool} (h : Stk s l) {i : Nat} (hf : fits p i l) {j : Nat} {b : Bool} (hj : (tkB p i)[(tkB p i).length - 1 - j]? = some b) (hl : j < (tkB p i).length) : s.sk (s.h - 1 - j) = bI b := by
 have hh := h.h
 obtain ⟨f1, f2, _⟩ := hf
 rw [← f2] at hj
 rw [List.getElem?_drop] at hj
 have f3 := congrArg List.length f2
 rw [List.length_drop] at f3
 have e : l.length - (tkB p i).length + ((List.drop (l.length - (tkB p i).length) l).length - 1 - j) = s.h - 1 - j := by
  rw [List.length_drop]
  omega
 rw [e] at hj
 exact h.k _ _ hj
theorem ops_yes {o : Nat} {hd : Int} {s : Ms} (h : (opS o hd s).2 = true) : (opS o hd s).1.pc = s.pc := by
 unfold opS at h ⊢
 split
 ·rfl
 rename_i a1
 rw [if_neg a1] at h
 split
 ·rfl
 rename_i a2
 rw [if_neg a2] at h
 split
 ·rename_i a3
  rw [if_pos a3] at h
  split
  ·rfl
  ·rename_i a4
   rw [if_neg a4] at h
   cases h
 rename_i a3
 rw [if_neg a3] at h
 split
 ·rename_i a4
  rw [if_pos a4] at h
  split
  ·rfl
  ·rename_i a5
   rw [if_neg a5] at h
   cases h
 rename_i a4
 rw [if_neg a4] at h
 split
 ·rename_i a5
  rw [if_pos a5] at h
  cases h
 rename_i a5
 rw [if_neg a5] at h
 split
 ·rename_i a6
  rw [if_pos a6] at h
  cases h
 ·rfl
theorem ops_no {o : Nat} {hd : Int} {s : Ms} (h : (opS o hd s).2 = false) : (opS o hd s).1.ov = true := by
 unfold opS at h ⊢
 split
 ·rename_i a
  rw [if_pos a] at h
  cases h
 rename_i a1
 rw [if_neg a1] at h
 split
 ·rename_i a
  rw [if_pos a] at h
  cases h
 rename_i a2
 rw [if_neg a2] at h
 split
 ·rename_i a3
  rw [if_pos a3] at h
  split
  ·rename_i a4
   rw [if_pos a4] at h
   cases h
  ·rfl
 rename_i a3
 rw [if_neg a3] at h
 split
 ·rename_i a4
  rw [if_pos a4] at h
  split
  ·rename_i a5
   rw [if_pos a5] at h
   cases h
  ·rfl
 rename_i a4
 rw [if_neg a4] at h
 split
 ·rfl
 rename_i a5
 rw [if_neg a5] at h
 split
 ·rfl
 ·rename_i a6
  rw [if_neg a6] at h
  cases h
set_option maxRecDepth 10000 in
set_option maxHeartbeats 16000000 in
theorem carryC {cb co cc ib io ic : Nat} (he : Me p k c.ek c.ev c.hd) (hr : Mr c p mb cb co cc ib io ic w) (ht : Tm p k c.hd s0) (h : Pm c mb s0 w) (most : Nat) (hm : most < 9223372036854775808) : Calls Tryz.prog 33 #[.pointer (some ⟨mb, 0, none⟩), .int .i64 (most : Nat)] w fun e w' => e = .returned (.tuple #[]) ∧ Hid (Gm c mb (runN p c.ek c.ev c.hd most s0) w w') := by
 obtain ⟨sE, hsE⟩ : ∃ sE, runN p c.ek c.ev c.hd most s0 = sE := ⟨_, rfl⟩
 rw [hsE]
 have H0 : Hid (Iv c mb p k w sE most s0 w) := ⟨⟨h, grown_below (Below.refl _ _)⟩, ht, hsE⟩
 have HME := hide he
 have HWF := hide he.wf
 have HHD := hide he.h1
 have HMR0 := hide hr
 clear he hr ht h hsE
 go_enter Tryz.func33, Tryz.ntmps33
 go_wp2
 go_step3
 go_wp2
 go_step3
 go_wp2
 go_loopw [1] (fun v wr => ∃ r : Nat, r ≤ most ∧ v = .int .i64 (r : Nat) ∧ Hid (∃ s, Iv c mb p k w sE r s wr)) (fun v _ => (intOf v).toNat)
 case atStart => exact ⟨most, Nat.le_refl _, rfl, s0, H0.out⟩
 case round =>
  obtain ⟨r, hr, rfl, HJ⟩ := hrel
  obtain ⟨s, hI⟩ := HJ.out
  have HI := hide hI
  clear hI HJ
  have ml0 := HI.out.g.1.lt
  have c411 : wr.cell? ⟨mb, 411, none⟩ = some (.bool s.ov) := HI.out.g.1.cell (i := 411) (by decide)
  by_cases r0 : r = 0
  ·subst r0
   have HZ := hide (HI.out.fin (.inr rfl))
   clear HI
   generalize s.ov = b at *
   go_wp2
   simp only [Exit.noGoto_normal]
   go_end0
   exact ⟨rfl, HZ⟩
  obtain ⟨q, rfl⟩ : ∃ q, r = q + 1 := ⟨r - 1, by omega⟩
  clear r0
  cases hov : s.ov with
  | true =>
   have HZ := hide (HI.out.fin (.inl hov))
   rw [hov] at c411
   clear HI hov
   go_wp2
   simp only [Exit.noGoto_normal]
   go_end0
   exact ⟨rfl, HZ⟩
  | false =>
   rw [hov] at c411
   have HOV := hide hov
   clear hov
   have HTM := hide HI.out.t
   obtain ⟨i, l, hi, hin, h64, hlt, hly, hs, hft⟩ := HTM.out.ops HME.out.fl HOV.out
   obtain ⟨o1, o2, hcast⟩ := op_nat (HWF.out.ins i hin)
   obtain ⟨o, hop⟩ : ∃ o, (p.op i).toNat = o := ⟨_, rfl⟩
   obtain ⟨a, ha⟩ : ∃ a, p.arg i = a := ⟨_, rfl⟩
   have hpt : s.pc.toNat = i := by rw [hi]; rfl
   have HPC := hide hpt
   have HOP1 := hide hop
   have HOP : Hid ((p.op s.pc.toNat).toNat = o) := by show _ = _; rw [hpt]; exact hop
   have HAR : Hid (argF p o (p.arg i) = true) := by have := (HWF.out.ins i hin).a; rw [hop] at this; exact this
   have HA := hide ha
   have H64 := hide h64
   have HLY := hide hly
   have HSK := hide hs
   have HFT := hide hft
   have HL0 : Hid (0 ≤ s.left ∧ s.left ≤ 1000) := ⟨HTM.out.l0, HTM.out.l1⟩
   have hon : p.op i = ((o : Nat) : Int) := by rw [hcast, hop]
   have ho1 : 1 ≤ o := by omega
   have ho2 : o ≤ 32 := by omega
   have HR0 := hide (HMR0.out.grown HI.out.g.2)
   have hin2 : p.n ≤ 1024 := HWF.out.sz.2.2
   have HS : Hid (∀ w', Below wr.heap.size wr w' → (fun (w : World) => w.cell? ⟨mb, 2, none⟩ = some (.slice (some ⟨ib, io, none⟩) p.n ic) ∧ w.cell? ⟨mb, 406, none⟩ = some (.int .i64 (i : Nat)) ∧ mb < w.heap.size ∧ w.cell? ⟨ib, io + i * 2, none⟩ = some (.int .i64 (o : Nat)) ∧ w.cell? ⟨ib, io + i * 2 + 1, none⟩ = some (.int .i64 a) ∧ ib < w.heap.size) w') := fun w' hb => by
    have mr := HR0.out.grown (grown_below hb)
    have pm := HI.out.g.1.below hb
    have q1 := mr.vo i hin
    have q2 := mr.va i hin
    rw [hon] at q1
    rw [ha] at q2
    have e2 : fcell c s 2 = .slice (some ⟨ib, io, none⟩) p.n ic := by show c.vI = _; exact (mr.I (by omega)).1
    have e3 : fcell c s 406 = .int .i64 ((i : Nat) : Int) := by show Value.int .i64 s.pc = _; rw [hi]
    exact ⟨(pm.cell (i := 2) (by decide)).trans (by rw [e2]), (pm.cell (i := 406) (by decide)).trans (by rw [e3]), pm.lt, q1, q2, (mr.I (by omega)).2.2⟩
   have HX : Hid (∀ (sx : Ms) (w3 : World), sx.pc = s.pc → Gm c mb sx w w3 → w3.cell? ⟨mb, 406, none⟩ = some (.int .i64 ((i : Nat) : Int)) ∧ w3.frozen? ⟨mb, 406, none⟩ = false ∧ mb < w3.heap.size ∧ (sx.nxt = stepF p c.ek c.ev c.hd s → Iv c mb p k w sE q (stepF p c.ek c.ev c.hd s) (w3.setCell ⟨mb, 406, none⟩ (.int .i64 ((i + 1 : Nat) : Int))))) := fun sx w3 e g => by
    refine ⟨(g.1.cell (i := 406) (by decide)).trans (by show some (Value.int .i64 sx.pc) = _; rw [e, hi]), g.1.free _, g.1.lt, fun e2 => ?_⟩
    refine HI.out.next HME.out HOV.out ?_
    rw [← e2]
    have e3 : sx.nxt = { sx with pc := ((i + 1 : Nat) : Int) } := by unfold Ms.nxt; rw [e, hi]; rfl
    rw [e3]
    exact ⟨g.1.set (fc_pc _), grown_tr g.2 (grown_setT _ _ _ _)⟩
   have HGo : Hid (∀ (sx : Ms) (w3 : World), Gm c mb sx w w3 → (∃ v, w3.cell? ⟨mb, 406, none⟩ = some v) ∧ w3.frozen? ⟨mb, 406, none⟩ = false ∧ mb < w3.heap.size ∧ (sx.go a = stepF p c.ek c.ev c.hd s → Iv c mb p k w sE q (stepF p c.ek c.ev c.hd s) (w3.setCell ⟨mb, 406, none⟩ (.int .i64 a)))) := fun sx w3 g => by
    refine ⟨⟨_, g.1.cell (i := 406) (by decide)⟩, g.1.free _, g.1.lt, fun e2 => ?_⟩
    refine HI.out.next HME.out HOV.out ?_
    rw [← e2]
    exact ⟨g.1.set (fc_pc _), grown_tr g.2 (grown_setT _ _ _ _)⟩
   have HNx : Hid (∀ w', Gm c mb (stepF p c.ek c.ev c.hd s) w w' → Iv c mb p k w sE q (stepF p c.ek c.ev c.hd s) w') := fun w' g => HI.out.next HME.out HOV.out g
   have HBk : Hid (∀ w', (stepF p c.ek c.ev c.hd s).ov = true → Gm c mb (stepF p c.ek c.ev c.hd s) w w' → Gm c mb sE w w') := fun w' e g => (HI.out.next HME.out HOV.out g).fin (.inl e)
   have HG0 := hide HI.out.g
   clear HI hi hlt hly hs hft o1 o2 hcast hop ha hpt h64 hon
   have HQ2 : Hid (∀ w2, (wr.drew).alloc (.cells #[.int .i64 (o : Nat), .int .i64 a] 42) = w2 → Gm c mb s w w2 ∧ Mr c p mb cb co cc ib io ic w2 ∧ (∀ w', w2.grownBy w' (some mb) → w'.cell? ⟨wr.heap.size, 0, none⟩ = some (.int .i64 (o : Nat)) ∧ w'.cell? ⟨wr.heap.size, 1, none⟩ = some (.int .i64 a) ∧ wr.heap.size < w'.heap.size)) := fun w2 h2 => by
    have B : Below wr.heap.size wr w2 := by rw [← h2]; exact below_da _ _
    have A : w2.heap[wr.heap.size]? = some (.cells #[.int .i64 (o : Nat), .int .i64 a] 42 (0, 0)) := by rw [← h2]; exact alloc_atK _ _
    refine ⟨⟨HG0.out.1.below B, grown_tr HG0.out.2 (grown_below B)⟩, HR0.out.grown (grown_below B), fun w' g => ?_⟩
    have A2 := (g.block _ (block_lt A) (by have := HG0.out.1.lt; simp; omega)).trans A
    have v0 := block_cell A2 0
    have v1 := block_cell A2 1
    simp at v0 v1
    exact ⟨v0, v1, block_lt A2⟩
   have hmb : wr.heap.size ≠ mb := Nat.ne_of_gt ml0
   clear HG0 HR0
   go_upto_region 2 with fail
   obtain ⟨wz, hwz⟩ : ∃ wz, (wr).drew = wz := ⟨_, rfl⟩
   have HS9 : Hid ((fun (w : World) => w.cell? ⟨mb, 2, none⟩ = some (.slice (some ⟨ib, io, none⟩) p.n ic) ∧ w.cell? ⟨mb, 406, none⟩ = some (.int .i64 (i : Nat)) ∧ mb < w.heap.size ∧ w.cell? ⟨ib, io + i * 2, none⟩ = some (.int .i64 (o : Nat)) ∧ w.cell? ⟨ib, io + i * 2 + 1, none⟩ = some (.int .i64 a) ∧ ib < w.heap.size) wz) := by rw [← hwz]; exact HS.out _ (Below.refl _ _).drew
   refine wp_region_L 99 (fun _ => True) (fun (w : World) => w.cell? ⟨mb, 2, none⟩ = some (.slice (some ⟨ib, io, none⟩) p.n ic) ∧ w.cell? ⟨mb, 406, none⟩ = some (.int .i64 (i : Nat)) ∧ mb < w.heap.size ∧ w.cell? ⟨ib, io + i * 2, none⟩ = some (.int .i64 (o : Nat)) ∧ w.cell? ⟨ib, io + i * 2 + 1, none⟩ = some (.int .i64 a) ∧ ib < w.heap.size) (by kernel_rfl) trivial (by rw [hwz]; exact HS9.out) (fun hS0 => ?_)
   rw [hwz] at hS0 ⊢
   refine wpAnyL_take (i := 0) (oi := ⟨some 16, .move (.tmp 0), 80, "machine.go:106", #[], none⟩) (v := .pointer (some ⟨mb, 0, none⟩)) rfl (by decide) (by kernel_rfl) (by kernel_rfl) (by kernel_rfl) (fun _ _ _ h => h) (Or.inl ⟨by rfl, fun w2 hSw => ?_⟩) hS0 (fun hS1 => ?_)
   ·go_simp
   simp only [Act.put, lsA, lsB, lsC]
   clear hS0
   refine wpAnyL_take (i := 1) (oi := ⟨some 17, .nilCheck (.tmp 16), 0, "machine.go:106", #[⟨0, .data⟩], none⟩) (v := .pointer (some ⟨mb, 0, none⟩)) rfl (by decide) (by kernel_rfl) (by kernel_rfl) (by kernel_rfl) (fun _ _ _ h => h) (Or.inl ⟨by rfl, fun w2 hSw => ?_⟩) hS1 (fun hS2 => ?_)
   ·obtain ⟨k1, k2, kl, k3, k4, il⟩ := hSw
    go_simp
   simp only [Act.put, lsA, lsB, lsC]
   clear hS1
   refine wpAnyL_take (i := 2) (oi := ⟨some 18, .fieldAddr 140 (.tmp 17) 2, 0, "machine.go:106", #[⟨1, .data⟩], none⟩) (v := .pointer (some ⟨mb, 2, none⟩)) rfl (by decide) (by kernel_rfl) (by kernel_rfl) (by kernel_rfl) (fun _ _ _ h => h) (Or.inl ⟨by rfl, fun w2 hSw => ?_⟩) hS2 (fun hS3 => ?_)
   ·go_simp
   simp only [Act.put, lsA, lsB, lsC]
   clear hS2
   refine wpAnyL_take (i := 3) (oi := ⟨some 19, .load 25 (.tmp 18), 25, "machine.go:106", #[⟨2, .data⟩], none⟩) (v := .slice (some ⟨ib, io, none⟩) p.n ic) rfl (by decide) (by kernel_rfl) (by kernel_rfl) (by kernel_rfl) (fun _ _ _ h => h) (Or.inl ⟨by rfl, fun w2 hSw => ?_⟩) hS3 (fun hS4 => ?_)
   ·obtain ⟨k1, k2, kl, k3, k4, il⟩ := hSw
    go_simp
   simp only [Act.put, lsA, lsB, lsC]
   clear hS3
   refine wpAnyL_take (i := 4) (oi := ⟨some 20, .move (.tmp 0), 80, "machine.go:106", #[], none⟩) (v := .pointer (some ⟨mb, 0, none⟩)) rfl (by decide) (by kernel_rfl) (by kernel_rfl) (by kernel_rfl) (fun _ _ _ h => h) (Or.inl ⟨by rfl, fun w2 hSw => ?_⟩) hS4 (fun hS5 => ?_)
   ·go_simp
   simp only [Act.put, lsA, lsB, lsC]
   clear hS4
   refine wpAnyL_take (i := 5) (oi := ⟨some 21, .nilCheck (.tmp 20), 0, "machine.go:106", #[⟨4, .data⟩], none⟩) (v := .pointer (some ⟨mb, 0, none⟩)) rfl (by decide) (by kernel_rfl) (by kernel_rfl) (by kernel_rfl) (fun _ _ _ h => h) (Or.inl ⟨by rfl, fun w2 hSw => ?_⟩) hS5 (fun hS6 => ?_)
   ·obtain ⟨k1, k2, kl, k3, k4, il⟩ := hSw
    go_simp
   simp only [Act.put, lsA, lsB, lsC]
   clear hS5
   refine wpAnyL_take (i := 6) (oi := ⟨some 22, .fieldAddr 140 (.tmp 21) 9, 0, "machine.go:106", #[⟨5, .data⟩], none⟩) (v := .pointer (some ⟨mb, 406, none⟩)) rfl (by decide) (by kernel_rfl) (by kernel_rfl) (by kernel_rfl) (fun _ _ _ h => h) (Or.inl ⟨by rfl, fun w2 hSw => ?_⟩) hS6 (fun hS7 => ?_)
   ·go_simp
   simp only [Act.put, lsA, lsB, lsC]
   clear hS6
   refine wpAnyL_take (i := 7) (oi := ⟨some 23, .load 3 (.tmp 22), 3, "machine.go:106", #[⟨6, .data⟩], none⟩) (v := .int .i64 (i : Nat)) rfl (by decide) (by kernel_rfl) (by kernel_rfl) (by kernel_rfl) (fun _ _ _ h => h) (Or.inl ⟨by rfl, fun w2 hSw => ?_⟩) hS7 (fun hS8 => ?_)
   ·obtain ⟨k1, k2, kl, k3, k4, il⟩ := hSw
    go_simp
   simp only [Act.put, lsA, lsB, lsC]
   clear hS7
   refine wpAnyL_take (i := 8) (oi := ⟨some 24, .indexAddr 25 (.tmp 19) (.tmp 23), 0, "machine.go:106", #[⟨3, .data⟩, ⟨7, .data⟩], none⟩) (v := .pointer (some ⟨ib, io + i * 2, none⟩)) rfl (by decide) (by kernel_rfl) (by kernel_rfl) (by kernel_rfl) (fun _ _ _ h => h) (Or.inl ⟨by rfl, fun w2 hSw => ?_⟩) hS8 (fun hS9 => ?_)
   ·go_simp
    all_goals (intro hx; omega)
   simp only [Act.put, lsA, lsB, lsC]
   clear hS8
   refine wpAnyL_take (i := 9) (oi := ⟨some 25, .load 42 (.tmp 24), 42, "machine.go:106", #[⟨8, .data⟩], none⟩) (v := .agg #[.int .i64 (o : Nat), .int .i64 a]) rfl (by decide) (by kernel_rfl) (by kernel_rfl) (by kernel_rfl) (fun _ _ _ h => h) (Or.inl ⟨by rfl, fun w2 hSw => ?_⟩) hS9 (fun hS10 => ?_)
   ·obtain ⟨k1, k2, kl, k3, k4, il⟩ := hSw
    go_simp
   simp only [Act.put, lsA, lsB, lsC]
   clear hS9
   clear hS10
   refine wpAnyL_one (i := 10) (o := ⟨some 4, .alloc 42, 0, "machine.go:106", #[], none⟩) (by kernel_rfl) rfl (fun K hK => ?_)
   go_simp
   go_wp2_with fail
   refine hK.out _ _ ⟨fun _ => trivial, HS.out _ (by rw [← hwz]; exact below_da _ _)⟩ ?_
   clear hK K
   refine wpAnyL_one (i := 11) (o := ⟨none, .store 42 (.tmp 4) (.tmp 25), 0, "machine.go:106", #[⟨10, .data⟩, ⟨9, .data⟩, ⟨0, .phase⟩, ⟨1, .phase⟩, ⟨2, .phase⟩, ⟨3, .phase⟩, ⟨4, .phase⟩, ⟨5, .phase⟩, ⟨6, .phase⟩, ⟨7, .phase⟩, ⟨8, .phase⟩, ⟨9, .phase⟩, ⟨10, .phase⟩], none⟩) (by kernel_rfl) rfl (fun K hK => ?_)
   go_simp
   go_wp2_with fail
   refine hK.out _ _ ⟨fun _ => trivial, HS.out _ (by rw [← hwz]; exact below_da _ _)⟩ ?_
   clear hK K
   refine wpAnyL_done (by kernel_rfl) ?_ _
   clear HS9
   have HQ3 := hide (HQ2.out _ (by rw [hwz]))
   clear HQ2 HS
   obtain ⟨w2, hw2⟩ : ∃ w2, wz.alloc (.cells #[.int .i64 (o : Nat), .int .i64 a] 42) = w2 := ⟨_, rfl⟩
   have hzs : wz.heap.size = wr.heap.size := by rw [← hwz]; rfl
   rw [hzs]
   rw [hw2] at HQ3 ⊢
   clear hw2 hwz hzs c411
   obtain ⟨vb, hvb⟩ : ∃ vb, wr.heap.size = vb := ⟨_, rfl⟩
   rw [hvb] at HQ3 hmb ⊢
   clear hvb ml0
   have HG := hide HQ3.out.1
   have HMR := hide HQ3.out.2.1
   have HV := hide HQ3.out.2.2
   clear HQ3
   have ml := HG.out.1.lt
   have hp406 : True := trivial
   have hcs : o = 1 ∨ o = 2 ∨ o = 3 ∨ o = 4 ∨ o = 5 ∨ o = 6 ∨ o = 7 ∨ o = 25 ∨ o = 26 ∨ o = 30 ∨ o = 31 ∨ o = 32 ∨ o = 27 ∨ o = 28 ∨ (8 ≤ o ∧ o ≤ 24 ∨ o = 29) := by omega
   rcases hcs with rfl | rfl | rfl | rfl | rfl | rfl | rfl | rfl | rfl | rfl | rfl | rfl | rfl | rfl | hd8
   ·as_aux_lemma =>
     clear ho1 ho2 hp406
     obtain ⟨v0, v1, vl⟩ := HV.out _ (show w2.grownBy w2 (some mb) from grown_below (Below.refl _ _))
     have HST : Hid (stepF p c.ek c.ev c.hd s = _) := st1 HOP.out
     have c7 : w2.cell? ⟨mb, 407, none⟩ = some (.int .u64 s.left) := HG.out.1.cell (i := 407) (by decide)
     have f7 := HG.out.1.free 407
     obtain ⟨lf, hlf⟩ : ∃ lf, s.left = lf := ⟨_, rfl⟩
     have HLF := hide hlf
     rw [hlf] at c7 HST HL0
     obtain ⟨hl0, hl1⟩ := HL0.out
     clear hlf HL0
     by_cases ql : lf = 0
     ·subst ql
      rw [if_pos rfl] at HST
      go_wp2_with fail
      refine (stopC HG.out.1 2).mono ?_
      rintro e w3 ⟨rfl, G3⟩
      have HZ := hide (HBk.out _ (by rw [HST.out]; rfl) (by rw [HST.out]; exact HG.out.trans G3.out))
      clear HX HGo HBk HNx HV
      go_wp2
      simp only [Exit.noGoto_normal]
      go_end0
      exact ⟨rfl, HZ⟩
     ·rw [if_neg ql] at HST
      have e7 : (lf == 0) = false := by simpa using ql
      have HQ : Hid (Gm c mb { s with left := lf - 1 } w (w2.setCell ⟨mb, 407, none⟩ (.int .u64 (lf - 1)))) := ⟨HG.out.1.set (fc_left (lf - 1)), grown_tr HG.out.2 (grown_setT _ _ _ _)⟩
      have n1 : 0 ≤ lf - 1 := by omega
      have n2 : lf - 1 < 18446744073709551616 := by omega
      have HE : Hid (({ s with left := lf - 1 } : Ms).nxt = stepF p c.ek c.ev c.hd s) := HST.out.symm
      go_upto_region 36 with fail
      obtain ⟨w3, hw3⟩ : ∃ w3, w2.setCell ⟨mb, 407, none⟩ (.int .u64 (lf - 1)) = w3 := ⟨_, rfl⟩
      rw [hw3] at HQ ⊢
      clear hw3 c7 f7
      obtain ⟨t1, t2, t3, T4⟩ := HX.out ({ s with left := lf - 1 }) _ (rfl) (HQ.out)
      have HT4 := hide (T4 (HE.out))
      clear T4
      clear HX HGo HBk HNx HV
      go_wp2
      go_round
      case rel => exact ⟨q, by omega, by go_num, ⟨_, HT4.out⟩⟩
      case measure => simp [intOf]
   ·as_aux_lemma =>
     clear ho1 ho2 hp406
     obtain ⟨v0, v1, vl⟩ := HV.out _ (show w2.grownBy w2 (some mb) from grown_below (Below.refl _ _))
     have HST : Hid (stepF p c.ek c.ev c.hd s = _) := st2 HOP.out
     have hpl := isPl_nat (show isPl (p.arg i) p.nc = true by simpa [argF, fArg, formT] using HAR.out)
     obtain ⟨m, hm⟩ : ∃ m, (p.arg i).toNat = m := ⟨_, rfl⟩
     rw [hm] at hpl
     have hmn : m < p.nc := by omega
     have ham : a = ((m : Nat) : Int) := by rw [← HA.out]; exact hpl.1
     obtain ⟨x, hx⟩ : ∃ x, p.C m = x := ⟨_, rfl⟩
     have HST2 : Hid (stepF p c.ek c.ev c.hd s = (s.push 0 x).nxt) := by show _ = _; rw [HST.out, HPC.out, hm, hx]
     have h63 : s.h < 64 := by
      have e1 := tk_of HOP1.out
      have e2 := ly_of HOP1.out
      have := HLY.out
      rw [e1, e2] at this
      simp [colB, fTakes, fLays, formT] at this
      omega
     obtain ⟨mc1, mc2, mc3⟩ := HMR.out.C (by omega)
     have HS : Hid (∀ sx w', Pm c mb sx w' → w2.grownBy w' (some mb) → (fun (w : World) => w.cell? ⟨mb, 1, none⟩ = some (.slice (some ⟨cb, co, none⟩) p.nc cc) ∧ mb < w.heap.size ∧ w.cell? ⟨vb, 1, none⟩ = some (.int .i64 (m : Nat)) ∧ vb < w.heap.size ∧ w.cell? ⟨cb, co + m, none⟩ = some (.int .u64 x) ∧ cb < w.heap.size) w') := fun sx w' h1 h2 => by
      obtain ⟨v0, v1, vl⟩ := HV.out w' h2
      have mr := HMR.out.grown h2
      rw [ham] at v1
      have cx := mr.vc m hmn
      rw [hx] at cx
      exact ⟨(h1.cell (i := 1) (by decide)).trans (by show some c.vC = _; rw [mc1]), h1.lt, v1, vl, cx, (mr.C (by omega)).2.2⟩
     have hnc : p.nc ≤ 256 := HWF.out.sz.1
     clear HST HAR hpl hm ham mc1 mc2 mc3 hx
     go_upto_region 21 with fail
     obtain ⟨wz, hwz⟩ : ∃ wz, (w2).drew = wz := ⟨_, rfl⟩
     have HS9 : Hid ((fun (w : World) => w.cell? ⟨mb, 1, none⟩ = some (.slice (some ⟨cb, co, none⟩) p.nc cc) ∧ mb < w.heap.size ∧ w.cell? ⟨vb, 1, none⟩ = some (.int .i64 (m : Nat)) ∧ vb < w.heap.size ∧ w.cell? ⟨cb, co + m, none⟩ = some (.int .u64 x) ∧ cb < w.heap.size) wz) := by rw [← hwz]; exact HS.out s _ (HG.out.1.below (Below.refl _ _).drew) (grown_below (Below.refl _ _).drew)
     refine wp_region_L 99 (fun _ => True) (fun (w : World) => w.cell? ⟨mb, 1, none⟩ = some (.slice (some ⟨cb, co, none⟩) p.nc cc) ∧ mb < w.heap.size ∧ w.cell? ⟨vb, 1, none⟩ = some (.int .i64 (m : Nat)) ∧ vb < w.heap.size ∧ w.cell? ⟨cb, co + m, none⟩ = some (.int .u64 x) ∧ cb < w.heap.size) (by kernel_rfl) trivial (by rw [hwz]; exact HS9.out) (fun hS0 => ?_)
     rw [hwz] at hS0 ⊢
     refine wpAnyL_take (i := 0) (oi := ⟨some 68, .move (.tmp 0), 80, "machine.go:115", #[], none⟩) (v := .pointer (some ⟨mb, 0, none⟩)) rfl (by decide) (by kernel_rfl) (by kernel_rfl) (by kernel_rfl) (fun _ _ _ h => h) (Or.inl ⟨by rfl, fun w2 hSw => ?_⟩) hS0 (fun hS1 => ?_)
     ·go_simp
     simp only [Act.put, lsA, lsB, lsC]
     clear hS0
     refine wpAnyL_take (i := 1) (oi := ⟨some 69, .move (.tmp 0), 80, "machine.go:115", #[], none⟩) (v := .pointer (some ⟨mb, 0, none⟩)) rfl (by decide) (by kernel_rfl) (by kernel_rfl) (by kernel_rfl) (fun _ _ _ h => h) (Or.inl ⟨by rfl, fun w2 hSw => ?_⟩) hS1 (fun hS2 => ?_)
     ·go_simp
     simp only [Act.put, lsA, lsB, lsC]
     clear hS1
     refine wpAnyL_take (i := 2) (oi := ⟨some 70, .nilCheck (.tmp 69), 0, "machine.go:115", #[⟨1, .data⟩], none⟩) (v := .pointer (some ⟨mb, 0, none⟩)) rfl (by decide) (by kernel_rfl) (by kernel_rfl) (by kernel_rfl) (fun _ _ _ h => h) (Or.inl ⟨by rfl, fun w2 hSw => ?_⟩) hS2 (fun hS3 => ?_)
     ·obtain ⟨k1, kl, k2, vl, k3, cl⟩ := hSw
      go_simp
     simp only [Act.put, lsA, lsB, lsC]
     clear hS2
     refine wpAnyL_take (i := 3) (oi := ⟨some 71, .fieldAddr 140 (.tmp 70) 1, 0, "machine.go:115", #[⟨2, .data⟩], none⟩) (v := .pointer (some ⟨mb, 1, none⟩)) rfl (by decide) (by kernel_rfl) (by kernel_rfl) (by kernel_rfl) (fun _ _ _ h => h) (Or.inl ⟨by rfl, fun w2 hSw => ?_⟩) hS3 (fun hS4 => ?_)
     ·go_simp
     simp only [Act.put, lsA, lsB, lsC]
     clear hS3
     refine wpAnyL_take (i := 4) (oi := ⟨some 72, .load 22 (.tmp 71), 22, "machine.go:115", #[⟨3, .data⟩], none⟩) (v := .slice (some ⟨cb, co, none⟩) p.nc cc) rfl (by decide) (by kernel_rfl) (by kernel_rfl) (by kernel_rfl) (fun _ _ _ h => h) (Or.inl ⟨by rfl, fun w2 hSw => ?_⟩) hS4 (fun hS5 => ?_)
     ·obtain ⟨k1, kl, k2, vl, k3, cl⟩ := hSw
      go_simp
     simp only [Act.put, lsA, lsB, lsC]
     clear hS4
     refine wpAnyL_take (i := 5) (oi := ⟨some 73, .fieldAddr 42 (.tmp 4) 1, 0, "machine.go:115", #[], none⟩) (v := .pointer (some ⟨vb, 1, none⟩)) rfl (by decide) (by kernel_rfl) (by kernel_rfl) (by kernel_rfl) (fun _ _ _ h => h) (Or.inl ⟨by rfl, fun w2 hSw => ?_⟩) hS5 (fun hS6 => ?_)
     ·go_simp
     simp only [Act.put, lsA, lsB, lsC]
     clear hS5
     refine wpAnyL_take (i := 6) (oi := ⟨some 74, .load 3 (.tmp 73), 3, "machine.go:115", #[⟨5, .data⟩], none⟩) (v := .int .i64 (m : Nat)) rfl (by decide) (by kernel_rfl) (by kernel_rfl) (by kernel_rfl) (fun _ _ _ h => h) (Or.inl ⟨by rfl, fun w2 hSw => ?_⟩) hS6 (fun hS7 => ?_)
     ·obtain ⟨k1, kl, k2, vl, k3, cl⟩ := hSw
      go_simp
     simp only [Act.put, lsA, lsB, lsC]
     clear hS6
     refine wpAnyL_take (i := 7) (oi := ⟨some 75, .indexAddr 22 (.tmp 72) (.tmp 74), 0, "machine.go:115", #[⟨4, .data⟩, ⟨6, .data⟩], none⟩) (v := .pointer (some ⟨cb, co + m, none⟩)) rfl (by decide) (by kernel_rfl) (by kernel_rfl) (by kernel_rfl) (fun _ _ _ h => h) (Or.inl ⟨by rfl, fun w2 hSw => ?_⟩) hS7 (fun hS8 => ?_)
     ·go_simp
      all_goals (intro hx; omega)
     simp only [Act.put, lsA, lsB, lsC]
     clear hS7
     refine wpAnyL_take (i := 8) (oi := ⟨some 76, .load 28 (.tmp 75), 28, "machine.go:115", #[⟨7, .data⟩], none⟩) (v := .int .u64 x) rfl (by decide) (by kernel_rfl) (by kernel_rfl) (by kernel_rfl) (fun _ _ _ h => h) (Or.inl ⟨by rfl, fun w2 hSw => ?_⟩) hS8 (fun hS9 => ?_)
     ·obtain ⟨k1, kl, k2, vl, k3, cl⟩ := hSw
      go_simp
     simp only [Act.put, lsA, lsB, lsC]
     clear hS8
     clear hS9
     refine wpAnyL_one (i := 9) (o := ⟨some 77, .call { callee := Callee.value (.func 71), args := #[.tmp 76], argTypes := #[28] }, 134, "machine.go:115", #[⟨8, .data⟩], none⟩) (by kernel_rfl) rfl (fun K hK => ?_)
     go_simp
     go_wp2_with fail
     refine (numberC x wz).mono ?_
     rintro e w4 ⟨rfl, G4⟩
     have P4 := hide ((show Pm c mb s wz by rw [← hwz]; exact HG.out.1.below (Below.refl _ _).drew).below G4.out)
     have W4 : Hid (w2.grownBy w4 (some mb)) := by rw [← hwz] at G4; exact grown_tr (grown_below (Below.refl _ _).drew) (grown_below G4.out)
     go_simp
     refine hK.out _ _ ⟨fun _ => trivial, HS.out s _ P4.out W4.out⟩ ?_
     clear hK K
     refine wpAnyL_one (i := 10) (o := ⟨some 78, .call { callee := Callee.value (.func 70), args := #[.tmp 68, .tmp 77], argTypes := #[80, 134] }, 0, "machine.go:115", #[⟨0, .data⟩, ⟨9, .data⟩, ⟨9, .chain⟩], none⟩) (by kernel_rfl) rfl (fun K hK => ?_)
     go_simp
     go_wp2_with fail
     refine (layC P4.out h63 0 x).mono ?_
     rintro e w5 ⟨rfl, G5⟩
     have W5 : Hid (w2.grownBy w5 (some mb)) := grown_tr W4.out G5.out.2
     go_simp
     refine hK.out _ _ ⟨fun _ => trivial, HS.out _ _ G5.out.1 W5.out⟩ ?_
     clear hK K
     refine wpAnyL_done (by kernel_rfl) ?_ _
     clear HS9
     clear HS
     obtain ⟨t1, t2, t3, T4⟩ := HX.out (s.push 0 x) _ (rfl) (⟨G5.out.1, grown_tr HG.out.2 W5.out⟩)
     have HT4 := hide (T4 (HST2.out.symm))
     clear T4
     clear HX HGo HBk HNx HV
     go_wp2
     go_round
     case rel => exact ⟨q, by omega, by go_num, ⟨_, HT4.out⟩⟩
     case measure => simp [intOf]
   ·as_aux_lemma =>
     clear ho1 ho2 hp406
     obtain ⟨v0, v1, vl⟩ := HV.out _ (show w2.grownBy w2 (some mb) from grown_below (Below.refl _ _))
     have HST : Hid (stepF p c.ek c.ev c.hd s = _) := st3 HOP.out
     have h63 : s.h < 64 := by
      have e1 := tk_of HOP1.out
      have e2 := ly_of HOP1.out
      have := HLY.out
      rw [e1, e2] at this
      simp [colB, fTakes, fLays, formT] at this
      omega
     obtain ⟨v0, v1, vl⟩ := HV.out _ (show w2.grownBy w2 (some mb) from grown_below (Below.refl _ _))
     go_wp2_with fail
     refine (truthC true w2).mono ?_
     rintro e w3 ⟨rfl, G3⟩
     go_wp2_with fail
     refine (layC (HG.out.1.below G3.out) h63 1 (bI true)).mono ?_
     rintro e w4 ⟨rfl, G4⟩
     clear v0 v1 vl
     obtain ⟨t1, t2, t3, T4⟩ := HX.out (s.push 1 1) _ (rfl) (⟨G4.out.1, grown_tr (grown_tr HG.out.2 (grown_below G3.out)) G4.out.2⟩)
     have HT4 := hide (T4 (HST.out.symm))
     clear T4
     clear HX HGo HBk HNx HV
     go_wp2
     go_round
     case rel => exact ⟨q, by omega, by go_num, ⟨_, HT4.out⟩⟩
     case measure => simp [intOf]
   ·as_aux_lemma =>
     clear ho1 ho2 hp406
     obtain ⟨v0, v1, vl⟩ := HV.out _ (show w2.grownBy w2 (some mb) from grown_below (Below.refl _ _))
     have HST : Hid (stepF p c.ek c.ev c.hd s = _) := st4 HOP.out
     have h63 : s.h < 64 := by
      have e1 := tk_of HOP1.out
      have e2 := ly_of HOP1.out
      have := HLY.out
      rw [e1, e2] at this
      simp [colB, fTakes, fLays, formT] at this
      omega
     obtain ⟨v0, v1, vl⟩ := HV.out _ (show w2.grownBy w2 (some mb) from grown_below (Below.refl _ _))
     go_wp2_with fail
     refine (truthC false w2).mono ?_
     rintro e w3 ⟨rfl, G3⟩
     go_wp2_with fail
     refine (layC (HG.out.1.below G3.out) h63 1 (bI false)).mono ?_
     rintro e w4 ⟨rfl, G4⟩
     clear v0 v1 vl
     obtain ⟨t1, t2, t3, T4⟩ := HX.out (s.push 1 0) _ (rfl) (⟨G4.out.1, grown_tr (grown_tr HG.out.2 (grown_below G3.out)) G4.out.2⟩)
     have HT4 := hide (T4 (HST.out.symm))
     clear T4
     clear HX HGo HBk HNx HV
     go_wp2
     go_round
     case rel => exact ⟨q, by omega, by go_num, ⟨_, HT4.out⟩⟩
     case measure => simp [intOf]
   ·as_aux_lemma =>
     clear ho1 ho2 hp406
     obtain ⟨v0, v1, vl⟩ := HV.out _ (show w2.grownBy w2 (some mb) from grown_below (Below.refl _ _))
     have HST : Hid (stepF p c.ek c.ev c.hd s = _) := st5 HOP.out
     have hpl := isPl_nat (show isPl (p.arg i) 8 = true by simpa [argF, fArg, formT] using HAR.out)
     obtain ⟨m, hm⟩ : ∃ m, (p.arg i).toNat = m := ⟨_, rfl⟩
     rw [hm] at hpl
     have hmn : m < 8 := by omega
     have hmn2 : m < 8 := by have := HWF.out.sz; omega
     have ham : a = ((m : Nat) : Int) := by rw [← HA.out]; exact hpl.1
     obtain ⟨x0, hx0⟩ : ∃ x, c.ek m = x := ⟨_, rfl⟩
     obtain ⟨x1, hx1⟩ : ∃ x, c.ev m = x := ⟨_, rfl⟩
     have HST2 : Hid (stepF p c.ek c.ev c.hd s = (s.push x0 x1).nxt) := by show _ = _; rw [HST.out, HPC.out, hm, hx0, hx1]
     have h63 : s.h < 64 := by
      have e1 := tk_of HOP1.out
      have e2 := ly_of HOP1.out
      have := HLY.out
      rw [e1, e2] at this
      simp [colB, fTakes, fLays, formT] at this
      omega
     have HS : Hid (∀ sx w', sx.slt = s.slt → Pm c mb sx w' → w2.grownBy w' (some mb) → (fun (w : World) => mb < w.heap.size ∧ w.cell? ⟨vb, 1, none⟩ = some (.int .i64 (m : Nat)) ∧ vb < w.heap.size ∧ w.cell? ⟨mb, 3 + m * 2, none⟩ = some (.int .i64 x0) ∧ w.cell? ⟨mb, 3 + m * 2 + 1, none⟩ = some (.int .u64 x1)) w') := fun sx w' h0 h1 h2 => by
      obtain ⟨v0, v1, vl⟩ := HV.out w' h2
      rw [ham] at v1
      have q0 := h1.cell (i := 3 + m * 2) (by omega)
      have q1 := h1.cell (i := 3 + m * 2 + 1) (by omega)
      rw [(fc_env (c := c) (s := sx) hmn2).1, hx0] at q0
      rw [(fc_env (c := c) (s := sx) hmn2).2, hx1] at q1
      exact ⟨h1.lt, v1, vl, q0, q1⟩
     clear HST HAR hpl hm ham hx0 hx1
     go_upto_region 23 with fail
     obtain ⟨wz, hwz⟩ : ∃ wz, (w2).drew = wz := ⟨_, rfl⟩
     have HS9 : Hid ((fun (w : World) => mb < w.heap.size ∧ w.cell? ⟨vb, 1, none⟩ = some (.int .i64 (m : Nat)) ∧ vb < w.heap.size ∧ w.cell? ⟨mb, 3 + m * 2, none⟩ = some (.int .i64 x0) ∧ w.cell? ⟨mb, 3 + m * 2 + 1, none⟩ = some (.int .u64 x1)) wz) := by rw [← hwz]; exact HS.out s _ rfl (HG.out.1.below (Below.refl _ _).drew) (grown_below (Below.refl _ _).drew)
     refine wp_region_L 99 (fun _ => True) (fun (w : World) => mb < w.heap.size ∧ w.cell? ⟨vb, 1, none⟩ = some (.int .i64 (m : Nat)) ∧ vb < w.heap.size ∧ w.cell? ⟨mb, 3 + m * 2, none⟩ = some (.int .i64 x0) ∧ w.cell? ⟨mb, 3 + m * 2 + 1, none⟩ = some (.int .u64 x1)) (by kernel_rfl) trivial (by rw [hwz]; exact HS9.out) (fun hS0 => ?_)
     rw [hwz] at hS0 ⊢
     refine wpAnyL_take (i := 0) (oi := ⟨some 85, .move (.tmp 0), 80, "machine.go:119", #[], none⟩) (v := .pointer (some ⟨mb, 0, none⟩)) rfl (by decide) (by kernel_rfl) (by kernel_rfl) (by kernel_rfl) (fun _ _ _ h => h) (Or.inl ⟨by rfl, fun w2 hSw => ?_⟩) hS0 (fun hS1 => ?_)
     ·go_simp
     simp only [Act.put, lsA, lsB, lsC]
     clear hS0
     refine wpAnyL_take (i := 1) (oi := ⟨some 86, .move (.tmp 0), 80, "machine.go:119", #[], none⟩) (v := .pointer (some ⟨mb, 0, none⟩)) rfl (by decide) (by kernel_rfl) (by kernel_rfl) (by kernel_rfl) (fun _ _ _ h => h) (Or.inl ⟨by rfl, fun w2 hSw => ?_⟩) hS1 (fun hS2 => ?_)
     ·go_simp
     simp only [Act.put, lsA, lsB, lsC]
     clear hS1
     refine wpAnyL_take (i := 2) (oi := ⟨some 87, .fieldAddr 42 (.tmp 4) 1, 0, "machine.go:119", #[], none⟩) (v := .pointer (some ⟨vb, 1, none⟩)) rfl (by decide) (by kernel_rfl) (by kernel_rfl) (by kernel_rfl) (fun _ _ _ h => h) (Or.inl ⟨by rfl, fun w2 hSw => ?_⟩) hS2 (fun hS3 => ?_)
     ·go_simp
     simp only [Act.put, lsA, lsB, lsC]
     clear hS2
     refine wpAnyL_take (i := 3) (oi := ⟨some 88, .load 3 (.tmp 87), 3, "machine.go:119", #[⟨2, .data⟩], none⟩) (v := .int .i64 (m : Nat)) rfl (by decide) (by kernel_rfl) (by kernel_rfl) (by kernel_rfl) (fun _ _ _ h => h) (Or.inl ⟨by rfl, fun w2 hSw => ?_⟩) hS3 (fun hS4 => ?_)
     ·obtain ⟨kl, k2, vl, k3, k4⟩ := hSw
      go_simp
     simp only [Act.put, lsA, lsB, lsC]
     clear hS3
     refine wpAnyL_take (i := 4) (oi := ⟨some 89, .nilCheck (.tmp 86), 0, "machine.go:119", #[⟨1, .data⟩], none⟩) (v := .pointer (some ⟨mb, 0, none⟩)) rfl (by decide) (by kernel_rfl) (by kernel_rfl) (by kernel_rfl) (fun _ _ _ h => h) (Or.inl ⟨by rfl, fun w2 hSw => ?_⟩) hS4 (fun hS5 => ?_)
     ·obtain ⟨kl, k2, vl, k3, k4⟩ := hSw
      go_simp
     simp only [Act.put, lsA, lsB, lsC]
     clear hS4
     refine wpAnyL_take (i := 5) (oi := ⟨some 90, .fieldAddr 140 (.tmp 89) 3, 0, "machine.go:119", #[⟨4, .data⟩], none⟩) (v := .pointer (some ⟨mb, 3, none⟩)) rfl (by decide) (by kernel_rfl) (by kernel_rfl) (by kernel_rfl) (fun _ _ _ h => h) (Or.inl ⟨by rfl, fun w2 hSw => ?_⟩) hS5 (fun hS6 => ?_)
     ·go_simp
     simp only [Act.put, lsA, lsB, lsC]
     clear hS5
     refine wpAnyL_take (i := 6) (oi := ⟨some 91, .indexAddr 135 (.tmp 90) (.tmp 88), 0, "machine.go:119", #[⟨5, .data⟩, ⟨3, .data⟩], none⟩) (v := .pointer (some ⟨mb, 3 + m * 2, none⟩)) rfl (by decide) (by kernel_rfl) (by kernel_rfl) (by kernel_rfl) (fun _ _ _ h => h) (Or.inl ⟨by rfl, fun w2 hSw => ?_⟩) hS6 (fun hS7 => ?_)
     ·go_simp
      all_goals (intro hx; omega)
     simp only [Act.put, lsA, lsB, lsC]
     clear hS6
     refine wpAnyL_take (i := 7) (oi := ⟨some 92, .load 134 (.tmp 91), 134, "machine.go:119", #[⟨6, .data⟩], none⟩) (v := .agg #[.int .i64 x0, .int .u64 x1]) rfl (by decide) (by kernel_rfl) (by kernel_rfl) (by kernel_rfl) (fun _ _ _ h => h) (Or.inl ⟨by rfl, fun w2 hSw => ?_⟩) hS7 (fun hS8 => ?_)
     ·obtain ⟨kl, k2, vl, k3, k4⟩ := hSw
      go_simp
     simp only [Act.put, lsA, lsB, lsC]
     clear hS7
     clear hS8
     refine wpAnyL_one (i := 8) (o := ⟨some 93, .call { callee := Callee.value (.func 70), args := #[.tmp 85, .tmp 92], argTypes := #[80, 134] }, 0, "machine.go:119", #[⟨0, .data⟩, ⟨7, .data⟩], none⟩) (by kernel_rfl) rfl (fun K hK => ?_)
     go_simp
     go_wp2_with fail
     have P4 := hide (show Pm c mb s wz by rw [← hwz]; exact HG.out.1.below (Below.refl _ _).drew)
     have W4 : Hid (w2.grownBy wz (some mb)) := by rw [← hwz]; exact grown_below (Below.refl _ _).drew
     refine (layC P4.out h63 x0 x1).mono ?_
     rintro e w5 ⟨rfl, G5⟩
     have W5 : Hid (w2.grownBy w5 (some mb)) := grown_tr W4.out G5.out.2
     go_simp
     refine hK.out _ _ ⟨fun _ => trivial, HS.out (s.push x0 x1) _ rfl G5.out.1 W5.out⟩ ?_
     clear hK K
     refine wpAnyL_done (by kernel_rfl) ?_ _
     clear HS9
     clear HS
     obtain ⟨t1, t2, t3, T4⟩ := HX.out (s.push x0 x1) _ (rfl) (⟨G5.out.1, grown_tr HG.out.2 W5.out⟩)
     have HT4 := hide (T4 (HST2.out.symm))
     clear T4
     clear HX HGo HBk HNx HV
     go_wp2
     go_round
     case rel => exact ⟨q, by omega, by go_num, ⟨_, HT4.out⟩⟩
     case measure => simp [intOf]
   ·as_aux_lemma =>
     clear ho1 ho2 hp406
     obtain ⟨v0, v1, vl⟩ := HV.out _ (show w2.grownBy w2 (some mb) from grown_below (Below.refl _ _))
     have HST : Hid (stepF p c.ek c.ev c.hd s = _) := st6 HOP.out
     have hpl := isPl_nat (show isPl (p.arg i) p.ns = true by simpa [argF, fArg, formT] using HAR.out)
     obtain ⟨m, hm⟩ : ∃ m, (p.arg i).toNat = m := ⟨_, rfl⟩
     rw [hm] at hpl
     have hmn : m < p.ns := by omega
     have hmn2 : m < 128 := by have := HWF.out.sz; omega
     have ham : a = ((m : Nat) : Int) := by rw [← HA.out]; exact hpl.1
     obtain ⟨x0, hx0⟩ : ∃ x, c.kd m = x := ⟨_, rfl⟩
     obtain ⟨x1, hx1⟩ : ∃ x, s.slt m = x := ⟨_, rfl⟩
     have HST2 : Hid (stepF p c.ek c.ev c.hd s = (s.push x0 x1).nxt) := by show _ = _; rw [HST.out, HPC.out, hm, ← HMR.out.kd m hmn, hx0, hx1]
     have h63 : s.h < 64 := by
      have e1 := tk_of HOP1.out
      have e2 := ly_of HOP1.out
      have := HLY.out
      rw [e1, e2] at this
      simp [colB, fTakes, fLays, formT] at this
      omega
     have HS : Hid (∀ sx w', sx.slt = s.slt → Pm c mb sx w' → w2.grownBy w' (some mb) → (fun (w : World) => mb < w.heap.size ∧ w.cell? ⟨vb, 1, none⟩ = some (.int .i64 (m : Nat)) ∧ vb < w.heap.size ∧ w.cell? ⟨mb, 20 + m * 2, none⟩ = some (.int .i64 x0) ∧ w.cell? ⟨mb, 20 + m * 2 + 1, none⟩ = some (.int .u64 x1)) w') := fun sx w' h0 h1 h2 => by
      obtain ⟨v0, v1, vl⟩ := HV.out w' h2
      rw [ham] at v1
      have q0 := h1.cell (i := 20 + m * 2) (by omega)
      have q1 := h1.cell (i := 20 + m * 2 + 1) (by omega)
      rw [(fc_slot (c := c) (s := sx) hmn2).1, hx0] at q0
      rw [(fc_slot (c := c) (s := sx) hmn2).2, h0, hx1] at q1
      exact ⟨h1.lt, v1, vl, q0, q1⟩
     clear HST HAR hpl hm ham hx0 hx1
     go_upto_region 24 with fail
     obtain ⟨wz, hwz⟩ : ∃ wz, (w2).drew = wz := ⟨_, rfl⟩
     have HS9 : Hid ((fun (w : World) => mb < w.heap.size ∧ w.cell? ⟨vb, 1, none⟩ = some (.int .i64 (m : Nat)) ∧ vb < w.heap.size ∧ w.cell? ⟨mb, 20 + m * 2, none⟩ = some (.int .i64 x0) ∧ w.cell? ⟨mb, 20 + m * 2 + 1, none⟩ = some (.int .u64 x1)) wz) := by rw [← hwz]; exact HS.out s _ rfl (HG.out.1.below (Below.refl _ _).drew) (grown_below (Below.refl _ _).drew)
     refine wp_region_L 99 (fun _ => True) (fun (w : World) => mb < w.heap.size ∧ w.cell? ⟨vb, 1, none⟩ = some (.int .i64 (m : Nat)) ∧ vb < w.heap.size ∧ w.cell? ⟨mb, 20 + m * 2, none⟩ = some (.int .i64 x0) ∧ w.cell? ⟨mb, 20 + m * 2 + 1, none⟩ = some (.int .u64 x1)) (by kernel_rfl) trivial (by rw [hwz]; exact HS9.out) (fun hS0 => ?_)
     rw [hwz] at hS0 ⊢
     refine wpAnyL_take (i := 0) (oi := ⟨some 94, .move (.tmp 0), 80, "machine.go:121", #[], none⟩) (v := .pointer (some ⟨mb, 0, none⟩)) rfl (by decide) (by kernel_rfl) (by kernel_rfl) (by kernel_rfl) (fun _ _ _ h => h) (Or.inl ⟨by rfl, fun w2 hSw => ?_⟩) hS0 (fun hS1 => ?_)
     ·go_simp
     simp only [Act.put, lsA, lsB, lsC]
     clear hS0
     refine wpAnyL_take (i := 1) (oi := ⟨some 95, .move (.tmp 0), 80, "machine.go:121", #[], none⟩) (v := .pointer (some ⟨mb, 0, none⟩)) rfl (by decide) (by kernel_rfl) (by kernel_rfl) (by kernel_rfl) (fun _ _ _ h => h) (Or.inl ⟨by rfl, fun w2 hSw => ?_⟩) hS1 (fun hS2 => ?_)
     ·go_simp
     simp only [Act.put, lsA, lsB, lsC]
     clear hS1
     refine wpAnyL_take (i := 2) (oi := ⟨some 96, .fieldAddr 42 (.tmp 4) 1, 0, "machine.go:121", #[], none⟩) (v := .pointer (some ⟨vb, 1, none⟩)) rfl (by decide) (by kernel_rfl) (by kernel_rfl) (by kernel_rfl) (fun _ _ _ h => h) (Or.inl ⟨by rfl, fun w2 hSw => ?_⟩) hS2 (fun hS3 => ?_)
     ·go_simp
     simp only [Act.put, lsA, lsB, lsC]
     clear hS2
     refine wpAnyL_take (i := 3) (oi := ⟨some 97, .load 3 (.tmp 96), 3, "machine.go:121", #[⟨2, .data⟩], none⟩) (v := .int .i64 (m : Nat)) rfl (by decide) (by kernel_rfl) (by kernel_rfl) (by kernel_rfl) (fun _ _ _ h => h) (Or.inl ⟨by rfl, fun w2 hSw => ?_⟩) hS3 (fun hS4 => ?_)
     ·obtain ⟨kl, k2, vl, k3, k4⟩ := hSw
      go_simp
     simp only [Act.put, lsA, lsB, lsC]
     clear hS3
     refine wpAnyL_take (i := 4) (oi := ⟨some 98, .nilCheck (.tmp 95), 0, "machine.go:121", #[⟨1, .data⟩], none⟩) (v := .pointer (some ⟨mb, 0, none⟩)) rfl (by decide) (by kernel_rfl) (by kernel_rfl) (by kernel_rfl) (fun _ _ _ h => h) (Or.inl ⟨by rfl, fun w2 hSw => ?_⟩) hS4 (fun hS5 => ?_)
     ·obtain ⟨kl, k2, vl, k3, k4⟩ := hSw
      go_simp
     simp only [Act.put, lsA, lsB, lsC]
     clear hS4
     refine wpAnyL_take (i := 5) (oi := ⟨some 99, .fieldAddr 140 (.tmp 98) 5, 0, "machine.go:121", #[⟨4, .data⟩], none⟩) (v := .pointer (some ⟨mb, 20, none⟩)) rfl (by decide) (by kernel_rfl) (by kernel_rfl) (by kernel_rfl) (fun _ _ _ h => h) (Or.inl ⟨by rfl, fun w2 hSw => ?_⟩) hS5 (fun hS6 => ?_)
     ·go_simp
     simp only [Act.put, lsA, lsB, lsC]
     clear hS5
     refine wpAnyL_take (i := 6) (oi := ⟨some 100, .indexAddr 137 (.tmp 99) (.tmp 97), 0, "machine.go:121", #[⟨5, .data⟩, ⟨3, .data⟩], none⟩) (v := .pointer (some ⟨mb, 20 + m * 2, none⟩)) rfl (by decide) (by kernel_rfl) (by kernel_rfl) (by kernel_rfl) (fun _ _ _ h => h) (Or.inl ⟨by rfl, fun w2 hSw => ?_⟩) hS6 (fun hS7 => ?_)
     ·go_simp
      all_goals (intro hx; omega)
     simp only [Act.put, lsA, lsB, lsC]
     clear hS6
     refine wpAnyL_take (i := 7) (oi := ⟨some 101, .load 134 (.tmp 100), 134, "machine.go:121", #[⟨6, .data⟩], none⟩) (v := .agg #[.int .i64 x0, .int .u64 x1]) rfl (by decide) (by kernel_rfl) (by kernel_rfl) (by kernel_rfl) (fun _ _ _ h => h) (Or.inl ⟨by rfl, fun w2 hSw => ?_⟩) hS7 (fun hS8 => ?_)
     ·obtain ⟨kl, k2, vl, k3, k4⟩ := hSw
      go_simp
     simp only [Act.put, lsA, lsB, lsC]
     clear hS7
     clear hS8
     refine wpAnyL_one (i := 8) (o := ⟨some 102, .call { callee := Callee.value (.func 70), args := #[.tmp 94, .tmp 101], argTypes := #[80, 134] }, 0, "machine.go:121", #[⟨0, .data⟩, ⟨7, .data⟩], none⟩) (by kernel_rfl) rfl (fun K hK => ?_)
     go_simp
     go_wp2_with fail
     have P4 := hide (show Pm c mb s wz by rw [← hwz]; exact HG.out.1.below (Below.refl _ _).drew)
     have W4 : Hid (w2.grownBy wz (some mb)) := by rw [← hwz]; exact grown_below (Below.refl _ _).drew
     refine (layC P4.out h63 x0 x1).mono ?_
     rintro e w5 ⟨rfl, G5⟩
     have W5 : Hid (w2.grownBy w5 (some mb)) := grown_tr W4.out G5.out.2
     go_simp
     refine hK.out _ _ ⟨fun _ => trivial, HS.out (s.push x0 x1) _ rfl G5.out.1 W5.out⟩ ?_
     clear hK K
     refine wpAnyL_done (by kernel_rfl) ?_ _
     clear HS9
     clear HS
     obtain ⟨t1, t2, t3, T4⟩ := HX.out (s.push x0 x1) _ (rfl) (⟨G5.out.1, grown_tr HG.out.2 W5.out⟩)
     have HT4 := hide (T4 (HST2.out.symm))
     clear T4
     clear HX HGo HBk HNx HV
     go_wp2
     go_round
     case rel => exact ⟨q, by omega, by go_num, ⟨_, HT4.out⟩⟩
     case measure => simp [intOf]
   ·as_aux_lemma =>
     clear ho1 ho2 hp406
     obtain ⟨v0, v1, vl⟩ := HV.out _ (show w2.grownBy w2 (some mb) from grown_below (Below.refl _ _))
     have HST : Hid (stepF p c.ek c.ev c.hd s = _) := st7 HOP.out
     have hpl := isPl_nat (show isPl (p.arg i) p.ns = true by simpa [argF, fArg, formT] using HAR.out)
     obtain ⟨m, hm⟩ : ∃ m, (p.arg i).toNat = m := ⟨_, rfl⟩
     rw [hm] at hpl
     have hmn : m < p.ns := by omega
     have hmn2 : m < 128 := by have := HWF.out.sz; omega
     have ham : a = ((m : Nat) : Int) := by rw [← HA.out]; exact hpl.1
     have htk1 : tkB p i = [decide (p.S m = 1)] := by
      rw [tk_of HOP1.out]
      simp [colB, fTakes, formT, hm]
     have hone := HFT.out.1
     rw [htk1] at hone
     have hh1 : 0 < s.h := by rw [HSK.out.h]; exact hone
     obtain ⟨x1, hx1⟩ : ∃ x, s.top 0 = x := ⟨_, rfl⟩
     have HST2 : Hid (stepF p c.ek c.ev c.hd s = ({ s.pop 1 with slt := updI s.slt m x1 } : Ms).nxt) := by show _ = _; rw [HST.out, HPC.out, hm, hx1]
     have hk0 : s.sk (s.h - 1) = c.kd m := by
      have q := HSK.out.kind HFT.out (j := 0) (b := decide (p.S m = 1)) (by rw [htk1]; rfl) (by rw [htk1]; exact Nat.zero_lt_one)
      have q2 : s.sk (s.h - 1) = bI (decide (p.S m = 1)) := q
      rw [q2, HMR.out.kd m hmn]
      rcases HWF.out.sl m hmn with e | e <;> rw [e] <;> rfl
     have HTK : Hid (∀ wz, Pm c mb s wz → Calls Tryz.prog 73 #[.pointer (some ⟨mb, 0, none⟩)] wz fun e w' => e = .returned (.agg #[.int .i64 (c.kd m), .int .u64 x1]) ∧ Hid (Gm c mb (s.pop 1) wz w')) := fun wz h => by
      have := takeC h hh1 H64.out
      rw [hk0, hx1] at this
      exact this
     have HSL : Hid (∀ w5, Pm c mb (s.pop 1) w5 → w5.cell? ⟨mb, 20 + m * 2, none⟩ = some (.int .i64 (c.kd m)) ∧ w5.cell? ⟨mb, 20 + m * 2 + 1, none⟩ = some (.int .u64 (s.slt m)) ∧ w5.frozen? ⟨mb, 20 + m * 2, none⟩ = false ∧ w5.frozen? ⟨mb, 20 + m * 2 + 1, none⟩ = false ∧ mb < w5.heap.size ∧ Gm c mb { s.pop 1 with slt := updI s.slt m x1 } w5 ((w5.setCell ⟨mb, 20 + m * 2, none⟩ (.int .i64 (c.kd m))).setCell ⟨mb, 20 + m * 2 + 1, none⟩ (.int .u64 x1))) := fun w5 h => by
      have q0 := h.cell (i := 20 + m * 2) (by omega)
      have q1 := h.cell (i := 20 + m * 2 + 1) (by omega)
      rw [(fc_slot (c := c) (s := s.pop 1) hmn2).1] at q0
      rw [(fc_slot (c := c) (s := s.pop 1) hmn2).2] at q1
      exact ⟨q0, q1, h.free _, h.free _, h.lt, h.slot hmn2 x1, grown_tr (grown_setT _ _ _ _) (grown_setT _ _ _ _)⟩
     have HS : Hid (∀ sx w', Pm c mb sx w' → w2.grownBy w' (some mb) → (fun (w : World) => mb < w.heap.size ∧ w.cell? ⟨vb, 1, none⟩ = some (.int .i64 (m : Nat)) ∧ vb < w.heap.size) w') := fun sx w' h1 h2 => by
      obtain ⟨v0, v1, vl⟩ := HV.out w' h2
      rw [ham] at v1
      exact ⟨h1.lt, v1, vl⟩
     clear HST HAR hpl hm ham htk1 hone hh1 hx1 hk0
     generalize c.kd m = x0 at *
     generalize s.slt m = z1 at *
     go_upto_region 25 with fail
     obtain ⟨wz, hwz⟩ : ∃ wz, (w2).drew = wz := ⟨_, rfl⟩
     have HS9 : Hid ((fun (w : World) => mb < w.heap.size ∧ w.cell? ⟨vb, 1, none⟩ = some (.int .i64 (m : Nat)) ∧ vb < w.heap.size) wz) := by rw [← hwz]; exact HS.out s _ (HG.out.1.below (Below.refl _ _).drew) (grown_below (Below.refl _ _).drew)
     refine wp_region_L 99 (fun _ => True) (fun (w : World) => mb < w.heap.size ∧ w.cell? ⟨vb, 1, none⟩ = some (.int .i64 (m : Nat)) ∧ vb < w.heap.size) (by kernel_rfl) trivial (by rw [hwz]; exact HS9.out) (fun hS0 => ?_)
     rw [hwz] at hS0 ⊢
     refine wpAnyL_take (i := 0) (oi := ⟨some 103, .move (.tmp 0), 80, "machine.go:123", #[], none⟩) (v := .pointer (some ⟨mb, 0, none⟩)) rfl (by decide) (by kernel_rfl) (by kernel_rfl) (by kernel_rfl) (fun _ _ _ h => h) (Or.inl ⟨by rfl, fun w2 hSw => ?_⟩) hS0 (fun hS1 => ?_)
     ·go_simp
     simp only [Act.put, lsA, lsB, lsC]
     clear hS0
     refine wpAnyL_take (i := 1) (oi := ⟨some 104, .fieldAddr 42 (.tmp 4) 1, 0, "machine.go:123", #[], none⟩) (v := .pointer (some ⟨vb, 1, none⟩)) rfl (by decide) (by kernel_rfl) (by kernel_rfl) (by kernel_rfl) (fun _ _ _ h => h) (Or.inl ⟨by rfl, fun w2 hSw => ?_⟩) hS1 (fun hS2 => ?_)
     ·go_simp
     simp only [Act.put, lsA, lsB, lsC]
     clear hS1
     refine wpAnyL_take (i := 2) (oi := ⟨some 105, .load 3 (.tmp 104), 3, "machine.go:123", #[⟨1, .data⟩], none⟩) (v := .int .i64 (m : Nat)) rfl (by decide) (by kernel_rfl) (by kernel_rfl) (by kernel_rfl) (fun _ _ _ h => h) (Or.inl ⟨by rfl, fun w2 hSw => ?_⟩) hS2 (fun hS3 => ?_)
     ·obtain ⟨kl, k2, vl⟩ := hSw
      go_simp
     simp only [Act.put, lsA, lsB, lsC]
     clear hS2
     refine wpAnyL_take (i := 3) (oi := ⟨some 106, .move (.tmp 0), 80, "machine.go:123", #[], none⟩) (v := .pointer (some ⟨mb, 0, none⟩)) rfl (by decide) (by kernel_rfl) (by kernel_rfl) (by kernel_rfl) (fun _ _ _ h => h) (Or.inl ⟨by rfl, fun w2 hSw => ?_⟩) hS3 (fun hS4 => ?_)
     ·go_simp
     simp only [Act.put, lsA, lsB, lsC]
     clear hS3
     refine wpAnyL_take (i := 5) (oi := ⟨some 108, .nilCheck (.tmp 103), 0, "machine.go:123", #[⟨0, .data⟩], none⟩) (v := .pointer (some ⟨mb, 0, none⟩)) rfl (by decide) (by kernel_rfl) (by kernel_rfl) (by kernel_rfl) (fun _ _ _ h => h) (Or.inl ⟨by rfl, fun w2 hSw => ?_⟩) hS4 (fun hS5 => ?_)
     ·obtain ⟨kl, k2, vl⟩ := hSw
      go_simp
     simp only [Act.put, lsA, lsB, lsC]
     clear hS4
     refine wpAnyL_take (i := 6) (oi := ⟨some 109, .fieldAddr 140 (.tmp 108) 5, 0, "machine.go:123", #[⟨5, .data⟩], none⟩) (v := .pointer (some ⟨mb, 20, none⟩)) rfl (by decide) (by kernel_rfl) (by kernel_rfl) (by kernel_rfl) (fun _ _ _ h => h) (Or.inl ⟨by rfl, fun w2 hSw => ?_⟩) hS5 (fun hS6 => ?_)
     ·go_simp
     simp only [Act.put, lsA, lsB, lsC]
     clear hS5
     clear hS6
     refine wpAnyL_one (i := 4) (o := ⟨some 107, .call { callee := Callee.value (.func 73), args := #[.tmp 106], argTypes := #[80] }, 134, "machine.go:123", #[⟨3, .data⟩], none⟩) (by kernel_rfl) rfl (fun K hK => ?_)
     go_simp
     go_wp2_with fail
     have P4 := hide (show Pm c mb s wz by rw [← hwz]; exact HG.out.1.below (Below.refl _ _).drew)
     have W4 : Hid (w2.grownBy wz (some mb)) := by rw [← hwz]; exact grown_below (Below.refl _ _).drew
     refine (HTK.out wz P4.out).mono ?_
     rintro e w5 ⟨rfl, G5⟩
     have W5 : Hid (w2.grownBy w5 (some mb)) := grown_tr W4.out G5.out.2
     go_simp
     refine hK.out _ _ ⟨fun _ => trivial, HS.out _ _ G5.out.1 W5.out⟩ ?_
     clear hK K
     refine wpAnyL_take (i := 7) (oi := ⟨some 110, .indexAddr 137 (.tmp 109) (.tmp 105), 0, "machine.go:123", #[⟨6, .data⟩, ⟨2, .data⟩, ⟨0, .phase⟩, ⟨1, .phase⟩, ⟨2, .phase⟩, ⟨3, .phase⟩, ⟨4, .phase⟩], none⟩) (v := .pointer (some ⟨mb, 20 + m * 2, none⟩)) rfl (by decide) (by kernel_rfl) (by kernel_rfl) (by kernel_rfl) (fun _ _ _ h => h) (Or.inl ⟨by rfl, fun w2 hSw => ?_⟩) ⟨fun _ => trivial, HS.out _ _ G5.out.1 W5.out⟩ (fun hS50 => ?_)
     ·go_simp
      all_goals (intro hx; omega)
     simp only [Act.put, lsA, lsB, lsC]
     clear hS50
     obtain ⟨y0, y1, g0, g1, yl, y5⟩ := HSL.out w5 G5.out.1
     have Y5 := hide y5
     clear y5
     refine wpAnyL_one (i := 8) (o := ⟨none, .store 134 (.tmp 110) (.tmp 107), 0, "machine.go:123", #[⟨7, .data⟩, ⟨4, .data⟩, ⟨4, .chain⟩, ⟨0, .phase⟩, ⟨1, .phase⟩, ⟨2, .phase⟩, ⟨3, .phase⟩, ⟨4, .phase⟩], none⟩) (by kernel_rfl) rfl (fun K hK => ?_)
     go_simp
     go_wp2_with fail
     refine hK.out _ _ ⟨fun _ => trivial, HS.out _ _ Y5.out.1 (grown_tr W5.out Y5.out.2)⟩ ?_
     clear hK K
     refine wpAnyL_done (by kernel_rfl) ?_ _
     clear HS9
     clear HS y0 y1 g0 g1 yl
     obtain ⟨w6, hw6⟩ : ∃ w6, (w5.setCell ⟨mb, 20 + m * 2, none⟩ (.int .i64 x0)).setCell ⟨mb, 20 + m * 2 + 1, none⟩ (.int .u64 x1) = w6 := ⟨_, rfl⟩
     rw [hw6] at Y5 ⊢
     clear hw6
     obtain ⟨t1, t2, t3, T4⟩ := HX.out ({ s.pop 1 with slt := updI s.slt m x1 }) _ (rfl) (⟨Y5.out.1, grown_tr HG.out.2 (grown_tr W5.out Y5.out.2)⟩)
     have HT4 := hide (T4 (HST2.out.symm))
     clear T4
     clear HX HGo HBk HNx HV
     go_wp2
     go_round
     case rel => exact ⟨q, by omega, by go_num, ⟨_, HT4.out⟩⟩
     case measure => simp [intOf]
   ·as_aux_lemma =>
     clear ho1 ho2 hp406
     obtain ⟨v0, v1, vl⟩ := HV.out _ (show w2.grownBy w2 (some mb) from grown_below (Below.refl _ _))
     have HST : Hid (stepF p c.ek c.ev c.hd s = s.go a) := by show _ = _; rw [st25 HOP.out, HPC.out, HA.out]
     obtain ⟨⟨u406, t1⟩, t2, t3, T4⟩ := HGo.out (s) _ (HG.out)
     obtain ⟨v0, v1, vl⟩ := HV.out _ ((show w2.grownBy w2 (some mb) from grown_below (Below.refl _ _)))
     have HT4 := hide (T4 (HST.out.symm))
     clear T4
     clear HX HGo HBk HNx HV
     go_wp2
     go_round
     case rel => exact ⟨q, by omega, by go_num, ⟨_, HT4.out⟩⟩
     case measure => simp [intOf]
   ·as_aux_lemma =>
     clear ho1 ho2 hp406
     obtain ⟨v0, v1, vl⟩ := HV.out _ (show w2.grownBy w2 (some mb) from grown_below (Below.refl _ _))
     obtain ⟨e1', hh1⟩ : tkB p i = [true] ∧ 1 ≤ s.h := by
      have e1 : tkB p i = [true] := (tk_of HOP1.out).trans rfl
      refine ⟨e1, ?_⟩
      have := HFT.out.1
      rw [e1] at this
      rw [HSK.out.h]
      exact this
     have ht0 : s.top 0 = 0 ∨ s.top 0 = 1 := by
      have T := HSK.out.top HFT.out (j := 0) (b := true) (by rw [e1']; rfl) (by rw [e1']; decide)
      exact T.b rfl
     have hkk : s.sk (s.h - 1) = 1 := HSK.out.kind HFT.out (j := 0) (b := true) (by rw [e1']; rfl) (by rw [e1']; decide)
     clear e1'
     clear hkk
     have HST : Hid (stepF p c.ek c.ev c.hd s = if s.top 0 = 1 then (s.pop 1).nxt else (s.pop 1).go a) := by show _ = _; rw [st26 HOP.out, HPC.out, HA.out]
     have HTT := hide (takeTruthC HG.out.1 hh1 H64.out)
     clear hh1
     rcases ht0 with q0 | q1
     ·rw [q0] at HTT HST
      rw [if_neg (by decide)] at HST
      have d0 : decide ((0 : Int) = 1) = false := rfl
      rw [d0] at HTT
      clear d0
      go_wp2_with fail
      refine HTT.out.mono ?_
      rintro e w3 ⟨rfl, G3⟩
      clear HTT
      obtain ⟨⟨u406, t1⟩, t2, t3, T4⟩ := HGo.out (s.pop 1) _ (HG.out.trans G3.out)
      obtain ⟨v0, v1, vl⟩ := HV.out _ (G3.out.2)
      have HT4 := hide (T4 (HST.out.symm))
      clear T4
      clear HX HGo HBk HNx HV
      go_wp2
      go_round
      case rel => exact ⟨q, by omega, by go_num, ⟨_, HT4.out⟩⟩
      case measure => simp [intOf]
     ·rw [q1] at HTT HST
      rw [if_pos rfl] at HST
      have d0 : decide ((1 : Int) = 1) = true := rfl
      rw [d0] at HTT
      clear d0
      go_wp2_with fail
      refine HTT.out.mono ?_
      rintro e w3 ⟨rfl, G3⟩
      clear HTT
      obtain ⟨t1, t2, t3, T4⟩ := HX.out (s.pop 1) _ (rfl) (HG.out.trans G3.out)
      have HT4 := hide (T4 (HST.out.symm))
      clear T4
      clear HX HGo HBk HNx HV
      go_wp2
      go_round
      case rel => exact ⟨q, by omega, by go_num, ⟨_, HT4.out⟩⟩
      case measure => simp [intOf]
   ·as_aux_lemma =>
     clear ho1 ho2 hp406
     obtain ⟨v0, v1, vl⟩ := HV.out _ (show w2.grownBy w2 (some mb) from grown_below (Below.refl _ _))
     obtain ⟨e1', hh1⟩ : tkB p i = [true] ∧ 1 ≤ s.h := by
      have e1 : tkB p i = [true] := (tk_of HOP1.out).trans rfl
      refine ⟨e1, ?_⟩
      have := HFT.out.1
      rw [e1] at this
      rw [HSK.out.h]
      exact this
     have ht0 : s.top 0 = 0 ∨ s.top 0 = 1 := by
      have T := HSK.out.top HFT.out (j := 0) (b := true) (by rw [e1']; rfl) (by rw [e1']; decide)
      exact T.b rfl
     have hkk : s.sk (s.h - 1) = 1 := HSK.out.kind HFT.out (j := 0) (b := true) (by rw [e1']; rfl) (by rw [e1']; decide)
     clear e1'
     clear hkk
     have HAB : Hid (1 ≤ a ∧ a ≤ 999) := by
      have h := HAR.out
      rw [HA.out] at h
      simp [argF, fArg, formT] at h
      exact h
     have HST : Hid (stepF p c.ek c.ev c.hd s = if s.top 0 = 1 then (s.pop 1).nxt else { s.pop 1 with fail := a }.stop 1) := by show _ = _; rw [st30 HOP.out, HPC.out, HA.out]
     have HTT := hide (takeTruthC HG.out.1 hh1 H64.out)
     clear hh1
     rcases ht0 with q0 | q1
     ·rw [q0] at HTT HST
      rw [if_neg (by decide)] at HST
      have d0 : decide ((0 : Int) = 1) = false := rfl
      rw [d0] at HTT
      clear d0
      go_wp2_with fail
      refine HTT.out.mono ?_
      rintro e w3 ⟨rfl, G3⟩
      clear HTT
      have HQ := hide (HG.out.trans G3.out)
      obtain ⟨v0, v1, vl⟩ := HV.out _ (G3.out.2)
      have c13 := (HQ.out).1.cell (i := 413) (by decide)
      have f13 := (HQ.out).1.free 413
      have l13 := (HQ.out).1.lt
      have HF : Hid (Gm c mb { s.pop 1 with fail := a } w (w3.setCell ⟨mb, 413, none⟩ (.int .u64 a))) := ⟨(HQ.out).1.set (fc_fail a), grown_tr (HQ.out).2 (grown_setT _ _ _ _)⟩
      obtain ⟨ha1, ha2⟩ := HAB.out
      have n1 : 0 ≤ a := by omega
      have n2 : a < 18446744073709551616 := by omega
      generalize fcell c (s.pop 1) 413 = u13 at *
      go_upto_region 33 with fail
      obtain ⟨w9, hw9⟩ : ∃ w9, w3.setCell ⟨mb, 413, none⟩ (.int .u64 a) = w9 := ⟨_, rfl⟩
      rw [hw9] at HF ⊢
      clear hw9 c13 f13 l13 v0 v1 vl n1 n2
      go_wp2_with fail
      refine (stopC HF.out.1 1).mono ?_
      rintro e w10 ⟨rfl, G10⟩
      have HZ := hide (HBk.out _ (by rw [HST.out]; rfl) (by rw [HST.out]; exact HF.out.trans G10.out))
      clear HX HGo HBk HNx HV
      go_wp2
      simp only [Exit.noGoto_normal]
      go_end0
      exact ⟨rfl, HZ⟩
     ·rw [q1] at HTT HST
      rw [if_pos rfl] at HST
      have d0 : decide ((1 : Int) = 1) = true := rfl
      rw [d0] at HTT
      clear d0
      go_wp2_with fail
      refine HTT.out.mono ?_
      rintro e w3 ⟨rfl, G3⟩
      clear HTT
      obtain ⟨t1, t2, t3, T4⟩ := HX.out (s.pop 1) _ (rfl) (HG.out.trans G3.out)
      have HT4 := hide (T4 (HST.out.symm))
      clear T4
      clear HX HGo HBk HNx HV
      go_wp2
      go_round
      case rel => exact ⟨q, by omega, by go_num, ⟨_, HT4.out⟩⟩
      case measure => simp [intOf]
   ·as_aux_lemma =>
     clear ho1 ho2 hp406
     obtain ⟨v0, v1, vl⟩ := HV.out _ (show w2.grownBy w2 (some mb) from grown_below (Below.refl _ _))
     have HAB : Hid (1 ≤ a ∧ a ≤ 999) := by
      have h := HAR.out
      rw [HA.out] at h
      simp [argF, fArg, formT] at h
      exact h
     have HST : Hid (stepF p c.ek c.ev c.hd s = { s with fail := a }.stop 1) := by show _ = _; rw [st31 HOP.out, HPC.out, HA.out]
     obtain ⟨v0, v1, vl⟩ := HV.out _ ((show w2.grownBy w2 (some mb) from grown_below (Below.refl _ _)))
     have c13 := (HG.out).1.cell (i := 413) (by decide)
     have f13 := (HG.out).1.free 413
     have l13 := (HG.out).1.lt
     have HF : Hid (Gm c mb { s with fail := a } w (w2.setCell ⟨mb, 413, none⟩ (.int .u64 a))) := ⟨(HG.out).1.set (fc_fail a), grown_tr (HG.out).2 (grown_setT _ _ _ _)⟩
     obtain ⟨ha1, ha2⟩ := HAB.out
     have n1 : 0 ≤ a := by omega
     have n2 : a < 18446744073709551616 := by omega
     generalize fcell c (s) 413 = u13 at *
     go_upto_region 33 with fail
     obtain ⟨w9, hw9⟩ : ∃ w9, w2.setCell ⟨mb, 413, none⟩ (.int .u64 a) = w9 := ⟨_, rfl⟩
     rw [hw9] at HF ⊢
     clear hw9 c13 f13 l13 v0 v1 vl n1 n2
     go_wp2_with fail
     refine (stopC HF.out.1 1).mono ?_
     rintro e w10 ⟨rfl, G10⟩
     have HZ := hide (HBk.out _ (by rw [HST.out]; rfl) (by rw [HST.out]; exact HF.out.trans G10.out))
     clear HX HGo HBk HNx HV
     go_wp2
     simp only [Exit.noGoto_normal]
     go_end0
     exact ⟨rfl, HZ⟩
   ·as_aux_lemma =>
     clear ho1 ho2 hp406
     obtain ⟨v0, v1, vl⟩ := HV.out _ (show w2.grownBy w2 (some mb) from grown_below (Below.refl _ _))
     have HST : Hid (stepF p c.ek c.ev c.hd s = s.stop 0) := st32 HOP.out
     go_wp2_with fail
     refine (stopC HG.out.1 0).mono ?_
     rintro e w3 ⟨rfl, G3⟩
     have HZ := hide (HBk.out _ (by rw [HST.out]; rfl) (by rw [HST.out]; exact HG.out.trans G3.out))
     clear HX HGo HBk HNx HV
     go_wp2
     simp only [Exit.noGoto_normal]
     go_end0
     exact ⟨rfl, HZ⟩
   ·as_aux_lemma =>
     clear ho1 ho2 hp406
     obtain ⟨v0, v1, vl⟩ := HV.out _ (show w2.grownBy w2 (some mb) from grown_below (Below.refl _ _))
     obtain ⟨e1', hh1⟩ : tkB p i = [true] ∧ 1 ≤ s.h := by
      have e1 : tkB p i = [true] := (tk_of HOP1.out).trans rfl
      refine ⟨e1, ?_⟩
      have := HFT.out.1
      rw [e1] at this
      rw [HSK.out.h]
      exact this
     have ht0 : s.top 0 = 0 ∨ s.top 0 = 1 := by
      have T := HSK.out.top HFT.out (j := 0) (b := true) (by rw [e1']; rfl) (by rw [e1']; decide)
      exact T.b rfl
     have hkk : s.sk (s.h - 1) = 1 := HSK.out.kind HFT.out (j := 0) (b := true) (by rw [e1']; rfl) (by rw [e1']; decide)
     clear e1'
     obtain ⟨hh, hhe⟩ : ∃ hh, s.h = hh + 1 := ⟨s.h - 1, by omega⟩
     have hlt : hh < 64 := by have := H64.out; omega
     have h01 : 0 < s.h := hh1
     have hk1 : s.sk hh = 1 := by rw [hhe] at hkk; exact hkk
     clear hkk
     have hv0 : s.top 0 = s.sv hh := by unfold Ms.top; rw [hhe]; rfl
     have HST : Hid (stepF p c.ek c.ev c.hd s = if s.top 0 = 0 then s.go a else (s.pop 1).nxt) := by show _ = _; rw [st27 HOP.out, HPC.out, HA.out]
     rcases ht0 with q0 | q1
     ·have hv1 : s.sv hh = 0 := by rw [← hv0, q0]
      rw [q0] at HST
      clear hv0 q0
      rw [if_pos rfl] at HST
      have HS : Hid (∀ w', Pm c mb s w' → w2.grownBy w' (some mb) → (fun (w : World) => mb < w.heap.size ∧ w.cell? ⟨vb, 0, none⟩ = some (.int .i64 27) ∧ vb < w.heap.size ∧ w.cell? ⟨mb, 405, none⟩ = some (.int .i64 ((hh + 1 : Nat) : Int)) ∧ w.cell? ⟨mb, 277 + hh * 2, none⟩ = some (.int .i64 1) ∧ w.cell? ⟨mb, 277 + hh * 2 + 1, none⟩ = some (.int .u64 0)) w') := fun w' h1 h2 => by
       obtain ⟨v0, v1, vl⟩ := HV.out w' h2
       have qh := h1.cell (i := 405) (by decide)
       have q0 := h1.cell (i := 277 + hh * 2) (by omega)
       have q1 := h1.cell (i := 277 + hh * 2 + 1) (by omega)
       rw [(fc_stk (c := c) (s := s) hlt).1, hk1] at q0
       rw [(fc_stk (c := c) (s := s) hlt).2, hv1] at q1
       have eh : fcell c s 405 = .int .i64 ((hh + 1 : Nat) : Int) := by show Value.int .i64 (s.h : Nat) = _; rw [hhe]
       rw [eh] at qh
       exact ⟨h1.lt, v0, vl, qh, q0, q1⟩
      clear hk1 hv1 hhe hh1
      go_upto_region 26 with fail
      obtain ⟨wz, hwz⟩ : ∃ wz, (w2).drew = wz := ⟨_, rfl⟩
      have HS9 : Hid ((fun (w : World) => mb < w.heap.size ∧ w.cell? ⟨vb, 0, none⟩ = some (.int .i64 27) ∧ vb < w.heap.size ∧ w.cell? ⟨mb, 405, none⟩ = some (.int .i64 ((hh + 1 : Nat) : Int)) ∧ w.cell? ⟨mb, 277 + hh * 2, none⟩ = some (.int .i64 1) ∧ w.cell? ⟨mb, 277 + hh * 2 + 1, none⟩ = some (.int .u64 0)) wz) := by rw [← hwz]; exact HS.out _ (HG.out.1.below (Below.refl _ _).drew) (grown_below (Below.refl _ _).drew)
      refine wp_region_L 99 (fun _ => True) (fun (w : World) => mb < w.heap.size ∧ w.cell? ⟨vb, 0, none⟩ = some (.int .i64 27) ∧ vb < w.heap.size ∧ w.cell? ⟨mb, 405, none⟩ = some (.int .i64 ((hh + 1 : Nat) : Int)) ∧ w.cell? ⟨mb, 277 + hh * 2, none⟩ = some (.int .i64 1) ∧ w.cell? ⟨mb, 277 + hh * 2 + 1, none⟩ = some (.int .u64 0)) (by kernel_rfl) trivial (by rw [hwz]; exact HS9.out) (fun hS0 => ?_)
      rw [hwz] at hS0 ⊢
      refine wpAnyL_take (i := 0) (oi := ⟨some 111, .move (.tmp 0), 80, "machine.go:125", #[], none⟩) (v := .pointer (some ⟨mb, 0, none⟩)) rfl (by decide) (by kernel_rfl) (by kernel_rfl) (by kernel_rfl) (fun _ _ _ h => h) (Or.inl ⟨by rfl, fun w2 hSw => ?_⟩) hS0 (fun hS1 => ?_)
      ·go_simp
      simp only [Act.put, lsA, lsB, lsC]
      clear hS0
      refine wpAnyL_take (i := 1) (oi := ⟨some 112, .move (.tmp 0), 80, "machine.go:125", #[], none⟩) (v := .pointer (some ⟨mb, 0, none⟩)) rfl (by decide) (by kernel_rfl) (by kernel_rfl) (by kernel_rfl) (fun _ _ _ h => h) (Or.inl ⟨by rfl, fun w2 hSw => ?_⟩) hS1 (fun hS2 => ?_)
      ·go_simp
      simp only [Act.put, lsA, lsB, lsC]
      clear hS1
      refine wpAnyL_take (i := 2) (oi := ⟨some 113, .nilCheck (.tmp 112), 0, "machine.go:125", #[⟨1, .data⟩], none⟩) (v := .pointer (some ⟨mb, 0, none⟩)) rfl (by decide) (by kernel_rfl) (by kernel_rfl) (by kernel_rfl) (fun _ _ _ h => h) (Or.inl ⟨by rfl, fun w2 hSw => ?_⟩) hS2 (fun hS3 => ?_)
      ·obtain ⟨kl, k2, vl, k3, k4, k5⟩ := hSw
       go_simp
      simp only [Act.put, lsA, lsB, lsC]
      clear hS2
      refine wpAnyL_take (i := 3) (oi := ⟨some 114, .fieldAddr 140 (.tmp 113) 8, 0, "machine.go:125", #[⟨2, .data⟩], none⟩) (v := .pointer (some ⟨mb, 405, none⟩)) rfl (by decide) (by kernel_rfl) (by kernel_rfl) (by kernel_rfl) (fun _ _ _ h => h) (Or.inl ⟨by rfl, fun w2 hSw => ?_⟩) hS3 (fun hS4 => ?_)
      ·go_simp
      simp only [Act.put, lsA, lsB, lsC]
      clear hS3
      refine wpAnyL_take (i := 4) (oi := ⟨some 115, .load 3 (.tmp 114), 3, "machine.go:125", #[⟨3, .data⟩], none⟩) (v := .int .i64 ((hh + 1 : Nat) : Int)) rfl (by decide) (by kernel_rfl) (by kernel_rfl) (by kernel_rfl) (fun _ _ _ h => h) (Or.inl ⟨by rfl, fun w2 hSw => ?_⟩) hS4 (fun hS5 => ?_)
      ·obtain ⟨kl, k2, vl, k3, k4, k5⟩ := hSw
       go_simp
      simp only [Act.put, lsA, lsB, lsC]
      clear hS4
      refine wpAnyL_take (i := 5) (oi := ⟨some 116, .binOp .sub 3 (.tmp 115) (.const (.int .i64 1)) 3, 3, "machine.go:125", #[⟨4, .data⟩], none⟩) (v := .int .i64 (hh : Nat)) rfl (by decide) (by kernel_rfl) (by kernel_rfl) (by kernel_rfl) (fun _ _ _ h => h) (Or.inl ⟨by rfl, fun w2 hSw => ?_⟩) hS5 (fun hS6 => ?_)
      ·go_simp
       rw [IntKind.wrap_i64]
       omega
      simp only [Act.put, lsA, lsB, lsC]
      clear hS5
      refine wpAnyL_take (i := 6) (oi := ⟨some 117, .nilCheck (.tmp 111), 0, "machine.go:125", #[⟨0, .data⟩], none⟩) (v := .pointer (some ⟨mb, 0, none⟩)) rfl (by decide) (by kernel_rfl) (by kernel_rfl) (by kernel_rfl) (fun _ _ _ h => h) (Or.inl ⟨by rfl, fun w2 hSw => ?_⟩) hS6 (fun hS7 => ?_)
      ·obtain ⟨kl, k2, vl, k3, k4, k5⟩ := hSw
       go_simp
      simp only [Act.put, lsA, lsB, lsC]
      clear hS6
      refine wpAnyL_take (i := 7) (oi := ⟨some 118, .fieldAddr 140 (.tmp 117) 7, 0, "machine.go:125", #[⟨6, .data⟩], none⟩) (v := .pointer (some ⟨mb, 277, none⟩)) rfl (by decide) (by kernel_rfl) (by kernel_rfl) (by kernel_rfl) (fun _ _ _ h => h) (Or.inl ⟨by rfl, fun w2 hSw => ?_⟩) hS7 (fun hS8 => ?_)
      ·go_simp
      simp only [Act.put, lsA, lsB, lsC]
      clear hS7
      refine wpAnyL_take (i := 8) (oi := ⟨some 119, .indexAddr 138 (.tmp 118) (.tmp 116), 0, "machine.go:125", #[⟨7, .data⟩, ⟨5, .data⟩], none⟩) (v := .pointer (some ⟨mb, 277 + hh * 2, none⟩)) rfl (by decide) (by kernel_rfl) (by kernel_rfl) (by kernel_rfl) (fun _ _ _ h => h) (Or.inl ⟨by rfl, fun w2 hSw => ?_⟩) hS8 (fun hS9 => ?_)
      ·go_simp
       all_goals (intro hx; omega)
      simp only [Act.put, lsA, lsB, lsC]
      clear hS8
      refine wpAnyL_take (i := 9) (oi := ⟨some 120, .load 134 (.tmp 119), 134, "machine.go:125", #[⟨8, .data⟩], none⟩) (v := .agg #[.int .i64 1, .int .u64 0]) rfl (by decide) (by kernel_rfl) (by kernel_rfl) (by kernel_rfl) (fun _ _ _ h => h) (Or.inl ⟨by rfl, fun w2 hSw => ?_⟩) hS9 (fun hS10 => ?_)
      ·obtain ⟨kl, k2, vl, k3, k4, k5⟩ := hSw
       go_simp
      simp only [Act.put, lsA, lsB, lsC]
      clear hS9
      refine wpAnyL_take (i := 10) (oi := ⟨some 121, .fieldAddr 42 (.tmp 4) 0, 0, "machine.go:125", #[], none⟩) (v := .pointer (some ⟨vb, 0, none⟩)) rfl (by decide) (by kernel_rfl) (by kernel_rfl) (by kernel_rfl) (fun _ _ _ h => h) (Or.inl ⟨by rfl, fun w2 hSw => ?_⟩) hS10 (fun hS11 => ?_)
      ·go_simp
      simp only [Act.put, lsA, lsB, lsC]
      clear hS10
      refine wpAnyL_take (i := 11) (oi := ⟨some 122, .load 40 (.tmp 121), 40, "machine.go:125", #[⟨10, .data⟩], none⟩) (v := .int .i64 27) rfl (by decide) (by kernel_rfl) (by kernel_rfl) (by kernel_rfl) (fun _ _ _ h => h) (Or.inl ⟨by rfl, fun w2 hSw => ?_⟩) hS11 (fun hS12 => ?_)
      ·obtain ⟨kl, k2, vl, k3, k4, k5⟩ := hSw
       go_simp
      simp only [Act.put, lsA, lsB, lsC]
      clear hS11
      refine wpAnyL_take (i := 12) (oi := ⟨some 123, .binOp .eql 40 (.tmp 122) (.const (.int .i64 28)) 40, 4, "machine.go:125", #[⟨11, .data⟩], none⟩) (v := .bool false) rfl (by decide) (by kernel_rfl) (by kernel_rfl) (by kernel_rfl) (fun _ _ _ h => h) (Or.inl ⟨by rfl, fun w2 hSw => ?_⟩) hS12 (fun hS13 => ?_)
      ·go_simp
      simp only [Act.put, lsA, lsB, lsC]
      clear hS12
      clear hS13
      refine wpAnyL_one (i := 13) (o := ⟨some 124, .call { callee := Callee.value (.func 72), args := #[.tmp 123], argTypes := #[4] }, 134, "machine.go:125", #[⟨12, .data⟩], none⟩) (by kernel_rfl) rfl (fun K hK => ?_)
      go_simp
      go_wp2_with fail
      refine (truthC false wz).mono ?_
      rintro e w4 ⟨rfl, G4⟩
      have P4 := hide ((show Pm c mb s wz by rw [← hwz]; exact HG.out.1.below (Below.refl _ _).drew).below G4.out)
      have W4 : Hid (w2.grownBy w4 (some mb)) := by rw [← hwz] at G4; exact grown_tr (grown_below (Below.refl _ _).drew) (grown_below G4.out)
      go_simp
      refine hK.out _ _ ⟨fun _ => trivial, HS.out _ P4.out W4.out⟩ ?_
      clear hK K
      refine wpAnyL_one (i := 14) (o := ⟨some 125, .binOp .eql 134 (.tmp 120) (.tmp 124) 134, 4, "machine.go:125", #[⟨9, .data⟩, ⟨13, .data⟩], none⟩) (by kernel_rfl) rfl (fun K hK => ?_)
      go_simp
      go_wp2_with fail
      refine hK.out _ _ ⟨fun _ => trivial, HS.out _ P4.out W4.out⟩ ?_
      clear hK K
      refine wpAnyL_done (by kernel_rfl) ?_ _
      clear HS9
      clear HS
      obtain ⟨⟨u406, t1⟩, t2, t3, T4⟩ := HGo.out (s) _ (⟨P4.out, grown_tr HG.out.2 W4.out⟩)
      obtain ⟨v0, v1, vl⟩ := HV.out _ (W4.out)
      have HT4 := hide (T4 (HST.out.symm))
      clear T4
      clear HX HGo HBk HNx HV
      go_wp2
      go_round
      case rel => exact ⟨q, by omega, by go_num, ⟨_, HT4.out⟩⟩
      case measure => simp [intOf]
     ·have hv1 : s.sv hh = 1 := by rw [← hv0, q1]
      rw [q1] at HST
      clear hv0 q1
      rw [if_neg (by decide)] at HST
      have HS : Hid (∀ w', Pm c mb s w' → w2.grownBy w' (some mb) → (fun (w : World) => mb < w.heap.size ∧ w.cell? ⟨vb, 0, none⟩ = some (.int .i64 27) ∧ vb < w.heap.size ∧ w.cell? ⟨mb, 405, none⟩ = some (.int .i64 ((hh + 1 : Nat) : Int)) ∧ w.cell? ⟨mb, 277 + hh * 2, none⟩ = some (.int .i64 1) ∧ w.cell? ⟨mb, 277 + hh * 2 + 1, none⟩ = some (.int .u64 1)) w') := fun w' h1 h2 => by
       obtain ⟨v0, v1, vl⟩ := HV.out w' h2
       have qh := h1.cell (i := 405) (by decide)
       have q0 := h1.cell (i := 277 + hh * 2) (by omega)
       have q1 := h1.cell (i := 277 + hh * 2 + 1) (by omega)
       rw [(fc_stk (c := c) (s := s) hlt).1, hk1] at q0
       rw [(fc_stk (c := c) (s := s) hlt).2, hv1] at q1
       have eh : fcell c s 405 = .int .i64 ((hh + 1 : Nat) : Int) := by show Value.int .i64 (s.h : Nat) = _; rw [hhe]
       rw [eh] at qh
       exact ⟨h1.lt, v0, vl, qh, q0, q1⟩
      clear hk1 hv1 hhe hh1
      go_upto_region 26 with fail
      obtain ⟨wz, hwz⟩ : ∃ wz, (w2).drew = wz := ⟨_, rfl⟩
      have HS9 : Hid ((fun (w : World) => mb < w.heap.size ∧ w.cell? ⟨vb, 0, none⟩ = some (.int .i64 27) ∧ vb < w.heap.size ∧ w.cell? ⟨mb, 405, none⟩ = some (.int .i64 ((hh + 1 : Nat) : Int)) ∧ w.cell? ⟨mb, 277 + hh * 2, none⟩ = some (.int .i64 1) ∧ w.cell? ⟨mb, 277 + hh * 2 + 1, none⟩ = some (.int .u64 1)) wz) := by rw [← hwz]; exact HS.out _ (HG.out.1.below (Below.refl _ _).drew) (grown_below (Below.refl _ _).drew)
      refine wp_region_L 99 (fun _ => True) (fun (w : World) => mb < w.heap.size ∧ w.cell? ⟨vb, 0, none⟩ = some (.int .i64 27) ∧ vb < w.heap.size ∧ w.cell? ⟨mb, 405, none⟩ = some (.int .i64 ((hh + 1 : Nat) : Int)) ∧ w.cell? ⟨mb, 277 + hh * 2, none⟩ = some (.int .i64 1) ∧ w.cell? ⟨mb, 277 + hh * 2 + 1, none⟩ = some (.int .u64 1)) (by kernel_rfl) trivial (by rw [hwz]; exact HS9.out) (fun hS0 => ?_)
      rw [hwz] at hS0 ⊢
      refine wpAnyL_take (i := 0) (oi := ⟨some 111, .move (.tmp 0), 80, "machine.go:125", #[], none⟩) (v := .pointer (some ⟨mb, 0, none⟩)) rfl (by decide) (by kernel_rfl) (by kernel_rfl) (by kernel_rfl) (fun _ _ _ h => h) (Or.inl ⟨by rfl, fun w2 hSw => ?_⟩) hS0 (fun hS1 => ?_)
      ·go_simp
      simp only [Act.put, lsA, lsB, lsC]
      clear hS0
      refine wpAnyL_take (i := 1) (oi := ⟨some 112, .move (.tmp 0), 80, "machine.go:125", #[], none⟩) (v := .pointer (some ⟨mb, 0, none⟩)) rfl (by decide) (by kernel_rfl) (by kernel_rfl) (by kernel_rfl) (fun _ _ _ h => h) (Or.inl ⟨by rfl, fun w2 hSw => ?_⟩) hS1 (fun hS2 => ?_)
      ·go_simp
      simp only [Act.put, lsA, lsB, lsC]
      clear hS1
      refine wpAnyL_take (i := 2) (oi := ⟨some 113, .nilCheck (.tmp 112), 0, "machine.go:125", #[⟨1, .data⟩], none⟩) (v := .pointer (some ⟨mb, 0, none⟩)) rfl (by decide) (by kernel_rfl) (by kernel_rfl) (by kernel_rfl) (fun _ _ _ h => h) (Or.inl ⟨by rfl, fun w2 hSw => ?_⟩) hS2 (fun hS3 => ?_)
      ·obtain ⟨kl, k2, vl, k3, k4, k5⟩ := hSw
       go_simp
      simp only [Act.put, lsA, lsB, lsC]
      clear hS2
      refine wpAnyL_take (i := 3) (oi := ⟨some 114, .fieldAddr 140 (.tmp 113) 8, 0, "machine.go:125", #[⟨2, .data⟩], none⟩) (v := .pointer (some ⟨mb, 405, none⟩)) rfl (by decide) (by kernel_rfl) (by kernel_rfl) (by kernel_rfl) (fun _ _ _ h => h) (Or.inl ⟨by rfl, fun w2 hSw => ?_⟩) hS3 (fun hS4 => ?_)
      ·go_simp
      simp only [Act.put, lsA, lsB, lsC]
      clear hS3
      refine wpAnyL_take (i := 4) (oi := ⟨some 115, .load 3 (.tmp 114), 3, "machine.go:125", #[⟨3, .data⟩], none⟩) (v := .int .i64 ((hh + 1 : Nat) : Int)) rfl (by decide) (by kernel_rfl) (by kernel_rfl) (by kernel_rfl) (fun _ _ _ h => h) (Or.inl ⟨by rfl, fun w2 hSw => ?_⟩) hS4 (fun hS5 => ?_)
      ·obtain ⟨kl, k2, vl, k3, k4, k5⟩ := hSw
       go_simp
      simp only [Act.put, lsA, lsB, lsC]
      clear hS4
      refine wpAnyL_take (i := 5) (oi := ⟨some 116, .binOp .sub 3 (.tmp 115) (.const (.int .i64 1)) 3, 3, "machine.go:125", #[⟨4, .data⟩], none⟩) (v := .int .i64 (hh : Nat)) rfl (by decide) (by kernel_rfl) (by kernel_rfl) (by kernel_rfl) (fun _ _ _ h => h) (Or.inl ⟨by rfl, fun w2 hSw => ?_⟩) hS5 (fun hS6 => ?_)
      ·go_simp
       rw [IntKind.wrap_i64]
       omega
      simp only [Act.put, lsA, lsB, lsC]
      clear hS5
      refine wpAnyL_take (i := 6) (oi := ⟨some 117, .nilCheck (.tmp 111), 0, "machine.go:125", #[⟨0, .data⟩], none⟩) (v := .pointer (some ⟨mb, 0, none⟩)) rfl (by decide) (by kernel_rfl) (by kernel_rfl) (by kernel_rfl) (fun _ _ _ h => h) (Or.inl ⟨by rfl, fun w2 hSw => ?_⟩) hS6 (fun hS7 => ?_)
      ·obtain ⟨kl, k2, vl, k3, k4, k5⟩ := hSw
       go_simp
      simp only [Act.put, lsA, lsB, lsC]
      clear hS6
      refine wpAnyL_take (i := 7) (oi := ⟨some 118, .fieldAddr 140 (.tmp 117) 7, 0, "machine.go:125", #[⟨6, .data⟩], none⟩) (v := .pointer (some ⟨mb, 277, none⟩)) rfl (by decide) (by kernel_rfl) (by kernel_rfl) (by kernel_rfl) (fun _ _ _ h => h) (Or.inl ⟨by rfl, fun w2 hSw => ?_⟩) hS7 (fun hS8 => ?_)
      ·go_simp
      simp only [Act.put, lsA, lsB, lsC]
      clear hS7
      refine wpAnyL_take (i := 8) (oi := ⟨some 119, .indexAddr 138 (.tmp 118) (.tmp 116), 0, "machine.go:125", #[⟨7, .data⟩, ⟨5, .data⟩], none⟩) (v := .pointer (some ⟨mb, 277 + hh * 2, none⟩)) rfl (by decide) (by kernel_rfl) (by kernel_rfl) (by kernel_rfl) (fun _ _ _ h => h) (Or.inl ⟨by rfl, fun w2 hSw => ?_⟩) hS8 (fun hS9 => ?_)
      ·go_simp
       all_goals (intro hx; omega)
      simp only [Act.put, lsA, lsB, lsC]
      clear hS8
      refine wpAnyL_take (i := 9) (oi := ⟨some 120, .load 134 (.tmp 119), 134, "machine.go:125", #[⟨8, .data⟩], none⟩) (v := .agg #[.int .i64 1, .int .u64 1]) rfl (by decide) (by kernel_rfl) (by kernel_rfl) (by kernel_rfl) (fun _ _ _ h => h) (Or.inl ⟨by rfl, fun w2 hSw => ?_⟩) hS9 (fun hS10 => ?_)
      ·obtain ⟨kl, k2, vl, k3, k4, k5⟩ := hSw
       go_simp
      simp only [Act.put, lsA, lsB, lsC]
      clear hS9
      refine wpAnyL_take (i := 10) (oi := ⟨some 121, .fieldAddr 42 (.tmp 4) 0, 0, "machine.go:125", #[], none⟩) (v := .pointer (some ⟨vb, 0, none⟩)) rfl (by decide) (by kernel_rfl) (by kernel_rfl) (by kernel_rfl) (fun _ _ _ h => h) (Or.inl ⟨by rfl, fun w2 hSw => ?_⟩) hS10 (fun hS11 => ?_)
      ·go_simp
      simp only [Act.put, lsA, lsB, lsC]
      clear hS10
      refine wpAnyL_take (i := 11) (oi := ⟨some 122, .load 40 (.tmp 121), 40, "machine.go:125", #[⟨10, .data⟩], none⟩) (v := .int .i64 27) rfl (by decide) (by kernel_rfl) (by kernel_rfl) (by kernel_rfl) (fun _ _ _ h => h) (Or.inl ⟨by rfl, fun w2 hSw => ?_⟩) hS11 (fun hS12 => ?_)
      ·obtain ⟨kl, k2, vl, k3, k4, k5⟩ := hSw
       go_simp
      simp only [Act.put, lsA, lsB, lsC]
      clear hS11
      refine wpAnyL_take (i := 12) (oi := ⟨some 123, .binOp .eql 40 (.tmp 122) (.const (.int .i64 28)) 40, 4, "machine.go:125", #[⟨11, .data⟩], none⟩) (v := .bool false) rfl (by decide) (by kernel_rfl) (by kernel_rfl) (by kernel_rfl) (fun _ _ _ h => h) (Or.inl ⟨by rfl, fun w2 hSw => ?_⟩) hS12 (fun hS13 => ?_)
      ·go_simp
      simp only [Act.put, lsA, lsB, lsC]
      clear hS12
      clear hS13
      refine wpAnyL_one (i := 13) (o := ⟨some 124, .call { callee := Callee.value (.func 72), args := #[.tmp 123], argTypes := #[4] }, 134, "machine.go:125", #[⟨12, .data⟩], none⟩) (by kernel_rfl) rfl (fun K hK => ?_)
      go_simp
      go_wp2_with fail
      refine (truthC false wz).mono ?_
      rintro e w4 ⟨rfl, G4⟩
      have P4 := hide ((show Pm c mb s wz by rw [← hwz]; exact HG.out.1.below (Below.refl _ _).drew).below G4.out)
      have W4 : Hid (w2.grownBy w4 (some mb)) := by rw [← hwz] at G4; exact grown_tr (grown_below (Below.refl _ _).drew) (grown_below G4.out)
      go_simp
      refine hK.out _ _ ⟨fun _ => trivial, HS.out _ P4.out W4.out⟩ ?_
      clear hK K
      refine wpAnyL_one (i := 14) (o := ⟨some 125, .binOp .eql 134 (.tmp 120) (.tmp 124) 134, 4, "machine.go:125", #[⟨9, .data⟩, ⟨13, .data⟩], none⟩) (by kernel_rfl) rfl (fun K hK => ?_)
      go_simp
      go_wp2_with fail
      refine hK.out _ _ ⟨fun _ => trivial, HS.out _ P4.out W4.out⟩ ?_
      clear hK K
      refine wpAnyL_done (by kernel_rfl) ?_ _
      clear HS9
      clear HS
      go_wp2_with fail
      refine (takeC P4.out h01 H64.out).mono ?_
      rintro e w5 ⟨rfl, G5⟩
      obtain ⟨t1, t2, t3, T4⟩ := HX.out (s.pop 1) _ (rfl) (⟨G5.out.1, grown_tr (grown_tr HG.out.2 W4.out) G5.out.2⟩)
      have HT4 := hide (T4 (HST.out.symm))
      clear T4
      clear HX HGo HBk HNx HV
      go_wp2
      go_round
      case rel => exact ⟨q, by omega, by go_num, ⟨_, HT4.out⟩⟩
      case measure => simp [intOf]
   ·as_aux_lemma =>
     clear ho1 ho2 hp406
     obtain ⟨v0, v1, vl⟩ := HV.out _ (show w2.grownBy w2 (some mb) from grown_below (Below.refl _ _))
     obtain ⟨e1', hh1⟩ : tkB p i = [true] ∧ 1 ≤ s.h := by
      have e1 : tkB p i = [true] := (tk_of HOP1.out).trans rfl
      refine ⟨e1, ?_⟩
      have := HFT.out.1
      rw [e1] at this
      rw [HSK.out.h]
      exact this
     have ht0 : s.top 0 = 0 ∨ s.top 0 = 1 := by
      have T := HSK.out.top HFT.out (j := 0) (b := true) (by rw [e1']; rfl) (by rw [e1']; decide)
      exact T.b rfl
     have hkk : s.sk (s.h - 1) = 1 := HSK.out.kind HFT.out (j := 0) (b := true) (by rw [e1']; rfl) (by rw [e1']; decide)
     clear e1'
     obtain ⟨hh, hhe⟩ : ∃ hh, s.h = hh + 1 := ⟨s.h - 1, by omega⟩
     have hlt : hh < 64 := by have := H64.out; omega
     have h01 : 0 < s.h := hh1
     have hk1 : s.sk hh = 1 := by rw [hhe] at hkk; exact hkk
     clear hkk
     have hv0 : s.top 0 = s.sv hh := by unfold Ms.top; rw [hhe]; rfl
     have HST : Hid (stepF p c.ek c.ev c.hd s = if s.top 0 = 1 then s.go a else (s.pop 1).nxt) := by show _ = _; rw [st28 HOP.out, HPC.out, HA.out]
     rcases ht0 with q0 | q1
     ·have hv1 : s.sv hh = 0 := by rw [← hv0, q0]
      rw [q0] at HST
      clear hv0 q0
      rw [if_neg (by decide)] at HST
      have HS : Hid (∀ w', Pm c mb s w' → w2.grownBy w' (some mb) → (fun (w : World) => mb < w.heap.size ∧ w.cell? ⟨vb, 0, none⟩ = some (.int .i64 28) ∧ vb < w.heap.size ∧ w.cell? ⟨mb, 405, none⟩ = some (.int .i64 ((hh + 1 : Nat) : Int)) ∧ w.cell? ⟨mb, 277 + hh * 2, none⟩ = some (.int .i64 1) ∧ w.cell? ⟨mb, 277 + hh * 2 + 1, none⟩ = some (.int .u64 0)) w') := fun w' h1 h2 => by
       obtain ⟨v0, v1, vl⟩ := HV.out w' h2
       have qh := h1.cell (i := 405) (by decide)
       have q0 := h1.cell (i := 277 + hh * 2) (by omega)
       have q1 := h1.cell (i := 277 + hh * 2 + 1) (by omega)
       rw [(fc_stk (c := c) (s := s) hlt).1, hk1] at q0
       rw [(fc_stk (c := c) (s := s) hlt).2, hv1] at q1
       have eh : fcell c s 405 = .int .i64 ((hh + 1 : Nat) : Int) := by show Value.int .i64 (s.h : Nat) = _; rw [hhe]
       rw [eh] at qh
       exact ⟨h1.lt, v0, vl, qh, q0, q1⟩
      clear hk1 hv1 hhe hh1
      go_upto_region 26 with fail
      obtain ⟨wz, hwz⟩ : ∃ wz, (w2).drew = wz := ⟨_, rfl⟩
      have HS9 : Hid ((fun (w : World) => mb < w.heap.size ∧ w.cell? ⟨vb, 0, none⟩ = some (.int .i64 28) ∧ vb < w.heap.size ∧ w.cell? ⟨mb, 405, none⟩ = some (.int .i64 ((hh + 1 : Nat) : Int)) ∧ w.cell? ⟨mb, 277 + hh * 2, none⟩ = some (.int .i64 1) ∧ w.cell? ⟨mb, 277 + hh * 2 + 1, none⟩ = some (.int .u64 0)) wz) := by rw [← hwz]; exact HS.out _ (HG.out.1.below (Below.refl _ _).drew) (grown_below (Below.refl _ _).drew)
      refine wp_region_L 99 (fun _ => True) (fun (w : World) => mb < w.heap.size ∧ w.cell? ⟨vb, 0, none⟩ = some (.int .i64 28) ∧ vb < w.heap.size ∧ w.cell? ⟨mb, 405, none⟩ = some (.int .i64 ((hh + 1 : Nat) : Int)) ∧ w.cell? ⟨mb, 277 + hh * 2, none⟩ = some (.int .i64 1) ∧ w.cell? ⟨mb, 277 + hh * 2 + 1, none⟩ = some (.int .u64 0)) (by kernel_rfl) trivial (by rw [hwz]; exact HS9.out) (fun hS0 => ?_)
      rw [hwz] at hS0 ⊢
      refine wpAnyL_take (i := 0) (oi := ⟨some 111, .move (.tmp 0), 80, "machine.go:125", #[], none⟩) (v := .pointer (some ⟨mb, 0, none⟩)) rfl (by decide) (by kernel_rfl) (by kernel_rfl) (by kernel_rfl) (fun _ _ _ h => h) (Or.inl ⟨by rfl, fun w2 hSw => ?_⟩) hS0 (fun hS1 => ?_)
      ·go_simp
      simp only [Act.put, lsA, lsB, lsC]
      clear hS0
      refine wpAnyL_take (i := 1) (oi := ⟨some 112, .move (.tmp 0), 80, "machine.go:125", #[], none⟩) (v := .pointer (some ⟨mb, 0, none⟩)) rfl (by decide) (by kernel_rfl) (by kernel_rfl) (by kernel_rfl) (fun _ _ _ h => h) (Or.inl ⟨by rfl, fun w2 hSw => ?_⟩) hS1 (fun hS2 => ?_)
      ·go_simp
      simp only [Act.put, lsA, lsB, lsC]
      clear hS1
      refine wpAnyL_take (i := 2) (oi := ⟨some 113, .nilCheck (.tmp 112), 0, "machine.go:125", #[⟨1, .data⟩], none⟩) (v := .pointer (some ⟨mb, 0, none⟩)) rfl (by decide) (by kernel_rfl) (by kernel_rfl) (by kernel_rfl) (fun _ _ _ h => h) (Or.inl ⟨by rfl, fun w2 hSw => ?_⟩) hS2 (fun hS3 => ?_)
      ·obtain ⟨kl, k2, vl, k3, k4, k5⟩ := hSw
       go_simp
      simp only [Act.put, lsA, lsB, lsC]
      clear hS2
      refine wpAnyL_take (i := 3) (oi := ⟨some 114, .fieldAddr 140 (.tmp 113) 8, 0, "machine.go:125", #[⟨2, .data⟩], none⟩) (v := .pointer (some ⟨mb, 405, none⟩)) rfl (by decide) (by kernel_rfl) (by kernel_rfl) (by kernel_rfl) (fun _ _ _ h => h) (Or.inl ⟨by rfl, fun w2 hSw => ?_⟩) hS3 (fun hS4 => ?_)
      ·go_simp
      simp only [Act.put, lsA, lsB, lsC]
      clear hS3
      refine wpAnyL_take (i := 4) (oi := ⟨some 115, .load 3 (.tmp 114), 3, "machine.go:125", #[⟨3, .data⟩], none⟩) (v := .int .i64 ((hh + 1 : Nat) : Int)) rfl (by decide) (by kernel_rfl) (by kernel_rfl) (by kernel_rfl) (fun _ _ _ h => h) (Or.inl ⟨by rfl, fun w2 hSw => ?_⟩) hS4 (fun hS5 => ?_)
      ·obtain ⟨kl, k2, vl, k3, k4, k5⟩ := hSw
       go_simp
      simp only [Act.put, lsA, lsB, lsC]
      clear hS4
      refine wpAnyL_take (i := 5) (oi := ⟨some 116, .binOp .sub 3 (.tmp 115) (.const (.int .i64 1)) 3, 3, "machine.go:125", #[⟨4, .data⟩], none⟩) (v := .int .i64 (hh : Nat)) rfl (by decide) (by kernel_rfl) (by kernel_rfl) (by kernel_rfl) (fun _ _ _ h => h) (Or.inl ⟨by rfl, fun w2 hSw => ?_⟩) hS5 (fun hS6 => ?_)
      ·go_simp
       rw [IntKind.wrap_i64]
       omega
      simp only [Act.put, lsA, lsB, lsC]
      clear hS5
      refine wpAnyL_take (i := 6) (oi := ⟨some 117, .nilCheck (.tmp 111), 0, "machine.go:125", #[⟨0, .data⟩], none⟩) (v := .pointer (some ⟨mb, 0, none⟩)) rfl (by decide) (by kernel_rfl) (by kernel_rfl) (by kernel_rfl) (fun _ _ _ h => h) (Or.inl ⟨by rfl, fun w2 hSw => ?_⟩) hS6 (fun hS7 => ?_)
      ·obtain ⟨kl, k2, vl, k3, k4, k5⟩ := hSw
       go_simp
      simp only [Act.put, lsA, lsB, lsC]
      clear hS6
      refine wpAnyL_take (i := 7) (oi := ⟨some 118, .fieldAddr 140 (.tmp 117) 7, 0, "machine.go:125", #[⟨6, .data⟩], none⟩) (v := .pointer (some ⟨mb, 277, none⟩)) rfl (by decide) (by kernel_rfl) (by kernel_rfl) (by kernel_rfl) (fun _ _ _ h => h) (Or.inl ⟨by rfl, fun w2 hSw => ?_⟩) hS7 (fun hS8 => ?_)
      ·go_simp
      simp only [Act.put, lsA, lsB, lsC]
      clear hS7
      refine wpAnyL_take (i := 8) (oi := ⟨some 119, .indexAddr 138 (.tmp 118) (.tmp 116), 0, "machine.go:125", #[⟨7, .data⟩, ⟨5, .data⟩], none⟩) (v := .pointer (some ⟨mb, 277 + hh * 2, none⟩)) rfl (by decide) (by kernel_rfl) (by kernel_rfl) (by kernel_rfl) (fun _ _ _ h => h) (Or.inl ⟨by rfl, fun w2 hSw => ?_⟩) hS8 (fun hS9 => ?_)
      ·go_simp
       all_goals (intro hx; omega)
      simp only [Act.put, lsA, lsB, lsC]
      clear hS8
      refine wpAnyL_take (i := 9) (oi := ⟨some 120, .load 134 (.tmp 119), 134, "machine.go:125", #[⟨8, .data⟩], none⟩) (v := .agg #[.int .i64 1, .int .u64 0]) rfl (by decide) (by kernel_rfl) (by kernel_rfl) (by kernel_rfl) (fun _ _ _ h => h) (Or.inl ⟨by rfl, fun w2 hSw => ?_⟩) hS9 (fun hS10 => ?_)
      ·obtain ⟨kl, k2, vl, k3, k4, k5⟩ := hSw
       go_simp
      simp only [Act.put, lsA, lsB, lsC]
      clear hS9
      refine wpAnyL_take (i := 10) (oi := ⟨some 121, .fieldAddr 42 (.tmp 4) 0, 0, "machine.go:125", #[], none⟩) (v := .pointer (some ⟨vb, 0, none⟩)) rfl (by decide) (by kernel_rfl) (by kernel_rfl) (by kernel_rfl) (fun _ _ _ h => h) (Or.inl ⟨by rfl, fun w2 hSw => ?_⟩) hS10 (fun hS11 => ?_)
      ·go_simp
      simp only [Act.put, lsA, lsB, lsC]
      clear hS10
      refine wpAnyL_take (i := 11) (oi := ⟨some 122, .load 40 (.tmp 121), 40, "machine.go:125", #[⟨10, .data⟩], none⟩) (v := .int .i64 28) rfl (by decide) (by kernel_rfl) (by kernel_rfl) (by kernel_rfl) (fun _ _ _ h => h) (Or.inl ⟨by rfl, fun w2 hSw => ?_⟩) hS11 (fun hS12 => ?_)
      ·obtain ⟨kl, k2, vl, k3, k4, k5⟩ := hSw
       go_simp
      simp only [Act.put, lsA, lsB, lsC]
      clear hS11
      refine wpAnyL_take (i := 12) (oi := ⟨some 123, .binOp .eql 40 (.tmp 122) (.const (.int .i64 28)) 40, 4, "machine.go:125", #[⟨11, .data⟩], none⟩) (v := .bool true) rfl (by decide) (by kernel_rfl) (by kernel_rfl) (by kernel_rfl) (fun _ _ _ h => h) (Or.inl ⟨by rfl, fun w2 hSw => ?_⟩) hS12 (fun hS13 => ?_)
      ·go_simp
      simp only [Act.put, lsA, lsB, lsC]
      clear hS12
      clear hS13
      refine wpAnyL_one (i := 13) (o := ⟨some 124, .call { callee := Callee.value (.func 72), args := #[.tmp 123], argTypes := #[4] }, 134, "machine.go:125", #[⟨12, .data⟩], none⟩) (by kernel_rfl) rfl (fun K hK => ?_)
      go_simp
      go_wp2_with fail
      refine (truthC true wz).mono ?_
      rintro e w4 ⟨rfl, G4⟩
      have P4 := hide ((show Pm c mb s wz by rw [← hwz]; exact HG.out.1.below (Below.refl _ _).drew).below G4.out)
      have W4 : Hid (w2.grownBy w4 (some mb)) := by rw [← hwz] at G4; exact grown_tr (grown_below (Below.refl _ _).drew) (grown_below G4.out)
      go_simp
      refine hK.out _ _ ⟨fun _ => trivial, HS.out _ P4.out W4.out⟩ ?_
      clear hK K
      refine wpAnyL_one (i := 14) (o := ⟨some 125, .binOp .eql 134 (.tmp 120) (.tmp 124) 134, 4, "machine.go:125", #[⟨9, .data⟩, ⟨13, .data⟩], none⟩) (by kernel_rfl) rfl (fun K hK => ?_)
      go_simp
      go_wp2_with fail
      refine hK.out _ _ ⟨fun _ => trivial, HS.out _ P4.out W4.out⟩ ?_
      clear hK K
      refine wpAnyL_done (by kernel_rfl) ?_ _
      clear HS9
      clear HS
      go_wp2_with fail
      refine (takeC P4.out h01 H64.out).mono ?_
      rintro e w5 ⟨rfl, G5⟩
      obtain ⟨t1, t2, t3, T4⟩ := HX.out (s.pop 1) _ (rfl) (⟨G5.out.1, grown_tr (grown_tr HG.out.2 W4.out) G5.out.2⟩)
      have HT4 := hide (T4 (HST.out.symm))
      clear T4
      clear HX HGo HBk HNx HV
      go_wp2
      go_round
      case rel => exact ⟨q, by omega, by go_num, ⟨_, HT4.out⟩⟩
      case measure => simp [intOf]
     ·have hv1 : s.sv hh = 1 := by rw [← hv0, q1]
      rw [q1] at HST
      clear hv0 q1
      rw [if_pos rfl] at HST
      have HS : Hid (∀ w', Pm c mb s w' → w2.grownBy w' (some mb) → (fun (w : World) => mb < w.heap.size ∧ w.cell? ⟨vb, 0, none⟩ = some (.int .i64 28) ∧ vb < w.heap.size ∧ w.cell? ⟨mb, 405, none⟩ = some (.int .i64 ((hh + 1 : Nat) : Int)) ∧ w.cell? ⟨mb, 277 + hh * 2, none⟩ = some (.int .i64 1) ∧ w.cell? ⟨mb, 277 + hh * 2 + 1, none⟩ = some (.int .u64 1)) w') := fun w' h1 h2 => by
       obtain ⟨v0, v1, vl⟩ := HV.out w' h2
       have qh := h1.cell (i := 405) (by decide)
       have q0 := h1.cell (i := 277 + hh * 2) (by omega)
       have q1 := h1.cell (i := 277 + hh * 2 + 1) (by omega)
       rw [(fc_stk (c := c) (s := s) hlt).1, hk1] at q0
       rw [(fc_stk (c := c) (s := s) hlt).2, hv1] at q1
       have eh : fcell c s 405 = .int .i64 ((hh + 1 : Nat) : Int) := by show Value.int .i64 (s.h : Nat) = _; rw [hhe]
       rw [eh] at qh
       exact ⟨h1.lt, v0, vl, qh, q0, q1⟩
      clear hk1 hv1 hhe hh1
      go_upto_region 26 with fail
      obtain ⟨wz, hwz⟩ : ∃ wz, (w2).drew = wz := ⟨_, rfl⟩
      have HS9 : Hid ((fun (w : World) => mb < w.heap.size ∧ w.cell? ⟨vb, 0, none⟩ = some (.int .i64 28) ∧ vb < w.heap.size ∧ w.cell? ⟨mb, 405, none⟩ = some (.int .i64 ((hh + 1 : Nat) : Int)) ∧ w.cell? ⟨mb, 277 + hh * 2, none⟩ = some (.int .i64 1) ∧ w.cell? ⟨mb, 277 + hh * 2 + 1, none⟩ = some (.int .u64 1)) wz) := by rw [← hwz]; exact HS.out _ (HG.out.1.below (Below.refl _ _).drew) (grown_below (Below.refl _ _).drew)
      refine wp_region_L 99 (fun _ => True) (fun (w : World) => mb < w.heap.size ∧ w.cell? ⟨vb, 0, none⟩ = some (.int .i64 28) ∧ vb < w.heap.size ∧ w.cell? ⟨mb, 405, none⟩ = some (.int .i64 ((hh + 1 : Nat) : Int)) ∧ w.cell? ⟨mb, 277 + hh * 2, none⟩ = some (.int .i64 1) ∧ w.cell? ⟨mb, 277 + hh * 2 + 1, none⟩ = some (.int .u64 1)) (by kernel_rfl) trivial (by rw [hwz]; exact HS9.out) (fun hS0 => ?_)
      rw [hwz] at hS0 ⊢
      refine wpAnyL_take (i := 0) (oi := ⟨some 111, .move (.tmp 0), 80, "machine.go:125", #[], none⟩) (v := .pointer (some ⟨mb, 0, none⟩)) rfl (by decide) (by kernel_rfl) (by kernel_rfl) (by kernel_rfl) (fun _ _ _ h => h) (Or.inl ⟨by rfl, fun w2 hSw => ?_⟩) hS0 (fun hS1 => ?_)
      ·go_simp
      simp only [Act.put, lsA, lsB, lsC]
      clear hS0
      refine wpAnyL_take (i := 1) (oi := ⟨some 112, .move (.tmp 0), 80, "machine.go:125", #[], none⟩) (v := .pointer (some ⟨mb, 0, none⟩)) rfl (by decide) (by kernel_rfl) (by kernel_rfl) (by kernel_rfl) (fun _ _ _ h => h) (Or.inl ⟨by rfl, fun w2 hSw => ?_⟩) hS1 (fun hS2 => ?_)
      ·go_simp
      simp only [Act.put, lsA, lsB, lsC]
      clear hS1
      refine wpAnyL_take (i := 2) (oi := ⟨some 113, .nilCheck (.tmp 112), 0, "machine.go:125", #[⟨1, .data⟩], none⟩) (v := .pointer (some ⟨mb, 0, none⟩)) rfl (by decide) (by kernel_rfl) (by kernel_rfl) (by kernel_rfl) (fun _ _ _ h => h) (Or.inl ⟨by rfl, fun w2 hSw => ?_⟩) hS2 (fun hS3 => ?_)
      ·obtain ⟨kl, k2, vl, k3, k4, k5⟩ := hSw
       go_simp
      simp only [Act.put, lsA, lsB, lsC]
      clear hS2
      refine wpAnyL_take (i := 3) (oi := ⟨some 114, .fieldAddr 140 (.tmp 113) 8, 0, "machine.go:125", #[⟨2, .data⟩], none⟩) (v := .pointer (some ⟨mb, 405, none⟩)) rfl (by decide) (by kernel_rfl) (by kernel_rfl) (by kernel_rfl) (fun _ _ _ h => h) (Or.inl ⟨by rfl, fun w2 hSw => ?_⟩) hS3 (fun hS4 => ?_)
      ·go_simp
      simp only [Act.put, lsA, lsB, lsC]
      clear hS3
      refine wpAnyL_take (i := 4) (oi := ⟨some 115, .load 3 (.tmp 114), 3, "machine.go:125", #[⟨3, .data⟩], none⟩) (v := .int .i64 ((hh + 1 : Nat) : Int)) rfl (by decide) (by kernel_rfl) (by kernel_rfl) (by kernel_rfl) (fun _ _ _ h => h) (Or.inl ⟨by rfl, fun w2 hSw => ?_⟩) hS4 (fun hS5 => ?_)
      ·obtain ⟨kl, k2, vl, k3, k4, k5⟩ := hSw
       go_simp
      simp only [Act.put, lsA, lsB, lsC]
      clear hS4
      refine wpAnyL_take (i := 5) (oi := ⟨some 116, .binOp .sub 3 (.tmp 115) (.const (.int .i64 1)) 3, 3, "machine.go:125", #[⟨4, .data⟩], none⟩) (v := .int .i64 (hh : Nat)) rfl (by decide) (by kernel_rfl) (by kernel_rfl) (by kernel_rfl) (fun _ _ _ h => h) (Or.inl ⟨by rfl, fun w2 hSw => ?_⟩) hS5 (fun hS6 => ?_)
      ·go_simp
       rw [IntKind.wrap_i64]
       omega
      simp only [Act.put, lsA, lsB, lsC]
      clear hS5
      refine wpAnyL_take (i := 6) (oi := ⟨some 117, .nilCheck (.tmp 111), 0, "machine.go:125", #[⟨0, .data⟩], none⟩) (v := .pointer (some ⟨mb, 0, none⟩)) rfl (by decide) (by kernel_rfl) (by kernel_rfl) (by kernel_rfl) (fun _ _ _ h => h) (Or.inl ⟨by rfl, fun w2 hSw => ?_⟩) hS6 (fun hS7 => ?_)
      ·obtain ⟨kl, k2, vl, k3, k4, k5⟩ := hSw
       go_simp
      simp only [Act.put, lsA, lsB, lsC]
      clear hS6
      refine wpAnyL_take (i := 7) (oi := ⟨some 118, .fieldAddr 140 (.tmp 117) 7, 0, "machine.go:125", #[⟨6, .data⟩], none⟩) (v := .pointer (some ⟨mb, 277, none⟩)) rfl (by decide) (by kernel_rfl) (by kernel_rfl) (by kernel_rfl) (fun _ _ _ h => h) (Or.inl ⟨by rfl, fun w2 hSw => ?_⟩) hS7 (fun hS8 => ?_)
      ·go_simp
      simp only [Act.put, lsA, lsB, lsC]
      clear hS7
      refine wpAnyL_take (i := 8) (oi := ⟨some 119, .indexAddr 138 (.tmp 118) (.tmp 116), 0, "machine.go:125", #[⟨7, .data⟩, ⟨5, .data⟩], none⟩) (v := .pointer (some ⟨mb, 277 + hh * 2, none⟩)) rfl (by decide) (by kernel_rfl) (by kernel_rfl) (by kernel_rfl) (fun _ _ _ h => h) (Or.inl ⟨by rfl, fun w2 hSw => ?_⟩) hS8 (fun hS9 => ?_)
      ·go_simp
       all_goals (intro hx; omega)
      simp only [Act.put, lsA, lsB, lsC]
      clear hS8
      refine wpAnyL_take (i := 9) (oi := ⟨some 120, .load 134 (.tmp 119), 134, "machine.go:125", #[⟨8, .data⟩], none⟩) (v := .agg #[.int .i64 1, .int .u64 1]) rfl (by decide) (by kernel_rfl) (by kernel_rfl) (by kernel_rfl) (fun _ _ _ h => h) (Or.inl ⟨by rfl, fun w2 hSw => ?_⟩) hS9 (fun hS10 => ?_)
      ·obtain ⟨kl, k2, vl, k3, k4, k5⟩ := hSw
       go_simp
      simp only [Act.put, lsA, lsB, lsC]
      clear hS9
      refine wpAnyL_take (i := 10) (oi := ⟨some 121, .fieldAddr 42 (.tmp 4) 0, 0, "machine.go:125", #[], none⟩) (v := .pointer (some ⟨vb, 0, none⟩)) rfl (by decide) (by kernel_rfl) (by kernel_rfl) (by kernel_rfl) (fun _ _ _ h => h) (Or.inl ⟨by rfl, fun w2 hSw => ?_⟩) hS10 (fun hS11 => ?_)
      ·go_simp
      simp only [Act.put, lsA, lsB, lsC]
      clear hS10
      refine wpAnyL_take (i := 11) (oi := ⟨some 122, .load 40 (.tmp 121), 40, "machine.go:125", #[⟨10, .data⟩], none⟩) (v := .int .i64 28) rfl (by decide) (by kernel_rfl) (by kernel_rfl) (by kernel_rfl) (fun _ _ _ h => h) (Or.inl ⟨by rfl, fun w2 hSw => ?_⟩) hS11 (fun hS12 => ?_)
      ·obtain ⟨kl, k2, vl, k3, k4, k5⟩ := hSw
       go_simp
      simp only [Act.put, lsA, lsB, lsC]
      clear hS11
      refine wpAnyL_take (i := 12) (oi := ⟨some 123, .binOp .eql 40 (.tmp 122) (.const (.int .i64 28)) 40, 4, "machine.go:125", #[⟨11, .data⟩], none⟩) (v := .bool true) rfl (by decide) (by kernel_rfl) (by kernel_rfl) (by kernel_rfl) (fun _ _ _ h => h) (Or.inl ⟨by rfl, fun w2 hSw => ?_⟩) hS12 (fun hS13 => ?_)
      ·go_simp
      simp only [Act.put, lsA, lsB, lsC]
      clear hS12
      clear hS13
      refine wpAnyL_one (i := 13) (o := ⟨some 124, .call { callee := Callee.value (.func 72), args := #[.tmp 123], argTypes := #[4] }, 134, "machine.go:125", #[⟨12, .data⟩], none⟩) (by kernel_rfl) rfl (fun K hK => ?_)
      go_simp
      go_wp2_with fail
      refine (truthC true wz).mono ?_
      rintro e w4 ⟨rfl, G4⟩
      have P4 := hide ((show Pm c mb s wz by rw [← hwz]; exact HG.out.1.below (Below.refl _ _).drew).below G4.out)
      have W4 : Hid (w2.grownBy w4 (some mb)) := by rw [← hwz] at G4; exact grown_tr (grown_below (Below.refl _ _).drew) (grown_below G4.out)
      go_simp
      refine hK.out _ _ ⟨fun _ => trivial, HS.out _ P4.out W4.out⟩ ?_
      clear hK K
      refine wpAnyL_one (i := 14) (o := ⟨some 125, .binOp .eql 134 (.tmp 120) (.tmp 124) 134, 4, "machine.go:125", #[⟨9, .data⟩, ⟨13, .data⟩], none⟩) (by kernel_rfl) rfl (fun K hK => ?_)
      go_simp
      go_wp2_with fail
      refine hK.out _ _ ⟨fun _ => trivial, HS.out _ P4.out W4.out⟩ ?_
      clear hK K
      refine wpAnyL_done (by kernel_rfl) ?_ _
      clear HS9
      clear HS
      obtain ⟨⟨u406, t1⟩, t2, t3, T4⟩ := HGo.out (s) _ (⟨P4.out, grown_tr HG.out.2 W4.out⟩)
      obtain ⟨v0, v1, vl⟩ := HV.out _ (W4.out)
      have HT4 := hide (T4 (HST.out.symm))
      clear T4
      clear HX HGo HBk HNx HV
      go_wp2
      go_round
      case rel => exact ⟨q, by omega, by go_num, ⟨_, HT4.out⟩⟩
      case measure => simp [intOf]
   ·as_aux_lemma =>
     clear hp406
     have HO8 : Hid (8 ≤ o ∧ o ≤ 24 ∨ o = 29) := by show _ ∨ _; omega
     have HST : Hid (stepF p c.ek c.ev c.hd s = if (opS o c.hd s).2 = true then (opS o c.hd s).1.nxt else (opS o c.hd s).1) := step_op HOP.out HO8.out
     have HOC := hide (operateC HO8.out HG.out.1 HTM.out HOV.out HHD.out HOP1.out H64.out HSK.out HFT.out)
     have HY : Hid ((opS o c.hd s).2 = true → (opS o c.hd s).1.pc = s.pc) := ops_yes
     have HNo : Hid ((opS o c.hd s).2 = false → (opS o c.hd s).1.ov = true) := ops_no
     have n1 : ¬ (o : Int) = 1 := by omega
     have n2 : ¬ (o : Int) = 2 := by omega
     have n3 : ¬ (o : Int) = 3 := by omega
     have n4 : ¬ (o : Int) = 4 := by omega
     have n5 : ¬ (o : Int) = 5 := by omega
     have n6 : ¬ (o : Int) = 6 := by omega
     have n7 : ¬ (o : Int) = 7 := by omega
     have n25 : ¬ (o : Int) = 25 := by omega
     have n26 : ¬ (o : Int) = 26 := by omega
     have n27 : ¬ (o : Int) = 27 := by omega
     have n28 : ¬ (o : Int) = 28 := by omega
     have n30 : ¬ (o : Int) = 30 := by omega
     have n31 : ¬ (o : Int) = 31 := by omega
     have n32 : ¬ (o : Int) = 32 := by omega
     generalize (opS o c.hd s).1 = s1 at *
     obtain ⟨b, hb⟩ : ∃ b, (opS o c.hd s).2 = b := ⟨_, rfl⟩
     rw [hb] at HST HOC HY HNo
     clear hb HO8
     obtain ⟨v0, v1, vl⟩ := HV.out _ (show w2.grownBy w2 (some mb) from grown_below (Below.refl _ _))
     cases b with
     | true =>
      rw [if_pos rfl] at HST
      have HY1 := hide (HY.out rfl)
      clear HY HNo
      go_wp2_with fail
      refine HOC.out.mono ?_
      rintro e w3 ⟨rfl, G3⟩
      clear HOC v0 v1 vl
      obtain ⟨t1, t2, t3, T4⟩ := HX.out (s1) _ (HY1.out) (HG.out.trans G3.out)
      have HT4 := hide (T4 (HST.out.symm))
      clear T4
      clear HX HGo HBk HNx HV
      go_wp2
      go_round
      case rel => exact ⟨q, by omega, by go_num, ⟨_, HT4.out⟩⟩
      case measure => simp [intOf]
     | false =>
      rw [if_neg (by decide)] at HST
      have HN1 := hide (HNo.out rfl)
      clear HY HNo
      go_wp2_with fail
      refine HOC.out.mono ?_
      rintro e w3 ⟨rfl, G3⟩
      clear HOC v0 v1 vl
      have HZ := hide (HBk.out _ (by rw [HST.out]; exact HN1.out) (by rw [HST.out]; exact HG.out.trans G3.out))
      clear HX HGo HBk HNx HV
      go_wp2
      simp only [Exit.noGoto_normal]
      go_end0
      exact ⟨rfl, HZ⟩
end
end Go.Proofs.YtggpaljilpbmhaaGreatDoor
