import Derived.Test.YtldhafpeigdloaaGreatDoorM43
namespace Go.Proofs.YtldhafpeigdloaaGreatDoor
open Go.RowKit Crc

set_option maxRecDepth 10000 in
set_option maxHeartbeats 6400000 in
theorem smB {w : World} (a b : Mg) (rla : a.root.length = 32) (rlb : b.root.length = 32) {qv qt qc qd : Bool} (hna : a.hs.length = a.pn) (hnb : b.hs.length = b.pn) (hr : a.kind = b.kind ∧ (a.num = b.num ∧ a.node = b.node) ∧ a.slot = b.slot ∧ a.low = b.low ∧ a.seq = b.seq ∧ a.stamp = b.stamp) (hq : ¬ (a.code = b.code ∧ a.sus = b.sus ∧ a.idx = b.idx ∧ a.cnt = b.cnt ∧ a.root = b.root ∧ a.pn = b.pn)) :
    Calls Tryz.prog 10 #[.agg a.R.toArray, .agg b.R.toArray] w (SameP a b qv qt qc qd w) := by
  have RL := hide (And.intro rla rlb)
  obtain ⟨W, hW⟩ : ∃ W, (w.alloc (.cells a.R.toArray 36)).alloc (.cells b.R.toArray 36) = W := ⟨_, rfl⟩
  have SM : Hid (Sm w a b W) := by show Sm _ _ _ _; rw [← hW]; exact sm_new w a b
  have HW := hide hW
  clear hW rla rlb
  have HQ := hide hq
  have HNL := hide (And.intro hna hnb)
  clear hq hna hnb
  obtain ⟨b1, hb1, hbe⟩ : ∃ b1 : Bool, (b1 = true ↔ ¬ (a.num = b.num ∧ a.node = b.node)) ∧ ∀ w, (binOp BinOp.neq 25 (.agg #[.int .u64 (a.num : Int), .int .i64 a.node]) (.agg #[.int .u64 (b.num : Int), .int .i64 b.node])).run Tryz.prog w = .ok (.bool b1) w := ⟨_, by simp; omega, bal_cmp (a.num : Int) b.num a.node b.node⟩
  have x0 := SM.out.ca 0 (v := .int .i64 a.kind) rfl
  have y0 := SM.out.cb 0 (v := .int .i64 b.kind) rfl
  have x1 := SM.out.ca 1 (v := .int .u64 (a.num : Int)) rfl
  have y1 := SM.out.cb 1 (v := .int .u64 (b.num : Int)) rfl
  have x2 := SM.out.ca 2 (v := .int .i64 a.node) rfl
  have y2 := SM.out.cb 2 (v := .int .i64 b.node) rfl
  have x3 := SM.out.ca 3 (v := .int .u64 (a.slot : Int)) rfl
  have y3 := SM.out.cb 3 (v := .int .u64 (b.slot : Int)) rfl
  have x4 := SM.out.ca 4 (v := .int .u64 (a.low : Int)) rfl
  have y4 := SM.out.cb 4 (v := .int .u64 (b.low : Int)) rfl
  have x8 := SM.out.ca 8 (v := .int .u64 (a.seq : Int)) rfl
  have y8 := SM.out.cb 8 (v := .int .u64 (b.seq : Int)) rfl
  have x9 := SM.out.ca 9 (v := .int .u64 (a.stamp : Int)) rfl
  have y9 := SM.out.cb 9 (v := .int .u64 (b.stamp : Int)) rfl
  obtain ⟨e0, ⟨e1, e2⟩, e3, e4, e8, e9⟩ := hr
  rw [← e0] at y0
  rw [← e1] at y1 hbe hb1
  rw [← e2] at y2 hbe hb1
  rw [← e3] at y3
  rw [← e4] at y4
  rw [← e8] at y8
  rw [← e9] at y9
  obtain rfl : b1 = false := Bool.eq_false_iff.2 (fun e => hb1.1 e ⟨rfl, rfl⟩)
  clear e0 e1 e2 e3 e4 e8 e9 hb1
  go_enter Tryz.func10, Tryz.ntmps10
  go_upto_region 1 with fail
  rw [HW.out]
  clear HW
  go_upto_region 3 with fail
  clear x0 y0 x1 y1 x2 y2 x3 y3 x4 y4 x8 y8 x9 y9 hbe
  obtain ⟨b14, hb14, hze⟩ : ∃ b14 : Bool, (b14 = true ↔ ¬ a.root = b.root) ∧ ∀ w, (binOp BinOp.neq 33 (.agg (vals a.root).toArray) (.agg (vals b.root).toArray)).run Tryz.prog w = .ok (.bool b14) w := ⟨_, by simp, hash_ncmp RL.out.1 RL.out.2⟩
  have HRA := hide SM.out.ra
  have HRB := hide SM.out.rb
  have HLA : Hid ((Tryz.prog.info? 33).map (·.size) = some (vals a.root).length) := by show _ = _; rw [vals_len, RL.out.1]; kernel_rfl
  have HLB : Hid ((Tryz.prog.info? 33).map (·.size) = some (vals b.root).length) := by show _ = _; rw [vals_len, RL.out.2]; kernel_rfl
  generalize vals a.root = zs at *
  generalize vals b.root = zz at *
  have x10 := SM.out.ca 10 (v := .int .i64 a.code) rfl
  have y10 := SM.out.cb 10 (v := .int .i64 b.code) rfl
  have x13 := SM.out.ca 13 (v := .bool a.sus) rfl
  have y13 := SM.out.cb 13 (v := .bool b.sus) rfl
  have x14 := SM.out.ca 14 (v := .int .u64 (a.idx : Int)) rfl
  have y14 := SM.out.cb 14 (v := .int .u64 (b.idx : Int)) rfl
  have x15 := SM.out.ca 15 (v := .int .u64 (a.cnt : Int)) rfl
  have y15 := SM.out.cb 15 (v := .int .u64 (b.cnt : Int)) rfl
  have x48 := SM.out.ca 48 (Mg.at48 RL.out.1)
  have y48 := SM.out.cb 48 (Mg.at48 RL.out.2)
  by_cases e10 : a.code = b.code
  rotate_left
  · have NE := hide e10
    have n1 : (a.code != b.code) = true := by simp; omega
    have n2 : (a.code == b.code) = false := by simp; omega
    have n3 : decide (a.code = b.code) = false := by simp; omega
    clear e10
    go_wp2
    go_ret
    exact SameP.no (fun e => NE.out e.1.code) SM.out.bel
  rw [← e10] at y10
  have E10 := hide e10
  clear e10
  by_cases e13 : a.sus = b.sus
  rotate_left
  · have NE := hide e13
    have n1 : (a.sus == b.sus) = false := by simp [e13]
    clear e13
    go_wp2
    go_ret
    exact SameP.no (fun e => NE.out e.1.sus) SM.out.bel
  rw [← e13] at y13
  have E13 := hide e13
  clear e13
  by_cases e14 : a.idx = b.idx
  rotate_left
  · have NE := hide e14
    have n1 : ((a.idx : Int) != (b.idx : Int)) = true := by simp; omega
    have n2 : ((a.idx : Int) == (b.idx : Int)) = false := by simp; omega
    have n3 : decide ((a.idx : Int) = (b.idx : Int)) = false := by simp; omega
    clear e14
    go_wp2
    go_ret
    exact SameP.no (fun e => NE.out e.1.idx) SM.out.bel
  rw [← e14] at y14
  have E14 := hide e14
  clear e14
  by_cases e15 : a.cnt = b.cnt
  rotate_left
  · have NE := hide e15
    have n1 : ((a.cnt : Int) != (b.cnt : Int)) = true := by simp; omega
    have n2 : ((a.cnt : Int) == (b.cnt : Int)) = false := by simp; omega
    have n3 : decide ((a.cnt : Int) = (b.cnt : Int)) = false := by simp; omega
    clear e15
    go_wp2
    go_ret
    exact SameP.no (fun e => NE.out e.1.cnt) SM.out.bel
  rw [← e15] at y15
  have E15 := hide e15
  clear e15
  cases b14 with
  | true =>
    have NE := hide (hb14.1 rfl)
    clear hb14
    go_step
    iterate 68 go_step
    refine wpList_load_midG (by rfl) 33 _ rfl w.heap.size 16 rfl zs _ HRA.out Tryz.underlying33 rfl HLA.out ?_
    simp only [Act.put, List.setIfInBounds_toArray, List.set_cons_zero, List.set_cons_succ]
    iterate 2 go_step
    refine wpList_load_midG (by rfl) 33 _ rfl (w.heap.size + 1) 16 rfl zz _ HRB.out Tryz.underlying33 rfl HLB.out ?_
    simp only [Act.put, List.setIfInBounds_toArray, List.set_cons_zero, List.set_cons_succ]
    go_wp2
    go_ret
    exact SameP.no (fun e => NE.out e.1.root) SM.out.bel
  | false =>
  have ER : Hid (a.root = b.root) := Classical.byContradiction fun e => Bool.noConfusion (hb14.2 e)
  clear hb14
  by_cases e48 : a.pn = b.pn
  rotate_left
  · have NE := hide e48
    have n1 : ((a.pn : Int) != (b.pn : Int)) = true := by simp; omega
    have n2 : ((a.pn : Int) == (b.pn : Int)) = false := by simp; omega
    have n3 : decide ((a.pn : Int) = (b.pn : Int)) = false := by simp; omega
    clear e48
    go_step
    iterate 68 go_step
    refine wpList_load_midG (by rfl) 33 _ rfl w.heap.size 16 rfl zs _ HRA.out Tryz.underlying33 rfl HLA.out ?_
    simp only [Act.put, List.setIfInBounds_toArray, List.set_cons_zero, List.set_cons_succ]
    iterate 2 go_step
    refine wpList_load_midG (by rfl) 33 _ rfl (w.heap.size + 1) 16 rfl zz _ HRB.out Tryz.underlying33 rfl HLB.out ?_
    simp only [Act.put, List.setIfInBounds_toArray, List.set_cons_zero, List.set_cons_succ]
    go_wp2
    go_ret
    exact SameP.no (fun e => NE.out (by rw [← HNL.out.1, ← HNL.out.2, e.1.hs])) SM.out.bel
  rw [← e48] at y48
  have E48 := hide e48
  clear e48
  exact absurd ⟨E10.out, E13.out, E14.out, E15.out, ER.out, E48.out⟩ HQ.out
end Go.Proofs.YtldhafpeigdloaaGreatDoor
