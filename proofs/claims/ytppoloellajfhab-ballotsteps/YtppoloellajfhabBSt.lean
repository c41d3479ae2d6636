import Derived.Test.YtppoloellajfhabBRf
import Derived.Test.YtppoloellajfhabBPm
import Derived.Test.YtppoloellajfhabBPf
namespace Go.Proofs.Ytppoloellajfhab
open Go.RowKit

set_option maxRecDepth 100000 in
set_option maxHeartbeats 1600000 in
theorem steps_bad (c : Cf) (n1 : Nat) (m1 nd : Int) (u : Nat) (w : World) 
    (hG : ∀ W, Calls Try.prog 7 #[.agg c.cells] W fun e w' => ∃ a b, e = .returned (.tuple #[.pointer a, .pointer b, .bool true]) ∧ Hid (a = none ∧ b = none ∧ Below W.heap.size W w')) :
    Calls Try.prog 5 #[.agg c.cells, .agg #[.int .u64 (n1 : Nat), .int .i64 m1], .int .i64 nd, .int .u64 (u : Nat)] w fun e w' => e = .returned (.bool true) ∧ Below w.heap.size w w' := by
  have HG := hide hG
  clear hG
  obtain ⟨W1, hW1⟩ : ∃ W1, (w.alloc (.cells c.cells 24)).alloc (.cells #[.int .u64 (n1 : Nat), .int .i64 m1] 47) = W1 := ⟨_, rfl⟩
  have BW : Hid (Below w.heap.size w W1) := by rw [← hW1]; exact ((Below.refl _ w).alloc (Nat.le_refl _) _).alloc (by simp) _
  obtain ⟨pc, hpc⟩ : ∃ p, w.heap.size = p := ⟨_, rfl⟩
  obtain ⟨pb, hpb⟩ : ∃ p, w.heap.size + 1 = p := ⟨_, rfl⟩
  obtain ⟨t1, t2⟩ := two_box w (.cells c.cells 24) (.cells #[.int .u64 (n1 : Nat), .int .i64 m1] 47)
  rw [hW1, hpc] at t1
  rw [hW1, hpb] at t2
  obtain ⟨z0, z1, z2, z3, z4, z5, z6, z7, z8, z9⟩ := cfg_cells t1
  have BB := hide t2
  have HW1 := hide hW1
  have HPB := hide hpb
  have HPC := hide hpc
  clear hW1 hpb hpc t1 t2
  generalize (n1 : Int) = n1 at *
  generalize (u : Int) = u at *
  unfold Cf.cells at *
  generalize c.f = f at *
  generalize c.mb = mb at *
  generalize (c.delay : Int) = d at *
  generalize (c.win : Int) = wn at *
  generalize (c.every : Int) = ev at *
  generalize (c.beat : Int) = bt at *
  generalize (c.ep : Int) = ep at *
  generalize (c.em : Int) = em at *
  generalize (c.mn : Int) = mn at *
  generalize (c.ms : Int) = ms at *
  go_enter Try.func5, Try.ntmps5
  go_upto_region 1 with fail
  rw [HW1.out, HPB.out, HPC.out]
  clear HW1
  go_wp2_with fail
  refine (HG.out W1).mono ?_
  rintro e w2 ⟨a, b, rfl, G2⟩
  obtain ⟨p2, h2, b2⟩ := G2.out
  replace BW := hide (BW.out.trans (b2.mono BW.out.size))
  replace BB := hide ((b2.block _ (block_lt BB.out)).trans BB.out)
  subst p2 h2
  clear G2 b2 HG z0 z1 z2 z3 z4 z5 z6 z7 z8 z9 HPB HPC
  go_upto_region 5 with fail
  obtain ⟨WZ, hWZ⟩ : ∃ W, w2.alloc (.cells #[.int .i64 0, .int .i64 0, .int .u64 0, .int .u64 0, .int .u64 0, .int .u64 0, .int .u64 0, .int .u64 0, .int .u64 0, .int .u64 0] 41) = W := ⟨_, rfl⟩
  have b3 : Below w2.heap.size w2 WZ := by rw [← hWZ]; exact (Below.refl _ _).alloc (Nat.le_refl _) _
  have y := alloc_atK w2 (.cells #[.int .i64 0, .int .i64 0, .int .u64 0, .int .u64 0, .int .u64 0, .int .u64 0, .int .u64 0, .int .u64 0, .int .u64 0, .int .u64 0] 41)
  rw [hWZ] at y
  rw [hWZ]
  replace BW := hide (BW.out.trans (b3.mono BW.out.size))
  replace BB := hide ((b3.block _ (block_lt BB.out)).trans BB.out)
  have DD : Hid (Dead WZ (some ⟨w2.heap.size, 0, none⟩)) := .inr ⟨_, rfl, block_lt y, block_cell y 0⟩
  clear y b3 hWZ
  generalize w2.heap.size = gz at *
  have qBB0 := block_cell BB.out 0
  have qBB1 := block_cell BB.out 1
  have C := hide (next_no n1 m1 3 (by decide) (fun W hb => wrong_dead n1 m1 (DD.out.kept hb)))
  unfold BalR at C
  go_wp2_with fail
  refine C.out.mono ?_
  rintro e V1 ⟨ev1, rfl, G⟩
  obtain ⟨er, b⟩ := G.out
  replace BW := hide (BW.out.trans (b.mono BW.out.size))
  replace BB := hide ((b.block _ (block_lt BB.out)).trans BB.out)
  replace DD := hide (DD.out.kept b)
  have Z1 := hide er
  clear er b G C qBB0 qBB1
  go_upto_region 6 with fail
  obtain ⟨U1, hU⟩ : ∃ U, V1.alloc (.cells #[.int .u64 0, .int .i64 0] 47) = U := ⟨_, rfl⟩
  have b : Below V1.heap.size V1 U1 := by rw [← hU]; exact (Below.refl _ _).alloc (Nat.le_refl _) _
  have y := alloc_atK V1 (.cells #[.int .u64 0, .int .i64 0] 47)
  rw [hU] at y
  rw [hU]
  replace BW := hide (BW.out.trans (b.mono BW.out.size))
  replace BB := hide ((b.block _ (block_lt BB.out)).trans BB.out)
  replace DD := hide (DD.out.kept b)
  replace Z1 := hide (Z1.out.below b)
  clear b y hU
  generalize V1.heap.size = p1 at *
  have qBB0 := block_cell BB.out 0
  have qBB1 := block_cell BB.out 1
  have C := hide (own_no n1 m1 nd 3 (by decide) (fun W hb => wrong_dead n1 m1 (DD.out.kept hb)))
  unfold BalR at C
  go_wp2_with fail
  refine C.out.mono ?_
  rintro e V2 ⟨ev2, rfl, G⟩
  obtain ⟨er, b⟩ := G.out
  replace BW := hide (BW.out.trans (b.mono BW.out.size))
  replace BB := hide ((b.block _ (block_lt BB.out)).trans BB.out)
  replace DD := hide (DD.out.kept b)
  replace Z1 := hide (Z1.out.below b)
  have Z2 := hide er
  clear er b G C qBB0 qBB1
  go_upto_region 7 with fail
  obtain ⟨U2, hU⟩ : ∃ U, V2.alloc (.cells #[.int .u64 0, .int .i64 0] 47) = U := ⟨_, rfl⟩
  have b : Below V2.heap.size V2 U2 := by rw [← hU]; exact (Below.refl _ _).alloc (Nat.le_refl _) _
  have y := alloc_atK V2 (.cells #[.int .u64 0, .int .i64 0] 47)
  rw [hU] at y
  rw [hU]
  replace BW := hide (BW.out.trans (b.mono BW.out.size))
  replace BB := hide ((b.block _ (block_lt BB.out)).trans BB.out)
  replace DD := hide (DD.out.kept b)
  replace Z1 := hide (Z1.out.below b)
  replace Z2 := hide (Z2.out.below b)
  clear b y hU
  generalize V2.heap.size = p2 at *
  have qBB0 := block_cell BB.out 0
  have qBB1 := block_cell BB.out 1
  have C := hide (rank_no n1 m1 3 (by decide) (fun W hb => wrong_dead n1 m1 (DD.out.kept hb)))
  unfold NumR at C
  go_wp2_with fail
  refine C.out.mono ?_
  rintro e V3 ⟨ev3, rfl, G⟩
  obtain ⟨er, b⟩ := G.out
  replace BW := hide (BW.out.trans (b.mono BW.out.size))
  replace BB := hide ((b.block _ (block_lt BB.out)).trans BB.out)
  replace DD := hide (DD.out.kept b)
  replace Z1 := hide (Z1.out.below b)
  replace Z2 := hide (Z2.out.below b)
  have Z3 := hide er
  clear er b G C qBB0 qBB1
  go_upto_region 8 with fail
  have qBB0 := block_cell BB.out 0
  have qBB1 := block_cell BB.out 1
  have C := hide (ranked_dead u DD.out)
  unfold BalR at C
  go_wp2_with fail
  refine C.out.mono ?_
  rintro e V4 ⟨ev4, rfl, G⟩
  obtain ⟨er, b⟩ := G.out
  replace BW := hide (BW.out.trans (b.mono BW.out.size))
  replace BB := hide ((b.block _ (block_lt BB.out)).trans BB.out)
  replace DD := hide (DD.out.kept b)
  replace Z1 := hide (Z1.out.below b)
  replace Z2 := hide (Z2.out.below b)
  replace Z3 := hide (Z3.out.below b)
  have Z4 := hide er
  clear er b G C qBB0 qBB1
  go_upto_region 9 with fail
  obtain ⟨U4, hU⟩ : ∃ U, V4.alloc (.cells #[.int .u64 0, .int .i64 0] 47) = U := ⟨_, rfl⟩
  have b : Below V4.heap.size V4 U4 := by rw [← hU]; exact (Below.refl _ _).alloc (Nat.le_refl _) _
  have y := alloc_atK V4 (.cells #[.int .u64 0, .int .i64 0] 47)
  rw [hU] at y
  rw [hU]
  replace BW := hide (BW.out.trans (b.mono BW.out.size))
  replace BB := hide ((b.block _ (block_lt BB.out)).trans BB.out)
  replace DD := hide (DD.out.kept b)
  replace Z1 := hide (Z1.out.below b)
  replace Z2 := hide (Z2.out.below b)
  replace Z3 := hide (Z3.out.below b)
  replace Z4 := hide (Z4.out.below b)
  clear b y hU
  generalize V4.heap.size = p4 at *
  have C := hide (zero_any Z1.out)
  go_wp2_with fail
  refine C.out.mono ?_
  rintro e V5 ⟨rfl, b⟩
  replace BW := hide (BW.out.trans (b.mono BW.out.size))
  replace BB := hide ((b.block _ (block_lt BB.out)).trans BB.out)
  replace DD := hide (DD.out.kept b)
  replace Z1 := hide (Z1.out.below b)
  replace Z2 := hide (Z2.out.below b)
  replace Z3 := hide (Z3.out.below b)
  replace Z4 := hide (Z4.out.below b)
  clear b C 
  have C := hide (zero_any Z2.out)
  go_wp2_with fail
  refine C.out.mono ?_
  rintro e V6 ⟨rfl, b⟩
  replace BW := hide (BW.out.trans (b.mono BW.out.size))
  replace BB := hide ((b.block _ (block_lt BB.out)).trans BB.out)
  replace DD := hide (DD.out.kept b)
  replace Z1 := hide (Z1.out.below b)
  replace Z2 := hide (Z2.out.below b)
  replace Z3 := hide (Z3.out.below b)
  replace Z4 := hide (Z4.out.below b)
  clear b C 
  have C := hide (zero_any Z3.out)
  go_wp2_with fail
  refine C.out.mono ?_
  rintro e V7 ⟨rfl, b⟩
  replace BW := hide (BW.out.trans (b.mono BW.out.size))
  replace BB := hide ((b.block _ (block_lt BB.out)).trans BB.out)
  replace DD := hide (DD.out.kept b)
  replace Z1 := hide (Z1.out.below b)
  replace Z2 := hide (Z2.out.below b)
  replace Z3 := hide (Z3.out.below b)
  replace Z4 := hide (Z4.out.below b)
  clear b C 
  have C := hide (zero_any Z4.out)
  go_wp2_with fail
  refine C.out.mono ?_
  rintro e V8 ⟨rfl, b⟩
  replace BW := hide (BW.out.trans (b.mono BW.out.size))
  replace BB := hide ((b.block _ (block_lt BB.out)).trans BB.out)
  replace DD := hide (DD.out.kept b)
  replace Z1 := hide (Z1.out.below b)
  replace Z2 := hide (Z2.out.below b)
  replace Z3 := hide (Z3.out.below b)
  replace Z4 := hide (Z4.out.below b)
  clear b C 
  clear Z1 Z2 Z3 Z4 DD
  go_upto_region 11 with fail
  have qBB0 := block_cell BB.out 0
  have qBB1 := block_cell BB.out 1
  have C := hide (next_no (w := V8) (a := none) n1 m1 3 (by decide) (fun W _ => wrong_dead n1 m1 (.inl rfl)))
  unfold BalR at C
  go_wp2_with fail
  refine C.out.mono ?_
  rintro e V9 ⟨ev9, rfl, G⟩
  obtain ⟨er, b⟩ := G.out
  replace BW := hide (BW.out.trans (b.mono BW.out.size))
  replace BB := hide ((b.block _ (block_lt BB.out)).trans BB.out)
  have Z1 := hide er
  clear er b G C qBB0 qBB1
  go_upto_region 12 with fail
  obtain ⟨U9, hU⟩ : ∃ U, V9.alloc (.cells #[.int .u64 0, .int .i64 0] 47) = U := ⟨_, rfl⟩
  have b : Below V9.heap.size V9 U9 := by rw [← hU]; exact (Below.refl _ _).alloc (Nat.le_refl _) _
  have y := alloc_atK V9 (.cells #[.int .u64 0, .int .i64 0] 47)
  rw [hU] at y
  rw [hU]
  replace BW := hide (BW.out.trans (b.mono BW.out.size))
  replace BB := hide ((b.block _ (block_lt BB.out)).trans BB.out)
  replace Z1 := hide (Z1.out.below b)
  have X1 := hide y
  clear b y hU
  generalize V9.heap.size = p9 at *
  have qBB0 := block_cell BB.out 0
  have qBB1 := block_cell BB.out 1
  have C := hide (own_no (w := U9) (a := none) n1 m1 nd 3 (by decide) (fun W _ => wrong_dead n1 m1 (.inl rfl)))
  unfold BalR at C
  go_wp2_with fail
  refine C.out.mono ?_
  rintro e V10 ⟨ev10, rfl, G⟩
  obtain ⟨er, b⟩ := G.out
  replace BW := hide (BW.out.trans (b.mono BW.out.size))
  replace BB := hide ((b.block _ (block_lt BB.out)).trans BB.out)
  replace Z1 := hide (Z1.out.below b)
  replace X1 := hide ((b.block _ (block_lt X1.out)).trans X1.out)
  have Z2 := hide er
  clear er b G C qBB0 qBB1
  go_upto_region 13 with fail
  obtain ⟨U10, hU⟩ : ∃ U, V10.alloc (.cells #[.int .u64 0, .int .i64 0] 47) = U := ⟨_, rfl⟩
  have b : Below V10.heap.size V10 U10 := by rw [← hU]; exact (Below.refl _ _).alloc (Nat.le_refl _) _
  have y := alloc_atK V10 (.cells #[.int .u64 0, .int .i64 0] 47)
  rw [hU] at y
  rw [hU]
  replace BW := hide (BW.out.trans (b.mono BW.out.size))
  replace BB := hide ((b.block _ (block_lt BB.out)).trans BB.out)
  replace Z1 := hide (Z1.out.below b)
  replace X1 := hide ((b.block _ (block_lt X1.out)).trans X1.out)
  replace Z2 := hide (Z2.out.below b)
  have X2 := hide y
  clear b y hU
  generalize V10.heap.size = p10 at *
  have qBB0 := block_cell BB.out 0
  have qBB1 := block_cell BB.out 1
  have C := hide (rank_no (w := U10) (a := none) n1 m1 3 (by decide) (fun W _ => wrong_dead n1 m1 (.inl rfl)))
  unfold NumR at C
  go_wp2_with fail
  refine C.out.mono ?_
  rintro e V11 ⟨ev11, rfl, G⟩
  obtain ⟨er, b⟩ := G.out
  replace BW := hide (BW.out.trans (b.mono BW.out.size))
  replace BB := hide ((b.block _ (block_lt BB.out)).trans BB.out)
  replace Z1 := hide (Z1.out.below b)
  replace X1 := hide ((b.block _ (block_lt X1.out)).trans X1.out)
  replace Z2 := hide (Z2.out.below b)
  replace X2 := hide ((b.block _ (block_lt X2.out)).trans X2.out)
  have Z3 := hide er
  clear er b G C qBB0 qBB1
  go_upto_region 14 with fail
  have qBB0 := block_cell BB.out 0
  have qBB1 := block_cell BB.out 1
  have C := hide (ranked_dead (w := V11) (a := none) u (.inl rfl))
  unfold BalR at C
  go_wp2_with fail
  refine C.out.mono ?_
  rintro e V12 ⟨ev12, rfl, G⟩
  obtain ⟨er, b⟩ := G.out
  replace BW := hide (BW.out.trans (b.mono BW.out.size))
  replace BB := hide ((b.block _ (block_lt BB.out)).trans BB.out)
  replace Z1 := hide (Z1.out.below b)
  replace X1 := hide ((b.block _ (block_lt X1.out)).trans X1.out)
  replace Z2 := hide (Z2.out.below b)
  replace X2 := hide ((b.block _ (block_lt X2.out)).trans X2.out)
  replace Z3 := hide (Z3.out.below b)
  have Z4 := hide er
  clear er b G C qBB0 qBB1
  go_upto_region 15 with fail
  obtain ⟨U12, hU⟩ : ∃ U, V12.alloc (.cells #[.int .u64 0, .int .i64 0] 47) = U := ⟨_, rfl⟩
  have b : Below V12.heap.size V12 U12 := by rw [← hU]; exact (Below.refl _ _).alloc (Nat.le_refl _) _
  have y := alloc_atK V12 (.cells #[.int .u64 0, .int .i64 0] 47)
  rw [hU] at y
  rw [hU]
  replace BW := hide (BW.out.trans (b.mono BW.out.size))
  replace BB := hide ((b.block _ (block_lt BB.out)).trans BB.out)
  replace Z1 := hide (Z1.out.below b)
  replace X1 := hide ((b.block _ (block_lt X1.out)).trans X1.out)
  replace Z2 := hide (Z2.out.below b)
  replace X2 := hide ((b.block _ (block_lt X2.out)).trans X2.out)
  replace Z3 := hide (Z3.out.below b)
  replace Z4 := hide (Z4.out.below b)
  have X4 := hide y
  clear b y hU
  generalize V12.heap.size = p12 at *
  have C := hide (zero_any Z1.out)
  go_wp2_with fail
  refine C.out.mono ?_
  rintro e V13 ⟨rfl, b⟩
  replace BW := hide (BW.out.trans (b.mono BW.out.size))
  replace BB := hide ((b.block _ (block_lt BB.out)).trans BB.out)
  replace Z1 := hide (Z1.out.below b)
  replace X1 := hide ((b.block _ (block_lt X1.out)).trans X1.out)
  replace Z2 := hide (Z2.out.below b)
  replace X2 := hide ((b.block _ (block_lt X2.out)).trans X2.out)
  replace Z3 := hide (Z3.out.below b)
  replace Z4 := hide (Z4.out.below b)
  replace X4 := hide ((b.block _ (block_lt X4.out)).trans X4.out)
  clear b C 
  have C := hide (zero_any Z2.out)
  go_wp2_with fail
  refine C.out.mono ?_
  rintro e V14 ⟨rfl, b⟩
  replace BW := hide (BW.out.trans (b.mono BW.out.size))
  replace BB := hide ((b.block _ (block_lt BB.out)).trans BB.out)
  replace Z1 := hide (Z1.out.below b)
  replace X1 := hide ((b.block _ (block_lt X1.out)).trans X1.out)
  replace Z2 := hide (Z2.out.below b)
  replace X2 := hide ((b.block _ (block_lt X2.out)).trans X2.out)
  replace Z3 := hide (Z3.out.below b)
  replace Z4 := hide (Z4.out.below b)
  replace X4 := hide ((b.block _ (block_lt X4.out)).trans X4.out)
  clear b C 
  have C := hide (zero_any Z3.out)
  go_wp2_with fail
  refine C.out.mono ?_
  rintro e V15 ⟨rfl, b⟩
  replace BW := hide (BW.out.trans (b.mono BW.out.size))
  replace BB := hide ((b.block _ (block_lt BB.out)).trans BB.out)
  replace Z1 := hide (Z1.out.below b)
  replace X1 := hide ((b.block _ (block_lt X1.out)).trans X1.out)
  replace Z2 := hide (Z2.out.below b)
  replace X2 := hide ((b.block _ (block_lt X2.out)).trans X2.out)
  replace Z3 := hide (Z3.out.below b)
  replace Z4 := hide (Z4.out.below b)
  replace X4 := hide ((b.block _ (block_lt X4.out)).trans X4.out)
  clear b C 
  have C := hide (zero_any Z4.out)
  go_wp2_with fail
  refine C.out.mono ?_
  rintro e V16 ⟨rfl, b⟩
  replace BW := hide (BW.out.trans (b.mono BW.out.size))
  replace BB := hide ((b.block _ (block_lt BB.out)).trans BB.out)
  replace Z1 := hide (Z1.out.below b)
  replace X1 := hide ((b.block _ (block_lt X1.out)).trans X1.out)
  replace Z2 := hide (Z2.out.below b)
  replace X2 := hide ((b.block _ (block_lt X2.out)).trans X2.out)
  replace Z3 := hide (Z3.out.below b)
  replace Z4 := hide (Z4.out.below b)
  replace X4 := hide ((b.block _ (block_lt X4.out)).trans X4.out)
  clear b C 
  have hbe := fun w => bal_eq 0 0 0 0 w
  have qX10 := block_cell X1.out 0
  have qX11 := block_cell X1.out 1
  have qX20 := block_cell X2.out 0
  have qX21 := block_cell X2.out 1
  have qX40 := block_cell X4.out 0
  have qX41 := block_cell X4.out 1
  go_wp2
  go_ret
  exact ⟨rfl, BW.out⟩
set_option maxRecDepth 100000 in
set_option maxHeartbeats 1600000 in
theorem steps_ok (c : Cf) (n1 : Nat) (m1 nd : Int) (u : Nat) (w : World) {xn xm ym yn rk dn dm : Int} {L1 L2 L3 L4 : List Lk} {k1 k2 k3 k4 : Int}
    (hp1 : (∀ W a, PG W a c → Calls Try.prog 30 #[.pointer a, .agg #[.int .u64 (n1 : Nat), .int .i64 m1]] W (BalR W xn xm L1 k1)))
    (hr1 : (∀ W p, p < W.heap.size → RefG W p c → Calls Try.prog 35 #[.pointer (some ⟨p, 0, none⟩), .agg #[.int .u64 (n1 : Nat), .int .i64 m1]] W (RNewP W (.agg #[.int .u64 xn, .int .i64 xm]) L1 k1)))
    (hp2 : (∀ W a, PG W a c → Calls Try.prog 31 #[.pointer a, .agg #[.int .u64 (n1 : Nat), .int .i64 m1], .int .i64 nd] W (BalR W yn ym L2 k2)))
    (hr2 : (∀ W p, p < W.heap.size → RefG W p c → Calls Try.prog 36 #[.pointer (some ⟨p, 0, none⟩), .agg #[.int .u64 (n1 : Nat), .int .i64 m1], .int .i64 nd] W (RNewP W (.agg #[.int .u64 yn, .int .i64 ym]) L2 k2)))
    (hp3 : (∀ W a, PG W a c → Calls Try.prog 32 #[.pointer a, .agg #[.int .u64 (n1 : Nat), .int .i64 m1]] W (NumR W rk L3 k3)))
    (hr3 : (∀ W p, p < W.heap.size → RefG W p c → Calls Try.prog 37 #[.pointer (some ⟨p, 0, none⟩), .agg #[.int .u64 (n1 : Nat), .int .i64 m1]] W (RNewP W (.int .u64 rk) L3 k3)))
    (hp4 : (∀ W a, PG W a c → Calls Try.prog 33 #[.pointer a, .int .u64 (u : Nat)] W (BalR W dn dm L4 k4)))
    (hr4 : (∀ W p, p < W.heap.size → RefG W p c → Calls Try.prog 38 #[.pointer (some ⟨p, 0, none⟩), .int .u64 (u : Nat)] W (RNewP W (.agg #[.int .u64 dn, .int .i64 dm]) L4 k4)))
    (hG : ∀ W, Calls Try.prog 7 #[.agg c.cells] W fun e w' => ∃ a b, e = .returned (.tuple #[.pointer a, .pointer b, .bool true]) ∧ Hid (PG w' a c ∧ haOk c w' b ∧ Below W.heap.size W w')) :
    Calls Try.prog 5 #[.agg c.cells, .agg #[.int .u64 (n1 : Nat), .int .i64 m1], .int .i64 nd, .int .u64 (u : Nat)] w fun e w' => e = .returned (.bool true) ∧ Below w.heap.size w w' := by
  have HG := hide hG
  clear hG
  have HP1 := hide hp1
  have HR1 := hide hr1
  have HP2 := hide hp2
  have HR2 := hide hr2
  have HP3 := hide hp3
  have HR3 := hide hr3
  have HP4 := hide hp4
  have HR4 := hide hr4
  clear hp1 hp2 hp3 hp4 hr1 hr2 hr3 hr4
  obtain ⟨W1, hW1⟩ : ∃ W1, (w.alloc (.cells c.cells 24)).alloc (.cells #[.int .u64 (n1 : Nat), .int .i64 m1] 47) = W1 := ⟨_, rfl⟩
  have BW : Hid (Below w.heap.size w W1) := by rw [← hW1]; exact ((Below.refl _ w).alloc (Nat.le_refl _) _).alloc (by simp) _
  obtain ⟨pc, hpc⟩ : ∃ p, w.heap.size = p := ⟨_, rfl⟩
  obtain ⟨pb, hpb⟩ : ∃ p, w.heap.size + 1 = p := ⟨_, rfl⟩
  obtain ⟨t1, t2⟩ := two_box w (.cells c.cells 24) (.cells #[.int .u64 (n1 : Nat), .int .i64 m1] 47)
  rw [hW1, hpc] at t1
  rw [hW1, hpb] at t2
  obtain ⟨z0, z1, z2, z3, z4, z5, z6, z7, z8, z9⟩ := cfg_cells t1
  have BB := hide t2
  have HW1 := hide hW1
  have HPB := hide hpb
  have HPC := hide hpc
  clear hW1 hpb hpc t1 t2
  generalize (n1 : Int) = n1 at *
  generalize (u : Int) = u at *
  unfold Cf.cells at *
  generalize c.f = f at *
  generalize c.mb = mb at *
  generalize (c.delay : Int) = d at *
  generalize (c.win : Int) = wn at *
  generalize (c.every : Int) = ev at *
  generalize (c.beat : Int) = bt at *
  generalize (c.ep : Int) = ep at *
  generalize (c.em : Int) = em at *
  generalize (c.mn : Int) = mn at *
  generalize (c.ms : Int) = ms at *
  go_enter Try.func5, Try.ntmps5
  go_upto_region 1 with fail
  rw [HW1.out, HPB.out, HPC.out]
  clear HW1
  go_wp2_with fail
  refine (HG.out W1).mono ?_
  rintro e w2 ⟨a, b, rfl, G2⟩
  obtain ⟨p2, h2, b2⟩ := G2.out
  replace BW := hide (BW.out.trans (b2.mono BW.out.size))
  replace BB := hide ((b2.block _ (block_lt BB.out)).trans BB.out)
  obtain ⟨h, rfl, h3⟩ := h2
  have RG := hide h3
  have PP := hide p2
  obtain ⟨g, rfl, _⟩ := p2
  clear h3 G2 b2 HG z0 z1 z2 z3 z4 z5 z6 z7 z8 z9 HPB HPC
  go_upto_region 5 with fail
  obtain ⟨WZ, hWZ⟩ : ∃ W, w2.alloc (.cells #[.int .i64 0, .int .i64 0, .int .u64 0, .int .u64 0, .int .u64 0, .int .u64 0, .int .u64 0, .int .u64 0, .int .u64 0, .int .u64 0] 41) = W := ⟨_, rfl⟩
  have b3 : Below w2.heap.size w2 WZ := by rw [← hWZ]; exact (Below.refl _ _).alloc (Nat.le_refl _) _
  have y := alloc_atK w2 (.cells #[.int .i64 0, .int .i64 0, .int .u64 0, .int .u64 0, .int .u64 0, .int .u64 0, .int .u64 0, .int .u64 0, .int .u64 0, .int .u64 0] 41)
  rw [hWZ] at y
  rw [hWZ]
  replace BW := hide (BW.out.trans (b3.mono BW.out.size))
  replace BB := hide ((b3.block _ (block_lt BB.out)).trans BB.out)
  replace RG := hide (And.intro (RG.out.1.below b3 RG.out.2) (Nat.lt_of_lt_of_le RG.out.2 b3.size))
  replace PP := hide (PP.out.kept b3)
  have DD : Hid (Dead WZ (some ⟨w2.heap.size, 0, none⟩)) := .inr ⟨_, rfl, block_lt y, block_cell y 0⟩
  clear y b3 hWZ
  generalize w2.heap.size = gz at *
  have qBB0 := block_cell BB.out 0
  have qBB1 := block_cell BB.out 1
  have C := hide (next_no n1 m1 3 (by decide) (fun W hb => wrong_dead n1 m1 (DD.out.kept hb)))
  unfold BalR at C
  go_wp2_with fail
  refine C.out.mono ?_
  rintro e V1 ⟨ev1, rfl, G⟩
  obtain ⟨er, b⟩ := G.out
  replace BW := hide (BW.out.trans (b.mono BW.out.size))
  replace BB := hide ((b.block _ (block_lt BB.out)).trans BB.out)
  replace RG := hide (And.intro (RG.out.1.below b RG.out.2) (Nat.lt_of_lt_of_le RG.out.2 b.size))
  replace PP := hide (PP.out.kept b)
  replace DD := hide (DD.out.kept b)
  have Z1 := hide er
  clear er b G C qBB0 qBB1
  go_upto_region 6 with fail
  obtain ⟨U1, hU⟩ : ∃ U, V1.alloc (.cells #[.int .u64 0, .int .i64 0] 47) = U := ⟨_, rfl⟩
  have b : Below V1.heap.size V1 U1 := by rw [← hU]; exact (Below.refl _ _).alloc (Nat.le_refl _) _
  have y := alloc_atK V1 (.cells #[.int .u64 0, .int .i64 0] 47)
  rw [hU] at y
  rw [hU]
  replace BW := hide (BW.out.trans (b.mono BW.out.size))
  replace BB := hide ((b.block _ (block_lt BB.out)).trans BB.out)
  replace RG := hide (And.intro (RG.out.1.below b RG.out.2) (Nat.lt_of_lt_of_le RG.out.2 b.size))
  replace PP := hide (PP.out.kept b)
  replace DD := hide (DD.out.kept b)
  replace Z1 := hide (Z1.out.below b)
  clear b y hU
  generalize V1.heap.size = p1 at *
  have qBB0 := block_cell BB.out 0
  have qBB1 := block_cell BB.out 1
  have C := hide (own_no n1 m1 nd 3 (by decide) (fun W hb => wrong_dead n1 m1 (DD.out.kept hb)))
  unfold BalR at C
  go_wp2_with fail
  refine C.out.mono ?_
  rintro e V2 ⟨ev2, rfl, G⟩
  obtain ⟨er, b⟩ := G.out
  replace BW := hide (BW.out.trans (b.mono BW.out.size))
  replace BB := hide ((b.block _ (block_lt BB.out)).trans BB.out)
  replace RG := hide (And.intro (RG.out.1.below b RG.out.2) (Nat.lt_of_lt_of_le RG.out.2 b.size))
  replace PP := hide (PP.out.kept b)
  replace DD := hide (DD.out.kept b)
  replace Z1 := hide (Z1.out.below b)
  have Z2 := hide er
  clear er b G C qBB0 qBB1
  go_upto_region 7 with fail
  obtain ⟨U2, hU⟩ : ∃ U, V2.alloc (.cells #[.int .u64 0, .int .i64 0] 47) = U := ⟨_, rfl⟩
  have b : Below V2.heap.size V2 U2 := by rw [← hU]; exact (Below.refl _ _).alloc (Nat.le_refl _) _
  have y := alloc_atK V2 (.cells #[.int .u64 0, .int .i64 0] 47)
  rw [hU] at y
  rw [hU]
  replace BW := hide (BW.out.trans (b.mono BW.out.size))
  replace BB := hide ((b.block _ (block_lt BB.out)).trans BB.out)
  replace RG := hide (And.intro (RG.out.1.below b RG.out.2) (Nat.lt_of_lt_of_le RG.out.2 b.size))
  replace PP := hide (PP.out.kept b)
  replace DD := hide (DD.out.kept b)
  replace Z1 := hide (Z1.out.below b)
  replace Z2 := hide (Z2.out.below b)
  clear b y hU
  generalize V2.heap.size = p2 at *
  have qBB0 := block_cell BB.out 0
  have qBB1 := block_cell BB.out 1
  have C := hide (rank_no n1 m1 3 (by decide) (fun W hb => wrong_dead n1 m1 (DD.out.kept hb)))
  unfold NumR at C
  go_wp2_with fail
  refine C.out.mono ?_
  rintro e V3 ⟨ev3, rfl, G⟩
  obtain ⟨er, b⟩ := G.out
  replace BW := hide (BW.out.trans (b.mono BW.out.size))
  replace BB := hide ((b.block _ (block_lt BB.out)).trans BB.out)
  replace RG := hide (And.intro (RG.out.1.below b RG.out.2) (Nat.lt_of_lt_of_le RG.out.2 b.size))
  replace PP := hide (PP.out.kept b)
  replace DD := hide (DD.out.kept b)
  replace Z1 := hide (Z1.out.below b)
  replace Z2 := hide (Z2.out.below b)
  have Z3 := hide er
  clear er b G C qBB0 qBB1
  go_upto_region 8 with fail
  have qBB0 := block_cell BB.out 0
  have qBB1 := block_cell BB.out 1
  have C := hide (ranked_dead u DD.out)
  unfold BalR at C
  go_wp2_with fail
  refine C.out.mono ?_
  rintro e V4 ⟨ev4, rfl, G⟩
  obtain ⟨er, b⟩ := G.out
  replace BW := hide (BW.out.trans (b.mono BW.out.size))
  replace BB := hide ((b.block _ (block_lt BB.out)).trans BB.out)
  replace RG := hide (And.intro (RG.out.1.below b RG.out.2) (Nat.lt_of_lt_of_le RG.out.2 b.size))
  replace PP := hide (PP.out.kept b)
  replace DD := hide (DD.out.kept b)
  replace Z1 := hide (Z1.out.below b)
  replace Z2 := hide (Z2.out.below b)
  replace Z3 := hide (Z3.out.below b)
  have Z4 := hide er
  clear er b G C qBB0 qBB1
  go_upto_region 9 with fail
  obtain ⟨U4, hU⟩ : ∃ U, V4.alloc (.cells #[.int .u64 0, .int .i64 0] 47) = U := ⟨_, rfl⟩
  have b : Below V4.heap.size V4 U4 := by rw [← hU]; exact (Below.refl _ _).alloc (Nat.le_refl _) _
  have y := alloc_atK V4 (.cells #[.int .u64 0, .int .i64 0] 47)
  rw [hU] at y
  rw [hU]
  replace BW := hide (BW.out.trans (b.mono BW.out.size))
  replace BB := hide ((b.block _ (block_lt BB.out)).trans BB.out)
  replace RG := hide (And.intro (RG.out.1.below b RG.out.2) (Nat.lt_of_lt_of_le RG.out.2 b.size))
  replace PP := hide (PP.out.kept b)
  replace DD := hide (DD.out.kept b)
  replace Z1 := hide (Z1.out.below b)
  replace Z2 := hide (Z2.out.below b)
  replace Z3 := hide (Z3.out.below b)
  replace Z4 := hide (Z4.out.below b)
  clear b y hU
  generalize V4.heap.size = p4 at *
  have C := hide (zero_any Z1.out)
  go_wp2_with fail
  refine C.out.mono ?_
  rintro e V5 ⟨rfl, b⟩
  replace BW := hide (BW.out.trans (b.mono BW.out.size))
  replace BB := hide ((b.block _ (block_lt BB.out)).trans BB.out)
  replace RG := hide (And.intro (RG.out.1.below b RG.out.2) (Nat.lt_of_lt_of_le RG.out.2 b.size))
  replace PP := hide (PP.out.kept b)
  replace DD := hide (DD.out.kept b)
  replace Z1 := hide (Z1.out.below b)
  replace Z2 := hide (Z2.out.below b)
  replace Z3 := hide (Z3.out.below b)
  replace Z4 := hide (Z4.out.below b)
  clear b C 
  have C := hide (zero_any Z2.out)
  go_wp2_with fail
  refine C.out.mono ?_
  rintro e V6 ⟨rfl, b⟩
  replace BW := hide (BW.out.trans (b.mono BW.out.size))
  replace BB := hide ((b.block _ (block_lt BB.out)).trans BB.out)
  replace RG := hide (And.intro (RG.out.1.below b RG.out.2) (Nat.lt_of_lt_of_le RG.out.2 b.size))
  replace PP := hide (PP.out.kept b)
  replace DD := hide (DD.out.kept b)
  replace Z1 := hide (Z1.out.below b)
  replace Z2 := hide (Z2.out.below b)
  replace Z3 := hide (Z3.out.below b)
  replace Z4 := hide (Z4.out.below b)
  clear b C 
  have C := hide (zero_any Z3.out)
  go_wp2_with fail
  refine C.out.mono ?_
  rintro e V7 ⟨rfl, b⟩
  replace BW := hide (BW.out.trans (b.mono BW.out.size))
  replace BB := hide ((b.block _ (block_lt BB.out)).trans BB.out)
  replace RG := hide (And.intro (RG.out.1.below b RG.out.2) (Nat.lt_of_lt_of_le RG.out.2 b.size))
  replace PP := hide (PP.out.kept b)
  replace DD := hide (DD.out.kept b)
  replace Z1 := hide (Z1.out.below b)
  replace Z2 := hide (Z2.out.below b)
  replace Z3 := hide (Z3.out.below b)
  replace Z4 := hide (Z4.out.below b)
  clear b C 
  have C := hide (zero_any Z4.out)
  go_wp2_with fail
  refine C.out.mono ?_
  rintro e V8 ⟨rfl, b⟩
  replace BW := hide (BW.out.trans (b.mono BW.out.size))
  replace BB := hide ((b.block _ (block_lt BB.out)).trans BB.out)
  replace RG := hide (And.intro (RG.out.1.below b RG.out.2) (Nat.lt_of_lt_of_le RG.out.2 b.size))
  replace PP := hide (PP.out.kept b)
  replace DD := hide (DD.out.kept b)
  replace Z1 := hide (Z1.out.below b)
  replace Z2 := hide (Z2.out.below b)
  replace Z3 := hide (Z3.out.below b)
  replace Z4 := hide (Z4.out.below b)
  clear b C 
  clear Z1 Z2 Z3 Z4 DD
  go_upto_region 11 with fail
  have qBB0 := block_cell BB.out 0
  have qBB1 := block_cell BB.out 1
  have C := hide (HP1.out _ _ PP.out)
  unfold BalR at C
  go_wp2_with fail
  refine C.out.mono ?_
  rintro e V9 ⟨ev9, rfl, G⟩
  obtain ⟨er, b⟩ := G.out
  replace BW := hide (BW.out.trans (b.mono BW.out.size))
  replace BB := hide ((b.block _ (block_lt BB.out)).trans BB.out)
  replace RG := hide (And.intro (RG.out.1.below b RG.out.2) (Nat.lt_of_lt_of_le RG.out.2 b.size))
  replace PP := hide (PP.out.kept b)
  have Z1 := hide er
  clear er b G C qBB0 qBB1
  go_upto_region 12 with fail
  obtain ⟨U9, hU⟩ : ∃ U, V9.alloc (.cells #[.int .u64 xn, .int .i64 xm] 47) = U := ⟨_, rfl⟩
  have b : Below V9.heap.size V9 U9 := by rw [← hU]; exact (Below.refl _ _).alloc (Nat.le_refl _) _
  have y := alloc_atK V9 (.cells #[.int .u64 xn, .int .i64 xm] 47)
  rw [hU] at y
  rw [hU]
  replace BW := hide (BW.out.trans (b.mono BW.out.size))
  replace BB := hide ((b.block _ (block_lt BB.out)).trans BB.out)
  replace RG := hide (And.intro (RG.out.1.below b RG.out.2) (Nat.lt_of_lt_of_le RG.out.2 b.size))
  replace PP := hide (PP.out.kept b)
  replace Z1 := hide (Z1.out.below b)
  have X1 := hide y
  clear b y hU
  generalize V9.heap.size = p9 at *
  have qBB0 := block_cell BB.out 0
  have qBB1 := block_cell BB.out 1
  have C := hide (HP2.out _ _ PP.out)
  unfold BalR at C
  go_wp2_with fail
  refine C.out.mono ?_
  rintro e V10 ⟨ev10, rfl, G⟩
  obtain ⟨er, b⟩ := G.out
  replace BW := hide (BW.out.trans (b.mono BW.out.size))
  replace BB := hide ((b.block _ (block_lt BB.out)).trans BB.out)
  replace RG := hide (And.intro (RG.out.1.below b RG.out.2) (Nat.lt_of_lt_of_le RG.out.2 b.size))
  replace PP := hide (PP.out.kept b)
  replace Z1 := hide (Z1.out.below b)
  replace X1 := hide ((b.block _ (block_lt X1.out)).trans X1.out)
  have Z2 := hide er
  clear er b G C qBB0 qBB1
  go_upto_region 13 with fail
  obtain ⟨U10, hU⟩ : ∃ U, V10.alloc (.cells #[.int .u64 yn, .int .i64 ym] 47) = U := ⟨_, rfl⟩
  have b : Below V10.heap.size V10 U10 := by rw [← hU]; exact (Below.refl _ _).alloc (Nat.le_refl _) _
  have y := alloc_atK V10 (.cells #[.int .u64 yn, .int .i64 ym] 47)
  rw [hU] at y
  rw [hU]
  replace BW := hide (BW.out.trans (b.mono BW.out.size))
  replace BB := hide ((b.block _ (block_lt BB.out)).trans BB.out)
  replace RG := hide (And.intro (RG.out.1.below b RG.out.2) (Nat.lt_of_lt_of_le RG.out.2 b.size))
  replace PP := hide (PP.out.kept b)
  replace Z1 := hide (Z1.out.below b)
  replace X1 := hide ((b.block _ (block_lt X1.out)).trans X1.out)
  replace Z2 := hide (Z2.out.below b)
  have X2 := hide y
  clear b y hU
  generalize V10.heap.size = p10 at *
  have qBB0 := block_cell BB.out 0
  have qBB1 := block_cell BB.out 1
  have C := hide (HP3.out _ _ PP.out)
  unfold NumR at C
  go_wp2_with fail
  refine C.out.mono ?_
  rintro e V11 ⟨ev11, rfl, G⟩
  obtain ⟨er, b⟩ := G.out
  replace BW := hide (BW.out.trans (b.mono BW.out.size))
  replace BB := hide ((b.block _ (block_lt BB.out)).trans BB.out)
  replace RG := hide (And.intro (RG.out.1.below b RG.out.2) (Nat.lt_of_lt_of_le RG.out.2 b.size))
  replace PP := hide (PP.out.kept b)
  replace Z1 := hide (Z1.out.below b)
  replace X1 := hide ((b.block _ (block_lt X1.out)).trans X1.out)
  replace Z2 := hide (Z2.out.below b)
  replace X2 := hide ((b.block _ (block_lt X2.out)).trans X2.out)
  have Z3 := hide er
  clear er b G C qBB0 qBB1
  go_upto_region 14 with fail
  have qBB0 := block_cell BB.out 0
  have qBB1 := block_cell BB.out 1
  have C := hide (HP4.out _ _ PP.out)
  unfold BalR at C
  go_wp2_with fail
  refine C.out.mono ?_
  rintro e V12 ⟨ev12, rfl, G⟩
  obtain ⟨er, b⟩ := G.out
  replace BW := hide (BW.out.trans (b.mono BW.out.size))
  replace BB := hide ((b.block _ (block_lt BB.out)).trans BB.out)
  replace RG := hide (And.intro (RG.out.1.below b RG.out.2) (Nat.lt_of_lt_of_le RG.out.2 b.size))
  replace PP := hide (PP.out.kept b)
  replace Z1 := hide (Z1.out.below b)
  replace X1 := hide ((b.block _ (block_lt X1.out)).trans X1.out)
  replace Z2 := hide (Z2.out.below b)
  replace X2 := hide ((b.block _ (block_lt X2.out)).trans X2.out)
  replace Z3 := hide (Z3.out.below b)
  have Z4 := hide er
  clear er b G C qBB0 qBB1
  go_upto_region 15 with fail
  obtain ⟨U12, hU⟩ : ∃ U, V12.alloc (.cells #[.int .u64 dn, .int .i64 dm] 47) = U := ⟨_, rfl⟩
  have b : Below V12.heap.size V12 U12 := by rw [← hU]; exact (Below.refl _ _).alloc (Nat.le_refl _) _
  have y := alloc_atK V12 (.cells #[.int .u64 dn, .int .i64 dm] 47)
  rw [hU] at y
  rw [hU]
  replace BW := hide (BW.out.trans (b.mono BW.out.size))
  replace BB := hide ((b.block _ (block_lt BB.out)).trans BB.out)
  replace RG := hide (And.intro (RG.out.1.below b RG.out.2) (Nat.lt_of_lt_of_le RG.out.2 b.size))
  replace PP := hide (PP.out.kept b)
  replace Z1 := hide (Z1.out.below b)
  replace X1 := hide ((b.block _ (block_lt X1.out)).trans X1.out)
  replace Z2 := hide (Z2.out.below b)
  replace X2 := hide ((b.block _ (block_lt X2.out)).trans X2.out)
  replace Z3 := hide (Z3.out.below b)
  replace Z4 := hide (Z4.out.below b)
  have X4 := hide y
  clear b y hU
  generalize V12.heap.size = p12 at *
  go_upto_region 17 with fail
  have qBB0 := block_cell BB.out 0
  have qBB1 := block_cell BB.out 1
  have C := hide (HR1.out _ _ RG.out.2 RG.out.1)
  unfold RNewP at C
  go_wp2_with fail
  refine C.out.mono ?_
  rintro e V13 ⟨fo13, fc13, rfl, G⟩
  obtain ⟨er, b⟩ := G.out
  replace BW := hide (BW.out.trans (b.mono BW.out.size))
  replace BB := hide ((b.block _ (block_lt BB.out)).trans BB.out)
  replace RG := hide (And.intro (RG.out.1.below b RG.out.2) (Nat.lt_of_lt_of_le RG.out.2 b.size))
  replace PP := hide (PP.out.kept b)
  replace Z1 := hide (Z1.out.below b)
  replace X1 := hide ((b.block _ (block_lt X1.out)).trans X1.out)
  replace Z2 := hide (Z2.out.below b)
  replace X2 := hide ((b.block _ (block_lt X2.out)).trans X2.out)
  replace Z3 := hide (Z3.out.below b)
  replace Z4 := hide (Z4.out.below b)
  replace X4 := hide ((b.block _ (block_lt X4.out)).trans X4.out)
  have F1 := hide er
  clear er b G C qBB0 qBB1
  go_upto_region 18 with fail
  obtain ⟨U13, hU⟩ : ∃ U, (V13.alloc (.cells #[.int .u64 xn, .int .i64 xm] 47)).alloc (.cells #[.slice fo13 L1.length fc13, .int .i64 k1] 63) = U := ⟨_, rfl⟩
  have b : Below V13.heap.size V13 U13 := by rw [← hU]; exact ((Below.refl _ _).alloc (Nat.le_refl _) _).alloc (by simp) _
  obtain ⟨y, y2⟩ := two_box V13 (.cells #[.int .u64 xn, .int .i64 xm] 47) (.cells #[.slice fo13 L1.length fc13, .int .i64 k1] 63)
  rw [hU] at y y2
  rw [hU]
  replace BW := hide (BW.out.trans (b.mono BW.out.size))
  replace BB := hide ((b.block _ (block_lt BB.out)).trans BB.out)
  replace RG := hide (And.intro (RG.out.1.below b RG.out.2) (Nat.lt_of_lt_of_le RG.out.2 b.size))
  replace PP := hide (PP.out.kept b)
  replace Z1 := hide (Z1.out.below b)
  replace X1 := hide ((b.block _ (block_lt X1.out)).trans X1.out)
  replace Z2 := hide (Z2.out.below b)
  replace X2 := hide ((b.block _ (block_lt X2.out)).trans X2.out)
  replace Z3 := hide (Z3.out.below b)
  replace Z4 := hide (Z4.out.below b)
  replace X4 := hide ((b.block _ (block_lt X4.out)).trans X4.out)
  replace F1 := hide (fv_below F1.out b)
  have Y1 := hide y
  have G1 := hide y2
  clear b y y2 hU
  generalize V13.heap.size + 1 = r13 at *
  generalize V13.heap.size = p13 at *
  have qBB0 := block_cell BB.out 0
  have qBB1 := block_cell BB.out 1
  have C := hide (HR2.out _ _ RG.out.2 RG.out.1)
  unfold RNewP at C
  go_wp2_with fail
  refine C.out.mono ?_
  rintro e V14 ⟨fo14, fc14, rfl, G⟩
  obtain ⟨er, b⟩ := G.out
  replace BW := hide (BW.out.trans (b.mono BW.out.size))
  replace BB := hide ((b.block _ (block_lt BB.out)).trans BB.out)
  replace RG := hide (And.intro (RG.out.1.below b RG.out.2) (Nat.lt_of_lt_of_le RG.out.2 b.size))
  replace PP := hide (PP.out.kept b)
  replace Z1 := hide (Z1.out.below b)
  replace X1 := hide ((b.block _ (block_lt X1.out)).trans X1.out)
  replace Z2 := hide (Z2.out.below b)
  replace X2 := hide ((b.block _ (block_lt X2.out)).trans X2.out)
  replace Z3 := hide (Z3.out.below b)
  replace Z4 := hide (Z4.out.below b)
  replace X4 := hide ((b.block _ (block_lt X4.out)).trans X4.out)
  replace F1 := hide (fv_below F1.out b)
  replace Y1 := hide ((b.block _ (block_lt Y1.out)).trans Y1.out)
  replace G1 := hide ((b.block _ (block_lt G1.out)).trans G1.out)
  have F2 := hide er
  clear er b G C qBB0 qBB1
  go_upto_region 19 with fail
  obtain ⟨U14, hU⟩ : ∃ U, (V14.alloc (.cells #[.int .u64 yn, .int .i64 ym] 47)).alloc (.cells #[.slice fo14 L2.length fc14, .int .i64 k2] 63) = U := ⟨_, rfl⟩
  have b : Below V14.heap.size V14 U14 := by rw [← hU]; exact ((Below.refl _ _).alloc (Nat.le_refl _) _).alloc (by simp) _
  obtain ⟨y, y2⟩ := two_box V14 (.cells #[.int .u64 yn, .int .i64 ym] 47) (.cells #[.slice fo14 L2.length fc14, .int .i64 k2] 63)
  rw [hU] at y y2
  rw [hU]
  replace BW := hide (BW.out.trans (b.mono BW.out.size))
  replace BB := hide ((b.block _ (block_lt BB.out)).trans BB.out)
  replace RG := hide (And.intro (RG.out.1.below b RG.out.2) (Nat.lt_of_lt_of_le RG.out.2 b.size))
  replace PP := hide (PP.out.kept b)
  replace Z1 := hide (Z1.out.below b)
  replace X1 := hide ((b.block _ (block_lt X1.out)).trans X1.out)
  replace Z2 := hide (Z2.out.below b)
  replace X2 := hide ((b.block _ (block_lt X2.out)).trans X2.out)
  replace Z3 := hide (Z3.out.below b)
  replace Z4 := hide (Z4.out.below b)
  replace X4 := hide ((b.block _ (block_lt X4.out)).trans X4.out)
  replace F1 := hide (fv_below F1.out b)
  replace Y1 := hide ((b.block _ (block_lt Y1.out)).trans Y1.out)
  replace G1 := hide ((b.block _ (block_lt G1.out)).trans G1.out)
  replace F2 := hide (fv_below F2.out b)
  have Y2 := hide y
  have G2 := hide y2
  clear b y y2 hU
  generalize V14.heap.size + 1 = r14 at *
  generalize V14.heap.size = p14 at *
  have qBB0 := block_cell BB.out 0
  have qBB1 := block_cell BB.out 1
  have C := hide (HR3.out _ _ RG.out.2 RG.out.1)
  unfold RNewP at C
  go_wp2_with fail
  refine C.out.mono ?_
  rintro e V15 ⟨fo15, fc15, rfl, G⟩
  obtain ⟨er, b⟩ := G.out
  replace BW := hide (BW.out.trans (b.mono BW.out.size))
  replace BB := hide ((b.block _ (block_lt BB.out)).trans BB.out)
  replace RG := hide (And.intro (RG.out.1.below b RG.out.2) (Nat.lt_of_lt_of_le RG.out.2 b.size))
  replace PP := hide (PP.out.kept b)
  replace Z1 := hide (Z1.out.below b)
  replace X1 := hide ((b.block _ (block_lt X1.out)).trans X1.out)
  replace Z2 := hide (Z2.out.below b)
  replace X2 := hide ((b.block _ (block_lt X2.out)).trans X2.out)
  replace Z3 := hide (Z3.out.below b)
  replace Z4 := hide (Z4.out.below b)
  replace X4 := hide ((b.block _ (block_lt X4.out)).trans X4.out)
  replace F1 := hide (fv_below F1.out b)
  replace Y1 := hide ((b.block _ (block_lt Y1.out)).trans Y1.out)
  replace G1 := hide ((b.block _ (block_lt G1.out)).trans G1.out)
  replace F2 := hide (fv_below F2.out b)
  replace Y2 := hide ((b.block _ (block_lt Y2.out)).trans Y2.out)
  replace G2 := hide ((b.block _ (block_lt G2.out)).trans G2.out)
  have F3 := hide er
  clear er b G C qBB0 qBB1
  go_upto_region 20 with fail
  obtain ⟨U15, hU⟩ : ∃ U, V15.alloc (.cells #[.slice fo15 L3.length fc15, .int .i64 k3] 63) = U := ⟨_, rfl⟩
  have b : Below V15.heap.size V15 U15 := by rw [← hU]; exact (Below.refl _ _).alloc (Nat.le_refl _) _
  have y := alloc_atK V15 (.cells #[.slice fo15 L3.length fc15, .int .i64 k3] 63)
  rw [hU] at y
  rw [hU]
  replace BW := hide (BW.out.trans (b.mono BW.out.size))
  replace BB := hide ((b.block _ (block_lt BB.out)).trans BB.out)
  replace RG := hide (And.intro (RG.out.1.below b RG.out.2) (Nat.lt_of_lt_of_le RG.out.2 b.size))
  replace PP := hide (PP.out.kept b)
  replace Z1 := hide (Z1.out.below b)
  replace X1 := hide ((b.block _ (block_lt X1.out)).trans X1.out)
  replace Z2 := hide (Z2.out.below b)
  replace X2 := hide ((b.block _ (block_lt X2.out)).trans X2.out)
  replace Z3 := hide (Z3.out.below b)
  replace Z4 := hide (Z4.out.below b)
  replace X4 := hide ((b.block _ (block_lt X4.out)).trans X4.out)
  replace F1 := hide (fv_below F1.out b)
  replace Y1 := hide ((b.block _ (block_lt Y1.out)).trans Y1.out)
  replace G1 := hide ((b.block _ (block_lt G1.out)).trans G1.out)
  replace F2 := hide (fv_below F2.out b)
  replace Y2 := hide ((b.block _ (block_lt Y2.out)).trans Y2.out)
  replace G2 := hide ((b.block _ (block_lt G2.out)).trans G2.out)
  replace F3 := hide (fv_below F3.out b)
  have G3 := hide y
  clear b y hU
  generalize V15.heap.size = p15 at *
  have qBB0 := block_cell BB.out 0
  have qBB1 := block_cell BB.out 1
  have C := hide (HR4.out _ _ RG.out.2 RG.out.1)
  unfold RNewP at C
  go_wp2_with fail
  refine C.out.mono ?_
  rintro e V16 ⟨fo16, fc16, rfl, G⟩
  obtain ⟨er, b⟩ := G.out
  replace BW := hide (BW.out.trans (b.mono BW.out.size))
  replace BB := hide ((b.block _ (block_lt BB.out)).trans BB.out)
  replace RG := hide (And.intro (RG.out.1.below b RG.out.2) (Nat.lt_of_lt_of_le RG.out.2 b.size))
  replace PP := hide (PP.out.kept b)
  replace Z1 := hide (Z1.out.below b)
  replace X1 := hide ((b.block _ (block_lt X1.out)).trans X1.out)
  replace Z2 := hide (Z2.out.below b)
  replace X2 := hide ((b.block _ (block_lt X2.out)).trans X2.out)
  replace Z3 := hide (Z3.out.below b)
  replace Z4 := hide (Z4.out.below b)
  replace X4 := hide ((b.block _ (block_lt X4.out)).trans X4.out)
  replace F1 := hide (fv_below F1.out b)
  replace Y1 := hide ((b.block _ (block_lt Y1.out)).trans Y1.out)
  replace G1 := hide ((b.block _ (block_lt G1.out)).trans G1.out)
  replace F2 := hide (fv_below F2.out b)
  replace Y2 := hide ((b.block _ (block_lt Y2.out)).trans Y2.out)
  replace G2 := hide ((b.block _ (block_lt G2.out)).trans G2.out)
  replace F3 := hide (fv_below F3.out b)
  replace G3 := hide ((b.block _ (block_lt G3.out)).trans G3.out)
  have F4 := hide er
  clear er b G C qBB0 qBB1
  go_upto_region 21 with fail
  obtain ⟨U16, hU⟩ : ∃ U, (V16.alloc (.cells #[.int .u64 dn, .int .i64 dm] 47)).alloc (.cells #[.slice fo16 L4.length fc16, .int .i64 k4] 63) = U := ⟨_, rfl⟩
  have b : Below V16.heap.size V16 U16 := by rw [← hU]; exact ((Below.refl _ _).alloc (Nat.le_refl _) _).alloc (by simp) _
  obtain ⟨y, y2⟩ := two_box V16 (.cells #[.int .u64 dn, .int .i64 dm] 47) (.cells #[.slice fo16 L4.length fc16, .int .i64 k4] 63)
  rw [hU] at y y2
  rw [hU]
  replace BW := hide (BW.out.trans (b.mono BW.out.size))
  replace BB := hide ((b.block _ (block_lt BB.out)).trans BB.out)
  replace RG := hide (And.intro (RG.out.1.below b RG.out.2) (Nat.lt_of_lt_of_le RG.out.2 b.size))
  replace PP := hide (PP.out.kept b)
  replace Z1 := hide (Z1.out.below b)
  replace X1 := hide ((b.block _ (block_lt X1.out)).trans X1.out)
  replace Z2 := hide (Z2.out.below b)
  replace X2 := hide ((b.block _ (block_lt X2.out)).trans X2.out)
  replace Z3 := hide (Z3.out.below b)
  replace Z4 := hide (Z4.out.below b)
  replace X4 := hide ((b.block _ (block_lt X4.out)).trans X4.out)
  replace F1 := hide (fv_below F1.out b)
  replace Y1 := hide ((b.block _ (block_lt Y1.out)).trans Y1.out)
  replace G1 := hide ((b.block _ (block_lt G1.out)).trans G1.out)
  replace F2 := hide (fv_below F2.out b)
  replace Y2 := hide ((b.block _ (block_lt Y2.out)).trans Y2.out)
  replace G2 := hide ((b.block _ (block_lt G2.out)).trans G2.out)
  replace F3 := hide (fv_below F3.out b)
  replace G3 := hide ((b.block _ (block_lt G3.out)).trans G3.out)
  replace F4 := hide (fv_below F4.out b)
  have Y4 := hide y
  have G4 := hide y2
  clear b y y2 hU
  generalize V16.heap.size + 1 = r16 at *
  generalize V16.heap.size = p16 at *
  obtain ⟨bb1, off1, fv1⟩ := F1.out
  have qG10 := block_cell G1.out 0
  have qG11 := block_cell G1.out 1
  have C := hide (is_any (c := k1) _ fc13 rfl Z1.out fv1)
  go_wp2_with fail
  refine C.out.mono ?_
  rintro e V17 ⟨rfl, G⟩
  have b := G.out
  replace BW := hide (BW.out.trans (b.mono BW.out.size))
  replace BB := hide ((b.block _ (block_lt BB.out)).trans BB.out)
  replace RG := hide (And.intro (RG.out.1.below b RG.out.2) (Nat.lt_of_lt_of_le RG.out.2 b.size))
  replace PP := hide (PP.out.kept b)
  replace Z1 := hide (Z1.out.below b)
  replace X1 := hide ((b.block _ (block_lt X1.out)).trans X1.out)
  replace Z2 := hide (Z2.out.below b)
  replace X2 := hide ((b.block _ (block_lt X2.out)).trans X2.out)
  replace Z3 := hide (Z3.out.below b)
  replace Z4 := hide (Z4.out.below b)
  replace X4 := hide ((b.block _ (block_lt X4.out)).trans X4.out)
  replace F1 := hide (fv_below F1.out b)
  replace Y1 := hide ((b.block _ (block_lt Y1.out)).trans Y1.out)
  replace G1 := hide ((b.block _ (block_lt G1.out)).trans G1.out)
  replace F2 := hide (fv_below F2.out b)
  replace Y2 := hide ((b.block _ (block_lt Y2.out)).trans Y2.out)
  replace G2 := hide ((b.block _ (block_lt G2.out)).trans G2.out)
  replace F3 := hide (fv_below F3.out b)
  replace G3 := hide ((b.block _ (block_lt G3.out)).trans G3.out)
  replace F4 := hide (fv_below F4.out b)
  replace Y4 := hide ((b.block _ (block_lt Y4.out)).trans Y4.out)
  replace G4 := hide ((b.block _ (block_lt G4.out)).trans G4.out)
  clear b G C qG10 qG11
  clear fv1
  obtain ⟨bb2, off2, fv2⟩ := F2.out
  have qG20 := block_cell G2.out 0
  have qG21 := block_cell G2.out 1
  have C := hide (is_any (c := k2) _ fc14 rfl Z2.out fv2)
  go_wp2_with fail
  refine C.out.mono ?_
  rintro e V18 ⟨rfl, G⟩
  have b := G.out
  replace BW := hide (BW.out.trans (b.mono BW.out.size))
  replace BB := hide ((b.block _ (block_lt BB.out)).trans BB.out)
  replace RG := hide (And.intro (RG.out.1.below b RG.out.2) (Nat.lt_of_lt_of_le RG.out.2 b.size))
  replace PP := hide (PP.out.kept b)
  replace Z1 := hide (Z1.out.below b)
  replace X1 := hide ((b.block _ (block_lt X1.out)).trans X1.out)
  replace Z2 := hide (Z2.out.below b)
  replace X2 := hide ((b.block _ (block_lt X2.out)).trans X2.out)
  replace Z3 := hide (Z3.out.below b)
  replace Z4 := hide (Z4.out.below b)
  replace X4 := hide ((b.block _ (block_lt X4.out)).trans X4.out)
  replace F1 := hide (fv_below F1.out b)
  replace Y1 := hide ((b.block _ (block_lt Y1.out)).trans Y1.out)
  replace G1 := hide ((b.block _ (block_lt G1.out)).trans G1.out)
  replace F2 := hide (fv_below F2.out b)
  replace Y2 := hide ((b.block _ (block_lt Y2.out)).trans Y2.out)
  replace G2 := hide ((b.block _ (block_lt G2.out)).trans G2.out)
  replace F3 := hide (fv_below F3.out b)
  replace G3 := hide ((b.block _ (block_lt G3.out)).trans G3.out)
  replace F4 := hide (fv_below F4.out b)
  replace Y4 := hide ((b.block _ (block_lt Y4.out)).trans Y4.out)
  replace G4 := hide ((b.block _ (block_lt G4.out)).trans G4.out)
  clear b G C qG20 qG21
  clear fv2
  obtain ⟨bb3, off3, fv3⟩ := F3.out
  have qG30 := block_cell G3.out 0
  have qG31 := block_cell G3.out 1
  have C := hide (is_any (c := k3) _ fc15 rfl Z3.out fv3)
  go_wp2_with fail
  refine C.out.mono ?_
  rintro e V19 ⟨rfl, G⟩
  have b := G.out
  replace BW := hide (BW.out.trans (b.mono BW.out.size))
  replace BB := hide ((b.block _ (block_lt BB.out)).trans BB.out)
  replace RG := hide (And.intro (RG.out.1.below b RG.out.2) (Nat.lt_of_lt_of_le RG.out.2 b.size))
  replace PP := hide (PP.out.kept b)
  replace Z1 := hide (Z1.out.below b)
  replace X1 := hide ((b.block _ (block_lt X1.out)).trans X1.out)
  replace Z2 := hide (Z2.out.below b)
  replace X2 := hide ((b.block _ (block_lt X2.out)).trans X2.out)
  replace Z3 := hide (Z3.out.below b)
  replace Z4 := hide (Z4.out.below b)
  replace X4 := hide ((b.block _ (block_lt X4.out)).trans X4.out)
  replace F1 := hide (fv_below F1.out b)
  replace Y1 := hide ((b.block _ (block_lt Y1.out)).trans Y1.out)
  replace G1 := hide ((b.block _ (block_lt G1.out)).trans G1.out)
  replace F2 := hide (fv_below F2.out b)
  replace Y2 := hide ((b.block _ (block_lt Y2.out)).trans Y2.out)
  replace G2 := hide ((b.block _ (block_lt G2.out)).trans G2.out)
  replace F3 := hide (fv_below F3.out b)
  replace G3 := hide ((b.block _ (block_lt G3.out)).trans G3.out)
  replace F4 := hide (fv_below F4.out b)
  replace Y4 := hide ((b.block _ (block_lt Y4.out)).trans Y4.out)
  replace G4 := hide ((b.block _ (block_lt G4.out)).trans G4.out)
  clear b G C qG30 qG31
  clear fv3
  obtain ⟨bb4, off4, fv4⟩ := F4.out
  have qG40 := block_cell G4.out 0
  have qG41 := block_cell G4.out 1
  have C := hide (is_any (c := k4) _ fc16 rfl Z4.out fv4)
  go_wp2_with fail
  refine C.out.mono ?_
  rintro e V20 ⟨rfl, G⟩
  have b := G.out
  replace BW := hide (BW.out.trans (b.mono BW.out.size))
  replace BB := hide ((b.block _ (block_lt BB.out)).trans BB.out)
  replace RG := hide (And.intro (RG.out.1.below b RG.out.2) (Nat.lt_of_lt_of_le RG.out.2 b.size))
  replace PP := hide (PP.out.kept b)
  replace Z1 := hide (Z1.out.below b)
  replace X1 := hide ((b.block _ (block_lt X1.out)).trans X1.out)
  replace Z2 := hide (Z2.out.below b)
  replace X2 := hide ((b.block _ (block_lt X2.out)).trans X2.out)
  replace Z3 := hide (Z3.out.below b)
  replace Z4 := hide (Z4.out.below b)
  replace X4 := hide ((b.block _ (block_lt X4.out)).trans X4.out)
  replace F1 := hide (fv_below F1.out b)
  replace Y1 := hide ((b.block _ (block_lt Y1.out)).trans Y1.out)
  replace G1 := hide ((b.block _ (block_lt G1.out)).trans G1.out)
  replace F2 := hide (fv_below F2.out b)
  replace Y2 := hide ((b.block _ (block_lt Y2.out)).trans Y2.out)
  replace G2 := hide ((b.block _ (block_lt G2.out)).trans G2.out)
  replace F3 := hide (fv_below F3.out b)
  replace G3 := hide ((b.block _ (block_lt G3.out)).trans G3.out)
  replace F4 := hide (fv_below F4.out b)
  replace Y4 := hide ((b.block _ (block_lt Y4.out)).trans Y4.out)
  replace G4 := hide ((b.block _ (block_lt G4.out)).trans G4.out)
  clear b G C qG40 qG41
  clear fv4
  go_upto_region 23 with fail
  have hb1 := fun w => bal_eq xn xn xm xm w
  have hb2 := fun w => bal_eq yn yn ym ym w
  have hb4 := fun w => bal_eq dn dn dm dm w
  have qX10 := block_cell X1.out 0
  have qX11 := block_cell X1.out 1
  have qX20 := block_cell X2.out 0
  have qX21 := block_cell X2.out 1
  have qX40 := block_cell X4.out 0
  have qX41 := block_cell X4.out 1
  have qY10 := block_cell Y1.out 0
  have qY11 := block_cell Y1.out 1
  have qY20 := block_cell Y2.out 0
  have qY21 := block_cell Y2.out 1
  have qY40 := block_cell Y4.out 0
  have qY41 := block_cell Y4.out 1
  go_wp2
  go_ret
  exact ⟨rfl, BW.out⟩
end Go.Proofs.Ytppoloellajfhab
