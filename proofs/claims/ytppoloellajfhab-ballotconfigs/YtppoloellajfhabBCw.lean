import Derived.Test.YtppoloellajfhabBCa
import Derived.Test.YtppoloellajfhabBCb
import Derived.Test.YtppoloellajfhabBQu
import Derived.Test.YtppoloellajfhabBPq
import Derived.Test.YtppoloellajfhabBPc
import Derived.Test.YtppoloellajfhabBPf
namespace Go.Proofs.Ytppoloellajfhab
open Go.RowKit

theorem config_eq (c : Cf) (w : World) : (binOp BinOp.eql 24 (.agg c.cells) (.agg c.cells)).run Try.prog w = .ok (.bool true) w := by
  unfold Cf.cells
  go_simp
set_option maxRecDepth 10000 in
set_option maxHeartbeats 400000 in
theorem quorum_dead {w : World} {a : Option Addr} (h : Dead w a) :
    Calls Try.prog 19 #[.pointer a] w fun e w' => e = .returned (.int .i64 0) ∧ w' = w := by
  have HM := hide (made_dead h)
  clear h
  go_enter Try.func19, Try.ntmps19
  go_wp2_with fail
  refine HM.out.mono ?_
  rintro e w1 ⟨rfl, rfl⟩
  go_wp2
  go_ret
  exact ⟨rfl, rfl⟩
set_option maxRecDepth 10000 in
set_option maxHeartbeats 400000 in
theorem majority_dead {w : World} {a : Option Addr} (s : Int) (h : Dead w a) :
    Calls Try.prog 16 #[.pointer a, .int .u32 s] w fun e w' => e = .returned (.bool false) ∧ w' = w := by
  have HM := hide (made_dead h)
  clear h
  go_enter Try.func16, Try.ntmps16
  go_wp2_with fail
  refine HM.out.mono ?_
  rintro e w1 ⟨rfl, rfl⟩
  go_wp2
  go_ret
  exact ⟨rfl, rfl⟩
theorem inside_dead0 {w : World} {a : Option Addr} (h : Dead w a) :
    Calls Try.prog 24 #[.pointer a, .int .u64 0, .int .u64 0] w fun e w' => e = .returned (.bool false) ∧ w' = w := inside_dead 0 0 h
set_option maxRecDepth 100000 in
set_option maxHeartbeats 1600000 in
theorem configs_bad (c : Cf) (nd : Int) (w : World) 
    (hG : ∀ W, Calls Try.prog 7 #[.agg c.cells] W fun e w' => ∃ a b, e = .returned (.tuple #[.pointer a, .pointer b, .bool true]) ∧ Hid (a = none ∧ b = none ∧ Below W.heap.size W w')) :
    Calls Try.prog 4 #[.agg c.cells, .int .i64 nd] w fun e w' => e = .returned (.bool true) ∧ Below w.heap.size w w' := by
  have HG := hide hG
  clear hG
  obtain ⟨W1, hW1⟩ : ∃ W1, w.alloc (.cells c.cells 24) = W1 := ⟨_, rfl⟩
  have B1 : Hid (Below w.heap.size w W1) := by rw [← hW1]; exact (Below.refl _ w).alloc (Nat.le_refl _) _
  obtain ⟨pc, hpc⟩ : ∃ p, w.heap.size = p := ⟨_, rfl⟩
  have t1 : W1.heap[pc]? = some (.cells c.cells 24 (0, 0)) := by rw [← hW1, ← hpc]; exact alloc_atK _ _
  obtain ⟨z0, z1, z2, z3, z4, z5, z6, z7, z8, z9⟩ := cfg_cells t1
  have HTC := hide t1
  have HCF := hide (fun (W : World) (h : W.heap[pc]? = some (.cells c.cells 24 (0, 0))) => cfg_cells h)
  have hcz := config_eq Cf.zero
  have hcq := config_eq c
  have HW1 := hide hW1
  have HPC := hide hpc
  clear hW1 hpc t1
  unfold Cf.zero at hcz
  unfold Cf.cells at HG HW1 HTC HCF hcz hcq ⊢
  simp only [Int.natCast_zero] at hcz
  generalize c.f = f at *
  generalize c.mb = mb at *
  generalize (c.delay : Int) = d at *
  generalize (c.win : Int) = wn at *
  generalize (c.every : Int) = ev at *
  generalize (c.beat : Int) = bt at *
  generalize (c.ep : Int) = ep at *
  generalize (c.em : Int) = em at *
  generalize (c.mn : Int) = mn at *
  generalize (c.ms : Int) = ms at *
  go_enter Try.func4, Try.ntmps4
  go_upto_region 1 with fail
  rw [HW1.out, HPC.out]
  clear HW1
  go_wp2_with fail
  refine (HG.out W1).mono ?_
  rintro e w2 ⟨a, b, rfl, G2⟩
  obtain ⟨p2, h2, b2⟩ := G2.out
  have B2 := hide (B1.out.trans (b2.mono B1.out.size))
  have KC : Hid (∀ V, Hid (Below w2.heap.size w2 V) → V.heap[pc]? = some (.cells #[.int .i64 f, .int .i64 mb, .int .u64 d, .int .u64 wn, .int .u64 ev, .int .u64 bt, .int .u64 ep, .int .u64 em, .int .u64 mn, .int .u64 ms] 24 (0, 0))) := fun V hb => (hb.out.block pc (Nat.lt_of_lt_of_le (block_lt HTC.out) b2.size)).trans ((b2.block pc (block_lt HTC.out)).trans HTC.out)
  have HAL : Hid (∀ V o, Hid (Below w2.heap.size w2 V) → Hid (Below w2.heap.size w2 (V.alloc o))) := fun V o h => h.out.alloc h.out.size o
  have KB : Hid (∀ V V', Hid (Below w2.heap.size w2 V) → Below V.heap.size V V' → Hid (Below w2.heap.size w2 V')) := fun V V' h h' => h.out.trans (h'.mono h.out.size)
  have FB : Hid (∀ V, Hid (Below w2.heap.size w2 V) → Below w.heap.size w V) := fun V h => B2.out.trans (h.out.mono B2.out.size)
  have HD1 : Hid (Below w2.heap.size w2 w2) := Below.refl _ _
  subst p2 h2
  clear G2 b2 z0 z1 z2 z3 z4 z5 z6 z7 z8 z9 B1 HG HTC
  go_upto_region 5 with fail
  obtain ⟨V1, hV1⟩ : ∃ V8, w2.alloc (.cells #[.int .i64 0, .int .i64 0, .int .u64 0, .int .u64 0, .int .u64 0, .int .u64 0, .int .u64 0, .int .u64 0, .int .u64 0, .int .u64 0] 41) = V8 := ⟨_, rfl⟩
  have HV1 := HAL.out w2 (.cells #[.int .i64 0, .int .i64 0, .int .u64 0, .int .u64 0, .int .u64 0, .int .u64 0, .int .u64 0, .int .u64 0, .int .u64 0, .int .u64 0] 41) HD1
  have y := alloc_atK w2 (.cells #[.int .i64 0, .int .i64 0, .int .u64 0, .int .u64 0, .int .u64 0, .int .u64 0, .int .u64 0, .int .u64 0, .int .u64 0, .int .u64 0] 41)
  rw [hV1] at HV1 y
  rw [hV1]
  generalize w2.heap.size = pp at *
  have DD : Hid (∀ V, Below V1.heap.size V1 V → Dead V (some ⟨pp, 0, none⟩)) := fun V hb => Dead.kept (.inr ⟨pp, rfl, block_lt y, block_cell y 0⟩) hb
  have D1 := DD.out V1 (Below.refl _ _)
  have HD1' := hide D1
  clear hV1 y D1
  go_wp2_with fail
  refine (nodes_dead HD1'.out).mono ?_
  rintro e V ⟨rfl, rfl⟩
  go_wp2_with fail
  refine (quorum_dead HD1'.out).mono ?_
  rintro e V ⟨rfl, rfl⟩
  go_wp2_with fail
  refine (node_dead nd HD1'.out).mono ?_
  rintro e V ⟨rfl, rfl⟩
  go_wp2_with fail
  refine (all_dead HD1'.out).mono ?_
  rintro e V ⟨rfl, rfl⟩
  go_wp2_with fail
  refine (majority_dead 7 HD1'.out).mono ?_
  rintro e V ⟨rfl, rfl⟩
  go_wp2_with fail
  refine (valid_dead 0 0 HD1'.out).mono ?_
  rintro e V2 ⟨rfl, b⟩
  have HV2 := KB.out _ _ HV1 b
  have HD2 := hide (DD.out V2 b)
  clear b HD1'
  go_wp2_with fail
  refine (high_dead 1 HD2.out).mono ?_
  rintro e V ⟨rfl, rfl⟩
  go_wp2_with fail
  refine (inside_dead0 HD2.out).mono ?_
  rintro e V ⟨rfl, rfl⟩
  go_upto_region 8 with fail
  go_wp2_with fail
  refine (config_dead (w := V) (a := none) (.inl rfl)).mono ?_
  rintro e V3 ⟨rfl, b⟩
  have HV3 := KB.out _ _ HV2 b
  clear b
  unfold Cf.zero
  unfold Cf.cells
  simp only [Int.natCast_zero]
  go_wp2_with fail
  refine (nodes_dead (w := V3) (a := none) (.inl rfl)).mono ?_
  rintro e V4 ⟨rfl, rfl⟩
  go_wp2_with fail
  refine (quorum_dead (w := V4) (a := none) (.inl rfl)).mono ?_
  rintro e V4 ⟨rfl, rfl⟩
  go_wp2_with fail
  refine (node_dead (w := V4) (a := none) nd (.inl rfl)).mono ?_
  rintro e V4 ⟨rfl, rfl⟩
  go_wp2_with fail
  refine (all_dead (w := V4) (a := none) (.inl rfl)).mono ?_
  rintro e V4 ⟨rfl, rfl⟩
  go_wp2
  go_ret
  exact ⟨rfl, FB.out _ HV3⟩
set_option maxRecDepth 100000 in
set_option maxHeartbeats 1600000 in
theorem configs_ok (c : Cf) (nd : Int) (w : World) (hk : c.Ok)
    (hG : ∀ W, Calls Try.prog 7 #[.agg c.cells] W fun e w' => ∃ a b, e = .returned (.tuple #[.pointer a, .pointer b, .bool true]) ∧ Hid (PG w' a c ∧ haOk c w' b ∧ Below W.heap.size W w')) :
    Calls Try.prog 4 #[.agg c.cells, .int .i64 nd] w fun e w' => e = .returned (.bool true) ∧ Below w.heap.size w w' := by
  have HG := hide hG
  clear hG
  obtain ⟨W1, hW1⟩ : ∃ W1, w.alloc (.cells c.cells 24) = W1 := ⟨_, rfl⟩
  have B1 : Hid (Below w.heap.size w W1) := by rw [← hW1]; exact (Below.refl _ w).alloc (Nat.le_refl _) _
  obtain ⟨pc, hpc⟩ : ∃ p, w.heap.size = p := ⟨_, rfl⟩
  have t1 : W1.heap[pc]? = some (.cells c.cells 24 (0, 0)) := by rw [← hW1, ← hpc]; exact alloc_atK _ _
  obtain ⟨z0, z1, z2, z3, z4, z5, z6, z7, z8, z9⟩ := cfg_cells t1
  have HTC := hide t1
  have HCF := hide (fun (W : World) (h : W.heap[pc]? = some (.cells c.cells 24 (0, 0))) => cfg_cells h)
  have hcz := config_eq Cf.zero
  have hcq := config_eq c
  have HCG := hide (fun W a (h : PG W a c) => config_live h hk)
  have HNG := hide (fun W a (h : PG W a c) => nodes_live h hk)
  have HQG := hide (fun W a (h : PG W a c) => quorum_live h hk)
  have HDG := hide (fun W a (h : PG W a c) => node_live nd h hk)
  have HAG := hide (fun W a (h : PG W a c) => all_live h hk)
  have HNR := hide (fun W p (h : RefG W p c) => refNodes h)
  have HQR := hide (fun W p (h : RefG W p c) => refQuorum h)
  have HDR := hide (fun W p (h : RefG W p c) => refNode nd h)
  have HAR := hide (fun W p (h : RefG W p c) => refAll h)
  clear hk
  have HW1 := hide hW1
  have HPC := hide hpc
  clear hW1 hpc t1
  unfold Cf.zero at hcz
  unfold Cf.cells at HG HW1 HTC HCF hcz hcq ⊢
  unfold Cf.cells at HCG
  generalize 2 * c.f + 1 = nn at *
  generalize c.f + 1 = qq at *
  generalize c.node nd = x at *
  generalize allB c.f = al at *
  simp only [Int.natCast_zero] at hcz
  generalize c.f = f at *
  generalize c.mb = mb at *
  generalize (c.delay : Int) = d at *
  generalize (c.win : Int) = wn at *
  generalize (c.every : Int) = ev at *
  generalize (c.beat : Int) = bt at *
  generalize (c.ep : Int) = ep at *
  generalize (c.em : Int) = em at *
  generalize (c.mn : Int) = mn at *
  generalize (c.ms : Int) = ms at *
  go_enter Try.func4, Try.ntmps4
  go_upto_region 1 with fail
  rw [HW1.out, HPC.out]
  clear HW1
  go_wp2_with fail
  refine (HG.out W1).mono ?_
  rintro e w2 ⟨a, b, rfl, G2⟩
  obtain ⟨p2, h2, b2⟩ := G2.out
  have B2 := hide (B1.out.trans (b2.mono B1.out.size))
  have KC : Hid (∀ V, Hid (Below w2.heap.size w2 V) → V.heap[pc]? = some (.cells #[.int .i64 f, .int .i64 mb, .int .u64 d, .int .u64 wn, .int .u64 ev, .int .u64 bt, .int .u64 ep, .int .u64 em, .int .u64 mn, .int .u64 ms] 24 (0, 0))) := fun V hb => (hb.out.block pc (Nat.lt_of_lt_of_le (block_lt HTC.out) b2.size)).trans ((b2.block pc (block_lt HTC.out)).trans HTC.out)
  have HAL : Hid (∀ V o, Hid (Below w2.heap.size w2 V) → Hid (Below w2.heap.size w2 (V.alloc o))) := fun V o h => h.out.alloc h.out.size o
  have KB : Hid (∀ V V', Hid (Below w2.heap.size w2 V) → Below V.heap.size V V' → Hid (Below w2.heap.size w2 V')) := fun V V' h h' => h.out.trans (h'.mono h.out.size)
  have FB : Hid (∀ V, Hid (Below w2.heap.size w2 V) → Below w.heap.size w V) := fun V h => B2.out.trans (h.out.mono B2.out.size)
  have HD1 : Hid (Below w2.heap.size w2 w2) := Below.refl _ _
  have KG : Hid (∀ V, Hid (Below w2.heap.size w2 V) → PG V a c) := fun V hb => p2.kept hb.out
  have KH : Hid (∀ V, Hid (Below w2.heap.size w2 V) → haOk c V b) := fun V hb => h2.kept hb.out
  have hg : ∃ g, a = some ⟨g, 0, none⟩ := by obtain ⟨g, e, _⟩ := p2; exact ⟨g, e⟩
  have hh : ∃ h, b = some ⟨h, 0, none⟩ := by obtain ⟨h, e, _⟩ := h2; exact ⟨h, e⟩
  obtain ⟨g, rfl⟩ := hg
  obtain ⟨h, rfl⟩ := hh
  have KR : Hid (∀ V, Hid (Below w2.heap.size w2 V) → RefG V h c) := fun V hb => by
    obtain ⟨h', e, r, _⟩ := KH.out V hb
    cases e
    exact r
  have HD : Hid (∀ V, Hid (Below w2.heap.size w2 V) → Hid (Below w2.heap.size w2 V.drew)) := fun V h => h.out.drew
  clear p2 h2 KH
  clear G2 b2 z0 z1 z2 z3 z4 z5 z6 z7 z8 z9 B1 HG HTC
  go_upto_region 5 with fail
  obtain ⟨V1, hV1⟩ : ∃ V8, w2.alloc (.cells #[.int .i64 0, .int .i64 0, .int .u64 0, .int .u64 0, .int .u64 0, .int .u64 0, .int .u64 0, .int .u64 0, .int .u64 0, .int .u64 0] 41) = V8 := ⟨_, rfl⟩
  have HV1 := HAL.out w2 (.cells #[.int .i64 0, .int .i64 0, .int .u64 0, .int .u64 0, .int .u64 0, .int .u64 0, .int .u64 0, .int .u64 0, .int .u64 0, .int .u64 0] 41) HD1
  have y := alloc_atK w2 (.cells #[.int .i64 0, .int .i64 0, .int .u64 0, .int .u64 0, .int .u64 0, .int .u64 0, .int .u64 0, .int .u64 0, .int .u64 0, .int .u64 0] 41)
  rw [hV1] at HV1 y
  rw [hV1]
  generalize w2.heap.size = pp at *
  have DD : Hid (∀ V, Below V1.heap.size V1 V → Dead V (some ⟨pp, 0, none⟩)) := fun V hb => Dead.kept (.inr ⟨pp, rfl, block_lt y, block_cell y 0⟩) hb
  have D1 := DD.out V1 (Below.refl _ _)
  have HD1' := hide D1
  clear hV1 y D1
  go_wp2_with fail
  refine (nodes_dead HD1'.out).mono ?_
  rintro e V ⟨rfl, rfl⟩
  go_wp2_with fail
  refine (quorum_dead HD1'.out).mono ?_
  rintro e V ⟨rfl, rfl⟩
  go_wp2_with fail
  refine (node_dead nd HD1'.out).mono ?_
  rintro e V ⟨rfl, rfl⟩
  go_wp2_with fail
  refine (all_dead HD1'.out).mono ?_
  rintro e V ⟨rfl, rfl⟩
  go_wp2_with fail
  refine (majority_dead 7 HD1'.out).mono ?_
  rintro e V ⟨rfl, rfl⟩
  go_wp2_with fail
  refine (valid_dead 0 0 HD1'.out).mono ?_
  rintro e V2 ⟨rfl, b⟩
  have HV2 := KB.out _ _ HV1 b
  have HD2 := hide (DD.out V2 b)
  clear b HD1'
  go_wp2_with fail
  refine (high_dead 1 HD2.out).mono ?_
  rintro e V ⟨rfl, rfl⟩
  go_wp2_with fail
  refine (inside_dead0 HD2.out).mono ?_
  rintro e V ⟨rfl, rfl⟩
  go_upto_region 9 with fail
  refine region_assign (fun V => Hid (Below pp w2 V)) [(82, .pointer (some ⟨g, 0, none⟩)), (83, .agg #[.int .i64 f, .int .i64 mb, .int .u64 d, .int .u64 wn, .int .u64 ev, .int .u64 bt, .int .u64 ep, .int .u64 em, .int .u64 mn, .int .u64 ms]), (84, .agg #[.int .i64 f, .int .i64 mb, .int .u64 d, .int .u64 wn, .int .u64 ev, .int .u64 bt, .int .u64 ep, .int .u64 em, .int .u64 mn, .int .u64 ms]), (85, .bool true), (86, .bool true), (87, .pointer (some ⟨g, 0, none⟩)), (88, .int .i64 nn), (89, .pointer (some ⟨h, 0, none⟩)), (90, .int .i64 nn), (91, .bool true), (92, .bool true), (93, .bool true), (94, .pointer (some ⟨g, 0, none⟩)), (95, .int .i64 qq), (96, .pointer (some ⟨h, 0, none⟩)), (97, .int .i64 qq), (98, .bool true), (99, .bool true), (100, .bool true), (101, .pointer (some ⟨g, 0, none⟩)), (102, .int .i64 nd), (103, .bool x), (104, .pointer (some ⟨h, 0, none⟩)), (105, .int .i64 nd), (106, .bool x), (107, .bool true), (108, .bool true), (109, .bool true), (110, .pointer (some ⟨g, 0, none⟩)), (111, .int .u32 al), (112, .pointer (some ⟨h, 0, none⟩)), (113, .int .u32 al), (114, .bool true), (115, .bool true), (4, .bool true)] _ (by kernel_rfl) (by kernel_rfl) (by kernel_rfl) (by kernel_rfl) rfl (HD.out _ HV2) ?_ (fun VX HVX => ?_)
  · simp only [putAll, Act.put, List.setIfInBounds_toArray, List.set_cons_zero, List.set_cons_succ]
    repeat' (first | exact AllTo.nil | refine AllTo.cons ?_ ?_)
    all_goals first
      | exact stepTo_no (by rfl) rfl
      | (refine stepTo_yes (by rfl) (fun V hV K hK => ?_)
         obtain ⟨z0, z1, z2, z3, z4, z5, z6, z7, z8, z9⟩ := HCF.out V (KC.out V hV)
         go_simp
         first
           | exact hK.out _ hV
           | (go_at_call 25; refine (HCG.out V _ (KG.out V hV)).mono ?_; rintro e V' ⟨rfl, b⟩; exact hK.out _ (KB.out _ _ hV b))
           | (go_at_call 18; refine (HNG.out V _ (KG.out V hV)).mono ?_; rintro e V' ⟨rfl, rfl⟩; exact hK.out _ hV)
           | (go_at_call 19; refine (HQG.out V _ (KG.out V hV)).mono ?_; rintro e V' ⟨rfl, rfl⟩; exact hK.out _ hV)
           | (go_at_call 20; refine (HDG.out V _ (KG.out V hV)).mono ?_; rintro e V' ⟨rfl, rfl⟩; exact hK.out _ hV)
           | (go_at_call 21; refine (HAG.out V _ (KG.out V hV)).mono ?_; rintro e V' ⟨rfl, rfl⟩; exact hK.out _ hV)
           | (go_at_call 26; refine (HNR.out V _ (KR.out V hV)).mono ?_; rintro e V' ⟨rfl, rfl⟩; exact hK.out _ hV)
           | (go_at_call 27; refine (HQR.out V _ (KR.out V hV)).mono ?_; rintro e V' ⟨rfl, rfl⟩; exact hK.out _ hV)
           | (go_at_call 28; refine (HDR.out V _ (KR.out V hV)).mono ?_; rintro e V' ⟨rfl, rfl⟩; exact hK.out _ hV)
           | (go_at_call 29; refine (HAR.out V _ (KR.out V hV)).mono ?_; rintro e V' ⟨rfl, rfl⟩; exact hK.out _ hV))
  simp only [putAll, Act.put, List.setIfInBounds_toArray, List.set_cons_zero, List.set_cons_succ]
  go_wp2
  go_ret
  exact ⟨rfl, FB.out _ HVX⟩
end Go.Proofs.Ytppoloellajfhab
