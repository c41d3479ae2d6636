import Derived.Test.YthfiafjhnidlkaaBSi
import Derived.Test.YthfiafjhnidlkaaBPf
namespace Go.Proofs.Ythfiafjhnidlkaa
open Go.RowKit Go.Shelf

set_option maxRecDepth 100000 in
set_option maxHeartbeats 1600000 in
theorem sets_bad (c : Cf) (s t : Nat) (hs : s < 4294967296) (ht : t < 4294967296) (nd : Int) (w : World)
    (hG : ∀ W, Calls Try.prog 20 #[.agg c.cells] W fun e w' => ∃ a b, e = .returned (.tuple #[.pointer a, .pointer b, .bool true]) ∧ Hid (a = none ∧ b = none ∧ Below W.heap.size W w')) :
    Calls Try.prog 4 #[.agg c.cells, .int .u32 (s : Nat), .int .u32 (t : Nat), .int .i64 nd] w fun e w' => e = .returned (.bool true) ∧ Below w.heap.size w w' := by
  have HG := hide hG
  clear hG
  obtain ⟨W1, hW1⟩ : ∃ W1, ((w.alloc (.cells c.cells 24)).alloc (.cells #[.int .u32 (s : Nat)] 32)).alloc (.cells #[.bool false] 4) = W1 := ⟨_, rfl⟩
  have B1 : Hid (Below w.heap.size w W1) := by rw [← hW1]; exact (((Below.refl _ w).alloc (Nat.le_refl _) _).alloc (by simp) _).alloc (by simp; omega) _
  obtain ⟨pc, hpc⟩ : ∃ p, w.heap.size = p := ⟨_, rfl⟩
  obtain ⟨ps, hps⟩ : ∃ p, w.heap.size + 1 = p := ⟨_, rfl⟩
  obtain ⟨pr, hpr⟩ : ∃ p, w.heap.size + 1 + 1 = p := ⟨_, rfl⟩
  obtain ⟨t1, t2, t3⟩ := three w (.cells c.cells 24) (.cells #[.int .u32 (s : Nat)] 32) (.cells #[.bool false] 4)
  rw [hW1, hpc] at t1
  rw [hW1, hps] at t2
  rw [hW1, hpr] at t3
  obtain ⟨z0, z1, z2, z3, z4, z5, z6, z7, z8, z9⟩ := cfg_cells t1
  have q0 : W1.cell? ⟨ps, 0, none⟩ = some (.int .u32 (s : Nat)) := block_cell t2 0
  have HTS := hide t2
  have HTR := hide t3
  have HTC := hide t1
  have HW1 := hide hW1
  have HPC := hide hpc
  have HPS := hide hps
  have HPR := hide hpr
  clear hW1 hpc hps hpr t1 t2 t3
  have HMB := hide (members_any (s : Int) W1)
  have HFN : Hid (∀ p w, (binOp BinOp.eql 52 (.func (.func 48) #[] #[.pointer p]) .nilFunc).run Try.prog w = .ok (.bool false) w) := fun _ _ => rfl
  have HWP := hide (fun W => with_any s hs nd W)
  have HWR := hide (fun W => refWith s hs nd W)
  have HHP := hide (fun W => has_any s hs nd W)
  have HHR := hide (fun W => refHas s hs nd W)
  have HCP := hide (fun W => count_any s hs W)
  have HCR := hide (fun W => refCount s hs W)
  have HXP := hide (fun W => cross_any s t hs ht W)
  have HXR := hide (fun W => refCross s t hs ht W)
  refine (callsIn_wide (n := 4)).1 ?_
  refine callsIn_of_wp_marks Try.func4 rfl trivial ?_ rfl
  refine wpIn_wide.2 ?_
  generalize hcn : ((countB s : Nat) : Int) = cn at *
  generalize crossB (s &&& t) = cr at *
  generalize ((withB s nd : Nat) : Int) = x at *
  generalize hasB s nd = y at *
  generalize hse : (s : Int) = s' at *
  generalize (t : Int) = t' at *
  unfold Cf.cells at *
  generalize c.f = f at *
  generalize c.mb = mb at *
  generalize (c.delay : Int) = d at *
  generalize (c.win : Int) = wn at *
  generalize (c.every : Int) = ev at *
  generalize (c.beat : Int) = bt at *
  generalize (c.ep : Int) = ep at *
  generalize (c.em : Int) = em at *
  generalize (c.mn : Int) = mn at *
  generalize (c.ms : Int) = ms at *
  simp only [Try.ntmps4, List.size_toArray, List.length_cons, List.length_nil, Nat.reduceAdd, Nat.reduceSub, Array.replicate_succ, Array.replicate_zero, List.push_toArray, List.append_toArray, List.nil_append, List.cons_append]
  go_upto_region 1 with fail
  rw [HW1.out, HPR.out, HPS.out, HPC.out]
  clear HW1
  go_wp2_with fail
  refine HMB.out.mono ?_
  rintro e W2 ⟨rfl, hW2⟩
  have b2 : Below W1.heap.size W1 W2 := by rw [hW2]; exact (Below.refl _ _).alloc (Nat.le_refl _) _
  have TB := alloc_atK W1 (.cells #[.int .u32 s'] 32)
  rw [← hW2] at TB
  have tS := (b2.block _ (block_lt HTS.out)).trans HTS.out
  have tR := (b2.block _ (block_lt HTR.out)).trans HTR.out
  have hpl : pc < W1.heap.size := block_lt HTC.out
  have B2 := hide (B1.out.trans (b2.mono B1.out.size))
  replace z0 := (b2.cell (p := ⟨pc, 0, none⟩) hpl).trans z0
  replace z1 := (b2.cell (p := ⟨pc, 1, none⟩) hpl).trans z1
  replace z2 := (b2.cell (p := ⟨pc, 2, none⟩) hpl).trans z2
  replace z3 := (b2.cell (p := ⟨pc, 3, none⟩) hpl).trans z3
  replace z4 := (b2.cell (p := ⟨pc, 4, none⟩) hpl).trans z4
  replace z5 := (b2.cell (p := ⟨pc, 5, none⟩) hpl).trans z5
  replace z6 := (b2.cell (p := ⟨pc, 6, none⟩) hpl).trans z6
  replace z7 := (b2.cell (p := ⟨pc, 7, none⟩) hpl).trans z7
  replace z8 := (b2.cell (p := ⟨pc, 8, none⟩) hpl).trans z8
  replace z9 := (b2.cell (p := ⟨pc, 9, none⟩) hpl).trans z9
  have HO : Hid (w.heap.size ≤ W1.heap.size ∧ pr < W1.heap.size ∧ ps < W1.heap.size ∧ w.heap.size ≤ pr ∧ ps ≠ pr) := by
    have a1 := HPS.out
    have a2 := HPR.out
    exact ⟨B1.out.size, block_lt HTR.out, block_lt HTS.out, by omega, by omega⟩
  clear hW2 HMB b2 q0 HTS HTR HTC B1 HPC HPS HPR
  generalize W1.heap.size = Bn at *
  have hfn := HFN.out (some ⟨Bn, 0, none⟩)
  go_wp2_with fail
  refine (HG.out W2).mono ?_
  rintro e w3 ⟨a, b, rfl, G3⟩
  obtain ⟨p3, h3, b3⟩ := G3.out
  have B3 := hide (B2.out.trans (b3.mono B2.out.size))
  have TS3 := hide ((b3.block _ (block_lt tS)).trans tS)
  have TR3 := hide ((b3.block _ (block_lt tR)).trans tR)
  have TB3 := hide ((b3.block _ (block_lt TB)).trans TB)
  have KS : Hid (∀ V, Hid (Below w3.heap.size w3 V) → V.cell? ⟨ps, 0, none⟩ = some (.int .u32 s')) := fun V hb => block_cell ((hb.out.block ps (block_lt TS3.out)).trans TS3.out) 0
  have HD1 : Hid (Below w3.heap.size w3 w3) := Below.refl _ _
  have HD : Hid (∀ V, Hid (Below w3.heap.size w3 V) → Hid (Below w3.heap.size w3 V.drew)) := fun V h => h.out.drew
  have KB : Hid (∀ V V', Hid (Below w3.heap.size w3 V) → Below V.heap.size V V' → Hid (Below w3.heap.size w3 V')) := fun V V' h h' => h.out.trans (h'.mono h.out.size)
  subst p3 h3
  clear G3 b3 z0 z1 z2 z3 z4 z5 z6 z7 z8 z9 HG hpl tS tR TB B2 hfn HFN
  go_upto_region 5 with fail
  refine region_assign (fun V => Hid (Below w3.heap.size w3 V)) [(28, .bool true), (29, .bool false), (30, .bool false), (31, .int .u32 s'), (32, .int .i64 nd), (33, .int .u32 x), (34, .int .u32 s'), (35, .int .i64 nd), (36, .int .u32 x), (37, .bool false), (38, .bool false), (39, .bool false), (40, .int .u32 s'), (41, .int .i64 nd), (42, .bool y), (43, .int .u32 s'), (44, .int .i64 nd), (45, .bool y), (46, .bool false), (47, .bool false)] _ (by kernel_rfl) (by kernel_rfl) (by kernel_rfl) (by kernel_rfl) rfl (HD.out _ HD1) ?_ (fun V1 HV1 => ?_)
  · simp only [putAll, Act.put, List.setIfInBounds_toArray, List.set_cons_zero, List.set_cons_succ]
    repeat' (first | exact AllTo.nil | refine AllTo.cons ?_ ?_)
    all_goals first
      | exact stepTo_no (by rfl) rfl
      | (refine stepTo_yes (by rfl) (fun V hV K hK => ?_)
         have q0 := KS.out V hV
         go_simp
         first
           | exact hK.out _ hV
           | (go_at_call 13; refine (HWP.out V).mono ?_; rintro e V' ⟨rfl, hV'⟩; subst hV'; exact hK.out _ hV)
           | (go_at_call 21; refine (HWR.out V).mono ?_; rintro e V' ⟨rfl, hV'⟩; subst hV'; exact hK.out _ hV)
           | (go_at_call 18; refine (HHP.out V).mono ?_; rintro e V' ⟨rfl, hV'⟩; subst hV'; exact hK.out _ hV)
           | (go_at_call 22; refine (HHR.out V).mono ?_; rintro e V' ⟨rfl, hV'⟩; subst hV'; exact hK.out _ hV))
  simp only [putAll, Act.put, List.setIfInBounds_toArray, List.set_cons_zero, List.set_cons_succ]
  go_upto_region 7 with fail
  refine region_assign (fun V => Hid (Below w3.heap.size w3 V)) [(48, .int .u32 s'), (49, .int .i64 cn), (50, .int .u32 s'), (51, .int .i64 cn), (52, .bool false), (53, .bool false), (54, .int .u32 s'), (55, .int .u32 t'), (56, .int .i64 cr), (57, .int .u32 s'), (58, .int .u32 t'), (59, .int .i64 cr), (60, .bool false), (61, .bool false)] _ (by kernel_rfl) (by kernel_rfl) (by kernel_rfl) (by kernel_rfl) rfl (HD.out _ HV1) ?_ (fun V2 HV2 => ?_)
  · simp only [putAll, Act.put, List.setIfInBounds_toArray, List.set_cons_zero, List.set_cons_succ]
    repeat' (first | exact AllTo.nil | refine AllTo.cons ?_ ?_)
    all_goals first
      | exact stepTo_no (by rfl) rfl
      | (refine stepTo_yes (by rfl) (fun V hV K hK => ?_)
         have q0 := KS.out V hV
         go_simp
         first
           | exact hK.out _ hV
           | (go_at_call 15; refine (HCP.out V).mono ?_; rintro e V' ⟨rfl, hV'⟩; exact hK.out _ (KB.out _ _ hV hV'))
           | (go_at_call 23; refine (HCR.out V).mono ?_; rintro e V' ⟨rfl, hV'⟩; subst hV'; exact hK.out _ hV)
           | (go_at_call 17; refine (HXP.out V).mono ?_; rintro e V' ⟨rfl, hV'⟩; exact hK.out _ (KB.out _ _ hV hV'))
           | (go_at_call 24; refine (HXR.out V).mono ?_; rintro e V' ⟨rfl, hV'⟩; subst hV'; exact hK.out _ hV))
  simp only [putAll, Act.put, List.setIfInBounds_toArray, List.set_cons_zero, List.set_cons_succ]
  have q0 := KS.out V2 HV2
  go_wp2_with fail
  refine (majority_dead (w := V2) (a := none) s' (.inl rfl)).mono ?_
  rintro e V3 ⟨rfl, rfl⟩
  have HVL := HV2
  clear q0 HV2 HV1
  go_wp2
  obtain ⟨W4, hW4⟩ : ∃ U, V3.alloc (.cells #[.int .i64 0] 3) = U := ⟨_, rfl⟩
  have b4 : Below V3.heap.size V3 W4 := by rw [← hW4]; exact (Below.refl _ _).alloc (Nat.le_refl _) _
  have t4 := alloc_atK V3 (.cells #[.int .i64 0] 3)
  rw [hW4] at t4
  rw [hW4]
  have B4 := hide (B3.out.trans ((HVL.out.trans (b4.mono HVL.out.size)).mono B3.out.size))
  have TS4 := hide ((b4.block _ (block_lt ((HVL.out.block _ (block_lt TS3.out)).trans TS3.out))).trans ((HVL.out.block _ (block_lt TS3.out)).trans TS3.out))
  have TR4 := hide ((b4.block _ (block_lt ((HVL.out.block _ (block_lt TR3.out)).trans TR3.out))).trans ((HVL.out.block _ (block_lt TR3.out)).trans TR3.out))
  have TB4 := hide ((b4.block _ (block_lt ((HVL.out.block _ (block_lt TB3.out)).trans TB3.out))).trans ((HVL.out.block _ (block_lt TB3.out)).trans TB3.out))
  have T4 := hide t4
  have q4 : W4.cell? ⟨V3.heap.size, 0, none⟩ = some (.int .i64 0) := block_cell t4 0
  clear b4 t4 hW4 HVL KS HD HD1 KB TS3 TR3 TB3 B3 HWP HWR HHP HHR HCP HXP HXR
  generalize V3.heap.size = p13 at *
  subst hse
  change Code.wp Try.prog setsLoop _ _ _
  refine sets_loop ps pr p13 Bn s hs W4 TS4.out TR4.out TB4.out T4.out (fun e13 e14 e15 e17 e74 e75 e76 e77 e78 e107 e108 e109 e110 e111 e112 e113 e114 e115 e116 e117 e118 D1 D2 W5 H5 => ?_)
  have tR5 := (H5.out.2.2.2.2.2.block _ (block_lt TR4.out)).trans TR4.out
  have q5 := (box_cell tR5).1
  have q6 := (box_cell tR5).2
  have B5 := hide (B4.out.trans (H5.out.2.2.2.2.2.mono B4.out.size))
  have HD : Hid (w.heap.size ≤ D1 ∧ w.heap.size ≤ D2 ∧ D1 ≠ D2) := ⟨Nat.le_trans B4.out.size H5.out.1, Nat.le_trans B4.out.size H5.out.2.2.1, H5.out.2.2.2.1⟩
  have K1 : Hid (W5.heap[D1]? = some (.deferred (some []))) := H5.out.2.1
  have K2 : Hid (W5.heap[D2]? = some (.deferred (some []))) := H5.out.2.2.2.2.1
  clear q4 T4 TS4 TB4 B4 TR4 tR5 H5
  go_wp2
  have hk1 := (KeepsOthers.setCell W5 ⟨pr, 0, none⟩ (.bool true)).same D1 _ K1.out rfl
  have hk2 := (KeepsOthers.setCell W5 ⟨pr, 0, none⟩ (.bool true)).same D2 _ K2.out rfl
  have c5 := World.cell?_setCell_same' W5 ⟨pr, 0, none⟩ (.bool true) (by rw [q5]; rfl)
  have b5 := B5.out.setCell (p := ⟨pr, 0, none⟩) HO.out.2.2.2.1 (.bool true)
  generalize W5.setCell ⟨pr, 0, none⟩ (.bool true) = W6 at *
  refine ⟨by simp, .inl ⟨_, _, rfl, run_takeDeferred hk2, ?_⟩⟩
  have c6 := cell_kept c5 (grownBy_putObj' W6 D2 (.deferred none)) (fun r e => by cases e; exact ⟨_, hk2, rfl⟩)
  have b6 := b5.trans (belowK_b (w := w) (Nat.le_refl _) W6 D2 _ (.deferred none) HD.out.2.1 hk2 rfl rfl)
  have hk1' : (W6.putObj D2 (.deferred none)).heap[D1]? = some (.deferred (some [])) := by
    exact (World.putObj_heap_other HD.out.2.2).trans hk1
  generalize W6.putObj D2 (.deferred none) = W7 at *
  refine ⟨by simp, .inl ⟨_, _, rfl, run_takeDeferred hk1', ?_⟩⟩
  have c7 := cell_kept c6 (grownBy_putObj' W7 D1 (.deferred none)) (fun r e => by cases e; exact ⟨_, hk1', rfl⟩)
  refine ⟨.bool true, ?_, rfl, b6.trans (belowK_b (w := w) (Nat.le_refl _) W7 D1 _ (.deferred none) HD.out.1 hk1' rfl rfl)⟩
  simp [results, Try.results4, go_sem, c7]
set_option maxRecDepth 100000 in
set_option maxHeartbeats 1600000 in
theorem sets_ok (c : Cf) (s t : Nat) (hs : s < 4294967296) (ht : t < 4294967296) (nd : Int) (w : World) (hk : c.Ok)
    (hG : ∀ W, Calls Try.prog 20 #[.agg c.cells] W fun e w' => ∃ a b, e = .returned (.tuple #[.pointer a, .pointer b, .bool true]) ∧ Hid (PG w' a c ∧ haOk c w' b ∧ Below W.heap.size W w')) :
    Calls Try.prog 4 #[.agg c.cells, .int .u32 (s : Nat), .int .u32 (t : Nat), .int .i64 nd] w fun e w' => e = .returned (.bool true) ∧ Below w.heap.size w w' := by
  have HG := hide hG
  clear hG
  obtain ⟨W1, hW1⟩ : ∃ W1, ((w.alloc (.cells c.cells 24)).alloc (.cells #[.int .u32 (s : Nat)] 32)).alloc (.cells #[.bool false] 4) = W1 := ⟨_, rfl⟩
  have B1 : Hid (Below w.heap.size w W1) := by rw [← hW1]; exact (((Below.refl _ w).alloc (Nat.le_refl _) _).alloc (by simp) _).alloc (by simp; omega) _
  obtain ⟨pc, hpc⟩ : ∃ p, w.heap.size = p := ⟨_, rfl⟩
  obtain ⟨ps, hps⟩ : ∃ p, w.heap.size + 1 = p := ⟨_, rfl⟩
  obtain ⟨pr, hpr⟩ : ∃ p, w.heap.size + 1 + 1 = p := ⟨_, rfl⟩
  obtain ⟨t1, t2, t3⟩ := three w (.cells c.cells 24) (.cells #[.int .u32 (s : Nat)] 32) (.cells #[.bool false] 4)
  rw [hW1, hpc] at t1
  rw [hW1, hps] at t2
  rw [hW1, hpr] at t3
  obtain ⟨z0, z1, z2, z3, z4, z5, z6, z7, z8, z9⟩ := cfg_cells t1
  have q0 : W1.cell? ⟨ps, 0, none⟩ = some (.int .u32 (s : Nat)) := block_cell t2 0
  have HTS := hide t2
  have HTR := hide t3
  have HTC := hide t1
  have HW1 := hide hW1
  have HPC := hide hpc
  have HPS := hide hps
  have HPR := hide hpr
  clear hW1 hpc hps hpr t1 t2 t3
  have HMB := hide (members_any (s : Int) W1)
  have HFN : Hid (∀ p w, (binOp BinOp.eql 52 (.func (.func 48) #[] #[.pointer p]) .nilFunc).run Try.prog w = .ok (.bool false) w) := fun _ _ => rfl
  have HWP := hide (fun W => with_any s hs nd W)
  have HWR := hide (fun W => refWith s hs nd W)
  have HHP := hide (fun W => has_any s hs nd W)
  have HHR := hide (fun W => refHas s hs nd W)
  have HCP := hide (fun W => count_any s hs W)
  have HCR := hide (fun W => refCount s hs W)
  have HXP := hide (fun W => cross_any s t hs ht W)
  have HXR := hide (fun W => refCross s t hs ht W)
  refine (callsIn_wide (n := 4)).1 ?_
  refine callsIn_of_wp_marks Try.func4 rfl trivial ?_ rfl
  refine wpIn_wide.2 ?_
  generalize hcn : ((countB s : Nat) : Int) = cn at *
  generalize crossB (s &&& t) = cr at *
  generalize ((withB s nd : Nat) : Int) = x at *
  generalize hasB s nd = y at *
  generalize hse : (s : Int) = s' at *
  generalize (t : Int) = t' at *
  unfold Cf.cells at *
  generalize c.f = f at *
  generalize c.mb = mb at *
  generalize (c.delay : Int) = d at *
  generalize (c.win : Int) = wn at *
  generalize (c.every : Int) = ev at *
  generalize (c.beat : Int) = bt at *
  generalize (c.ep : Int) = ep at *
  generalize (c.em : Int) = em at *
  generalize (c.mn : Int) = mn at *
  generalize (c.ms : Int) = ms at *
  simp only [Try.ntmps4, List.size_toArray, List.length_cons, List.length_nil, Nat.reduceAdd, Nat.reduceSub, Array.replicate_succ, Array.replicate_zero, List.push_toArray, List.append_toArray, List.nil_append, List.cons_append]
  go_upto_region 1 with fail
  rw [HW1.out, HPR.out, HPS.out, HPC.out]
  clear HW1
  go_wp2_with fail
  refine HMB.out.mono ?_
  rintro e W2 ⟨rfl, hW2⟩
  have b2 : Below W1.heap.size W1 W2 := by rw [hW2]; exact (Below.refl _ _).alloc (Nat.le_refl _) _
  have TB := alloc_atK W1 (.cells #[.int .u32 s'] 32)
  rw [← hW2] at TB
  have tS := (b2.block _ (block_lt HTS.out)).trans HTS.out
  have tR := (b2.block _ (block_lt HTR.out)).trans HTR.out
  have hpl : pc < W1.heap.size := block_lt HTC.out
  have B2 := hide (B1.out.trans (b2.mono B1.out.size))
  replace z0 := (b2.cell (p := ⟨pc, 0, none⟩) hpl).trans z0
  replace z1 := (b2.cell (p := ⟨pc, 1, none⟩) hpl).trans z1
  replace z2 := (b2.cell (p := ⟨pc, 2, none⟩) hpl).trans z2
  replace z3 := (b2.cell (p := ⟨pc, 3, none⟩) hpl).trans z3
  replace z4 := (b2.cell (p := ⟨pc, 4, none⟩) hpl).trans z4
  replace z5 := (b2.cell (p := ⟨pc, 5, none⟩) hpl).trans z5
  replace z6 := (b2.cell (p := ⟨pc, 6, none⟩) hpl).trans z6
  replace z7 := (b2.cell (p := ⟨pc, 7, none⟩) hpl).trans z7
  replace z8 := (b2.cell (p := ⟨pc, 8, none⟩) hpl).trans z8
  replace z9 := (b2.cell (p := ⟨pc, 9, none⟩) hpl).trans z9
  have HO : Hid (w.heap.size ≤ W1.heap.size ∧ pr < W1.heap.size ∧ ps < W1.heap.size ∧ w.heap.size ≤ pr ∧ ps ≠ pr) := by
    have a1 := HPS.out
    have a2 := HPR.out
    exact ⟨B1.out.size, block_lt HTR.out, block_lt HTS.out, by omega, by omega⟩
  clear hW2 HMB b2 q0 HTS HTR HTC B1 HPC HPS HPR
  generalize W1.heap.size = Bn at *
  have hfn := HFN.out (some ⟨Bn, 0, none⟩)
  go_wp2_with fail
  refine (HG.out W2).mono ?_
  rintro e w3 ⟨a, b, rfl, G3⟩
  obtain ⟨p3, h3, b3⟩ := G3.out
  have B3 := hide (B2.out.trans (b3.mono B2.out.size))
  have TS3 := hide ((b3.block _ (block_lt tS)).trans tS)
  have TR3 := hide ((b3.block _ (block_lt tR)).trans tR)
  have TB3 := hide ((b3.block _ (block_lt TB)).trans TB)
  have KS : Hid (∀ V, Hid (Below w3.heap.size w3 V) → V.cell? ⟨ps, 0, none⟩ = some (.int .u32 s')) := fun V hb => block_cell ((hb.out.block ps (block_lt TS3.out)).trans TS3.out) 0
  have HD1 : Hid (Below w3.heap.size w3 w3) := Below.refl _ _
  have HD : Hid (∀ V, Hid (Below w3.heap.size w3 V) → Hid (Below w3.heap.size w3 V.drew)) := fun V h => h.out.drew
  have KB : Hid (∀ V V', Hid (Below w3.heap.size w3 V) → Below V.heap.size V V' → Hid (Below w3.heap.size w3 V')) := fun V V' h h' => h.out.trans (h'.mono h.out.size)
  have KG : Hid (∀ V, Hid (Below w3.heap.size w3 V) → PG V a c) := fun V hb => p3.kept hb.out
  have KH : Hid (∀ V, Hid (Below w3.heap.size w3 V) → haOk c V b) := fun V hb => h3.kept hb.out
  obtain ⟨g, rfl, _⟩ := p3
  obtain ⟨h, rfl, _⟩ := h3
  have HMP : Hid (∀ V, Hid (Below w3.heap.size w3 V) → Calls Try.prog 25 #[.pointer (some ⟨g, 0, none⟩), .int .u32 s'] V fun e V' => e = .returned (.bool (c.maj s)) ∧ Below V.heap.size V V') := fun V hb => by
    rw [← hse]; exact majority_live s hs (KG.out V hb) hk
  have HMR : Hid (∀ V, Hid (Below w3.heap.size w3 V) → Calls Try.prog 26 #[.pointer (some ⟨h, 0, none⟩), .int .u32 s'] V fun e V' => e = .returned (.bool (c.maj s)) ∧ V' = V) := fun V hb => by
    obtain ⟨h', e, r, _⟩ := KH.out V hb
    cases e
    rw [← hse]; exact refMajority s hs r
  generalize c.maj s = mj at *
  clear KG KH hk
  clear G3 b3 z0 z1 z2 z3 z4 z5 z6 z7 z8 z9 HG hpl tS tR TB B2 hfn HFN
  go_upto_region 5 with fail
  refine region_assign (fun V => Hid (Below w3.heap.size w3 V)) [(28, .bool true), (29, .bool false), (30, .bool false), (31, .int .u32 s'), (32, .int .i64 nd), (33, .int .u32 x), (34, .int .u32 s'), (35, .int .i64 nd), (36, .int .u32 x), (37, .bool false), (38, .bool false), (39, .bool false), (40, .int .u32 s'), (41, .int .i64 nd), (42, .bool y), (43, .int .u32 s'), (44, .int .i64 nd), (45, .bool y), (46, .bool false), (47, .bool false)] _ (by kernel_rfl) (by kernel_rfl) (by kernel_rfl) (by kernel_rfl) rfl (HD.out _ HD1) ?_ (fun V1 HV1 => ?_)
  · simp only [putAll, Act.put, List.setIfInBounds_toArray, List.set_cons_zero, List.set_cons_succ]
    repeat' (first | exact AllTo.nil | refine AllTo.cons ?_ ?_)
    all_goals first
      | exact stepTo_no (by rfl) rfl
      | (refine stepTo_yes (by rfl) (fun V hV K hK => ?_)
         have q0 := KS.out V hV
         go_simp
         first
           | exact hK.out _ hV
           | (go_at_call 13; refine (HWP.out V).mono ?_; rintro e V' ⟨rfl, hV'⟩; subst hV'; exact hK.out _ hV)
           | (go_at_call 21; refine (HWR.out V).mono ?_; rintro e V' ⟨rfl, hV'⟩; subst hV'; exact hK.out _ hV)
           | (go_at_call 18; refine (HHP.out V).mono ?_; rintro e V' ⟨rfl, hV'⟩; subst hV'; exact hK.out _ hV)
           | (go_at_call 22; refine (HHR.out V).mono ?_; rintro e V' ⟨rfl, hV'⟩; subst hV'; exact hK.out _ hV))
  simp only [putAll, Act.put, List.setIfInBounds_toArray, List.set_cons_zero, List.set_cons_succ]
  go_upto_region 7 with fail
  refine region_assign (fun V => Hid (Below w3.heap.size w3 V)) [(48, .int .u32 s'), (49, .int .i64 cn), (50, .int .u32 s'), (51, .int .i64 cn), (52, .bool false), (53, .bool false), (54, .int .u32 s'), (55, .int .u32 t'), (56, .int .i64 cr), (57, .int .u32 s'), (58, .int .u32 t'), (59, .int .i64 cr), (60, .bool false), (61, .bool false)] _ (by kernel_rfl) (by kernel_rfl) (by kernel_rfl) (by kernel_rfl) rfl (HD.out _ HV1) ?_ (fun V2 HV2 => ?_)
  · simp only [putAll, Act.put, List.setIfInBounds_toArray, List.set_cons_zero, List.set_cons_succ]
    repeat' (first | exact AllTo.nil | refine AllTo.cons ?_ ?_)
    all_goals first
      | exact stepTo_no (by rfl) rfl
      | (refine stepTo_yes (by rfl) (fun V hV K hK => ?_)
         have q0 := KS.out V hV
         go_simp
         first
           | exact hK.out _ hV
           | (go_at_call 15; refine (HCP.out V).mono ?_; rintro e V' ⟨rfl, hV'⟩; exact hK.out _ (KB.out _ _ hV hV'))
           | (go_at_call 23; refine (HCR.out V).mono ?_; rintro e V' ⟨rfl, hV'⟩; subst hV'; exact hK.out _ hV)
           | (go_at_call 17; refine (HXP.out V).mono ?_; rintro e V' ⟨rfl, hV'⟩; exact hK.out _ (KB.out _ _ hV hV'))
           | (go_at_call 24; refine (HXR.out V).mono ?_; rintro e V' ⟨rfl, hV'⟩; subst hV'; exact hK.out _ hV))
  simp only [putAll, Act.put, List.setIfInBounds_toArray, List.set_cons_zero, List.set_cons_succ]
  go_upto_region 12 with fail
  refine region_assign (fun V => Hid (Below w3.heap.size w3 V)) [(67, .pointer (some ⟨g, 0, none⟩)), (68, .int .u32 s'), (69, .bool mj), (70, .pointer (some ⟨h, 0, none⟩)), (71, .int .u32 s'), (72, .bool mj), (73, .bool false)] _ (by kernel_rfl) (by kernel_rfl) (by kernel_rfl) (by kernel_rfl) rfl (HD.out _ HV2) ?_ (fun V4 HV4 => ?_)
  · simp only [putAll, Act.put, List.setIfInBounds_toArray, List.set_cons_zero, List.set_cons_succ]
    repeat' (first | exact AllTo.nil | refine AllTo.cons ?_ ?_)
    all_goals first
      | exact stepTo_no (by rfl) rfl
      | (refine stepTo_yes (by rfl) (fun V hV K hK => ?_)
         have q0 := KS.out V hV
         go_simp
         first
           | exact hK.out _ hV
           | (go_at_call 25; refine (HMP.out V hV).mono ?_; rintro e V' ⟨rfl, hV'⟩; exact hK.out _ (KB.out _ _ hV hV'))
           | (go_at_call 26; refine (HMR.out V hV).mono ?_; rintro e V' ⟨rfl, hV'⟩; subst hV'; exact hK.out _ hV))
  simp only [putAll, Act.put, List.setIfInBounds_toArray, List.set_cons_zero, List.set_cons_succ]
  have HVL := HV4
  clear HV2 HV1 HV4 HMP HMR
  go_wp2
  obtain ⟨W4, hW4⟩ : ∃ U, V4.alloc (.cells #[.int .i64 0] 3) = U := ⟨_, rfl⟩
  have b4 : Below V4.heap.size V4 W4 := by rw [← hW4]; exact (Below.refl _ _).alloc (Nat.le_refl _) _
  have t4 := alloc_atK V4 (.cells #[.int .i64 0] 3)
  rw [hW4] at t4
  rw [hW4]
  have B4 := hide (B3.out.trans ((HVL.out.trans (b4.mono HVL.out.size)).mono B3.out.size))
  have TS4 := hide ((b4.block _ (block_lt ((HVL.out.block _ (block_lt TS3.out)).trans TS3.out))).trans ((HVL.out.block _ (block_lt TS3.out)).trans TS3.out))
  have TR4 := hide ((b4.block _ (block_lt ((HVL.out.block _ (block_lt TR3.out)).trans TR3.out))).trans ((HVL.out.block _ (block_lt TR3.out)).trans TR3.out))
  have TB4 := hide ((b4.block _ (block_lt ((HVL.out.block _ (block_lt TB3.out)).trans TB3.out))).trans ((HVL.out.block _ (block_lt TB3.out)).trans TB3.out))
  have T4 := hide t4
  have q4 : W4.cell? ⟨V4.heap.size, 0, none⟩ = some (.int .i64 0) := block_cell t4 0
  clear b4 t4 hW4 HVL KS HD HD1 KB TS3 TR3 TB3 B3 HWP HWR HHP HHR HCP HXP HXR
  generalize V4.heap.size = p13 at *
  subst hse
  change Code.wp Try.prog setsLoop _ _ _
  refine sets_loop ps pr p13 Bn s hs W4 TS4.out TR4.out TB4.out T4.out (fun e13 e14 e15 e17 e74 e75 e76 e77 e78 e107 e108 e109 e110 e111 e112 e113 e114 e115 e116 e117 e118 D1 D2 W5 H5 => ?_)
  have tR5 := (H5.out.2.2.2.2.2.block _ (block_lt TR4.out)).trans TR4.out
  have q5 := (box_cell tR5).1
  have q6 := (box_cell tR5).2
  have B5 := hide (B4.out.trans (H5.out.2.2.2.2.2.mono B4.out.size))
  have HD : Hid (w.heap.size ≤ D1 ∧ w.heap.size ≤ D2 ∧ D1 ≠ D2) := ⟨Nat.le_trans B4.out.size H5.out.1, Nat.le_trans B4.out.size H5.out.2.2.1, H5.out.2.2.2.1⟩
  have K1 : Hid (W5.heap[D1]? = some (.deferred (some []))) := H5.out.2.1
  have K2 : Hid (W5.heap[D2]? = some (.deferred (some []))) := H5.out.2.2.2.2.1
  clear q4 T4 TS4 TB4 B4 TR4 tR5 H5
  go_wp2
  have hk1 := (KeepsOthers.setCell W5 ⟨pr, 0, none⟩ (.bool true)).same D1 _ K1.out rfl
  have hk2 := (KeepsOthers.setCell W5 ⟨pr, 0, none⟩ (.bool true)).same D2 _ K2.out rfl
  have c5 := World.cell?_setCell_same' W5 ⟨pr, 0, none⟩ (.bool true) (by rw [q5]; rfl)
  have b5 := B5.out.setCell (p := ⟨pr, 0, none⟩) HO.out.2.2.2.1 (.bool true)
  generalize W5.setCell ⟨pr, 0, none⟩ (.bool true) = W6 at *
  refine ⟨by simp, .inl ⟨_, _, rfl, run_takeDeferred hk2, ?_⟩⟩
  have c6 := cell_kept c5 (grownBy_putObj' W6 D2 (.deferred none)) (fun r e => by cases e; exact ⟨_, hk2, rfl⟩)
  have b6 := b5.trans (belowK_b (w := w) (Nat.le_refl _) W6 D2 _ (.deferred none) HD.out.2.1 hk2 rfl rfl)
  have hk1' : (W6.putObj D2 (.deferred none)).heap[D1]? = some (.deferred (some [])) := by
    exact (World.putObj_heap_other HD.out.2.2).trans hk1
  generalize W6.putObj D2 (.deferred none) = W7 at *
  refine ⟨by simp, .inl ⟨_, _, rfl, run_takeDeferred hk1', ?_⟩⟩
  have c7 := cell_kept c6 (grownBy_putObj' W7 D1 (.deferred none)) (fun r e => by cases e; exact ⟨_, hk1', rfl⟩)
  refine ⟨.bool true, ?_, rfl, b6.trans (belowK_b (w := w) (Nat.le_refl _) W7 D1 _ (.deferred none) HD.out.1 hk1' rfl rfl)⟩
  simp [results, Try.results4, go_sem, c7]
theorem sets_walk (c : Cf) (hin : c.In) (s t : Nat) (hs : s < 4294967296) (ht : t < 4294967296) (nd : Int) (w : World) :
    Calls Try.prog 4 #[.agg c.cells, .int .u32 (s : Nat), .int .u32 (t : Nat), .int .i64 nd] w fun e w' => e = .returned (.bool true) ∧ Below w.heap.size w w' := by
  rcases badOf_cases c with hk | ⟨k, hk⟩
  · exact sets_ok c s t hs ht nd w (cf_ok hk) (fun W => groups_ok c hin hk W)
  · exact sets_bad c s t hs ht nd w (fun W => groups_bad c hin k hk W)
end Go.Proofs.Ythfiafjhnidlkaa
