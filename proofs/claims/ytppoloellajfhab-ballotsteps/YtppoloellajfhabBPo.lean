import Derived.Test.YtppoloellajfhabBVi
namespace Go.Proofs.Ytppoloellajfhab
open Go.RowKit

set_option maxRecDepth 10000 in
set_option maxHeartbeats 400000 in
/-- Own, where the ballot is none to begin from. -/
theorem own_no {w : World} {a : Option Addr} (n m nd : Int) (k : Int) (hk : k ≠ 0)
    (hw : ∀ W, Below w.heap.size w W → Calls Try.prog 46 #[.pointer a, .agg #[.int .u64 n, .int .i64 m]] W fun e w' => e = .returned (.int .i64 k) ∧ Below W.heap.size W w') :
    Calls Try.prog 31 #[.pointer a, .agg #[.int .u64 n, .int .i64 m], .int .i64 nd] w (BalR w 0 0 [⟨ballotN, 0⟩] k) := by
  obtain ⟨W1, hW1⟩ : ∃ W1, (w.alloc (.cells #[.int .u64 n, .int .i64 m] 47)).alloc (.cells #[.int .u64 0, .int .i64 0] 47) = W1 := ⟨_, rfl⟩
  have B1 : Hid (Below w.heap.size w W1) := by rw [← hW1]; exact ((Below.refl _ w).alloc (Nat.le_refl _) _).alloc (by simp) _
  obtain ⟨t1, t2⟩ := two_box w (.cells #[.int .u64 n, .int .i64 m] 47) (.cells #[.int .u64 0, .int .i64 0] 47)
  obtain ⟨pb, hpb⟩ : ∃ p, w.heap.size = p := ⟨_, rfl⟩
  obtain ⟨pr, hpr⟩ : ∃ p, w.heap.size + 1 = p := ⟨_, rfl⟩
  rw [hW1, hpb] at t1
  rw [hW1, hpr] at t2
  have HT2 := hide t2
  have q0 := block_cell t1 0
  have q1 := block_cell t1 1
  have HPR : Hid (w.heap.size ≤ pr) := by show _ ≤ _; omega
  have HW1 := hide hW1
  have HPB := hide hpb
  have HPRE := hide hpr
  have HWR := hide (hw W1 B1.out)
  have HRF := hide (fun W => refusalB (w := W) 0 k)
  clear hW1 hpb hpr t1 t2 hw
  unfold BalR
  go_enter Try.func31, Try.ntmps31
  go_upto_region 1 with fail
  rw [HW1.out, HPRE.out, HPB.out]
  go_wp2_with fail
  refine HWR.out.mono ?_
  rintro e w2 ⟨rfl, b2⟩
  have B2 := hide (B1.out.trans (b2.mono B1.out.size))
  have T2 := hide ((b2.block _ (block_lt HT2.out)).trans HT2.out)
  clear b2 q0 q1 HT2 B1
  go_wp2_with fail
  refine (HRF.out _).mono ?_
  rintro e w3 ⟨ge, rfl, G3⟩
  have T3 := hide ((G3.out.2.block _ (block_lt T2.out)).trans T2.out)
  have FIN := hide (bal_set (B2.out.trans (G3.out.2.mono B2.out.size)) HPR.out T3.out (.int .u64 0) (.int .i64 0))
  have FER := hide (err_set G3.out.1 hk T3.out (.int .u64 0) (.int .i64 0))
  have y0 := block_cell T3.out 0
  have y1 := block_cell T3.out 1
  have y2 := block_free T3.out 0
  have y3 := block_free T3.out 1
  clear G3 B2 T2 T3 HRF
  go_wp2
  have z0 := FIN.out.2.1
  have z1 := FIN.out.2.2
  refine bodyPost_ret (v := .tuple #[.agg #[.int .u64 0, .int .i64 0], .iface 101 (.pointer (some ⟨ge, 0, none⟩))]) (by simp [results, Try.results31, go_sem, z0, z1]) rfl ⟨_, rfl, FER.out, FIN.out.1⟩
set_option maxRecDepth 10000 in
set_option maxHeartbeats 400000 in
/-- Own, where there is no such replica. -/
theorem own_node {w : World} {a : Option Addr} {c : Cf} (n : Nat) (m nd : Int) (h : PG w a c) (hk : c.Ok) (hv : c.valid n m = true) (hnd : c.node nd = false) :
    Calls Try.prog 31 #[.pointer a, .agg #[.int .u64 (n : Nat), .int .i64 m], .int .i64 nd] w (BalR w 0 0 [⟨ballotN, 1⟩] 182) := by
  obtain ⟨W1, hW1⟩ : ∃ W1, (w.alloc (.cells #[.int .u64 (n : Nat), .int .i64 m] 47)).alloc (.cells #[.int .u64 0, .int .i64 0] 47) = W1 := ⟨_, rfl⟩
  have B1 : Hid (Below w.heap.size w W1) := by rw [← hW1]; exact ((Below.refl _ w).alloc (Nat.le_refl _) _).alloc (by simp) _
  obtain ⟨t1, t2⟩ := two_box w (.cells #[.int .u64 (n : Nat), .int .i64 m] 47) (.cells #[.int .u64 0, .int .i64 0] 47)
  obtain ⟨pb, hpb⟩ : ∃ p, w.heap.size = p := ⟨_, rfl⟩
  obtain ⟨pr, hpr⟩ : ∃ p, w.heap.size + 1 = p := ⟨_, rfl⟩
  rw [hW1, hpb] at t1
  rw [hW1, hpr] at t2
  have HT2 := hide t2
  have q0 := block_cell t1 0
  have q1 := block_cell t1 1
  have HPR : Hid (w.heap.size ≤ pr) := by show _ ≤ _; omega
  have HW1 := hide hW1
  have HPB := hide hpb
  have HPRE := hide hpr
  have g1 := h.kept B1.out
  have HWR := hide (wrong_live n m g1 hk)
  rw [hv] at HWR
  have HND := hide (fun W (hb : Below W1.heap.size W1 W) => node_live nd (g1.kept hb) hk)
  rw [hnd] at HND
  have HRF := hide (fun W => refusalB (w := W) 1 182)
  clear hW1 hpb hpr t1 t2 g1 h hk hv hnd
  generalize (n : Int) = n at *
  unfold BalR
  go_enter Try.func31, Try.ntmps31
  go_upto_region 1 with fail
  rw [HW1.out, HPRE.out, HPB.out]
  go_wp2_with fail
  refine HWR.out.mono ?_
  rintro e w2 ⟨rfl, b2⟩
  have B2 := hide (B1.out.trans (b2.mono B1.out.size))
  have T2 := hide ((b2.block _ (block_lt HT2.out)).trans HT2.out)
  have HN2 := hide (HND.out w2 b2)
  clear b2 q0 q1 HT2 B1 HND
  go_wp2_with fail
  refine HN2.out.mono ?_
  rintro e w4 ⟨rfl, rfl⟩
  go_wp2_with fail
  refine (HRF.out _).mono ?_
  rintro e w3 ⟨ge, rfl, G3⟩
  have T3 := hide ((G3.out.2.block _ (block_lt T2.out)).trans T2.out)
  have FIN := hide (bal_set (B2.out.trans (G3.out.2.mono B2.out.size)) HPR.out T3.out (.int .u64 0) (.int .i64 0))
  have FER := hide (err_set G3.out.1 (by omega) T3.out (.int .u64 0) (.int .i64 0))
  have y0 := block_cell T3.out 0
  have y1 := block_cell T3.out 1
  have y2 := block_free T3.out 0
  have y3 := block_free T3.out 1
  clear G3 B2 T2 T3 HRF
  go_wp2
  have z0 := FIN.out.2.1
  have z1 := FIN.out.2.2
  refine bodyPost_ret (v := .tuple #[.agg #[.int .u64 0, .int .i64 0], .iface 101 (.pointer (some ⟨ge, 0, none⟩))]) (by simp [results, Try.results31, go_sem, z0, z1]) rfl ⟨_, rfl, FER.out, FIN.out.1⟩
/-- The least ballot above that the replica leads. -/
def Cf.own (c : Cf) (n m nd : Int) : Int × Int × List Lk × Int :=
  if n = 0 then (1, nd, [], 0) else if m < nd then (n, nd, [], 0) else if n + 1 > (c.mn : Int) then (0, 0, [⟨ballotN, 0⟩], 183) else (n + 1, nd, [], 0)
set_option maxRecDepth 10000 in
set_option maxHeartbeats 800000 in
theorem own_zero {w : World} {a : Option Addr} {c : Cf} (n : Nat) (m nd : Int) (h : PG w a c) (hk : c.Ok) (hv : c.valid n m = true) (hnd : c.node nd = true) (h0 : (n : Int) = 0) :
    Calls Try.prog 31 #[.pointer a, .agg #[.int .u64 (n : Nat), .int .i64 m], .int .i64 nd] w (BalR w 1 nd [] 0) := by
  obtain ⟨W1, hW1⟩ : ∃ W1, (w.alloc (.cells #[.int .u64 (n : Nat), .int .i64 m] 47)).alloc (.cells #[.int .u64 0, .int .i64 0] 47) = W1 := ⟨_, rfl⟩
  have B1 : Hid (Below w.heap.size w W1) := by rw [← hW1]; exact ((Below.refl _ w).alloc (Nat.le_refl _) _).alloc (by simp) _
  obtain ⟨t1, t2⟩ := two_box w (.cells #[.int .u64 (n : Nat), .int .i64 m] 47) (.cells #[.int .u64 0, .int .i64 0] 47)
  obtain ⟨pb, hpb⟩ : ∃ p, w.heap.size = p := ⟨_, rfl⟩
  obtain ⟨pr, hpr⟩ : ∃ p, w.heap.size + 1 = p := ⟨_, rfl⟩
  rw [hW1, hpb] at t1
  rw [hW1, hpr] at t2
  have HT2 := hide t2
  have q0 := block_cell t1 0
  have q1 := block_cell t1 1
  have HPR : Hid (w.heap.size ≤ pr) := by show _ ≤ _; omega
  have HW1 := hide hW1
  have HPB := hide hpb
  have HPRE := hide hpr
  have g1 := h.kept B1.out
  have HWR := hide (wrong_live n m g1 hk)
  rw [hv] at HWR
  have HND := hide (fun W (hb : Below W1.heap.size W1 W) => node_live nd (g1.kept hb) hk)
  rw [hnd] at HND
  obtain ⟨p, rfl, _⟩ := h
  have KS : Hid (∀ V, Below W1.heap.size W1 V → V.cell? ⟨p, 8, none⟩ = some (.int .u64 (c.mn : Nat)) ∧ V.cell? ⟨pb, 0, none⟩ = some (.int .u64 (n : Nat)) ∧ V.cell? ⟨pb, 1, none⟩ = some (.int .i64 m) ∧ V.heap[pr]? = some (.cells #[.int .u64 0, .int .i64 0] 47 (0, 0))) := fun V hb => by
    obtain ⟨p', e, _, _, _, h8, _⟩ := (g1.kept hb).cells
    cases e
    have hB := (hb.block _ (block_lt t1)).trans t1
    exact ⟨h8, block_cell hB 0, block_cell hB 1, (hb.block _ (block_lt t2)).trans t2⟩
  have hpl : p < W1.heap.size := by obtain ⟨p', e, hl, _⟩ := g1.cells; cases e; exact hl
  have HPL := hide hpl
  have HVI := hide ((c.valid_iff n m).1 hv)
  have HMN : Hid (1 ≤ (c.mn : Int) ∧ (c.mn : Int) ≤ 1099511627776) := by have := hk.mn1; have := hk.mn2; show _ ∧ _; omega
  have HLS := hide (fun W => less_any (n : Int) m 1 nd W)
  have hls : decide (cmpB (n : Int) m 1 nd < 0) = true := by rw [h0]; exact decide_eq_true (by unfold cmpB; simp)
  rw [hls] at HLS
  clear hW1 hpb hpr t1 t2 g1 hk hv hnd hls hpl
  generalize (n : Int) = n at *
  generalize (c.mn : Int) = mn at *
  subst h0
  have hgt : decide ((1 : Int) > mn) = false := decide_eq_false (by have := HMN.out; omega)
  unfold BalR
  go_enter Try.func31, Try.ntmps31
  go_upto_region 1 with fail
  rw [HW1.out, HPRE.out, HPB.out]
  go_wp2_with fail
  refine HWR.out.mono ?_
  rintro e w2 ⟨rfl, b2⟩
  have B2 := hide b2
  have HN2 := hide (HND.out w2 b2)
  clear b2 q0 q1 HT2 HND
  obtain ⟨q8, q0, q1, _⟩ := KS.out w2 B2.out
  go_wp2_with fail
  refine HN2.out.mono ?_
  rintro e w4 ⟨rfl, rfl⟩
  clear HN2
  go_upto_region 7 with fail
  obtain ⟨W5, hW5⟩ : ∃ V8, w4.alloc (.cells #[.int .u64 1, .int .i64 nd] 47) = V8 := ⟨_, rfl⟩
  have B5 : Hid (Below W1.heap.size W1 W5) := by rw [← hW5]; exact B2.out.alloc B2.out.size _
  have y := alloc_atK w4 (.cells #[.int .u64 1, .int .i64 nd] 47)
  have hpo : W1.heap.size ≤ w4.heap.size := B2.out.size
  rw [hW5] at y
  rw [hW5]
  clear hW5 q8 q0 q1
  generalize w4.heap.size = po at *
  have o0 := block_cell y 0
  have o1 := block_cell y 1
  obtain ⟨q8, q0, q1, _⟩ := KS.out W5 B5.out
  go_wp2_with fail
  refine (HLS.out W5).mono ?_
  rintro e W6 ⟨rfl, b6⟩
  have B6 := hide (B5.out.trans (b6.mono B5.out.size))
  have Y6 := hide ((b6.block _ (block_lt y)).trans y)
  have HPO := hide hpo
  clear b6 y o0 o1 q8 q0 q1 hpo HLS
  obtain ⟨q8, q0, q1, T6⟩ := KS.out W6 B6.out
  have T5 := hide T6
  have o0 := block_cell Y6.out 0
  have o1 := block_cell Y6.out 1
  have o2 := block_free Y6.out 0
  clear T6
  go_upto_region 9 with fail
  obtain ⟨W9, hW9⟩ : ∃ V, W6 = V := ⟨_, rfl⟩
  rw [hW9]
  rw [hW9] at q8 q0 q1 o0 o1 o2 B6 T5 Y6
  clear hW9
  have BX := B6
  have Y9 := Y6
  clear B6 Y6
  have HS9 : Hid (Below W1.heap.size W1 W9.drew ∧ W9.drew.heap[po]? = some (.cells #[.int .u64 1, .int .i64 nd] 47 (0, 0))) := ⟨BX.out.drew, Y9.out⟩
  clear q8 q0 q1 o0 o1 o2 T5 BX Y9
  refine region_assign (fun V => Hid (Below W1.heap.size W1 V ∧ V.heap[po]? = some (.cells #[.int .u64 1, .int .i64 nd] 47 (0, 0)))) [(39, .pointer (some ⟨po, 0, none⟩)), (40, .int .u64 1), (41, .pointer (some ⟨p, 0, none⟩)), (42, .pointer (some ⟨p, 0, none⟩)), (43, .pointer (some ⟨p, 0, none⟩)), (44, .pointer (some ⟨p, 8, none⟩)), (45, .int .u64 mn), (46, .bool false)] _ (by kernel_rfl) (by kernel_rfl) (by kernel_rfl) (by kernel_rfl) rfl HS9 ?_ (fun VX HVX => ?_)
  · simp only [putAll, Act.put, List.setIfInBounds_toArray, List.set_cons_zero, List.set_cons_succ]
    repeat' (first | exact AllTo.nil | refine AllTo.cons ?_ ?_)
    all_goals first
      | exact stepTo_no (by rfl) rfl
      | (refine stepTo_yes (by rfl) (fun V hV K hK => ?_)
         have HKV := KS.out V hV.out.1
         have r8 := HKV.1
         have o0 := block_cell hV.out.2 0
         have o1 := block_cell hV.out.2 1
         clear HKV
         go_simp
         exact hK.out _ hV)
  simp only [putAll, Act.put, List.setIfInBounds_toArray, List.set_cons_zero, List.set_cons_succ]
  obtain ⟨q8, q0, q1, T6⟩ := KS.out VX HVX.out.1
  have T5 := hide T6
  have o0 := block_cell HVX.out.2 0
  have o1 := block_cell HVX.out.2 1
  have FB : Hid (Below w.heap.size w VX) := B1.out.trans (HVX.out.1.mono B1.out.size)
  clear T6
  have FIN := hide (bal_set FB.out HPR.out T5.out (.int .u64 1) (.int .i64 nd))
  have y0 := block_cell T5.out 0
  have y1 := block_cell T5.out 1
  have y2 := block_free T5.out 0
  have y3 := block_free T5.out 1
  go_wp2
  have z0 := FIN.out.2.1
  have z1 := FIN.out.2.2
  refine bodyPost_ret (v := .tuple #[.agg #[.int .u64 1, .int .i64 nd], .nilIface]) (by simp [results, Try.results31, go_sem, z0, z1]) rfl ⟨_, rfl, .inl ⟨rfl, rfl, rfl⟩, FIN.out.1⟩
set_option maxRecDepth 10000 in
set_option maxHeartbeats 800000 in
theorem own_same {w : World} {a : Option Addr} {c : Cf} (n : Nat) (m nd : Int) (h : PG w a c) (hk : c.Ok) (hv : c.valid n m = true) (hnd : c.node nd = true) (h0 : ¬ (n : Int) = 0) (hlt : m < nd) :
    Calls Try.prog 31 #[.pointer a, .agg #[.int .u64 (n : Nat), .int .i64 m], .int .i64 nd] w (BalR w (n : Nat) nd [] 0) := by
  obtain ⟨W1, hW1⟩ : ∃ W1, (w.alloc (.cells #[.int .u64 (n : Nat), .int .i64 m] 47)).alloc (.cells #[.int .u64 0, .int .i64 0] 47) = W1 := ⟨_, rfl⟩
  have B1 : Hid (Below w.heap.size w W1) := by rw [← hW1]; exact ((Below.refl _ w).alloc (Nat.le_refl _) _).alloc (by simp) _
  obtain ⟨t1, t2⟩ := two_box w (.cells #[.int .u64 (n : Nat), .int .i64 m] 47) (.cells #[.int .u64 0, .int .i64 0] 47)
  obtain ⟨pb, hpb⟩ : ∃ p, w.heap.size = p := ⟨_, rfl⟩
  obtain ⟨pr, hpr⟩ : ∃ p, w.heap.size + 1 = p := ⟨_, rfl⟩
  rw [hW1, hpb] at t1
  rw [hW1, hpr] at t2
  have HT2 := hide t2
  have q0 := block_cell t1 0
  have q1 := block_cell t1 1
  have HPR : Hid (w.heap.size ≤ pr) := by show _ ≤ _; omega
  have HW1 := hide hW1
  have HPB := hide hpb
  have HPRE := hide hpr
  have g1 := h.kept B1.out
  have HWR := hide (wrong_live n m g1 hk)
  rw [hv] at HWR
  have HND := hide (fun W (hb : Below W1.heap.size W1 W) => node_live nd (g1.kept hb) hk)
  rw [hnd] at HND
  obtain ⟨p, rfl, _⟩ := h
  have KS : Hid (∀ V, Below W1.heap.size W1 V → V.cell? ⟨p, 8, none⟩ = some (.int .u64 (c.mn : Nat)) ∧ V.cell? ⟨pb, 0, none⟩ = some (.int .u64 (n : Nat)) ∧ V.cell? ⟨pb, 1, none⟩ = some (.int .i64 m) ∧ V.heap[pr]? = some (.cells #[.int .u64 0, .int .i64 0] 47 (0, 0))) := fun V hb => by
    obtain ⟨p', e, _, _, _, h8, _⟩ := (g1.kept hb).cells
    cases e
    have hB := (hb.block _ (block_lt t1)).trans t1
    exact ⟨h8, block_cell hB 0, block_cell hB 1, (hb.block _ (block_lt t2)).trans t2⟩
  have hpl : p < W1.heap.size := by obtain ⟨p', e, hl, _⟩ := g1.cells; cases e; exact hl
  have HPL := hide hpl
  have HVI := hide ((c.valid_iff n m).1 hv)
  have HMN : Hid (1 ≤ (c.mn : Int) ∧ (c.mn : Int) ≤ 1099511627776) := by have := hk.mn1; have := hk.mn2; show _ ∧ _; omega
  have HLS := hide (fun W => less_any (n : Int) m (n : Int) nd W)
  have hls : decide (cmpB (n : Int) m (n : Int) nd < 0) = true := decide_eq_true (by unfold cmpB; rw [if_pos rfl, if_neg (by omega), if_pos hlt]; omega)
  rw [hls] at HLS
  clear hW1 hpb hpr t1 t2 g1 hk hv hnd hls hpl
  generalize (n : Int) = n at *
  generalize (c.mn : Int) = mn at *
  have h1 : 1 ≤ n := by have := HVI.out; omega
  have hgt : decide (n > mn) = false := decide_eq_false (by have := HVI.out; omega)
  unfold BalR
  go_enter Try.func31, Try.ntmps31
  go_upto_region 1 with fail
  rw [HW1.out, HPRE.out, HPB.out]
  go_wp2_with fail
  refine HWR.out.mono ?_
  rintro e w2 ⟨rfl, b2⟩
  have B2 := hide b2
  have HN2 := hide (HND.out w2 b2)
  clear b2 q0 q1 HT2 HND
  obtain ⟨q8, q0, q1, _⟩ := KS.out w2 B2.out
  go_wp2_with fail
  refine HN2.out.mono ?_
  rintro e w4 ⟨rfl, rfl⟩
  clear HN2
  go_upto_region 7 with fail
  obtain ⟨W5, hW5⟩ : ∃ V8, w4.alloc (.cells #[.int .u64 n, .int .i64 nd] 47) = V8 := ⟨_, rfl⟩
  have B5 : Hid (Below W1.heap.size W1 W5) := by rw [← hW5]; exact B2.out.alloc B2.out.size _
  have y := alloc_atK w4 (.cells #[.int .u64 n, .int .i64 nd] 47)
  have hpo : W1.heap.size ≤ w4.heap.size := B2.out.size
  rw [hW5] at y
  rw [hW5]
  clear hW5 q8 q0 q1
  generalize w4.heap.size = po at *
  have o0 := block_cell y 0
  have o1 := block_cell y 1
  obtain ⟨q8, q0, q1, _⟩ := KS.out W5 B5.out
  go_wp2_with fail
  refine (HLS.out W5).mono ?_
  rintro e W6 ⟨rfl, b6⟩
  have B6 := hide (B5.out.trans (b6.mono B5.out.size))
  have Y6 := hide ((b6.block _ (block_lt y)).trans y)
  have HPO := hide hpo
  clear b6 y o0 o1 q8 q0 q1 hpo HLS
  obtain ⟨q8, q0, q1, T6⟩ := KS.out W6 B6.out
  have T5 := hide T6
  have o0 := block_cell Y6.out 0
  have o1 := block_cell Y6.out 1
  have o2 := block_free Y6.out 0
  clear T6
  go_upto_region 9 with fail
  obtain ⟨W9, hW9⟩ : ∃ V, W6 = V := ⟨_, rfl⟩
  rw [hW9]
  rw [hW9] at q8 q0 q1 o0 o1 o2 B6 T5 Y6
  clear hW9
  have BX := B6
  have Y9 := Y6
  clear B6 Y6
  have HS9 : Hid (Below W1.heap.size W1 W9.drew ∧ W9.drew.heap[po]? = some (.cells #[.int .u64 n, .int .i64 nd] 47 (0, 0))) := ⟨BX.out.drew, Y9.out⟩
  clear q8 q0 q1 o0 o1 o2 T5 BX Y9
  refine region_assign (fun V => Hid (Below W1.heap.size W1 V ∧ V.heap[po]? = some (.cells #[.int .u64 n, .int .i64 nd] 47 (0, 0)))) [(39, .pointer (some ⟨po, 0, none⟩)), (40, .int .u64 n), (41, .pointer (some ⟨p, 0, none⟩)), (42, .pointer (some ⟨p, 0, none⟩)), (43, .pointer (some ⟨p, 0, none⟩)), (44, .pointer (some ⟨p, 8, none⟩)), (45, .int .u64 mn), (46, .bool false)] _ (by kernel_rfl) (by kernel_rfl) (by kernel_rfl) (by kernel_rfl) rfl HS9 ?_ (fun VX HVX => ?_)
  · simp only [putAll, Act.put, List.setIfInBounds_toArray, List.set_cons_zero, List.set_cons_succ]
    repeat' (first | exact AllTo.nil | refine AllTo.cons ?_ ?_)
    all_goals first
      | exact stepTo_no (by rfl) rfl
      | (refine stepTo_yes (by rfl) (fun V hV K hK => ?_)
         have HKV := KS.out V hV.out.1
         have r8 := HKV.1
         have o0 := block_cell hV.out.2 0
         have o1 := block_cell hV.out.2 1
         clear HKV
         go_simp
         exact hK.out _ hV)
  simp only [putAll, Act.put, List.setIfInBounds_toArray, List.set_cons_zero, List.set_cons_succ]
  obtain ⟨q8, q0, q1, T6⟩ := KS.out VX HVX.out.1
  have T5 := hide T6
  have o0 := block_cell HVX.out.2 0
  have o1 := block_cell HVX.out.2 1
  have FB : Hid (Below w.heap.size w VX) := B1.out.trans (HVX.out.1.mono B1.out.size)
  clear T6
  have FIN := hide (bal_set FB.out HPR.out T5.out (.int .u64 n) (.int .i64 nd))
  have y0 := block_cell T5.out 0
  have y1 := block_cell T5.out 1
  have y2 := block_free T5.out 0
  have y3 := block_free T5.out 1
  go_wp2
  have z0 := FIN.out.2.1
  have z1 := FIN.out.2.2
  refine bodyPost_ret (v := .tuple #[.agg #[.int .u64 n, .int .i64 nd], .nilIface]) (by simp [results, Try.results31, go_sem, z0, z1]) rfl ⟨_, rfl, .inl ⟨rfl, rfl, rfl⟩, FIN.out.1⟩
set_option maxRecDepth 10000 in
set_option maxHeartbeats 800000 in
theorem own_next {w : World} {a : Option Addr} {c : Cf} (n : Nat) (m nd : Int) (h : PG w a c) (hk : c.Ok) (hv : c.valid n m = true) (hnd : c.node nd = true) (h0 : ¬ (n : Int) = 0) (hlt : ¬ m < nd) (hov : ¬ (n : Int) + 1 > (c.mn : Int)) :
    Calls Try.prog 31 #[.pointer a, .agg #[.int .u64 (n : Nat), .int .i64 m], .int .i64 nd] w (BalR w ((n : Nat) + 1) nd [] 0) := by
  obtain ⟨W1, hW1⟩ : ∃ W1, (w.alloc (.cells #[.int .u64 (n : Nat), .int .i64 m] 47)).alloc (.cells #[.int .u64 0, .int .i64 0] 47) = W1 := ⟨_, rfl⟩
  have B1 : Hid (Below w.heap.size w W1) := by rw [← hW1]; exact ((Below.refl _ w).alloc (Nat.le_refl _) _).alloc (by simp) _
  obtain ⟨t1, t2⟩ := two_box w (.cells #[.int .u64 (n : Nat), .int .i64 m] 47) (.cells #[.int .u64 0, .int .i64 0] 47)
  obtain ⟨pb, hpb⟩ : ∃ p, w.heap.size = p := ⟨_, rfl⟩
  obtain ⟨pr, hpr⟩ : ∃ p, w.heap.size + 1 = p := ⟨_, rfl⟩
  rw [hW1, hpb] at t1
  rw [hW1, hpr] at t2
  have HT2 := hide t2
  have q0 := block_cell t1 0
  have q1 := block_cell t1 1
  have HPR : Hid (w.heap.size ≤ pr) := by show _ ≤ _; omega
  have HW1 := hide hW1
  have HPB := hide hpb
  have HPRE := hide hpr
  have g1 := h.kept B1.out
  have HWR := hide (wrong_live n m g1 hk)
  rw [hv] at HWR
  have HND := hide (fun W (hb : Below W1.heap.size W1 W) => node_live nd (g1.kept hb) hk)
  rw [hnd] at HND
  obtain ⟨p, rfl, _⟩ := h
  have KS : Hid (∀ V, Below W1.heap.size W1 V → V.cell? ⟨p, 8, none⟩ = some (.int .u64 (c.mn : Nat)) ∧ V.cell? ⟨pb, 0, none⟩ = some (.int .u64 (n : Nat)) ∧ V.cell? ⟨pb, 1, none⟩ = some (.int .i64 m) ∧ V.heap[pr]? = some (.cells #[.int .u64 0, .int .i64 0] 47 (0, 0))) := fun V hb => by
    obtain ⟨p', e, _, _, _, h8, _⟩ := (g1.kept hb).cells
    cases e
    have hB := (hb.block _ (block_lt t1)).trans t1
    exact ⟨h8, block_cell hB 0, block_cell hB 1, (hb.block _ (block_lt t2)).trans t2⟩
  have hpl : p < W1.heap.size := by obtain ⟨p', e, hl, _⟩ := g1.cells; cases e; exact hl
  have HPL := hide hpl
  have HVI := hide ((c.valid_iff n m).1 hv)
  have HMN : Hid (1 ≤ (c.mn : Int) ∧ (c.mn : Int) ≤ 1099511627776) := by have := hk.mn1; have := hk.mn2; show _ ∧ _; omega
  have HLS := hide (fun W => less_any (n : Int) m (n : Int) nd W)
  have hls : decide (cmpB (n : Int) m (n : Int) nd < 0) = false := decide_eq_false (by unfold cmpB; rw [if_pos rfl]; split <;> (try split) <;> omega)
  rw [hls] at HLS
  clear hW1 hpb hpr t1 t2 g1 hk hv hnd hls hpl
  generalize (n : Int) = n at *
  generalize (c.mn : Int) = mn at *
  have h1 : 1 ≤ n := by have := HVI.out; omega
  have hnb : n ≤ 1099511627776 := by have := HVI.out; have := HMN.out; omega
  have hgt : decide (n + 1 > mn) = false := decide_eq_false hov
  clear hov
  unfold BalR
  go_enter Try.func31, Try.ntmps31
  go_upto_region 1 with fail
  rw [HW1.out, HPRE.out, HPB.out]
  go_wp2_with fail
  refine HWR.out.mono ?_
  rintro e w2 ⟨rfl, b2⟩
  have B2 := hide b2
  have HN2 := hide (HND.out w2 b2)
  clear b2 q0 q1 HT2 HND
  obtain ⟨q8, q0, q1, _⟩ := KS.out w2 B2.out
  go_wp2_with fail
  refine HN2.out.mono ?_
  rintro e w4 ⟨rfl, rfl⟩
  clear HN2
  go_upto_region 7 with fail
  obtain ⟨W5, hW5⟩ : ∃ V8, w4.alloc (.cells #[.int .u64 (n : Int), .int .i64 nd] 47) = V8 := ⟨_, rfl⟩
  have B5 : Hid (Below W1.heap.size W1 W5) := by rw [← hW5]; exact B2.out.alloc B2.out.size _
  have y := alloc_atK w4 (.cells #[.int .u64 (n : Int), .int .i64 nd] 47)
  have hpo : W1.heap.size ≤ w4.heap.size := B2.out.size
  rw [hW5] at y
  rw [hW5]
  clear hW5 q8 q0 q1
  generalize w4.heap.size = po at *
  have o0 := block_cell y 0
  have o1 := block_cell y 1
  obtain ⟨q8, q0, q1, _⟩ := KS.out W5 B5.out
  go_wp2_with fail
  refine (HLS.out W5).mono ?_
  rintro e W6 ⟨rfl, b6⟩
  have B6 := hide (B5.out.trans (b6.mono B5.out.size))
  have Y6 := hide ((b6.block _ (block_lt y)).trans y)
  have HPO := hide hpo
  clear b6 y o0 o1 q8 q0 q1 hpo HLS
  obtain ⟨q8, q0, q1, T6⟩ := KS.out W6 B6.out
  have T5 := hide T6
  have o0 := block_cell Y6.out 0
  have o1 := block_cell Y6.out 1
  have o2 := block_free Y6.out 0
  clear T6
  have u1 : IntKind.u64.wrap (n + 1) = n + 1 := by have := HVI.out; have := HMN.out; simp [IntKind.wrap, IntKind.bits, IntKind.signed]; omega
  go_upto_region 9 with fail
  obtain ⟨W9, hW9⟩ : ∃ V, W6.setCell ⟨po, 0, none⟩ (.int .u64 (n + 1)) = V := ⟨_, rfl⟩
  have s1 := heap_setCell_same W6 po 0 _ _ (.int .u64 (n + 1)) Y6.out
  simp only [List.setIfInBounds_toArray, List.set_cons_zero] at s1
  have BX : Hid (Below W1.heap.size W1 W9) := by rw [← hW9]; exact B6.out.grown (grown_set W6 po 0 _) B6.out.size (fun k e => by cases e; exact HPO.out)
  rw [hW9] at s1
  rw [hW9]
  clear hW9 q8 q0 q1 o0 o1 o2 T5 B6 Y6
  obtain ⟨q8, q0, q1, T6⟩ := KS.out W9 BX.out
  have T5 := hide T6
  have o0 := block_cell s1 0
  have o1 := block_cell s1 1
  have o2 := block_free s1 0
  have Y9 := hide s1
  clear T6 s1
  have HS9 : Hid (Below W1.heap.size W1 W9.drew ∧ W9.drew.heap[po]? = some (.cells #[.int .u64 (n + 1), .int .i64 nd] 47 (0, 0))) := ⟨BX.out.drew, Y9.out⟩
  clear q8 q0 q1 o0 o1 o2 T5 BX Y9
  refine region_assign (fun V => Hid (Below W1.heap.size W1 V ∧ V.heap[po]? = some (.cells #[.int .u64 (n + 1), .int .i64 nd] 47 (0, 0)))) [(39, .pointer (some ⟨po, 0, none⟩)), (40, .int .u64 (n + 1)), (41, .pointer (some ⟨p, 0, none⟩)), (42, .pointer (some ⟨p, 0, none⟩)), (43, .pointer (some ⟨p, 0, none⟩)), (44, .pointer (some ⟨p, 8, none⟩)), (45, .int .u64 mn), (46, .bool false)] _ (by kernel_rfl) (by kernel_rfl) (by kernel_rfl) (by kernel_rfl) rfl HS9 ?_ (fun VX HVX => ?_)
  · simp only [putAll, Act.put, List.setIfInBounds_toArray, List.set_cons_zero, List.set_cons_succ]
    repeat' (first | exact AllTo.nil | refine AllTo.cons ?_ ?_)
    all_goals first
      | exact stepTo_no (by rfl) rfl
      | (refine stepTo_yes (by rfl) (fun V hV K hK => ?_)
         have HKV := KS.out V hV.out.1
         have r8 := HKV.1
         have o0 := block_cell hV.out.2 0
         have o1 := block_cell hV.out.2 1
         clear HKV
         go_simp
         exact hK.out _ hV)
  simp only [putAll, Act.put, List.setIfInBounds_toArray, List.set_cons_zero, List.set_cons_succ]
  obtain ⟨q8, q0, q1, T6⟩ := KS.out VX HVX.out.1
  have T5 := hide T6
  have o0 := block_cell HVX.out.2 0
  have o1 := block_cell HVX.out.2 1
  have FB : Hid (Below w.heap.size w VX) := B1.out.trans (HVX.out.1.mono B1.out.size)
  clear T6
  have FIN := hide (bal_set FB.out HPR.out T5.out (.int .u64 (n + 1)) (.int .i64 nd))
  have y0 := block_cell T5.out 0
  have y1 := block_cell T5.out 1
  have y2 := block_free T5.out 0
  have y3 := block_free T5.out 1
  go_wp2
  have z0 := FIN.out.2.1
  have z1 := FIN.out.2.2
  refine bodyPost_ret (v := .tuple #[.agg #[.int .u64 (n + 1), .int .i64 nd], .nilIface]) (by simp [results, Try.results31, go_sem, z0, z1]) rfl ⟨_, rfl, .inl ⟨rfl, rfl, rfl⟩, FIN.out.1⟩
set_option maxRecDepth 10000 in
set_option maxHeartbeats 800000 in
theorem own_over {w : World} {a : Option Addr} {c : Cf} (n : Nat) (m nd : Int) (h : PG w a c) (hk : c.Ok) (hv : c.valid n m = true) (hnd : c.node nd = true) (h0 : ¬ (n : Int) = 0) (hlt : ¬ m < nd) (hov : (n : Int) + 1 > (c.mn : Int)) :
    Calls Try.prog 31 #[.pointer a, .agg #[.int .u64 (n : Nat), .int .i64 m], .int .i64 nd] w (BalR w 0 0 [⟨ballotN, 0⟩] 183) := by
  obtain ⟨W1, hW1⟩ : ∃ W1, (w.alloc (.cells #[.int .u64 (n : Nat), .int .i64 m] 47)).alloc (.cells #[.int .u64 0, .int .i64 0] 47) = W1 := ⟨_, rfl⟩
  have B1 : Hid (Below w.heap.size w W1) := by rw [← hW1]; exact ((Below.refl _ w).alloc (Nat.le_refl _) _).alloc (by simp) _
  obtain ⟨t1, t2⟩ := two_box w (.cells #[.int .u64 (n : Nat), .int .i64 m] 47) (.cells #[.int .u64 0, .int .i64 0] 47)
  obtain ⟨pb, hpb⟩ : ∃ p, w.heap.size = p := ⟨_, rfl⟩
  obtain ⟨pr, hpr⟩ : ∃ p, w.heap.size + 1 = p := ⟨_, rfl⟩
  rw [hW1, hpb] at t1
  rw [hW1, hpr] at t2
  have HT2 := hide t2
  have q0 := block_cell t1 0
  have q1 := block_cell t1 1
  have HPR : Hid (w.heap.size ≤ pr) := by show _ ≤ _; omega
  have HW1 := hide hW1
  have HPB := hide hpb
  have HPRE := hide hpr
  have g1 := h.kept B1.out
  have HWR := hide (wrong_live n m g1 hk)
  rw [hv] at HWR
  have HND := hide (fun W (hb : Below W1.heap.size W1 W) => node_live nd (g1.kept hb) hk)
  rw [hnd] at HND
  obtain ⟨p, rfl, _⟩ := h
  have KS : Hid (∀ V, Below W1.heap.size W1 V → V.cell? ⟨p, 8, none⟩ = some (.int .u64 (c.mn : Nat)) ∧ V.cell? ⟨pb, 0, none⟩ = some (.int .u64 (n : Nat)) ∧ V.cell? ⟨pb, 1, none⟩ = some (.int .i64 m) ∧ V.heap[pr]? = some (.cells #[.int .u64 0, .int .i64 0] 47 (0, 0))) := fun V hb => by
    obtain ⟨p', e, _, _, _, h8, _⟩ := (g1.kept hb).cells
    cases e
    have hB := (hb.block _ (block_lt t1)).trans t1
    exact ⟨h8, block_cell hB 0, block_cell hB 1, (hb.block _ (block_lt t2)).trans t2⟩
  have hpl : p < W1.heap.size := by obtain ⟨p', e, hl, _⟩ := g1.cells; cases e; exact hl
  have HPL := hide hpl
  have HVI := hide ((c.valid_iff n m).1 hv)
  have HMN : Hid (1 ≤ (c.mn : Int) ∧ (c.mn : Int) ≤ 1099511627776) := by have := hk.mn1; have := hk.mn2; show _ ∧ _; omega
  have HLS := hide (fun W => less_any (n : Int) m (n : Int) nd W)
  have hls : decide (cmpB (n : Int) m (n : Int) nd < 0) = false := decide_eq_false (by unfold cmpB; rw [if_pos rfl]; split <;> (try split) <;> omega)
  rw [hls] at HLS
  clear hW1 hpb hpr t1 t2 g1 hk hv hnd hls hpl
  generalize (n : Int) = n at *
  generalize (c.mn : Int) = mn at *
  have h1 : 1 ≤ n := by have := HVI.out; omega
  have hnb : n ≤ 1099511627776 := by have := HVI.out; have := HMN.out; omega
  have HRF := hide (fun W => refusalB (w := W) 0 183)
  have hgt : decide (n + 1 > mn) = true := decide_eq_true hov
  clear hov
  unfold BalR
  go_enter Try.func31, Try.ntmps31
  go_upto_region 1 with fail
  rw [HW1.out, HPRE.out, HPB.out]
  go_wp2_with fail
  refine HWR.out.mono ?_
  rintro e w2 ⟨rfl, b2⟩
  have B2 := hide b2
  have HN2 := hide (HND.out w2 b2)
  clear b2 q0 q1 HT2 HND
  obtain ⟨q8, q0, q1, _⟩ := KS.out w2 B2.out
  go_wp2_with fail
  refine HN2.out.mono ?_
  rintro e w4 ⟨rfl, rfl⟩
  clear HN2
  go_upto_region 7 with fail
  obtain ⟨W5, hW5⟩ : ∃ V8, w4.alloc (.cells #[.int .u64 (n : Int), .int .i64 nd] 47) = V8 := ⟨_, rfl⟩
  have B5 : Hid (Below W1.heap.size W1 W5) := by rw [← hW5]; exact B2.out.alloc B2.out.size _
  have y := alloc_atK w4 (.cells #[.int .u64 (n : Int), .int .i64 nd] 47)
  have hpo : W1.heap.size ≤ w4.heap.size := B2.out.size
  rw [hW5] at y
  rw [hW5]
  clear hW5 q8 q0 q1
  generalize w4.heap.size = po at *
  have o0 := block_cell y 0
  have o1 := block_cell y 1
  obtain ⟨q8, q0, q1, _⟩ := KS.out W5 B5.out
  go_wp2_with fail
  refine (HLS.out W5).mono ?_
  rintro e W6 ⟨rfl, b6⟩
  have B6 := hide (B5.out.trans (b6.mono B5.out.size))
  have Y6 := hide ((b6.block _ (block_lt y)).trans y)
  have HPO := hide hpo
  clear b6 y o0 o1 q8 q0 q1 hpo HLS
  obtain ⟨q8, q0, q1, T6⟩ := KS.out W6 B6.out
  have T5 := hide T6
  have o0 := block_cell Y6.out 0
  have o1 := block_cell Y6.out 1
  have o2 := block_free Y6.out 0
  clear T6
  have u1 : IntKind.u64.wrap (n + 1) = n + 1 := by have := HVI.out; have := HMN.out; simp [IntKind.wrap, IntKind.bits, IntKind.signed]; omega
  go_upto_region 9 with fail
  obtain ⟨W9, hW9⟩ : ∃ V, W6.setCell ⟨po, 0, none⟩ (.int .u64 (n + 1)) = V := ⟨_, rfl⟩
  have s1 := heap_setCell_same W6 po 0 _ _ (.int .u64 (n + 1)) Y6.out
  simp only [List.setIfInBounds_toArray, List.set_cons_zero] at s1
  have BX : Hid (Below W1.heap.size W1 W9) := by rw [← hW9]; exact B6.out.grown (grown_set W6 po 0 _) B6.out.size (fun k e => by cases e; exact HPO.out)
  rw [hW9] at s1
  rw [hW9]
  clear hW9 q8 q0 q1 o0 o1 o2 T5 B6 Y6
  obtain ⟨q8, q0, q1, T6⟩ := KS.out W9 BX.out
  have T5 := hide T6
  have o0 := block_cell s1 0
  have o1 := block_cell s1 1
  have o2 := block_free s1 0
  have Y9 := hide s1
  clear T6 s1
  have HS9 : Hid (Below W1.heap.size W1 W9.drew ∧ W9.drew.heap[po]? = some (.cells #[.int .u64 (n + 1), .int .i64 nd] 47 (0, 0))) := ⟨BX.out.drew, Y9.out⟩
  clear q8 q0 q1 o0 o1 o2 T5 BX Y9
  refine region_assign (fun V => Hid (Below W1.heap.size W1 V ∧ V.heap[po]? = some (.cells #[.int .u64 (n + 1), .int .i64 nd] 47 (0, 0)))) [(39, .pointer (some ⟨po, 0, none⟩)), (40, .int .u64 (n + 1)), (41, .pointer (some ⟨p, 0, none⟩)), (42, .pointer (some ⟨p, 0, none⟩)), (43, .pointer (some ⟨p, 0, none⟩)), (44, .pointer (some ⟨p, 8, none⟩)), (45, .int .u64 mn), (46, .bool true)] _ (by kernel_rfl) (by kernel_rfl) (by kernel_rfl) (by kernel_rfl) rfl HS9 ?_ (fun VX HVX => ?_)
  · simp only [putAll, Act.put, List.setIfInBounds_toArray, List.set_cons_zero, List.set_cons_succ]
    repeat' (first | exact AllTo.nil | refine AllTo.cons ?_ ?_)
    all_goals first
      | exact stepTo_no (by rfl) rfl
      | (refine stepTo_yes (by rfl) (fun V hV K hK => ?_)
         have HKV := KS.out V hV.out.1
         have r8 := HKV.1
         have o0 := block_cell hV.out.2 0
         have o1 := block_cell hV.out.2 1
         clear HKV
         go_simp
         exact hK.out _ hV)
  simp only [putAll, Act.put, List.setIfInBounds_toArray, List.set_cons_zero, List.set_cons_succ]
  obtain ⟨q8, q0, q1, T6⟩ := KS.out VX HVX.out.1
  have T5 := hide T6
  have o0 := block_cell HVX.out.2 0
  have o1 := block_cell HVX.out.2 1
  have FB : Hid (Below w.heap.size w VX) := B1.out.trans (HVX.out.1.mono B1.out.size)
  clear T6
  have B2 := FB
  have T2 := T5
  clear q8 q0 q1 o0 o1
  go_wp2_with fail
  refine (HRF.out _).mono ?_
  rintro e w3 ⟨ge, rfl, G3⟩
  have T3 := hide ((G3.out.2.block _ (block_lt T2.out)).trans T2.out)
  have FIN := hide (bal_set (B2.out.trans (G3.out.2.mono B2.out.size)) HPR.out T3.out (.int .u64 0) (.int .i64 0))
  have FER := hide (err_set G3.out.1 (by omega) T3.out (.int .u64 0) (.int .i64 0))
  have y0 := block_cell T3.out 0
  have y1 := block_cell T3.out 1
  have y2 := block_free T3.out 0
  have y3 := block_free T3.out 1
  clear G3 B2 T2 T3 HRF
  go_wp2
  have z0 := FIN.out.2.1
  have z1 := FIN.out.2.2
  refine bodyPost_ret (v := .tuple #[.agg #[.int .u64 0, .int .i64 0], .iface 101 (.pointer (some ⟨ge, 0, none⟩))]) (by simp [results, Try.results31, go_sem, z0, z1]) rfl ⟨_, rfl, FER.out, FIN.out.1⟩
end Go.Proofs.Ytppoloellajfhab
