import Derived.Test.YtppoloellajfhabBPl
import Derived.Test.YtppoloellajfhabBAt
namespace Go.Proofs.Ytppoloellajfhab
open Go.RowKit

/-- A ballot is laid into its box: the box. -/
theorem bal_blk {w V : World} {pr : Nat} {x0 y0 : Value} {t : TypeId} (hb : Below w.heap.size w V) (hp : w.heap.size ≤ pr) (hr : V.heap[pr]? = some (.cells #[x0, y0] t (0, 0))) (x y : Value) :
    Below w.heap.size w ((V.setCell ⟨pr, 0, none⟩ x).setCell ⟨pr, 1, none⟩ y) ∧ ((V.setCell ⟨pr, 0, none⟩ x).setCell ⟨pr, 1, none⟩ y).heap[pr]? = some (.cells #[x, y] t (0, 0)) := by
  have h1 := hb.grown (grown_set V pr 0 x) hb.size (fun k e => by cases e; exact hp)
  have h2 := h1.grown (grown_set _ pr 1 y) h1.size (fun k e => by cases e; exact hp)
  have s1 := heap_setCell_same V pr 0 _ _ x hr
  simp only [List.setIfInBounds_toArray, List.set_cons_zero] at s1
  have s2 := heap_setCell_same _ pr 1 _ _ y s1
  simp only [List.setIfInBounds_toArray, List.set_cons_zero, List.set_cons_succ] at s2
  exact ⟨h2, s2⟩
set_option maxRecDepth 10000 in
set_option maxHeartbeats 400000 in
theorem ranked_dead {w : World} {a : Option Addr} (k : Int) (h : Dead w a) :
    Calls Try.prog 33 #[.pointer a, .int .u64 k] w (BalR w 0 0 [⟨ballotN, 0⟩] 3) := by
  obtain ⟨W1, hW1⟩ : ∃ W1, w.alloc (.cells #[.int .u64 0, .int .i64 0] 47) = W1 := ⟨_, rfl⟩
  have B1 : Hid (Below w.heap.size w W1) := by rw [← hW1]; exact (Below.refl _ w).alloc (Nat.le_refl _) _
  obtain ⟨pr, hpr⟩ : ∃ p, w.heap.size = p := ⟨_, rfl⟩
  have t1 : W1.heap[pr]? = some (.cells #[.int .u64 0, .int .i64 0] 47 (0, 0)) := by rw [← hW1, ← hpr]; exact alloc_atK _ _
  have HPR : Hid (w.heap.size ≤ pr) := by show _ ≤ _; omega
  have HM := hide (made_dead (h.kept B1.out))
  have HRF := hide (fun W => refusalB (w := W) 0 3)
  have B2 := B1
  have T2 := hide t1
  have HW1 := hide hW1
  have HPRE := hide hpr
  clear hW1 hpr t1 h
  unfold BalR
  go_enter Try.func33, Try.ntmps33
  go_upto_region 1 with fail
  rw [HW1.out, HPRE.out]
  go_wp2_with fail
  refine HM.out.mono ?_
  rintro e w1 ⟨rfl, rfl⟩
  go_wp2_with fail
  refine (HRF.out _).mono ?_
  rintro e w3 ⟨g, rfl, G3⟩
  have T3 := hide ((G3.out.2.block _ (block_lt T2.out)).trans T2.out)
  have FIN := hide (bal_set (B2.out.trans (G3.out.2.mono B2.out.size)) HPR.out T3.out (.int .u64 0) (.int .i64 0))
  have FER := hide (err_set G3.out.1 (by omega) T3.out (.int .u64 0) (.int .i64 0))
  have y0 := block_cell T3.out 0
  have y1 := block_cell T3.out 1
  have y2 := block_free T3.out 0
  have y3 := block_free T3.out 1
  clear G3 B2 T2 T3 HRF
  go_wp2
  have z0 := FIN.out.2.1
  have z1 := FIN.out.2.2
  refine bodyPost_ret (v := .tuple #[.agg #[.int .u64 0, .int .i64 0], .iface 101 (.pointer (some ⟨g, 0, none⟩))]) (by simp [results, Try.results33, go_sem, z0, z1]) rfl ⟨_, rfl, FER.out, FIN.out.1⟩
set_option maxRecDepth 10000 in
set_option maxHeartbeats 400000 in
theorem ranked_over {w : World} {a : Option Addr} {c : Cf} (k : Nat) (h : PG w a c) (hk : c.Ok) (ht : (k : Int) > (c.mn : Int) * (2 * c.f + 1)) :
    Calls Try.prog 33 #[.pointer a, .int .u64 (k : Nat)] w (BalR w 0 0 [⟨ballotN, 0⟩] 184) := by
  obtain ⟨W1, hW1⟩ : ∃ W1, w.alloc (.cells #[.int .u64 0, .int .i64 0] 47) = W1 := ⟨_, rfl⟩
  have B1 : Hid (Below w.heap.size w W1) := by rw [← hW1]; exact (Below.refl _ w).alloc (Nat.le_refl _) _
  obtain ⟨pr, hpr⟩ : ∃ p, w.heap.size = p := ⟨_, rfl⟩
  have t1 : W1.heap[pr]? = some (.cells #[.int .u64 0, .int .i64 0] 47 (0, 0)) := by rw [← hW1, ← hpr]; exact alloc_atK _ _
  have HPR : Hid (w.heap.size ≤ pr) := by show _ ≤ _; omega
  have g1 := h.kept B1.out
  have HM2 : Hid (∀ V, Below w.heap.size w V → Calls Try.prog 49 #[.pointer a] V fun e V' => e = .returned (.int .u64 (2 * c.f + 1)) ∧ V' = V) := fun V hb => many_live (h.kept hb) hk
  have HM := hide (made_live g1 hk)
  have HMY : Hid (∀ V, Hid (Below W1.heap.size W1 V) → Calls Try.prog 49 #[.pointer a] V fun e V' => e = .returned (.int .u64 (2 * c.f + 1)) ∧ Hid (Below W1.heap.size W1 V')) := fun V hb => (many_live (g1.kept hb.out) hk).mono fun _ _ h => ⟨h.1, by rw [h.2]; exact hb⟩
  obtain ⟨p, rfl, _⟩ := h
  have KC : Hid (∀ V, Hid (Below W1.heap.size W1 V) → V.cell? ⟨p, 8, none⟩ = some (.int .u64 (c.mn : Nat))) := fun V hb => by
    obtain ⟨p', e, _, _, _, h8, _⟩ := (g1.kept hb.out).cells
    cases e
    exact h8
  have KT : Hid (∀ V, Hid (Below W1.heap.size W1 V) → V.heap[pr]? = some (.cells #[.int .u64 0, .int .i64 0] 47 (0, 0))) := fun V hb => (hb.out.block _ (block_lt t1)).trans t1
  have HD : Hid (∀ V, Hid (Below W1.heap.size W1 V) → Hid (Below W1.heap.size W1 V.drew)) := fun V h => h.out.drew
  have HD1 : Hid (Below W1.heap.size W1 W1) := Below.refl _ _
  have f1 := hk.f1
  have f3 := hk.f3
  have HMN : Hid (1 ≤ (c.mn : Int) ∧ (c.mn : Int) ≤ 1099511627776) := by have := hk.mn1; have := hk.mn2; show _ ∧ _; omega
  obtain ⟨nn, hnn⟩ : ∃ nn, 2 * c.f + 1 = nn := ⟨_, rfl⟩
  rw [hnn] at HMY HM2 ht
  obtain ⟨tt, htt⟩ : ∃ q, (c.mn : Int) * nn = q := ⟨_, rfl⟩
  have HTB : Hid (0 ≤ tt ∧ tt ≤ 7696581394432) := by
    show _ ∧ _
    rw [← htt]
    have a1 : 0 ≤ (c.mn : Int) * nn := Int.mul_nonneg (by omega) (by omega)
    have a2 : (c.mn : Int) * nn ≤ 1099511627776 * 7 := Int.mul_le_mul HMN.out.2 (by omega) (by omega) (by omega)
    omega
  rw [htt] at ht
  have e2 : IntKind.u64.wrap ((c.mn : Int) * nn) = tt := by have := HTB.out; rw [htt]; simp [IntKind.wrap, IntKind.bits, IntKind.signed]; omega
  have HW1 := hide hW1
  have HPRE := hide hpr
  clear hW1 hpr t1 g1 hk htt
  have HRF := hide (fun W => refusalB (w := W) 0 184)
  have hd : decide ((k : Int) > tt) = true := decide_eq_true ht
  clear ht hnn
  generalize (k : Int) = k at *
  generalize (c.mn : Int) = mn at *
  unfold BalR
  go_enter Try.func33, Try.ntmps33
  go_upto_region 1 with fail
  rw [HW1.out, HPRE.out]
  go_wp2_with fail
  refine HM.out.mono ?_
  rintro e w1 ⟨rfl, rfl⟩
  go_upto_region 3 with fail
  refine region_assign (fun V => Hid (Below w1.heap.size w1 V)) [(15, .int .u64 k), (16, .pointer (some ⟨p, 0, none⟩)), (17, .pointer (some ⟨p, 0, none⟩)), (18, .pointer (some ⟨p, 0, none⟩)), (19, .pointer (some ⟨p, 8, none⟩)), (20, .int .u64 mn), (21, .pointer (some ⟨p, 0, none⟩)), (22, .int .u64 nn), (23, .int .u64 tt), (24, .bool true), (14, .bool true)] _ (by kernel_rfl) (by kernel_rfl) (by kernel_rfl) (by kernel_rfl) rfl (HD.out _ HD1) ?_ (fun V1 HV1 => ?_)
  · simp only [putAll, Act.put, List.setIfInBounds_toArray, List.set_cons_zero, List.set_cons_succ]
    repeat' (first | exact AllTo.nil | refine AllTo.cons ?_ ?_)
    all_goals first
      | exact stepTo_no (by rfl) rfl
      | (refine stepTo_yes (by rfl) (fun V hV K hK => ?_)
         have r0 := KC.out V hV
         go_simp
         first
           | exact hK.out _ hV
           | (go_at_call 49; refine (HMY.out _ hV).mono ?_; rintro e V' ⟨rfl, hV'⟩; exact hK.out _ hV'))
  simp only [putAll, Act.put, List.setIfInBounds_toArray, List.set_cons_zero, List.set_cons_succ]
  have T2 := hide (KT.out V1 HV1)
  have B2 := hide (B1.out.trans (HV1.out.mono B1.out.size))
  go_wp2_with fail
  refine (HRF.out _).mono ?_
  rintro e w3 ⟨g, rfl, G3⟩
  have T3 := hide ((G3.out.2.block _ (block_lt T2.out)).trans T2.out)
  have FIN := hide (bal_set (B2.out.trans (G3.out.2.mono B2.out.size)) HPR.out T3.out (.int .u64 0) (.int .i64 0))
  have FER := hide (err_set G3.out.1 (by omega) T3.out (.int .u64 0) (.int .i64 0))
  have y0 := block_cell T3.out 0
  have y1 := block_cell T3.out 1
  have y2 := block_free T3.out 0
  have y3 := block_free T3.out 1
  clear G3 B2 T2 T3 HRF
  go_wp2
  have z0 := FIN.out.2.1
  have z1 := FIN.out.2.2
  refine bodyPost_ret (v := .tuple #[.agg #[.int .u64 0, .int .i64 0], .iface 101 (.pointer (some ⟨g, 0, none⟩))]) (by simp [results, Try.results33, go_sem, z0, z1]) rfl ⟨_, rfl, FER.out, FIN.out.1⟩
set_option maxRecDepth 10000 in
set_option maxHeartbeats 400000 in
theorem ranked_zero {w : World} {a : Option Addr} {c : Cf} (h : PG w a c) (hk : c.Ok) :
    Calls Try.prog 33 #[.pointer a, .int .u64 0] w (BalR w 0 0 [] 0) := by
  have ht : ¬ (0 : Int) > (c.mn : Int) * (2 * c.f + 1) := by
    have := Int.mul_nonneg (a := (c.mn : Int)) (b := 2 * c.f + 1) (by omega) (by have := hk.f1; omega)
    omega
  obtain ⟨W1, hW1⟩ : ∃ W1, w.alloc (.cells #[.int .u64 0, .int .i64 0] 47) = W1 := ⟨_, rfl⟩
  have B1 : Hid (Below w.heap.size w W1) := by rw [← hW1]; exact (Below.refl _ w).alloc (Nat.le_refl _) _
  obtain ⟨pr, hpr⟩ : ∃ p, w.heap.size = p := ⟨_, rfl⟩
  have t1 : W1.heap[pr]? = some (.cells #[.int .u64 0, .int .i64 0] 47 (0, 0)) := by rw [← hW1, ← hpr]; exact alloc_atK _ _
  have HPR : Hid (w.heap.size ≤ pr) := by show _ ≤ _; omega
  have g1 := h.kept B1.out
  have HM2 : Hid (∀ V, Below w.heap.size w V → Calls Try.prog 49 #[.pointer a] V fun e V' => e = .returned (.int .u64 (2 * c.f + 1)) ∧ V' = V) := fun V hb => many_live (h.kept hb) hk
  have HM := hide (made_live g1 hk)
  have HMY : Hid (∀ V, Hid (Below W1.heap.size W1 V) → Calls Try.prog 49 #[.pointer a] V fun e V' => e = .returned (.int .u64 (2 * c.f + 1)) ∧ Hid (Below W1.heap.size W1 V')) := fun V hb => (many_live (g1.kept hb.out) hk).mono fun _ _ h => ⟨h.1, by rw [h.2]; exact hb⟩
  obtain ⟨p, rfl, _⟩ := h
  have KC : Hid (∀ V, Hid (Below W1.heap.size W1 V) → V.cell? ⟨p, 8, none⟩ = some (.int .u64 (c.mn : Nat))) := fun V hb => by
    obtain ⟨p', e, _, _, _, h8, _⟩ := (g1.kept hb.out).cells
    cases e
    exact h8
  have KT : Hid (∀ V, Hid (Below W1.heap.size W1 V) → V.heap[pr]? = some (.cells #[.int .u64 0, .int .i64 0] 47 (0, 0))) := fun V hb => (hb.out.block _ (block_lt t1)).trans t1
  have HD : Hid (∀ V, Hid (Below W1.heap.size W1 V) → Hid (Below W1.heap.size W1 V.drew)) := fun V h => h.out.drew
  have HD1 : Hid (Below W1.heap.size W1 W1) := Below.refl _ _
  have f1 := hk.f1
  have f3 := hk.f3
  have HMN : Hid (1 ≤ (c.mn : Int) ∧ (c.mn : Int) ≤ 1099511627776) := by have := hk.mn1; have := hk.mn2; show _ ∧ _; omega
  obtain ⟨nn, hnn⟩ : ∃ nn, 2 * c.f + 1 = nn := ⟨_, rfl⟩
  rw [hnn] at HMY HM2 ht
  obtain ⟨tt, htt⟩ : ∃ q, (c.mn : Int) * nn = q := ⟨_, rfl⟩
  have HTB : Hid (0 ≤ tt ∧ tt ≤ 7696581394432) := by
    show _ ∧ _
    rw [← htt]
    have a1 : 0 ≤ (c.mn : Int) * nn := Int.mul_nonneg (by omega) (by omega)
    have a2 : (c.mn : Int) * nn ≤ 1099511627776 * 7 := Int.mul_le_mul HMN.out.2 (by omega) (by omega) (by omega)
    omega
  rw [htt] at ht
  have e2 : IntKind.u64.wrap ((c.mn : Int) * nn) = tt := by have := HTB.out; rw [htt]; simp [IntKind.wrap, IntKind.bits, IntKind.signed]; omega
  have HW1 := hide hW1
  have HPRE := hide hpr
  clear hW1 hpr t1 g1 hk htt
  have hd : decide ((0 : Int) > tt) = false := decide_eq_false ht
  clear ht hnn
  generalize (c.mn : Int) = mn at *
  unfold BalR
  go_enter Try.func33, Try.ntmps33
  go_upto_region 1 with fail
  rw [HW1.out, HPRE.out]
  go_wp2_with fail
  refine HM.out.mono ?_
  rintro e w1 ⟨rfl, rfl⟩
  go_upto_region 3 with fail
  refine region_assign (fun V => Hid (Below w1.heap.size w1 V)) [(15, .int .u64 0), (16, .pointer (some ⟨p, 0, none⟩)), (17, .pointer (some ⟨p, 0, none⟩)), (18, .pointer (some ⟨p, 0, none⟩)), (19, .pointer (some ⟨p, 8, none⟩)), (20, .int .u64 mn), (21, .pointer (some ⟨p, 0, none⟩)), (22, .int .u64 nn), (23, .int .u64 tt), (24, .bool false), (14, .bool false)] _ (by kernel_rfl) (by kernel_rfl) (by kernel_rfl) (by kernel_rfl) rfl (HD.out _ HD1) ?_ (fun V1 HV1 => ?_)
  · simp only [putAll, Act.put, List.setIfInBounds_toArray, List.set_cons_zero, List.set_cons_succ]
    repeat' (first | exact AllTo.nil | refine AllTo.cons ?_ ?_)
    all_goals first
      | exact stepTo_no (by rfl) rfl
      | (refine stepTo_yes (by rfl) (fun V hV K hK => ?_)
         have r0 := KC.out V hV
         go_simp
         first
           | exact hK.out _ hV
           | (go_at_call 49; refine (HMY.out _ hV).mono ?_; rintro e V' ⟨rfl, hV'⟩; exact hK.out _ hV'))
  simp only [putAll, Act.put, List.setIfInBounds_toArray, List.set_cons_zero, List.set_cons_succ]
  have T := KT.out V1 HV1
  have y0 := block_cell T 0
  have y1 := block_cell T 1
  have y2 := block_free T 0
  have y3 := block_free T 1
  have FIN := hide (bal_set (B1.out.trans (HV1.out.mono B1.out.size)) HPR.out T (.int .u64 0) (.int .i64 0))
  clear T
  go_wp2
  have z0 := FIN.out.2.1
  have z1 := FIN.out.2.2
  refine bodyPost_ret (v := .tuple #[.agg #[.int .u64 0, .int .i64 0], .nilIface]) (by simp [results, Try.results33, go_sem, z0, z1]) rfl ⟨_, rfl, .inl ⟨rfl, rfl, rfl⟩, FIN.out.1⟩
set_option maxRecDepth 10000 in
set_option maxHeartbeats 800000 in
theorem ranked_yes {w : World} {a : Option Addr} {c : Cf} (k : Nat) (hk0 : 0 < k) (h : PG w a c) (hk : c.Ok) (ht : ¬ (k : Int) > (c.mn : Int) * (2 * c.f + 1)) :
    Calls Try.prog 33 #[.pointer a, .int .u64 (k : Nat)] w (BalR w (((k : Int) - 1) / (2 * c.f + 1) + 1) (((k : Int) - 1) % (2 * c.f + 1)) [] 0) := by
  obtain ⟨W1, hW1⟩ : ∃ W1, w.alloc (.cells #[.int .u64 0, .int .i64 0] 47) = W1 := ⟨_, rfl⟩
  have B1 : Hid (Below w.heap.size w W1) := by rw [← hW1]; exact (Below.refl _ w).alloc (Nat.le_refl _) _
  obtain ⟨pr, hpr⟩ : ∃ p, w.heap.size = p := ⟨_, rfl⟩
  have t1 : W1.heap[pr]? = some (.cells #[.int .u64 0, .int .i64 0] 47 (0, 0)) := by rw [← hW1, ← hpr]; exact alloc_atK _ _
  have HPR : Hid (w.heap.size ≤ pr) := by show _ ≤ _; omega
  have g1 := h.kept B1.out
  have HM2 : Hid (∀ V, Below w.heap.size w V → Calls Try.prog 49 #[.pointer a] V fun e V' => e = .returned (.int .u64 (2 * c.f + 1)) ∧ V' = V) := fun V hb => many_live (h.kept hb) hk
  have HM := hide (made_live g1 hk)
  have HMY : Hid (∀ V, Hid (Below W1.heap.size W1 V) → Calls Try.prog 49 #[.pointer a] V fun e V' => e = .returned (.int .u64 (2 * c.f + 1)) ∧ Hid (Below W1.heap.size W1 V')) := fun V hb => (many_live (g1.kept hb.out) hk).mono fun _ _ h => ⟨h.1, by rw [h.2]; exact hb⟩
  obtain ⟨p, rfl, _⟩ := h
  have KC : Hid (∀ V, Hid (Below W1.heap.size W1 V) → V.cell? ⟨p, 8, none⟩ = some (.int .u64 (c.mn : Nat))) := fun V hb => by
    obtain ⟨p', e, _, _, _, h8, _⟩ := (g1.kept hb.out).cells
    cases e
    exact h8
  have KT : Hid (∀ V, Hid (Below W1.heap.size W1 V) → V.heap[pr]? = some (.cells #[.int .u64 0, .int .i64 0] 47 (0, 0))) := fun V hb => (hb.out.block _ (block_lt t1)).trans t1
  have HD : Hid (∀ V, Hid (Below W1.heap.size W1 V) → Hid (Below W1.heap.size W1 V.drew)) := fun V h => h.out.drew
  have HD1 : Hid (Below W1.heap.size W1 W1) := Below.refl _ _
  have f1 := hk.f1
  have f3 := hk.f3
  have HMN : Hid (1 ≤ (c.mn : Int) ∧ (c.mn : Int) ≤ 1099511627776) := by have := hk.mn1; have := hk.mn2; show _ ∧ _; omega
  obtain ⟨nn, hnn⟩ : ∃ nn, 2 * c.f + 1 = nn := ⟨_, rfl⟩
  rw [hnn] at HMY HM2 ht
  obtain ⟨tt, htt⟩ : ∃ q, (c.mn : Int) * nn = q := ⟨_, rfl⟩
  have HTB : Hid (0 ≤ tt ∧ tt ≤ 7696581394432) := by
    show _ ∧ _
    rw [← htt]
    have a1 : 0 ≤ (c.mn : Int) * nn := Int.mul_nonneg (by omega) (by omega)
    have a2 : (c.mn : Int) * nn ≤ 1099511627776 * 7 := Int.mul_le_mul HMN.out.2 (by omega) (by omega) (by omega)
    omega
  rw [htt] at ht
  have e2 : IntKind.u64.wrap ((c.mn : Int) * nn) = tt := by have := HTB.out; rw [htt]; simp [IntKind.wrap, IntKind.bits, IntKind.signed]; omega
  have HW1 := hide hW1
  have HPRE := hide hpr
  clear hW1 hpr t1 g1 hk htt
  have hd : decide ((k : Int) > tt) = false := decide_eq_false ht
  have hkz : ¬ (k : Int) = 0 := by omega
  obtain ⟨ab, hab⟩ : ∃ ab, (k : Int) - 1 = ab := ⟨_, rfl⟩
  have hab0 : 0 ≤ ab := by omega
  have habt : ab ≤ 7696581394432 := by have := HTB.out; omega
  have hn0 : 0 < nn := by omega
  have hn7 : nn ≤ 7 := by omega
  have hnz : ¬ nn = 0 := by omega
  rw [hnn, hab]
  obtain ⟨qd, hqd⟩ : ∃ q, ab / nn = q := ⟨_, rfl⟩
  obtain ⟨rm, hrm⟩ : ∃ q, ab % nn = q := ⟨_, rfl⟩
  have hq0 : 0 ≤ qd := by rw [← hqd]; exact Int.ediv_nonneg hab0 (by omega)
  have hq1 : qd ≤ 7696581394432 := by rw [← hqd]; exact Int.le_trans (Int.ediv_le_self _ hab0) habt
  have hr0 : 0 ≤ rm := by rw [← hrm]; exact Int.emod_nonneg _ hnz
  have hr1 : rm ≤ 6 := by rw [← hrm]; have := Int.emod_lt_of_pos ab hn0; omega
  have t1 : Int.tdiv ab nn = qd := by rw [← hqd]; exact Int.tdiv_eq_ediv_of_nonneg hab0
  have t2 : Int.tmod ab nn = rm := by rw [← hrm]; exact Int.tmod_eq_emod_of_nonneg hab0
  have u0 : IntKind.u64.wrap qd = qd := by simp [IntKind.wrap, IntKind.bits, IntKind.signed]; omega
  have u1 : IntKind.u64.wrap rm = rm := by simp [IntKind.wrap, IntKind.bits, IntKind.signed]; omega
  have u2 : IntKind.u64.wrap (qd + 1) = qd + 1 := by simp [IntKind.wrap, IntKind.bits, IntKind.signed]; omega
  have u3 : IntKind.i64.wrap rm = rm := by simp [IntKind.wrap, IntKind.bits, IntKind.signed]; omega
  rw [hqd, hrm]
  have HKP : Hid ((k : Int) ≤ 7696581394432) := by have := HTB.out; show _ ≤ _; omega
  have HAB := hide hab
  have u4 : IntKind.u64.wrap ((k : Int) - 1) = ab := by have := HKP.out; rw [hab]; simp [IntKind.wrap, IntKind.bits, IntKind.signed]; omega
  clear ht hnn hab hqd hrm
  generalize (k : Int) = k at *
  generalize (c.mn : Int) = mn at *
  unfold BalR
  go_enter Try.func33, Try.ntmps33
  go_upto_region 1 with fail
  rw [HW1.out, HPRE.out]
  go_wp2_with fail
  refine HM.out.mono ?_
  rintro e w1 ⟨rfl, rfl⟩
  go_upto_region 3 with fail
  refine region_assign (fun V => Hid (Below w1.heap.size w1 V)) [(15, .int .u64 k), (16, .pointer (some ⟨p, 0, none⟩)), (17, .pointer (some ⟨p, 0, none⟩)), (18, .pointer (some ⟨p, 0, none⟩)), (19, .pointer (some ⟨p, 8, none⟩)), (20, .int .u64 mn), (21, .pointer (some ⟨p, 0, none⟩)), (22, .int .u64 nn), (23, .int .u64 tt), (24, .bool false), (14, .bool false)] _ (by kernel_rfl) (by kernel_rfl) (by kernel_rfl) (by kernel_rfl) rfl (HD.out _ HD1) ?_ (fun V1 HV1 => ?_)
  · simp only [putAll, Act.put, List.setIfInBounds_toArray, List.set_cons_zero, List.set_cons_succ]
    repeat' (first | exact AllTo.nil | refine AllTo.cons ?_ ?_)
    all_goals first
      | exact stepTo_no (by rfl) rfl
      | (refine stepTo_yes (by rfl) (fun V hV K hK => ?_)
         have r0 := KC.out V hV
         go_simp
         first
           | exact hK.out _ hV
           | (go_at_call 49; refine (HMY.out _ hV).mono ?_; rintro e V' ⟨rfl, hV'⟩; exact hK.out _ hV'))
  simp only [putAll, Act.put, List.setIfInBounds_toArray, List.set_cons_zero, List.set_cons_succ]
  have HS1 : Hid (Below w.heap.size w V1 ∧ V1.heap[pr]? = some (.cells #[.int .u64 0, .int .i64 0] 47 (0, 0))) := ⟨B1.out.trans (HV1.out.mono B1.out.size), KT.out V1 HV1⟩
  go_upto_region 8 with fail
  rw [show (k == 0) = false by simpa using hkz]
  refine region_assign1 (fun b V => Hid (Below w.heap.size w V ∧ V.heap[pr]? = some (.cells (if b = true then #[.int .u64 (qd + 1), .int .i64 rm] else #[.int .u64 0, .int .i64 0]) 47 (0, 0)))) 11 [(34, .int .u64 ab), (35, .pointer (some ⟨p, 0, none⟩)), (36, .int .u64 nn), (37, .int .u64 qd), (38, .int .u64 (qd + 1)), (39, .int .u64 ab), (40, .pointer (some ⟨p, 0, none⟩)), (41, .int .u64 nn), (42, .int .u64 rm), (43, .int .i64 rm), (44, .agg #[.int .u64 (qd + 1), .int .i64 rm]), (5, .nilIface)] _ (by kernel_rfl) (by decide) (by kernel_rfl) (by kernel_rfl) (by kernel_rfl) rfl (show Hid _ from ⟨HS1.out.1.drew, HS1.out.2⟩) ?_ (fun V2 HV2 => ?_)
  · simp only [putAll, Act.put, List.setIfInBounds_toArray, List.set_cons_zero, List.set_cons_succ]
    repeat' (first | exact AllFro.nil | refine AllFro.off (by decide) (fun b => ?_) ?_ | refine AllFro.at_ (by decide) ?_ ?_)
    all_goals first
      | (refine stepTo_yes (by rfl) (fun V hV K hK => ?_)
         go_simp
         first
           | exact hK.out _ hV
           | (go_at_call 49; refine (HM2.out _ hV.out.1).mono ?_; rintro e V' ⟨rfl, rfl⟩; exact hK.out _ hV))
      | (refine ⟨by rfl, fun V hV K hK => ?_⟩
         have hr : V.heap[pr]? = some (.cells #[.int .u64 0, .int .i64 0] 47 (0, 0)) := hV.out.2
         have y0 := block_cell hr 0
         have y1 := block_cell hr 1
         have y2 := block_free hr 0
         have y3 := block_free hr 1
         have FIN := hide (bal_blk hV.out.1 HPR.out hr (.int .u64 (qd + 1)) (.int .i64 rm))
         clear hr
         go_simp
         exact hK.out _ FIN)
  simp only [putAll, Act.put, List.setIfInBounds_toArray, List.set_cons_zero, List.set_cons_succ]
  have hr : V2.heap[pr]? = some (.cells #[.int .u64 (qd + 1), .int .i64 rm] 47 (0, 0)) := HV2.out.2
  go_wp2
  have z0 := block_cell hr 0
  have z1 := block_cell hr 1
  refine bodyPost_ret (v := .tuple #[.agg #[.int .u64 (qd + 1), .int .i64 rm], .nilIface]) (by simp [results, Try.results33, go_sem, z0, z1]) rfl ⟨_, rfl, .inl ⟨rfl, rfl, rfl⟩, HV2.out.1⟩
end Go.Proofs.Ytppoloellajfhab
