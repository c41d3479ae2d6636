import Derived.Test.YthfiafjhnidlkaaBPf
import Derived.Test.YthfiafjhnidlkaaBPq
namespace Go.Proofs.Ythfiafjhnidlkaa
open Go.RowKit

set_option maxRecDepth 10000 in
set_option maxHeartbeats 800000 in
/-- made, where the configuration may not be. -/
theorem madeLaw_bad (c : Cf) (hin : c.In) (k : Nat) (hk : badOf c.oks = (k : Int)) (w : World) : Calls Try.prog 8 #[.agg c.cells] w fun e w' => e = .returned (.tuple #[.pointer none, .bool true]) ∧ Below w.heap.size w w' := by
  have HP := hide (newP_bad c hin k hk)
  have HR := hide (refNew_badP c k hk)
  unfold PNewP at HP
  unfold RNewP at HR
  obtain ⟨W1, hW1⟩ : ∃ W1, w.alloc (.cells c.cells 24) = W1 := ⟨_, rfl⟩
  have B1 : Hid (Below w.heap.size w W1) := by rw [← hW1]; exact (Below.refl _ w).alloc (Nat.le_refl _) _
  obtain ⟨pc, hpc⟩ : ∃ p, w.heap.size = p := ⟨_, rfl⟩
  have C1 : Hid (W1.heap[pc]? = some (.cells c.cells 24 (0, 0))) := by rw [← hW1, ← hpc]; exact alloc_atK _ _
  have Z : Hid (∀ W, Below W1.heap.size W1 W → W.heap[pc]? = some (.cells c.cells 24 (0, 0))) := fun W hb => (hb.block _ (block_lt C1.out)).trans C1.out
  have HC := hide (fun (W : World) (h : W.heap[pc]? = some (.cells c.cells 24 (0, 0))) => cfg_cells h)
  obtain ⟨z0, z1, z2, z3, z4, z5, z6, z7, z8, z9⟩ := HC.out W1 C1.out
  have HW1 := hide hW1
  have HPC := hide hpc
  clear hW1 hpc
  clear hin hk
  unfold Cf.cells at *
  generalize c.f = f at *
  generalize c.mb = mb at *
  generalize (c.delay : Int) = d at *
  generalize (c.win : Int) = wn at *
  generalize (c.every : Int) = ev at *
  generalize (c.beat : Int) = bt at *
  generalize (c.ep : Int) = ep at *
  generalize (c.em : Int) = em at *
  generalize (c.mn : Int) = mn at *
  generalize (c.ms : Int) = ms at *
  go_enter Try.func8, Try.ntmps8
  go_upto_region 1 with fail
  rw [HW1.out, HPC.out]
  clear HW1
  go_wp2_with fail
  refine (HP.out W1).mono ?_
  rintro e w2 ⟨a, ⟨er, rfl, G2⟩, X2⟩
  have B2 := hide G2.out.2
  have E2 := hide G2.out.1
  clear G2 z0 z1 z2 z3 z4 z5 z6 z7 z8 z9 HP
  obtain ⟨z0, z1, z2, z3, z4, z5, z6, z7, z8, z9⟩ := HC.out w2 (Z.out w2 B2.out)
  go_wp2_with fail
  refine (HR.out w2).mono ?_
  rintro e w3 ⟨b, ⟨fo, fc, rfl, G3⟩, X3⟩
  obtain ⟨_, hb3⟩ := G3.out
  have B3 := hide (B2.out.trans (hb3.mono B2.out.size))
  have BA : Hid (∀ o, Below w3.heap.size w3 (w3.alloc o)) := fun o => (Below.refl _ _).alloc (Nat.le_refl _) _
  have BF : Hid (∀ V, Below w3.heap.size w3 V → Below w.heap.size w V) := fun V h => B1.out.trans ((B3.out.trans (h.mono B3.out.size)).mono B1.out.size)
  clear z0 z1 z2 z3 z4 z5 z6 z7 z8 z9 HR
  have hx2 := X2.out
  have hx3 := X3.out
  subst hx2 hx3
  have HE : Hid (∃ ge, er = .iface 132 (.pointer (some ⟨ge, 0, none⟩))) := by
    rcases E2.out with ⟨_, h, _⟩ | ⟨⟨g, u, e, _⟩, _⟩
    · simp at h
    · exact ⟨g, e⟩
  obtain ⟨ge, rfl⟩ := HE.out
  clear HE E2 G3 X2 X3
  go_upto_region 4 with fail
  have HS4 : Hid (∀ o, Hid (Below w3.heap.size w3 (w3.alloc o).drew)) := fun o => (BA.out o).drew
  refine region_assign (fun V => Hid (Below w3.heap.size w3 V)) [(21, .pointer none), (22, .bool true), (23, .bool true), (24, .iface 132 (.pointer (some ⟨ge, 0, none⟩))), (25, .bool true), (26, .bool true), (2, .pointer none), (3, .bool true)] _ (by kernel_rfl) (by kernel_rfl) (by kernel_rfl) (by kernel_rfl) rfl (HS4.out _) ?_ (fun V1 HV1 => ?_)
  · simp only [putAll, Act.put, List.setIfInBounds_toArray, List.set_cons_zero, List.set_cons_succ]
    repeat' (first | exact AllTo.nil | refine AllTo.cons ?_ ?_)
    all_goals first
      | exact stepTo_no (by rfl) rfl
      | (refine stepTo_yes (by rfl) (fun V hV K hK => ?_)
         go_simp
         exact hK.out _ hV)
  simp only [putAll, Act.put, List.setIfInBounds_toArray, List.set_cons_zero, List.set_cons_succ]
  go_wp2
  go_ret2
  exact ⟨rfl, BF.out _ HV1.out⟩
set_option maxRecDepth 10000 in
set_option maxHeartbeats 800000 in
/-- made, where it may be. -/
theorem madeLaw_ok (c : Cf) (hin : c.In) (hk : badOf c.oks = -1) (w : World) : Calls Try.prog 8 #[.agg c.cells] w fun e w' => ∃ a, e = .returned (.tuple #[.pointer a, .bool true]) ∧ Hid (PG w' a c ∧ Below w.heap.size w w') := by
  have hok := cf_ok hk
  have HP := hide (newP_ok c hin hk)
  have HR := hide (refNew_okP c hk)
  unfold PNewP at HP
  unfold RNewP at HR
  obtain ⟨W1, hW1⟩ : ∃ W1, w.alloc (.cells c.cells 24) = W1 := ⟨_, rfl⟩
  have B1 : Hid (Below w.heap.size w W1) := by rw [← hW1]; exact (Below.refl _ w).alloc (Nat.le_refl _) _
  obtain ⟨pc, hpc⟩ : ∃ p, w.heap.size = p := ⟨_, rfl⟩
  have C1 : Hid (W1.heap[pc]? = some (.cells c.cells 24 (0, 0))) := by rw [← hW1, ← hpc]; exact alloc_atK _ _
  have Z : Hid (∀ W, Below W1.heap.size W1 W → W.heap[pc]? = some (.cells c.cells 24 (0, 0))) := fun W hb => (hb.block _ (block_lt C1.out)).trans C1.out
  have HC := hide (fun (W : World) (h : W.heap[pc]? = some (.cells c.cells 24 (0, 0))) => cfg_cells h)
  obtain ⟨z0, z1, z2, z3, z4, z5, z6, z7, z8, z9⟩ := HC.out W1 C1.out
  have HW1 := hide hW1
  have HPC := hide hpc
  clear hW1 hpc
  have HNO := hide (fun (W : World) (a : Option Addr) (h : PG W a c) => nodes_live h hok)
  have HQU := hide (fun (W : World) (a : Option Addr) (h : PG W a c) => quorum_live h hok)
  have f1 := hok.f1
  have f3 := hok.f3
  clear hin hk hok
  unfold Cf.cells at HP HR HW1 C1 Z HC ⊢
  generalize c.f = f at *
  generalize c.mb = mb at *
  generalize (c.delay : Int) = d at *
  generalize (c.win : Int) = wn at *
  generalize (c.every : Int) = ev at *
  generalize (c.beat : Int) = bt at *
  generalize (c.ep : Int) = ep at *
  generalize (c.em : Int) = em at *
  generalize (c.mn : Int) = mn at *
  generalize (c.ms : Int) = ms at *
  go_enter Try.func8, Try.ntmps8
  go_upto_region 1 with fail
  rw [HW1.out, HPC.out]
  clear HW1
  go_wp2_with fail
  refine (HP.out W1).mono ?_
  rintro e w2 ⟨a, ⟨er, rfl, G2⟩, X2⟩
  have B2 := hide G2.out.2
  have E2 := hide G2.out.1
  clear G2 z0 z1 z2 z3 z4 z5 z6 z7 z8 z9 HP
  obtain ⟨z0, z1, z2, z3, z4, z5, z6, z7, z8, z9⟩ := HC.out w2 (Z.out w2 B2.out)
  go_wp2_with fail
  refine (HR.out w2).mono ?_
  rintro e w3 ⟨b, ⟨fo, fc, rfl, G3⟩, X3⟩
  obtain ⟨_, hb3⟩ := G3.out
  have B3 := hide (B2.out.trans (hb3.mono B2.out.size))
  have BA : Hid (∀ o, Below w3.heap.size w3 (w3.alloc o)) := fun o => (Below.refl _ _).alloc (Nat.le_refl _) _
  have BF : Hid (∀ V, Below w3.heap.size w3 V → Below w.heap.size w V) := fun V h => B1.out.trans ((B3.out.trans (h.mono B3.out.size)).mono B1.out.size)
  clear z0 z1 z2 z3 z4 z5 z6 z7 z8 z9 HR
  have K2 : Hid (∀ V, Hid (Below w3.heap.size w3 V) → PG V a c) := fun V h => (X2.out.kept hb3).kept h.out
  have HE := hide E2.out
  have hn : er = .nilIface := by
    rcases E2.out with ⟨h, _⟩ | ⟨_, h, _⟩
    · exact h
    · simp at h
  subst hn
  have KC : Hid (∀ V, Hid (Below w3.heap.size w3 V) → V.cell? ⟨pc, 0, none⟩ = some (.int .i64 f)) := fun V h => (HC.out V (Z.out V (B3.out.trans (h.out.mono B3.out.size)))).1
  obtain ⟨g, rfl, _⟩ := X2.out
  obtain ⟨h, rfl, _⟩ := X3.out
  have HN2 : Hid (∀ V, Hid (Below w3.heap.size w3 V) → Calls Try.prog 32 #[.pointer (some ⟨g, 0, none⟩)] V fun e V' => e = .returned (.int .i64 (2 * f + 1)) ∧ V' = V) := fun V hb => HNO.out V _ (K2.out V hb)
  have HQ2 : Hid (∀ V, Hid (Below w3.heap.size w3 V) → Calls Try.prog 33 #[.pointer (some ⟨g, 0, none⟩)] V fun e V' => e = .returned (.int .i64 (f + 1)) ∧ V' = V) := fun V hb => HQU.out V _ (K2.out V hb)
  clear HE E2 G3 X2 X3 hb3 HNO HQU HC Z
  have e1 : IntKind.i64.wrap (2 * f) = 2 * f := by simp [IntKind.wrap, IntKind.bits, IntKind.signed]; omega
  have e2 : IntKind.i64.wrap (2 * f + 1) = 2 * f + 1 := by simp [IntKind.wrap, IntKind.bits, IntKind.signed]; omega
  have e3 : IntKind.i64.wrap (f + 1) = f + 1 := by simp [IntKind.wrap, IntKind.bits, IntKind.signed]; omega
  go_upto_region 7 with fail
  have HS4 : Hid (∀ o, Hid (Below w3.heap.size w3 (w3.alloc o).drew)) := fun o => (BA.out o).drew
  refine region_assign (fun V => Hid (Below w3.heap.size w3 V)) [(33, .pointer (some ⟨g, 0, none⟩)), (34, .pointer (some ⟨g, 0, none⟩)), (35, .int .i64 (2 * f + 1)), (36, .pointer (some ⟨pc, 0, none⟩)), (37, .int .i64 f), (38, .int .i64 (2 * f)), (39, .int .i64 (2 * f + 1)), (40, .bool true), (41, .bool true), (42, .pointer (some ⟨g, 0, none⟩)), (43, .int .i64 (f + 1)), (44, .pointer (some ⟨pc, 0, none⟩)), (45, .int .i64 f), (46, .int .i64 (f + 1)), (47, .bool true), (48, .bool true), (2, .pointer (some ⟨g, 0, none⟩)), (3, .bool true)] _ (by kernel_rfl) (by kernel_rfl) (by kernel_rfl) (by kernel_rfl) rfl (HS4.out _) ?_ (fun V1 HV1 => ?_)
  · simp only [putAll, Act.put, List.setIfInBounds_toArray, List.set_cons_zero, List.set_cons_succ]
    repeat' (first | exact AllTo.nil | refine AllTo.cons ?_ ?_)
    all_goals first
      | exact stepTo_no (by rfl) rfl
      | (refine stepTo_yes (by rfl) (fun V hV K hK => ?_)
         have r0 := KC.out V hV
         go_simp
         first
           | exact hK.out _ hV
           | (go_at_call 32; refine (HN2.out _ hV).mono ?_; rintro e V' ⟨rfl, rfl⟩; exact hK.out _ hV)
           | (go_at_call 33; refine (HQ2.out _ hV).mono ?_; rintro e V' ⟨rfl, rfl⟩; exact hK.out _ hV))
  simp only [putAll, Act.put, List.setIfInBounds_toArray, List.set_cons_zero, List.set_cons_succ]
  go_wp2
  go_ret2
  exact ⟨_, rfl, K2.out _ HV1, BF.out _ HV1.out⟩
end Go.Proofs.Ythfiafjhnidlkaa
