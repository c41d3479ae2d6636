import Derived.Test.YtnpekdkfjjeeeaaMV
namespace Go.Proofs.Ytnpekdkfjjeeeaa
open Go.ChangeShapes Go.WideShapes Go.ChangeAt Go.RowKit Go.Deep

set_option maxRecDepth 100000 in
/-- The row of LearnerStays, around a walk. -/
theorem learnerStays_lifted (walk : ∀ (c0 : Cf) (u1 : Nat) (sb2 off2 : Nat) (ao2 : Option Addr) (len2 cap2 : Nat) (fs2 : List Wo) (u3 : Nat) (sb4 off4 : Nat) (ao4 : Option Addr) (len4 cap4 : Nat) (fs4 : List Wo) (w : World), c0.In → u1 < 18446744073709551616 → fs2.length = len2 → len2 ≤ cap2 → Wos w.heap.size w ao2 fs2 sb2 off2 → u3 < 18446744073709551616 → fs4.length = len4 → len4 ≤ cap4 → Wos w.heap.size w ao4 fs4 sb4 off4 → Calls Try.prog 3 #[.agg c0.cells, .int .u64 (u1 : Nat), .slice ao2 len2 cap2, .int .u64 (u3 : Nat), .slice ao4 len4 cap4] w fun e w' => e = .returned (.bool true) ∧ Below w.heap.size w w')
    (os : Os) (started : os.Started) (H : Type) (enc : TypeId × Value → H) :
    ReturnsInHanded {} Try.checked os 3 .any (Rows.learnerStaysSpec.pre6 enc Try.prog Try.f3 Rows.learnerStaysRow.domain false) (Rows.learnerStaysSpec.post enc Try.prog Try.f3 false true false false) := by
  refine returnsInHanded_of_change_sized (C := Try.checked) own started (by kernel_rfl) Try.func3
    (ChangeSpec.witness6 (enc := enc) (C := Try.checked) false ⟨#[], #[.agg #[.int .i64 0, .int .i64 0, .int .u64 0, .int .u64 0, .int .u64 0, .int .u64 0, .int .u64 0, .int .u64 0, .int .u64 0, .int .u64 0], .int .u64 0, .slice none 0 0, .int .u64 0, .slice none 0 0], []⟩ 8 (by kernel_rfl) (by kernel_rfl) (by kernel_rfl) (by kernel_rfl)) ?_
  intro W base args ds gs before hval0 hW hcnd hsz0 _
  have hval : ∀ (j : Nat) t v, Try.f3.params[j]? = some t → args[j]? = some v → Value.okWide Try.prog W .any base t v := hval0
  have hW' := hW
  obtain ⟨p, q, hA0, hV, rfl, hfz, hnd⟩ := hW
  have hA : DataW.TrodAll enc Try.prog W 0 (fun _ => true) true Try.f3.params.toList args.toList ds p := hA0
  rw [Try.params3] at hA hval hsz0
  obtain ⟨v0, vs0, d0, ds0, p0, q0, hargs, rfl, rfl, h0, r0⟩ := trodAll_cons hA
  obtain ⟨v1, vs1, d1, ds1, p1, q1, rfl, rfl, rfl, h1, r1⟩ := trodAll_cons r0
  obtain ⟨v2, vs2, d2, ds2, p2, q2, rfl, rfl, rfl, h2, r2⟩ := trodAll_cons r1
  obtain ⟨v3, vs3, d3, ds3, p3, q3, rfl, rfl, rfl, h3, r3⟩ := trodAll_cons r2
  obtain ⟨v4, vs4, d4, ds4, p4, q4, rfl, rfl, rfl, h4, r4⟩ := trodAll_cons r3
  obtain ⟨rfl, rfl, rfl⟩ := trodAll_nil r4
  obtain rfl : args = #[v0, v1, v2, v3, v4] := by cases args; simp_all
  obtain ⟨rfl, rfl⟩ := trodVars_none hV
  obtain ⟨cs0, rfl, _⟩ := okWide_struct Try.underlying24 (hval 0 24 v0 rfl rfl)
  have k0 := h0
  have lt0 : ∀ x ∈ p0, x.block < W.heap.size := by obtain ⟨m, hm⟩ := k0; exact DataW.trod_lt m _ _ _ hm
  obtain ⟨c0, rfl, hc0⟩ := view_cfg h0
  obtain ⟨a1, rfl, rfl, rfl, w1⟩ := open_int Try.underlying22 (hval 1 22 v1 rfl rfl) h1
  have b1 := bounds_u64 w1
  obtain ⟨u1, rfl⟩ := Int.eq_ofNat_of_zero_le b1.1
  obtain ⟨ao2, len2, cap2, rfl⟩ := okWide_slice Try.underlying25 (hval 2 25 v2 rfl rfl)
  have k2 := h2
  have lt2 : ∀ x ∈ p2, x.block < W.heap.size := by obtain ⟨m, hm⟩ := k2; exact DataW.trod_lt m _ _ _ hm
  obtain ⟨sb2, off2, fs2, hn2, hc2, hF2⟩ := view_wos h2 (fun n hn => by
    have := List.all_eq_true.1 hsz0 n (DataW.weights_mem_each (j := 2) (t := 25) (d := d2) rfl rfl n hn)
    simpa using this)
  obtain ⟨a3, rfl, rfl, rfl, w3⟩ := open_int Try.underlying22 (hval 3 22 v3 rfl rfl) h3
  have b3 := bounds_u64 w3
  obtain ⟨u3, rfl⟩ := Int.eq_ofNat_of_zero_le b3.1
  obtain ⟨ao4, len4, cap4, rfl⟩ := okWide_slice Try.underlying25 (hval 4 25 v4 rfl rfl)
  have k4 := h4
  have lt4 : ∀ x ∈ p4, x.block < W.heap.size := by obtain ⟨m, hm⟩ := k4; exact DataW.trod_lt m _ _ _ hm
  obtain ⟨sb4, off4, fs4, hn4, hc4, hF4⟩ := view_wos h4 (fun n hn => by
    have := List.all_eq_true.1 hsz0 n (DataW.weights_mem_each (j := 4) (t := 25) (d := d4) rfl rfl n hn)
    simpa using this)
  clear hA0 hval0
  refine (walk c0 u1 sb2 off2 ao2 len2 cap2 fs2 u3 sb4 off4 ao4 len4 cap4 fs4 W hc0 (by omega) hn2 hc2 hF2 (by omega) hn4 hc4 hF4).mono fun e W' ⟨he, bel⟩ => ?_
  subst he
  exact ⟨_, rfl, _, _, _, [], _, [], hW', trodAll_mk1 (shut_bool Try.underlying4 _), (trodAll_cons_mk (Below.trod laidOut (by kernel_rfl) (of_decide_eq_true (by kernel_rfl)) k0 bel lt0) (trodAll_cons_mk (shut_int Try.underlying22 w1) (trodAll_cons_mk (Below.trod laidOut (by kernel_rfl) (of_decide_eq_true (by kernel_rfl)) k2 bel lt2) (trodAll_cons_mk (shut_int Try.underlying22 w3) (trodAll_cons_mk (Below.trod laidOut (by kernel_rfl) (of_decide_eq_true (by kernel_rfl)) k4 bel lt4) trodAll_mk0))))), rfl, bel.frame _, fun h => by cases h⟩

set_option maxRecDepth 100000 in
theorem learnerStays_of (walk : ∀ (c0 : Cf) (u1 : Nat) (sb2 off2 : Nat) (ao2 : Option Addr) (len2 cap2 : Nat) (fs2 : List Wo) (u3 : Nat) (sb4 off4 : Nat) (ao4 : Option Addr) (len4 cap4 : Nat) (fs4 : List Wo) (w : World), c0.In → u1 < 18446744073709551616 → fs2.length = len2 → len2 ≤ cap2 → Wos w.heap.size w ao2 fs2 sb2 off2 → u3 < 18446744073709551616 → fs4.length = len4 → len4 ≤ cap4 → Wos w.heap.size w ao4 fs4 sb4 off4 → Calls Try.prog 3 #[.agg c0.cells, .int .u64 (u1 : Nat), .slice ao2 len2 cap2, .int .u64 (u3 : Nat), .slice ao4 len4 cap4] w fun e w' => e = .returned (.bool true) ∧ Below w.heap.size w w') :
    Rows.learnerStaysRow.holds Try.pinned (OpenSpec.ofChange Rows.learnerStaysSpec) :=
  OpenClaim.holds_of_wide 3 Try.f3 rfl rfl rfl rfl rfl rfl rfl ⟨rfl, rfl, rfl, rfl, rfl⟩ rfl rfl rfl rfl rfl (by kernel_rfl) Try.func3 (by kernel_rfl)
    (of_decide_eq_true (by kernel_rfl)) (by unfold Func.isWrapper; first | (rw [if_pos (by decide +kernel)]; kernel_rfl) | (rw [if_neg (by decide +kernel)]; exact ⟨rfl, rfl⟩))
    (fun os started H enc _ => learnerStays_lifted walk os started H enc)
end Go.Proofs.Ytnpekdkfjjeeeaa
