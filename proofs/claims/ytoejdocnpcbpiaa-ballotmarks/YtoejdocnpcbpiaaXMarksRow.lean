import Derived.Test.YtoejdocnpcbpiaaGV
namespace Go.Proofs.Ytoejdocnpcbpiaa
open Go.ChangeShapes Go.WideShapes Go.ChangeAt Go.RowKit Go.Deep

set_option maxRecDepth 100000 in
/-- The row of BallotMarks, around a walk. -/
theorem ballotMarks_lifted (walk : ∀ (sb0 off0 : Nat) (ao0 : Option Addr) (len0 cap0 : Nat) (xs0 : List Nat) (i1 : Int) (u2 : Nat) (u3 : Nat) (u4 : Nat) (w : World), xs0.length = len0 → Us w sb0 off0 xs0 → (0 < xs0.length → ao0 = some ⟨sb0, off0, none⟩) → (0 < xs0.length → sb0 < w.heap.size) → -9223372036854775808 ≤ i1 → i1 < 9223372036854775808 → u2 < 18446744073709551616 → u3 < 18446744073709551616 → u4 < 18446744073709551616 → Calls Try.prog 3 #[.slice ao0 len0 cap0, .int .i64 i1, .int .u64 (u2 : Nat), .int .u64 (u3 : Nat), .int .u64 (u4 : Nat)] w fun e w' => e = .returned (.bool true) ∧ Below w.heap.size w w')
    (os : Os) (started : os.Started) (H : Type) (enc : TypeId × Value → H) :
    ReturnsInHanded {} Try.checked os 3 .any (Rows.ballotMarksSpec.pre6 enc Try.prog Try.f3 Rows.ballotMarksRow.domain false) (Rows.ballotMarksSpec.post enc Try.prog Try.f3 false true false false) := by
  refine returnsInHanded_of_change_sized (C := Try.checked) own started (by kernel_rfl) Try.func3
    (ChangeSpec.witness6 (enc := enc) (C := Try.checked) false ⟨#[], #[.slice none 0 0, .int .i64 0, .int .u64 0, .int .u64 0, .int .u64 0], []⟩ 8 (by kernel_rfl) (by kernel_rfl) (by kernel_rfl) (by kernel_rfl)) ?_
  intro W base args ds gs before hval0 hW hcnd hsz0 _
  have hval : ∀ (j : Nat) t v, Try.f3.params[j]? = some t → args[j]? = some v → Value.okWide Try.prog W .any base t v := hval0
  have hW' := hW
  obtain ⟨p, q, hA0, hV, rfl, hfz, hnd⟩ := hW
  have hA : DataW.TrodAll enc Try.prog W 0 (fun _ => true) true Try.f3.params.toList args.toList ds p := hA0
  rw [Try.params3] at hA hval hsz0
  obtain ⟨v0, vs0, d0, ds0, p0, q0, hargs, rfl, rfl, h0, r0⟩ := trodAll_cons hA
  obtain ⟨v1, vs1, d1, ds1, p1, q1, rfl, rfl, rfl, h1, r1⟩ := trodAll_cons r0
  obtain ⟨v2, vs2, d2, ds2, p2, q2, rfl, rfl, rfl, h2, r2⟩ := trodAll_cons r1
  obtain ⟨v3, vs3, d3, ds3, p3, q3, rfl, rfl, rfl, h3, r3⟩ := trodAll_cons r2
  obtain ⟨v4, vs4, d4, ds4, p4, q4, rfl, rfl, rfl, h4, r4⟩ := trodAll_cons r3
  obtain ⟨rfl, rfl, rfl⟩ := trodAll_nil r4
  obtain rfl : args = #[v0, v1, v2, v3, v4] := by cases args; simp_all
  obtain ⟨rfl, rfl⟩ := trodVars_none hV
  obtain ⟨ao0, len0, cap0, rfl⟩ := okWide_slice Try.underlying22 (hval 0 22 v0 rfl rfl)
  have k0 := h0
  have lt0 : ∀ x ∈ p0, x.block < W.heap.size := by obtain ⟨m, hm⟩ := k0; exact DataW.trod_lt m _ _ _ hm
  obtain ⟨sb0, off0, xs0, hn0, hF0, ha0, hb0⟩ := view_nums h0
  obtain ⟨a1, rfl, rfl, rfl, w1⟩ := open_int Try.underlying3 (hval 1 3 v1 rfl rfl) h1
  have b1 := bounds_i64 w1
  obtain ⟨a2, rfl, rfl, rfl, w2⟩ := open_int Try.underlying23 (hval 2 23 v2 rfl rfl) h2
  have b2 := bounds_u64 w2
  obtain ⟨u2, rfl⟩ := Int.eq_ofNat_of_zero_le b2.1
  obtain ⟨a3, rfl, rfl, rfl, w3⟩ := open_int Try.underlying23 (hval 3 23 v3 rfl rfl) h3
  have b3 := bounds_u64 w3
  obtain ⟨u3, rfl⟩ := Int.eq_ofNat_of_zero_le b3.1
  obtain ⟨a4, rfl, rfl, rfl, w4⟩ := open_int Try.underlying23 (hval 4 23 v4 rfl rfl) h4
  have b4 := bounds_u64 w4
  obtain ⟨u4, rfl⟩ := Int.eq_ofNat_of_zero_le b4.1
  clear hA0 hval0
  refine (walk sb0 off0 ao0 len0 cap0 xs0 a1 u2 u3 u4 W hn0 hF0 ha0 hb0 (by omega) (by omega) (by omega) (by omega) (by omega)).mono fun e W' ⟨he, bel⟩ => ?_
  subst he
  exact ⟨_, rfl, _, _, _, [], _, [], hW', trodAll_mk1 (shut_bool Try.underlying4 _), (trodAll_cons_mk (Below.trod laidOut (by kernel_rfl) (of_decide_eq_true (by kernel_rfl)) k0 bel lt0) (trodAll_cons_mk (shut_int Try.underlying3 w1) (trodAll_cons_mk (shut_int Try.underlying23 w2) (trodAll_cons_mk (shut_int Try.underlying23 w3) (trodAll_cons_mk (shut_int Try.underlying23 w4) trodAll_mk0))))), rfl, bel.frame _, fun h => by cases h⟩

set_option maxRecDepth 100000 in
theorem ballotMarks_of (walk : ∀ (sb0 off0 : Nat) (ao0 : Option Addr) (len0 cap0 : Nat) (xs0 : List Nat) (i1 : Int) (u2 : Nat) (u3 : Nat) (u4 : Nat) (w : World), xs0.length = len0 → Us w sb0 off0 xs0 → (0 < xs0.length → ao0 = some ⟨sb0, off0, none⟩) → (0 < xs0.length → sb0 < w.heap.size) → -9223372036854775808 ≤ i1 → i1 < 9223372036854775808 → u2 < 18446744073709551616 → u3 < 18446744073709551616 → u4 < 18446744073709551616 → Calls Try.prog 3 #[.slice ao0 len0 cap0, .int .i64 i1, .int .u64 (u2 : Nat), .int .u64 (u3 : Nat), .int .u64 (u4 : Nat)] w fun e w' => e = .returned (.bool true) ∧ Below w.heap.size w w') :
    Rows.ballotMarksRow.holds Try.pinned (OpenSpec.ofChange Rows.ballotMarksSpec) :=
  OpenClaim.holds_of_wide 3 Try.f3 rfl rfl rfl rfl rfl rfl rfl ⟨rfl, rfl, rfl, rfl, rfl⟩ rfl rfl rfl rfl rfl (by kernel_rfl) Try.func3 (by kernel_rfl)
    (of_decide_eq_true (by kernel_rfl)) (by unfold Func.isWrapper; first | (rw [if_pos (by decide +kernel)]; kernel_rfl) | (rw [if_neg (by decide +kernel)]; exact ⟨rfl, rfl⟩))
    (fun os started H enc _ => ballotMarks_lifted walk os started H enc)
end Go.Proofs.Ytoejdocnpcbpiaa
