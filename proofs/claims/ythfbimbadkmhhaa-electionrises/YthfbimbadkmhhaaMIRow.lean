import Derived.Test.YthfbimbadkmhhaaMIN
import Derived.Test.YthfbimbadkmhhaaMIP
namespace Go.Proofs.Ythfbimbadkmhhaa
open Go.ChangeShapes Go.WideShapes Go.ChangeAt Go.RowKit Go.Deep

/-- The script that came in. -/
theorem view_ops {H : Type} {enc : TypeId × Value → H} {W : World} {ao : Option Addr} {len cap : Nat} {d : DataW H} {p : List MemPlace}
    (h : DataW.Trod enc Try.prog W 0 (fun _ => true) true 23 (.slice ao len cap) d p) (hr : ∀ n ∈ d.weights Try.prog 23, n ≤ reachBytes) :
    ∃ (b off : Nat), OpsL W ao len b off := by
  obtain ⟨b, off, h1, h2, h3, h4⟩ := view_opsR h hr
  exact ⟨b, off, ⟨h1, h2, h3, h4⟩⟩
set_option maxRecDepth 100000 in
/-- The row of ElectionRises, around a walk. -/
theorem electionRises_lifted (walk : ∀ (i0 : Int) (u1 : Nat) (u2 : Nat) (sb3 off3 : Nat) (ao3 : Option Addr) (len3 cap3 : Nat) (w : World), -9223372036854775808 ≤ i0 → i0 < 9223372036854775808 → u1 < 18446744073709551616 → u2 < 18446744073709551616 → OpsL w ao3 len3 sb3 off3 → Calls Try.prog 3 #[.int .i64 i0, .int .u64 (u1 : Nat), .int .u64 (u2 : Nat), .slice ao3 len3 cap3] w fun e w' => e = .returned (.bool true) ∧ Below w.heap.size w w')
    (os : Os) (started : os.Started) (H : Type) (enc : TypeId × Value → H) :
    ReturnsInHanded {} Try.checked os 3 .any (Rows.electionRisesSpec.pre6 enc Try.prog Try.f3 Rows.electionRisesRow.domain false) (Rows.electionRisesSpec.post enc Try.prog Try.f3 false true false false) := by
  refine returnsInHanded_of_change_sized (C := Try.checked) own started (by kernel_rfl) Try.func3
    (ChangeSpec.witness6 (enc := enc) (C := Try.checked) false ⟨#[], #[.int .i64 0, .int .u64 0, .int .u64 0, .slice none 0 0], []⟩ 8 (by kernel_rfl) (by kernel_rfl) (by kernel_rfl) (by kernel_rfl)) ?_
  intro W base args ds gs before hval0 hW hcnd hsz0 _
  have hval : ∀ (j : Nat) t v, Try.f3.params[j]? = some t → args[j]? = some v → Value.okWide Try.prog W .any base t v := hval0
  have hW' := hW
  obtain ⟨p, q, hA0, hV, rfl, hfz, hnd⟩ := hW
  have hA : DataW.TrodAll enc Try.prog W 0 (fun _ => true) true Try.f3.params.toList args.toList ds p := hA0
  rw [Try.params3] at hA hval hsz0
  obtain ⟨v0, vs0, d0, ds0, p0, q0, hargs, rfl, rfl, h0, r0⟩ := trodAll_cons hA
  obtain ⟨v1, vs1, d1, ds1, p1, q1, rfl, rfl, rfl, h1, r1⟩ := trodAll_cons r0
  obtain ⟨v2, vs2, d2, ds2, p2, q2, rfl, rfl, rfl, h2, r2⟩ := trodAll_cons r1
  obtain ⟨v3, vs3, d3, ds3, p3, q3, rfl, rfl, rfl, h3, r3⟩ := trodAll_cons r2
  obtain ⟨rfl, rfl, rfl⟩ := trodAll_nil r3
  obtain rfl : args = #[v0, v1, v2, v3] := by cases args; simp_all
  obtain ⟨rfl, rfl⟩ := trodVars_none hV
  obtain ⟨a0, rfl, rfl, rfl, w0⟩ := open_int Try.underlying3 (hval 0 3 v0 rfl rfl) h0
  have b0 := bounds_i64 w0
  obtain ⟨a1, rfl, rfl, rfl, w1⟩ := open_int Try.underlying22 (hval 1 22 v1 rfl rfl) h1
  have b1 := bounds_u64 w1
  obtain ⟨u1, rfl⟩ := Int.eq_ofNat_of_zero_le b1.1
  obtain ⟨a2, rfl, rfl, rfl, w2⟩ := open_int Try.underlying22 (hval 2 22 v2 rfl rfl) h2
  have b2 := bounds_u64 w2
  obtain ⟨u2, rfl⟩ := Int.eq_ofNat_of_zero_le b2.1
  obtain ⟨ao3, len3, cap3, rfl⟩ := okWide_slice Try.underlying23 (hval 3 23 v3 rfl rfl)
  have k3 := h3
  have lt3 : ∀ x ∈ p3, x.block < W.heap.size := by obtain ⟨m, hm⟩ := k3; exact DataW.trod_lt m _ _ _ hm
  obtain ⟨sb3, off3, hF3⟩ := view_ops h3 (fun n hn => by
    have := List.all_eq_true.1 hsz0 n (DataW.weights_mem_each (j := 3) (t := 23) (d := d3) rfl rfl n hn)
    simpa using this)
  clear hA0 hval0
  refine (walk a0 u1 u2 sb3 off3 ao3 len3 cap3 W (by omega) (by omega) (by omega) (by omega) hF3).mono fun e W' ⟨he, bel⟩ => ?_
  subst he
  exact ⟨_, rfl, _, _, _, [], _, [], hW', trodAll_mk1 (shut_bool Try.underlying4 _), (trodAll_cons_mk (shut_int Try.underlying3 w0) (trodAll_cons_mk (shut_int Try.underlying22 w1) (trodAll_cons_mk (shut_int Try.underlying22 w2) (trodAll_cons_mk (Below.trod laidOut (by kernel_rfl) (of_decide_eq_true (by kernel_rfl)) k3 bel lt3) trodAll_mk0)))), rfl, bel.frame _, fun h => by cases h⟩

set_option maxRecDepth 100000 in
theorem electionRises_of (walk : ∀ (i0 : Int) (u1 : Nat) (u2 : Nat) (sb3 off3 : Nat) (ao3 : Option Addr) (len3 cap3 : Nat) (w : World), -9223372036854775808 ≤ i0 → i0 < 9223372036854775808 → u1 < 18446744073709551616 → u2 < 18446744073709551616 → OpsL w ao3 len3 sb3 off3 → Calls Try.prog 3 #[.int .i64 i0, .int .u64 (u1 : Nat), .int .u64 (u2 : Nat), .slice ao3 len3 cap3] w fun e w' => e = .returned (.bool true) ∧ Below w.heap.size w w') :
    Rows.electionRisesRow.holds Try.pinned (OpenSpec.ofChange Rows.electionRisesSpec) :=
  OpenClaim.holds_of_wide 3 Try.f3 rfl rfl rfl rfl rfl rfl rfl ⟨rfl, rfl, rfl, rfl, rfl⟩ rfl rfl rfl rfl rfl (by kernel_rfl) Try.func3 (by kernel_rfl)
    (of_decide_eq_true (by kernel_rfl)) (by unfold Func.isWrapper; first | (rw [if_pos (by decide +kernel)]; kernel_rfl) | (rw [if_neg (by decide +kernel)]; exact ⟨rfl, rfl⟩))
    (fun os started H enc _ => electionRises_lifted walk os started H enc)
end Go.Proofs.Ythfbimbadkmhhaa
