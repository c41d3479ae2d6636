import Derived.Test.YtneginefcloceaaBSk
import Derived.Test.YtneginefcloceaaRows
import Derived.ProofKit
import Derived.OpenShut
import Derived.ChangeOld
import Derived.Below
import Derived.SizedLaws
import Derived.Deep.Slices
namespace Go.Proofs.Ytneginefcloceaa
open Go.ChangeShapes Go.WideShapes Go.ChangeAt Go.RowKit Go.Deep

theorem own : ownKnob Try.prog.godebug = none := by kernel_rfl
theorem laidOut : laidOutB Try.prog = true := by kernel_rfl
theorem cellsInt : Try.prog.cellsOf 3 = 1 := by kernel_rfl
theorem cellsU64 : Try.prog.cellsOf 25 = 1 := by kernel_rfl
theorem cellsCfg : Try.prog.cellsOf 42 = 10 := by kernel_rfl
theorem cellsBal : Try.prog.cellsOf 27 = 2 := by kernel_rfl
theorem list10 {α : Type} {l : List α} (h : l.length = 10) : ∃ a b c d e f g k m n, l = [a, b, c, d, e, f, g, k, m, n] := by
  match l, h with
  | [a, b, c, d, e, f, g, k, m, n], _ => exact ⟨a, b, c, d, e, f, g, k, m, n, rfl⟩
theorem list2 {α : Type} {l : List α} (h : l.length = 2) : ∃ a b, l = [a, b] := by
  match l, h with
  | [a, b], _ => exact ⟨a, b, rfl⟩
/-- The configuration that came in. -/
theorem view_cfg {H : Type} {enc : TypeId × Value → H} {W : World} {cs : Array Value} {d : DataW H} {p : List MemPlace}
    (h : DataW.Trod enc Try.prog W 0 (fun _ => true) true 42 (.agg cs) d p) : ∃ c : Cf, cs = c.cells ∧ c.In := by
  obtain ⟨fuel, hf0⟩ := h
  obtain ⟨xs, n, _, hx, hl, hlen, hf⟩ := DataW.trod_struct Try.underlying42 hf0
  clear hf0 hx
  rw [cellsCfg] at hl
  have hlen : xs.length = 10 := hlen
  obtain ⟨y0, y1, y2, y3, y4, y5, y6, y7, y8, y9, rfl⟩ := list10 hlen
  obtain ⟨L, hL⟩ : ∃ L : List Value, (Value.agg cs).cells.toList = L := ⟨_, rfl⟩
  have hcs : cs.toList = L := hL
  have hl : L.length = 10 := by rw [← hL]; exact hl
  rw [hL] at hf
  obtain ⟨c0, c1, c2, c3, c4, c5, c6, c7, c8, c9, rfl⟩ := list10 hl
  have e0 : DataW.trod enc Try.prog W 0 (fun _ => true) true n 3 (List.take (Try.prog.cellsOf 3) [c0, c1, c2, c3, c4, c5, c6, c7, c8, c9]) = some y0 := hf 0 _ rfl
  rw [cellsInt] at e0
  have e1 : DataW.trod enc Try.prog W 0 (fun _ => true) true n 3 (List.take (Try.prog.cellsOf 3) [c1, c2, c3, c4, c5, c6, c7, c8, c9]) = some y1 := hf 1 _ rfl
  rw [cellsInt] at e1
  have e2 : DataW.trod enc Try.prog W 0 (fun _ => true) true n 25 (List.take (Try.prog.cellsOf 25) [c2, c3, c4, c5, c6, c7, c8, c9]) = some y2 := hf 2 _ rfl
  rw [cellsU64] at e2
  have e3 : DataW.trod enc Try.prog W 0 (fun _ => true) true n 25 (List.take (Try.prog.cellsOf 25) [c3, c4, c5, c6, c7, c8, c9]) = some y3 := hf 3 _ rfl
  rw [cellsU64] at e3
  have e4 : DataW.trod enc Try.prog W 0 (fun _ => true) true n 25 (List.take (Try.prog.cellsOf 25) [c4, c5, c6, c7, c8, c9]) = some y4 := hf 4 _ rfl
  rw [cellsU64] at e4
  have e5 : DataW.trod enc Try.prog W 0 (fun _ => true) true n 25 (List.take (Try.prog.cellsOf 25) [c5, c6, c7, c8, c9]) = some y5 := hf 5 _ rfl
  rw [cellsU64] at e5
  have e6 : DataW.trod enc Try.prog W 0 (fun _ => true) true n 25 (List.take (Try.prog.cellsOf 25) [c6, c7, c8, c9]) = some y6 := hf 6 _ rfl
  rw [cellsU64] at e6
  have e7 : DataW.trod enc Try.prog W 0 (fun _ => true) true n 25 (List.take (Try.prog.cellsOf 25) [c7, c8, c9]) = some y7 := hf 7 _ rfl
  rw [cellsU64] at e7
  have e8 : DataW.trod enc Try.prog W 0 (fun _ => true) true n 25 (List.take (Try.prog.cellsOf 25) [c8, c9]) = some y8 := hf 8 _ rfl
  rw [cellsU64] at e8
  have e9 : DataW.trod enc Try.prog W 0 (fun _ => true) true n 25 (List.take (Try.prog.cellsOf 25) [c9]) = some y9 := hf 9 _ rfl
  rw [cellsU64] at e9
  obtain ⟨s0, k0, _, w0⟩ := DataW.trod_int Try.underlying3 e0
  obtain ⟨s1, k1, _, w1⟩ := DataW.trod_int Try.underlying3 e1
  obtain ⟨s2, k2, _, w2⟩ := DataW.trod_int Try.underlying25 e2
  obtain ⟨s3, k3, _, w3⟩ := DataW.trod_int Try.underlying25 e3
  obtain ⟨s4, k4, _, w4⟩ := DataW.trod_int Try.underlying25 e4
  obtain ⟨s5, k5, _, w5⟩ := DataW.trod_int Try.underlying25 e5
  obtain ⟨s6, k6, _, w6⟩ := DataW.trod_int Try.underlying25 e6
  obtain ⟨s7, k7, _, w7⟩ := DataW.trod_int Try.underlying25 e7
  obtain ⟨s8, k8, _, w8⟩ := DataW.trod_int Try.underlying25 e8
  obtain ⟨s9, k9, _, w9⟩ := DataW.trod_int Try.underlying25 e9
  have b0 := bounds_i64 w0
  have b1 := bounds_i64 w1
  have b2 := bounds_u64 w2
  have b3 := bounds_u64 w3
  have b4 := bounds_u64 w4
  have b5 := bounds_u64 w5
  have b6 := bounds_u64 w6
  have b7 := bounds_u64 w7
  have b8 := bounds_u64 w8
  have b9 := bounds_u64 w9
  clear e0 e1 e2 e3 e4 e5 e6 e7 e8 e9
  simp only [List.take, List.cons.injEq, and_true] at k0 k1 k2 k3 k4 k5 k6 k7 k8 k9
  subst k0 k1 k2 k3 k4 k5 k6 k7 k8 k9
  obtain ⟨n2, rfl⟩ := Int.eq_ofNat_of_zero_le b2.1
  obtain ⟨n3, rfl⟩ := Int.eq_ofNat_of_zero_le b3.1
  obtain ⟨n4, rfl⟩ := Int.eq_ofNat_of_zero_le b4.1
  obtain ⟨n5, rfl⟩ := Int.eq_ofNat_of_zero_le b5.1
  obtain ⟨n6, rfl⟩ := Int.eq_ofNat_of_zero_le b6.1
  obtain ⟨n7, rfl⟩ := Int.eq_ofNat_of_zero_le b7.1
  obtain ⟨n8, rfl⟩ := Int.eq_ofNat_of_zero_le b8.1
  obtain ⟨n9, rfl⟩ := Int.eq_ofNat_of_zero_le b9.1
  refine ⟨⟨s0, s1, n2, n3, n4, n5, n6, n7, n8, n9⟩, ?_, ⟨by simp only; omega, by simp only; omega, by simp only; omega, by simp only; omega, by simp only; omega, by simp only; omega, by simp only; omega⟩⟩
  apply Array.ext'
  rw [hcs]
  rfl
/-- A ballot that came in. -/
theorem view_bal {H : Type} {enc : TypeId × Value → H} {W : World} {cs : Array Value} {d : DataW H} {p : List MemPlace}
    (h : DataW.Trod enc Try.prog W 0 (fun _ => true) true 27 (.agg cs) d p) : ∃ (n : Nat) (m : Int), cs = #[.int .u64 (n : Nat), .int .i64 m] ∧ n < 18446744073709551616 ∧ -9223372036854775808 ≤ m ∧ m < 9223372036854775808 := by
  obtain ⟨fuel, hf0⟩ := h
  obtain ⟨xs, n, _, hx, hl, hlen, hf⟩ := DataW.trod_struct Try.underlying27 hf0
  clear hf0 hx
  rw [cellsBal] at hl
  have hlen : xs.length = 2 := hlen
  obtain ⟨y0, y1, rfl⟩ := list2 hlen
  obtain ⟨L, hL⟩ : ∃ L : List Value, (Value.agg cs).cells.toList = L := ⟨_, rfl⟩
  have hcs : cs.toList = L := hL
  have hl : L.length = 2 := by rw [← hL]; exact hl
  rw [hL] at hf
  obtain ⟨c0, c1, rfl⟩ := list2 hl
  have e0 : DataW.trod enc Try.prog W 0 (fun _ => true) true n 25 (List.take (Try.prog.cellsOf 25) [c0, c1]) = some y0 := hf 0 _ rfl
  rw [cellsU64] at e0
  have e1 : DataW.trod enc Try.prog W 0 (fun _ => true) true n 3 (List.take (Try.prog.cellsOf 3) [c1]) = some y1 := hf 1 _ rfl
  rw [cellsInt] at e1
  obtain ⟨s0, k0, _, w0⟩ := DataW.trod_int Try.underlying25 e0
  obtain ⟨s1, k1, _, w1⟩ := DataW.trod_int Try.underlying3 e1
  have b0 := bounds_u64 w0
  have b1 := bounds_i64 w1
  clear e0 e1
  simp only [List.take, List.cons.injEq, and_true] at k0 k1
  subst k0 k1
  obtain ⟨n0, rfl⟩ := Int.eq_ofNat_of_zero_le b0.1
  refine ⟨n0, s1, ?_, by omega, by omega, by omega⟩
  apply Array.ext'
  rw [hcs]
end Go.Proofs.Ytneginefcloceaa
