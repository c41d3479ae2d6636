import Derived.Test.YtojknconkmplkaaMC
import Derived.Test.YtojknconkmplkaaRows
import Derived.ProofKit
import Derived.OpenShut
import Derived.ChangeOld
import Derived.Below
import Derived.SizedLaws
import Derived.Deep.Slices
namespace Go.Proofs.Ytojknconkmplkaa
open Go.ChangeShapes Go.WideShapes Go.ChangeAt Go.RowKit Go.Deep

theorem own : ownKnob Try.prog.godebug = none := by kernel_rfl
theorem laidOut : laidOutB Try.prog = true := by kernel_rfl
theorem cellsInt : Try.prog.cellsOf 3 = 1 := by kernel_rfl
theorem cellsU64 : Try.prog.cellsOf 22 = 1 := by kernel_rfl
theorem cellsCfg : Try.prog.cellsOf 24 = 10 := by kernel_rfl
theorem cellsBal : Try.prog.cellsOf 39 = 2 := by kernel_rfl
theorem list10 {α : Type} {l : List α} (h : l.length = 10) : ∃ a b c d e f g k m n, l = [a, b, c, d, e, f, g, k, m, n] := by
  match l, h with
  | [a, b, c, d, e, f, g, k, m, n], _ => exact ⟨a, b, c, d, e, f, g, k, m, n, rfl⟩
theorem list2 {α : Type} {l : List α} (h : l.length = 2) : ∃ a b, l = [a, b] := by
  match l, h with
  | [a, b], _ => exact ⟨a, b, rfl⟩
/-- The configuration that came in. -/
theorem view_cfg {H : Type} {enc : TypeId × Value → H} {W : World} {cs : Array Value} {d : DataW H} {p : List MemPlace}
    (h : DataW.Trod enc Try.prog W 0 (fun _ => true) true 24 (.agg cs) d p) : ∃ c : Cf, cs = c.cells ∧ c.In := by
  obtain ⟨fuel, hf0⟩ := h
  obtain ⟨xs, n, _, hx, hl, hlen, hf⟩ := DataW.trod_struct Try.underlying24 hf0
  clear hf0 hx
  rw [cellsCfg] at hl
  have hlen : xs.length = 10 := hlen
  obtain ⟨y0, y1, y2, y3, y4, y5, y6, y7, y8, y9, rfl⟩ := list10 hlen
  obtain ⟨L, hL⟩ : ∃ L : List Value, (Value.agg cs).cells.toList = L := ⟨_, rfl⟩
  have hcs : cs.toList = L := hL
  have hl : L.length = 10 := by rw [← hL]; exact hl
  rw [hL] at hf
  obtain ⟨c0, c1, c2, c3, c4, c5, c6, c7, c8, c9, rfl⟩ := list10 hl
  have e0 : DataW.trod enc Try.prog W 0 (fun _ => true) true n 3 (List.take (Try.prog.cellsOf 3) [c0, c1, c2, c3, c4, c5, c6, c7, c8, c9]) = some y0 := hf 0 _ rfl
  rw [cellsInt] at e0
  have e1 : DataW.trod enc Try.prog W 0 (fun _ => true) true n 3 (List.take (Try.prog.cellsOf 3) [c1, c2, c3, c4, c5, c6, c7, c8, c9]) = some y1 := hf 1 _ rfl
  rw [cellsInt] at e1
  have e2 : DataW.trod enc Try.prog W 0 (fun _ => true) true n 22 (List.take (Try.prog.cellsOf 22) [c2, c3, c4, c5, c6, c7, c8, c9]) = some y2 := hf 2 _ rfl
  rw [cellsU64] at e2
  have e3 : DataW.trod enc Try.prog W 0 (fun _ => true) true n 22 (List.take (Try.prog.cellsOf 22) [c3, c4, c5, c6, c7, c8, c9]) = some y3 := hf 3 _ rfl
  rw [cellsU64] at e3
  have e4 : DataW.trod enc Try.prog W 0 (fun _ => true) true n 22 (List.take (Try.prog.cellsOf 22) [c4, c5, c6, c7, c8, c9]) = some y4 := hf 4 _ rfl
  rw [cellsU64] at e4
  have e5 : DataW.trod enc Try.prog W 0 (fun _ => true) true n 22 (List.take (Try.prog.cellsOf 22) [c5, c6, c7, c8, c9]) = some y5 := hf 5 _ rfl
  rw [cellsU64] at e5
  have e6 : DataW.trod enc Try.prog W 0 (fun _ => true) true n 22 (List.take (Try.prog.cellsOf 22) [c6, c7, c8, c9]) = some y6 := hf 6 _ rfl
  rw [cellsU64] at e6
  have e7 : DataW.trod enc Try.prog W 0 (fun _ => true) true n 22 (List.take (Try.prog.cellsOf 22) [c7, c8, c9]) = some y7 := hf 7 _ rfl
  rw [cellsU64] at e7
  have e8 : DataW.trod enc Try.prog W 0 (fun _ => true) true n 22 (List.take (Try.prog.cellsOf 22) [c8, c9]) = some y8 := hf 8 _ rfl
  rw [cellsU64] at e8
  have e9 : DataW.trod enc Try.prog W 0 (fun _ => true) true n 22 (List.take (Try.prog.cellsOf 22) [c9]) = some y9 := hf 9 _ rfl
  rw [cellsU64] at e9
  obtain ⟨s0, k0, _, w0⟩ := DataW.trod_int Try.underlying3 e0
  obtain ⟨s1, k1, _, w1⟩ := DataW.trod_int Try.underlying3 e1
  obtain ⟨s2, k2, _, w2⟩ := DataW.trod_int Try.underlying22 e2
  obtain ⟨s3, k3, _, w3⟩ := DataW.trod_int Try.underlying22 e3
  obtain ⟨s4, k4, _, w4⟩ := DataW.trod_int Try.underlying22 e4
  obtain ⟨s5, k5, _, w5⟩ := DataW.trod_int Try.underlying22 e5
  obtain ⟨s6, k6, _, w6⟩ := DataW.trod_int Try.underlying22 e6
  obtain ⟨s7, k7, _, w7⟩ := DataW.trod_int Try.underlying22 e7
  obtain ⟨s8, k8, _, w8⟩ := DataW.trod_int Try.underlying22 e8
  obtain ⟨s9, k9, _, w9⟩ := DataW.trod_int Try.underlying22 e9
  have b0 := bounds_i64 w0
  have b1 := bounds_i64 w1
  have b2 := bounds_u64 w2
  have b3 := bounds_u64 w3
  have b4 := bounds_u64 w4
  have b5 := bounds_u64 w5
  have b6 := bounds_u64 w6
  have b7 := bounds_u64 w7
  have b8 := bounds_u64 w8
  have b9 := bounds_u64 w9
  clear e0 e1 e2 e3 e4 e5 e6 e7 e8 e9
  simp only [List.take, List.cons.injEq, and_true] at k0 k1 k2 k3 k4 k5 k6 k7 k8 k9
  subst k0 k1 k2 k3 k4 k5 k6 k7 k8 k9
  obtain ⟨n2, rfl⟩ := Int.eq_ofNat_of_zero_le b2.1
  obtain ⟨n3, rfl⟩ := Int.eq_ofNat_of_zero_le b3.1
  obtain ⟨n4, rfl⟩ := Int.eq_ofNat_of_zero_le b4.1
  obtain ⟨n5, rfl⟩ := Int.eq_ofNat_of_zero_le b5.1
  obtain ⟨n6, rfl⟩ := Int.eq_ofNat_of_zero_le b6.1
  obtain ⟨n7, rfl⟩ := Int.eq_ofNat_of_zero_le b7.1
  obtain ⟨n8, rfl⟩ := Int.eq_ofNat_of_zero_le b8.1
  obtain ⟨n9, rfl⟩ := Int.eq_ofNat_of_zero_le b9.1
  refine ⟨⟨s0, s1, n2, n3, n4, n5, n6, n7, n8, n9⟩, ?_, ⟨by simp only; omega, by simp only; omega, by simp only; omega, by simp only; omega, by simp only; omega, by simp only; omega, by simp only; omega⟩⟩
  apply Array.ext'
  rw [hcs]
  rfl
/-- A ballot that came in. -/
theorem view_bal {H : Type} {enc : TypeId × Value → H} {W : World} {cs : Array Value} {d : DataW H} {p : List MemPlace}
    (h : DataW.Trod enc Try.prog W 0 (fun _ => true) true 39 (.agg cs) d p) : ∃ (n : Nat) (m : Int), cs = #[.int .u64 (n : Nat), .int .i64 m] ∧ n < 18446744073709551616 ∧ -9223372036854775808 ≤ m ∧ m < 9223372036854775808 := by
  obtain ⟨fuel, hf0⟩ := h
  obtain ⟨xs, n, _, hx, hl, hlen, hf⟩ := DataW.trod_struct Try.underlying39 hf0
  clear hf0 hx
  rw [cellsBal] at hl
  have hlen : xs.length = 2 := hlen
  obtain ⟨y0, y1, rfl⟩ := list2 hlen
  obtain ⟨L, hL⟩ : ∃ L : List Value, (Value.agg cs).cells.toList = L := ⟨_, rfl⟩
  have hcs : cs.toList = L := hL
  have hl : L.length = 2 := by rw [← hL]; exact hl
  rw [hL] at hf
  obtain ⟨c0, c1, rfl⟩ := list2 hl
  have e0 : DataW.trod enc Try.prog W 0 (fun _ => true) true n 22 (List.take (Try.prog.cellsOf 22) [c0, c1]) = some y0 := hf 0 _ rfl
  rw [cellsU64] at e0
  have e1 : DataW.trod enc Try.prog W 0 (fun _ => true) true n 3 (List.take (Try.prog.cellsOf 3) [c1]) = some y1 := hf 1 _ rfl
  rw [cellsInt] at e1
  obtain ⟨s0, k0, _, w0⟩ := DataW.trod_int Try.underlying22 e0
  obtain ⟨s1, k1, _, w1⟩ := DataW.trod_int Try.underlying3 e1
  have b0 := bounds_u64 w0
  have b1 := bounds_i64 w1
  clear e0 e1
  simp only [List.take, List.cons.injEq, and_true] at k0 k1
  subst k0 k1
  obtain ⟨n0, rfl⟩ := Int.eq_ofNat_of_zero_le b0.1
  refine ⟨n0, s1, ?_, by omega, by omega, by omega⟩
  apply Array.ext'
  rw [hcs]
end Go.Proofs.Ytojknconkmplkaa
namespace Go.Proofs.Ytojknconkmplkaa
open Go.RowKit

/-- Two ballots. -/
theorem bal_eq (a c : Int) (b d : Int) (w : World) : (binOp BinOp.eql 39 (.agg #[.int .u64 a, .int .i64 b]) (.agg #[.int .u64 c, .int .i64 d])).run Try.prog w = .ok (.bool (decide (a = c) && decide (b = d))) w := by
  by_cases h1 : a = c
  · subst h1
    by_cases h2 : b = d
    · subst h2; go_simp
    · go_simp
  · go_simp
theorem three (w : World) (o1 o2 o3 : Obj) : (((w.alloc o1).alloc o2).alloc o3).heap[w.heap.size]? = some o1 ∧ (((w.alloc o1).alloc o2).alloc o3).heap[w.heap.size + 1]? = some o2 ∧ (((w.alloc o1).alloc o2).alloc o3).heap[w.heap.size + 1 + 1]? = some o3 := by
  have e1 : (w.alloc o1).heap.size = w.heap.size + 1 := by simp
  have e2 : ((w.alloc o1).alloc o2).heap.size = w.heap.size + 1 + 1 := by simp
  refine ⟨(Below.heap_alloc _ _ _ (by rw [e2]; omega)).trans ((Below.heap_alloc _ _ _ (by rw [e1]; omega)).trans (alloc_atK _ _)), ?_, ?_⟩
  · have h := alloc_atK (w.alloc o1) o2
    rw [e1] at h
    exact (Below.heap_alloc _ _ _ (by rw [e2]; omega)).trans h
  · have h := alloc_atK ((w.alloc o1).alloc o2) o3
    rw [e2] at h
    exact h
theorem cmpB_swap (a b c d : Int) : cmpB c d a b = - cmpB a b c d := by
  unfold cmpB
  repeat' split
  all_goals omega
theorem cmpB_zero (a b c d : Int) : cmpB a b c d = 0 ↔ a = c ∧ b = d := by
  unfold cmpB
  repeat' split
  all_goals (constructor <;> intro h <;> omega)
theorem cmpB_trans (a b c d e f : Int) (h1 : cmpB a b c d < 0) (h2 : cmpB c d e f < 0) : cmpB a b e f < 0 := by
  unfold cmpB at *
  repeat' split at h1
  all_goals repeat' split at h2
  all_goals repeat' split
  all_goals omega
theorem cmpB_cases (a b c d : Int) : cmpB a b c d = -1 ∨ cmpB a b c d = 0 ∨ cmpB a b c d = 1 := by
  unfold cmpB
  repeat' split
  all_goals omega
end Go.Proofs.Ytojknconkmplkaa
namespace Go.Proofs.Ytojknconkmplkaa
open Go.ChangeShapes Go.WideShapes Go.ChangeAt Go.RowKit Go.Deep

/-- A vote of the script. -/
structure Vt where
  (src : Int) (slot : Nat)
def Vt.cells (x : Vt) : Array Value := #[.int .i64 x.src, .int .u64 (x.slot : Nat)]
structure Vt.In (x : Vt) : Prop where
  (n : x.slot < 18446744073709551616) (b1 : -9223372036854775808 ≤ x.src) (b2 : x.src < 9223372036854775808)
/-- The votes as they lie. -/
structure Vts (W : World) (b off : Nat) (ws : List Vt) : Prop where
  ok : ∀ x ∈ ws, x.In
  at_ : ∀ i x, ws[i]? = some x → ∀ j v, x.cells[j]? = some v → W.cell? ⟨b, off + i * 2 + j, none⟩ = some v
theorem cellsVote : Try.prog.cellsOf 34 = 2 := by kernel_rfl
theorem bytesVote : Try.prog.bytesOf 34 = 16 := by kernel_rfl
instance : Inhabited Vt := ⟨⟨0, 0⟩⟩
/-- A vote that came in. -/
theorem view_vote {H : Type} {enc : TypeId × Value → H} {W : World} {fuel : Nat} {cs : List Value} {x : DataW H × List MemPlace}
    (h : DataW.trod enc Try.prog W 0 (fun _ => true) true fuel 34 cs = some x) : ∃ f : Vt, cs = f.cells.toList ∧ f.In := by
  obtain ⟨xs, n, _, rfl, hl, hlen, hf⟩ := DataW.trod_struct Try.underlying34 h
  rw [cellsVote] at hl
  have hlen : xs.length = 2 := hlen
  obtain ⟨c0, c1, rfl⟩ := list2 hl
  obtain ⟨y0, y1, rfl⟩ := list2 hlen
  have e0 : DataW.trod enc Try.prog W 0 (fun _ => true) true n 3 (List.take (Try.prog.cellsOf 3) [c0, c1]) = some y0 := hf 0 _ rfl
  rw [cellsInt] at e0
  have e1 : DataW.trod enc Try.prog W 0 (fun _ => true) true n 22 (List.take (Try.prog.cellsOf 22) [c1]) = some y1 := hf 1 _ rfl
  rw [cellsU64] at e1
  obtain ⟨K, k0, _, wK⟩ := DataW.trod_int Try.underlying3 e0
  obtain ⟨N, k1, _, wN⟩ := DataW.trod_int Try.underlying22 e1
  have bN := bounds_u64 wN
  have bK := bounds_i64 wK
  simp only [List.take, List.cons.injEq, and_true] at k0 k1
  subst k0 k1
  obtain ⟨n0, rfl⟩ := Int.eq_ofNat_of_zero_le bN.1
  exact ⟨⟨K, n0⟩, rfl, by simp only; omega, by simp only; omega, by simp only; omega⟩
/-- The script that came in. -/
theorem view_votes {H : Type} {enc : TypeId × Value → H} {W : World} {ao : Option Addr} {len cap : Nat} {d : DataW H} {p : List MemPlace}
    (h : DataW.Trod enc Try.prog W 0 (fun _ => true) true 25 (.slice ao len cap) d p) (hr : ∀ n ∈ d.weights Try.prog 25, n ≤ reachBytes) :
    ∃ (b off : Nat) (ws : List Vt), len = ws.length ∧ len ≤ 140737488355328 ∧ Vts W b off ws ∧ (0 < len → ao = some ⟨b, off, none⟩) ∧ (0 < len → b < W.heap.size) := by
  obtain ⟨fuel, hf⟩ := h
  have hlt := DataW.trod_lt fuel _ _ _ hf
  rcases open_slice Try.underlying25 hf with ⟨hc, _⟩ | ⟨a, l, c, m, n, D, Pl, hc, _, hl, hm, hmm, hx, hall⟩
  · simp [Value.cells] at hc
    obtain ⟨rfl, rfl, rfl⟩ := hc
    exact ⟨0, 0, [], rfl, by omega, ⟨by simp, by simp⟩, fun h => by omega, fun h => by omega⟩
  · simp [Value.cells] at hc
    obtain ⟨rfl, rfl, rfl⟩ := hc
    simp only [if_true] at hmm
    subst hmm
    simp only [Prod.mk.injEq, cellsVote] at hx
    obtain ⟨hd, hp⟩ := hx
    subst hd
    subst hp
    simp only [cellsVote] at hall
    simp only [DataW.weights, Try.underlying25, bytesVote, List.length_map, List.length_range] at hr
    have hcap := hr _ (List.mem_cons_self ..)
    simp only [reachBytes] at hcap
    obtain ⟨F, hF⟩ := choose_lt (α := Vt) (n := len) (p := fun i f => f.In ∧ ∀ j v, f.cells[j]? = some v → W.cell? (a.add (i * 2 + j)) = some v) (fun i hi => by
      obtain ⟨cs, h1, h2⟩ := hall i (by omega)
      obtain ⟨f, rfl, hok⟩ := view_vote h2
      refine ⟨f, hok, fun j v hj => ?_⟩
      have hj6 : j < 2 := by
        have := (Array.getElem?_eq_some_iff.1 hj).1
        simpa [Vt.cells] using this
      have h3 := (World.cells?_some h1).2.2 j hj6
      rw [add_add] at h3
      rw [h3]
      simpa using hj)
    by_cases hp : 0 < len
    · obtain ⟨b, off, spot⟩ := a
      have h00 := (hF 0 hp).2 0 _ rfl
      have hspot : spot = none := by simpa [Addr.add] using World.cell?_spot h00
      subst hspot
      have hbW : b < W.heap.size := hlt (.cell b off) (List.mem_append_left _ (MemPlace.mem_row.2 ⟨0, by omega, by simp⟩))
      refine ⟨b, off, (List.range len).map F, by simp, by omega, ⟨?_, ?_⟩, fun _ => rfl, fun _ => hbW⟩
      · intro f hf
        obtain ⟨i, hi, rfl⟩ := List.mem_map.1 hf
        exact (hF i (List.mem_range.1 hi)).1
      · intro i f hi j v hj
        have hil : i < len := by
          have := (List.getElem?_eq_some_iff.1 hi).1
          simpa using this
        rw [List.getElem?_map, List.getElem?_range hil] at hi
        cases hi
        have := (hF i hil).2 j v hj
        rw [add_plain] at this
        rw [Nat.add_assoc]
        exact this
    · obtain rfl : len = 0 := by omega
      exact ⟨0, 0, [], rfl, by omega, ⟨by simp, by simp⟩, fun h => by omega, fun h => by omega⟩
end Go.Proofs.Ytojknconkmplkaa
