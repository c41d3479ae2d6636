import Derived.Test.YtgdliomkdkjlaaaPLawA
import Derived.Test.YtgdliomkdkjlaaaRows
import Derived.ProofKit
import Derived.OpenShut
import Derived.ChangeOld
import Derived.Below
import Derived.SizedLaws
import Derived.Deep.Slices
namespace Go.Proofs.Ytgdliomkdkjlaaa
open Go.ChangeShapes Go.WideShapes Go.ChangeAt Go.RowKit Go.Deep

theorem own : ownKnob Try.prog.godebug = none := by kernel_rfl
theorem laidOut : laidOutB Try.prog = true := by kernel_rfl
theorem bytesU8 : Try.prog.bytesOf 5 = 1 := by kernel_rfl
theorem cellsU8 : Try.prog.cellsOf 5 = 1 := by kernel_rfl
theorem cellsInt : Try.prog.cellsOf 3 = 1 := by kernel_rfl
theorem cellsU64 : Try.prog.cellsOf 28 = 1 := by kernel_rfl
theorem cellsBs : Try.prog.cellsOf 29 = 1 := by kernel_rfl
theorem cellsStr : Try.prog.cellsOf 9 = 1 := by kernel_rfl
theorem cellsOp : Try.prog.cellsOf 31 = 6 := by kernel_rfl
theorem bytesOp : Try.prog.bytesOf 31 = 72 := by kernel_rfl

theorem weights_all {H : Type} {P : Program} {e : TypeId} {d : DataW H} {n : Nat} (hn : n ∈ d.weights P e) : ∀ {ds : List (DataW H)}, d ∈ ds → n ∈ DataW.weightsAll P e ds
  | [], h => by cases h
  | x :: r, h => by
    simp only [DataW.weightsAll, List.mem_append]
    rcases List.mem_cons.1 h with rfl | h
    · exact .inl hn
    · exact .inr (weights_all hn h)

theorem list6 {α : Type} {l : List α} (h : l.length = 6) : ∃ a b c d e f, l = [a, b, c, d, e, f] := by
  match l, h with
  | [a, b, c, d, e, f], _ => exact ⟨a, b, c, d, e, f, rfl⟩

/-- The bytes as numbers. -/
theorem bytes_of (zs : List Int) (hwz : ∀ n ∈ zs, (Lit.int .u8 n).wf = true) : ∃ B : List Nat, zs = B.map (fun (x : Nat) => (x : Int)) ∧ ∀ x ∈ B, x < 256 := by
  induction zs with
  | nil => exact ⟨[], rfl, by simp⟩
  | cons z r ih =>
    obtain ⟨B, hB, hl⟩ := ih (fun n hn => hwz n (by simp [hn]))
    have hz := bounds_u8 (hwz z (by simp))
    refine ⟨z.toNat :: B, ?_, ?_⟩
    · simp [hB]; omega
    · intro x hx
      rcases List.mem_cons.1 hx with rfl | hx
      · omega
      · exact hl x hx

/-- Bytes that came in. -/
theorem view_bytes {H : Type} {enc : TypeId × Value → H} {W : World} {fuel : Nat} {cs : List Value} {x : DataW H × List MemPlace}
    (hf : DataW.trod enc Try.prog W 0 (fun _ => true) true fuel 29 cs = some x) (hr : ∀ n ∈ x.1.weights Try.prog 29, n ≤ reachBytes) :
    ∃ (ao : Option Addr) (len cap : Nat) (B : List Nat), cs = [.slice ao len cap] ∧ Shows W.heap.size W ao len cap B := by
  have hlt := DataW.trod_lt fuel _ _ _ hf
  rcases open_ints Try.underlying29 Try.underlying5 cellsU8 hf with ⟨rfl, _⟩ | ⟨x, len, cap, zs, rfl, _, hl, hm, hz, rfl, hcell, hwz⟩
  · exact ⟨none, 0, 0, [], rfl, rfl, by omega, by omega, by simp, 0, 0, fun h => by omega, fun h => by omega, fun i hi => by omega⟩
  · obtain ⟨B, rfl, hB⟩ := bytes_of zs hwz
    have hr := hr ((lits .u8 ((B.map (fun (x : Nat) => (x : Int))).take len)).length + (lits (H := H) .u8 ((B.map (fun (x : Nat) => (x : Int))).drop len)).length) (by
      simp only [DataW.weights, Try.underlying29, bytesU8, Nat.mul_one]
      exact List.mem_cons_self ..)
    simp only [lits, List.length_map, List.length_take, List.length_drop, reachBytes] at hr
    have hzl : B.length = cap := by simpa using hz
    by_cases hp : 0 < len
    · obtain ⟨b, off, spot⟩ := x
      have hspot : spot = none := by simpa [Addr.add] using World.cell?_spot (hcell 0 (by simp; omega))
      subst hspot
      have hbW : b < W.heap.size := hlt (.cell b off) (MemPlace.mem_row.2 ⟨0, by simp; omega, by simp⟩)
      refine ⟨_, len, cap, B.take len, rfl, by simp; omega, hl, by omega, fun x hx => hB x (List.mem_of_mem_take hx), b, off, fun _ => rfl, fun _ => hbW, fun i hi => ?_⟩
      have hci := hcell i (by simp; omega)
      rw [add_plain] at hci
      rw [hci, List.getD_eq_getElem?_getD, List.getD_eq_getElem?_getD, List.getElem?_map, List.getElem?_take, if_pos hi, List.getElem?_eq_getElem (by omega)]
      rfl
    · obtain rfl : len = 0 := by omega
      exact ⟨_, 0, cap, [], rfl, rfl, by omega, by omega, by simp, 0, 0, fun h => by omega, fun h => by omega, fun i hi => by omega⟩

/-- A field that came in. -/
theorem view_field {H : Type} {enc : TypeId × Value → H} {W : World} {fuel : Nat} {cs : List Value} {x : DataW H × List MemPlace}
    (h : DataW.trod enc Try.prog W 0 (fun _ => true) true fuel 31 cs = some x) (hr : ∀ n ∈ x.1.weights Try.prog 31, n ≤ reachBytes) :
    ∃ f : Fl, cs = f.cells.toList ∧ f.Ok W.heap.size W := by
  obtain ⟨xs, n, _, rfl, hl, hlen, hf⟩ := DataW.trod_struct Try.underlying31 h
  rw [cellsOp] at hl
  have hlen : xs.length = 6 := hlen
  obtain ⟨c0, c1, c2, c3, c4, c5, rfl⟩ := list6 hl
  obtain ⟨y0, y1, y2, y3, y4, y5, rfl⟩ := list6 hlen
  have e0 : DataW.trod enc Try.prog W 0 (fun _ => true) true n 3 (List.take (Try.prog.cellsOf 3) [c0, c1, c2, c3, c4, c5]) = some y0 := hf 0 _ rfl
  rw [cellsInt] at e0
  have e1 : DataW.trod enc Try.prog W 0 (fun _ => true) true n 28 (List.take (Try.prog.cellsOf 28) [c1, c2, c3, c4, c5]) = some y1 := hf 1 _ rfl
  rw [cellsU64] at e1
  have e2 : DataW.trod enc Try.prog W 0 (fun _ => true) true n 3 (List.take (Try.prog.cellsOf 3) [c2, c3, c4, c5]) = some y2 := hf 2 _ rfl
  rw [cellsInt] at e2
  have e3 : DataW.trod enc Try.prog W 0 (fun _ => true) true n 29 (List.take (Try.prog.cellsOf 29) [c3, c4, c5]) = some y3 := hf 3 _ rfl
  rw [cellsBs] at e3
  have e4 : DataW.trod enc Try.prog W 0 (fun _ => true) true n 9 (List.take (Try.prog.cellsOf 9) [c4, c5]) = some y4 := hf 4 _ rfl
  rw [cellsStr] at e4
  have e5 : DataW.trod enc Try.prog W 0 (fun _ => true) true n 3 (List.take (Try.prog.cellsOf 3) [c5]) = some y5 := hf 5 _ rfl
  rw [cellsInt] at e5
  have hr : ∀ n ∈ DataW.weightsEach Try.prog [3, 28, 3, 29, 9, 3] [y0.1, y1.1, y2.1, y3.1, y4.1, y5.1], n ≤ reachBytes := by
    intro n hn
    refine hr n ?_
    simp only [DataW.weights, Try.underlying31]
    exact hn
  obtain ⟨K, k0, _, wK⟩ := DataW.trod_int Try.underlying3 e0
  obtain ⟨N, k1, _, wN⟩ := DataW.trod_int Try.underlying28 e1
  obtain ⟨I, k2, _, wI⟩ := DataW.trod_int Try.underlying3 e2
  obtain ⟨ao, len, cap, B, k3, hB⟩ := view_bytes e3 (fun n hn => hr n (DataW.weights_mem_each (j := 3) rfl rfl n hn))
  obtain ⟨S, k4, h4, _⟩ := DataW.trod_string Try.underlying9 e4
  obtain ⟨M, k5, _, wM⟩ := DataW.trod_int Try.underlying3 e5
  have hS : S.size ≤ reachBytes := hr S.size (DataW.weights_mem_each (j := 4) (t := 9) (d := y4.1) rfl rfl _ (by rw [h4]; show S.size ∈ [S.data.toList.length]; rw [Array.length_toList]; exact List.mem_singleton.2 rfl))
  have bN := bounds_u64 wN
  have bK := bounds_i64 wK
  have bI := bounds_i64 wI
  have bM := bounds_i64 wM
  simp only [List.take, List.cons.injEq, and_true] at k0 k1 k2 k3 k4 k5
  subst k0 k1 k2 k3 k4 k5
  have hNN : ((N.toNat : Nat) : Int) = N := by omega
  refine ⟨⟨K, N.toNat, I, ao, len, cap, B, S, M⟩, by simp [Fl.cells, hNN], ?_⟩
  have hS : S.size ≤ 140737488351232 := hS
  exact ⟨by simp only; omega, bK.1, by simp only; omega, bI.1, by simp only; omega, bM.1, by simp only; omega, hB, by simp only; omega⟩
end Go.Proofs.Ytgdliomkdkjlaaa
