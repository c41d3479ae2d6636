import Derived.Test.YthfiafjhnidlkaaM46
import Derived.Test.YthfiafjhnidlkaaBVw
import Derived.Deep.Slices
namespace Go.Proofs.Ythfiafjhnidlkaa
open Go.ChangeShapes Go.WideShapes Go.ChangeAt Go.RowKit Go.Deep

theorem cellsWord : Try.prog.cellsOf 38 = 5 := by kernel_rfl
theorem bytesWord : Try.prog.bytesOf 38 = 40 := by kernel_rfl
theorem list4W {α : Type} {l : List α} (h : l.length = 4) : ∃ a b c d, l = [a, b, c, d] := by
  match l, h with
  | [a, b, c, d], _ => exact ⟨a, b, c, d, rfl⟩
theorem list5W {α : Type} {l : List α} (h : l.length = 5) : ∃ a b c d e, l = [a, b, c, d, e] := by
  match l, h with
  | [a, b, c, d, e], _ => exact ⟨a, b, c, d, e, rfl⟩
instance : Inhabited Wd := ⟨⟨0, 0, 0, 0, 0⟩⟩
/-- A step that came in. -/
theorem view_word {H : Type} {enc : TypeId × Value → H} {W : World} {fuel : Nat} {cs : List Value} {x : DataW H × List MemPlace}
    (h : DataW.trod enc Try.prog W 0 (fun _ => true) true fuel 38 cs = some x) : ∃ f : Wd, cs = f.cells.toList ∧ f.In := by
  obtain ⟨xs, n, _, rfl, hl, hlen, hf⟩ := DataW.trod_struct Try.underlying38 h
  rw [cellsWord] at hl
  have hlen : xs.length = 4 := hlen
  obtain ⟨c0, c1, c2, c3, c4, rfl⟩ := list5W hl
  obtain ⟨y0, y1, y2, y3, rfl⟩ := list4W hlen
  have e0 : DataW.trod enc Try.prog W 0 (fun _ => true) true n 3 (List.take (Try.prog.cellsOf 3) [c0, c1, c2, c3, c4]) = some y0 := hf 0 _ rfl
  rw [cellsInt] at e0
  have e1 : DataW.trod enc Try.prog W 0 (fun _ => true) true n 22 (List.take (Try.prog.cellsOf 22) [c1, c2, c3, c4]) = some y1 := hf 1 _ rfl
  rw [cellsU64] at e1
  have e2 : DataW.trod enc Try.prog W 0 (fun _ => true) true n 36 (List.take (Try.prog.cellsOf 36) [c2, c3, c4]) = some y2 := hf 2 _ rfl
  rw [cellsBal] at e2
  have e3 : DataW.trod enc Try.prog W 0 (fun _ => true) true n 3 (List.take (Try.prog.cellsOf 3) [c4]) = some y3 := hf 3 _ rfl
  rw [cellsInt] at e3
  obtain ⟨zs, n2, _, hz, hl2, hlen2, hf2⟩ := DataW.trod_struct Try.underlying36 e2
  have hlen2 : zs.length = 2 := hlen2
  obtain ⟨z0, z1, rfl⟩ := list2 hlen2
  have g0 : DataW.trod enc Try.prog W 0 (fun _ => true) true n2 22 (List.take (Try.prog.cellsOf 22) [c2, c3]) = some z0 := hf2 0 _ rfl
  rw [cellsU64] at g0
  have g1 : DataW.trod enc Try.prog W 0 (fun _ => true) true n2 3 (List.take (Try.prog.cellsOf 3) [c3]) = some z1 := hf2 1 _ rfl
  rw [cellsInt] at g1
  obtain ⟨K, k0, _, wK⟩ := DataW.trod_int Try.underlying3 e0
  obtain ⟨N, k1, _, wN⟩ := DataW.trod_int Try.underlying22 e1
  obtain ⟨B, k2, _, wB⟩ := DataW.trod_int Try.underlying22 g0
  obtain ⟨M, k3, _, wM⟩ := DataW.trod_int Try.underlying3 g1
  obtain ⟨D, k4, _, wD⟩ := DataW.trod_int Try.underlying3 e3
  have bN := bounds_u64 wN
  have bB := bounds_u64 wB
  have bM := bounds_i64 wM
  simp only [List.take, List.cons.injEq, and_true] at k0 k1 k2 k3 k4
  subst k0 k1 k2 k3 k4
  obtain ⟨n0, rfl⟩ := Int.eq_ofNat_of_zero_le bN.1
  obtain ⟨b0, rfl⟩ := Int.eq_ofNat_of_zero_le bB.1
  exact ⟨⟨K, n0, b0, M, D⟩, rfl, by simp only; omega, by simp only; omega, by simp only; omega, by simp only; omega⟩
/-- The script that came in. -/
theorem view_words {H : Type} {enc : TypeId × Value → H} {W : World} {ao : Option Addr} {len cap : Nat} {d : DataW H} {p : List MemPlace}
    (h : DataW.Trod enc Try.prog W 0 (fun _ => true) true 25 (.slice ao len cap) d p) (hr : ∀ n ∈ d.weights Try.prog 25, n ≤ reachBytes) :
    ∃ (b off : Nat) (ws : List Wd), len = ws.length ∧ len ≤ 140737488355328 ∧ Wds W b off ws ∧ (0 < len → ao = some ⟨b, off, none⟩) ∧ (0 < len → b < W.heap.size) := by
  obtain ⟨fuel, hf⟩ := h
  have hlt := DataW.trod_lt fuel _ _ _ hf
  rcases open_slice Try.underlying25 hf with ⟨hc, _⟩ | ⟨a, l, c, m, n, D, Pl, hc, _, hl, hm, hmm, hx, hall⟩
  · simp [Value.cells] at hc
    obtain ⟨rfl, rfl, rfl⟩ := hc
    exact ⟨0, 0, [], rfl, by omega, ⟨by simp, by simp⟩, fun h => by omega, fun h => by omega⟩
  · simp [Value.cells] at hc
    obtain ⟨rfl, rfl, rfl⟩ := hc
    simp only [if_true] at hmm
    subst hmm
    simp only [Prod.mk.injEq, cellsWord] at hx
    obtain ⟨hd, hp⟩ := hx
    subst hd
    subst hp
    simp only [cellsWord] at hall
    simp only [DataW.weights, Try.underlying25, bytesWord, List.length_map, List.length_range] at hr
    have hcap := hr _ (List.mem_cons_self ..)
    simp only [reachBytes] at hcap
    obtain ⟨F, hF⟩ := choose_lt (α := Wd) (n := len) (p := fun i f => f.In ∧ ∀ j v, f.cells[j]? = some v → W.cell? (a.add (i * 5 + j)) = some v) (fun i hi => by
      obtain ⟨cs, h1, h2⟩ := hall i (by omega)
      obtain ⟨f, rfl, hok⟩ := view_word h2
      refine ⟨f, hok, fun j v hj => ?_⟩
      have hj6 : j < 5 := by
        have := (Array.getElem?_eq_some_iff.1 hj).1
        simpa [Wd.cells] using this
      have h3 := (World.cells?_some h1).2.2 j hj6
      rw [add_add] at h3
      rw [h3]
      simpa using hj)
    by_cases hp : 0 < len
    · obtain ⟨b, off, spot⟩ := a
      have h00 := (hF 0 hp).2 0 _ rfl
      have hspot : spot = none := by simpa [Addr.add] using World.cell?_spot h00
      subst hspot
      have hbW : b < W.heap.size := hlt (.cell b off) (List.mem_append_left _ (MemPlace.mem_row.2 ⟨0, by omega, by simp⟩))
      refine ⟨b, off, (List.range len).map F, by simp, by omega, ⟨?_, ?_⟩, fun _ => rfl, fun _ => hbW⟩
      · intro f hf
        obtain ⟨i, hi, rfl⟩ := List.mem_map.1 hf
        exact (hF i (List.mem_range.1 hi)).1
      · intro i f hi j v hj
        have hil : i < len := by
          have := (List.getElem?_eq_some_iff.1 hi).1
          simpa using this
        rw [List.getElem?_map, List.getElem?_range hil] at hi
        cases hi
        have := (hF i hil).2 j v hj
        rw [add_plain] at this
        rw [Nat.add_assoc]
        exact this
    · obtain rfl : len = 0 := by omega
      exact ⟨0, 0, [], rfl, by omega, ⟨by simp, by simp⟩, fun h => by omega, fun h => by omega⟩
end Go.Proofs.Ythfiafjhnidlkaa
