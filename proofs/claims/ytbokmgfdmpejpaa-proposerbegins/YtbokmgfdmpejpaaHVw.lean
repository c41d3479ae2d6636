import Derived.Test.YtbokmgfdmpejpaaHRd
import Derived.Test.YtbokmgfdmpejpaaBVw
import Derived.Deep.Slices
namespace Go.Proofs.Ytbokmgfdmpejpaa
open Go.ChangeShapes Go.WideShapes Go.ChangeAt Go.RowKit Go.Deep

theorem cellsRk : Try.prog.cellsOf 88 = 1 := by kernel_rfl
theorem cellsRec : Try.prog.cellsOf 90 = 7 := by kernel_rfl
theorem bytesRec : Try.prog.bytesOf 90 = 88 := by kernel_rfl
theorem cellsBt : Try.prog.cellsOf 54 = 2 := by kernel_rfl
theorem cellsRqs : Try.prog.cellsOf 47 = 1 := by kernel_rfl
theorem cellsBy : Try.prog.cellsOf 56 = 1 := by kernel_rfl
theorem list5R {α : Type} {l : List α} (h : l.length = 5) : ∃ a b c d e, l = [a, b, c, d, e] := by
  match l, h with
  | [a, b, c, d, e], _ => exact ⟨a, b, c, d, e, rfl⟩
theorem list7R {α : Type} {l : List α} (h : l.length = 7) : ∃ a b c d e f g, l = [a, b, c, d, e, f, g] := by
  match l, h with
  | [a, b, c, d, e, f, g], _ => exact ⟨a, b, c, d, e, f, g, rfl⟩
instance : Inhabited Rd := ⟨⟨0, 0, 0, 0, 0, none, 0, 0, none, 0, 0⟩⟩
/-- A list that came in, whatever is in it. -/
theorem view_any {H : Type} {enc : TypeId × Value → H} {W : World} {fuel : Nat} {t e : TypeId} {cs : List Value} {x : DataW H × List MemPlace} (hu : Try.prog.underlying t = some (.slice e))
    (hf : DataW.trod enc Try.prog W 0 (fun _ => true) true fuel t cs = some x) : ∃ ao l c, cs = [.slice ao l c] := by
  rcases open_slice hu hf with ⟨rfl, _⟩ | ⟨a, len, cap, m, n, D, Pl, rfl, _⟩
  · exact ⟨_, _, _, rfl⟩
  · exact ⟨_, _, _, rfl⟩
/-- A record that came in. -/
theorem view_rec {H : Type} {enc : TypeId × Value → H} {W : World} {fuel : Nat} {cs : List Value} {x : DataW H × List MemPlace}
    (h : DataW.trod enc Try.prog W 0 (fun _ => true) true fuel 90 cs = some x) : ∃ f : Rd, cs = f.cells.toList ∧ f.num < 18446744073709551616 := by
  obtain ⟨xs, n, _, rfl, hl, hlen, hf⟩ := DataW.trod_struct Try.underlying90 h
  rw [cellsRec] at hl
  have hlen : xs.length = 5 := hlen
  obtain ⟨c0, c1, c2, c3, c4, c5, c6, rfl⟩ := list7R hl
  obtain ⟨y0, y1, y2, y3, y4, rfl⟩ := list5R hlen
  have e0 : DataW.trod enc Try.prog W 0 (fun _ => true) true n 88 (List.take (Try.prog.cellsOf 88) [c0, c1, c2, c3, c4, c5, c6]) = some y0 := hf 0 _ rfl
  rw [cellsRk] at e0
  have e1 : DataW.trod enc Try.prog W 0 (fun _ => true) true n 49 (List.take (Try.prog.cellsOf 49) [c1, c2, c3, c4, c5, c6]) = some y1 := hf 1 _ rfl
  rw [cellsBal] at e1
  have e2 : DataW.trod enc Try.prog W 0 (fun _ => true) true n 22 (List.take (Try.prog.cellsOf 22) [c3, c4, c5, c6]) = some y2 := hf 2 _ rfl
  rw [cellsU64] at e2
  have e3 : DataW.trod enc Try.prog W 0 (fun _ => true) true n 54 (List.take (Try.prog.cellsOf 54) [c4, c5, c6]) = some y3 := hf 3 _ rfl
  rw [cellsBt] at e3
  have e4 : DataW.trod enc Try.prog W 0 (fun _ => true) true n 56 (List.take (Try.prog.cellsOf 56) [c6]) = some y4 := hf 4 _ rfl
  rw [cellsBy] at e4
  obtain ⟨zs, n2, _, hz, hl2, hlen2, hf2⟩ := DataW.trod_struct Try.underlying49 e1
  have hlen2 : zs.length = 2 := hlen2
  obtain ⟨z0, z1, rfl⟩ := list2 hlen2
  have g0 : DataW.trod enc Try.prog W 0 (fun _ => true) true n2 22 (List.take (Try.prog.cellsOf 22) [c1, c2]) = some z0 := hf2 0 _ rfl
  rw [cellsU64] at g0
  have g1 : DataW.trod enc Try.prog W 0 (fun _ => true) true n2 3 (List.take (Try.prog.cellsOf 3) [c2]) = some z1 := hf2 1 _ rfl
  rw [cellsInt] at g1
  obtain ⟨ts, n3, _, hz3, hl3, hlen3, hf3⟩ := DataW.trod_struct Try.underlying54 e3
  have hlen3 : ts.length = 2 := hlen3
  obtain ⟨t0, t1, rfl⟩ := list2 hlen3
  have b0 : DataW.trod enc Try.prog W 0 (fun _ => true) true n3 22 (List.take (Try.prog.cellsOf 22) [c4, c5]) = some t0 := hf3 0 _ rfl
  rw [cellsU64] at b0
  have b1 : DataW.trod enc Try.prog W 0 (fun _ => true) true n3 47 (List.take (Try.prog.cellsOf 47) [c5]) = some t1 := hf3 1 _ rfl
  rw [cellsRqs] at b1
  obtain ⟨K, k0, _, _⟩ := DataW.trod_int Try.underlying88 e0
  obtain ⟨B, k1, _, wB⟩ := DataW.trod_int Try.underlying22 g0
  obtain ⟨M, k2, _, _⟩ := DataW.trod_int Try.underlying3 g1
  obtain ⟨L, k3, _, wL⟩ := DataW.trod_int Try.underlying22 e2
  obtain ⟨T, k4, _, wT⟩ := DataW.trod_int Try.underlying22 b0
  obtain ⟨ro, rl, rc, k5⟩ := view_any Try.underlying47 b1
  obtain ⟨eo, el, ec, k6⟩ := view_any Try.underlying56 e4
  have bB := bounds_u64 wB
  have bL := bounds_u64 wL
  have bT := bounds_u64 wT
  simp only [List.take, List.cons.injEq, and_true] at k0 k1 k2 k3 k4 k5 k6
  subst k0 k1 k2 k3 k4 k5 k6
  obtain ⟨nb, rfl⟩ := Int.eq_ofNat_of_zero_le bB.1
  obtain ⟨nl, rfl⟩ := Int.eq_ofNat_of_zero_le bL.1
  obtain ⟨nt, rfl⟩ := Int.eq_ofNat_of_zero_le bT.1
  exact ⟨⟨K, nb, M, nl, nt, ro, rl, rc, eo, el, ec⟩, rfl, by simp only; omega⟩
/-- The records that came in. -/
theorem view_recs {H : Type} {enc : TypeId × Value → H} {W : World} {ao : Option Addr} {len cap : Nat} {d : DataW H} {p : List MemPlace}
    (h : DataW.Trod enc Try.prog W 0 (fun _ => true) true 25 (.slice ao len cap) d p) (hr : ∀ n ∈ d.weights Try.prog 25, n ≤ reachBytes) :
    ∃ (b off : Nat) (rs : List Rd), rs.length = len ∧ Rds W.heap.size W ao rs b off ∧ ∀ f ∈ rs, f.num < 18446744073709551616 := by
  obtain ⟨fuel, hf⟩ := h
  have hlt := DataW.trod_lt fuel _ _ _ hf
  rcases open_slice Try.underlying25 hf with ⟨hc, _⟩ | ⟨a, l, c, m, n, D, Pl, hc, _, hl, hm, hmm, hx, hall⟩
  · simp [Value.cells] at hc
    obtain ⟨rfl, rfl, rfl⟩ := hc
    exact ⟨0, 0, [], rfl, ⟨fun h => by simp at h, fun h => by simp at h, by simp, by simp⟩, by simp⟩
  · simp [Value.cells] at hc
    obtain ⟨rfl, rfl, rfl⟩ := hc
    simp only [if_true] at hmm
    subst hmm
    simp only [Prod.mk.injEq, cellsRec] at hx
    obtain ⟨hd, hp⟩ := hx
    subst hd
    subst hp
    simp only [cellsRec] at hall
    simp only [DataW.weights, Try.underlying25, bytesRec, List.length_map, List.length_range] at hr
    have hcap := hr _ (List.mem_cons_self ..)
    simp only [reachBytes] at hcap
    obtain ⟨F, hF⟩ := choose_lt (α := Rd) (n := len) (p := fun i f => f.num < 18446744073709551616 ∧ ∀ j v, f.cells[j]? = some v → W.cell? (a.add (i * 7 + j)) = some v) (fun i hi => by
      obtain ⟨cs, h1, h2⟩ := hall i (by omega)
      obtain ⟨f, rfl, hok⟩ := view_rec h2
      refine ⟨f, hok, fun j v hj => ?_⟩
      have hj7 : j < 7 := by
        have := (Array.getElem?_eq_some_iff.1 hj).1
        simpa [Rd.cells] using this
      have h3 := (World.cells?_some h1).2.2 j hj7
      rw [add_add] at h3
      rw [h3]
      simpa using hj)
    by_cases hp : 0 < len
    · obtain ⟨b, off, spot⟩ := a
      have h00 := (hF 0 hp).2 0 _ rfl
      have hspot : spot = none := by simpa [Addr.add] using World.cell?_spot h00
      subst hspot
      have hbW : b < W.heap.size := hlt (.cell b off) (List.mem_append_left _ (MemPlace.mem_row.2 ⟨0, by omega, by simp⟩))
      refine ⟨b, off, (List.range len).map F, by simp, ⟨fun _ => rfl, fun _ => hbW, by simp; omega, ?_⟩, ?_⟩
      · intro i f hi j v hj
        have hil : i < len := by
          have := (List.getElem?_eq_some_iff.1 hi).1
          simpa using this
        rw [List.getElem?_map, List.getElem?_range hil] at hi
        cases hi
        have := (hF i hil).2 j v hj
        rw [add_plain] at this
        rw [Nat.add_assoc]
        exact this
      · intro f hf
        obtain ⟨i, hi, rfl⟩ := List.mem_map.1 hf
        exact (hF i (List.mem_range.1 hi)).1
    · obtain rfl : len = 0 := by omega
      exact ⟨0, 0, [], rfl, ⟨fun h => by simp at h, fun h => by simp at h, by simp, by simp⟩, by simp⟩
end Go.Proofs.Ytbokmgfdmpejpaa
