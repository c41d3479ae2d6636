import Derived.Test.YtoejdocnpcbpiaaGA
import Derived.Test.YtoejdocnpcbpiaaBVw
import Derived.Deep.Slices
namespace Go.Proofs.Ytoejdocnpcbpiaa
open Go.ChangeShapes Go.WideShapes Go.ChangeAt Go.RowKit Go.Deep

/-- The numbers that came in. -/
theorem view_nums {H : Type} {enc : TypeId × Value → H} {W : World} {ao : Option Addr} {len cap : Nat} {d : DataW H} {p : List MemPlace}
    (h : DataW.Trod enc Try.prog W 0 (fun _ => true) true 22 (.slice ao len cap) d p) :
    ∃ (b off : Nat) (xs : List Nat), xs.length = len ∧ Us W b off xs ∧ (0 < xs.length → ao = some ⟨b, off, none⟩) ∧ (0 < xs.length → b < W.heap.size) := by
  obtain ⟨fuel, hf⟩ := h
  have hlt := DataW.trod_lt fuel _ _ _ hf
  rcases open_slice Try.underlying22 hf with ⟨hc, _⟩ | ⟨a, l, c, m, n, D, Pl, hc, _, hl, hm, hmm, hx, hall⟩
  · simp [Value.cells] at hc
    obtain ⟨rfl, rfl, rfl⟩ := hc
    exact ⟨0, 0, [], rfl, fun i x hi => by simp at hi, fun h => by simp at h, fun h => by simp at h⟩
  · simp [Value.cells] at hc
    obtain ⟨rfl, rfl, rfl⟩ := hc
    simp only [if_true] at hmm
    subst hmm
    simp only [Prod.mk.injEq, cellsU64] at hx
    obtain ⟨hd, hp⟩ := hx
    subst hd
    subst hp
    simp only [cellsU64] at hall
    obtain ⟨F, hF⟩ := choose_lt (α := Nat) (n := len) (p := fun i x => W.cell? (a.add i) = some (.int .u64 (x : Int))) (fun i hi => by
      obtain ⟨cs, h1, h2⟩ := hall i (by omega)
      obtain ⟨B, k1, _, wB⟩ := DataW.trod_int Try.underlying23 h2
      have bB := bounds_u64 wB
      obtain ⟨nb, rfl⟩ := Int.eq_ofNat_of_zero_le bB.1
      have h3 := (World.cells?_some h1).2.2 0 (by omega)
      rw [add_add] at h3
      refine ⟨nb, ?_⟩
      rw [k1] at h3
      simpa using h3)
    by_cases hp : 0 < len
    · obtain ⟨b, off, spot⟩ := a
      have h00 := hF 0 hp
      have hspot : spot = none := by simpa [Addr.add] using World.cell?_spot h00
      subst hspot
      have hbW : b < W.heap.size := hlt (.cell b off) (List.mem_append_left _ (MemPlace.mem_row.2 ⟨0, by omega, by simp⟩))
      refine ⟨b, off, (List.range len).map F, by simp, fun i x hi => ?_, fun _ => rfl, fun _ => hbW⟩
      have hil : i < len := by
        have := (List.getElem?_eq_some_iff.1 hi).1
        simpa using this
      rw [List.getElem?_map, List.getElem?_range hil] at hi
      cases hi
      have := hF i hil
      rw [add_plain] at this
      exact this
    · obtain rfl : len = 0 := by omega
      exact ⟨0, 0, [], rfl, fun i x hi => by simp at hi, fun h => by simp at h, fun h => by simp at h⟩
end Go.Proofs.Ytoejdocnpcbpiaa
