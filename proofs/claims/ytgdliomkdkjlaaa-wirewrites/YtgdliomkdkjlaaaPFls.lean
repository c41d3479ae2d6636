import Derived.Test.YtgdliomkdkjlaaaPView
namespace Go.Proofs.Ytgdliomkdkjlaaa
open Go.ChangeShapes Go.WideShapes Go.ChangeAt Go.RowKit Go.Deep

theorem Fl.Ok.next {lim : Nat} {w w' : World} {f : Fl} {row : Option Nat} (h : f.Ok lim w) (hg : w.grownBy w' row) (hr : ∀ g, row = some g → lim ≤ g) : f.Ok lim w' :=
  ⟨h.hN, h.hK1, h.hK2, h.hI1, h.hI2, h.hM1, h.hM2, h.hB.kept hg hr, h.hS⟩

/-- The fields as they lie, one behind the other. -/
structure Fls (lim : Nat) (w : World) (b off : Nat) (fs : List Fl) : Prop where
  ok : ∀ f ∈ fs, f.Ok lim w
  at_ : ∀ i f, fs[i]? = some f → ∀ j v, f.cells[j]? = some v → w.cell? ⟨b, off + i * 6 + j, none⟩ = some v
theorem Fls.next {lim : Nat} {w w' : World} {b off : Nat} {fs : List Fl} {row : Option Nat} (h : Fls lim w b off fs) (hb : b < lim) (hg : w.grownBy w' row) (hr : ∀ g, row = some g → lim ≤ g) : Fls lim w' b off fs :=
  ⟨fun f hf => (h.ok f hf).next hg hr, fun i f hi j v hj => hg.cell (h.at_ i f hi j v hj) (fun e => by have := hr b e.symm; omega)⟩

instance : Inhabited Fl := ⟨⟨0, 0, 0, none, 0, 0, [], ByteArray.empty, 0⟩⟩
/-- The fields that came in. -/
theorem view_fields {H : Type} {enc : TypeId × Value → H} {W : World} {ao : Option Addr} {len cap : Nat} {d : DataW H} {p : List MemPlace}
    (h : DataW.Trod enc Try.prog W 0 (fun _ => true) true 22 (.slice ao len cap) d p) (hr : ∀ n ∈ d.weights Try.prog 22, n ≤ reachBytes) :
    ∃ (b off : Nat) (fs : List Fl), len = fs.length ∧ len ≤ 140737488355328 ∧ Fls W.heap.size W b off fs ∧ (0 < len → ao = some ⟨b, off, none⟩) ∧ (0 < len → b < W.heap.size) := by
  obtain ⟨fuel, hf⟩ := h
  have hlt := DataW.trod_lt fuel _ _ _ hf
  rcases open_slice Try.underlying22 hf with ⟨hc, _⟩ | ⟨a, l, c, m, n, D, Pl, hc, _, hl, hm, hmm, hx, hall⟩
  · simp [Value.cells] at hc
    obtain ⟨rfl, rfl, rfl⟩ := hc
    exact ⟨0, 0, [], rfl, by omega, ⟨by simp, by simp⟩, fun h => by omega, fun h => by omega⟩
  · simp [Value.cells] at hc
    obtain ⟨rfl, rfl, rfl⟩ := hc
    simp only [if_true] at hmm
    subst hmm
    simp only [Prod.mk.injEq, cellsOp] at hx
    obtain ⟨hd, hp⟩ := hx
    subst hd
    subst hp
    simp only [cellsOp] at hall
    simp only [DataW.weights, Try.underlying22, bytesOp, List.length_map, List.length_range] at hr
    have hcap := hr _ (List.mem_cons_self ..)
    simp only [reachBytes] at hcap
    obtain ⟨F, hF⟩ := choose_lt (α := Fl) (n := len) (p := fun i f => f.Ok W.heap.size W ∧ ∀ j v, f.cells[j]? = some v → W.cell? (a.add (i * 6 + j)) = some v) (fun i hi => by
      obtain ⟨cs, h1, h2⟩ := hall i (by omega)
      obtain ⟨f, rfl, hok⟩ := view_field h2 (fun n hn => hr n (List.mem_cons_of_mem _ (List.mem_append_left _ (weights_all hn (List.mem_map.2 ⟨i, List.mem_range.2 hi, rfl⟩)))))
      refine ⟨f, hok, fun j v hj => ?_⟩
      have hj6 : j < 6 := by
        have := (Array.getElem?_eq_some_iff.1 hj).1
        simpa [Fl.cells] using this
      have h3 := (World.cells?_some h1).2.2 j hj6
      rw [add_add] at h3
      rw [h3]
      simpa using hj)
    by_cases hp : 0 < len
    · obtain ⟨b, off, spot⟩ := a
      have h00 := (hF 0 hp).2 0 _ rfl
      have hspot : spot = none := by simpa [Addr.add] using World.cell?_spot h00
      subst hspot
      have hbW : b < W.heap.size := hlt (.cell b off) (List.mem_append_left _ (MemPlace.mem_row.2 ⟨0, by omega, by simp⟩))
      refine ⟨b, off, (List.range len).map F, by simp, by omega, ⟨?_, ?_⟩, fun _ => rfl, fun _ => hbW⟩
      · intro f hf
        obtain ⟨i, hi, rfl⟩ := List.mem_map.1 hf
        exact (hF i (List.mem_range.1 hi)).1
      · intro i f hi j v hj
        have hil : i < len := by
          have := (List.getElem?_eq_some_iff.1 hi).1
          simpa using this
        rw [List.getElem?_map, List.getElem?_range hil] at hi
        cases hi
        have := (hF i hil).2 j v hj
        rw [add_plain] at this
        rw [Nat.add_assoc]
        exact this
    · obtain rfl : len = 0 := by omega
      exact ⟨0, 0, [], rfl, by omega, ⟨by simp, by simp⟩, fun h => by omega, fun h => by omega⟩

end Go.Proofs.Ytgdliomkdkjlaaa
