import Derived.Test.YthacdhhmmmocpaaGreatDoorPView
namespace Go.Proofs.YthacdhhmmmocpaaGreatDoor
open Go.ChangeShapes Go.WideShapes Go.ChangeAt Go.RowKit Go.Deep

theorem Fl.Ok.next {lim : Nat} {w w' : World} {f : Fl} {row : Option Nat} (h : f.Ok lim w) (hg : w.grownBy w' row) (hr : ∀ g, row = some g → lim ≤ g) : f.Ok lim w' :=
  ⟨h.hN, h.hK1, h.hK2, h.hI1, h.hI2, h.hM1, h.hM2, h.hB.kept hg hr, h.hS⟩

/-- The fields as they lie, one behind the other. -/
structure Fls (lim : Nat) (w : World) (b off : Nat) (fs : List Fl) : Prop where
  ok : ∀ f ∈ fs, f.Ok lim w
  at_ : ∀ i f, fs[i]? = some f → ∀ j v, f.cells[j]? = some v → w.cell? ⟨b, off + i * 6 + j, none⟩ = some v
theorem Fls.next {lim : Nat} {w w' : World} {b off : Nat} {fs : List Fl} {row : Option Nat} (h : Fls lim w b off fs) (hb : b < lim) (hg : w.grownBy w' row) (hr : ∀ g, row = some g → lim ≤ g) : Fls lim w' b off fs :=
  ⟨fun f hf => (h.ok f hf).next hg hr, fun i f hi j v hj => hg.cell (h.at_ i f hi j v hj) (fun e => by have := hr b e.symm; omega)⟩

instance : Inhabited Fl := ⟨⟨0, 0, 0, none, 0, 0, [], ByteArray.empty, 0⟩⟩
end Go.Proofs.YthacdhhmmmocpaaGreatDoor
