import Derived.Test.YtidhondcfagoaaaDoorM14
import Derived.Test.YtidhondcfagoaaaDoorM17
import Derived.Test.YtidhondcfagoaaaDoorM18
namespace Go.Proofs.YtidhondcfagoaaaDoor
open Go.RowKit Crc

def TchP (w w' : World) (po : Option Addr) : Prop := (po = none ∧ w.grownBy w' none) ∨ ∃ p, po = some ⟨p, 0, none⟩ ∧ Tch 4 w w' p
/-- What holds of every writer that was made: its bound, and that it is kept. -/
def WS.Inv (s : WS) : Prop := s.made = true → s.most ≤ 65507 ∧ (s.L.length : Int) ≤ s.most
theorem WS.put_inv {s : WS} (h : s.Inv) (F : List Nat) (y : Int) : (s.put F y).Inv := by
  unfold WS.put
  split
  · rename_i hs
    split
    · exact h
    · split
      · exact h
      · intro hm
        have h1 := h hm
        refine ⟨h1.1, ?_⟩
        simp only [List.length_append]
        omega
  · exact h
theorem wrS_open {base p : Nat} {w : World} {s : WS} (h : WrS base w p s) (hs : s.sound) : Wr s.K base w p true s.place 0 s.most s.L := by
  have h1 : Wr s.K base w p s.made s.place s.why s.most s.L := h
  rwa [hs.1, hs.2] at h1

/-- Why a length may not be. -/
def cntY (n most : Int) : Int := if n < 0 ∨ most < n then 21 else 0
end Go.Proofs.YtidhondcfagoaaaDoor
namespace Go.Proofs.YtidhondcfagoaaaDoor
open Go.RowKit Crc

theorem Shows.sep {lim : Nat} {w w' : World} {row : Option Nat} {ao : Option Addr} {n cap : Nat} {B : List Nat} (h : Shows lim w ao n cap B) (hg : w.grownBy w' row) (hs : ∀ g, row = some g → ∀ b off, ao = some ⟨b, off, none⟩ → b ≠ g) : Shows lim w' ao n cap B := by
  obtain ⟨h1, h2, h3, h4, b, off, h5, h6, h7⟩ := h
  refine ⟨h1, h2, h3, h4, b, off, h5, h6, fun i hi => ?_⟩
  exact hg.cell (h7 i hi) (fun e => hs b e.symm b off (h5 (by omega)) rfl)

/-- Why a text may not be. -/
def txtY (S : ByteArray) (most : Int) : Int := if most < (S.size : Int) then 21 else if utf8Ok S = true then 0 else 27
theorem TchP.below {w w1 w2 : World} {po : Option Addr} (hb : Below w.heap.size w w1) (hp : ∀ p, po = some ⟨p, 0, none⟩ → p < w.heap.size) (h : TchP w1 w2 po) : TchP w w2 po := by
  rcases h with ⟨rfl, hg⟩ | ⟨p, rfl, h⟩
  · exact .inl ⟨rfl, grown_trans (below_none hb) hg⟩
  · exact .inr ⟨p, rfl, Tch.from hb (hp p rfl) h⟩
end Go.Proofs.YtidhondcfagoaaaDoor
