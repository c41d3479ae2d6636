import Derived.Test.YtidhondcfagoaaaDoorM24
import Derived.Test.YtidhondcfagoaaaDoorM25
import Derived.Test.YtidhondcfagoaaaDoorM26
import Derived.Test.YtidhondcfagoaaaDoorM18
import Derived.Test.YtidhondcfagoaaaDoorM27
namespace Go.Proofs.YtidhondcfagoaaaDoor
open Go.RowKit Crc

/-- What lay below base is kept. -/
def KeepW (base : Nat) (w w' : World) : Prop := ∀ W, Below base W w → Below base W w'
theorem KeepW.trans {base : Nat} {a b c : World} (h : KeepW base a b) (k : KeepW base b c) : KeepW base a c := fun W hW => k W (h W hW)

theorem Owns.keepAt {base : Nat} {w w' : World} {v : Value} {B : List Nat} (h : Owns base w v B) (hk : ∀ g, v.ownBlock = some g → w'.heap[g]? = w.heap[g]?) : Owns base w' v B := by
  obtain ⟨⟨h1, h2⟩, h3, h4⟩ := h
  refine ⟨⟨h1, ?_⟩, h3, h4⟩
  rcases h2 with h2 | ⟨g, cap, cur, hv, hbg, hg, hr⟩
  · exact .inl h2
  · exact .inr ⟨g, cap, cur, hv, hbg, (hk g (by rw [hv]; rfl)).trans hg, hr⟩
theorem cell_keepAt {w w' : World} {p j : Nat} (h : w'.heap[p]? = w.heap[p]?) : w'.cell? ⟨p, j, none⟩ = w.cell? ⟨p, j, none⟩ := by simp [World.cell?, h]
theorem Foot.keepAt {w w' : World} {p j k : Nat} (h : w'.heap[p]? = w.heap[p]?) : Foot w' p j k ↔ Foot w p j k := by unfold Foot; rw [cell_keepAt h]
theorem WrS.keepAt {base p : Nat} {w w' : World} {s : WS} (h : WrS base w p s) (hk : ∀ k, Foot w p 4 k → w'.heap[k]? = w.heap[k]?) : WrS base w' p s := by
  obtain ⟨v, hb, hO, hne⟩ := h
  have c4 := block_cell hb 4
  simp at c4
  exact ⟨v, (hk p (.inl rfl)).trans hb, hO.keepAt (fun g hg => hk g (.inr ⟨v, c4, hg⟩)), hne⟩
theorem owns_lt {base : Nat} {w : World} {v : Value} {B : List Nat} (h : Owns base w v B) : ∀ g, v.ownBlock = some g → g < w.heap.size := by
  intro g hg
  obtain ⟨a0, c0, rfl, _, (⟨rfl, _⟩ | ⟨g', rfl, hb, hl⟩)⟩ := h.form
  · cases hg
  · have : g' = g := by simpa [Value.ownBlock] using hg
    omega
theorem WrS.foot {base p : Nat} {w : World} {s : WS} (h : WrS base w p s) (hp : base ≤ p) {k : Nat} (hk : Foot w p 4 k) : base ≤ k ∧ k < w.heap.size := by
  obtain ⟨v, hb, hO, hne⟩ := h
  rcases hk with rfl | ⟨u, hu, hg⟩
  · exact ⟨hp, block_lt hb⟩
  · have c4 := block_cell hb 4
    rw [hu] at c4
    simp at c4
    subst c4
    exact ⟨ownx_far hO k hg, owns_lt hO k hg⟩
/-- The blocks of the program's writer, nil or not. -/
def FootP (w : World) (po : Option Addr) (k : Nat) : Prop := ∃ p, po = some ⟨p, 0, none⟩ ∧ Foot w p 4 k
theorem FootP.keepAt {w w' : World} {po : Option Addr} {k : Nat} (hk : ∀ k, FootP w po k → w'.heap[k]? = w.heap[k]?) : FootP w' po k ↔ FootP w po k := by
  constructor
  · rintro ⟨p, rfl, h⟩
    exact ⟨p, rfl, (Foot.keepAt (hk p ⟨p, rfl, .inl rfl⟩)).1 h⟩
  · rintro ⟨p, rfl, h⟩
    exact ⟨p, rfl, (Foot.keepAt (hk p ⟨p, rfl, .inl rfl⟩)).2 h⟩
theorem WS.put_place {s : WS} (h : s.sound → s.place = 0) (F : List Nat) (y : Int) : (s.put F y).sound → (s.put F y).place = 0 := by
  unfold WS.put
  split
  · rename_i hs
    split
    · rename_i hy; intro h2; exact absurd h2.2 hy
    · split
      · intro h2; cases h2.2
      · intro _; exact h hs
  · exact h
end Go.Proofs.YtidhondcfagoaaaDoor
namespace Go.Proofs.YtidhondcfagoaaaDoor
open Go.RowKit Crc

end Go.Proofs.YtidhondcfagoaaaDoor
