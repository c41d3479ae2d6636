import Derived.Test.YtneginefcloceaaBKd
import Derived.Deep.DeepAppendWide
namespace Go.Proofs.Ytneginefcloceaa
open Go.RowKit

theorem Chain.otherS {n q : Nat} {W W' : World} (hg : W.grownBy W' (some q)) {o : Option Addr} {k m : Nat} (hq : W.cell? ⟨q, 0, none⟩ = some (.slice o k m)) : ∀ {L : List Lk} {u : Value} {c : Int}, Chain n W L u c → Chain n W' L u c
  | [], _, _, h => h
  | l :: r, u, c, h => by
    obtain ⟨g, v, e, hlt, h0, h1, h2, h3⟩ := h
    have hne : g ≠ q := fun e => by rw [e, hq] at h0; cases h0
    have hne' : some g ≠ some q := fun e => hne (by cases e; rfl)
    exact ⟨g, v, e, hlt, hg.cell h0 hne', hg.cell h1 hne', hg.cell h2 hne', Chain.otherS hg hq h3⟩
end Go.Proofs.Ytneginefcloceaa
