import Derived.Test.YtidhondcfagoaaaDoorM21
import Derived.Test.YtidhondcfagoaaaDoorM22
import Derived.Test.YtidhondcfagoaaaDoorM23
import Derived.Test.YtidhondcfagoaaaDoorM30
namespace Go.Proofs.YtidhondcfagoaaaDoor
open Go.RowKit Crc

/-- What comes of a batch. -/
def bRes (stamp : Nat) (rs : List Rq) : List Nat := if (bFault stamp rs).2 = 0 then encL stamp rs else []
theorem Rqs.wide {lim lim' : Nat} {w : World} {ro : Option Addr} {rs : List Rq} {b off : Nat} (h : Rqs lim w ro rs b off) (hl : lim ≤ lim') : Rqs lim' w ro rs b off :=
  ⟨h.ad, fun h0 => Nat.lt_of_lt_of_le (h.lt h0) hl, h.le, h.at_, fun r hr => ⟨(h.ok r hr).hc, (h.ok r hr).hs, (h.ok r hr).hC.wide hl⟩⟩
theorem Owns.low {base base' : Nat} {w : World} {v : Value} {B : List Nat} (h : Owns base w v B) (hl : base' ≤ base) : Owns base' w v B := by
  refine ⟨⟨h.1.1, ?_⟩, h.2⟩
  rcases h.1.2 with h0 | ⟨g, cap, cur, h1, h2, h3⟩
  · exact .inl h0
  · exact .inr ⟨g, cap, cur, h1, Nat.le_trans hl h2, h3⟩
theorem bGo_at : ∀ (rs : List Rq) (i : Nat), (bGo rs i).2 = 0 → (bGo rs i).1 = 0
  | [], _, _ => rfl
  | x :: t, i, h => by
    by_cases hx : x.why = 0
    · rw [bGo, if_pos hx] at h ⊢
      exact bGo_at t (i + 1) h
    · rw [bGo, if_neg hx] at h
      exact absurd h hx
theorem bFault_at {stamp : Nat} {rs : List Rq} (h : (bFault stamp rs).2 = 0) : (bFault stamp rs).1 = 0 := by
  unfold bFault at h ⊢
  by_cases h1 : 1099511627776 < stamp
  · rw [if_pos h1] at h; cases h
  · by_cases h2 : 8 < rs.length
    · rw [if_neg h1, if_pos h2] at h; cases h
    · rw [if_neg h1, if_neg h2] at h ⊢
      exact bGo_at rs 0 h

end Go.Proofs.YtidhondcfagoaaaDoor
namespace Go.Proofs.YtidhondcfagoaaaDoor
open Go.RowKit Crc

theorem alloc_at (w : World) (o : Obj) : (w.alloc o).heap[w.heap.size]? = some o := by simp [World.alloc, -World.alloc_eq]
theorem fin_two {w w3 : World} {v : Value} {B : List Nat} (h : Owns (w.heap.size + 1 + 1) w3 v B) (hb : Below w.heap.size w w3) (x y : Value) :
    Owns w.heap.size ((w3.setCell ⟨w.heap.size + 1, 0, none⟩ x).setCell ⟨w.heap.size + 1, 1, none⟩ y) v B ∧ Below w.heap.size w ((w3.setCell ⟨w.heap.size + 1, 0, none⟩ x).setCell ⟨w.heap.size + 1, 1, none⟩ y) := by
  have hne : v.ownBlock ≠ some (w.heap.size + 1) := fun e => by have := (h.1.lt _ e).1; omega
  exact ⟨((h.kept (grown_set _ _ _ _) (.inr hne)).kept (grown_set _ _ _ _) (.inr hne)).low (by omega), (hb.setCell (p := ⟨w.heap.size + 1, 0, none⟩) (by simp) _).setCell (p := ⟨w.heap.size + 1, 1, none⟩) (by simp) _⟩

end Go.Proofs.YtidhondcfagoaaaDoor
