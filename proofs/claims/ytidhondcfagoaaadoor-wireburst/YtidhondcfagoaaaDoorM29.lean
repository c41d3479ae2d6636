import Derived.Test.YtidhondcfagoaaaDoorM28
namespace Go.Proofs.YtidhondcfagoaaaDoor
open Go.RowKit Crc

theorem KeepW.below {base : Nat} {w w' : World} (h : KeepW base w w') : Below base w w' := h w (Below.refl _ _)
theorem Shows.belowB {base : Nat} {w w' : World} {ao : Option Addr} {n cap : Nat} {B : List Nat} (h : Shows base w ao n cap B) (hb : Below base w w') : Shows base w' ao n cap B := by
  obtain ⟨h1, h2, h3, h4, b, off, h5, h6, h7⟩ := h
  refine ⟨h1, h2, h3, h4, b, off, h5, h6, fun i hi => ?_⟩
  rw [← h7 i hi]
  exact hb.cell (p := ⟨b, off + i, none⟩) (h6 (by omega))
theorem Lent.keepAt {w w' : World} {gc n : Nat} {B : List Nat} (h : Lent w gc n B) (hk : w'.heap[gc]? = w.heap[gc]?) : Lent w' gc n B := by
  obtain ⟨h0, h1, h2⟩ := h
  refine ⟨h0, h1, ?_⟩
  rcases h2 with h2 | ⟨g, cap, cur, hv, hbg, hg, hr⟩
  · exact .inl h2
  · have e : g = gc := by
      simp only [Value.slice.injEq, Option.some.injEq, Addr.mk.injEq, and_true] at hv
      exact hv.1.symm
    exact .inr ⟨g, cap, cur, hv, hbg, (by rw [e] at hg ⊢; exact hk.trans hg), hr⟩
theorem Lent.ownsW {w : World} {gc n : Nat} {B : List Nat} (h : Lent w gc n B) (hB : ∀ x ∈ B, x < 256) (hl : n ≤ 140737488355328) : Owns gc w (.slice (some ⟨gc, 0, none⟩) n (n + 4)) B := by
  obtain ⟨h1, h2, h3⟩ := h
  subst h1
  rcases h3 with ⟨h4, _⟩ | ⟨g, cap, cur, hv, hbg, hg, hnc, hcm, hcs, htake⟩
  · cases h4
  · simp only [Value.slice.injEq, Option.some.injEq, Addr.mk.injEq, and_true, true_and] at hv
    obtain ⟨rfl, rfl⟩ := hv
    refine ⟨⟨by simp [vals], .inr ⟨gc, B.length + 4, cur, rfl, hbg, hg, by omega, hcm, hcs, ?_⟩⟩, hB, hl⟩
    have h5 : cur.toList.take (B.length * 1) = (cur.toList.take ((B.length + 4) * 1)).take (B.length * 1) := by
      rw [List.take_take]
      congr 1
      omega
    rw [h5, htake]
    unfold vals
    rw [List.map_append, List.take_left' (by simp)]

end Go.Proofs.YtidhondcfagoaaaDoor
namespace Go.Proofs.YtidhondcfagoaaaDoor
open Go.RowKit Crc

theorem WS.shown_len {s : WS} (h : s.Inv) : s.shown.length ≤ 65507 := by
  unfold WS.shown
  split
  · rename_i hs
    have := h hs.1
    omega
  · simp

end Go.Proofs.YtidhondcfagoaaaDoor
