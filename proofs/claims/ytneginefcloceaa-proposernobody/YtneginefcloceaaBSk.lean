import Derived.Test.YtneginefcloceaaBGs
namespace Go.Proofs.Ytneginefcloceaa
open Go.RowKit

/-- The reference's group of a configuration that it took. -/
def haOk (c : Cf) (W : World) (b : Option Addr) : Prop := ∃ h, b = some ⟨h, 0, none⟩ ∧ RefG W h c ∧ h < W.heap.size
theorem haOk.kept {c : Cf} {W W' : World} {b : Option Addr} (h : haOk c W b) (hb : Below W.heap.size W W') : haOk c W' b := by
  obtain ⟨g, rfl, h1, h2⟩ := h
  exact ⟨g, rfl, h1.below hb h2, Nat.lt_of_lt_of_le h2 hb.size⟩
theorem oks_all {bs : List Bool} (h : badOf bs = -1) : ∀ j, j < bs.length → bs.getD j true = true := by
  intro j hj
  cases hb : bs.getD j true with
  | true => rfl
  | false =>
    exfalso
    unfold badOf at h
    rw [List.getD_eq_getElem?_getD, List.getElem?_eq_getElem hj] at hb
    have hlt : bs.findIdx (fun b => !b) < bs.length := List.findIdx_lt_length_of_exists ⟨bs[j], List.getElem_mem hj, by simpa using hb⟩
    rw [if_pos hlt] at h
    omega
theorem cf_ok {c : Cf} (h : badOf c.oks = -1) : c.Ok := by
  have a := oks_all h
  have a0 := a 0 (by simp [Cf.oks])
  have a3 := a 3 (by simp [Cf.oks])
  have a8 := a 8 (by simp [Cf.oks])
  have a9 := a 9 (by simp [Cf.oks])
  simp only [Cf.oks, List.getD_eq_getElem?_getD, List.getElem?_cons_zero, List.getElem?_cons_succ, Option.getD_some, Bool.and_eq_true, decide_eq_true_eq] at a0 a3 a8 a9
  exact ⟨by omega, by omega, by omega, by omega, by omega, by omega, by omega, by omega⟩
end Go.Proofs.Ytneginefcloceaa
