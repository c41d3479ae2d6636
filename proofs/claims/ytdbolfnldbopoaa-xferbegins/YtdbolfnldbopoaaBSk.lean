import Derived.Test.YtdbolfnldbopoaaBGs
namespace Go.Proofs.Ytdbolfnldbopoaa
open Go.RowKit

/-- The reference's group of a configuration that it took. -/
def haOk (c : Cf) (W : World) (b : Option Addr) : Prop := ∃ h, b = some ⟨h, 0, none⟩ ∧ RefG W h c ∧ h < W.heap.size
theorem haOk.kept {c : Cf} {W W' : World} {b : Option Addr} (h : haOk c W b) (hb : Below W.heap.size W W') : haOk c W' b := by
  obtain ⟨g, rfl, h1, h2⟩ := h
  exact ⟨g, rfl, h1.below hb h2, Nat.lt_of_lt_of_le h2 hb.size⟩
theorem oks_all {bs : List Bool} (h : badOf bs = -1) : ∀ j, j < bs.length → bs.getD j true = true := by
  intro j hj
  cases hb : bs.getD j true with
  | true => rfl
  | false =>
    exfalso
    unfold badOf at h
    rw [List.getD_eq_getElem?_getD, List.getElem?_eq_getElem hj] at hb
    have hlt : bs.findIdx (fun b => !b) < bs.length := List.findIdx_lt_length_of_exists ⟨bs[j], List.getElem_mem hj, by simpa using hb⟩
    rw [if_pos hlt] at h
    omega
theorem cf_ok {c : Cf} (h : badOf c.oks = -1) : c.Ok := by
  have a := oks_all h
  have a0 := a 0 (by simp [Cf.oks])
  have a3 := a 3 (by simp [Cf.oks])
  have a8 := a 8 (by simp [Cf.oks])
  have a9 := a 9 (by simp [Cf.oks])
  simp only [Cf.oks, List.getD_eq_getElem?_getD, List.getElem?_cons_zero, List.getElem?_cons_succ, Option.getD_some, Bool.and_eq_true, decide_eq_true_eq] at a0 a3 a8 a9
  exact ⟨by omega, by omega, by omega, by omega, by omega, by omega, by omega, by omega⟩
theorem refNew_okP (c : Cf) (hk : badOf c.oks = -1) (W : World) : Calls Try.prog 29 #[.agg c.cells] W fun e w' => ∃ a, RNewP W (.pointer a) [] 0 e w' ∧ Hid (haOk c w' a) :=
  (refNew_ok c hk W).mono fun _ _ ⟨g, h1, h2⟩ => ⟨some ⟨g, 0, none⟩, h1, g, rfl, ⟨(cfg_cells h2.out.1).1, (cfg_cells h2.out.1).2.2.2.1, (cfg_cells h2.out.1).2.2.2.2.2.2.2.2.1, (cfg_cells h2.out.1).2.2.2.2.2.2.2.2.2, cf_ok hk⟩, block_lt h2.out.1⟩
theorem refNew_badP (c : Cf) (k : Nat) (hk : badOf c.oks = (k : Int)) (W : World) : Calls Try.prog 29 #[.agg c.cells] W fun e w' => ∃ a, RNewP W (.pointer a) [⟨ballotN, (k : Int)⟩] 180 e w' ∧ Hid (a = none) :=
  (refNew_bad c k hk W).mono fun _ _ h => ⟨none, h, rfl⟩
end Go.Proofs.Ytdbolfnldbopoaa
