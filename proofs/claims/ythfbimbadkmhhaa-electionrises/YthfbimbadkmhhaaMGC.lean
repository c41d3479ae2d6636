import Derived.Test.YthfbimbadkmhhaaMBNew
import Derived.Deep.RegionHeld
import Derived.Deep.RegionWith
namespace Go.Proofs.Ythfbimbadkmhhaa
open Go.RowKit

theorem new_fin {w w2 : World} {p : Nat} (hb : Below w.heap.size w w2) (hp : w.heap.size ≤ p) (u0 u1 : Value) (o1 o2 : Obj) :
    Below w.heap.size w ((((w2.setCell ⟨p, 0, none⟩ u0).setCell ⟨p, 1, none⟩ u1).alloc o1).alloc o2).drew ∧ ((((w2.setCell ⟨p, 0, none⟩ u0).setCell ⟨p, 1, none⟩ u1).alloc o1).alloc o2).drew.heap[w2.heap.size]? = some o1 ∧ ((((w2.setCell ⟨p, 0, none⟩ u0).setCell ⟨p, 1, none⟩ u1).alloc o1).alloc o2).drew.heap[w2.heap.size + 1]? = some o2 := by
  have b2 := (hb.setCell (p := ⟨p, 0, none⟩) hp u0).setCell (p := ⟨p, 1, none⟩) hp u1
  have hs : ((w2.setCell ⟨p, 0, none⟩ u0).setCell ⟨p, 1, none⟩ u1).heap.size = w2.heap.size := by simp
  generalize ((w2.setCell ⟨p, 0, none⟩ u0).setCell ⟨p, 1, none⟩ u1) = W at *
  refine ⟨((b2.alloc b2.size o1).alloc (by have := b2.size; simp; omega) o2).drew, ?_, ?_⟩
  · rw [← hs]
    exact (Below.heap_alloc (W.alloc o1) o2 W.heap.size (by simp)).trans (alloc_atK W o1)
  · have h := alloc_atK (W.alloc o1) o2
    rw [show (W.alloc o1).heap.size = W.heap.size + 1 by simp, hs] at h
    exact h
end Go.Proofs.Ythfbimbadkmhhaa
namespace Go.Proofs.Ythfbimbadkmhhaa
open Go.RowKit

/-- An error that is told so: none, or a chain of faults. -/
def ErrP (w : World) (L : List Lk) (c : Int) (v : Value) : Prop := (v = .nilIface ∧ L = [] ∧ c = 0) ∨ (Chain w.heap.size w L v c ∧ 0 < L.length ∧ L.length ≤ 11 ∧ c ≠ 0)
theorem ErrP.below {w w' : World} {L : List Lk} {c : Int} {v : Value} (h : ErrP w L c v) (hb : Below w.heap.size w w') : ErrP w' L c v := by
  rcases h with h | ⟨h1, h2⟩
  · exact .inl h
  · exact .inr ⟨(Chain.below hb h1).wide hb.size, h2⟩
/-- A value and an error. -/
def PNewP (w : World) (gp : Value) (L : List Lk) (c : Int) (e : Ending) (w' : World) : Prop := ∃ ev, e = .returned (.tuple #[gp, ev]) ∧ Hid (ErrP w' L c ev ∧ Below w.heap.size w w')
theorem cfg_cells {W : World} {n : Nat} {c : Cf} {t : TypeId} (h : W.heap[n]? = some (.cells c.cells t (0, 0))) :
    W.cell? ⟨n, 0, none⟩ = some (.int .i64 c.f) ∧ W.cell? ⟨n, 1, none⟩ = some (.int .i64 c.mb) ∧ W.cell? ⟨n, 2, none⟩ = some (.int .u64 (c.delay : Nat)) ∧ W.cell? ⟨n, 3, none⟩ = some (.int .u64 (c.win : Nat)) ∧ W.cell? ⟨n, 4, none⟩ = some (.int .u64 (c.every : Nat)) ∧ W.cell? ⟨n, 5, none⟩ = some (.int .u64 (c.beat : Nat)) ∧ W.cell? ⟨n, 6, none⟩ = some (.int .u64 (c.ep : Nat)) ∧ W.cell? ⟨n, 7, none⟩ = some (.int .u64 (c.em : Nat)) ∧ W.cell? ⟨n, 8, none⟩ = some (.int .u64 (c.mn : Nat)) ∧ W.cell? ⟨n, 9, none⟩ = some (.int .u64 (c.ms : Nat)) :=
  ⟨block_cell h 0, block_cell h 1, block_cell h 2, block_cell h 3, block_cell h 4, block_cell h 5, block_cell h 6, block_cell h 7, block_cell h 8, block_cell h 9⟩
end Go.Proofs.Ythfbimbadkmhhaa
namespace Go.Proofs.Ythfbimbadkmhhaa
open Go.RowKit

/-- The reference's group of a configuration that it took. -/
def haOk (c : Cf) (W : World) (b : Option Addr) : Prop := ∃ h, b = some ⟨h, 0, none⟩ ∧ RefG W h c ∧ h < W.heap.size
theorem haOk.kept {c : Cf} {W W' : World} {b : Option Addr} (h : haOk c W b) (hb : Below W.heap.size W W') : haOk c W' b := by
  obtain ⟨g, rfl, h1, h2⟩ := h
  exact ⟨g, rfl, h1.below hb h2, Nat.lt_of_lt_of_le h2 hb.size⟩
theorem oks_all {bs : List Bool} (h : badOf bs = -1) : ∀ j, j < bs.length → bs.getD j true = true := by
  intro j hj
  cases hb : bs.getD j true with
  | true => rfl
  | false =>
    exfalso
    unfold badOf at h
    rw [List.getD_eq_getElem?_getD, List.getElem?_eq_getElem hj] at hb
    have hlt : bs.findIdx (fun b => !b) < bs.length := List.findIdx_lt_length_of_exists ⟨bs[j], List.getElem_mem hj, by simpa using hb⟩
    rw [if_pos hlt] at h
    omega
theorem cf_ok {c : Cf} (h : badOf c.oks = -1) : c.Ok := by
  have a := oks_all h
  have a0 := a 0 (by simp [Cf.oks])
  have a3 := a 3 (by simp [Cf.oks])
  have a8 := a 8 (by simp [Cf.oks])
  have a9 := a 9 (by simp [Cf.oks])
  simp only [Cf.oks, List.getD_eq_getElem?_getD, List.getElem?_cons_zero, List.getElem?_cons_succ, Option.getD_some, Bool.and_eq_true, decide_eq_true_eq] at a0 a3 a8 a9
  exact ⟨by omega, by omega, by omega, by omega, by omega, by omega, by omega, by omega⟩
end Go.Proofs.Ythfbimbadkmhhaa
