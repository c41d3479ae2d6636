import Derived.Test.YtneginefcloceaaBKd
import Derived.Test.YtneginefcloceaaBFld
import Derived.Test.YtneginefcloceaaBVal
import Derived.Deep.DeepCutAuto
namespace Go.Proofs.Ytneginefcloceaa
open Go.RowKit

theorem fv_grownN {lim : Nat} {W W' : World} {ao : Option Addr} {L : List Lk} {b off q : Nat} (h : FV lim W ao L b off) (hg : W.grownBy W' (some q)) (hB : 0 < L.length → b ≠ q) : FV lim W' ao L b off :=
  ⟨h.ad, h.lt, h.le, fun i l hl => by
    have hp : 0 < L.length := by have := (List.getElem?_eq_some_iff.1 hl).1; omega
    have hne : some b ≠ some q := fun e => hB hp (by cases e; rfl)
    exact ⟨hg.cell (h.at_ i l hl).1 hne, hg.cell (h.at_ i l hl).2 hne⟩⟩
theorem fv_neN {w : World} {ao : Option Addr} {L : List Lk} {b off B : Nat} {lim : Nat} {cs : Array Value} {t : TypeId} (hf : FV lim w ao L b off) (hB : w.heap[B]? = some (.cells cs t (0, 0))) (hc : ∀ (i : Nat) (s : ByteArray), cs[i]? ≠ some (.string s)) : 0 < L.length → b ≠ B := fun h0 e => by
  have h1 := (hf.at_ 0 _ (List.getElem?_eq_getElem h0)).1
  rw [e, block_cell hB] at h1
  exact hc _ _ h1
theorem nos (i : Nat) (s : ByteArray) : (#[Value.slice none 0 0, .int .i64 0] : Array Value)[i]? ≠ some (.string s) := by
  rcases i with _ | _ | _
  · simp
  · simp
  · simp
def ballotN : ByteArray := ⟨#[98, 97, 108, 108, 111, 116]⟩
/-- What the reference's New hands out. -/
def RNewP (w : World) (gp : Value) (L : List Lk) (c : Int) (e : Ending) (w' : World) : Prop := ∃ fo fc, e = .returned (.tuple #[gp, .agg #[.slice fo L.length fc, .int .i64 c]]) ∧ Hid ((∃ b off, FV w'.heap.size w' fo L b off) ∧ Below w.heap.size w w')
end Go.Proofs.Ytneginefcloceaa
