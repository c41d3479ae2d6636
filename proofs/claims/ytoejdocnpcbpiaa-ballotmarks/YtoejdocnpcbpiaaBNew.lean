import Derived.Test.YtoejdocnpcbpiaaBKd
import Derived.Test.YtoejdocnpcbpiaaBFld
import Derived.Test.YtoejdocnpcbpiaaBVal
import Derived.Deep.DeepCutAuto
namespace Go.Proofs.Ytoejdocnpcbpiaa
open Go.RowKit

theorem fv_grownN {lim : Nat} {W W' : World} {ao : Option Addr} {L : List Lk} {b off q : Nat} (h : FV lim W ao L b off) (hg : W.grownBy W' (some q)) (hB : 0 < L.length → b ≠ q) : FV lim W' ao L b off :=
  ⟨h.ad, h.lt, h.le, fun i l hl => by
    have hp : 0 < L.length := by have := (List.getElem?_eq_some_iff.1 hl).1; omega
    have hne : some b ≠ some q := fun e => hB hp (by cases e; rfl)
    exact ⟨hg.cell (h.at_ i l hl).1 hne, hg.cell (h.at_ i l hl).2 hne⟩⟩
theorem fv_neN {w : World} {ao : Option Addr} {L : List Lk} {b off B : Nat} {lim : Nat} {cs : Array Value} {t : TypeId} (hf : FV lim w ao L b off) (hB : w.heap[B]? = some (.cells cs t (0, 0))) (hc : ∀ (i : Nat) (s : ByteArray), cs[i]? ≠ some (.string s)) : 0 < L.length → b ≠ B := fun h0 e => by
  have h1 := (hf.at_ 0 _ (List.getElem?_eq_getElem h0)).1
  rw [e, block_cell hB] at h1
  exact hc _ _ h1
theorem nos (i : Nat) (s : ByteArray) : (#[Value.slice none 0 0, .int .i64 0] : Array Value)[i]? ≠ some (.string s) := by
  rcases i with _ | _ | _
  · simp
  · simp
  · simp
def FBox (p : Nat) (W : World) : Prop := W.heap[p]? = some (.cells #[.slice none 0 0, .int .i64 0] 30 (0, 0))
theorem FBox.kept {p : Nat} {W W' : World} (h : FBox p W) (hb : Below W.heap.size W W') : FBox p W' := (hb.block _ (block_lt h)).trans h
theorem fbox_new (w : World) : FBox w.heap.size (w.alloc (.cells #[.slice none 0 0, .int .i64 0] 30)) := alloc_atK _ _
/-- The fault is laid into its box, which is block p. -/
theorem box_fin {p : Nat} {w w3 : World} {fo : Option Addr} {L : List Lk} {b off : Nat} (hr : FBox p w3) (hp : w.heap.size ≤ p) (hf : FV w3.heap.size w3 fo L b off) (hb : Below w.heap.size w w3) (u0 u1 : Value) :
    (∃ b off, FV ((w3.setCell ⟨p, 0, none⟩ u0).setCell ⟨p, 1, none⟩ u1).heap.size ((w3.setCell ⟨p, 0, none⟩ u0).setCell ⟨p, 1, none⟩ u1) fo L b off) ∧ Below w.heap.size w ((w3.setCell ⟨p, 0, none⟩ u0).setCell ⟨p, 1, none⟩ u1) ∧ w3.grownBy ((w3.setCell ⟨p, 0, none⟩ u0).setCell ⟨p, 1, none⟩ u1) (some p) := by
  have hg : w3.grownBy ((w3.setCell ⟨p, 0, none⟩ u0).setCell ⟨p, 1, none⟩ u1) (some p) := grown_trans (grown_set w3 p 0 u0) (grown_set _ p 1 u1)
  have hs : ((w3.setCell ⟨p, 0, none⟩ u0).setCell ⟨p, 1, none⟩ u1).heap.size = w3.heap.size := by simp
  refine ⟨⟨b, off, ?_⟩, hb.grown hg hb.size (fun k hk => by cases hk; exact hp), hg⟩
  rw [hs]
  exact fv_grownN hf hg (fv_neN hf hr nos)
def ballotN : ByteArray := ⟨#[98, 97, 108, 108, 111, 116]⟩
/-- What the reference's New hands out. -/
def RNewP (w : World) (gp : Value) (L : List Lk) (c : Int) (e : Ending) (w' : World) : Prop := ∃ fo fc, e = .returned (.tuple #[gp, .agg #[.slice fo L.length fc, .int .i64 c]]) ∧ Hid ((∃ b off, FV w'.heap.size w' fo L b off) ∧ Below w.heap.size w w')
end Go.Proofs.Ytoejdocnpcbpiaa
