import Derived.Test.YtpdjnbpjgpdnkaaGreatDoorX11
import Derived.OrdersHeld
import Derived.BigQuiet
namespace Go.Proofs.YtpdjnbpjgpdnkaaGreatDoor
open Go.RowKit

def statF (p : Pv) : Option (Int × Int) := (sizeF p).or ((slotF p).or ((entF p).or (insF p)))
end Go.Proofs.YtpdjnbpjgpdnkaaGreatDoor
namespace Go.Proofs.YtpdjnbpjgpdnkaaGreatDoor
open Go.RowKit

/-- A list of kinds that lies in a block of ints. -/
def KI (w : World) (v : Value) (l : List Bool) : Prop := ∃ ao cap, v = .slice ao l.length cap ∧ l.length ≤ cap ∧ (0 < l.length → ∃ (b : Nat) (cs : Array Value), ao = some ⟨b, 0, none⟩ ∧ w.heap[b]? = some (.cells cs 3 (0, 0)) ∧ ∀ (j : Nat) (x : Bool), l[j]? = some x → cs[j]? = some (iv x))
theorem KI.nil (w : World) : KI w (.slice none 0 0) [] := ⟨none, 0, rfl, Nat.le_refl _, fun h => by simp at h⟩
theorem KI.kept {w w' : World} {v : Value} {l : List Bool} (h : KI w v l) (hb : ∀ (b : Nat) (cs : Array Value), w.heap[b]? = some (.cells cs 3 (0, 0)) → w'.heap[b]? = w.heap[b]?) : KI w' v l := by
 obtain ⟨ao, cap, h1, h2, h3⟩ := h
 refine ⟨ao, cap, h1, h2, fun e => ?_⟩
 obtain ⟨b, cs, e1, e2, e3⟩ := h3 e
 exact ⟨b, cs, e1, (hb b cs e2).trans e2, e3⟩
theorem KI.below {w w' : World} {v : Value} {l : List Bool} (h : KI w v l) (hb : Below w.heap.size w w') : KI w' v l := h.kept (fun b _ e => hb.block b (block_lt e))
theorem KI.own {base : Nat} {w : World} {v : Value} {l : List Bool} (h : w.ownsRow base 3 1 v l.length (l.map iv)) : KI w v l := by
 rcases h.2 with ⟨h1, h0⟩ | ⟨g, cap, cur, h1, hb, hc, hnc, _, hsz, htk⟩
 ·have : l = [] := List.eq_nil_of_length_eq_zero h0
  subst this
  rw [h1]
  exact KI.nil w
 ·refine ⟨_, cap, h1, hnc, fun _ => ⟨g, _, rfl, hc, fun j x hx => ?_⟩⟩
  have hj := (List.getElem?_eq_some_iff.1 hx).1
  have h2 : (l.map iv)[j]? = some (iv x) := by rw [List.getElem?_map, hx]; rfl
  rw [← htk, List.getElem?_take, if_pos (by omega)] at h2
  simpa using h2
theorem KI.cell {w : World} {ao : Option Addr} {n cap : Nat} {l : List Bool} (h : KI w (.slice ao n cap) l) : n = l.length ∧ l.length ≤ cap ∧ (0 < l.length → ∃ b, ao = some ⟨b, 0, none⟩ ∧ b < w.heap.size ∧ ∀ (j : Nat) (x : Bool), l[j]? = some x → w.cell? ⟨b, j, none⟩ = some (iv x)) := by
 obtain ⟨ao', cap', h1, h2, h3⟩ := h
 cases h1
 refine ⟨rfl, h2, fun e => ?_⟩
 obtain ⟨b, cs, e1, e2, e3⟩ := h3 e
 exact ⟨b, e1, block_lt e2, fun j x hx => (block_cell e2 j).trans (e3 j x hx)⟩
theorem KI.take {w : World} {ao : Option Addr} {cap : Nat} {l : List Bool} (h : KI w (.slice ao l.length cap) l) (r : Nat) (hr : r ≤ l.length) : KI w (.slice ao r cap) (l.take r) := by
 obtain ⟨ao', cap', h1, h2, h3⟩ := h
 cases h1
 refine ⟨ao, cap, by rw [List.length_take, Nat.min_eq_left hr], by rw [List.length_take]; omega, fun e => ?_⟩
 rw [List.length_take] at e
 obtain ⟨b, cs, e1, e2, e3⟩ := h3 (by omega)
 refine ⟨b, cs, e1, e2, fun j x hx => e3 j x ?_⟩
 rw [List.getElem?_take] at hx
 split at hx
 ·exact hx
 ·cases hx
end Go.Proofs.YtpdjnbpjgpdnkaaGreatDoor
namespace Go.Proofs.YtpdjnbpjgpdnkaaGreatDoor
open Go.RowKit

/-- Memory grows, and only two blocks of the old ones may change. -/
structure G2w (W w : World) (a b : Nat) : Prop where
 os : w.os = W.os
 tape : w.tape = W.tape
 output : w.output = W.output
 size : W.heap.size ≤ w.heap.size
 block : ∀ k, k < W.heap.size → k ≠ a → k ≠ b → w.heap[k]? = W.heap[k]?
theorem G2w.of {W w : World} {a b : Nat} (h : Below W.heap.size W w) : G2w W w a b := ⟨h.os, h.tape, h.output, h.size, fun k hk _ _ => h.block k hk⟩
theorem G2w.trans {W w w' : World} {a b : Nat} (h : G2w W w a b) (h' : G2w w w' a b) : G2w W w' a b := ⟨h'.os.trans h.os, h'.tape.trans h.tape, h'.output.trans h.output, Nat.le_trans h.size h'.size, fun k hk n1 n2 => (h'.block k (Nat.lt_of_lt_of_le hk h.size) n1 n2).trans (h.block k hk n1 n2)⟩
theorem G2w.below {W w : World} {a b lim : Nat} (h : G2w W w a b) (ha : lim ≤ a) (hb : lim ≤ b) (hl : lim ≤ W.heap.size) : Below lim W w := ⟨h.os, h.tape, h.output, h.size, fun k hk => h.block k (by omega) (by omega) (by omega)⟩
section
variable {lim : Nat} {W W' : World} {q ba bs ca cc : Nat} {g : Pg} {p : Pv} {k : Kn}
end
end Go.Proofs.YtpdjnbpjgpdnkaaGreatDoor
