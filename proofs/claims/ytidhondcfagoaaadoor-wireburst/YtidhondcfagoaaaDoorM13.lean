import Derived.Test.YtidhondcfagoaaaDoorM11
import Derived.Test.YtidhondcfagoaaaDoorM12
import Derived.Test.YtidhondcfagoaaaDoorM10
import Derived.Test.YtidhondcfagoaaaDoorM5
namespace Go.Proofs.YtidhondcfagoaaaDoor
open Go.RowKit Crc

theorem wr64_nat {n : Nat} (h : n < 9223372036854775808) : wrap64 (n : Int) = (n : Int) := by
  unfold wrap64
  omega
theorem utfC_succ (b : Nat → Nat) (j : Nat) : utfC b (j + 1) = true ↔ utfC b j = true ∧ 128 ≤ b (j + 1) ∧ b (j + 1) < 192 := by simp [utfC]
theorem utfC_mono (b : Nat → Nat) : ∀ {k j : Nat}, utfC b k = true → j ≤ k → utfC b j = true
  | 0, j, h, hj => by obtain rfl : j = 0 := by omega
                      exact h
  | k + 1, j, h, hj => by
    by_cases e : j = k + 1
    · subst e; exact h
    · exact utfC_mono b ((utfC_succ b k).1 h).1 (by omega)
theorem utfB_at (s : ByteArray) (pos j : Nat) (h : pos + j < s.size) : (s[pos + j]'h).toNat = utfB s pos j := by
  unfold utfB
  have e : s.get! (pos + j) = s[pos + j]'h := by
    simp [ByteArray.get!, getElem!_pos, h]
    rfl
  rw [e]
theorem utfK_short {n k v0 least : Nat} {b : Nat → Nat} (h : n ≤ k) : utfK n k v0 least b = 0 := by rw [utfK_eq, if_pos h]
theorem utfK_cont {n k v0 least : Nat} {b : Nat → Nat} (h : ¬ utfC b k = true) : utfK n k v0 least b = 0 := by
  rw [utfK_eq, if_neg h]
  split <;> rfl
theorem utfK_bad {n k v0 least : Nat} {b : Nat → Nat} (h : utfBad (utfV v0 b k) least) : utfK n k v0 least b = 0 := by
  rw [utfK_eq, if_pos h]
  split
  · rfl
  · split <;> rfl
theorem utfK_good {n k v0 least : Nat} {b : Nat → Nat} (h1 : ¬ n ≤ k) (h2 : utfC b k = true) (h3 : ¬ utfBad (utfV v0 b k) least) : utfK n k v0 least b = k + 1 := by rw [utfK_eq, if_neg h1, if_pos h2, if_neg h3]

end Go.Proofs.YtidhondcfagoaaaDoor
namespace Go.Proofs.YtidhondcfagoaaaDoor
open Go.RowKit Crc
variable {K : Kd}

/-! The writer's methods once more, with what they touch: the writer's own block and its list's. -/
/-- The blocks of a writer: its own, and its list's (which lies in cell j). -/
def Foot (w : World) (p j k : Nat) : Prop := k = p ∨ ∃ u, w.cell? ⟨p, j, none⟩ = some u ∧ u.ownBlock = some k
/-- Nothing but these was touched; what is new of them is new memory. -/
structure Tch (j : Nat) (w w' : World) (p : Nat) : Prop where
  os : w'.os = w.os
  tape : w'.tape = w.tape
  output : w'.output = w.output
  size : w.heap.size ≤ w'.heap.size
  keep : ∀ k, k < w.heap.size → ¬ Foot w p j k → w'.heap[k]? = w.heap[k]?
  foot : ∀ k, Foot w' p j k → Foot w p j k ∨ w.heap.size ≤ k
theorem Foot.old {w w1 : World} {p j k : Nat} (hb : Below w.heap.size w w1) (hp : p < w.heap.size) : Foot w1 p j k ↔ Foot w p j k := by
  unfold Foot
  rw [hb.cell (p := ⟨p, j, none⟩) hp]
theorem Tch.from {j p : Nat} {w w1 w2 : World} (hb : Below w.heap.size w w1) (hp : p < w.heap.size) (h : Tch j w1 w2 p) : Tch j w w2 p :=
  ⟨h.os.trans hb.os, h.tape.trans hb.tape, h.output.trans hb.output, Nat.le_trans hb.size h.size, fun k hk hf => (h.keep k (Nat.lt_of_lt_of_le hk hb.size) (fun e => hf ((Foot.old hb hp).1 e))).trans (hb.block k hk),
   fun k hk => (h.foot k hk).elim (fun e => .inl ((Foot.old hb hp).1 e)) (fun e => .inr (Nat.le_trans hb.size e))⟩
theorem Tch.row {j p : Nat} {w w' : World} (hg : w.grownBy w' (some p)) (hc : w'.cell? ⟨p, j, none⟩ = w.cell? ⟨p, j, none⟩) : Tch j w w' p :=
  ⟨hg.os, hg.tape, hg.output, hg.size, fun k hk hf => hg.block k hk (fun e => hf (.inl (by cases e; rfl))), fun k hk => .inl (by unfold Foot at hk ⊢; rwa [hc] at hk)⟩
theorem Tch.refl (j p : Nat) (w : World) : Tch j w w p := ⟨rfl, rfl, rfl, Nat.le_refl _, fun _ _ _ => rfl, fun _ h => .inl h⟩
structure BT (lim : Nat) (w w' : World) (p : Nat) : Prop where
  below : Below lim w w'
  touch : Tch 4 w w' p
theorem BT.from {lim p : Nat} {w w1 w2 : World} (hb : Below w.heap.size w w1) (hp : p < w.heap.size) (hl : lim ≤ w.heap.size) (h : BT lim w1 w2 p) : BT lim w w2 p :=
  ⟨(hb.mono hl).trans h.below, Tch.from hb hp h.touch⟩
theorem wr_afterx {base lim : Nat} {w w2 : World} {p : Nat} {made : Bool} {place why most : Int} {v v' : Value} {L : List Nat} (hb : w.heap[p]? = some (.cells (List.toArray (.bool made :: .int .i64 place :: .int .i64 why :: .int .i64 most :: v :: K.R)) K.t (0, 0)))
    (hne : v.ownBlock ≠ some p) (hO0 : ∀ g, v.ownBlock = some g → base ≤ g) (hE : Ext w w2 v v') (hO : Owns base w2 v' L) (hl1 : lim ≤ base) (hl2 : lim ≤ p) :
    Wr K base (w2.setCell ⟨p, 4, none⟩ v') p made place why most L ∧ BT lim w (w2.setCell ⟨p, 4, none⟩ v') p := by
  obtain ⟨h1, h2⟩ := wr_after hb hne hO0 hE hO hl1 hl2
  have c4 := block_cell hb 4
  simp at c4
  have hp := block_lt hb
  have hb2 : w2.heap[p]? = some (.cells (List.toArray (.bool made :: .int .i64 place :: .int .i64 why :: .int .i64 most :: v :: K.R)) K.t (0, 0)) := (hE.1.block p hp (fun e => hne e.symm)).trans hb
  have hb3 : (w2.setCell ⟨p, 4, none⟩ v').heap[p]? = some (.cells (List.toArray (.bool made :: .int .i64 place :: .int .i64 why :: .int .i64 most :: v' :: K.R)) K.t (0, 0)) := by
    rw [heap_setCell_same w2 p 4 _ _ v' hb2]; rfl
  refine ⟨h1, h2, h2.os, h2.tape, h2.output, by simpa using hE.1.size, fun k hk hf => ?_, fun k hk => ?_⟩
  · have h3 := heap_setCell_other w2 ⟨p, 4, none⟩ k v' (fun e => hf (.inl (by simpa using e)))
    exact h3.trans (hE.1.block k hk (fun e => hf (.inr ⟨v, c4, e.symm⟩)))
  · rcases hk with rfl | ⟨u, hu, hg⟩
    · exact .inl (.inl rfl)
    · have h4 := block_cell hb3 4
      rw [hu] at h4
      simp at h4
      subst h4
      rcases hE.2 k hg with h | h
      · exact .inl (.inr ⟨v, c4, h⟩)
      · exact .inr h
end Go.Proofs.YtidhondcfagoaaaDoor
