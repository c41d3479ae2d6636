import Derived.Test.YtcfenjpdjogmdaaGreatLA20
import Derived.Test.YtcfenjpdjogmdaaGreatLA21
import Derived.Deep.DeepCutAuto
namespace Go.Proofs.YtcfenjpdjogmdaaGreat
open Go.RowKit

theorem grown_two {w w1 w2 : World} {r : Option Nat} (h : w.grownBy w1 r) (h' : w1.grownBy w2 r) : w.grownBy w2 r := ⟨h'.os.trans h.os, h'.tape.trans h.tape, h'.output.trans h.output, Nat.le_trans h.size h'.size, fun k hk hne => (h'.block k (Nat.lt_of_lt_of_le hk h.size) hne).trans (h.block k hk hne)⟩
def FBox (p : Nat) (W : World) : Prop := W.heap[p]? = some (.cells #[.slice none 0 0, .int .i64 0] 97 (0, 0))
theorem FBox.kept {p : Nat} {W W' : World} (h : FBox p W) (hb : Below W.heap.size W W') : FBox p W' := (hb.block _ (block_lt h)).trans h
def srt (l : List Ac) : List Ac := l.foldl insA []
theorem srt_app (l : List Ac) (a : Ac) : srt (l ++ [a]) = insA (srt l) a := by unfold srt; rw [List.foldl_append]; rfl
theorem srt_len : ∀ (l : List Ac) (m : List Ac), (l.foldl insA m).length = m.length + l.length
  | [], m => rfl
  | a :: l, m => by rw [List.foldl_cons, srt_len l, insA_len]; simp; omega
theorem insA_mem {x a : Ac} : ∀ {l : List Ac}, x ∈ insA l a ↔ x = a ∨ x ∈ l
  | [] => by simp [insA]
  | y :: r => by
    unfold insA
    split
    · simp
    · simp only [List.mem_cons, insA_mem (l := r)]
      constructor
      · rintro (h | h | h)
        · exact .inr (.inl h)
        · exact .inl h
        · exact .inr (.inr h)
      · rintro (h | h | h)
        · exact .inr (.inl h)
        · exact .inl h
        · exact .inr (.inr h)
theorem srt_mem {x : Ac} : ∀ (l m : List Ac), x ∈ l.foldl insA m ↔ x ∈ l ∨ x ∈ m
  | [], m => by simp
  | a :: l, m => by
    rw [List.foldl_cons, srt_mem l, insA_mem]
    simp only [List.mem_cons]
    constructor
    · rintro (h | h | h)
      · exact .inl (.inr h)
      · exact .inl (.inl h)
      · exact .inr h
    · rintro ((h | h) | h)
      · exact .inr (.inl h)
      · exact .inl h
      · exact .inr (.inr h)
/-- The reference's book as it lies. -/
structure BkB (W : World) (p B : Nat) (m : List Ac) (s : Nat) : Prop where
  v : ∃ (ao : Option Addr) (cap : Nat), W.heap[p]? = some (.cells #[.slice ao m.length cap, .slice none 0 0, .slice none 0 0, .int .u64 (s : Nat), .int .u64 1, .slice none 0 0, .slice none 0 0] 143 (0, 0)) ∧ W.ownsRow B 81 4 (.slice ao m.length cap) m.length (acells m)
theorem BkB.kept {W W' : World} {p B : Nat} {m : List Ac} {s : Nat} (h : BkB W p B m s) (hb : Below W.heap.size W W') : BkB W' p B m s := by
  obtain ⟨ao, cap, h1, h2⟩ := h.v
  exact ⟨⟨ao, cap, (hb.block _ (block_lt h1)).trans h1, row_quietT h2 (below_none hb)⟩⟩
end Go.Proofs.YtcfenjpdjogmdaaGreat
