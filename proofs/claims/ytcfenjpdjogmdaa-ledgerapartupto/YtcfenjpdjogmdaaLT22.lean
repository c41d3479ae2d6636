import Derived.Test.YtcfenjpdjogmdaaLT20
import Derived.Test.YtcfenjpdjogmdaaLT21
import Derived.Deep.DeepCutAuto
namespace Go.Proofs.Ytcfenjpdjogmdaa
open Go.RowKit

theorem grown_two {w w1 w2 : World} {r : Option Nat} (h : w.grownBy w1 r) (h' : w1.grownBy w2 r) : w.grownBy w2 r := ⟨h'.os.trans h.os, h'.tape.trans h.tape, h'.output.trans h.output, Nat.le_trans h.size h'.size, fun k hk hne => (h'.block k (Nat.lt_of_lt_of_le hk h.size) hne).trans (h.block k hk hne)⟩
def srt (l : List Ac) : List Ac := l.foldl insA []
theorem srt_app (l : List Ac) (a : Ac) : srt (l ++ [a]) = insA (srt l) a := by unfold srt; rw [List.foldl_append]; rfl
theorem srt_len : ∀ (l : List Ac) (m : List Ac), (l.foldl insA m).length = m.length + l.length
  | [], m => rfl
  | a :: l, m => by rw [List.foldl_cons, srt_len l, insA_len]; simp; omega
theorem insA_mem {x a : Ac} : ∀ {l : List Ac}, x ∈ insA l a ↔ x = a ∨ x ∈ l
  | [] => by simp [insA]
  | y :: r => by
    unfold insA
    split
    · simp
    · simp only [List.mem_cons, insA_mem (l := r)]
      constructor
      · rintro (h | h | h)
        · exact .inr (.inl h)
        · exact .inl h
        · exact .inr (.inr h)
      · rintro (h | h | h)
        · exact .inr (.inl h)
        · exact .inl h
        · exact .inr (.inr h)
theorem srt_mem {x : Ac} : ∀ (l m : List Ac), x ∈ l.foldl insA m ↔ x ∈ l ∨ x ∈ m
  | [], m => by simp
  | a :: l, m => by
    rw [List.foldl_cons, srt_mem l, insA_mem]
    simp only [List.mem_cons]
    constructor
    · rintro (h | h | h)
      · exact .inl (.inr h)
      · exact .inl (.inl h)
      · exact .inr h
    · rintro ((h | h) | h)
      · exact .inr (.inl h)
      · exact .inl h
      · exact .inr (.inr h)
end Go.Proofs.Ytcfenjpdjogmdaa
