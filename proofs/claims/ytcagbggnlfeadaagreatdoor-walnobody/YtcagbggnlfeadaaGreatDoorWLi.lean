import Derived.Test.YtcagbggnlfeadaaGreatDoorWLd
namespace Go.Proofs.YtcagbggnlfeadaaGreatDoor
open Go.RowKit Crc

theorem tot_le (Ls : List (List Nat)) (h : ∀ B ∈ Ls, B.length ≤ 60000) : tot Ls ≤ 60016 * Ls.length := by
  induction Ls with
  | nil => simp [tot]
  | cons C r ih =>
    have h1 := h C (by simp)
    have h2 := ih (fun B hB => h B (by simp [hB]))
    simp only [List.length_cons, tot]; omega
def LitR (Ls : List (List Nat)) (n : Nat) (x : Int) : Prop := (∀ B ∈ Ls, B.length ≤ 60000) → x = 268435392 - (tot (Ls.take n) : Int)
def LitOut (Ls : List (List Nat)) (w : World) (e : Ending) (w' : World) : Prop := ∃ r, e = .returned (.bool r) ∧ ((∀ B ∈ Ls, B.length ≤ 60000) → r = decide (tot Ls ≤ 268435392)) ∧ w' = w
end Go.Proofs.YtcagbggnlfeadaaGreatDoor
