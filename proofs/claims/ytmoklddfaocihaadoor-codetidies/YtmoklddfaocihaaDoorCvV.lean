import Derived.Test.YtmoklddfaocihaaDoorCvU
namespace Go.Proofs.YtmoklddfaocihaaDoor
open Go.RowKit

theorem KI.kl {w : World} {v : Value} {l : List Bool} (h : KI w v l) : KL w.heap.size w v l := by
  obtain ⟨ao, cap, h1, h2, h3⟩ := h
  by_cases e : 0 < l.length
  · obtain ⟨b, cs, e1, e2, e3⟩ := h3 e
    exact ⟨ao, cap, b, 0, h1, h2, fun _ => ⟨e1, block_lt e2⟩, fun j x hx => by rw [Nat.zero_add]; exact (block_cell e2 j).trans (e3 j x hx)⟩
  · refine ⟨ao, cap, 0, 0, h1, h2, fun x => absurd x e, fun j x hx => ?_⟩
    have := (List.getElem?_eq_some_iff.1 hx).1
    omega
/-- What the reference's Shape answers. -/
def ShR (W : World) (r : Except (Int × Int) (List Bool × Bool)) (e : Ending) (w' : World) : Prop := match r with
  | .ok (l, b) => ∃ v, e = .returned (.tuple #[v, .bool b, .agg #[.slice none 0 0, .int .i64 0]]) ∧ Hid (KL w'.heap.size w' v l ∧ Below W.heap.size W w')
  | .error (a, y) => ∃ ao cap, e = .returned (.tuple #[.slice none 0 0, .bool false, .agg #[.slice ao 1 cap, .int .i64 y]]) ∧ Hid (∃ b off, FV w'.heap.size w' ao [⟨⟨#[99, 111, 100, 101]⟩, a⟩] b off ∧ Below W.heap.size W w')
theorem ver_kb {p : Pv} {k : Kn} (hk : verF p = .ok k) : KB k := by
  rw [verF_stat] at hk
  cases e : statF p with
  | some y => rw [e] at hk; cases hk
  | none => rw [e] at hk; exact goF_kb hk
end Go.Proofs.YtmoklddfaocihaaDoor
