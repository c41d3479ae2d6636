import Derived.Test.YtneginefcloceaaPBase
import Derived.Orders
namespace Go.Proofs.Ytneginefcloceaa
open Go.RowKit

/-- A post that takes a normal end alone. -/
def OnlyN (R : Act → World → Prop) : Exit → Act → World → Prop
  | .normal, a, w => R a w
  | _, _, _ => False
theorem onlyN_out {R : Act → World → Prop} (h : LetsOut (OnlyN R)) : False := by
  obtain ⟨a, w, h⟩ := h
  exact h
theorem wp_only {P : Program} {o : Oper} {a : Act} {w : World} {K K' : Act → World → Prop} {R : Act → World → Prop} {Q : Exit → Act → World → Prop} (h : ∀ a w, K a w → K' a w)
    (hh : o.wp P a w K (OnlyN R)) : o.wp P a w K' Q := by
  unfold Oper.wp at *
  generalize (execOp a.eval o).run P w = r at *
  cases r with
  | ok n w' =>
    cases n <;> simp only [Oper.upon] at hh ⊢ <;>
      first
        | exact h _ _ hh
        | exact Calls.mono hh (fun e w'' he => by cases e <;> first | exact h _ _ he | exact he.elim | exact (onlyN_out he).elim)
        | exact Rows.mono hh (fun _ _ he => h _ _ he)
  | halt x w' => cases x <;> simp only [Oper.upon] at hh ⊢ <;> exact hh.elim
/-- A region's operations in two parts. -/
theorem wpList_join {P : Program} {ops : Array Oper} {Q : Exit → Act → World → Prop} {R : Act → World → Prop} {l2 : List Oper} (h2 : ∀ a w, R a w → wpList P ops Q l2 a w) :
    ∀ (l1 : List Oper) (a : Act) (w : World), wpList P ops (OnlyN R) l1 a w → wpList P ops Q (l1 ++ l2) a w
  | [], a, w, h => h2 a w h
  | o :: r, a, w, h => by
    have ih := wpList_join h2 r
    rw [List.cons_append]
    unfold wpList at h ⊢
    split
    · rename_i hw
      rw [if_pos hw] at h
      rcases h with h | h
      · exact .inl (wp_only ih h)
      · exact (onlyN_out h.2).elim
    · rename_i hw
      rw [if_neg hw] at h
      exact ih _ _ h
section
variable {P : Program} {ops : Array Oper} {Q : Exit → Act → World → Prop} {a : Act} {w : World} {rest : List Oper} {o1 o2 o3 o4 o5 o6 o7 o8 o9 o10 : Oper}
theorem wpList_join3 (s1 s2 s3 : Nat) (v : Value)
    (h1 : ∀ R : Act → World → Prop, Hid (∀ x1 x2, R (((a.put (some s1) x1).put (some s2) x2).put (some s3) v) w) → wpList P ops (OnlyN R) [o1, o2, o3] a w)
    (h2 : ∀ x1 x2, wpList P ops Q rest (((a.put (some s1) x1).put (some s2) x2).put (some s3) v) w) :
    wpList P ops Q (o1 :: o2 :: o3 :: rest) a w :=
  wpList_join (R := wpList P ops Q rest) (fun _ _ h => h) [o1, o2, o3] a w (h1 _ h2)
theorem wpList_join8 (s1 s2 s3 s4 s5 s6 s7 s8 : Nat) (v : Value)
    (h1 : ∀ R : Act → World → Prop, Hid (∀ x1 x2 x3 x4 x5 x6 x7, R ((((((((a.put (some s1) x1).put (some s2) x2).put (some s3) x3).put (some s4) x4).put (some s5) x5).put (some s6) x6).put (some s7) x7).put (some s8) v) w) → wpList P ops (OnlyN R) [o1, o2, o3, o4, o5, o6, o7, o8] a w)
    (h2 : ∀ x1 x2 x3 x4 x5 x6 x7, wpList P ops Q rest ((((((((a.put (some s1) x1).put (some s2) x2).put (some s3) x3).put (some s4) x4).put (some s5) x5).put (some s6) x6).put (some s7) x7).put (some s8) v) w) :
    wpList P ops Q (o1 :: o2 :: o3 :: o4 :: o5 :: o6 :: o7 :: o8 :: rest) a w :=
  wpList_join (R := wpList P ops Q rest) (fun _ _ h => h) [o1, o2, o3, o4, o5, o6, o7, o8] a w (h1 _ h2)
theorem wpList_join10 (s1 s2 s3 s4 s5 s6 s7 s8 s9 s10 : Nat) (v : Value)
    (h1 : ∀ R : Act → World → Prop, Hid (∀ x1 x2 x3 x4 x5 x6 x7 x8 x9, R ((((((((((a.put (some s1) x1).put (some s2) x2).put (some s3) x3).put (some s4) x4).put (some s5) x5).put (some s6) x6).put (some s7) x7).put (some s8) x8).put (some s9) x9).put (some s10) v) w) → wpList P ops (OnlyN R) [o1, o2, o3, o4, o5, o6, o7, o8, o9, o10] a w)
    (h2 : ∀ x1 x2 x3 x4 x5 x6 x7 x8 x9, wpList P ops Q rest ((((((((((a.put (some s1) x1).put (some s2) x2).put (some s3) x3).put (some s4) x4).put (some s5) x5).put (some s6) x6).put (some s7) x7).put (some s8) x8).put (some s9) x9).put (some s10) v) w) :
    wpList P ops Q (o1 :: o2 :: o3 :: o4 :: o5 :: o6 :: o7 :: o8 :: o9 :: o10 :: rest) a w :=
  wpList_join (R := wpList P ops Q rest) (fun _ _ h => h) [o1, o2, o3, o4, o5, o6, o7, o8, o9, o10] a w (h1 _ h2)
end
end Go.Proofs.Ytneginefcloceaa
