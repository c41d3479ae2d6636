import Derived.Test.YtmoklddfaocihaaDoorCvK
import Derived.BigQuiet
namespace Go.Proofs.YtmoklddfaocihaaDoor
open Go.RowKit

/-- What a refusal of the reference is. -/
def RfP (w : World) (r : Option (Int × Int)) (e : Ending) (w' : World) : Prop := match r with
  | none => e = .returned (.agg #[.slice none 0 0, .int .i64 0]) ∧ Hid (Below w.heap.size w w')
  | some (a, y) => ∃ ao cap, e = .returned (.agg #[.slice ao 1 cap, .int .i64 y]) ∧ Hid (∃ b off, FV w'.heap.size w' ao [⟨⟨#[99, 111, 100, 101]⟩, a⟩] b off ∧ Below w.heap.size w w')
/-- Letters of the reference: what is taken. -/
def rTakes (o : Nat) : List Nat := if o = 7 then [115] else if o = 8 ∨ (26 ≤ o ∧ o ≤ 28) ∨ o = 30 then [98] else if (9 ≤ o ∧ o ≤ 14) ∨ (17 ≤ o ∧ o ≤ 23) ∨ o = 29 then [110, 110] else if o = 15 ∨ o = 16 then [98, 98] else if o = 24 then [110, 110, 110] else []
def rLays (o : Nat) : List Nat := if o = 2 ∨ (17 ≤ o ∧ o ≤ 24) then [110] else if o = 3 ∨ o = 4 ∨ (8 ≤ o ∧ o ≤ 16) then [98] else if o = 6 then [115] else if o = 5 then [105] else []
set_option maxRecDepth 10000 in
set_option maxHeartbeats 6400000 in
theorem takesR (o : Nat) (h : o ≤ 32) (w : World) : Calls Tryd.prog 49 #[.int .i64 (o : Nat)] w fun e w' => e = .returned (.string (txt (rTakes o))) ∧ w' = w := by
  have key : ∀ x : Nat, x ≤ 32 → x = 0 ∨ x = 1 ∨ x = 2 ∨ x = 3 ∨ x = 4 ∨ x = 5 ∨ x = 6 ∨ x = 7 ∨ x = 8 ∨ x = 9 ∨ x = 10 ∨ x = 11 ∨ x = 12 ∨ x = 13 ∨ x = 14 ∨ x = 15 ∨ x = 16 ∨ x = 17 ∨ x = 18 ∨ x = 19 ∨ x = 20 ∨ x = 21 ∨ x = 22 ∨ x = 23 ∨ x = 24 ∨ x = 25 ∨ x = 26 ∨ x = 27 ∨ x = 28 ∨ x = 29 ∨ x = 30 ∨ x = 31 ∨ x = 32 := by omega
  rcases key o h with rfl | rfl | rfl | rfl | rfl | rfl | rfl | rfl | rfl | rfl | rfl | rfl | rfl | rfl | rfl | rfl | rfl | rfl | rfl | rfl | rfl | rfl | rfl | rfl | rfl | rfl | rfl | rfl | rfl | rfl | rfl | rfl | rfl
  all_goals
    clear key
    go_enter Tryd.func49, Tryd.ntmps49
    go_wp2
    go_ret
    exact ⟨rfl, rfl⟩
set_option maxRecDepth 10000 in
set_option maxHeartbeats 6400000 in
theorem laysR (o : Nat) (h : o ≤ 32) (w : World) : Calls Tryd.prog 94 #[.int .i64 (o : Nat)] w fun e w' => e = .returned (.string (txt (rLays o))) ∧ w' = w := by
  have key : ∀ x : Nat, x ≤ 32 → x = 0 ∨ x = 1 ∨ x = 2 ∨ x = 3 ∨ x = 4 ∨ x = 5 ∨ x = 6 ∨ x = 7 ∨ x = 8 ∨ x = 9 ∨ x = 10 ∨ x = 11 ∨ x = 12 ∨ x = 13 ∨ x = 14 ∨ x = 15 ∨ x = 16 ∨ x = 17 ∨ x = 18 ∨ x = 19 ∨ x = 20 ∨ x = 21 ∨ x = 22 ∨ x = 23 ∨ x = 24 ∨ x = 25 ∨ x = 26 ∨ x = 27 ∨ x = 28 ∨ x = 29 ∨ x = 30 ∨ x = 31 ∨ x = 32 := by omega
  rcases key o h with rfl | rfl | rfl | rfl | rfl | rfl | rfl | rfl | rfl | rfl | rfl | rfl | rfl | rfl | rfl | rfl | rfl | rfl | rfl | rfl | rfl | rfl | rfl | rfl | rfl | rfl | rfl | rfl | rfl | rfl | rfl | rfl | rfl
  all_goals
    clear key
    go_enter Tryd.func94, Tryd.ntmps94
    go_wp2
    go_ret
    exact ⟨rfl, rfl⟩
/-- The kinds that a letter of the reference means. -/
def rKind (p : Pv) (a : Int) (c : Nat) : Bool := if c = 98 then true else if c = 115 then decide (p.S a.toNat = 1) else if c = 105 then decide (a = 7) else false
theorem colB_takes (p : Pv) (o : Nat) (h : o ≤ 32) (a : Int) : (rTakes o).map (rKind p a) = colB p (fTakes o) a := by
  have : ∀ o, o ≤ 32 → ((fTakes o = [115] ∧ rTakes o = [115]) ∨ (fTakes o ≠ [115] ∧ fTakes o ≠ [105] ∧ (rTakes o).map (fun c => c == 98) = (fTakes o).map (fun x => x == 116) ∧ ∀ c ∈ rTakes o, c = 98 ∨ c = 110)) := by decide
  rcases this o h with ⟨e1, e2⟩ | ⟨n1, n2, e, hc⟩
  · rw [e1, e2]; rfl
  · unfold colB
    rw [if_neg n1, if_neg n2, ← e]
    refine List.map_congr_left (fun c hcm => ?_)
    rcases hc c hcm with rfl | rfl <;> rfl
theorem colB_lays (p : Pv) (o : Nat) (h : o ≤ 32) (a : Int) : (rLays o).map (rKind p a) = colB p (fLays o) a := by
  have : ∀ o, o ≤ 32 → ((fLays o = [115] ∧ rLays o = [115]) ∨ (fLays o = [105] ∧ rLays o = [105]) ∨ (fLays o ≠ [115] ∧ fLays o ≠ [105] ∧ (rLays o).map (fun c => c == 98) = (fLays o).map (fun x => x == 116) ∧ ∀ c ∈ rLays o, c = 98 ∨ c = 110)) := by decide
  rcases this o h with ⟨e1, e2⟩ | ⟨e1, e2⟩ | ⟨n1, n2, e, hc⟩
  · rw [e1, e2]; rfl
  · rw [e1, e2]; rfl
  · unfold colB
    rw [if_neg n1, if_neg n2, ← e]
    refine List.map_congr_left (fun c hcm => ?_)
    rcases hc c hcm with rfl | rfl <;> rfl
end Go.Proofs.YtmoklddfaocihaaDoor
