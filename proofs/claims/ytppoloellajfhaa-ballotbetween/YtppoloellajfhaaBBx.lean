import Derived.Test.YtppoloellajfhaaBBw
namespace Go.Proofs.Ytppoloellajfhaa
open Go.RowKit

theorem cmpB_lt (a b c d : Int) : cmpB a b c d < 0 ↔ a < c ∨ (a = c ∧ b < d) := by
  unfold cmpB
  repeat' split
  all_goals omega
theorem between_walk (c : Cf) (hin : c.In) (n1 : Nat) (m1 nd : Int) (nx : Nat) (mx : Int) (w : World) :
    Calls Try.prog 6 #[.agg c.cells, .agg #[.int .u64 (n1 : Nat), .int .i64 m1], .int .i64 nd, .agg #[.int .u64 (nx : Nat), .int .i64 mx]] w fun e w' => e = .returned (.bool true) ∧ Below w.heap.size w w' := by
  rcases badOf_cases c with hk | ⟨k, hk⟩
  · have hok := cf_ok hk
    have hM := madeLaw_ok c hin hk
    have hN0 : ∀ W a, PG W a c → Calls Try.prog 23 #[.pointer a, .agg #[.int .u64 0, .int .i64 0]] W (BalR W 1 0 [] 0) := fun W a h => next_yes 0 0 h hok rfl
    have hV : ∀ (n : Nat) m W a, PG W a c → Calls Try.prog 24 #[.pointer a, .agg #[.int .u64 (n : Nat), .int .i64 m]] W fun e w' => e = .returned (.bool (c.valid n m)) ∧ Below W.heap.size W w' := fun n m W a h => valid_live n m h hok
    have hVt : ∀ (n : Nat) m, c.valid n m = true → ∀ W a, PG W a c → Calls Try.prog 24 #[.pointer a, .agg #[.int .u64 (n : Nat), .int .i64 m]] W fun e w' => e = .returned (.bool true) ∧ Below W.heap.size W w' := fun n m hv W a h => by
      have := hV n m W a h
      rw [hv] at this
      exact this
    have hLt : ∀ a b c d, cmpB a b c d < 0 → ∀ W, Calls Try.prog 10 #[.agg #[.int .u64 a, .int .i64 b], .agg #[.int .u64 c, .int .i64 d]] W fun e w' => e = .returned (.bool true) ∧ Below W.heap.size W w' := fun a b c d hl W => by
      have := less_any a b c d W
      rw [decide_eq_true hl] at this
      exact this
    have mn1 := hok.mn1
    have f1 := hok.f1
    cases hvb : c.valid n1 m1 with
    | false =>
      refine between_inv c n1 m1 nd nx mx w hM hN0 (fun W a h => ?_)
      have := hV n1 m1 W a h
      rw [hvb] at this
      exact this
    | true =>
      have hb := (c.valid_iff n1 m1).1 hvb
      have hx : c.valid nx mx = true → _ := (c.valid_iff nx mx).1
      have hNd := fun W a (h : PG W a c) => node_live (w := W) (a := a) nd h hok
      have hO : (c.node nd = false) ∨ (c.node nd = true ∧ (∀ W a, PG W a c → Calls Try.prog 26 #[.pointer a, .agg #[.int .u64 (n1 : Nat), .int .i64 m1], .int .i64 nd] W (BalR W 0 0 [⟨ballotN, 0⟩] 183)) ∧ ((c.valid nx mx && decide (cmpB n1 m1 nx mx < 0)) = true → ¬ mx = nd)) ∨
          (c.node nd = true ∧ ∃ n4 lxo, (∀ W a, PG W a c → Calls Try.prog 26 #[.pointer a, .agg #[.int .u64 (n1 : Nat), .int .i64 m1], .int .i64 nd] W (BalR W n4 nd [] 0)) ∧ (∀ W a, PG W a c → Calls Try.prog 24 #[.pointer a, .agg #[.int .u64 n4, .int .i64 nd]] W fun e w' => e = .returned (.bool true) ∧ Below W.heap.size W w') ∧
            (∀ W, Calls Try.prog 10 #[.agg #[.int .u64 (n1 : Nat), .int .i64 m1], .agg #[.int .u64 n4, .int .i64 nd]] W fun e w' => e = .returned (.bool true) ∧ Below W.heap.size W w') ∧ (∀ W, Calls Try.prog 10 #[.agg #[.int .u64 (nx : Nat), .int .i64 mx], .agg #[.int .u64 n4, .int .i64 nd]] W fun e w' => e = .returned (.bool lxo) ∧ Below W.heap.size W w') ∧ ((c.valid nx mx && decide (cmpB n1 m1 nx mx < 0)) = true → mx = nd → lxo = false)) := by
        cases hnd : c.node nd with
        | false => exact .inl rfl
        | true =>
          have hn := of_decide_eq_true hnd
          refine .inr ?_
          by_cases h0 : (n1 : Int) = 0
          · refine .inr ⟨rfl, ((1 : Nat) : Int), _, fun W a h => own_zero n1 m1 nd h hok hvb hnd h0, hVt 1 nd ((c.valid_iff 1 nd).2 (.inr ⟨by omega, by omega, by omega, by omega⟩)), hLt _ _ _ _ ((cmpB_lt _ _ _ _).2 (by omega)), fun W => less_any _ _ _ _ W, fun h e => decide_eq_false ?_⟩
            simp only [Bool.and_eq_true, decide_eq_true_eq, cmpB_lt] at h
            have := hx h.1
            rw [cmpB_lt]
            omega
          · by_cases h1 : m1 < nd
            · refine .inr ⟨rfl, (n1 : Int), _, fun W a h => own_same n1 m1 nd h hok hvb hnd h0 h1, hVt n1 nd ((c.valid_iff n1 nd).2 (.inr ⟨by omega, by omega, by omega, by omega⟩)), hLt _ _ _ _ ((cmpB_lt _ _ _ _).2 (by omega)), fun W => less_any _ _ _ _ W, fun h e => decide_eq_false ?_⟩
              simp only [Bool.and_eq_true, decide_eq_true_eq, cmpB_lt] at h
              have := hx h.1
              rw [cmpB_lt]
              omega
            · by_cases h2 : (n1 : Int) + 1 > (c.mn : Int)
              · refine .inl ⟨rfl, fun W a h => own_over n1 m1 nd h hok hvb hnd h0 h1 h2, fun h e => ?_⟩
                simp only [Bool.and_eq_true, decide_eq_true_eq, cmpB_lt] at h
                have := hx h.1
                omega
              · refine .inr ⟨rfl, ((n1 + 1 : Nat) : Int), _, fun W a h => own_next n1 m1 nd h hok hvb hnd h0 h1 h2, hVt (n1 + 1) nd ((c.valid_iff (n1 + 1) nd).2 (.inr ⟨by omega, by omega, by omega, by omega⟩)), hLt _ _ _ _ ((cmpB_lt _ _ _ _).2 (by omega)), fun W => less_any _ _ _ _ W, fun h e => decide_eq_false ?_⟩
                simp only [Bool.and_eq_true, decide_eq_true_eq, cmpB_lt] at h
                have := hx h.1
                rw [cmpB_lt]
                omega
      have hNx := fun W a (h : PG W a c) => next_yes (w := W) (a := a) n1 m1 h hok hvb
      have hNE : c.next n1 m1 true = if (n1 : Int) = 0 then (1, 0, [], 0) else if (n1 : Int) = (c.mn : Int) ∧ m1 = 2 * c.f then (0, 0, [⟨ballotN, 0⟩], 183) else if m1 < 2 * c.f then ((n1 : Int), m1 + 1, [], 0) else ((n1 : Int) + 1, 0, [], 0) := rfl
      have go : ∀ (n3 : Nat) (m3 : Int), (∀ W a, PG W a c → Calls Try.prog 23 #[.pointer a, .agg #[.int .u64 (n1 : Nat), .int .i64 m1]] W (BalR W (n3 : Nat) m3 [] 0)) → c.valid n3 m3 = true → cmpB n1 m1 n3 m3 < 0 → ((c.valid nx mx && decide (cmpB n1 m1 nx mx < 0)) = true → ¬ cmpB nx mx n3 m3 < 0) →
          Calls Try.prog 6 #[.agg c.cells, .agg #[.int .u64 (n1 : Nat), .int .i64 m1], .int .i64 nd, .agg #[.int .u64 (nx : Nat), .int .i64 mx]] w fun e w' => e = .returned (.bool true) ∧ Below w.heap.size w w' := fun n3 m3 h1 h2 h3 h4 =>
        between_go c n1 m1 nd nx mx w hM hN0 (hVt n1 m1 hvb) _ _ _ (hV nx mx) (fun W => less_any n1 m1 nx mx W) hNd hO n3 m3 _ h1 (hVt n3 m3 h2) (hLt _ _ _ _ h3) (fun W => less_any _ _ _ _ W) (fun h => decide_eq_false (h4 h))
      by_cases h0 : (n1 : Int) = 0
      · rw [hNE, if_pos h0] at hNx
        refine go 1 0 hNx ((c.valid_iff 1 0).2 (.inr ⟨by omega, by omega, by omega, by omega⟩)) ((cmpB_lt _ _ _ _).2 (by omega)) (fun h => ?_)
        simp only [Bool.and_eq_true, decide_eq_true_eq, cmpB_lt] at h
        have := hx h.1
        rw [cmpB_lt]
        omega
      · rw [hNE, if_neg h0] at hNx
        by_cases h1 : (n1 : Int) = (c.mn : Int) ∧ m1 = 2 * c.f
        · rw [if_pos h1] at hNx
          refine between_end c n1 m1 nd nx mx w hM hN0 (hVt n1 m1 hvb) _ _ _ (hV nx mx) (fun W => less_any n1 m1 nx mx W) hNd hO hNx ?_
          rw [Bool.eq_false_iff]
          intro h
          simp only [Bool.and_eq_true, decide_eq_true_eq, cmpB_lt] at h
          have := hx h.1
          omega
        · rw [if_neg h1] at hNx
          by_cases h2 : m1 < 2 * c.f
          · rw [if_pos h2] at hNx
            refine go n1 (m1 + 1) hNx ((c.valid_iff _ _).2 (.inr ⟨by omega, by omega, by omega, by omega⟩)) ((cmpB_lt _ _ _ _).2 (by omega)) (fun h => ?_)
            simp only [Bool.and_eq_true, decide_eq_true_eq, cmpB_lt] at h
            have := hx h.1
            rw [cmpB_lt]
            omega
          · rw [if_neg h2] at hNx
            refine go (n1 + 1) 0 hNx ((c.valid_iff _ _).2 (.inr ⟨by omega, by omega, by omega, by omega⟩)) ((cmpB_lt _ _ _ _).2 (by omega)) (fun h => ?_)
            simp only [Bool.and_eq_true, decide_eq_true_eq, cmpB_lt] at h
            have := hx h.1
            rw [cmpB_lt]
            omega
  · exact between_bad c n1 m1 nd nx mx w (fun W => madeLaw_bad c hin k hk W)
end Go.Proofs.Ytppoloellajfhaa
