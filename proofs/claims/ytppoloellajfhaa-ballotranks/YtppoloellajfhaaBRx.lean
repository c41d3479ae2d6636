import Derived.Test.YtppoloellajfhaaBRw
namespace Go.Proofs.Ytppoloellajfhaa
open Go.RowKit

theorem ranks_walk (c : Cf) (hin : c.In) (n1 : Nat) (m1 : Int) (n2 : Nat) (m2 : Int) (w : World) :
    Calls Try.prog 7 #[.agg c.cells, .agg #[.int .u64 (n1 : Nat), .int .i64 m1], .agg #[.int .u64 (n2 : Nat), .int .i64 m2]] w fun e w' => e = .returned (.bool true) ∧ Below w.heap.size w w' := by
  rcases badOf_cases c with hk | ⟨k, hk⟩
  · have hok := cf_ok hk
    have hM := madeLaw_ok c hin hk
    have hR0 : ∀ W a, PG W a c → Calls Try.prog 27 #[.pointer a, .agg #[.int .u64 0, .int .i64 0]] W (NumR W 0 [] 0) := fun W a h => rank_yes 0 0 h hok rfl
    have hV : ∀ (n : Nat) m W a, PG W a c → Calls Try.prog 24 #[.pointer a, .agg #[.int .u64 (n : Nat), .int .i64 m]] W fun e w' => e = .returned (.bool (c.valid n m)) ∧ Below W.heap.size W w' := fun n m W a h => valid_live n m h hok
    cases hva : c.valid n1 m1 with
    | false => exact ranks_na c n1 m1 n2 m2 w _ _ hM hR0 (hV n1 m1) (hV n2 m2) hva
    | true =>
      cases hvb : c.valid n2 m2 with
      | false => exact ranks_nb c n1 m1 n2 m2 w _ _ hM hR0 (hV n1 m1) (hV n2 m2) hva hvb
      | true =>
        have hRa : ∀ W a, PG W a c → Calls Try.prog 27 #[.pointer a, .agg #[.int .u64 (n1 : Nat), .int .i64 m1]] W (NumR W (c.rank n1 m1) [] 0) := fun W a h => rank_yes n1 m1 h hok hva
        have hRb : ∀ W a, PG W a c → Calls Try.prog 27 #[.pointer a, .agg #[.int .u64 (n2 : Nat), .int .i64 m2]] W (NumR W (c.rank n2 m2) [] 0) := fun W a h => rank_yes n2 m2 h hok hvb
        obtain ⟨r0, r1, r2⟩ := rank_nonneg hok hva
        have hRd : ∀ W a, PG W a c → Calls Try.prog 28 #[.pointer a, .int .u64 (c.rank n1 m1)] W (BalR W n1 m1 [] 0) := fun W a h => by
          by_cases hz : c.rank n1 m1 = 0
          · obtain ⟨e1, e2⟩ := rank_zero hok hva hz
            rw [hz, e1, e2]
            exact ranked_zero h hok
          · obtain ⟨k, hk⟩ := Int.eq_ofNat_of_zero_le r0
            have hb := rank_back hok hva hz
            have := ranked_yes (w := W) (a := a) k (by omega) h hok (by omega)
            rw [← hk, hb.1, hb.2] at this
            exact this
        have hlt := (rank_lt hok hva hvb).1
        have heq := (rank_lt hok hva hvb).2
        have hlt' : decide (c.rank n1 m1 < c.rank n2 m2) = decide (cmpB n1 m1 n2 m2 < 0) := by rw [decide_eq_decide]; exact hlt
        have heq' : (c.rank n1 m1 == c.rank n2 m2) = (decide ((n1 : Int) = n2) && decide (m1 = m2)) := by
          rw [Bool.eq_iff_iff]; simp only [beq_iff_eq, Bool.and_eq_true, decide_eq_true_eq]; exact heq
        have hNx := fun W a (h : PG W a c) => next_yes (w := W) (a := a) n1 m1 h hok hva
        have hvi := (c.valid_iff n1 m1).1 hva
        have hN0 : c.next n1 m1 true = if (n1 : Int) = 0 then (1, 0, [], 0) else if (n1 : Int) = (c.mn : Int) ∧ m1 = 2 * c.f then (0, 0, [⟨ballotN, 0⟩], 183) else if m1 < 2 * c.f then ((n1 : Int), m1 + 1, [], 0) else ((n1 : Int) + 1, 0, [], 0) := rfl
        have f1 := hok.f1
        have mn1 := hok.mn1
        by_cases h0 : (n1 : Int) = 0
        · rw [hN0, if_pos h0] at hNx
          exact ranks_go c n1 m1 n2 m2 w _ _ _ _ _ hM hR0 (hV n1 m1) (hV n2 m2) hRa hRb hRd (fun W => less_any n1 m1 n2 m2 W) hva hvb hlt' heq' 1 0 1 hNx
            (fun W a h => by
              have h1 := rank_yes (w := W) (a := a) 1 0 h hok ((c.valid_iff 1 0).2 (.inr ⟨by omega, by omega, by omega, by omega⟩))
              have e : c.rank ((1 : Nat) : Int) 0 = 1 := by unfold Cf.rank; simp
              rw [e] at h1
              exact h1)
            (by unfold Cf.rank; rw [if_pos h0]; rfl)
        · rw [hN0, if_neg h0] at hNx
          by_cases h1 : (n1 : Int) = (c.mn : Int) ∧ m1 = 2 * c.f
          · rw [if_pos h1] at hNx
            exact ranks_end c n1 m1 n2 m2 w _ _ _ _ _ hM hR0 (hV n1 m1) (hV n2 m2) hRa hRb hRd (fun W => less_any n1 m1 n2 m2 W) hva hvb hlt' heq' hNx hok (by
              rw [wrap_u _ (by omega) (by omega)]
              unfold Cf.rank
              rw [if_neg h0, h1.1, h1.2, Int.sub_mul]
              omega)
          · rw [if_neg h1] at hNx
            by_cases h2 : m1 < 2 * c.f
            · rw [if_pos h2] at hNx
              have hv3 : c.valid n1 (m1 + 1) = true := (c.valid_iff _ _).2 (.inr ⟨by omega, by omega, by omega, by omega⟩)
              exact ranks_go c n1 m1 n2 m2 w _ _ _ _ _ hM hR0 (hV n1 m1) (hV n2 m2) hRa hRb hRd (fun W => less_any n1 m1 n2 m2 W) hva hvb hlt' heq' n1 (m1 + 1) _ hNx
                (fun W a h => rank_yes n1 (m1 + 1) h hok hv3)
                (by rw [wrap_u _ (by omega) (by omega)]; unfold Cf.rank; rw [if_neg h0, if_neg h0]; omega)
            · rw [if_neg h2] at hNx
              have hv3 : c.valid (n1 + 1) 0 = true := (c.valid_iff _ _).2 (.inr ⟨by omega, by omega, by omega, by omega⟩)
              have hNy : ∀ W a, PG W a c → Calls Try.prog 23 #[.pointer a, .agg #[.int .u64 (n1 : Nat), .int .i64 m1]] W (BalR W ((n1 + 1 : Nat) : Int) 0 [] 0) := fun W a h => hNx W a h
              exact ranks_go c n1 m1 n2 m2 w _ _ _ _ _ hM hR0 (hV n1 m1) (hV n2 m2) hRa hRb hRd (fun W => less_any n1 m1 n2 m2 W) hva hvb hlt' heq' ((n1 + 1 : Nat) : Int) 0 _ hNy
                (fun W a h => rank_yes (n1 + 1) 0 h hok hv3)
                (by
                  rw [wrap_u _ (by omega) (by omega)]
                  unfold Cf.rank
                  rw [if_neg h0, if_neg (by omega)]
                  have hm : m1 = 2 * c.f := by omega
                  rw [hm]
                  rcases hok.f_cases with hf | hf | hf <;> rw [hf] <;> omega)
  · exact ranks_bad c n1 m1 n2 m2 w (fun W => madeLaw_bad c hin k hk W)
end Go.Proofs.Ytppoloellajfhaa
