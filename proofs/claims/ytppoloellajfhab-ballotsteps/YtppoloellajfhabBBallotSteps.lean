import Derived.Test.YtppoloellajfhabBSt
import Derived.Test.YtppoloellajfhabBStepsRow
namespace Go.Proofs.Ytppoloellajfhab
open Go.RowKit

theorem ballotStepsProof : Rows.BallotStepsSaid := ballotSteps_of fun c n1 m1 nd u w hin _ _ _ _ _ _ => by
  rcases badOf_cases c with hk | ⟨k, hk⟩
  · have hok := cf_ok hk
    have hwr : c.valid n1 m1 = false → ∀ W a, PG W a c → ∀ W', Below W.heap.size W W' → Calls Try.prog 46 #[.pointer a, .agg #[.int .u64 (n1 : Nat), .int .i64 m1]] W' fun e w' => e = .returned (.int .i64 181) ∧ Below W'.heap.size W' w' := fun hv W a h W' hb => by
      have := wrong_live n1 m1 (h.kept hb) hok
      rw [hv] at this
      exact this
    obtain ⟨xn, xm, L1, k1, hp1, hr1⟩ : ∃ xn xm L k, (∀ W a, PG W a c → Calls Try.prog 30 #[.pointer a, .agg #[.int .u64 (n1 : Nat), .int .i64 m1]] W (BalR W xn xm L k)) ∧ (∀ W p, p < W.heap.size → RefG W p c → Calls Try.prog 35 #[.pointer (some ⟨p, 0, none⟩), .agg #[.int .u64 (n1 : Nat), .int .i64 m1]] W (RNewP W (.agg #[.int .u64 xn, .int .i64 xm]) L k)) := by
      cases hv : c.valid n1 m1 with
      | false => exact ⟨0, 0, [⟨ballotN, 0⟩], 181, fun W a h => next_no n1 m1 181 (by decide) (hwr hv W a h), fun _ _ hp h => refNext_bad n1 m1 hp h hv⟩
      | true => exact ⟨_, _, _, _, fun _ _ h => next_yes n1 m1 h hok hv, fun _ _ hp h => refNext_ok n1 m1 hp h hv⟩
    obtain ⟨yn, ym, L2, k2, hp2, hr2⟩ : ∃ xn xm L k, (∀ W a, PG W a c → Calls Try.prog 31 #[.pointer a, .agg #[.int .u64 (n1 : Nat), .int .i64 m1], .int .i64 nd] W (BalR W xn xm L k)) ∧ (∀ W p, p < W.heap.size → RefG W p c → Calls Try.prog 36 #[.pointer (some ⟨p, 0, none⟩), .agg #[.int .u64 (n1 : Nat), .int .i64 m1], .int .i64 nd] W (RNewP W (.agg #[.int .u64 xn, .int .i64 xm]) L k)) := by
      cases hv : c.valid n1 m1 with
      | false => exact ⟨0, 0, [⟨ballotN, 0⟩], 181, fun W a h => own_no n1 m1 nd 181 (by decide) (hwr hv W a h), fun _ _ hp h => refOwn_no n1 m1 nd hp h hv⟩
      | true =>
        cases hnd : c.node nd with
        | false => exact ⟨0, 0, [⟨ballotN, 1⟩], 182, fun _ _ h => own_node n1 m1 nd h hok hv hnd, fun _ _ hp h => refOwn_node n1 m1 nd hp h hv hnd⟩
        | true =>
          refine ⟨(c.own n1 m1 nd).1, (c.own n1 m1 nd).2.1, (c.own n1 m1 nd).2.2.1, (c.own n1 m1 nd).2.2.2, fun W a h => ?_, fun _ _ hp h => refOwn_ok n1 m1 nd hp h hv hnd⟩
          have hO : c.own n1 m1 nd = if (n1 : Int) = 0 then (1, nd, [], 0) else if m1 < nd then ((n1 : Int), nd, [], 0) else if (n1 : Int) + 1 > (c.mn : Int) then (0, 0, [⟨ballotN, 0⟩], 183) else ((n1 : Int) + 1, nd, [], 0) := rfl
          by_cases h0 : (n1 : Int) = 0
          · rw [hO, if_pos h0]
            exact own_zero n1 m1 nd h hok hv hnd h0
          · rw [if_neg h0] at hO
            by_cases h1 : m1 < nd
            · rw [hO, if_pos h1]
              exact own_same n1 m1 nd h hok hv hnd h0 h1
            · rw [if_neg h1] at hO
              by_cases h2 : (n1 : Int) + 1 > (c.mn : Int)
              · rw [hO, if_pos h2]
                exact own_over n1 m1 nd h hok hv hnd h0 h1 h2
              · rw [hO, if_neg h2]
                exact own_next n1 m1 nd h hok hv hnd h0 h1 h2
    obtain ⟨rk, L3, k3, hp3, hr3⟩ : ∃ xn L k, (∀ W a, PG W a c → Calls Try.prog 32 #[.pointer a, .agg #[.int .u64 (n1 : Nat), .int .i64 m1]] W (NumR W xn L k)) ∧ (∀ W p, p < W.heap.size → RefG W p c → Calls Try.prog 37 #[.pointer (some ⟨p, 0, none⟩), .agg #[.int .u64 (n1 : Nat), .int .i64 m1]] W (RNewP W (.int .u64 xn) L k)) := by
      cases hv : c.valid n1 m1 with
      | false => exact ⟨0, [⟨ballotN, 0⟩], 181, fun W a h => rank_no n1 m1 181 (by decide) (hwr hv W a h), fun _ _ hp h => refRank_no n1 m1 hp h hv⟩
      | true => exact ⟨_, _, _, fun _ _ h => rank_yes n1 m1 h hok hv, fun _ _ hp h => refRank_yes n1 m1 hp h hv⟩
    obtain ⟨dn, dm, L4, k4, hp4, hr4⟩ : ∃ xn xm L k, (∀ W a, PG W a c → Calls Try.prog 33 #[.pointer a, .int .u64 (u : Nat)] W (BalR W xn xm L k)) ∧ (∀ W p, p < W.heap.size → RefG W p c → Calls Try.prog 38 #[.pointer (some ⟨p, 0, none⟩), .int .u64 (u : Nat)] W (RNewP W (.agg #[.int .u64 xn, .int .i64 xm]) L k)) := by
      by_cases ho : (u : Int) > (c.mn : Int) * (2 * c.f + 1)
      · exact ⟨0, 0, [⟨ballotN, 0⟩], 184, fun _ _ h => ranked_over u h hok ho, fun _ _ hp h => refRanked_over u hp h ho⟩
      · by_cases h0 : 0 < u
        · exact ⟨_, _, [], 0, fun _ _ h => ranked_yes u h0 h hok ho, fun _ _ hp h => refRanked_yes u h0 hp h ho⟩
        · obtain rfl : u = 0 := by omega
          exact ⟨0, 0, [], 0, fun _ _ h => ranked_zero h hok, fun _ _ hp h => refRanked_zero hp h⟩
    exact steps_ok c n1 m1 nd u w hp1 hr1 hp2 hr2 hp3 hr3 hp4 hr4 (fun W => groups_ok c hin hk W)
  · exact steps_bad c n1 m1 nd u w (fun W => groups_bad c hin k hk W)
end Go.Proofs.Ytppoloellajfhab
