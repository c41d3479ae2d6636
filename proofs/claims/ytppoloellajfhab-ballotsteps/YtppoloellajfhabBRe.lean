import Derived.Test.YtppoloellajfhabBRd
import Derived.Test.YtppoloellajfhabBPo
namespace Go.Proofs.Ytppoloellajfhab
open Go.RowKit

theorem divmodN {q r N : Int} (h0 : 0 ≤ r) (h1 : r < N) : (q * N + r) / N = q ∧ (q * N + r) % N = r := by
  have hN : N ≠ 0 := by omega
  refine ⟨?_, ?_⟩
  · rw [Int.add_comm, Int.add_mul_ediv_right _ _ hN, Int.ediv_eq_zero_of_lt h0 h1, Int.zero_add]
  · rw [Int.add_comm, Int.add_mul_emod_self_right, Int.emod_eq_of_lt h0 h1]
theorem mulN {a N : Int} : a * N = (a - 1) * N + N := by rw [Int.sub_mul]; omega
/-- A ballot's rank, bounded. -/
theorem rank_bound {c : Cf} (hk : c.Ok) {n : Nat} {m : Int} (hv : c.valid n m = true) : 0 ≤ c.rank n m ∧ c.rank n m ≤ (c.mn : Int) * (2 * c.f + 1) ∧ (c.mn : Int) * (2 * c.f + 1) ≤ 7696581394432 := by
  have hb := (c.valid_iff n m).1 hv
  have f1 := hk.f1
  have f3 := hk.f3
  have m1 := hk.mn1
  have m2 := hk.mn2
  have u : (c.mn : Int) * (2 * c.f + 1) ≤ 1099511627776 * 7 := Int.mul_le_mul (by omega) (by omega) (by omega) (by omega)
  have l : 0 ≤ (c.mn : Int) * (2 * c.f + 1) := Int.mul_nonneg (by omega) (by omega)
  have hr : c.rank n m = if (n : Int) = 0 then 0 else ((n : Int) - 1) * (2 * c.f + 1) + m + 1 := rfl
  by_cases h0 : (n : Int) = 0
  · rw [hr, if_pos h0]; omega
  · rw [hr, if_neg h0]
    have a1 : 0 ≤ ((n : Int) - 1) * (2 * c.f + 1) := Int.mul_nonneg (by omega) (by omega)
    have a2 : (n : Int) * (2 * c.f + 1) ≤ (c.mn : Int) * (2 * c.f + 1) := Int.mul_le_mul_of_nonneg_right (by omega) (by omega)
    have a3 := @mulN (n : Int) (2 * c.f + 1)
    omega
/-- What Next leads to, told by ranks. -/
theorem next_step {c : Cf} (hk : c.Ok) {n : Nat} {m nd : Int} (hv : c.valid n m = true) (hnd : c.node nd = true) :
    ((c.next n m true).2.2.2 = 183 ∧ c.own n m nd = c.next n m true ∧ c.next n m true = (0, 0, [⟨ballotN, 0⟩], 183) ∧ c.rank n m + 1 > (c.mn : Int) * (2 * c.f + 1)) ∨
    (∃ (xn : Nat) (xm : Int), c.next n m true = ((xn : Int), xm, [], 0) ∧ c.valid xn xm = true ∧ c.rank xn xm = c.rank n m + 1 ∧ c.rank n m / (2 * c.f + 1) + 1 = (xn : Int) ∧ c.rank n m % (2 * c.f + 1) = xm ∧ (xm = nd → c.own n m nd = ((xn : Int), nd, [], 0)) ∧ (xm ≠ nd → c.own xn xm nd = c.own n m nd)) := by
  have hb := (c.valid_iff n m).1 hv
  have f1 := hk.f1
  have f3 := hk.f3
  have m1 := hk.mn1
  have m2 := hk.mn2
  have hd : 0 ≤ nd ∧ nd < 2 * c.f + 1 := by simpa [Cf.node] using hnd
  have hr : ∀ n m : Int, c.rank n m = if n = 0 then 0 else (n - 1) * (2 * c.f + 1) + m + 1 := fun _ _ => rfl
  have hN : c.next n m true = if (n : Int) = 0 then (1, 0, [], 0) else if (n : Int) = (c.mn : Int) ∧ m = 2 * c.f then (0, 0, [⟨ballotN, 0⟩], 183) else if m < 2 * c.f then ((n : Int), m + 1, [], 0) else ((n : Int) + 1, 0, [], 0) := rfl
  have hO : ∀ n m : Int, c.own n m nd = if n = 0 then (1, nd, [], 0) else if m < nd then (n, nd, [], 0) else if n + 1 > (c.mn : Int) then (0, 0, [⟨ballotN, 0⟩], 183) else (n + 1, nd, [], 0) := fun _ _ => rfl
  by_cases h0 : (n : Int) = 0
  · refine .inr ⟨1, 0, ?_, (c.valid_iff 1 0).2 (.inr ⟨by omega, by omega, by omega, by omega⟩), ?_, ?_, ?_, fun e => ?_, fun e => ?_⟩
    · rw [hN, if_pos h0]; rfl
    · rw [hr, hr, if_neg (by decide), if_pos h0]; simp
    · rw [hr, if_pos h0]; simp
    · rw [hr, if_pos h0]; simp
    · rw [hO, if_pos h0]; rfl
    · rw [hO, hO, if_pos h0, if_neg (by decide), if_pos (by omega)]; rfl
  · rw [if_neg h0] at hN
    by_cases h1 : (n : Int) = (c.mn : Int) ∧ m = 2 * c.f
    · rw [if_pos h1] at hN
      refine .inl ⟨by rw [hN], ?_, hN, ?_⟩
      · rw [hN, hO, if_neg h0, if_neg (by omega), if_pos (by omega)]
      · rw [hr, if_neg h0, ← h1.1]
        have := @mulN (n : Int) (2 * c.f + 1)
        omega
    · rw [if_neg h1] at hN
      by_cases h2 : m < 2 * c.f
      · rw [if_pos h2] at hN
        have dm := @divmodN ((n : Int) - 1) (m + 1) (2 * c.f + 1) (by omega) (by omega)
        have e : c.rank n m = ((n : Int) - 1) * (2 * c.f + 1) + (m + 1) := by rw [hr, if_neg h0]; omega
        refine .inr ⟨n, m + 1, hN, (c.valid_iff _ _).2 (.inr ⟨by omega, by omega, by omega, by omega⟩), ?_, ?_, ?_, fun e => ?_, fun e => ?_⟩
        · rw [hr, hr, if_neg h0, if_neg h0]; omega
        · rw [e, dm.1]; omega
        · rw [e, dm.2]
        · rw [hO, if_neg h0, if_pos (by omega)]
        · rw [hO, hO, if_neg h0, if_neg h0]
          by_cases h3 : m < nd
          · rw [if_pos h3, if_pos (by omega)]
          · rw [if_neg h3, if_neg (by omega)]
      · rw [if_neg h2] at hN
        have hm : m = 2 * c.f := by omega
        have hmul := @mulN (n : Int) (2 * c.f + 1)
        have dm := @divmodN (n : Int) 0 (2 * c.f + 1) (by omega) (by omega)
        have e : c.rank n m = (n : Int) * (2 * c.f + 1) + 0 := by rw [hr, if_neg h0]; omega
        have en : ((n + 1 : Nat) : Int) = (n : Int) + 1 := by omega
        refine .inr ⟨n + 1, 0, by rw [hN, en], (c.valid_iff _ _).2 (.inr ⟨by omega, by omega, by omega, by omega⟩), ?_, ?_, ?_, fun e => ?_, fun e => ?_⟩
        · rw [e, hr, if_neg (by omega), en, show (n : Int) + 1 - 1 = n by omega]
        · rw [e, dm.1, en]
        · rw [e, dm.2]
        · rw [hO, if_neg h0, if_neg (by omega), if_neg (by omega), en]
        · have e1 : c.own ((n + 1 : Nat) : Int) 0 nd = ((n : Int) + 1, nd, [], 0) := by rw [hO, if_neg (by omega), if_pos (by omega), en]
          have e2 : c.own n m nd = ((n : Int) + 1, nd, [], 0) := by rw [hO, if_neg h0, if_neg (by omega), if_neg (by omega)]
          rw [e1, e2]
/-- The reference's Next of a ballot that may be. -/
theorem refNext_ok {w : World} {p : Nat} {c : Cf} (n : Nat) (m : Int) (hp : p < w.heap.size) (h : RefG w p c) (hv : c.valid n m = true) :
    Calls Try.prog 35 #[.pointer (some ⟨p, 0, none⟩), .agg #[.int .u64 (n : Nat), .int .i64 m]] w (RNewP w (.agg #[.int .u64 (c.next n m true).1, .int .i64 (c.next n m true).2.1]) (c.next n m true).2.2.1 (c.next n m true).2.2.2) := by
  have hRk : ∀ W, Below w.heap.size w W → Calls Try.prog 37 #[.pointer (some ⟨p, 0, none⟩), .agg #[.int .u64 (n : Nat), .int .i64 m]] W (RNewP W (.int .u64 (c.rank n m)) [] 0) := fun W hb => refRank_yes n m (Nat.lt_of_lt_of_le hp hb.size) (h.below hb hp) hv
  obtain ⟨r0, r1, r2⟩ := rank_bound h.ok hv
  have f1 := h.ok.f1
  have hnd : c.node 0 = true := by simp [Cf.node]; omega
  obtain ⟨k, hk⟩ : ∃ k : Nat, (k : Int) = c.rank n m + 1 := ⟨(c.rank n m + 1).toNat, by omega⟩
  have hw : IntKind.u64.wrap (c.rank n m + 1) = c.rank n m + 1 := wrap_u _ (by omega) (by omega)
  rcases next_step h.ok hv hnd with ⟨_, _, e, ho⟩ | ⟨xn, xm, e, hx, hr, hq, hm, _⟩
  · rw [e]
    refine refNext_end n m hw hRk (fun _ hb => ?_)
    rw [← hk]
    exact refRanked_over k (Nat.lt_of_lt_of_le hp hb.size) (h.below hb hp) (by omega)
  · rw [e]
    refine refNext_go n m hw hRk (fun _ hb => ?_)
    have hle := (rank_bound h.ok hx).2.1
    have := refRanked_yes k (by omega) (Nat.lt_of_lt_of_le hp hb.size) (h.below hb hp) (by omega)
    rw [hk, show c.rank n m + 1 - 1 = c.rank n m by omega, hq, hm] at this
    exact this
/-- The reference's Next of a ballot that may not be. -/
theorem refNext_bad {w : World} {p : Nat} {c : Cf} (n : Nat) (m : Int) (hp : p < w.heap.size) (h : RefG w p c) (hv : c.valid n m = false) :
    Calls Try.prog 35 #[.pointer (some ⟨p, 0, none⟩), .agg #[.int .u64 (n : Nat), .int .i64 m]] w (RNewP w (.agg #[.int .u64 0, .int .i64 0]) [⟨ballotN, 0⟩] 181) :=
  refNext_no n m (fun _ hb => refRank_no n m (Nat.lt_of_lt_of_le hp hb.size) (h.below hb hp) hv)
end Go.Proofs.Ytppoloellajfhab
