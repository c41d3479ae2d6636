import Derived.Test.YtmoklddfaocihaaDoorV27
namespace Go.Proofs.YtmoklddfaocihaaDoor
open Go.RowKit

theorem wr64 {n : Int} (h0 : 0 ≤ n) (h1 : n < 18446744073709551616) : IntKind.u64.wrap n = n := by rw [IntKind.wrap_u64]; omega
theorem low32 {x : Int} (h0 : 0 ≤ x) (h1 : x < 18446744073709551616) : bits .and .u64 x 4294967295 = x % 4294967296 := bits_mask .u64 64 (by decide) (fun n a b => wr64 a b) 32 (by decide) x h0 h1
theorem join32 {x y : Int} (h0 : 0 ≤ x) (h1 : x < 4294967296) (hy : 0 ≤ y) (hy1 : y < 4294967296) : bits .or .u64 (x * 4294967296) y = x * 4294967296 + y :=
 bits_join .u64 64 (by decide) (fun n a b => wr64 a b) 32 (x * 4294967296) y (by omega) (by omega) (by omega) hy hy1 (by omega)
set_option maxRecDepth 10000 in
set_option maxHeartbeats 1600000 in
theorem productR {a b : Int} (ha : 0 ≤ a) (ha2 : a < two64) (hb : 0 ≤ b) (hb2 : b < two64) (w : World) : Calls Tryd.prog 92 #[.int .u64 a, .int .u64 b] w fun e w' => e = .returned (.tuple #[.int .u64 (a * b / two64), .int .u64 (a * b % two64)]) ∧ w' = w := by
 unfold two64 at *
 obtain ⟨a1, e1⟩ : ∃ x, a / 4294967296 = x := ⟨_, rfl⟩
 obtain ⟨a0, e2⟩ : ∃ x, bits .and .u64 a 4294967295 = x := ⟨_, rfl⟩
 obtain ⟨b1, e3⟩ : ∃ x, b / 4294967296 = x := ⟨_, rfl⟩
 obtain ⟨b0, e4⟩ : ∃ x, bits .and .u64 b 4294967295 = x := ⟨_, rfl⟩
 have q2 := e2
 have q4 := e4
 rw [low32 ha ha2] at q2
 rw [low32 hb hb2] at q4
 have a10 : 0 ≤ a1 ∧ a1 ≤ 4294967295 := by omega
 have a00 : 0 ≤ a0 ∧ a0 ≤ 4294967295 := by omega
 have b10 : 0 ≤ b1 ∧ b1 ≤ 4294967295 := by omega
 have b00 : 0 ≤ b0 ∧ b0 ≤ 4294967295 := by omega
 have hN : a * b = a1 * b1 * 18446744073709551616 + (a1 * b0 + a0 * b1) * 4294967296 + a0 * b0 := by
  have x1 : a = a1 * 4294967296 + a0 := by omega
  have x2 : b = b1 * 4294967296 + b0 := by omega
  rw [x1, x2, Int.add_mul, Int.mul_add, Int.mul_add]
  have y1 : a1 * 4294967296 * (b1 * 4294967296) = a1 * b1 * 18446744073709551616 := by
   rw [Int.mul_assoc, Int.mul_left_comm 4294967296, ← Int.mul_assoc]; omega
  have y2 : a1 * 4294967296 * b0 = a1 * b0 * 4294967296 := by rw [Int.mul_assoc, Int.mul_comm 4294967296, ← Int.mul_assoc]
  have y3 : a0 * (b1 * 4294967296) = a0 * b1 * 4294967296 := by rw [Int.mul_assoc]
  rw [y1, y2, y3]
  omega
 have B : ∀ {x y : Int}, 0 ≤ x ∧ x ≤ 4294967295 → 0 ≤ y ∧ y ≤ 4294967295 → 0 ≤ x * y ∧ x * y ≤ 18446744065119617025 := fun {x y} h1 h2 => ⟨Int.mul_nonneg h1.1 h2.1, Int.le_trans (Int.mul_le_mul h1.2 h2.2 h2.1 (by omega)) (by decide)⟩
 have P1 := B a00 b00
 have P2 := B a10 b00
 have P3 := B a00 b10
 have P4 := B a10 b10
 obtain ⟨p1, hp1⟩ : ∃ x, a0 * b0 = x := ⟨_, rfl⟩
 obtain ⟨p2, hp2⟩ : ∃ x, a1 * b0 = x := ⟨_, rfl⟩
 obtain ⟨p3, hp3⟩ : ∃ x, a0 * b1 = x := ⟨_, rfl⟩
 obtain ⟨p4, hp4⟩ : ∃ x, a1 * b1 = x := ⟨_, rfl⟩
 rw [hp1] at P1
 rw [hp2] at P2
 rw [hp3] at P3
 rw [hp4] at P4
 rw [hp1, hp2, hp3, hp4] at hN
 have w1 : IntKind.u64.wrap (a0 * b0) = p1 := by rw [hp1]; exact wr64 (by omega) (by omega)
 have w2 : IntKind.u64.wrap (a1 * b0) = p2 := by rw [hp2]; exact wr64 (by omega) (by omega)
 have w3 : IntKind.u64.wrap (a0 * b1) = p3 := by rw [hp3]; exact wr64 (by omega) (by omega)
 have w4 : IntKind.u64.wrap (a1 * b1) = p4 := by rw [hp4]; exact wr64 (by omega) (by omega)
 obtain ⟨l1, u1⟩ : ∃ x, p1 / 4294967296 = x := ⟨_, rfl⟩
 obtain ⟨mid, u2⟩ : ∃ x, IntKind.u64.wrap (p2 + l1) = x := ⟨_, rfl⟩
 have u2' := u2
 rw [wr64 (by omega) (by omega)] at u2'
 obtain ⟨md, u3⟩ : ∃ x, bits .and .u64 mid 4294967295 = x := ⟨_, rfl⟩
 have u3' := u3
 rw [low32 (by omega) (by omega)] at u3'
 obtain ⟨more, u4⟩ : ∃ x, IntKind.u64.wrap (p3 + md) = x := ⟨_, rfl⟩
 have u4' := u4
 rw [wr64 (by omega) (by omega)] at u4'
 obtain ⟨mh, u5⟩ : ∃ x, mid / 4294967296 = x := ⟨_, rfl⟩
 obtain ⟨h1, u6⟩ : ∃ x, IntKind.u64.wrap (p4 + mh) = x := ⟨_, rfl⟩
 have u6' := u6
 rw [wr64 (by omega) (by omega)] at u6'
 obtain ⟨mo, u7⟩ : ∃ x, more / 4294967296 = x := ⟨_, rfl⟩
 obtain ⟨hi, u8⟩ : ∃ x, IntKind.u64.wrap (h1 + mo) = x := ⟨_, rfl⟩
 have u8' := u8
 rw [wr64 (by omega) (by omega)] at u8'
 obtain ⟨lw, u9⟩ : ∃ x, bits .and .u64 p1 4294967295 = x := ⟨_, rfl⟩
 have u9' := u9
 rw [low32 (by omega) (by omega)] at u9'
 have hwm : IntKind.u64.wrap (more * 4294967296) = more % 4294967296 * 4294967296 := by rw [IntKind.wrap_u64]; omega
 obtain ⟨lo, v1⟩ : ∃ x, bits .or .u64 (IntKind.u64.wrap (more * 4294967296)) lw = x := ⟨_, rfl⟩
 have v1' := v1
 rw [hwm, join32 (by omega) (by omega) (by omega) (by omega)] at v1'
 have HR : Hid (a * b / 18446744073709551616 = hi ∧ a * b % 18446744073709551616 = lo) := by
  rw [hN]
  exact ⟨by omega, by omega⟩
 rw [HR.out.1, HR.out.2]
 clear HR hN hwm P1 P2 P3 P4 B a10 a00 b10 b00 q2 q4 ha ha2 hb hb2 u2' u3' u4' u6' u8' u9' v1' hp1 hp2 hp3 hp4
 go_enter Tryd.func92, Tryd.ntmps92
 go_wp2
 refine bodyPost_ret (v := .tuple #[.int .u64 hi, .int .u64 lo]) (by simp [results, Tryd.results92, go_sem]) rfl ?_
 exact ⟨rfl, rfl⟩
end Go.Proofs.YtmoklddfaocihaaDoor
namespace Go.Proofs.YtmoklddfaocihaaDoor
open Go.RowKit

/-- The long division: the upper bits of N are q times c and a rest. -/
structure Sd (N c : Int) (j : Nat) (q r : Int) : Prop where
 e : N / 2 ^ j = q * c + r
 r0 : 0 ≤ r
 r1 : r < c
 q0 : 0 ≤ q
theorem pow_pos2 (j : Nat) : (0 : Int) < 2 ^ j := by
 induction j with
 | zero => decide
 | succ j ih => rw [Int.pow_succ]; omega
theorem half2 (N : Int) (j : Nat) : N / 2 ^ j = N / 2 ^ (j + 1) * 2 + N / 2 ^ j % 2 := by
 rw [Int.pow_succ, ← Int.ediv_ediv_of_nonneg (Int.le_of_lt (pow_pos2 j))]
 omega
theorem bit2 (hi lo : Int) (j : Nat) (hj : j < 64) : (hi * 18446744073709551616 + lo) / 2 ^ j % 2 = lo / 2 ^ j % 2 := by
 obtain ⟨d, hd⟩ : ∃ d, 64 = j + 1 + d := ⟨63 - j, by omega⟩
 have e : (18446744073709551616 : Int) = 2 ^ d * 2 * 2 ^ j := by
  have : (18446744073709551616 : Int) = 2 ^ 64 := by decide
  rw [this, hd, Int.pow_add, Int.pow_succ, Int.mul_comm (2 ^ j * 2), Int.mul_assoc, Int.mul_comm 2]
 rw [e, ← Int.mul_assoc, Int.add_comm, Int.add_mul_ediv_right _ _ (by have := pow_pos2 j; omega)]
 have : hi * (2 ^ d * 2) = hi * 2 ^ d * 2 := (Int.mul_assoc _ _ _).symm
 rw [this]
 omega
theorem Sd.next {N c : Int} {j : Nat} {q r b : Int} (h : Sd N c (j + 1) q r) (hb : N / 2 ^ j % 2 = b) :
  (c ≤ r * 2 + b → Sd N c j (q * 2 + 1) (r * 2 + b - c)) ∧ (r * 2 + b < c → Sd N c j (q * 2) (r * 2 + b)) := by
 have e := half2 N j
 rw [h.e, hb] at e
 have h0 := h.r0
 have h1 := h.r1
 have h2 := h.q0
 have b01 : 0 ≤ b ∧ b ≤ 1 := by omega
 have m1 : q * 2 * c = q * c * 2 := by rw [Int.mul_assoc, Int.mul_comm 2, ← Int.mul_assoc]
 refine ⟨fun g => ⟨?_, by omega, by omega, by omega⟩, fun g => ⟨?_, by omega, g, by omega⟩⟩
 ·have m2 : (q * 2 + 1) * c = q * c * 2 + c := by rw [Int.add_mul, m1, Int.one_mul]
  rw [e, m2]
  omega
 ·rw [e, m1]
  omega
theorem Sd.small {N c : Int} {j : Nat} {q r : Int} (h : Sd N c j q r) (h64 : N < c * 18446744073709551616) (hN : 0 ≤ N) (hc : 0 < c) : q < 18446744073709551616 := by
 have h1 : N / 2 ^ j ≤ N := Int.ediv_le_self _ hN
 have h2 : q * c < 18446744073709551616 * c := by
  have := h.e
  have := h.r0
  rw [Int.mul_comm 18446744073709551616]
  omega
 exact Int.lt_of_mul_lt_mul_right h2 (by omega)
theorem Sd.fin {N c q r : Int} (h : Sd N c 0 q r) (hc : 0 < c) : N / c = q := by
 have e := h.e
 have e0 : N / 2 ^ 0 = N := by rw [Int.pow_zero, Int.ediv_one]
 rw [e0] at e
 rw [e, Int.add_comm, Int.add_mul_ediv_right _ _ (by omega), Int.ediv_eq_zero_of_lt h.r0 h.r1]
 omega
theorem or1 {x b : Int} (h0 : 0 ≤ x) (h1 : x < 9223372036854775808) (hb : 0 ≤ b ∧ b ≤ 1) : bits .or .u64 (x * 2) b = x * 2 + b :=
 bits_join .u64 64 (by decide) (fun n a b => wr64 a b) 1 (x * 2) b (by omega) (by omega) (by omega) hb.1 (by omega) (by omega)
theorem and1 {x : Int} (h0 : 0 ≤ x) (h1 : x < 18446744073709551616) : bits .and .u64 x 1 = x % 2 := bits_mask .u64 64 (by decide) (fun n a b => wr64 a b) 1 (by decide) x h0 h1
set_option maxRecDepth 10000 in
set_option maxHeartbeats 3200000 in
theorem shareR {a b c : Int} (ha : 0 ≤ a) (ha2 : a < two64) (hb : 0 ≤ b) (hb2 : b < two64) (hc : 0 ≤ c) (hc2 : c < two64) (w : World) : Calls Tryd.prog 75 #[.int .u64 a, .int .u64 b, .int .u64 c] w fun e w' => e = .returned (.tuple #[.int .u64 (reckI 24 a b c).1, .int .i64 (reckI 24 a b c).2]) ∧ w' = w := by
 have HRK : reckI 24 a b c = if c = 0 then (0, 4) else if c ≤ a * b / two64 then (0, 3) else (a * b / c, 0) := rfl
 have HP := hide (productR ha ha2 hb hb2)
 have hN0 : 0 ≤ a * b := Int.mul_nonneg ha hb
 rw [HRK]
 clear HRK
 by_cases z : c = 0
 ·subst z
  go_enter Tryd.func75, Tryd.ntmps75
  go_wp2
  refine bodyPost_ret (v := .tuple #[.int .u64 0, .int .i64 4]) (by simp [results, Tryd.results75, go_sem]) rfl ?_
  exact ⟨rfl, rfl⟩
 ·rw [if_neg z]
  have ez : (c == 0) = false := by simpa using z
  obtain ⟨hi, hhi⟩ : ∃ x, a * b / two64 = x := ⟨_, rfl⟩
  obtain ⟨lo, hlo⟩ : ∃ x, a * b % two64 = x := ⟨_, rfl⟩
  obtain ⟨N, hN⟩ : ∃ x, a * b = x := ⟨_, rfl⟩
  rw [hhi, hlo] at HP
  rw [hhi, hN]
  rw [hN] at hhi hlo hN0
  unfold two64 at *
  by_cases g : c ≤ hi
  ·rw [if_pos g]
   have eg : decide (c ≤ hi) = true := decide_eq_true g
   clear hhi hlo hN
   go_enter Tryd.func75, Tryd.ntmps75
   go_wp2_with fail
   refine (HP.out w).mono ?_
   rintro e w1 ⟨rfl, hw1⟩
   have hw1 := hw1.symm
   subst hw1
   go_wp2
   refine bodyPost_ret (v := .tuple #[.int .u64 0, .int .i64 3]) (by simp [results, Tryd.results75, go_sem]) rfl ?_
   exact ⟨rfl, rfl⟩
  ·rw [if_neg g]
   have eg : decide (c ≤ hi) = false := decide_eq_false g
   have HB : Hid (0 < c ∧ N < c * 18446744073709551616 ∧ 0 ≤ N ∧ 0 ≤ lo ∧ lo < 18446744073709551616 ∧ N = hi * 18446744073709551616 + lo ∧ c < 18446744073709551616) := ⟨by omega, by omega, hN0, by omega, by omega, by omega, hc2⟩
   have H0 : Hid (Sd N c 64 0 hi) := ⟨by show N / 2 ^ 64 = _; omega, by omega, by omega, by omega⟩
   clear hhi hlo hN hN0
   obtain ⟨Q, hQ⟩ : ∃ x, N / c = x := ⟨_, rfl⟩
   rw [hQ]
   have HQ := hide hQ
   clear hQ ha ha2 hb hb2 hc2
   go_enter Tryd.func75, Tryd.ntmps75
   go_wp2_with fail
   refine (HP.out w).mono ?_
   rintro e w1 ⟨rfl, hw1⟩
   have hw1 := hw1.symm
   subst hw1
   clear HP
   go_wp2
   go_loopw [10, 11, 12] (fun q r i wr => ∃ (j : Nat) (q0 r0 : Int), j ≤ 64 ∧ q = .int .u64 q0 ∧ r = .int .u64 r0 ∧ i = .int .i64 ((j : Int) - 1) ∧ Hid (Sd N c j q0 r0) ∧ wr = w) (fun _ _ i _ => (intOf i + 1).toNat)
   case atStart => exact ⟨64, 0, hi, by omega, rfl, rfl, rfl, H0, rfl⟩
   case round =>
    obtain ⟨j, q, r, hj, rfl, rfl, rfl, HJ, hwr⟩ := hrel
    have hwr := hwr.symm
    subst hwr
    clear H0
    cases j with
    | zero =>
     have e0 : (((0 : Nat) : Int) - 1) = -1 := by decide
     rw [e0]
     have e1 := HJ.out.fin HB.out.1
     rw [HQ.out] at e1
     subst e1
     go_wp2
     refine bodyPost_ret (v := .tuple #[.int .u64 Q, .int .i64 0]) ?_ rfl ?_
     ·simp [results, Tryd.results75, go_sem]
     ·exact ⟨rfl, rfl⟩
    | succ m =>
     have e0 : (((m + 1 : Nat) : Int) - 1) = (m : Nat) := by omega
     rw [e0]
     obtain ⟨B0, B1, B2, B3, B4, B5, B6⟩ := HB.out
     have hr0 := HJ.out.r0
     have hr1 := HJ.out.r1
     have hq0 := HJ.out.q0
     have hm64 : m < 64 := by omega
     obtain ⟨bt, hbt⟩ : ∃ x, N / 2 ^ m % 2 = x := ⟨_, rfl⟩
     have hbb : 0 ≤ bt ∧ bt ≤ 1 := by omega
     have hnx := HJ.out.next hbt
     have hl : lo / 2 ^ m % 2 = bt := by rw [← bit2 hi lo m hm64, ← B5]; exact hbt
     have hl0 : 0 ≤ lo / 2 ^ m := Int.ediv_nonneg B3 (Int.le_of_lt (pow_pos2 m))
     have hl1 : lo / 2 ^ m < 18446744073709551616 := Int.lt_of_le_of_lt (Int.ediv_le_self _ B3) B4
     have ea : bits .and .u64 (lo / 2 ^ m) 1 = bt := by rw [and1 hl0 hl1]; exact hl
     have em : IntKind.u64.wrap ((m : Nat) : Int) = (m : Nat) := wr64 (by omega) (by omega)
     obtain ⟨X, hX⟩ : ∃ x, r * 2 + bt = x := ⟨_, rfl⟩
     rw [hX] at hnx
     by_cases hh : 9223372036854775808 ≤ r
     ·have eh : r / 9223372036854775808 = 1 := by omega
      have es : IntKind.u64.wrap (r * 2) = (r - 9223372036854775808) * 2 := by rw [IntKind.wrap_u64]; omega
      have eo : bits .or .u64 (IntKind.u64.wrap (r * 2)) bt = X - 18446744073709551616 := by rw [es, or1 (by omega) (by omega) hbb]; omega
      have ed : IntKind.u64.wrap (X - 18446744073709551616 - c) = X - c := by rw [IntKind.wrap_u64]; omega
      have hn := hnx.1 (by omega)
      have hqs := hn.small B1 B2 B0
      have eq2 : IntKind.u64.wrap (q * 2) = q * 2 := wr64 (by omega) (by omega)
      have eqo : bits .or .u64 (IntKind.u64.wrap (q * 2)) 1 = q * 2 + 1 := by rw [eq2]; exact or1 hq0 (by omega) ⟨by omega, by omega⟩
      have HN := hide hn
      clear hnx hn hbt hl hl0 hl1 hX es eq2 hqs HJ hr0 hr1 hq0 B0 B1 B2 B3 B4 B5 B6 hh hbb
      go_wp2
      refine ⟨⟨m, _, _, by omega, rfl, rfl, rfl, HN, trivial⟩, by simp only [intOf]; omega⟩
     ·have eh : r / 9223372036854775808 = 0 := by omega
      have es : IntKind.u64.wrap (r * 2) = r * 2 := wr64 (by omega) (by omega)
      have eo : bits .or .u64 (r * 2) bt = X := by rw [or1 (by omega) (by omega) hbb]; omega
      by_cases hcx : c ≤ X
      ·have ec : decide (c ≤ X) = true := decide_eq_true hcx
       have ed : IntKind.u64.wrap (X - c) = X - c := wr64 (by omega) (by omega)
       have hn := hnx.1 hcx
       have hqs := hn.small B1 B2 B0
       have eq2 : IntKind.u64.wrap (q * 2) = q * 2 := wr64 (by omega) (by omega)
       have eqo : bits .or .u64 (q * 2) 1 = q * 2 + 1 := or1 hq0 (by omega) ⟨by omega, by omega⟩
       have HN := hide hn
       clear hnx hn hbt hl hl0 hl1 hX hqs HJ hr0 hr1 hq0 B0 B1 B2 B3 B4 B5 B6 hh hbb hcx
       go_wp2
       refine ⟨⟨m, _, _, by omega, rfl, rfl, rfl, HN, trivial⟩, by simp only [intOf]; omega⟩
      ·have ec : decide (c ≤ X) = false := decide_eq_false hcx
       have hn := hnx.2 (by omega)
       have hqs := hn.small B1 B2 B0
       have eq2 : IntKind.u64.wrap (q * 2) = q * 2 := wr64 (by omega) (by omega)
       have HN := hide hn
       clear hnx hn hbt hl hl0 hl1 hX hqs HJ hr0 hr1 hq0 B0 B1 B2 B3 B4 B5 B6 hh hbb hcx
       go_wp2
       refine ⟨⟨m, _, _, by omega, rfl, rfl, rfl, HN, trivial⟩, by simp only [intOf]; omega⟩
set_option maxRecDepth 10000 in
set_option maxHeartbeats 3200000 in
theorem arithR {o : Nat} (h17 : 17 ≤ o) (h21 : o ≤ 21) {a b : Int} (ha : 0 ≤ a) (ha2 : a < two64) (hb : 0 ≤ b) (hb2 : b < two64) (w : World) : Calls Tryd.prog 76 #[.int .i64 ((o - 17 + 8 : Nat) : Int), .int .u64 a, .int .u64 b] w fun e w' => e = .returned (.tuple #[.int .u64 (reckI o a b 0).1, .int .i64 (reckI o a b 0).2]) ∧ w' = w := by
 have hcs : o = 17 ∨ o = 18 ∨ o = 19 ∨ o = 20 ∨ o = 21 := by omega
 rcases hcs with rfl | rfl | rfl | rfl | rfl
 ·have HR : reckI 17 a b 0 = if a + b < two64 then (a + b, 0) else (0, 3) := rfl
  unfold two64 at *
  have e1 : IntKind.u64.wrap (18446744073709551615 - b) = 18446744073709551615 - b := wr64 (by omega) (by omega)
  by_cases q : a + b < 18446744073709551616
  ·rw [HR, if_pos q]
   have e2 : decide (18446744073709551615 - b < a) = false := decide_eq_false (by omega)
   have e3 : IntKind.u64.wrap (a + b) = a + b := wr64 (by omega) q
   clear HR
   go_enter Tryd.func76, Tryd.ntmps76
   go_wp2
   refine bodyPost_ret (v := .tuple #[.int .u64 (a + b), .int .i64 0]) (by simp [results, Tryd.results76, go_sem]) rfl ?_
   exact ⟨rfl, rfl⟩
  ·rw [HR, if_neg q]
   have e2 : decide (18446744073709551615 - b < a) = true := decide_eq_true (by omega)
   clear HR
   go_enter Tryd.func76, Tryd.ntmps76
   go_wp2
   refine bodyPost_ret (v := .tuple #[.int .u64 0, .int .i64 3]) (by simp [results, Tryd.results76, go_sem]) rfl ?_
   exact ⟨rfl, rfl⟩
 ·have HR : reckI 18 a b 0 = if b ≤ a then (a - b, 0) else (0, 3) := rfl
  unfold two64 at *
  by_cases q : b ≤ a
  ·rw [HR, if_pos q]
   have e2 : decide (a < b) = false := decide_eq_false (by omega)
   have e3 : IntKind.u64.wrap (a - b) = a - b := wr64 (by omega) (by omega)
   clear HR
   go_enter Tryd.func76, Tryd.ntmps76
   go_wp2
   refine bodyPost_ret (v := .tuple #[.int .u64 (a - b), .int .i64 0]) (by simp [results, Tryd.results76, go_sem]) rfl ?_
   exact ⟨rfl, rfl⟩
  ·rw [HR, if_neg q]
   have e2 : decide (a < b) = true := decide_eq_true (by omega)
   clear HR
   go_enter Tryd.func76, Tryd.ntmps76
   go_wp2
   refine bodyPost_ret (v := .tuple #[.int .u64 0, .int .i64 3]) (by simp [results, Tryd.results76, go_sem]) rfl ?_
   exact ⟨rfl, rfl⟩
 ·have HR : reckI 19 a b 0 = if a * b < two64 then (a * b, 0) else (0, 3) := rfl
  unfold two64 at *
  by_cases z : b = 0
  ·subst z
   rw [HR, if_pos (by omega), Int.mul_zero]
   clear HR
   go_enter Tryd.func76, Tryd.ntmps76
   go_wp2
   refine bodyPost_ret (v := .tuple #[.int .u64 0, .int .i64 0]) (by simp [results, Tryd.results76, go_sem]) rfl ?_
   exact ⟨rfl, rfl⟩
  ·have ez : (b != 0) = true := by simpa using z
   obtain ⟨D, hD⟩ : ∃ D, 18446744073709551615 / b = D := ⟨_, rfl⟩
   have hD0 : 0 ≤ D ∧ D ≤ 18446744073709551615 := by
    rw [← hD]
    exact ⟨Int.ediv_nonneg (by decide) hb, Int.ediv_le_self _ (by decide)⟩
   have e1 : IntKind.u64.wrap (Int.tdiv 18446744073709551615 b) = D := by rw [Int.tdiv_eq_ediv_of_nonneg (by decide), hD]; exact wr64 hD0.1 (by omega)
   have hle : a ≤ D ↔ a * b < 18446744073709551616 := by
    rw [← hD, Int.le_ediv_iff_mul_le (by omega)]
    omega
   have hp : 0 ≤ a * b := Int.mul_nonneg ha hb
   obtain ⟨P, hP⟩ : ∃ P, a * b = P := ⟨_, rfl⟩
   rw [hP] at HR hle hp
   by_cases q : P < 18446744073709551616
   ·rw [HR, if_pos q]
    have e2 : decide (D < a) = false := decide_eq_false (by have := hle.2 q; omega)
    have e3 : IntKind.u64.wrap (a * b) = P := by rw [hP]; exact wr64 hp q
    clear HR hP hD hle
    go_enter Tryd.func76, Tryd.ntmps76
    go_wp2
    refine bodyPost_ret (v := .tuple #[.int .u64 P, .int .i64 0]) (by simp [results, Tryd.results76, go_sem]) rfl ?_
    exact ⟨rfl, rfl⟩
   ·rw [HR, if_neg q]
    have e2 : decide (D < a) = true := decide_eq_true (by
     rcases Int.lt_or_le D a with h | h
     ·exact h
     ·exact absurd (hle.1 h) q)
    clear HR hP hD hle
    go_enter Tryd.func76, Tryd.ntmps76
    go_wp2
    refine bodyPost_ret (v := .tuple #[.int .u64 0, .int .i64 3]) (by simp [results, Tryd.results76, go_sem]) rfl ?_
    exact ⟨rfl, rfl⟩
 ·have HR : reckI 20 a b 0 = if b = 0 then (0, 4) else (a / b, 0) := rfl
  unfold two64 at *
  by_cases z : b = 0
  ·subst z
   rw [HR, if_pos rfl]
   clear HR
   go_enter Tryd.func76, Tryd.ntmps76
   go_wp2
   refine bodyPost_ret (v := .tuple #[.int .u64 0, .int .i64 4]) (by simp [results, Tryd.results76, go_sem]) rfl ?_
   exact ⟨rfl, rfl⟩
  ·rw [HR, if_neg z]
   have ez : (b == 0) = false := by simpa using z
   obtain ⟨D, hD⟩ : ∃ D, a / b = D := ⟨_, rfl⟩
   have hD0 : 0 ≤ D ∧ D ≤ a := by
    rw [← hD]
    exact ⟨Int.ediv_nonneg ha hb, Int.ediv_le_self _ ha⟩
   have e1 : IntKind.u64.wrap (Int.tdiv a b) = D := by rw [Int.tdiv_eq_ediv_of_nonneg ha, hD]; exact wr64 hD0.1 (by omega)
   rw [hD]
   clear HR hD
   go_enter Tryd.func76, Tryd.ntmps76
   go_wp2
   refine bodyPost_ret (v := .tuple #[.int .u64 D, .int .i64 0]) (by simp [results, Tryd.results76, go_sem]) rfl ?_
   exact ⟨rfl, rfl⟩
 ·have HR : reckI 21 a b 0 = if b = 0 then (0, 4) else (a % b, 0) := rfl
  unfold two64 at *
  by_cases z : b = 0
  ·subst z
   rw [HR, if_pos rfl]
   clear HR
   go_enter Tryd.func76, Tryd.ntmps76
   go_wp2
   refine bodyPost_ret (v := .tuple #[.int .u64 0, .int .i64 4]) (by simp [results, Tryd.results76, go_sem]) rfl ?_
   exact ⟨rfl, rfl⟩
  ·rw [HR, if_neg z]
   have ez : (b == 0) = false := by simpa using z
   obtain ⟨D, hD⟩ : ∃ D, a % b = D := ⟨_, rfl⟩
   have hD0 : 0 ≤ D ∧ D < b := by
    rw [← hD]
    exact ⟨Int.emod_nonneg _ z, Int.emod_lt_of_pos _ (by omega)⟩
   have e1 : IntKind.u64.wrap (a % b) = D := by rw [hD]; exact wr64 hD0.1 (by omega)
   have HD := hide hD
   rw [hD]
   clear HR hD
   go_enter Tryd.func76, Tryd.ntmps76
   go_wp2
   refine bodyPost_ret (v := .tuple #[.int .u64 D, .int .i64 0]) (by simp [results, Tryd.results76, go_sem, HD.out]) rfl ?_
   exact ⟨rfl, rfl⟩
end Go.Proofs.YtmoklddfaocihaaDoor
