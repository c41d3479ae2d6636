import Derived.Test.YtggpaljilpbmhaaGreatDoorW44
import Derived.Test.YtggpaljilpbmhaaGreatDoorW35
import Derived.Deep.DeepCutAuto
namespace Go.Proofs.YtggpaljilpbmhaaGreatDoor
open Go.RowKit

theorem bitLen_two : ∀ (n x : Nat), x < n → x ≠ 0 → x < 2 ^ 64 → 1 ≤ Lib.bitLen x ∧ 2 ^ (Lib.bitLen x - 1) ≤ x ∧ x < 2 ^ Lib.bitLen x
 | 0, x, h, _, _ => by omega
 | n + 1, x, h, h0, h64 => by
  rw [Lib.bitLen_half x h0 h64]
  by_cases h1 : x / 2 = 0
  ·have e : Lib.bitLen (x / 2) = 0 := by rw [h1]; rfl
   have : x = 1 := by omega
   subst this
   rw [e]
   decide
  ·obtain ⟨a, b, c⟩ := bitLen_two n (x / 2) (by omega) h1 (by omega)
   refine ⟨by omega, ?_, ?_⟩
   ·have e : 1 + Lib.bitLen (x / 2) - 1 = (Lib.bitLen (x / 2) - 1) + 1 := by omega
    rw [e, Nat.pow_succ]
    omega
   ·rw [Nat.add_comm 1, Nat.pow_succ]
    omega
/-- A number is shifted so that its first bit is the highest. -/
theorem norm64 {y : Int} (h0 : 0 < y) (h1 : y < 18446744073709551616) : ∃ s : Nat, s ≤ 63 ∧ (64 - (Lib.bitLen y.toNat : Int)) = (s : Nat) ∧ 9223372036854775808 ≤ y * 2 ^ s ∧ y * 2 ^ s < 18446744073709551616 := by
 obtain ⟨n, rfl⟩ : ∃ n : Nat, y = n := ⟨y.toNat, by omega⟩
 obtain ⟨a, b, c⟩ := bitLen_two (n + 1) n (by omega) (by omega) (by omega)
 have hb : Lib.bitLen n ≤ 64 := Nat.le_of_not_lt (fun hlt => by
  have : 2 ^ 64 ≤ 2 ^ (Lib.bitLen n - 1) := Nat.pow_le_pow_right (by decide) (by omega)
  omega)
 refine ⟨64 - Lib.bitLen n, by omega, by simp; omega, ?_, ?_⟩
 ·have e : 2 ^ (Lib.bitLen n - 1) * 2 ^ (64 - Lib.bitLen n) = 9223372036854775808 := by rw [← Nat.pow_add, show Lib.bitLen n - 1 + (64 - Lib.bitLen n) = 63 by omega]
  have : 2 ^ (Lib.bitLen n - 1) * 2 ^ (64 - Lib.bitLen n) ≤ n * 2 ^ (64 - Lib.bitLen n) := Nat.mul_le_mul_right _ b
  have h2 : (9223372036854775808 : Int) ≤ ((n * 2 ^ (64 - Lib.bitLen n) : Nat) : Int) := by omega
  rw [Int.natCast_mul, Int.natCast_pow] at h2
  exact h2
 ·have e : 2 ^ (Lib.bitLen n) * 2 ^ (64 - Lib.bitLen n) = 18446744073709551616 := by rw [← Nat.pow_add, show Lib.bitLen n + (64 - Lib.bitLen n) = 64 by omega]
  have : n * 2 ^ (64 - Lib.bitLen n) < 2 ^ (Lib.bitLen n) * 2 ^ (64 - Lib.bitLen n) := Nat.mul_lt_mul_of_pos_right c (Nat.pos_of_ne_zero (by simp))
  have h2 : ((n * 2 ^ (64 - Lib.bitLen n) : Nat) : Int) < 18446744073709551616 := by omega
  rw [Int.natCast_mul, Int.natCast_pow] at h2
  exact h2
/-- A digit of the quotient under way: U is what is divided, v1 and v0 the divisor's halves, u the next digit. -/
structure Kn4 (U v1 v0 u x r : Int) : Prop where
 e : U = x * v1 + r
 r0 : 0 ≤ r
 x0 : 0 ≤ x
 x1 : x ≤ 4294967297
 up : r * 4294967296 + u < x * v0 + v1 * 4294967296 + v0
/-- The digit is found. -/
structure Kd4 (U v1 v0 u x r : Int) : Prop where
 e : U = x * v1 + r
 x0 : 0 ≤ x
 x1 : x < 4294967296
 lo : x * v0 ≤ r * 4294967296 + u
 up : r * 4294967296 + u < x * v0 + v1 * 4294967296 + v0
/-- A divisor whose first bit is the highest, a dividend below it. -/
structure Kv4 (U v1 v0 u : Int) : Prop where
 a : 2147483648 ≤ v1
 b : v1 < 4294967296
 c : 0 ≤ v0
 d : v0 < 4294967296
 e : 0 ≤ U
 f : U < v1 * 4294967296 + v0
 g : 0 ≤ u
 h : u < 4294967296
section
variable {U v1 v0 u x r : Int}
theorem Kv4.start (h : Kv4 U v1 v0 u) : Kn4 U v1 v0 u (U / v1) (U % v1) ∧ U % v1 < 4294967296 := by
 have h1 := Int.emod_nonneg U (show v1 ≠ 0 by have := h.a; omega)
 have h2 := Int.emod_lt_of_pos U (show 0 < v1 by have := h.a; omega)
 have h3 := Int.mul_ediv_add_emod U v1
 have h4 : 0 ≤ U / v1 := Int.ediv_nonneg h.e (by have := h.a; omega)
 have ha := h.a
 have hb := h.b
 have hc := h.c
 have hd := h.d
 have hf := h.f
 have hg := h.h
 have hm : 0 ≤ U / v1 * v0 := Int.mul_nonneg h4 hc
 refine ⟨⟨by rw [Int.mul_comm]; exact h3.symm, h1, h4, ?_, by omega⟩, by omega⟩
 refine Int.le_of_not_gt (fun hx => ?_)
 have : 4294967298 * v1 ≤ U / v1 * v1 := Int.mul_le_mul_of_nonneg_right (by omega) (by omega)
 rw [Int.mul_comm v1] at h3
 omega
/-- Is the digit too great? -/
theorem Kn4.done (h : Kn4 U v1 v0 u x r) (hx : x < 4294967296) (ht : ¬ r * 4294967296 + u < x * v0) : Kd4 U v1 v0 u x r := ⟨h.e, h.x0, hx, by omega, h.up⟩
theorem Kn4.dec (h : Kn4 U v1 v0 u x r) (hv : Kv4 U v1 v0 u) (ht : 4294967296 ≤ x ∨ r * 4294967296 + u < x * v0) : Kn4 U v1 v0 u (x - 1) (r + v1) ∧ 1 ≤ x ∧ x - 1 ≤ 4294967296 := by
 have ha := hv.a
 have hb := hv.b
 have hc := hv.c
 have hd := hv.d
 have hf := hv.f
 have hg := hv.g
 have hh := hv.h
 have he := h.e
 have hr := h.r0
 have hx0 := h.x0
 have hx1 := h.x1
 have key : r * 4294967296 + u < x * v0 ∧ 1 ≤ x := by
  rcases ht with q | q
  ·have hc2 : x = 4294967296 ∨ x = 4294967297 := by omega
   rcases hc2 with e | e
   ·subst e
    omega
   ·subst e
    omega
  ·refine ⟨q, ?_⟩
   refine Int.le_of_not_gt (fun e => ?_)
   have : x = 0 := by omega
   subst this
   omega
 have e1 : (x - 1) * v1 = x * v1 - v1 := by rw [Int.sub_mul, Int.one_mul]
 have e0 : (x - 1) * v0 = x * v0 - v0 := by rw [Int.sub_mul, Int.one_mul]
 refine ⟨⟨by rw [e1]; omega, by omega, by omega, by omega, by rw [e0]; omega⟩, key.2, by omega⟩
theorem Kn4.out (h : Kn4 U v1 v0 u x r) (hv : Kv4 U v1 v0 u) (hx : x ≤ 4294967296) (hr : 4294967296 ≤ r) : Kd4 U v1 v0 u x r := by
 have hd := hv.d
 have hc := hv.c
 have hg := hv.g
 have ha := hv.a
 have hf := hv.f
 have he := h.e
 have h1 : x * v0 ≤ 4294967296 * v0 := Int.mul_le_mul_of_nonneg_right hx hc
 have h3 : x < 4294967296 := by
  refine Int.lt_of_not_ge (fun q => ?_)
  have : x = 4294967296 := by omega
  subst this
  omega
 exact ⟨h.e, h.x0, h3, by omega, h.up⟩
/-- What is left behind a digit. -/
theorem Kd4.rest (h : Kd4 U v1 v0 u x r) : 0 ≤ U * 4294967296 + u - x * (v1 * 4294967296 + v0) ∧ U * 4294967296 + u - x * (v1 * 4294967296 + v0) < v1 * 4294967296 + v0 := by
 have e : x * (v1 * 4294967296 + v0) = x * v1 * 4294967296 + x * v0 := by rw [Int.mul_add, Int.mul_assoc]
 have h1 := h.lo
 have h2 := h.up
 have h3 := h.e
 rw [e]
 omega
end
/-- Two digits are the quotient. -/
theorem two_digits {v N U u1 u0 x1 x0 R : Int} (hv : 0 < v) (hN : N = (U * 4294967296 + u1) * 4294967296 + u0) (hR : R = U * 4294967296 + u1 - x1 * v) (h0 : 0 ≤ R * 4294967296 + u0 - x0 * v) (h1 : R * 4294967296 + u0 - x0 * v < v) : N / v = x1 * 4294967296 + x0 := by
 have e : N = (R * 4294967296 + u0 - x0 * v) + (x1 * 4294967296 + x0) * v := by
  rw [Int.add_mul, Int.mul_right_comm x1 4294967296 v, hN, hR]
  omega
 rw [e, Int.add_mul_ediv_right _ _ (by omega), Int.ediv_eq_zero_of_lt h0 h1]
 omega
end Go.Proofs.YtggpaljilpbmhaaGreatDoor
namespace Go.Proofs.YtggpaljilpbmhaaGreatDoor
open Go.RowKit

set_option maxRecDepth 10000 in
set_option maxHeartbeats 6400000 in
/-- Div64 where the high half is not 0, with the numbers that it works with under names. -/
theorem divG {hi lo y v v1 v0 U L u1 u0 : Int} {s : Nat} {w : World} (h0 : ¬ y = 0) (h1 : ¬ y ≤ hi) (h2 : ¬ hi = 0) (HL : ∀ w, Calls Tryz.prog 218 #[.int .u64 y] w fun e w' => e = .returned (.int .i64 (s : Nat)) ∧ w' = w)
  (hs : IntKind.u64.wrap ((s : Nat) : Int) = (s : Nat)) (hs2 : IntKind.u64.wrap (64 - (s : Nat)) = ((64 - s : Nat) : Int)) (e1 : IntKind.u64.wrap (y * 2 ^ min s 64) = v) (e2 : v / 4294967296 = v1) (e3 : bits .and .u64 v 4294967295 = v0) (e4 : bits .or .u64 (IntKind.u64.wrap (hi * 2 ^ min s 64)) (lo / 2 ^ (64 - s)) = U) (e5 : IntKind.u64.wrap (lo * 2 ^ min s 64) = L) (e6 : L / 4294967296 = u1) (e7 : bits .and .u64 L 4294967295 = u0) (hv : Kv4 U v1 v0 u1) (g0 : 0 ≤ u0) (g1 : u0 < 4294967296) (HVV : Hid (v = v1 * 4294967296 + v0)) :
  Calls Tryz.prog 211 #[.int .u64 hi, .int .u64 lo, .int .u64 y] w fun e w' => ∃ rm, e = .returned (.tuple #[.int .u64 ((U * 18446744073709551616 + (u1 * 4294967296 + u0)) / v), .int .u64 rm]) ∧ w' = w := by
 have H := hide HL
 have HVA := hide hv
 have HVB : Hid (2147483648 ≤ v1 ∧ v1 < 4294967296 ∧ 0 ≤ v0 ∧ v0 < 4294967296) := ⟨hv.a, hv.b, hv.c, hv.d⟩
 have HU : Hid ((0 ≤ u1 ∧ u1 < 4294967296) ∧ 0 ≤ u0 ∧ u0 < 4294967296) := ⟨⟨hv.g, hv.h⟩, g0, g1⟩
 have hv1 : ¬ v1 = 0 := by have := hv.a; omega
 obtain ⟨hk, hk2⟩ := hv.start
 have HK := hide hk
 obtain ⟨x, hx⟩ : ∃ x, U / v1 = x := ⟨_, rfl⟩
 obtain ⟨r, hr⟩ : ∃ r, U % v1 = r := ⟨_, rfl⟩
 rw [hx, hr] at HK
 rw [hr] at hk2
 have hx0 := HK.out.x0
 have hx1 := HK.out.x1
 have hr0 := HK.out.r0
 have hue := HK.out.e
 have e8 : IntKind.u64.wrap (U.tdiv v1) = x := by rw [Int.tdiv_eq_ediv_of_nonneg hv.e, hx, IntKind.wrap_u64]; omega
 have hxv : x * v1 = U - r := by omega
 have hU1 := hv.e
 have hU2 : U < 18446744073709551616 := by have h1 := hv.f; have h2 := hv.b; have h3 := hv.d; omega
 have hrU : r ≤ U := by
  have : 0 ≤ x * v1 := Int.mul_nonneg hx0 (by have := hv.a; omega)
  omega
 have e9 : IntKind.u64.wrap (x * v1) = U - r := by rw [hxv, IntKind.wrap_u64]; omega
 have e10 : IntKind.u64.wrap (U - (U - r)) = r := by rw [IntKind.wrap_u64]; omega
 have HEX := hide (And.intro hU1 hU2)
 clear HL hv hk hx hr hue hxv hx0 hx1 hr0 hrU hU1 hU2
 obtain ⟨ur, hur⟩ : ∃ ur, U - r = ur := ⟨_, rfl⟩
 rw [hur] at e9 e10
 clear hur
 go_enter Tryz.func211, Tryz.ntmps211
 go_wp2_with fail
 refine (H.out _).mono ?_
 rintro e w1 ⟨rfl, hw1⟩
 have hw1 := hw1.symm
 subst hw1
 clear H
 go_upto_block 0 with fail
 go_cut [15, 16] from 67 (fun a b V => ∃ x r, a = .int .u64 x ∧ b = .int .u64 r ∧ Hid (Kd4 U v1 v0 u1 x r) ∧ V = w)
 case first =>
  go_wp2
  go_loopw [15, 16] (fun a b wr => ∃ x r, a = .int .u64 x ∧ b = .int .u64 r ∧ Hid (Kn4 U v1 v0 u1 x r) ∧ r < 4294967296 ∧ wr = w) (fun a _ _ => (intOf a).toNat)
  case atStart => exact ⟨_, _, rfl, rfl, HK, hk2, rfl⟩
  case round =>
   obtain ⟨x, r, rfl, rfl, HJ, hr, hwr⟩ := hrel
   have hwr := hwr.symm
   subst hwr
   have hr0 := HJ.out.r0
   have hx0 := HJ.out.x0
   have hx1 := HJ.out.x1
   obtain ⟨b5, b6, b7, b8⟩ := HVB.out
   by_cases hb : 4294967296 ≤ x
   ·have HD := hide (HJ.out.dec HVA.out (.inl hb))
    have e1 : IntKind.u64.wrap (x - 1) = x - 1 := by rw [IntKind.wrap_u64]; omega
    have e2 : IntKind.u64.wrap (r + v1) = r + v1 := by rw [IntKind.wrap_u64]; omega
    have hxd : (x - 1).toNat < x.toNat := by omega
    clear HJ
    by_cases hq : 4294967296 ≤ r + v1
    ·have HO := hide (HD.out.1.out HVA.out HD.out.2.2 hq)
     clear HD
     go_wp2
     go_meet
     case rel => exact ⟨_, _, rfl, rfl, HO, rfl⟩
    ·have hq2 : r + v1 < 4294967296 := by omega
     have HN := hide HD.out.1
     clear HD
     go_wp2
     go_roundw
     case rel => exact ⟨_, _, rfl, rfl, HN, hq2, trivial⟩
     case measure => exact hxd
   ·obtain ⟨t, ht⟩ : ∃ t, x * v0 = t := ⟨_, rfl⟩
    have ht0 : 0 ≤ t := by rw [← ht]; exact Int.mul_nonneg hx0 b7
    have ht1 : t < 18446744073709551616 := by
     have h1 : x * v0 ≤ 4294967295 * v0 := Int.mul_le_mul_of_nonneg_right (by omega) b7
     rw [ht] at h1
     omega
    have e3 : IntKind.u64.wrap t = t := by rw [IntKind.wrap_u64]; omega
    have e4 : IntKind.u64.wrap (4294967296 * r) = 4294967296 * r := by rw [IntKind.wrap_u64]; omega
    have e5 : IntKind.u64.wrap (4294967296 * r + u1) = 4294967296 * r + u1 := by have := HU.out.1; rw [IntKind.wrap_u64]; omega
    by_cases hg : r * 4294967296 + u1 < t
    ·have HD := hide (HJ.out.dec HVA.out (.inr (by rw [ht]; exact hg)))
     have hx2 := HD.out.2.1
     have e1 : IntKind.u64.wrap (x - 1) = x - 1 := by rw [IntKind.wrap_u64]; omega
     have e2 : IntKind.u64.wrap (r + v1) = r + v1 := by rw [IntKind.wrap_u64]; omega
     have hxd : (x - 1).toNat < x.toNat := by omega
     have hg2 : 4294967296 * r + u1 < t := by omega
     clear HJ hg
     by_cases hq : 4294967296 ≤ r + v1
     ·have HO := hide (HD.out.1.out HVA.out HD.out.2.2 hq)
      clear HD
      go_wp2
      go_meet
      case rel => exact ⟨_, _, rfl, rfl, HO, rfl⟩
     ·have hq2 : r + v1 < 4294967296 := by omega
      have HN := hide HD.out.1
      clear HD
      go_wp2
      go_roundw
      case rel => exact ⟨_, _, rfl, rfl, HN, hq2, trivial⟩
      case measure => exact hxd
    ·have HO := hide (HJ.out.done (by omega) (by rw [ht]; exact hg))
     have hg2 : ¬ 4294967296 * r + u1 < t := by omega
     clear HJ hg
     go_wp2
     go_meet
     case rel => exact ⟨_, _, rfl, rfl, HO, rfl⟩
 case rest =>
 obtain ⟨x1, r1, rfl, rfl, HD1, hw1⟩ := hcut
 have hw1 := hw1.symm
 subst hw1
 clear HK hk2 e8 e9 e10
 obtain ⟨hrs0, hrs1⟩ := HD1.out.rest
 obtain ⟨m, hm⟩ : ∃ m, x1 * v = m := ⟨_, rfl⟩
 have HM := hide hm
 have hm2 : x1 * (v1 * 4294967296 + v0) = m := by rw [← hm, HVV.out]
 rw [hm2] at hrs0 hrs1
 obtain ⟨R, hR⟩ : ∃ R, U * 4294967296 + u1 - m = R := ⟨_, rfl⟩
 rw [hR] at hrs0 hrs1
 have f1 : IntKind.u64.wrap (U * 4294967296) = (U * 4294967296) % 18446744073709551616 := IntKind.wrap_u64 _
 have f2 : IntKind.u64.wrap ((U * 4294967296) % 18446744073709551616 + u1) = ((U * 4294967296) % 18446744073709551616 + u1) % 18446744073709551616 := IntKind.wrap_u64 _
 have f3 : IntKind.u64.wrap (x1 * v) = m % 18446744073709551616 := by rw [hm]; exact IntKind.wrap_u64 _
 have f4 : IntKind.u64.wrap (((U * 4294967296) % 18446744073709551616 + u1) % 18446744073709551616 - m % 18446744073709551616) = R := by
  obtain ⟨_, b6, b7, b8⟩ := HVB.out
  rw [IntKind.wrap_u64]
  omega
 have HV2 : Hid (Kv4 R v1 v0 u0) := ⟨HVA.out.a, HVA.out.b, HVA.out.c, HVA.out.d, hrs0, hrs1, HU.out.2.1, HU.out.2.2⟩
 obtain ⟨hk, hk2⟩ := HV2.out.start
 have HK := hide hk
 obtain ⟨x, hx⟩ : ∃ x, R / v1 = x := ⟨_, rfl⟩
 obtain ⟨r, hr⟩ : ∃ r, R % v1 = r := ⟨_, rfl⟩
 rw [hx, hr] at HK
 rw [hr] at hk2
 have hx0 := HK.out.x0
 have hxx1 := HK.out.x1
 have hr0 := HK.out.r0
 have hue := HK.out.e
 have e8 : IntKind.u64.wrap (R.tdiv v1) = x := by rw [Int.tdiv_eq_ediv_of_nonneg hrs0, hx, IntKind.wrap_u64]; omega
 have hxv : x * v1 = R - r := by omega
 have hR2 : R < 18446744073709551616 := by obtain ⟨_, b6, b7, b8⟩ := HVB.out; omega
 have hrR : r ≤ R := by
  have : 0 ≤ x * v1 := Int.mul_nonneg hx0 (by obtain ⟨b5, _⟩ := HVB.out; omega)
  omega
 have e9 : IntKind.u64.wrap (x * v1) = R - r := by rw [hxv, IntKind.wrap_u64]; omega
 have e10 : IntKind.u64.wrap (R - (R - r)) = r := by rw [IntKind.wrap_u64]; omega
 have HRR := hide hR
 obtain ⟨ur, hur⟩ : ∃ ur, R - r = ur := ⟨_, rfl⟩
 rw [hur] at e9 e10
 obtain ⟨pm, hpm⟩ : ∃ pm, (U * 4294967296) % 18446744073709551616 = pm := ⟨_, rfl⟩
 rw [hpm] at f1 f2 f4
 obtain ⟨pn, hpn⟩ : ∃ pn, (pm + u1) % 18446744073709551616 = pn := ⟨_, rfl⟩
 rw [hpn] at f2 f4
 obtain ⟨mm, hmm⟩ : ∃ mm, m % 18446744073709551616 = mm := ⟨_, rfl⟩
 rw [hmm] at f3 f4
 clear hk hx hr hue hxv hx0 hxx1 hr0 hrR hR hur hpm hpn hmm hm hm2 hrs0 hrs1 hR2
 go_upto_block 2 with fail
 go_cut [18, 16] from 102 (fun a b V => ∃ x r, a = .int .u64 x ∧ b = .int .u64 r ∧ Hid (Kd4 R v1 v0 u0 x r) ∧ V = w)
 case first =>
  go_wp2
  go_loopw [18, 16] (fun a b wr => ∃ x r, a = .int .u64 x ∧ b = .int .u64 r ∧ Hid (Kn4 R v1 v0 u0 x r) ∧ r < 4294967296 ∧ wr = w) (fun a _ _ => (intOf a).toNat)
  case atStart => exact ⟨_, _, rfl, rfl, HK, hk2, rfl⟩
  case round =>
   obtain ⟨x, r, rfl, rfl, HJ, hr, hwr⟩ := hrel
   have hwr := hwr.symm
   subst hwr
   have hr0 := HJ.out.r0
   have hx0 := HJ.out.x0
   have hx1 := HJ.out.x1
   obtain ⟨b5, b6, b7, b8⟩ := HVB.out
   by_cases hb : 4294967296 ≤ x
   ·have HD := hide (HJ.out.dec HV2.out (.inl hb))
    have e1 : IntKind.u64.wrap (x - 1) = x - 1 := by rw [IntKind.wrap_u64]; omega
    have e2 : IntKind.u64.wrap (r + v1) = r + v1 := by rw [IntKind.wrap_u64]; omega
    have hxd : (x - 1).toNat < x.toNat := by omega
    clear HJ
    by_cases hq : 4294967296 ≤ r + v1
    ·have HO := hide (HD.out.1.out HV2.out HD.out.2.2 hq)
     clear HD
     go_wp2
     go_meet
     case rel => exact ⟨_, _, rfl, rfl, HO, rfl⟩
    ·have hq2 : r + v1 < 4294967296 := by omega
     have HN := hide HD.out.1
     clear HD
     go_wp2
     go_roundw
     case rel => exact ⟨_, _, rfl, rfl, HN, hq2, trivial⟩
     case measure => exact hxd
   ·obtain ⟨t, ht⟩ : ∃ t, x * v0 = t := ⟨_, rfl⟩
    have ht0 : 0 ≤ t := by rw [← ht]; exact Int.mul_nonneg hx0 b7
    have ht1 : t < 18446744073709551616 := by
     have h1 : x * v0 ≤ 4294967295 * v0 := Int.mul_le_mul_of_nonneg_right (by omega) b7
     rw [ht] at h1
     omega
    have e3 : IntKind.u64.wrap t = t := by rw [IntKind.wrap_u64]; omega
    have e4 : IntKind.u64.wrap (4294967296 * r) = 4294967296 * r := by rw [IntKind.wrap_u64]; omega
    have e5 : IntKind.u64.wrap (4294967296 * r + u0) = 4294967296 * r + u0 := by have := HU.out.2; rw [IntKind.wrap_u64]; omega
    by_cases hg : r * 4294967296 + u0 < t
    ·have HD := hide (HJ.out.dec HV2.out (.inr (by rw [ht]; exact hg)))
     have hx2 := HD.out.2.1
     have e1 : IntKind.u64.wrap (x - 1) = x - 1 := by rw [IntKind.wrap_u64]; omega
     have e2 : IntKind.u64.wrap (r + v1) = r + v1 := by rw [IntKind.wrap_u64]; omega
     have hxd : (x - 1).toNat < x.toNat := by omega
     have hg2 : 4294967296 * r + u0 < t := by omega
     clear HJ hg
     by_cases hq : 4294967296 ≤ r + v1
     ·have HO := hide (HD.out.1.out HV2.out HD.out.2.2 hq)
      clear HD
      go_wp2
      go_meet
      case rel => exact ⟨_, _, rfl, rfl, HO, rfl⟩
     ·have hq2 : r + v1 < 4294967296 := by omega
      have HN := hide HD.out.1
      clear HD
      go_wp2
      go_roundw
      case rel => exact ⟨_, _, rfl, rfl, HN, hq2, trivial⟩
      case measure => exact hxd
    ·have HO := hide (HJ.out.done (by omega) (by rw [ht]; exact hg))
     have hg2 : ¬ 4294967296 * r + u0 < t := by omega
     clear HJ hg
     go_wp2
     go_meet
     case rel => exact ⟨_, _, rfl, rfl, HO, rfl⟩
 case rest =>
 obtain ⟨x0, r0, rfl, rfl, HD0, hw0⟩ := hcut
 have hw0 := hw0.symm
 subst hw0
 clear HK hk2 e8 e9 e10 f1 f2 f3 f4
 obtain ⟨hrs0, hrs1⟩ := HD0.out.rest
 have hq : (U * 18446744073709551616 + (u1 * 4294967296 + u0)) / v = x1 * 4294967296 + x0 := by
  rw [← HVV.out] at hrs0 hrs1
  refine two_digits (U := U) (u1 := u1) (u0 := u0) (R := R) (by rw [HVV.out]; obtain ⟨b5, _, b7, _⟩ := HVB.out; omega) (by omega) ?_ hrs0 hrs1
  rw [HM.out]
  exact HRR.out.symm
 have HQ := hide hq
 have g1 : IntKind.u64.wrap (x1 * 4294967296) = x1 * 4294967296 := by have a := HD1.out.x0; have b := HD1.out.x1; rw [IntKind.wrap_u64]; omega
 have g2 : IntKind.u64.wrap (x1 * 4294967296 + x0) = x1 * 4294967296 + x0 := by have a := HD1.out.x0; have b := HD1.out.x1; have c := HD0.out.x0; have d := HD0.out.x1; rw [IntKind.wrap_u64]; omega
 clear hrs0 hrs1 hq HD1 HD0 HRR HM
 go_wp2
 go_ret2
 rw [HQ.out]
 first
  | exact ⟨_, rfl⟩
  | exact ⟨⟨_, rfl⟩, trivial⟩
  | exact ⟨⟨_, rfl⟩, rfl⟩
end Go.Proofs.YtggpaljilpbmhaaGreatDoor
namespace Go.Proofs.YtggpaljilpbmhaaGreatDoor
open Go.RowKit

/-- A number of two words, shifted: its words. -/
theorem shift_words {a l s : Nat} (hs : s ≤ 63) (hl : l < 2 ^ 64) : (a * 2 ^ s + l / 2 ^ (64 - s)) * 2 ^ 64 + l * 2 ^ s % 2 ^ 64 = (a * 2 ^ 64 + l) * 2 ^ s ∧ l / 2 ^ (64 - s) < 2 ^ s := by
 have e : 2 ^ (64 - s) * 2 ^ s = 2 ^ 64 := by rw [← Nat.pow_add, show 64 - s + s = 64 by omega]
 have p1 : 0 < 2 ^ (64 - s) := Nat.pos_of_ne_zero (by simp)
 have p2 : 0 < 2 ^ s := Nat.pos_of_ne_zero (by simp)
 have hd := Nat.div_add_mod l (2 ^ (64 - s))
 have hm := Nat.mod_lt l p1
 generalize l / 2 ^ (64 - s) = q at *
 generalize l % 2 ^ (64 - s) = r at *
 have e1 : l * 2 ^ s = q * 2 ^ 64 + r * 2 ^ s := by rw [← hd, Nat.add_mul, Nat.mul_comm (2 ^ (64 - s)) q, Nat.mul_assoc, e]
 have hr : r * 2 ^ s < 2 ^ 64 := by rw [← e]; exact Nat.mul_lt_mul_of_pos_right hm p2
 have e2 : l * 2 ^ s % 2 ^ 64 = r * 2 ^ s := by rw [e1, Nat.add_comm, Nat.add_mul_mod_self_right, Nat.mod_eq_of_lt hr]
 refine ⟨?_, ?_⟩
 ·rw [e2, Nat.add_mul, Nat.add_mul, e1, Nat.mul_right_comm a (2 ^ s) (2 ^ 64)]
  omega
 ·refine Nat.lt_of_not_le (fun hq => ?_)
  have : 2 ^ s * 2 ^ (64 - s) ≤ q * 2 ^ (64 - s) := Nat.mul_le_mul_right _ hq
  rw [Nat.mul_comm (2 ^ s), e, Nat.mul_comm q] at this
  omega
set_option maxRecDepth 10000 in
theorem divZ {lo y : Int} {w : World} (h0 : 0 < y) (h1 : y < 18446744073709551616) (l0 : 0 ≤ lo) (l1 : lo < 18446744073709551616) : Calls Tryz.prog 211 #[.int .u64 0, .int .u64 lo, .int .u64 y] w fun e w' => ∃ rm, e = .returned (.tuple #[.int .u64 (lo / y), .int .u64 rm]) ∧ Hid (Below w.heap.size w w') := by
 have hq := Int.ediv_nonneg l0 (Int.le_of_lt h0)
 have hq1 := Int.ediv_le_self y l0
 have e1 : IntKind.u64.wrap (lo.tdiv y) = lo / y := by rw [Int.tdiv_eq_ediv_of_nonneg l0, IntKind.wrap_u64]; omega
 have hy : ¬ y = 0 := by omega
 have hy2 : ¬ y ≤ 0 := by omega
 have HW : Hid (∀ q, Below w.heap.size w (w.drewN q)) := fun q => Go.below_drewN (Below.refl _ _) q
 generalize lo / y = qq at *
 clear hq hq1 l0 l1 h1
 go_enter Tryz.func211, Tryz.ntmps211
 go_upto_region 6 with fail
 go_quiet (fail)
 go_wp2
 go_ret2
 exact ⟨⟨_, rfl⟩, HW.out _⟩
/-- Div64 of any number of two words by a number that is above the high one. -/
theorem div64C {hi lo y : Int} {w : World} (h0 : 0 ≤ hi) (h1 : hi < y) (h2 : y < 18446744073709551616) (l0 : 0 ≤ lo) (l1 : lo < 18446744073709551616) : Calls Tryz.prog 211 #[.int .u64 hi, .int .u64 lo, .int .u64 y] w fun e w' => ∃ rm, e = .returned (.tuple #[.int .u64 ((hi * 18446744073709551616 + lo) / y), .int .u64 rm]) ∧ Hid (Below w.heap.size w w') := by
 by_cases hz : hi = 0
 ·subst hz
  rw [Int.zero_mul, Int.zero_add]
  exact divZ h1 h2 l0 l1
 ·obtain ⟨s, hs, hse, hn0, hn1⟩ := norm64 (y := y) (by omega) h2
  obtain ⟨a, rfl⟩ : ∃ a : Nat, hi = a := ⟨hi.toNat, by omega⟩
  obtain ⟨l, rfl⟩ : ∃ l : Nat, lo = l := ⟨lo.toNat, by omega⟩
  obtain ⟨n, rfl⟩ : ∃ n : Nat, y = n := ⟨y.toNat, by omega⟩
  have hms : min s 64 = s := by omega
  obtain ⟨sw, sl⟩ := shift_words (a := a) (l := l) hs (by omega)
  have c1 : ((n : Int) * 2 ^ s) = ((n * 2 ^ s : Nat) : Int) := by rw [Int.natCast_mul, Int.natCast_pow]; rfl
  have c2 : ((a : Int) * 2 ^ s) = ((a * 2 ^ s : Nat) : Int) := by rw [Int.natCast_mul, Int.natCast_pow]; rfl
  have c3 : ((l : Int) * 2 ^ s) = ((l * 2 ^ s : Nat) : Int) := by rw [Int.natCast_mul, Int.natCast_pow]; rfl
  have c4 : ((l : Int) / 2 ^ (64 - s)) = ((l / 2 ^ (64 - s) : Nat) : Int) := by rw [Int.natCast_ediv, Int.natCast_pow]; rfl
  rw [c1] at hn0 hn1
  have p2 : 0 < 2 ^ s := Nat.pos_of_ne_zero (by simp)
  have han : (a + 1) * 2 ^ s ≤ n * 2 ^ s := Nat.mul_le_mul_right _ (by omega)
  rw [Nat.add_mul, Nat.one_mul] at han
  obtain ⟨V, hV⟩ : ∃ V, n * 2 ^ s = V := ⟨_, rfl⟩
  obtain ⟨Q, hQ⟩ : ∃ Q, l / 2 ^ (64 - s) = Q := ⟨_, rfl⟩
  obtain ⟨L, hL⟩ : ∃ L, l * 2 ^ s % 2 ^ 64 = L := ⟨_, rfl⟩
  have hLlt : L < 18446744073709551616 := by rw [← hL]; exact Nat.mod_lt _ (by decide)
  have e1 : IntKind.u64.wrap ((n : Int) * 2 ^ min s 64) = (V : Nat) := by rw [hms, c1, hV, IntKind.wrap_u64]; rw [hV] at hn1; omega
  have e4 : bits .or .u64 (IntKind.u64.wrap ((a : Int) * 2 ^ min s 64)) ((l : Int) / 2 ^ (64 - s)) = ((a * 2 ^ s + Q : Nat) : Int) := by
   rw [hms, c2, c4, hQ]
   have hw : IntKind.u64.wrap ((a * 2 ^ s : Nat) : Int) = ((a * 2 ^ s : Nat) : Int) := by rw [IntKind.wrap_u64]; omega
   rw [hw, bits_or_u64_nat _ _ (by omega) (by omega)]
   have := Nat.two_pow_add_eq_or_of_lt (i := s) (b := Q) (by rw [← hQ]; exact sl) a
   rw [Nat.mul_comm a, this]
  have e5 : IntKind.u64.wrap ((l : Int) * 2 ^ min s 64) = (L : Nat) := by
   rw [hms, c3, IntKind.wrap_u64, ← hL]
   exact (Int.natCast_emod _ _).symm
  have hsr : ∀ w, Calls Tryz.prog 218 #[.int .u64 (n : Nat)] w fun e w' => e = .returned (.int .i64 (s : Nat)) ∧ w' = w := fun w => by
   have := Tryz.bits_LeadingZeros64 (n : Int) w (by omega) (by omega)
   rw [hse] at this
   exact this
  rw [hV] at hn0 hn1 han
  rw [hQ] at sw sl
  rw [hL] at sw
  have hv : Kv4 ((a * 2 ^ s + Q : Nat) : Int) ((V : Int) / 4294967296) ((V : Int) % 4294967296) ((L : Int) / 4294967296) := ⟨by omega, by omega, by omega, by omega, by omega, by omega, by omega, by omega⟩
  have HVV : Hid ((V : Int) = (V : Int) / 4294967296 * 4294967296 + (V : Int) % 4294967296) := by show _ = _; omega
  have d := divG (w := w) (lo := (l : Int)) (u0 := (L : Int) % 4294967296) (by omega) (by omega) hz hsr (by rw [IntKind.wrap_u64]; omega) (by rw [IntKind.wrap_u64]; omega) e1 rfl ((Mul64.maskN V (by omega)).trans (Int.natCast_emod _ _)) e4 e5 rfl ((Mul64.maskN L hLlt).trans (Int.natCast_emod _ _)) hv (by omega) (by omega) HVV
  refine d.mono ?_
  rintro e w' ⟨rm, rfl, rfl⟩
  refine ⟨rm, ?_, Below.refl _ _⟩
  have e6 : ((L : Int) / 4294967296 * 4294967296 + (L : Int) % 4294967296) = L := by omega
  rw [e6]
  have e7 : ((a * 2 ^ s + Q : Nat) : Int) * 18446744073709551616 + (L : Int) = ((a : Int) * 18446744073709551616 + l) * ((2 ^ s : Nat) : Int) := by
   have := congrArg (fun x : Nat => (x : Int)) sw
   simp only [Int.natCast_add, Int.natCast_mul] at this ⊢
   exact this
  have e8 : (V : Int) = (n : Int) * ((2 ^ s : Nat) : Int) := by rw [← hV, Int.natCast_mul]
  rw [e7, e8, Int.mul_ediv_mul_of_pos_left _ _ (by omega)]
end Go.Proofs.YtggpaljilpbmhaaGreatDoor
