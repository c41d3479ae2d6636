import Derived.Test.YtggpaljilpbmhaaGreatDoorY26
import Derived.Laws.Externs
import Derived.Shelf.Spec.BitsCarry
namespace Go.Proofs.YtggpaljilpbmhaaGreatDoor
open Go.RowKit

theorem add64I {x y : Int} (hx : 0 ≤ x) (hy : 0 ≤ y) (w : World) : (callFunc 190 #[.int .u64 x, .int .u64 y, .int .u64 0]).run Tryz.prog w =
  .ok (.value (.tuple #[.int .u64 ((x + y) % 18446744073709551616), .int .u64 ((x + y) / 18446744073709551616)])) w := by
 rw [run_callFunc_extern (fn := Tryz.f190) Tryz.func190 (by kernel_rfl) (by kernel_rfl) (by kernel_rfl) (e := add64Entry) (by kernel_rfl), run_add64 x y 0 hx hy (by omega) (by omega)]
 simp only [Result.andThen, Int.add_zero]
theorem sub64I {x y : Int} (hx : 0 ≤ x) (hx2 : x < 18446744073709551616) (hy : 0 ≤ y) (hy2 : y < 18446744073709551616) (w : World) : (callFunc 191 #[.int .u64 x, .int .u64 y, .int .u64 0]).run Tryz.prog w =
  .ok (.value (.tuple #[.int .u64 (if y ≤ x then x - y else x + 18446744073709551616 - y), .int .u64 (if y ≤ x then 0 else 1)])) w := by
 obtain ⟨a, rfl⟩ : ∃ a : Nat, x = a := ⟨x.toNat, by omega⟩
 obtain ⟨b, rfl⟩ : ∃ b : Nat, y = b := ⟨y.toNat, by omega⟩
 rw [run_callFunc_extern (fn := Tryz.f191) Tryz.func191 (by kernel_rfl) (by kernel_rfl) (by kernel_rfl) (e := sub64Entry) (by kernel_rfl)]
 have := run_sub64 (P := Tryz.prog) a b 0 (by omega) w
 rw [show (((0 : Nat) : Int)) = 0 from rfl] at this
 rw [this]
 simp only [Result.andThen]
 by_cases h : b ≤ a
 ·have e1 : (a + 18446744073709551616 - b - 0) % 18446744073709551616 = a - b := by omega
  rw [e1, if_neg (by omega), if_pos (by omega), if_pos (by omega), show ((a - b : Nat) : Int) = (a : Int) - b by omega]
  rfl
 ·have e1 : (a + 18446744073709551616 - b - 0) % 18446744073709551616 = a + 18446744073709551616 - b := by omega
  rw [e1, if_pos (by omega), if_neg (by omega), if_neg (by omega), show ((a + 18446744073709551616 - b : Nat) : Int) = (a : Int) + 18446744073709551616 - b by omega]
  rfl
theorem mul64I {x y : Int} (hx : 0 ≤ x) (hx2 : x < 18446744073709551616) (hy : 0 ≤ y) (hy2 : y < 18446744073709551616) (w : World) : Calls Tryz.prog 192 #[.int .u64 x, .int .u64 y] w fun e w' => e = .returned (.tuple #[.int .u64 (x * y / 18446744073709551616), .int .u64 (x * y % 18446744073709551616)]) ∧ w' = w := by
 obtain ⟨a, rfl⟩ : ∃ a : Nat, x = a := ⟨x.toNat, by omega⟩
 obtain ⟨b, rfl⟩ : ∃ b : Nat, y = b := ⟨y.toNat, by omega⟩
 have := Tryz.bits_Mul64 a b (by omega) (by omega) w
 rw [Int.natCast_ediv, Int.natCast_emod, Int.natCast_mul] at this
 exact this
set_option maxRecDepth 10000 in
theorem shareC {a b c : Int} (ha : 0 ≤ a) (ha2 : a < two64) (hb : 0 ≤ b) (hb2 : b < two64) (hc : 0 ≤ c) (hc2 : c < two64) (w : World) : Calls Tryz.prog 193 #[.int .u64 a, .int .u64 b, .int .u64 c] w fun e w' => e = .returned (.tuple #[.int .u64 (reckI 24 a b c).1, .int .i64 (reckI 24 a b c).2]) ∧ Hid (Below w.heap.size w w') := by
 unfold two64 at ha2 hb2 hc2
 have HM := hide (mul64I ha ha2 hb hb2 w)
 have hm : 0 ≤ a * b := Int.mul_nonneg ha hb
 have hh0 : 0 ≤ a * b / 18446744073709551616 := Int.ediv_nonneg hm (by decide)
 have hl0 := Int.emod_nonneg (a * b) (show (18446744073709551616 : Int) ≠ 0 by decide)
 have hl1 := Int.emod_lt_of_pos (a * b) (show (0 : Int) < 18446744073709551616 by decide)
 have hab := Int.mul_ediv_add_emod (a * b) 18446744073709551616
 have HR : Hid (reckI 24 a b c = if c = 0 then (0, 4) else if c ≤ a * b / 18446744073709551616 then (0, 3) else (a * b / c, 0)) := by
  show _ = _
  unfold reckI two64
  rfl
 obtain ⟨hh, hhe⟩ : ∃ hh, a * b / 18446744073709551616 = hh := ⟨_, rfl⟩
 obtain ⟨ll, hle⟩ : ∃ ll, a * b % 18446744073709551616 = ll := ⟨_, rfl⟩
 rw [hhe, hle] at HM hab
 rw [hhe] at HR hh0
 rw [hle] at hl0 hl1
 have HDV : Hid (hh < c → ∀ w, Calls Tryz.prog 211 #[.int .u64 hh, .int .u64 ll, .int .u64 c] w fun e w' => ∃ rm, e = .returned (.tuple #[.int .u64 (a * b / c), .int .u64 rm]) ∧ Hid (Below w.heap.size w w')) := fun hq w => by
  have := div64C (w := w) hh0 hq hc2 hl0 hl1
  rw [show hh * 18446744073709551616 + ll = a * b by rw [Int.mul_comm]; exact hab] at this
  exact this
 have HB := hide (Below.refl w.heap.size w)
 generalize a * b / c = qq at *
 rw [HR.out]
 clear hhe hle hab hm hl0 hl1 ha2 hb2 HR
 by_cases h0 : c = 0
 ·rw [if_pos h0]
  subst h0
  go_enter Tryz.func193, Tryz.ntmps193
  go_wp2_with fail
  refine HM.out.mono ?_
  rintro e w1 ⟨rfl, hw1⟩
  have hw1 := hw1.symm
  subst hw1
  clear HM
  go_wp2
  go_ret2
  exact ⟨rfl, HB⟩
 ·rw [if_neg h0]
  by_cases h1 : c ≤ hh
  ·rw [if_pos h1]
   go_enter Tryz.func193, Tryz.ntmps193
   go_wp2_with fail
   refine HM.out.mono ?_
   rintro e w1 ⟨rfl, hw1⟩
   have hw1 := hw1.symm
   subst hw1
   clear HM
   go_wp2
   go_ret2
   exact ⟨rfl, HB⟩
  ·rw [if_neg h1]
   have HD := hide (HDV.out (by omega) w)
   clear HDV
   go_enter Tryz.func193, Tryz.ntmps193
   go_wp2_with fail
   refine HM.out.mono ?_
   rintro e w1 ⟨rfl, hw1⟩
   have hw1 := hw1.symm
   subst hw1
   clear HM
   go_wp2_with fail
   refine HD.out.mono ?_
   rintro e w2 ⟨rm, rfl, G2⟩
   clear HD
   go_wp2
   go_ret2
   exact ⟨rfl, G2⟩
set_option maxRecDepth 10000 in
set_option maxHeartbeats 3200000 in
/-- What the program works out. -/
theorem reckonedC {o : Nat} (h17 : 17 ≤ o) (h24 : o ≤ 24) {a b c : Int} (ha : 0 ≤ a) (ha2 : a < two64) (hb : 0 ≤ b) (hb2 : b < two64) (hc : 0 ≤ c) (hc2 : c < two64) (w : World) : Calls Tryz.prog 163 #[.int .i64 (o : Nat), .int .u64 a, .int .u64 b, .int .u64 c] w fun e w' => e = .returned (.tuple #[.int .u64 (reckI o a b c).1, .int .i64 (reckI o a b c).2]) ∧ Hid (Below w.heap.size w w') := by
 have hcs : o = 17 ∨ o = 18 ∨ o = 19 ∨ o = 20 ∨ o = 21 ∨ o = 22 ∨ o = 23 ∨ o = 24 := by omega
 have HB := hide (Below.refl w.heap.size w)
 have HBD : Hid (∀ q, Below w.heap.size w (w.drewN q)) := fun q => Go.below_drewN (Below.refl _ _) q
 have ha3 : a < 18446744073709551616 := ha2
 have hb3 : b < 18446744073709551616 := hb2
 rcases hcs with rfl | rfl | rfl | rfl | rfl | rfl | rfl | rfl
 ·have hr := add64I ha hb
  have HR : Hid (reckI 17 a b c = ((if (a + b) / 18446744073709551616 = 0 then (a + b) % 18446744073709551616 else 0), (if (a + b) / 18446744073709551616 = 0 then 0 else 3))) := by
   show _ = _
   unfold reckI two64
   rw [if_pos rfl]
   by_cases q : a + b < 18446744073709551616
   ·rw [if_pos q, if_pos (by omega), if_pos (by omega), show (a + b) % 18446744073709551616 = a + b by omega]
   ·rw [if_neg q, if_neg (by omega), if_neg (by omega)]
  rw [HR.out]
  generalize (a + b) % 18446744073709551616 = n at *
  generalize (a + b) / 18446744073709551616 = ov at *
  have HF := hide (fittingC n ov)
  obtain ⟨x, hx⟩ : ∃ x, (if ov = 0 then n else 0) = x := ⟨_, rfl⟩
  obtain ⟨y, hy⟩ : ∃ y : Int, (if ov = 0 then 0 else 3) = y := ⟨_, rfl⟩
  simp only [hx, hy] at HF ⊢
  clear ha ha2 hb hb2 hc hc2 ha3 hb3 HR hx hy
  go_enter Tryz.func163, Tryz.ntmps163
  go_wp2_with (go_at_call 189; refine (HF.out _).mono ?_; rintro e w1 ⟨rfl, hw1⟩; have hw1 := hw1.symm; subst hw1)
  go_ret2
  exact ⟨rfl, HB⟩
 ·have hr := sub64I ha ha3 hb hb3
  have HR : Hid (reckI 18 a b c = ((if (if b ≤ a then (0 : Int) else 1) = 0 then (if b ≤ a then a - b else a + 18446744073709551616 - b) else 0), (if (if b ≤ a then (0 : Int) else 1) = 0 then 0 else 3))) := by
   show _ = _
   unfold reckI
   rw [if_neg (by decide), if_pos rfl]
   by_cases q : b ≤ a
   ·rw [if_pos q, if_pos q, if_pos q, if_pos rfl, if_pos rfl]
   ·rw [if_neg q, if_neg q, if_neg q, if_neg (by decide), if_neg (by decide)]
  rw [HR.out]
  generalize (if b ≤ a then a - b else a + 18446744073709551616 - b) = n at *
  generalize (if b ≤ a then (0 : Int) else 1) = ov at *
  have HF := hide (fittingC n ov)
  obtain ⟨x, hx⟩ : ∃ x, (if ov = 0 then n else 0) = x := ⟨_, rfl⟩
  obtain ⟨y, hy⟩ : ∃ y : Int, (if ov = 0 then 0 else 3) = y := ⟨_, rfl⟩
  simp only [hx, hy] at HF ⊢
  clear ha ha2 hb hb2 hc hc2 ha3 hb3 HR hx hy
  go_enter Tryz.func163, Tryz.ntmps163
  go_wp2_with (go_at_call 189; refine (HF.out _).mono ?_; rintro e w1 ⟨rfl, hw1⟩; have hw1 := hw1.symm; subst hw1)
  go_ret2
  exact ⟨rfl, HB⟩
 ·have HM := hide (mul64I ha ha3 hb hb3 w)
  have hm : 0 ≤ a * b := Int.mul_nonneg ha hb
  have HR : Hid (reckI 19 a b c = ((if a * b / 18446744073709551616 = 0 then a * b % 18446744073709551616 else 0), (if a * b / 18446744073709551616 = 0 then 0 else 3))) := by
   show _ = _
   unfold reckI two64
   rw [if_neg (by decide), if_neg (by decide), if_pos rfl]
   generalize a * b = m at *
   by_cases q : m < 18446744073709551616
   ·rw [if_pos q, if_pos (by omega), if_pos (by omega), show m % 18446744073709551616 = m by omega]
   ·rw [if_neg q, if_neg (by omega), if_neg (by omega)]
  rw [HR.out]
  generalize a * b % 18446744073709551616 = n at *
  generalize a * b / 18446744073709551616 = ov at *
  have HF := hide (fittingC n ov)
  obtain ⟨x, hx⟩ : ∃ x, (if ov = 0 then n else 0) = x := ⟨_, rfl⟩
  obtain ⟨y, hy⟩ : ∃ y : Int, (if ov = 0 then 0 else 3) = y := ⟨_, rfl⟩
  simp only [hx, hy] at HF ⊢
  clear ha ha2 hb hb2 hc hc2 ha3 hb3 HR hm hx hy
  go_enter Tryz.func163, Tryz.ntmps163
  go_wp2_with fail
  refine HM.out.mono ?_
  rintro e w1 ⟨rfl, hw1⟩
  have hw1 := hw1.symm
  subst hw1
  go_wp2_with (go_at_call 189; refine (HF.out _).mono ?_; rintro e w2 ⟨rfl, hw2⟩; have hw2 := hw2.symm; subst hw2)
  go_ret2
  exact ⟨rfl, HB⟩
 ·by_cases q : b = 0
  ·have HR : Hid (reckI 20 a b c = (0, 4)) := by show _ = _; unfold reckI; rw [if_neg (by decide), if_neg (by decide), if_neg (by decide), if_pos rfl, if_pos q]
   rw [HR.out]
   subst q
   go_enter Tryz.func163, Tryz.ntmps163
   go_wp2
   go_ret2
   exact ⟨rfl, HB⟩
  ·have HR : Hid (reckI 20 a b c = (a / b, 0)) := by show _ = _; unfold reckI; rw [if_neg (by decide), if_neg (by decide), if_neg (by decide), if_pos rfl, if_neg q]
   rw [HR.out]
   have hq := Int.ediv_nonneg ha hb
   have hq1 := Int.ediv_le_self b ha
   have e1 : IntKind.u64.wrap (a.tdiv b) = a / b := by rw [Int.tdiv_eq_ediv_of_nonneg ha, IntKind.wrap_u64]; omega
   generalize a / b = qq at *
   clear ha2 hb2 hc hc2 hq hq1 HR ha3 hb3 ha hb
   go_enter Tryz.func163, Tryz.ntmps163
   go_wp2
   go_ret2
   exact ⟨rfl, HB⟩
 ·by_cases q : b = 0
  ·have HR : Hid (reckI 21 a b c = (0, 4)) := by show _ = _; unfold reckI; rw [if_neg (by decide), if_neg (by decide), if_neg (by decide), if_neg (by decide), if_pos rfl, if_pos q]
   rw [HR.out]
   subst q
   go_enter Tryz.func163, Tryz.ntmps163
   go_wp2
   go_ret2
   exact ⟨rfl, HB⟩
  ·have HR : Hid (reckI 21 a b c = (a % b, 0)) := by show _ = _; unfold reckI; rw [if_neg (by decide), if_neg (by decide), if_neg (by decide), if_neg (by decide), if_pos rfl, if_neg q]
   rw [HR.out]
   have hm0 := Int.emod_nonneg a q
   have hm1 := Int.emod_lt_of_pos a (show 0 < b by omega)
   have e1 : IntKind.u64.wrap (a.tmod b) = a % b := by rw [Int.tmod_eq_emod_of_nonneg ha, IntKind.wrap_u64]; omega
   have e2 : a.tmod b = a % b := Int.tmod_eq_emod_of_nonneg ha
   generalize a % b = qq at *
   clear ha2 hb2 hc hc2 hm0 hm1 HR ha3 hb3 ha hb e1
   go_enter Tryz.func163, Tryz.ntmps163
   go_wp2
   go_ret2
   exact ⟨rfl, HB⟩
 ·have HR : Hid (reckI 22 a b c = (min a b, 0)) := by
   show _ = _
   unfold reckI
   rw [if_neg (by decide), if_neg (by decide), if_neg (by decide), if_neg (by decide), if_neg (by decide), if_pos rfl, show (if b < a then b else a) = min a b by split <;> omega]
  rw [HR.out]
  obtain ⟨x, hx⟩ : ∃ x, min a b = x := ⟨_, rfl⟩
  rw [hx]
  clear ha2 hb2 hc hc2 HR ha3 hb3 ha hb
  go_enter Tryz.func163, Tryz.ntmps163
  go_wp2
  go_ret2
  exact ⟨rfl, HB⟩
 ·have HR : Hid (reckI 23 a b c = (max a b, 0)) := by
   show _ = _
   unfold reckI
   rw [if_neg (by decide), if_neg (by decide), if_neg (by decide), if_neg (by decide), if_neg (by decide), if_neg (by decide), if_pos rfl, show (if a < b then b else a) = max a b by split <;> omega]
  rw [HR.out]
  obtain ⟨x, hx⟩ : ∃ x, max a b = x := ⟨_, rfl⟩
  rw [hx]
  clear ha2 hb2 hc hc2 HR ha3 hb3 ha hb
  go_enter Tryz.func163, Tryz.ntmps163
  go_wp2
  go_ret2
  exact ⟨rfl, HB⟩
 ·have HS := hide (shareC ha ha2 hb hb2 hc hc2 w)
  generalize (reckI 24 a b c).1 = x at *
  generalize (reckI 24 a b c).2 = y at *
  clear ha2 hb2 hc hc2 ha3 hb3 ha hb
  go_enter Tryz.func163, Tryz.ntmps163
  go_wp2_with fail
  refine HS.out.mono ?_
  rintro e w1 ⟨rfl, G1⟩
  clear HS
  go_wp2
  go_ret2
  exact ⟨rfl, G1⟩
end Go.Proofs.YtggpaljilpbmhaaGreatDoor
