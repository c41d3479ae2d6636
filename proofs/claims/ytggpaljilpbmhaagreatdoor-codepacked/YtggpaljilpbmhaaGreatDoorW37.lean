import Derived.Test.YtggpaljilpbmhaaGreatDoorW36
import Derived.Laws.Externs
import Derived.Shelf.Spec.BitsCarry
namespace Go.Proofs.YtggpaljilpbmhaaGreatDoor
open Go.RowKit

theorem add64I {x y : Int} (hx : 0 ≤ x) (hy : 0 ≤ y) (w : World) : (callFunc 190 #[.int .u64 x, .int .u64 y, .int .u64 0]).run Tryz.prog w =
  .ok (.value (.tuple #[.int .u64 ((x + y) % 18446744073709551616), .int .u64 ((x + y) / 18446744073709551616)])) w := by
 rw [run_callFunc_extern (fn := Tryz.f190) Tryz.func190 (by kernel_rfl) (by kernel_rfl) (by kernel_rfl) (e := add64Entry) (by kernel_rfl), run_add64 x y 0 hx hy (by omega) (by omega)]
 simp only [Result.andThen, Int.add_zero]
theorem sub64I {x y : Int} (hx : 0 ≤ x) (hx2 : x < 18446744073709551616) (hy : 0 ≤ y) (hy2 : y < 18446744073709551616) (w : World) : (callFunc 191 #[.int .u64 x, .int .u64 y, .int .u64 0]).run Tryz.prog w =
  .ok (.value (.tuple #[.int .u64 (if y ≤ x then x - y else x + 18446744073709551616 - y), .int .u64 (if y ≤ x then 0 else 1)])) w := by
 obtain ⟨a, rfl⟩ : ∃ a : Nat, x = a := ⟨x.toNat, by omega⟩
 obtain ⟨b, rfl⟩ : ∃ b : Nat, y = b := ⟨y.toNat, by omega⟩
 rw [run_callFunc_extern (fn := Tryz.f191) Tryz.func191 (by kernel_rfl) (by kernel_rfl) (by kernel_rfl) (e := sub64Entry) (by kernel_rfl)]
 have := run_sub64 (P := Tryz.prog) a b 0 (by omega) w
 rw [show (((0 : Nat) : Int)) = 0 from rfl] at this
 rw [this]
 simp only [Result.andThen]
 by_cases h : b ≤ a
 ·have e1 : (a + 18446744073709551616 - b - 0) % 18446744073709551616 = a - b := by omega
  rw [e1, if_neg (by omega), if_pos (by omega), if_pos (by omega), show ((a - b : Nat) : Int) = (a : Int) - b by omega]
  rfl
 ·have e1 : (a + 18446744073709551616 - b - 0) % 18446744073709551616 = a + 18446744073709551616 - b := by omega
  rw [e1, if_pos (by omega), if_neg (by omega), if_neg (by omega), show ((a + 18446744073709551616 - b : Nat) : Int) = (a : Int) + 18446744073709551616 - b by omega]
  rfl
theorem mul64I {x y : Int} (hx : 0 ≤ x) (hx2 : x < 18446744073709551616) (hy : 0 ≤ y) (hy2 : y < 18446744073709551616) (w : World) : Calls Tryz.prog 192 #[.int .u64 x, .int .u64 y] w fun e w' => e = .returned (.tuple #[.int .u64 (x * y / 18446744073709551616), .int .u64 (x * y % 18446744073709551616)]) ∧ w' = w := by
 obtain ⟨a, rfl⟩ : ∃ a : Nat, x = a := ⟨x.toNat, by omega⟩
 obtain ⟨b, rfl⟩ : ∃ b : Nat, y = b := ⟨y.toNat, by omega⟩
 have := Tryz.bits_Mul64 a b (by omega) (by omega) w
 rw [Int.natCast_ediv, Int.natCast_emod, Int.natCast_mul] at this
 exact this
set_option maxRecDepth 10000 in
theorem shareC {a b c : Int} (ha : 0 ≤ a) (ha2 : a < two64) (hb : 0 ≤ b) (hb2 : b < two64) (hc : 0 ≤ c) (hc2 : c < two64) (w : World) : Calls Tryz.prog 193 #[.int .u64 a, .int .u64 b, .int .u64 c] w fun e w' => e = .returned (.tuple #[.int .u64 (reckI 24 a b c).1, .int .i64 (reckI 24 a b c).2]) ∧ Hid (Below w.heap.size w w') := by
 unfold two64 at ha2 hb2 hc2
 have HM := hide (mul64I ha ha2 hb hb2 w)
 have hm : 0 ≤ a * b := Int.mul_nonneg ha hb
 have hh0 : 0 ≤ a * b / 18446744073709551616 := Int.ediv_nonneg hm (by decide)
 have hl0 := Int.emod_nonneg (a * b) (show (18446744073709551616 : Int) ≠ 0 by decide)
 have hl1 := Int.emod_lt_of_pos (a * b) (show (0 : Int) < 18446744073709551616 by decide)
 have hab := Int.mul_ediv_add_emod (a * b) 18446744073709551616
 have HR : Hid (reckI 24 a b c = if c = 0 then (0, 4) else if c ≤ a * b / 18446744073709551616 then (0, 3) else (a * b / c, 0)) := by
  show _ = _
  unfold reckI two64
  rfl
 obtain ⟨hh, hhe⟩ : ∃ hh, a * b / 18446744073709551616 = hh := ⟨_, rfl⟩
 obtain ⟨ll, hle⟩ : ∃ ll, a * b % 18446744073709551616 = ll := ⟨_, rfl⟩
 rw [hhe, hle] at HM hab
 rw [hhe] at HR hh0
 rw [hle] at hl0 hl1
 have HDV : Hid (hh < c → ∀ w, Calls Tryz.prog 211 #[.int .u64 hh, .int .u64 ll, .int .u64 c] w fun e w' => ∃ rm, e = .returned (.tuple #[.int .u64 (a * b / c), .int .u64 rm]) ∧ Hid (Below w.heap.size w w')) := fun hq w => by
  have := div64C (w := w) hh0 hq hc2 hl0 hl1
  rw [show hh * 18446744073709551616 + ll = a * b by rw [Int.mul_comm]; exact hab] at this
  exact this
 have HB := hide (Below.refl w.heap.size w)
 generalize a * b / c = qq at *
 rw [HR.out]
 clear hhe hle hab hm hl0 hl1 ha2 hb2 HR
 by_cases h0 : c = 0
 ·rw [if_pos h0]
  subst h0
  go_enter Tryz.func193, Tryz.ntmps193
  go_wp2_with fail
  refine HM.out.mono ?_
  rintro e w1 ⟨rfl, hw1⟩
  have hw1 := hw1.symm
  subst hw1
  clear HM
  go_wp2
  go_ret2
  exact ⟨rfl, HB⟩
 ·rw [if_neg h0]
  by_cases h1 : c ≤ hh
  ·rw [if_pos h1]
   go_enter Tryz.func193, Tryz.ntmps193
   go_wp2_with fail
   refine HM.out.mono ?_
   rintro e w1 ⟨rfl, hw1⟩
   have hw1 := hw1.symm
   subst hw1
   clear HM
   go_wp2
   go_ret2
   exact ⟨rfl, HB⟩
  ·rw [if_neg h1]
   have HD := hide (HDV.out (by omega) w)
   clear HDV
   go_enter Tryz.func193, Tryz.ntmps193
   go_wp2_with fail
   refine HM.out.mono ?_
   rintro e w1 ⟨rfl, hw1⟩
   have hw1 := hw1.symm
   subst hw1
   clear HM
   go_wp2_with fail
   refine HD.out.mono ?_
   rintro e w2 ⟨rm, rfl, G2⟩
   clear HD
   go_wp2
   go_ret2
   exact ⟨rfl, G2⟩
set_option maxRecDepth 10000 in
set_option maxHeartbeats 3200000 in
/-- What the program works out. -/
theorem reckonedC {o : Nat} (h17 : 17 ≤ o) (h24 : o ≤ 24) {a b c : Int} (ha : 0 ≤ a) (ha2 : a < two64) (hb : 0 ≤ b) (hb2 : b < two64) (hc : 0 ≤ c) (hc2 : c < two64) (w : World) : Calls Tryz.prog 163 #[.int .i64 (o : Nat), .int .u64 a, .int .u64 b, .int .u64 c] w fun e w' => e = .returned (.tuple #[.int .u64 (reckI o a b c).1, .int .i64 (reckI o a b c).2]) ∧ Hid (Below w.heap.size w w') := by
 have hcs : o = 17 ∨ o = 18 ∨ o = 19 ∨ o = 20 ∨ o = 21 ∨ o = 22 ∨ o = 23 ∨ o = 24 := by omega
 have HB := hide (Below.refl w.heap.size w)
 have HBD : Hid (∀ q, Below w.heap.size w (w.drewN q)) := fun q => Go.below_drewN (Below.refl _ _) q
 have ha3 : a < 18446744073709551616 := ha2
 have hb3 : b < 18446744073709551616 := hb2
 rcases hcs with rfl | rfl | rfl | rfl | rfl | rfl | rfl | rfl
 ·have hr := add64I ha hb
  have HR : Hid (reckI 17 a b c = ((if (a + b) / 18446744073709551616 = 0 then (a + b) % 18446744073709551616 else 0), (if (a + b) / 18446744073709551616 = 0 then 0 else 3))) := by
   show _ = _
   unfold reckI two64
   rw [if_pos rfl]
   by_cases q : a + b < 18446744073709551616
   ·rw [if_pos q, if_pos (by omega), if_pos (by omega), show (a + b) % 18446744073709551616 = a + b by omega]
   ·rw [if_neg q, if_neg (by omega), if_neg (by omega)]
  rw [HR.out]
  generalize (a + b) % 18446744073709551616 = n at *
  generalize (a + b) / 18446744073709551616 = ov at *
  have HF := hide (fittingC n ov)
  obtain ⟨x, hx⟩ : ∃ x, (if ov = 0 then n else 0) = x := ⟨_, rfl⟩
  obtain ⟨y, hy⟩ : ∃ y : Int, (if ov = 0 then 0 else 3) = y := ⟨_, rfl⟩
  simp only [hx, hy] at HF ⊢
  clear ha ha2 hb hb2 hc hc2 ha3 hb3 HR hx hy
  go_enter Tryz.func163, Tryz.ntmps163
  go_wp2_with (go_at_call 189; refine (HF.out _).mono ?_; rintro e w1 ⟨rfl, hw1⟩; have hw1 := hw1.symm; subst hw1)
  go_ret2
  exact ⟨rfl, HB⟩
 ·have hr := sub64I ha ha3 hb hb3
  have HR : Hid (reckI 18 a b c = ((if (if b ≤ a then (0 : Int) else 1) = 0 then (if b ≤ a then a - b else a + 18446744073709551616 - b) else 0), (if (if b ≤ a then (0 : Int) else 1) = 0 then 0 else 3))) := by
   show _ = _
   unfold reckI
   rw [if_neg (by decide), if_pos rfl]
   by_cases q : b ≤ a
   ·rw [if_pos q, if_pos q, if_pos q, if_pos rfl, if_pos rfl]
   ·rw [if_neg q, if_neg q, if_neg q, if_neg (by decide), if_neg (by decide)]
  rw [HR.out]
  generalize (if b ≤ a then a - b else a + 18446744073709551616 - b) = n at *
  generalize (if b ≤ a then (0 : Int) else 1) = ov at *
  have HF := hide (fittingC n ov)
  obtain ⟨x, hx⟩ : ∃ x, (if ov = 0 then n else 0) = x := ⟨_, rfl⟩
  obtain ⟨y, hy⟩ : ∃ y : Int, (if ov = 0 then 0 else 3) = y := ⟨_, rfl⟩
  simp only [hx, hy] at HF ⊢
  clear ha ha2 hb hb2 hc hc2 ha3 hb3 HR hx hy
  go_enter Tryz.func163, Tryz.ntmps163
  go_wp2_with (go_at_call 189; refine (HF.out _).mono ?_; rintro e w1 ⟨rfl, hw1⟩; have hw1 := hw1.symm; subst hw1)
  go_ret2
  exact ⟨rfl, HB⟩
 ·have HM := hide (mul64I ha ha3 hb hb3 w)
  have hm : 0 ≤ a * b := Int.mul_nonneg ha hb
  have HR : Hid (reckI 19 a b c = ((if a * b / 18446744073709551616 = 0 then a * b % 18446744073709551616 else 0), (if a * b / 18446744073709551616 = 0 then 0 else 3))) := by
   show _ = _
   unfold reckI two64
   rw [if_neg (by decide), if_neg (by decide), if_pos rfl]
   generalize a * b = m at *
   by_cases q : m < 18446744073709551616
   ·rw [if_pos q, if_pos (by omega), if_pos (by omega), show m % 18446744073709551616 = m by omega]
   ·rw [if_neg q, if_neg (by omega), if_neg (by omega)]
  rw [HR.out]
  generalize a * b % 18446744073709551616 = n at *
  generalize a * b / 18446744073709551616 = ov at *
  have HF := hide (fittingC n ov)
  obtain ⟨x, hx⟩ : ∃ x, (if ov = 0 then n else 0) = x := ⟨_, rfl⟩
  obtain ⟨y, hy⟩ : ∃ y : Int, (if ov = 0 then 0 else 3) = y := ⟨_, rfl⟩
  simp only [hx, hy] at HF ⊢
  clear ha ha2 hb hb2 hc hc2 ha3 hb3 HR hm hx hy
  go_enter Tryz.func163, Tryz.ntmps163
  go_wp2_with fail
  refine HM.out.mono ?_
  rintro e w1 ⟨rfl, hw1⟩
  have hw1 := hw1.symm
  subst hw1
  go_wp2_with (go_at_call 189; refine (HF.out _).mono ?_; rintro e w2 ⟨rfl, hw2⟩; have hw2 := hw2.symm; subst hw2)
  go_ret2
  exact ⟨rfl, HB⟩
 ·by_cases q : b = 0
  ·have HR : Hid (reckI 20 a b c = (0, 4)) := by show _ = _; unfold reckI; rw [if_neg (by decide), if_neg (by decide), if_neg (by decide), if_pos rfl, if_pos q]
   rw [HR.out]
   subst q
   go_enter Tryz.func163, Tryz.ntmps163
   go_wp2
   go_ret2
   exact ⟨rfl, HB⟩
  ·have HR : Hid (reckI 20 a b c = (a / b, 0)) := by show _ = _; unfold reckI; rw [if_neg (by decide), if_neg (by decide), if_neg (by decide), if_pos rfl, if_neg q]
   rw [HR.out]
   have hq := Int.ediv_nonneg ha hb
   have hq1 := Int.ediv_le_self b ha
   have e1 : IntKind.u64.wrap (a.tdiv b) = a / b := by rw [Int.tdiv_eq_ediv_of_nonneg ha, IntKind.wrap_u64]; omega
   generalize a / b = qq at *
   clear ha2 hb2 hc hc2 hq hq1 HR ha3 hb3 ha hb
   go_enter Tryz.func163, Tryz.ntmps163
   go_wp2
   go_ret2
   exact ⟨rfl, HB⟩
 ·by_cases q : b = 0
  ·have HR : Hid (reckI 21 a b c = (0, 4)) := by show _ = _; unfold reckI; rw [if_neg (by decide), if_neg (by decide), if_neg (by decide), if_neg (by decide), if_pos rfl, if_pos q]
   rw [HR.out]
   subst q
   go_enter Tryz.func163, Tryz.ntmps163
   go_wp2
   go_ret2
   exact ⟨rfl, HB⟩
  ·have HR : Hid (reckI 21 a b c = (a % b, 0)) := by show _ = _; unfold reckI; rw [if_neg (by decide), if_neg (by decide), if_neg (by decide), if_neg (by decide), if_pos rfl, if_neg q]
   rw [HR.out]
   have hm0 := Int.emod_nonneg a q
   have hm1 := Int.emod_lt_of_pos a (show 0 < b by omega)
   have e1 : IntKind.u64.wrap (a.tmod b) = a % b := by rw [Int.tmod_eq_emod_of_nonneg ha, IntKind.wrap_u64]; omega
   have e2 : a.tmod b = a % b := Int.tmod_eq_emod_of_nonneg ha
   generalize a % b = qq at *
   clear ha2 hb2 hc hc2 hm0 hm1 HR ha3 hb3 ha hb e1
   go_enter Tryz.func163, Tryz.ntmps163
   go_wp2
   go_ret2
   exact ⟨rfl, HB⟩
 ·have HR : Hid (reckI 22 a b c = (min a b, 0)) := by
   show _ = _
   unfold reckI
   rw [if_neg (by decide), if_neg (by decide), if_neg (by decide), if_neg (by decide), if_neg (by decide), if_pos rfl, show (if b < a then b else a) = min a b by split <;> omega]
  rw [HR.out]
  obtain ⟨x, hx⟩ : ∃ x, min a b = x := ⟨_, rfl⟩
  rw [hx]
  clear ha2 hb2 hc hc2 HR ha3 hb3 ha hb
  go_enter Tryz.func163, Tryz.ntmps163
  go_wp2
  go_ret2
  exact ⟨rfl, HB⟩
 ·have HR : Hid (reckI 23 a b c = (max a b, 0)) := by
   show _ = _
   unfold reckI
   rw [if_neg (by decide), if_neg (by decide), if_neg (by decide), if_neg (by decide), if_neg (by decide), if_neg (by decide), if_pos rfl, show (if a < b then b else a) = max a b by split <;> omega]
  rw [HR.out]
  obtain ⟨x, hx⟩ : ∃ x, max a b = x := ⟨_, rfl⟩
  rw [hx]
  clear ha2 hb2 hc hc2 HR ha3 hb3 ha hb
  go_enter Tryz.func163, Tryz.ntmps163
  go_wp2
  go_ret2
  exact ⟨rfl, HB⟩
 ·have HS := hide (shareC ha ha2 hb hb2 hc hc2 w)
  generalize (reckI 24 a b c).1 = x at *
  generalize (reckI 24 a b c).2 = y at *
  clear ha2 hb2 hc hc2 ha3 hb3 ha hb
  go_enter Tryz.func163, Tryz.ntmps163
  go_wp2_with fail
  refine HS.out.mono ?_
  rintro e w1 ⟨rfl, G1⟩
  clear HS
  go_wp2
  go_ret2
  exact ⟨rfl, G1⟩
end Go.Proofs.YtggpaljilpbmhaaGreatDoor
namespace Go.Proofs.YtggpaljilpbmhaaGreatDoor
open Go.RowKit

/-- What an instruction with operands and no Arg does, and whether the rule goes on. -/
def opS (o : Nat) (hd : Int) (s : Ms) : Ms × Bool :=
 if o = 8 then ((s.pop 1).push 1 (1 - s.top 0), true)
 else if o ≤ 16 then ((s.pop 2).push 1 (bI (cmpB o (s.top 1) (s.top 0))), true)
 else if o ≤ 23 then (if (reckI o (s.top 1) (s.top 0) 0).2 = 0 then ((s.pop 2).push 0 (reckI o (s.top 1) (s.top 0) 0).1, true) else ((s.pop 2).stop (reckI o (s.top 1) (s.top 0) 0).2, false))
 else if o = 24 then (if (reckI o (s.top 2) (s.top 1) (s.top 0)).2 = 0 then ((s.pop 3).push 0 (reckI o (s.top 2) (s.top 1) (s.top 0)).1, true) else ((s.pop 3).stop (reckI o (s.top 2) (s.top 1) (s.top 0)).2, false))
 else if s.top 0 < 1 ∨ 3 < s.top 0 then ((s.pop 2).stop 6, false) else if hd - s.paid 0 - s.paid 1 - s.paid 2 < s.top 1 then ((s.pop 2).stop 5, false) else ({ s.pop 2 with paid := updI s.paid (s.top 0 - 1).toNat (s.paid (s.top 0 - 1).toNat + s.top 1) }, true)
section
variable {c : Mc} {mb : Nat} {s : Ms} {w : World}
set_option maxRecDepth 10000 in
set_option maxHeartbeats 3200000 in
theorem reckonC {o : Nat} (h : Pm c mb s w) (h17 : 17 ≤ o) (h23 : o ≤ 23) (hn : 2 ≤ s.h) (h64 : s.h ≤ 64) (b0 : 0 ≤ s.top 0 ∧ s.top 0 < two64) (b1 : 0 ≤ s.top 1 ∧ s.top 1 < two64) : Calls Tryz.prog 125 #[.pointer (some ⟨mb, 0, none⟩), .int .i64 (o : Nat)] w fun e w' => e = .returned (.bool (decide ((reckI o (s.top 1) (s.top 0) 0).2 = 0))) ∧ Hid (Gm c mb (if (reckI o (s.top 1) (s.top 0) 0).2 = 0 then ((s.pop 2).push 0 (reckI o (s.top 1) (s.top 0) 0).1) else ((s.pop 2).stop (reckI o (s.top 1) (s.top 0) 0).2)) w w') := by
 have HT2 := hide (takeTwoC h hn h64)
 have HR : Hid (∀ w, Calls Tryz.prog 163 #[.int .i64 (o : Nat), .int .u64 (s.top 1), .int .u64 (s.top 0), .int .u64 0] w fun e w' => e = .returned (.tuple #[.int .u64 (reckI o (s.top 1) (s.top 0) 0).1, .int .i64 (reckI o (s.top 1) (s.top 0) 0).2]) ∧ Hid (Below w.heap.size w w')) := fun w => reckonedC h17 (by omega) b1.1 b1.2 b0.1 b0.2 (Int.le_refl 0) (by unfold two64; decide) w
 have ho24 : ¬ (o : Int) = 24 := by omega
 have HLY : Hid (∀ w1 w2 k x, Gm c mb (s.pop 2) w w1 → Below w1.heap.size w1 w2 → Calls Tryz.prog 70 #[.pointer (some ⟨mb, 0, none⟩), .agg #[.int .i64 k, .int .u64 x]] w2 fun e w' => e = .returned (.tuple #[]) ∧ Hid (Gm c mb ((s.pop 2).push k x) w w')) := fun w1 w2 k x g1 hb => by
  refine (layC (g1.1.below hb) (by show s.h - 2 < 64; omega) k x).mono ?_
  rintro e w3 ⟨rfl, g3⟩
  exact ⟨rfl, (Gm.trans (s1 := s.pop 2) ⟨g1.1.below hb, grown_tr g1.2 (grown_below hb)⟩ g3.out)⟩
 have HST : Hid (∀ w1 w2 e0, Gm c mb (s.pop 2) w w1 → Below w1.heap.size w1 w2 → Calls Tryz.prog 69 #[.pointer (some ⟨mb, 0, none⟩), .int .i64 e0] w2 fun e w' => e = .returned (.tuple #[]) ∧ Hid (Gm c mb ((s.pop 2).stop e0) w w')) := fun w1 w2 e0 g1 hb => by
  refine (stopC (g1.1.below hb) e0).mono ?_
  rintro e w3 ⟨rfl, g3⟩
  exact ⟨rfl, (Gm.trans (s1 := s.pop 2) ⟨g1.1.below hb, grown_tr g1.2 (grown_below hb)⟩ g3.out)⟩
 obtain ⟨x, hx⟩ : ∃ x, (reckI o (s.top 1) (s.top 0) 0).1 = x := ⟨_, rfl⟩
 obtain ⟨y, hy⟩ : ∃ y, (reckI o (s.top 1) (s.top 0) 0).2 = y := ⟨_, rfl⟩
 rw [hx, hy] at HR ⊢
 clear hx hy h hn h64
 clear b0
 clear b1
 generalize s.top 0 = t0 at *
 generalize s.top 1 = t1 at *
 by_cases h0 : y = 0
 ·subst h0
  rw [if_pos rfl]
  go_enter Tryz.func125, Tryz.ntmps125
  go_wp2_with fail
  refine HT2.out.mono ?_
  rintro e w2 ⟨rfl, G2⟩
  clear HT2
  go_wp2_with fail
  refine (HR.out w2).mono ?_
  rintro e w3 ⟨rfl, G3⟩
  clear HR
  have HN := hide (numberC x w3)
  go_wp2_with fail
  refine HN.out.mono ?_
  rintro e w4 ⟨rfl, G4⟩
  go_wp2_with fail
  refine (HLY.out w2 w4 0 x G2.out (G3.out.trans (G4.out.mono G3.out.size))).mono ?_
  rintro e w5 ⟨rfl, G5⟩
  go_wp2
  go_ret
  exact ⟨rfl, G5⟩
 ·rw [if_neg h0]
  have HD : Hid (decide (y = 0) = false) := by show _ = _; simp [h0]
  rw [HD.out]
  go_enter Tryz.func125, Tryz.ntmps125
  go_wp2_with fail
  refine HT2.out.mono ?_
  rintro e w2 ⟨rfl, G2⟩
  clear HT2
  go_wp2_with fail
  refine (HR.out w2).mono ?_
  rintro e w3 ⟨rfl, G3⟩
  clear HR
  go_wp2_with fail
  refine (HST.out w2 w3 y G2.out G3.out).mono ?_
  rintro e w5 ⟨rfl, G5⟩
  go_wp2
  go_ret
  exact ⟨rfl, G5⟩
set_option maxRecDepth 10000 in
set_option maxHeartbeats 3200000 in
theorem reckon3C (h : Pm c mb s w) (hn : 3 ≤ s.h) (h64 : s.h ≤ 64) (b0 : 0 ≤ s.top 0 ∧ s.top 0 < two64) (b1 : 0 ≤ s.top 1 ∧ s.top 1 < two64) (b2 : 0 ≤ s.top 2 ∧ s.top 2 < two64) : Calls Tryz.prog 125 #[.pointer (some ⟨mb, 0, none⟩), .int .i64 (24 : Int)] w fun e w' => e = .returned (.bool (decide ((reckI 24 (s.top 2) (s.top 1) (s.top 0)).2 = 0))) ∧ Hid (Gm c mb (if (reckI 24 (s.top 2) (s.top 1) (s.top 0)).2 = 0 then ((s.pop 3).push 0 (reckI 24 (s.top 2) (s.top 1) (s.top 0)).1) else ((s.pop 3).stop (reckI 24 (s.top 2) (s.top 1) (s.top 0)).2)) w w') := by
 have HT := hide (takeC h (by omega) h64)
 have HT2 : Hid (∀ w1, Gm c mb (s.pop 1) w w1 → Calls Tryz.prog 122 #[.pointer (some ⟨mb, 0, none⟩)] w1 fun e w' => e = .returned (.tuple #[.int .u64 (s.top 2), .int .u64 (s.top 1)]) ∧ Hid (Gm c mb (s.pop 3) w w')) := fun w1 g1 => by
  have a1 : 2 ≤ (s.pop 1).h := by show 2 ≤ s.h - 1; omega
  have a2 : (s.pop 1).h ≤ 64 := by show s.h - 1 ≤ 64; omega
  refine (takeTwoC g1.1 a1 a2).mono ?_
  rintro e w2 ⟨rfl, g2⟩
  have e1 : (s.pop 1).top 0 = s.top 1 := rfl
  have e3 : (s.pop 1).top 1 = s.top 2 := rfl
  have e2 : (s.pop 1).pop 2 = s.pop 3 := rfl
  rw [e1, e3]
  rw [e2] at g2
  exact ⟨rfl, g1.trans g2.out⟩
 have HR : Hid (∀ w, Calls Tryz.prog 163 #[.int .i64 (24 : Int), .int .u64 (s.top 2), .int .u64 (s.top 1), .int .u64 (s.top 0)] w fun e w' => e = .returned (.tuple #[.int .u64 (reckI 24 (s.top 2) (s.top 1) (s.top 0)).1, .int .i64 (reckI 24 (s.top 2) (s.top 1) (s.top 0)).2]) ∧ Hid (Below w.heap.size w w')) := fun w => reckonedC (o := 24) (by decide) (by decide) b2.1 b2.2 b1.1 b1.2 b0.1 b0.2 w
 have HLY : Hid (∀ w1 w2 k x, Gm c mb (s.pop 3) w w1 → Below w1.heap.size w1 w2 → Calls Tryz.prog 70 #[.pointer (some ⟨mb, 0, none⟩), .agg #[.int .i64 k, .int .u64 x]] w2 fun e w' => e = .returned (.tuple #[]) ∧ Hid (Gm c mb ((s.pop 3).push k x) w w')) := fun w1 w2 k x g1 hb => by
  refine (layC (g1.1.below hb) (by show s.h - 3 < 64; omega) k x).mono ?_
  rintro e w3 ⟨rfl, g3⟩
  exact ⟨rfl, (Gm.trans (s1 := s.pop 3) ⟨g1.1.below hb, grown_tr g1.2 (grown_below hb)⟩ g3.out)⟩
 have HST : Hid (∀ w1 w2 e0, Gm c mb (s.pop 3) w w1 → Below w1.heap.size w1 w2 → Calls Tryz.prog 69 #[.pointer (some ⟨mb, 0, none⟩), .int .i64 e0] w2 fun e w' => e = .returned (.tuple #[]) ∧ Hid (Gm c mb ((s.pop 3).stop e0) w w')) := fun w1 w2 e0 g1 hb => by
  refine (stopC (g1.1.below hb) e0).mono ?_
  rintro e w3 ⟨rfl, g3⟩
  exact ⟨rfl, (Gm.trans (s1 := s.pop 3) ⟨g1.1.below hb, grown_tr g1.2 (grown_below hb)⟩ g3.out)⟩
 obtain ⟨x, hx⟩ : ∃ x, (reckI 24 (s.top 2) (s.top 1) (s.top 0)).1 = x := ⟨_, rfl⟩
 obtain ⟨y, hy⟩ : ∃ y, (reckI 24 (s.top 2) (s.top 1) (s.top 0)).2 = y := ⟨_, rfl⟩
 rw [hx, hy] at HR ⊢
 clear hx hy h hn h64
 clear b0
 clear b1
 clear b2
 generalize s.sk (s.h - 1) = tk at *
 generalize s.top 0 = t0 at *
 generalize s.top 1 = t1 at *
 generalize s.top 2 = t2 at *
 have hfd := fldN tk t0
 by_cases h0 : y = 0
 ·subst h0
  rw [if_pos rfl]
  go_enter Tryz.func125, Tryz.ntmps125
  go_wp2_with fail
  refine HT.out.mono ?_
  rintro e w1 ⟨rfl, G1⟩
  clear HT
  go_wp2_with fail
  refine (HT2.out w1 G1.out).mono ?_
  rintro e w2 ⟨rfl, G2⟩
  clear HT2 G1
  go_wp2_with fail
  refine (HR.out w2).mono ?_
  rintro e w3 ⟨rfl, G3⟩
  clear HR
  have HN := hide (numberC x w3)
  go_wp2_with fail
  refine HN.out.mono ?_
  rintro e w4 ⟨rfl, G4⟩
  go_wp2_with fail
  refine (HLY.out w2 w4 0 x G2.out (G3.out.trans (G4.out.mono G3.out.size))).mono ?_
  rintro e w5 ⟨rfl, G5⟩
  go_wp2
  go_ret
  exact ⟨rfl, G5⟩
 ·rw [if_neg h0]
  have HD : Hid (decide (y = 0) = false) := by show _ = _; simp [h0]
  rw [HD.out]
  go_enter Tryz.func125, Tryz.ntmps125
  go_wp2_with fail
  refine HT.out.mono ?_
  rintro e w1 ⟨rfl, G1⟩
  clear HT
  go_wp2_with fail
  refine (HT2.out w1 G1.out).mono ?_
  rintro e w2 ⟨rfl, G2⟩
  clear HT2 G1
  go_wp2_with fail
  refine (HR.out w2).mono ?_
  rintro e w3 ⟨rfl, G3⟩
  clear HR
  go_wp2_with fail
  refine (HST.out w2 w3 y G2.out G3.out).mono ?_
  rintro e w5 ⟨rfl, G5⟩
  go_wp2
  go_ret
  exact ⟨rfl, G5⟩
set_option maxRecDepth 10000 in
set_option maxHeartbeats 3200000 in
theorem payC (h : Pm c mb s w) (hn : 2 ≤ s.h) (h64 : s.h ≤ 64) (hov : s.ov = false) (b0 : 0 ≤ s.top 0 ∧ s.top 0 < two64) (b1 : 0 ≤ s.top 1 ∧ s.top 1 < two64) (p0 : 0 ≤ s.paid 0) (p1 : 0 ≤ s.paid 1) (p2 : 0 ≤ s.paid 2) (ps : s.paid 0 + s.paid 1 + s.paid 2 ≤ c.hd) (hh : c.hd < two64) : Calls Tryz.prog 124 #[.pointer (some ⟨mb, 0, none⟩)] w fun e w' => e = .returned (.bool (opS 29 c.hd s).2) ∧ Hid (Gm c mb (opS 29 c.hd s).1 w w') := by
 unfold two64 at b0 b1 hh
 have HT2 := hide (takeTwoC h hn h64)
 have HO : Hid (opS 29 c.hd s = if s.top 0 < 1 ∨ 3 < s.top 0 then ((s.pop 2).stop 6, false) else if c.hd - s.paid 0 - s.paid 1 - s.paid 2 < s.top 1 then ((s.pop 2).stop 5, false) else ({ s.pop 2 with paid := updI s.paid (s.top 0 - 1).toNat (s.paid (s.top 0 - 1).toNat + s.top 1) }, true)) := rfl
 rw [HO.out]
 clear HO
 have HST : Hid (∀ w1 e0, Pm c mb (s.pop 2) w1 → Calls Tryz.prog 69 #[.pointer (some ⟨mb, 0, none⟩), .int .i64 e0] w1 fun e w' => e = .returned (.tuple #[]) ∧ Hid (Gm c mb ((s.pop 2).stop e0) w1 w')) := fun w1 e0 g1 => stopC g1 e0
 have HPM : Hid (∀ w1 (s1 : Ms), Pm c mb s1 w1 → w1.cell? ⟨mb, 19, none⟩ = some (.int .u64 c.hd) ∧ w1.cell? ⟨mb, 408, none⟩ = some (.int .u64 (s1.paid 0)) ∧ w1.cell? ⟨mb, 408 + 1, none⟩ = some (.int .u64 (s1.paid 1)) ∧ w1.cell? ⟨mb, 408 + 2, none⟩ = some (.int .u64 (s1.paid 2)) ∧ w1.cell? ⟨mb, 411, none⟩ = some (.bool s1.ov) ∧ mb < w1.heap.size) := fun w1 s1 g1 => ⟨g1.cell (i := 19) (by decide), g1.cell (i := 408) (by decide), g1.cell (i := 409) (by decide), g1.cell (i := 410) (by decide), g1.cell (i := 411) (by decide), g1.lt⟩
 have e1 : IntKind.u64.wrap (c.hd - s.paid 0) = c.hd - s.paid 0 := by rw [IntKind.wrap_u64]; omega
 have e2 : IntKind.u64.wrap (c.hd - s.paid 0 - s.paid 1) = c.hd - s.paid 0 - s.paid 1 := by rw [IntKind.wrap_u64]; omega
 have e3 : IntKind.u64.wrap (c.hd - s.paid 0 - s.paid 1 - s.paid 2) = c.hd - s.paid 0 - s.paid 1 - s.paid 2 := by rw [IntKind.wrap_u64]; omega
 have HOV := hide hov
 obtain ⟨pt, hpt⟩ : ∃ pt, s.top 0 = pt := ⟨_, rfl⟩
 obtain ⟨am, ham⟩ : ∃ am, s.top 1 = am := ⟨_, rfl⟩
 rw [hpt] at HT2 b0 ⊢
 rw [ham] at HT2 b1 ⊢
 clear hpt ham h hn h64 hov
 by_cases hp : pt < 1 ∨ 3 < pt
 ·rw [if_pos hp]
  have hp2 : 1 ≤ pt → 3 < pt := by omega
  go_enter Tryz.func124, Tryz.ntmps124
  go_wp2_with fail
  refine HT2.out.mono ?_
  rintro e w1 ⟨rfl, G1⟩
  have HS := hide (HST.out w1 6 G1.out.1)
  clear HT2
  have HFIN : Hid (∀ w', Gm c mb ((s.pop 2).stop 6) w1 w' → Gm c mb ((s.pop 2).stop 6) w w' ∧ w'.cell? ⟨mb, 411, none⟩ = some (.bool true) ∧ mb < w'.heap.size) := fun w' g => ⟨G1.out.trans g, (HPM.out w' _ g.1).2.2.2.2.1, g.1.lt⟩
  clear e1 e2 e3
  by_cases hp1 : pt < 1
  ·clear hp hp2
   go_wp2_with fail
   refine HS.out.mono ?_
   rintro e w2 ⟨rfl, G2⟩
   obtain ⟨q1, q2, q3⟩ := HFIN.out w2 G2.out
   have HQ := hide q1
   clear q1 HS G1 HFIN HPM
   go_wp2
   go_ret
   exact ⟨rfl, HQ⟩
  ·have hp3 : 3 < pt := by omega
   clear hp hp2
   go_wp2_with fail
   refine HS.out.mono ?_
   rintro e w2 ⟨rfl, G2⟩
   obtain ⟨q1, q2, q3⟩ := HFIN.out w2 G2.out
   have HQ := hide q1
   clear q1 HS G1 HFIN HPM
   go_wp2
   go_ret
   exact ⟨rfl, HQ⟩
 ·rw [if_neg hp]
  obtain ⟨m, hm⟩ : ∃ m : Nat, pt - 1 = m := ⟨(pt - 1).toNat, by omega⟩
  have hm3 : m < 3 := by omega
  have hpa : ¬ pt < 1 := by omega
  have hpb : ¬ 3 < pt := by omega
  have hmt : (pt - 1).toNat = m := by omega
  rw [hmt]
  have e5 : IntKind.u64.wrap (pt - 1) = (m : Nat) := by rw [IntKind.wrap_u64]; omega
  have HPO : Hid (∀ w1, Gm c mb (s.pop 2) w w1 → w1.cell? ⟨mb, 408 + m, none⟩ = some (.int .u64 (s.paid m)) ∧ w1.frozen? ⟨mb, 408 + m, none⟩ = false) := fun w1 g1 => by
   refine ⟨?_, g1.1.free _⟩
   rw [g1.1.cell (i := 408 + m) (by omega)]
   unfold fcell
   rw [if_neg (by omega), if_neg (by omega), if_neg (by omega), if_neg (by omega), if_neg (by omega), if_pos (by omega), show 408 + m - 408 = m by omega]
   rfl
  have hpm : 0 ≤ s.paid m ∧ s.paid m ≤ s.paid 0 + s.paid 1 + s.paid 2 := by
   match m, hm3 with
   | 0, _ => exact ⟨p0, by omega⟩
   | 1, _ => exact ⟨p1, by omega⟩
   | 2, _ => exact ⟨p2, by omega⟩
  obtain ⟨h0, hh0⟩ : ∃ h0, c.hd - s.paid 0 = h0 := ⟨_, rfl⟩
  obtain ⟨h1, hh1⟩ : ∃ h1, h0 - s.paid 1 = h1 := ⟨_, rfl⟩
  obtain ⟨h2, hh2⟩ : ∃ h2, h1 - s.paid 2 = h2 := ⟨_, rfl⟩
  have i1 := e1.trans hh0
  rw [hh0] at e2 e3
  have i2 := e2.trans hh1
  rw [hh1] at e3
  have i3 := e3.trans hh2
  rw [hh0, hh1, hh2]
  clear e1 e2 e3
  clear hp hm hmt
  by_cases hq : h2 < am
  ·rw [if_pos hq]
   have hqd : decide (h2 < am) = true := by simp [hq]
   go_enter Tryz.func124, Tryz.ntmps124
   go_wp2_with fail
   refine HT2.out.mono ?_
   rintro e w1 ⟨rfl, G1⟩
   have HFIN : Hid (∀ q w', Gm c mb ((s.pop 2).stop 5) (w1.drewN q) w' → Gm c mb ((s.pop 2).stop 5) w w' ∧ w'.cell? ⟨mb, 411, none⟩ = some (.bool true) ∧ mb < w'.heap.size) := fun q w' g => ⟨Gm.trans (s1 := s.pop 2) ⟨G1.out.1.below (Go.below_drewN (Below.refl _ _) q), grown_tr G1.out.2 (grown_below (Go.below_drewN (Below.refl _ _) q))⟩ g, (HPM.out w' _ g.1).2.2.2.2.1, g.1.lt⟩
   have HS : Hid (∀ q, Calls Tryz.prog 69 #[.pointer (some ⟨mb, 0, none⟩), .int .i64 5] (w1.drewN q) fun e w' => e = .returned (.tuple #[]) ∧ Hid (Gm c mb ((s.pop 2).stop 5) (w1.drewN q) w')) := fun q => HST.out _ 5 (G1.out.1.below (Go.below_drewN (Below.refl _ _) q))
   obtain ⟨y1, z2, z3, z4, y5, yl⟩ := HPM.out w1 _ G1.out.1
   have y2 : w1.cell? ⟨mb, 408, none⟩ = some (.int .u64 (s.paid 0)) := z2
   clear z2
   have y3 : w1.cell? ⟨mb, 408 + 1, none⟩ = some (.int .u64 (s.paid 1)) := z3
   clear z3
   have y4 : w1.cell? ⟨mb, 408 + 2, none⟩ = some (.int .u64 (s.paid 2)) := z4
   clear z4
   clear HT2 y5 HPO G1 HST hpm e5 p0 p1 p2 ps hh hh0 hh1 hh2
   generalize s.paid 0 = d0 at *
   generalize s.paid 1 = d1 at *
   generalize s.paid 2 = d2 at *
   go_upto_region 5 with fail
   go_quiet (fail)
   go_wp2_with fail
   refine (HS.out _).mono ?_
   rintro e w2 ⟨rfl, G2⟩
   obtain ⟨q1, q2, q3⟩ := HFIN.out _ w2 G2.out
   have HQ := hide q1
   clear q1 HS HFIN HPM y1 y2 y3 y4 yl
   go_wp2
   go_ret
   exact ⟨rfl, HQ⟩
  ·rw [if_neg hq]
   obtain ⟨x, hx⟩ : ∃ x, s.paid m = x := ⟨_, rfl⟩
   obtain ⟨y, hy⟩ : ∃ y, x + am = y := ⟨_, rfl⟩
   have e6 : IntKind.u64.wrap (x + am) = y := by rw [hy, IntKind.wrap_u64]; omega
   rw [hx] at HPO
   rw [hx, hy]
   have HFIN : Hid (∀ wz, Gm c mb (s.pop 2) w wz → Gm c mb { s.pop 2 with paid := updI s.paid m y } w (wz.setCell ⟨mb, 408 + m, none⟩ (.int .u64 y)) ∧ (wz.setCell ⟨mb, 408 + m, none⟩ (.int .u64 y)).cell? ⟨mb, 411, none⟩ = some (.bool false) ∧ mb < (wz.setCell ⟨mb, 408 + m, none⟩ (.int .u64 y)).heap.size) := fun wz g => by
    have q := g.1.set (fc_paid (s := s.pop 2) hm3 y)
    refine ⟨⟨q, grown_tr g.2 (grown_setT _ _ _ _)⟩, ?_, q.lt⟩
    rw [← HOV.out]
    exact q.cell (i := 411) (by decide)
   have hqd : decide (h2 < am) = false := by simp [hq]
   go_enter Tryz.func124, Tryz.ntmps124
   go_wp2_with fail
   refine HT2.out.mono ?_
   rintro e w1 ⟨rfl, G1⟩
   obtain ⟨y1, z2, z3, z4, y5, yl⟩ := HPM.out w1 _ G1.out.1
   have y2 : w1.cell? ⟨mb, 408, none⟩ = some (.int .u64 (s.paid 0)) := z2
   clear z2
   have y3 : w1.cell? ⟨mb, 408 + 1, none⟩ = some (.int .u64 (s.paid 1)) := z3
   clear z3
   have y4 : w1.cell? ⟨mb, 408 + 2, none⟩ = some (.int .u64 (s.paid 2)) := z4
   clear z4
   obtain ⟨cx, cf⟩ := HPO.out w1 G1.out
   have ml := yl
   have HGZ : Hid (∀ q wz, (w1.drewN q).drew = wz → Gm c mb (s.pop 2) w wz) := fun q wz e => by
    rw [← e]
    have hb : Below w1.heap.size w1 (w1.drewN q).drew := (Go.below_drewN (Below.refl _ _) q).drew
    exact ⟨G1.out.1.below hb, grown_tr G1.out.2 (grown_below hb)⟩
   clear HT2 y5 HPO G1 HST hpm p0 p1 p2 ps hh hh0 hh1 hh2 hx hy
   generalize hd0 : s.paid 0 = d0 at *
   generalize hd1 : s.paid 1 = d1 at *
   generalize hd2 : s.paid 2 = d2 at *
   clear hd0 hd1 hd2
   go_upto_region 5 with fail
   go_quiet (fail)
   go_upto_region 2 with fail
   obtain ⟨wz, hwz⟩ : ∃ wz, (w1.drewN nq).drew = wz := ⟨_, rfl⟩
   have HS9 : Hid ((fun (w : World) => w.cell? ⟨mb, 408 + m, none⟩ = some (.int .u64 x) ∧ mb < w.heap.size ∧ w.frozen? ⟨mb, 408 + m, none⟩ = false) wz) := by rw [← hwz]; exact ⟨cx, ml, cf⟩
   refine wp_region_L 12 (fun (w : World) => w.cell? ⟨mb, 408 + m, none⟩ = some (.int .u64 x) ∧ mb < w.heap.size ∧ w.frozen? ⟨mb, 408 + m, none⟩ = false) (fun _ => True) (by kernel_rfl) (by rw [hwz]; exact HS9.out) trivial (fun hS0 => ?_)
   rw [hwz] at hS0 ⊢
   refine wpAnyL_take (i := 0) (oi := ⟨some 10, .move (.tmp 0), 80, "operate.go:95", #[], none⟩) (v := .pointer (some ⟨mb, 0, none⟩)) rfl (by decide) (by kernel_rfl) (by kernel_rfl) (by kernel_rfl) (fun _ _ _ h => h) (Or.inl ⟨by rfl, fun w2 hSw => ?_⟩) hS0 (fun hS1 => ?_)
   ·go_simp
   simp only [Act.put, lsA, lsB, lsC]
   clear hS0
   refine wpAnyL_take (i := 1) (oi := ⟨some 11, .move (.tmp 4), 28, "operate.go:95", #[], none⟩) (v := .int .u64 pt) rfl (by decide) (by kernel_rfl) (by kernel_rfl) (by kernel_rfl) (fun _ _ _ h => h) (Or.inl ⟨by rfl, fun w2 hSw => ?_⟩) hS1 (fun hS2 => ?_)
   ·go_simp
   simp only [Act.put, lsA, lsB, lsC]
   clear hS1
   refine wpAnyL_take (i := 2) (oi := ⟨some 12, .binOp .sub 28 (.tmp 11) (.const (.int .u64 1)) 28, 28, "operate.go:95", #[⟨1, .data⟩], none⟩) (v := .int .u64 (m : Nat)) rfl (by decide) (by kernel_rfl) (by kernel_rfl) (by kernel_rfl) (fun _ _ _ h => h) (Or.inl ⟨by rfl, fun w2 hSw => ?_⟩) hS2 (fun hS3 => ?_)
   ·go_simp
   simp only [Act.put, lsA, lsB, lsC]
   clear hS2
   refine wpAnyL_take (i := 3) (oi := ⟨some 13, .nilCheck (.tmp 10), 0, "operate.go:95", #[⟨0, .data⟩], none⟩) (v := .pointer (some ⟨mb, 0, none⟩)) rfl (by decide) (by kernel_rfl) (by kernel_rfl) (by kernel_rfl) (fun _ _ _ h => h) (Or.inl ⟨by rfl, fun w2 hSw => ?_⟩) hS3 (fun hS4 => ?_)
   ·go_simp
   simp only [Act.put, lsA, lsB, lsC]
   clear hS3
   refine wpAnyL_take (i := 4) (oi := ⟨some 14, .fieldAddr 140 (.tmp 13) 11, 0, "operate.go:95", #[⟨3, .data⟩], none⟩) (v := .pointer (some ⟨mb, 408, none⟩)) rfl (by decide) (by kernel_rfl) (by kernel_rfl) (by kernel_rfl) (fun _ _ _ h => h) (Or.inl ⟨by rfl, fun w2 hSw => ?_⟩) hS4 (fun hS5 => ?_)
   ·go_simp
   simp only [Act.put, lsA, lsB, lsC]
   clear hS4
   refine wpAnyL_take (i := 5) (oi := ⟨some 15, .indexAddr 45 (.tmp 14) (.tmp 12), 0, "operate.go:95", #[⟨4, .data⟩, ⟨2, .data⟩], none⟩) (v := .pointer (some ⟨mb, 408 + m, none⟩)) rfl (by decide) (by kernel_rfl) (by kernel_rfl) (by kernel_rfl) (fun _ _ _ h => h) (Or.inl ⟨by rfl, fun w2 hSw => ?_⟩) hS5 (fun hS6 => ?_)
   ·go_simp
    intro hx
    omega
   simp only [Act.put, lsA, lsB, lsC]
   clear hS5
   refine wpAnyL_take1 (i := 6) (oi := ⟨some 16, .load 28 (.tmp 15), 28, "operate.go:95", #[⟨5, .data⟩], none⟩) (v := .int .u64 x) rfl (by decide) (by kernel_rfl) (by kernel_rfl) (by kernel_rfl) (fun _ _ _ h => h) (Or.inl ⟨by rfl, fun w2 hSw => ?_⟩) hS6 (by kernel_rfl) rfl (by kernel_rfl) (fun hS7 => ?_)
   ·obtain ⟨k1, kl, k2⟩ := hSw
    go_simp
   simp only [Act.put, lsA, lsB, lsC]
   clear hS6
   refine wpAnyL_take (i := 7) (oi := ⟨some 17, .move (.tmp 3), 28, "operate.go:95", #[], none⟩) (v := .int .u64 am) rfl (by decide) (by kernel_rfl) (by kernel_rfl) (by kernel_rfl) (fun _ _ _ h => h) (Or.inl ⟨by rfl, fun w2 hSw => ?_⟩) hS7 (fun hS8 => ?_)
   ·go_simp
   simp only [Act.put, lsA, lsB, lsC]
   clear hS7
   refine wpAnyL_take (i := 8) (oi := ⟨some 18, .binOp .add 28 (.tmp 16) (.tmp 17) 28, 28, "operate.go:95", #[⟨6, .data⟩, ⟨7, .data⟩], none⟩) (v := .int .u64 y) rfl (by decide) (by kernel_rfl) (by kernel_rfl) (by kernel_rfl) (fun _ _ _ h => h) (Or.inl ⟨by rfl, fun w2 hSw => ?_⟩) hS8 (fun hS9 => ?_)
   ·go_simp
   simp only [Act.put, lsA, lsB, lsC]
   clear hS8
   refine wpAnyL_take (i := 9) (oi := ⟨some 19, .nilCheck (.tmp 10), 0, "operate.go:95", #[⟨0, .data⟩], none⟩) (v := .pointer (some ⟨mb, 0, none⟩)) rfl (by decide) (by kernel_rfl) (by kernel_rfl) (by kernel_rfl) (fun _ _ _ h => h) (Or.inl ⟨by rfl, fun w2 hSw => ?_⟩) hS9 (fun hS10 => ?_)
   ·go_simp
   simp only [Act.put, lsA, lsB, lsC]
   clear hS9
   refine wpAnyL_take (i := 10) (oi := ⟨some 20, .fieldAddr 140 (.tmp 19) 11, 0, "operate.go:95", #[⟨9, .data⟩], none⟩) (v := .pointer (some ⟨mb, 408, none⟩)) rfl (by decide) (by kernel_rfl) (by kernel_rfl) (by kernel_rfl) (fun _ _ _ h => h) (Or.inl ⟨by rfl, fun w2 hSw => ?_⟩) hS10 (fun hS11 => ?_)
   ·go_simp
   simp only [Act.put, lsA, lsB, lsC]
   clear hS10
   refine wpAnyL_take (i := 11) (oi := ⟨some 21, .indexAddr 45 (.tmp 20) (.tmp 12), 0, "operate.go:95", #[⟨10, .data⟩, ⟨2, .data⟩, ⟨0, .phase⟩, ⟨1, .phase⟩, ⟨2, .phase⟩, ⟨3, .phase⟩, ⟨4, .phase⟩, ⟨5, .phase⟩, ⟨6, .phase⟩, ⟨7, .phase⟩, ⟨8, .phase⟩], none⟩) (v := .pointer (some ⟨mb, 408 + m, none⟩)) rfl (by decide) (by kernel_rfl) (by kernel_rfl) (by kernel_rfl) (fun _ _ _ h => h) (Or.inl ⟨by rfl, fun w2 hSw => ?_⟩) hS11 (fun hS12 => ?_)
   ·go_simp
    intro hx
    omega
   simp only [Act.put, lsA, lsB, lsC]
   clear hS11
   obtain ⟨k1, kl, k2⟩ := hS12.1 rfl
   clear hS12
   refine wpAnyL_one (i := 12) (o := ⟨none, .store 28 (.tmp 21) (.tmp 18), 0, "operate.go:95", #[⟨11, .data⟩, ⟨8, .data⟩, ⟨0, .phase⟩, ⟨1, .phase⟩, ⟨2, .phase⟩, ⟨3, .phase⟩, ⟨4, .phase⟩, ⟨5, .phase⟩, ⟨6, .phase⟩, ⟨7, .phase⟩, ⟨8, .phase⟩], none⟩) (by kernel_rfl) rfl (fun K hK => ?_)
   go_simp
   go_wp2_with fail
   refine hK.out _ _ ⟨fun h => (by cases (show true = false from h)), trivial⟩ ?_
   clear hK K HS9
   refine wpAnyL_done (by kernel_rfl) ?_ _
   obtain ⟨q1, q2, q3⟩ := HFIN.out wz (HGZ.out _ wz hwz)
   have HQ := hide q1
   clear q1 HFIN HPM y1 y2 y3 y4 yl k1 kl k2 HGZ hwz cx cf ml
   go_wp2
   go_ret
   exact ⟨rfl, HQ⟩
end
end Go.Proofs.YtggpaljilpbmhaaGreatDoor
