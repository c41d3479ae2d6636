import Derived.Test.YtpdjnbpjgpdnkaaGreatDoorX27
namespace Go.Proofs.YtpdjnbpjgpdnkaaGreatDoor
open Go.RowKit

/-- What an instruction with operands and no Arg does, and whether the rule goes on. -/
def opS (o : Nat) (hd : Int) (s : Ms) : Ms × Bool :=
 if o = 8 then ((s.pop 1).push 1 (1 - s.top 0), true)
 else if o ≤ 16 then ((s.pop 2).push 1 (bI (cmpB o (s.top 1) (s.top 0))), true)
 else if o ≤ 23 then (if (reckI o (s.top 1) (s.top 0) 0).2 = 0 then ((s.pop 2).push 0 (reckI o (s.top 1) (s.top 0) 0).1, true) else ((s.pop 2).stop (reckI o (s.top 1) (s.top 0) 0).2, false))
 else if o = 24 then (if (reckI o (s.top 2) (s.top 1) (s.top 0)).2 = 0 then ((s.pop 3).push 0 (reckI o (s.top 2) (s.top 1) (s.top 0)).1, true) else ((s.pop 3).stop (reckI o (s.top 2) (s.top 1) (s.top 0)).2, false))
 else if s.top 0 < 1 ∨ 3 < s.top 0 then ((s.pop 2).stop 6, false) else if hd - s.paid 0 - s.paid 1 - s.paid 2 < s.top 1 then ((s.pop 2).stop 5, false) else ({ s.pop 2 with paid := updI s.paid (s.top 0 - 1).toNat (s.paid (s.top 0 - 1).toNat + s.top 1) }, true)
section
variable {c : Mc} {mb : Nat} {s : Ms} {w : World}
set_option maxRecDepth 10000 in
set_option maxHeartbeats 3200000 in
theorem reckonC {o : Nat} (h : Pm c mb s w) (h17 : 17 ≤ o) (h23 : o ≤ 23) (hn : 2 ≤ s.h) (h64 : s.h ≤ 64) (b0 : 0 ≤ s.top 0 ∧ s.top 0 < two64) (b1 : 0 ≤ s.top 1 ∧ s.top 1 < two64) : Calls Tryz.prog 54 #[.pointer (some ⟨mb, 0, none⟩), .int .i64 (o : Nat)] w fun e w' => e = .returned (.bool (decide ((reckI o (s.top 1) (s.top 0) 0).2 = 0))) ∧ Hid (Gm c mb (if (reckI o (s.top 1) (s.top 0) 0).2 = 0 then ((s.pop 2).push 0 (reckI o (s.top 1) (s.top 0) 0).1) else ((s.pop 2).stop (reckI o (s.top 1) (s.top 0) 0).2)) w w') := by
 have HT2 := hide (takeTwoC h hn h64)
 have HR : Hid (∀ w, Calls Tryz.prog 75 #[.int .i64 (o : Nat), .int .u64 (s.top 1), .int .u64 (s.top 0), .int .u64 0] w fun e w' => e = .returned (.tuple #[.int .u64 (reckI o (s.top 1) (s.top 0) 0).1, .int .i64 (reckI o (s.top 1) (s.top 0) 0).2]) ∧ Hid (Below w.heap.size w w')) := fun w => reckonedC h17 (by omega) b1.1 b1.2 b0.1 b0.2 (Int.le_refl 0) (by unfold two64; decide) w
 have ho24 : ¬ (o : Int) = 24 := by omega
 have HLY : Hid (∀ w1 w2 k x, Gm c mb (s.pop 2) w w1 → Below w1.heap.size w1 w2 → Calls Tryz.prog 31 #[.pointer (some ⟨mb, 0, none⟩), .agg #[.int .i64 k, .int .u64 x]] w2 fun e w' => e = .returned (.tuple #[]) ∧ Hid (Gm c mb ((s.pop 2).push k x) w w')) := fun w1 w2 k x g1 hb => by
  refine (layC (g1.1.below hb) (by show s.h - 2 < 64; omega) k x).mono ?_
  rintro e w3 ⟨rfl, g3⟩
  exact ⟨rfl, (Gm.trans (s1 := s.pop 2) ⟨g1.1.below hb, grown_tr g1.2 (grown_below hb)⟩ g3.out)⟩
 have HST : Hid (∀ w1 w2 e0, Gm c mb (s.pop 2) w w1 → Below w1.heap.size w1 w2 → Calls Tryz.prog 25 #[.pointer (some ⟨mb, 0, none⟩), .int .i64 e0] w2 fun e w' => e = .returned (.tuple #[]) ∧ Hid (Gm c mb ((s.pop 2).stop e0) w w')) := fun w1 w2 e0 g1 hb => by
  refine (stopC (g1.1.below hb) e0).mono ?_
  rintro e w3 ⟨rfl, g3⟩
  exact ⟨rfl, (Gm.trans (s1 := s.pop 2) ⟨g1.1.below hb, grown_tr g1.2 (grown_below hb)⟩ g3.out)⟩
 obtain ⟨x, hx⟩ : ∃ x, (reckI o (s.top 1) (s.top 0) 0).1 = x := ⟨_, rfl⟩
 obtain ⟨y, hy⟩ : ∃ y, (reckI o (s.top 1) (s.top 0) 0).2 = y := ⟨_, rfl⟩
 rw [hx, hy] at HR ⊢
 clear hx hy h hn h64
 clear b0
 clear b1
 generalize s.top 0 = t0 at *
 generalize s.top 1 = t1 at *
 by_cases h0 : y = 0
 ·subst h0
  rw [if_pos rfl]
  go_enter Tryz.func54, Tryz.ntmps54
  go_wp2_with fail
  refine HT2.out.mono ?_
  rintro e w2 ⟨rfl, G2⟩
  clear HT2
  go_wp2_with fail
  refine (HR.out w2).mono ?_
  rintro e w3 ⟨rfl, G3⟩
  clear HR
  have HN := hide (numberC x w3)
  go_wp2_with fail
  refine HN.out.mono ?_
  rintro e w4 ⟨rfl, G4⟩
  go_wp2_with fail
  refine (HLY.out w2 w4 0 x G2.out (G3.out.trans (G4.out.mono G3.out.size))).mono ?_
  rintro e w5 ⟨rfl, G5⟩
  go_wp2
  go_ret
  exact ⟨rfl, G5⟩
 ·rw [if_neg h0]
  have HD : Hid (decide (y = 0) = false) := by show _ = _; simp [h0]
  rw [HD.out]
  go_enter Tryz.func54, Tryz.ntmps54
  go_wp2_with fail
  refine HT2.out.mono ?_
  rintro e w2 ⟨rfl, G2⟩
  clear HT2
  go_wp2_with fail
  refine (HR.out w2).mono ?_
  rintro e w3 ⟨rfl, G3⟩
  clear HR
  go_wp2_with fail
  refine (HST.out w2 w3 y G2.out G3.out).mono ?_
  rintro e w5 ⟨rfl, G5⟩
  go_wp2
  go_ret
  exact ⟨rfl, G5⟩
set_option maxRecDepth 10000 in
set_option maxHeartbeats 3200000 in
theorem reckon3C (h : Pm c mb s w) (hn : 3 ≤ s.h) (h64 : s.h ≤ 64) (b0 : 0 ≤ s.top 0 ∧ s.top 0 < two64) (b1 : 0 ≤ s.top 1 ∧ s.top 1 < two64) (b2 : 0 ≤ s.top 2 ∧ s.top 2 < two64) : Calls Tryz.prog 54 #[.pointer (some ⟨mb, 0, none⟩), .int .i64 (24 : Int)] w fun e w' => e = .returned (.bool (decide ((reckI 24 (s.top 2) (s.top 1) (s.top 0)).2 = 0))) ∧ Hid (Gm c mb (if (reckI 24 (s.top 2) (s.top 1) (s.top 0)).2 = 0 then ((s.pop 3).push 0 (reckI 24 (s.top 2) (s.top 1) (s.top 0)).1) else ((s.pop 3).stop (reckI 24 (s.top 2) (s.top 1) (s.top 0)).2)) w w') := by
 have HT := hide (takeC h (by omega) h64)
 have HT2 : Hid (∀ w1, Gm c mb (s.pop 1) w w1 → Calls Tryz.prog 51 #[.pointer (some ⟨mb, 0, none⟩)] w1 fun e w' => e = .returned (.tuple #[.int .u64 (s.top 2), .int .u64 (s.top 1)]) ∧ Hid (Gm c mb (s.pop 3) w w')) := fun w1 g1 => by
  have a1 : 2 ≤ (s.pop 1).h := by show 2 ≤ s.h - 1; omega
  have a2 : (s.pop 1).h ≤ 64 := by show s.h - 1 ≤ 64; omega
  refine (takeTwoC g1.1 a1 a2).mono ?_
  rintro e w2 ⟨rfl, g2⟩
  have e1 : (s.pop 1).top 0 = s.top 1 := rfl
  have e3 : (s.pop 1).top 1 = s.top 2 := rfl
  have e2 : (s.pop 1).pop 2 = s.pop 3 := rfl
  rw [e1, e3]
  rw [e2] at g2
  exact ⟨rfl, g1.trans g2.out⟩
 have HR : Hid (∀ w, Calls Tryz.prog 75 #[.int .i64 (24 : Int), .int .u64 (s.top 2), .int .u64 (s.top 1), .int .u64 (s.top 0)] w fun e w' => e = .returned (.tuple #[.int .u64 (reckI 24 (s.top 2) (s.top 1) (s.top 0)).1, .int .i64 (reckI 24 (s.top 2) (s.top 1) (s.top 0)).2]) ∧ Hid (Below w.heap.size w w')) := fun w => reckonedC (o := 24) (by decide) (by decide) b2.1 b2.2 b1.1 b1.2 b0.1 b0.2 w
 have HLY : Hid (∀ w1 w2 k x, Gm c mb (s.pop 3) w w1 → Below w1.heap.size w1 w2 → Calls Tryz.prog 31 #[.pointer (some ⟨mb, 0, none⟩), .agg #[.int .i64 k, .int .u64 x]] w2 fun e w' => e = .returned (.tuple #[]) ∧ Hid (Gm c mb ((s.pop 3).push k x) w w')) := fun w1 w2 k x g1 hb => by
  refine (layC (g1.1.below hb) (by show s.h - 3 < 64; omega) k x).mono ?_
  rintro e w3 ⟨rfl, g3⟩
  exact ⟨rfl, (Gm.trans (s1 := s.pop 3) ⟨g1.1.below hb, grown_tr g1.2 (grown_below hb)⟩ g3.out)⟩
 have HST : Hid (∀ w1 w2 e0, Gm c mb (s.pop 3) w w1 → Below w1.heap.size w1 w2 → Calls Tryz.prog 25 #[.pointer (some ⟨mb, 0, none⟩), .int .i64 e0] w2 fun e w' => e = .returned (.tuple #[]) ∧ Hid (Gm c mb ((s.pop 3).stop e0) w w')) := fun w1 w2 e0 g1 hb => by
  refine (stopC (g1.1.below hb) e0).mono ?_
  rintro e w3 ⟨rfl, g3⟩
  exact ⟨rfl, (Gm.trans (s1 := s.pop 3) ⟨g1.1.below hb, grown_tr g1.2 (grown_below hb)⟩ g3.out)⟩
 obtain ⟨x, hx⟩ : ∃ x, (reckI 24 (s.top 2) (s.top 1) (s.top 0)).1 = x := ⟨_, rfl⟩
 obtain ⟨y, hy⟩ : ∃ y, (reckI 24 (s.top 2) (s.top 1) (s.top 0)).2 = y := ⟨_, rfl⟩
 rw [hx, hy] at HR ⊢
 clear hx hy h hn h64
 clear b0
 clear b1
 clear b2
 generalize s.sk (s.h - 1) = tk at *
 generalize s.top 0 = t0 at *
 generalize s.top 1 = t1 at *
 generalize s.top 2 = t2 at *
 have hfd := fldN tk t0
 by_cases h0 : y = 0
 ·subst h0
  rw [if_pos rfl]
  go_enter Tryz.func54, Tryz.ntmps54
  go_wp2_with fail
  refine HT.out.mono ?_
  rintro e w1 ⟨rfl, G1⟩
  clear HT
  go_wp2_with fail
  refine (HT2.out w1 G1.out).mono ?_
  rintro e w2 ⟨rfl, G2⟩
  clear HT2 G1
  go_wp2_with fail
  refine (HR.out w2).mono ?_
  rintro e w3 ⟨rfl, G3⟩
  clear HR
  have HN := hide (numberC x w3)
  go_wp2_with fail
  refine HN.out.mono ?_
  rintro e w4 ⟨rfl, G4⟩
  go_wp2_with fail
  refine (HLY.out w2 w4 0 x G2.out (G3.out.trans (G4.out.mono G3.out.size))).mono ?_
  rintro e w5 ⟨rfl, G5⟩
  go_wp2
  go_ret
  exact ⟨rfl, G5⟩
 ·rw [if_neg h0]
  have HD : Hid (decide (y = 0) = false) := by show _ = _; simp [h0]
  rw [HD.out]
  go_enter Tryz.func54, Tryz.ntmps54
  go_wp2_with fail
  refine HT.out.mono ?_
  rintro e w1 ⟨rfl, G1⟩
  clear HT
  go_wp2_with fail
  refine (HT2.out w1 G1.out).mono ?_
  rintro e w2 ⟨rfl, G2⟩
  clear HT2 G1
  go_wp2_with fail
  refine (HR.out w2).mono ?_
  rintro e w3 ⟨rfl, G3⟩
  clear HR
  go_wp2_with fail
  refine (HST.out w2 w3 y G2.out G3.out).mono ?_
  rintro e w5 ⟨rfl, G5⟩
  go_wp2
  go_ret
  exact ⟨rfl, G5⟩
set_option maxRecDepth 10000 in
set_option maxHeartbeats 3200000 in
theorem payC (h : Pm c mb s w) (hn : 2 ≤ s.h) (h64 : s.h ≤ 64) (hov : s.ov = false) (b0 : 0 ≤ s.top 0 ∧ s.top 0 < two64) (b1 : 0 ≤ s.top 1 ∧ s.top 1 < two64) (p0 : 0 ≤ s.paid 0) (p1 : 0 ≤ s.paid 1) (p2 : 0 ≤ s.paid 2) (ps : s.paid 0 + s.paid 1 + s.paid 2 ≤ c.hd) (hh : c.hd < two64) : Calls Tryz.prog 53 #[.pointer (some ⟨mb, 0, none⟩)] w fun e w' => e = .returned (.bool (opS 29 c.hd s).2) ∧ Hid (Gm c mb (opS 29 c.hd s).1 w w') := by
 unfold two64 at b0 b1 hh
 have HT2 := hide (takeTwoC h hn h64)
 have HO : Hid (opS 29 c.hd s = if s.top 0 < 1 ∨ 3 < s.top 0 then ((s.pop 2).stop 6, false) else if c.hd - s.paid 0 - s.paid 1 - s.paid 2 < s.top 1 then ((s.pop 2).stop 5, false) else ({ s.pop 2 with paid := updI s.paid (s.top 0 - 1).toNat (s.paid (s.top 0 - 1).toNat + s.top 1) }, true)) := rfl
 rw [HO.out]
 clear HO
 have HST : Hid (∀ w1 e0, Pm c mb (s.pop 2) w1 → Calls Tryz.prog 25 #[.pointer (some ⟨mb, 0, none⟩), .int .i64 e0] w1 fun e w' => e = .returned (.tuple #[]) ∧ Hid (Gm c mb ((s.pop 2).stop e0) w1 w')) := fun w1 e0 g1 => stopC g1 e0
 have HPM : Hid (∀ w1 (s1 : Ms), Pm c mb s1 w1 → w1.cell? ⟨mb, 19, none⟩ = some (.int .u64 c.hd) ∧ w1.cell? ⟨mb, 408, none⟩ = some (.int .u64 (s1.paid 0)) ∧ w1.cell? ⟨mb, 408 + 1, none⟩ = some (.int .u64 (s1.paid 1)) ∧ w1.cell? ⟨mb, 408 + 2, none⟩ = some (.int .u64 (s1.paid 2)) ∧ w1.cell? ⟨mb, 411, none⟩ = some (.bool s1.ov) ∧ mb < w1.heap.size) := fun w1 s1 g1 => ⟨g1.cell (i := 19) (by decide), g1.cell (i := 408) (by decide), g1.cell (i := 409) (by decide), g1.cell (i := 410) (by decide), g1.cell (i := 411) (by decide), g1.lt⟩
 have e1 : IntKind.u64.wrap (c.hd - s.paid 0) = c.hd - s.paid 0 := by rw [IntKind.wrap_u64]; omega
 have e2 : IntKind.u64.wrap (c.hd - s.paid 0 - s.paid 1) = c.hd - s.paid 0 - s.paid 1 := by rw [IntKind.wrap_u64]; omega
 have e3 : IntKind.u64.wrap (c.hd - s.paid 0 - s.paid 1 - s.paid 2) = c.hd - s.paid 0 - s.paid 1 - s.paid 2 := by rw [IntKind.wrap_u64]; omega
 have HOV := hide hov
 obtain ⟨pt, hpt⟩ : ∃ pt, s.top 0 = pt := ⟨_, rfl⟩
 obtain ⟨am, ham⟩ : ∃ am, s.top 1 = am := ⟨_, rfl⟩
 rw [hpt] at HT2 b0 ⊢
 rw [ham] at HT2 b1 ⊢
 clear hpt ham h hn h64 hov
 by_cases hp : pt < 1 ∨ 3 < pt
 ·rw [if_pos hp]
  have hp2 : 1 ≤ pt → 3 < pt := by omega
  go_enter Tryz.func53, Tryz.ntmps53
  go_wp2_with fail
  refine HT2.out.mono ?_
  rintro e w1 ⟨rfl, G1⟩
  have HS := hide (HST.out w1 6 G1.out.1)
  clear HT2
  have HFIN : Hid (∀ w', Gm c mb ((s.pop 2).stop 6) w1 w' → Gm c mb ((s.pop 2).stop 6) w w' ∧ w'.cell? ⟨mb, 411, none⟩ = some (.bool true) ∧ mb < w'.heap.size) := fun w' g => ⟨G1.out.trans g, (HPM.out w' _ g.1).2.2.2.2.1, g.1.lt⟩
  clear e1 e2 e3
  by_cases hp1 : pt < 1
  ·clear hp hp2
   go_wp2_with fail
   refine HS.out.mono ?_
   rintro e w2 ⟨rfl, G2⟩
   obtain ⟨q1, q2, q3⟩ := HFIN.out w2 G2.out
   have HQ := hide q1
   clear q1 HS G1 HFIN HPM
   go_wp2
   go_ret
   exact ⟨rfl, HQ⟩
  ·have hp3 : 3 < pt := by omega
   clear hp hp2
   go_wp2_with fail
   refine HS.out.mono ?_
   rintro e w2 ⟨rfl, G2⟩
   obtain ⟨q1, q2, q3⟩ := HFIN.out w2 G2.out
   have HQ := hide q1
   clear q1 HS G1 HFIN HPM
   go_wp2
   go_ret
   exact ⟨rfl, HQ⟩
 ·rw [if_neg hp]
  obtain ⟨m, hm⟩ : ∃ m : Nat, pt - 1 = m := ⟨(pt - 1).toNat, by omega⟩
  have hm3 : m < 3 := by omega
  have hpa : ¬ pt < 1 := by omega
  have hpb : ¬ 3 < pt := by omega
  have hmt : (pt - 1).toNat = m := by omega
  rw [hmt]
  have e5 : IntKind.u64.wrap (pt - 1) = (m : Nat) := by rw [IntKind.wrap_u64]; omega
  have HPO : Hid (∀ w1, Gm c mb (s.pop 2) w w1 → w1.cell? ⟨mb, 408 + m, none⟩ = some (.int .u64 (s.paid m)) ∧ w1.frozen? ⟨mb, 408 + m, none⟩ = false) := fun w1 g1 => by
   refine ⟨?_, g1.1.free _⟩
   rw [g1.1.cell (i := 408 + m) (by omega)]
   unfold fcell
   rw [if_neg (by omega), if_neg (by omega), if_neg (by omega), if_neg (by omega), if_neg (by omega), if_pos (by omega), show 408 + m - 408 = m by omega]
   rfl
  have hpm : 0 ≤ s.paid m ∧ s.paid m ≤ s.paid 0 + s.paid 1 + s.paid 2 := by
   match m, hm3 with
   | 0, _ => exact ⟨p0, by omega⟩
   | 1, _ => exact ⟨p1, by omega⟩
   | 2, _ => exact ⟨p2, by omega⟩
  obtain ⟨h0, hh0⟩ : ∃ h0, c.hd - s.paid 0 = h0 := ⟨_, rfl⟩
  obtain ⟨h1, hh1⟩ : ∃ h1, h0 - s.paid 1 = h1 := ⟨_, rfl⟩
  obtain ⟨h2, hh2⟩ : ∃ h2, h1 - s.paid 2 = h2 := ⟨_, rfl⟩
  have i1 := e1.trans hh0
  rw [hh0] at e2 e3
  have i2 := e2.trans hh1
  rw [hh1] at e3
  have i3 := e3.trans hh2
  rw [hh0, hh1, hh2]
  clear e1 e2 e3
  clear hp hm hmt
  by_cases hq : h2 < am
  ·rw [if_pos hq]
   have hqd : decide (h2 < am) = true := by simp [hq]
   go_enter Tryz.func53, Tryz.ntmps53
   go_wp2_with fail
   refine HT2.out.mono ?_
   rintro e w1 ⟨rfl, G1⟩
   have HFIN : Hid (∀ q w', Gm c mb ((s.pop 2).stop 5) (w1.drewN q) w' → Gm c mb ((s.pop 2).stop 5) w w' ∧ w'.cell? ⟨mb, 411, none⟩ = some (.bool true) ∧ mb < w'.heap.size) := fun q w' g => ⟨Gm.trans (s1 := s.pop 2) ⟨G1.out.1.below (Go.below_drewN (Below.refl _ _) q), grown_tr G1.out.2 (grown_below (Go.below_drewN (Below.refl _ _) q))⟩ g, (HPM.out w' _ g.1).2.2.2.2.1, g.1.lt⟩
   have HS : Hid (∀ q, Calls Tryz.prog 25 #[.pointer (some ⟨mb, 0, none⟩), .int .i64 5] (w1.drewN q) fun e w' => e = .returned (.tuple #[]) ∧ Hid (Gm c mb ((s.pop 2).stop 5) (w1.drewN q) w')) := fun q => HST.out _ 5 (G1.out.1.below (Go.below_drewN (Below.refl _ _) q))
   obtain ⟨y1, z2, z3, z4, y5, yl⟩ := HPM.out w1 _ G1.out.1
   have y2 : w1.cell? ⟨mb, 408, none⟩ = some (.int .u64 (s.paid 0)) := z2
   clear z2
   have y3 : w1.cell? ⟨mb, 408 + 1, none⟩ = some (.int .u64 (s.paid 1)) := z3
   clear z3
   have y4 : w1.cell? ⟨mb, 408 + 2, none⟩ = some (.int .u64 (s.paid 2)) := z4
   clear z4
   clear HT2 y5 HPO G1 HST hpm e5 p0 p1 p2 ps hh hh0 hh1 hh2
   generalize s.paid 0 = d0 at *
   generalize s.paid 1 = d1 at *
   generalize s.paid 2 = d2 at *
   go_upto_region 5 with fail
   go_quiet (fail)
   go_wp2_with fail
   refine (HS.out _).mono ?_
   rintro e w2 ⟨rfl, G2⟩
   obtain ⟨q1, q2, q3⟩ := HFIN.out _ w2 G2.out
   have HQ := hide q1
   clear q1 HS HFIN HPM y1 y2 y3 y4 yl
   go_wp2
   go_ret
   exact ⟨rfl, HQ⟩
  ·rw [if_neg hq]
   obtain ⟨x, hx⟩ : ∃ x, s.paid m = x := ⟨_, rfl⟩
   obtain ⟨y, hy⟩ : ∃ y, x + am = y := ⟨_, rfl⟩
   have e6 : IntKind.u64.wrap (x + am) = y := by rw [hy, IntKind.wrap_u64]; omega
   rw [hx] at HPO
   rw [hx, hy]
   have HFIN : Hid (∀ wz, Gm c mb (s.pop 2) w wz → Gm c mb { s.pop 2 with paid := updI s.paid m y } w (wz.setCell ⟨mb, 408 + m, none⟩ (.int .u64 y)) ∧ (wz.setCell ⟨mb, 408 + m, none⟩ (.int .u64 y)).cell? ⟨mb, 411, none⟩ = some (.bool false) ∧ mb < (wz.setCell ⟨mb, 408 + m, none⟩ (.int .u64 y)).heap.size) := fun wz g => by
    have q := g.1.set (fc_paid (s := s.pop 2) hm3 y)
    refine ⟨⟨q, grown_tr g.2 (grown_setT _ _ _ _)⟩, ?_, q.lt⟩
    rw [← HOV.out]
    exact q.cell (i := 411) (by decide)
   have hqd : decide (h2 < am) = false := by simp [hq]
   go_enter Tryz.func53, Tryz.ntmps53
   go_wp2_with fail
   refine HT2.out.mono ?_
   rintro e w1 ⟨rfl, G1⟩
   obtain ⟨y1, z2, z3, z4, y5, yl⟩ := HPM.out w1 _ G1.out.1
   have y2 : w1.cell? ⟨mb, 408, none⟩ = some (.int .u64 (s.paid 0)) := z2
   clear z2
   have y3 : w1.cell? ⟨mb, 408 + 1, none⟩ = some (.int .u64 (s.paid 1)) := z3
   clear z3
   have y4 : w1.cell? ⟨mb, 408 + 2, none⟩ = some (.int .u64 (s.paid 2)) := z4
   clear z4
   obtain ⟨cx, cf⟩ := HPO.out w1 G1.out
   have ml := yl
   have HGZ : Hid (∀ q wz, (w1.drewN q).drew = wz → Gm c mb (s.pop 2) w wz) := fun q wz e => by
    rw [← e]
    have hb : Below w1.heap.size w1 (w1.drewN q).drew := (Go.below_drewN (Below.refl _ _) q).drew
    exact ⟨G1.out.1.below hb, grown_tr G1.out.2 (grown_below hb)⟩
   clear HT2 y5 HPO G1 HST hpm p0 p1 p2 ps hh hh0 hh1 hh2 hx hy
   generalize hd0 : s.paid 0 = d0 at *
   generalize hd1 : s.paid 1 = d1 at *
   generalize hd2 : s.paid 2 = d2 at *
   clear hd0 hd1 hd2
   go_upto_region 5 with fail
   go_quiet (fail)
   go_upto_region 2 with fail
   obtain ⟨wz, hwz⟩ : ∃ wz, (w1.drewN nq).drew = wz := ⟨_, rfl⟩
   have HS9 : Hid ((fun (w : World) => w.cell? ⟨mb, 408 + m, none⟩ = some (.int .u64 x) ∧ mb < w.heap.size ∧ w.frozen? ⟨mb, 408 + m, none⟩ = false) wz) := by rw [← hwz]; exact ⟨cx, ml, cf⟩
   refine wp_region_L 12 (fun (w : World) => w.cell? ⟨mb, 408 + m, none⟩ = some (.int .u64 x) ∧ mb < w.heap.size ∧ w.frozen? ⟨mb, 408 + m, none⟩ = false) (fun _ => True) (by kernel_rfl) (by rw [hwz]; exact HS9.out) trivial (fun hS0 => ?_)
   rw [hwz] at hS0 ⊢
   refine wpAnyL_take (i := 0) (oi := ⟨some 10, .move (.tmp 0), 43, "operate.go:95", #[], none⟩) (v := .pointer (some ⟨mb, 0, none⟩)) rfl (by decide) (by kernel_rfl) (by kernel_rfl) (by kernel_rfl) (fun _ _ _ h => h) (Or.inl ⟨by rfl, fun w2 hSw => ?_⟩) hS0 (fun hS1 => ?_)
   ·go_simp
   simp only [Act.put, lsA, lsB, lsC]
   clear hS0
   refine wpAnyL_take (i := 1) (oi := ⟨some 11, .move (.tmp 4), 28, "operate.go:95", #[], none⟩) (v := .int .u64 pt) rfl (by decide) (by kernel_rfl) (by kernel_rfl) (by kernel_rfl) (fun _ _ _ h => h) (Or.inl ⟨by rfl, fun w2 hSw => ?_⟩) hS1 (fun hS2 => ?_)
   ·go_simp
   simp only [Act.put, lsA, lsB, lsC]
   clear hS1
   refine wpAnyL_take (i := 2) (oi := ⟨some 12, .binOp .sub 28 (.tmp 11) (.const (.int .u64 1)) 28, 28, "operate.go:95", #[⟨1, .data⟩], none⟩) (v := .int .u64 (m : Nat)) rfl (by decide) (by kernel_rfl) (by kernel_rfl) (by kernel_rfl) (fun _ _ _ h => h) (Or.inl ⟨by rfl, fun w2 hSw => ?_⟩) hS2 (fun hS3 => ?_)
   ·go_simp
   simp only [Act.put, lsA, lsB, lsC]
   clear hS2
   refine wpAnyL_take (i := 3) (oi := ⟨some 13, .nilCheck (.tmp 10), 0, "operate.go:95", #[⟨0, .data⟩], none⟩) (v := .pointer (some ⟨mb, 0, none⟩)) rfl (by decide) (by kernel_rfl) (by kernel_rfl) (by kernel_rfl) (fun _ _ _ h => h) (Or.inl ⟨by rfl, fun w2 hSw => ?_⟩) hS3 (fun hS4 => ?_)
   ·go_simp
   simp only [Act.put, lsA, lsB, lsC]
   clear hS3
   refine wpAnyL_take (i := 4) (oi := ⟨some 14, .fieldAddr 80 (.tmp 13) 11, 0, "operate.go:95", #[⟨3, .data⟩], none⟩) (v := .pointer (some ⟨mb, 408, none⟩)) rfl (by decide) (by kernel_rfl) (by kernel_rfl) (by kernel_rfl) (fun _ _ _ h => h) (Or.inl ⟨by rfl, fun w2 hSw => ?_⟩) hS4 (fun hS5 => ?_)
   ·go_simp
   simp only [Act.put, lsA, lsB, lsC]
   clear hS4
   refine wpAnyL_take (i := 5) (oi := ⟨some 15, .indexAddr 33 (.tmp 14) (.tmp 12), 0, "operate.go:95", #[⟨4, .data⟩, ⟨2, .data⟩], none⟩) (v := .pointer (some ⟨mb, 408 + m, none⟩)) rfl (by decide) (by kernel_rfl) (by kernel_rfl) (by kernel_rfl) (fun _ _ _ h => h) (Or.inl ⟨by rfl, fun w2 hSw => ?_⟩) hS5 (fun hS6 => ?_)
   ·go_simp
    intro hx
    omega
   simp only [Act.put, lsA, lsB, lsC]
   clear hS5
   refine wpAnyL_take1 (i := 6) (oi := ⟨some 16, .load 28 (.tmp 15), 28, "operate.go:95", #[⟨5, .data⟩], none⟩) (v := .int .u64 x) rfl (by decide) (by kernel_rfl) (by kernel_rfl) (by kernel_rfl) (fun _ _ _ h => h) (Or.inl ⟨by rfl, fun w2 hSw => ?_⟩) hS6 (by kernel_rfl) rfl (by kernel_rfl) (fun hS7 => ?_)
   ·obtain ⟨k1, kl, k2⟩ := hSw
    go_simp
   simp only [Act.put, lsA, lsB, lsC]
   clear hS6
   refine wpAnyL_take (i := 7) (oi := ⟨some 17, .move (.tmp 3), 28, "operate.go:95", #[], none⟩) (v := .int .u64 am) rfl (by decide) (by kernel_rfl) (by kernel_rfl) (by kernel_rfl) (fun _ _ _ h => h) (Or.inl ⟨by rfl, fun w2 hSw => ?_⟩) hS7 (fun hS8 => ?_)
   ·go_simp
   simp only [Act.put, lsA, lsB, lsC]
   clear hS7
   refine wpAnyL_take (i := 8) (oi := ⟨some 18, .binOp .add 28 (.tmp 16) (.tmp 17) 28, 28, "operate.go:95", #[⟨6, .data⟩, ⟨7, .data⟩], none⟩) (v := .int .u64 y) rfl (by decide) (by kernel_rfl) (by kernel_rfl) (by kernel_rfl) (fun _ _ _ h => h) (Or.inl ⟨by rfl, fun w2 hSw => ?_⟩) hS8 (fun hS9 => ?_)
   ·go_simp
   simp only [Act.put, lsA, lsB, lsC]
   clear hS8
   refine wpAnyL_take (i := 9) (oi := ⟨some 19, .nilCheck (.tmp 10), 0, "operate.go:95", #[⟨0, .data⟩], none⟩) (v := .pointer (some ⟨mb, 0, none⟩)) rfl (by decide) (by kernel_rfl) (by kernel_rfl) (by kernel_rfl) (fun _ _ _ h => h) (Or.inl ⟨by rfl, fun w2 hSw => ?_⟩) hS9 (fun hS10 => ?_)
   ·go_simp
   simp only [Act.put, lsA, lsB, lsC]
   clear hS9
   refine wpAnyL_take (i := 10) (oi := ⟨some 20, .fieldAddr 80 (.tmp 19) 11, 0, "operate.go:95", #[⟨9, .data⟩], none⟩) (v := .pointer (some ⟨mb, 408, none⟩)) rfl (by decide) (by kernel_rfl) (by kernel_rfl) (by kernel_rfl) (fun _ _ _ h => h) (Or.inl ⟨by rfl, fun w2 hSw => ?_⟩) hS10 (fun hS11 => ?_)
   ·go_simp
   simp only [Act.put, lsA, lsB, lsC]
   clear hS10
   refine wpAnyL_take (i := 11) (oi := ⟨some 21, .indexAddr 33 (.tmp 20) (.tmp 12), 0, "operate.go:95", #[⟨10, .data⟩, ⟨2, .data⟩, ⟨0, .phase⟩, ⟨1, .phase⟩, ⟨2, .phase⟩, ⟨3, .phase⟩, ⟨4, .phase⟩, ⟨5, .phase⟩, ⟨6, .phase⟩, ⟨7, .phase⟩, ⟨8, .phase⟩], none⟩) (v := .pointer (some ⟨mb, 408 + m, none⟩)) rfl (by decide) (by kernel_rfl) (by kernel_rfl) (by kernel_rfl) (fun _ _ _ h => h) (Or.inl ⟨by rfl, fun w2 hSw => ?_⟩) hS11 (fun hS12 => ?_)
   ·go_simp
    intro hx
    omega
   simp only [Act.put, lsA, lsB, lsC]
   clear hS11
   obtain ⟨k1, kl, k2⟩ := hS12.1 rfl
   clear hS12
   refine wpAnyL_one (i := 12) (o := ⟨none, .store 28 (.tmp 21) (.tmp 18), 0, "operate.go:95", #[⟨11, .data⟩, ⟨8, .data⟩, ⟨0, .phase⟩, ⟨1, .phase⟩, ⟨2, .phase⟩, ⟨3, .phase⟩, ⟨4, .phase⟩, ⟨5, .phase⟩, ⟨6, .phase⟩, ⟨7, .phase⟩, ⟨8, .phase⟩], none⟩) (by kernel_rfl) rfl (fun K hK => ?_)
   go_simp
   go_wp2_with fail
   refine hK.out _ _ ⟨fun h => (by cases (show true = false from h)), trivial⟩ ?_
   clear hK K HS9
   refine wpAnyL_done (by kernel_rfl) ?_ _
   obtain ⟨q1, q2, q3⟩ := HFIN.out wz (HGZ.out _ wz hwz)
   have HQ := hide q1
   clear q1 HFIN HPM y1 y2 y3 y4 yl k1 kl k2 HGZ hwz cx cf ml
   go_wp2
   go_ret
   exact ⟨rfl, HQ⟩
end
end Go.Proofs.YtpdjnbpjgpdnkaaGreatDoor
namespace Go.Proofs.YtpdjnbpjgpdnkaaGreatDoor
open Go.RowKit

theorem step_op {p : Pv} {ek ev : Nat → Int} {hd : Int} {s : Ms} {o : Nat} (ho : (p.op s.pc.toNat).toNat = o) (h : 8 ≤ o ∧ o ≤ 24 ∨ o = 29) : stepF p ek ev hd s = if (opS o hd s).2 = true then (opS o hd s).1.nxt else (opS o hd s).1 := by
 unfold stepF
 simp only [ho]
 rw [if_neg (by omega), if_neg (by omega), if_neg (by omega), if_neg (by omega), if_neg (by omega), if_neg (by omega), if_neg (by omega)]
 unfold opS
 by_cases q8 : o = 8
 ·rw [if_pos q8, if_pos q8]; rfl
 rw [if_neg q8, if_neg q8]
 by_cases q16 : o ≤ 16
 ·rw [if_pos q16, if_pos q16]; rfl
 rw [if_neg q16, if_neg q16]
 by_cases q23 : o ≤ 23
 ·rw [if_pos q23, if_pos q23]
  split <;> rfl
 rw [if_neg q23, if_neg q23]
 by_cases q24 : o = 24
 ·rw [if_pos q24, if_pos q24]
  split <;> rfl
 rw [if_neg q24, if_neg q24, if_neg (by omega), if_neg (by omega), if_neg (by omega), if_neg (by omega), if_pos (by omega)]
 unfold Ms.pay
 split
 ·rfl
 ·split <;> rename_i h2
  ·rename_i h3
   have h2' : hd - s.paid 0 - s.paid 1 - s.paid 2 < s.top 1 := h2
   rw [if_pos h2']
   rfl
  ·have h2' : ¬ hd - s.paid 0 - s.paid 1 - s.paid 2 < s.top 1 := h2
   rw [if_neg h2']
   rfl
section
variable {c : Mc} {mb : Nat} {s : Ms} {w : World}
set_option maxRecDepth 10000 in
set_option maxHeartbeats 3200000 in
theorem operate8 (h : Pm c mb s w) (hn : 1 ≤ s.h) (h64 : s.h ≤ 64) (hb : s.top 0 = 0 ∨ s.top 0 = 1) : Calls Tryz.prog 36 #[.pointer (some ⟨mb, 0, none⟩), .int .i64 8] w fun e w' => e = .returned (.bool (opS 8 c.hd s).2) ∧ Hid (Gm c mb (opS 8 c.hd s).1 w w') := by
 have HT := hide (takeTruthC h hn h64)
 have HO : Hid (opS 8 c.hd s = ((s.pop 1).push 1 (bI (!decide (s.top 0 = 1))), true)) := by
  show _ = _
  unfold opS
  rw [if_pos rfl]
  rcases hb with q | q <;> rw [q] <;> rfl
 have HL : Hid (∀ w1 w2 k x, Gm c mb (s.pop 1) w w1 → Below w1.heap.size w1 w2 → Calls Tryz.prog 31 #[.pointer (some ⟨mb, 0, none⟩), .agg #[.int .i64 k, .int .u64 x]] w2 fun e w' => e = .returned (.tuple #[]) ∧ Hid (Gm c mb ((s.pop 1).push k x) w w')) := fun w1 w2 k x g1 hb => by
  refine (layC (g1.1.below hb) (by show s.h - 1 < 64; omega) k x).mono ?_
  rintro e w3 ⟨rfl, g3⟩
  exact ⟨rfl, (Gm.trans (s1 := s.pop 1) ⟨g1.1.below hb, grown_tr g1.2 (grown_below hb)⟩ g3.out)⟩
 rw [HO.out]
 clear h hn h64 hb HO
 obtain ⟨b, hb⟩ : ∃ b, decide (s.top 0 = 1) = b := ⟨_, rfl⟩
 rw [hb] at HT ⊢
 clear hb
 have HTR := hide (truthC (!b))
 obtain ⟨x, hx⟩ : ∃ x, bI (!b) = x := ⟨_, rfl⟩
 rw [hx] at HTR ⊢
 clear hx
 go_enter Tryz.func36, Tryz.ntmps36
 go_wp2_with fail
 refine HT.out.mono ?_
 rintro e w1 ⟨rfl, G1⟩
 clear HT
 go_wp2_with fail
 refine (HTR.out w1).mono ?_
 rintro e w2 ⟨rfl, G2⟩
 clear HTR
 go_wp2_with fail
 refine (HL.out w1 w2 1 x G1.out G2.out).mono ?_
 rintro e w3 ⟨rfl, G3⟩
 clear HL
 go_wp2
 go_ret
 exact ⟨rfl, G3⟩
set_option maxRecDepth 10000 in
set_option maxHeartbeats 3200000 in
theorem operateCmp {o : Nat} (h9 : 9 ≤ o) (h16 : o ≤ 16) (h : Pm c mb s w) (hn : 2 ≤ s.h) (h64 : s.h ≤ 64) : Calls Tryz.prog 36 #[.pointer (some ⟨mb, 0, none⟩), .int .i64 (o : Nat)] w fun e w' => e = .returned (.bool (opS o c.hd s).2) ∧ Hid (Gm c mb (opS o c.hd s).1 w w') := by
 have HT := hide (takeTwoC h hn h64)
 have HO : Hid (opS o c.hd s = ((s.pop 2).push 1 (bI (cmpB o (s.top 1) (s.top 0))), true)) := by
  show _ = _
  unfold opS
  rw [if_neg (by omega), if_pos h16]
 have HL : Hid (∀ w1 w2 k x, Gm c mb (s.pop 2) w w1 → Below w1.heap.size w1 w2 → Calls Tryz.prog 31 #[.pointer (some ⟨mb, 0, none⟩), .agg #[.int .i64 k, .int .u64 x]] w2 fun e w' => e = .returned (.tuple #[]) ∧ Hid (Gm c mb ((s.pop 2).push k x) w w')) := fun w1 w2 k x g1 hb => by
  refine (layC (g1.1.below hb) (by show s.h - 2 < 64; omega) k x).mono ?_
  rintro e w3 ⟨rfl, g3⟩
  exact ⟨rfl, (Gm.trans (s1 := s.pop 2) ⟨g1.1.below hb, grown_tr g1.2 (grown_below hb)⟩ g3.out)⟩
 have HH := hide (holdsC o h9 h16 (s.top 1) (s.top 0))
 rw [HO.out]
 clear h hn h64 HO
 obtain ⟨b, hb⟩ : ∃ b, cmpB o (s.top 1) (s.top 0) = b := ⟨_, rfl⟩
 rw [hb] at HH ⊢
 clear hb
 generalize s.top 0 = t0 at *
 generalize s.top 1 = t1 at *
 have HTR := hide (truthC b)
 obtain ⟨x, hx⟩ : ∃ x, bI b = x := ⟨_, rfl⟩
 rw [hx] at HTR ⊢
 clear hx
 have hc : o = 9 ∨ o = 10 ∨ o = 11 ∨ o = 12 ∨ o = 13 ∨ o = 14 ∨ o = 15 ∨ o = 16 := by omega
 rcases hc with rfl | rfl | rfl | rfl | rfl | rfl | rfl | rfl
 all_goals
  clear h9 h16
  go_enter Tryz.func36, Tryz.ntmps36
  go_wp2_with fail
  refine HT.out.mono ?_
  rintro e w1 ⟨rfl, G1⟩
  clear HT
  go_wp2_with fail
  refine (HH.out w1).mono ?_
  rintro e w2 ⟨rfl, hw2⟩
  have hw2 := hw2.symm
  subst hw2
  clear HH
  go_wp2_with fail
  refine (HTR.out w1).mono ?_
  rintro e w2 ⟨rfl, G2⟩
  clear HTR
  go_wp2_with fail
  refine (HL.out w1 w2 1 x G1.out G2.out).mono ?_
  rintro e w3 ⟨rfl, G3⟩
  clear HL
  go_wp2
  go_ret
  exact ⟨rfl, G3⟩
set_option maxRecDepth 10000 in
set_option maxHeartbeats 3200000 in
theorem operateReck {o : Nat} (h17 : 17 ≤ o) (h23 : o ≤ 23) (h : Pm c mb s w) (hn : 2 ≤ s.h) (h64 : s.h ≤ 64) (b0 : 0 ≤ s.top 0 ∧ s.top 0 < two64) (b1 : 0 ≤ s.top 1 ∧ s.top 1 < two64) : Calls Tryz.prog 36 #[.pointer (some ⟨mb, 0, none⟩), .int .i64 (o : Nat)] w fun e w' => e = .returned (.bool (opS o c.hd s).2) ∧ Hid (Gm c mb (opS o c.hd s).1 w w') := by
 have n8 : ¬ (o : Int) = 8 := by omega
 have n9 : ¬ (o : Int) = 9 := by omega
 have n10 : ¬ (o : Int) = 10 := by omega
 have n11 : ¬ (o : Int) = 11 := by omega
 have n12 : ¬ (o : Int) = 12 := by omega
 have n13 : ¬ (o : Int) = 13 := by omega
 have n14 : ¬ (o : Int) = 14 := by omega
 have n15 : ¬ (o : Int) = 15 := by omega
 have n16 : ¬ (o : Int) = 16 := by omega
 have n29 : ¬ (o : Int) = 29 := by omega
 have HR := hide (reckonC h h17 h23 hn h64 b0 b1)
 have HO : Hid ((decide ((reckI o (s.top 1) (s.top 0) 0).2 = 0) = (opS o c.hd s).2) ∧ (if (reckI o (s.top 1) (s.top 0) 0).2 = 0 then (s.pop 2).push 0 (reckI o (s.top 1) (s.top 0) 0).1 else (s.pop 2).stop (reckI o (s.top 1) (s.top 0) 0).2) = (opS o c.hd s).1) := by
  unfold opS
  rw [if_neg (by omega), if_neg (by omega), if_pos h23]
  by_cases q : (reckI o (s.top 1) (s.top 0) 0).2 = 0
  ·rw [if_pos q, if_pos q]
   exact ⟨by simp [q], rfl⟩
  ·rw [if_neg q, if_neg q]
   exact ⟨by simp [q], rfl⟩
 rw [HO.out.1, HO.out.2] at HR
 clear HO
 obtain ⟨b, hb⟩ : ∃ b, (opS o c.hd s).2 = b := ⟨_, rfl⟩
 rw [hb] at HR ⊢
 generalize (opS o c.hd s).1 = s1 at *
 clear hb h hn h64
 go_enter Tryz.func36, Tryz.ntmps36
 go_wp2_with fail
 refine HR.out.mono ?_
 rintro e w1 ⟨rfl, G1⟩
 clear HR
 go_wp2
 go_ret
 exact ⟨rfl, G1⟩
set_option maxRecDepth 10000 in
set_option maxHeartbeats 3200000 in
theorem operateShare (h : Pm c mb s w) (hn : 3 ≤ s.h) (h64 : s.h ≤ 64) (b0 : 0 ≤ s.top 0 ∧ s.top 0 < two64) (b1 : 0 ≤ s.top 1 ∧ s.top 1 < two64) (b2 : 0 ≤ s.top 2 ∧ s.top 2 < two64) : Calls Tryz.prog 36 #[.pointer (some ⟨mb, 0, none⟩), .int .i64 (24 : Int)] w fun e w' => e = .returned (.bool (opS 24 c.hd s).2) ∧ Hid (Gm c mb (opS 24 c.hd s).1 w w') := by
 have HR := hide (reckon3C h hn h64 b0 b1 b2)
 have HO : Hid ((decide ((reckI 24 (s.top 2) (s.top 1) (s.top 0)).2 = 0) = (opS 24 c.hd s).2) ∧ (if (reckI 24 (s.top 2) (s.top 1) (s.top 0)).2 = 0 then (s.pop 3).push 0 (reckI 24 (s.top 2) (s.top 1) (s.top 0)).1 else (s.pop 3).stop (reckI 24 (s.top 2) (s.top 1) (s.top 0)).2) = (opS 24 c.hd s).1) := by
  unfold opS
  rw [if_neg (by decide), if_neg (by decide), if_neg (by decide), if_pos rfl]
  by_cases q : (reckI 24 (s.top 2) (s.top 1) (s.top 0)).2 = 0
  ·rw [if_pos q, if_pos q]
   exact ⟨by simp [q], rfl⟩
  ·rw [if_neg q, if_neg q]
   exact ⟨by simp [q], rfl⟩
 rw [HO.out.1, HO.out.2] at HR
 clear HO
 obtain ⟨b, hb⟩ : ∃ b, (opS 24 c.hd s).2 = b := ⟨_, rfl⟩
 rw [hb] at HR ⊢
 generalize (opS 24 c.hd s).1 = s1 at *
 clear hb h hn h64
 go_enter Tryz.func36, Tryz.ntmps36
 go_wp2_with fail
 refine HR.out.mono ?_
 rintro e w1 ⟨rfl, G1⟩
 clear HR
 go_wp2
 go_ret
 exact ⟨rfl, G1⟩
set_option maxRecDepth 10000 in
set_option maxHeartbeats 3200000 in
theorem operatePay (h : Pm c mb s w) (hn : 2 ≤ s.h) (h64 : s.h ≤ 64) (hov : s.ov = false) (b0 : 0 ≤ s.top 0 ∧ s.top 0 < two64) (b1 : 0 ≤ s.top 1 ∧ s.top 1 < two64) (p0 : 0 ≤ s.paid 0) (p1 : 0 ≤ s.paid 1) (p2 : 0 ≤ s.paid 2) (ps : s.paid 0 + s.paid 1 + s.paid 2 ≤ c.hd) (hh : c.hd < two64) : Calls Tryz.prog 36 #[.pointer (some ⟨mb, 0, none⟩), .int .i64 29] w fun e w' => e = .returned (.bool (opS 29 c.hd s).2) ∧ Hid (Gm c mb (opS 29 c.hd s).1 w w') := by
 have HR := hide (payC h hn h64 hov b0 b1 p0 p1 p2 ps hh)
 obtain ⟨b, hb⟩ : ∃ b, (opS 29 c.hd s).2 = b := ⟨_, rfl⟩
 rw [hb] at HR ⊢
 generalize (opS 29 c.hd s).1 = s1 at *
 clear hb h hn h64 hov b0 b1 p0 p1 p2 ps hh
 go_enter Tryz.func36, Tryz.ntmps36
 go_wp2_with fail
 refine HR.out.mono ?_
 rintro e w1 ⟨rfl, G1⟩
 clear HR
 go_wp2
 go_ret
 exact ⟨rfl, G1⟩
end
theorem aft_len {p : Pv} {i : Nat} {l : List Bool} (h : fits p i l) : (aft p i l).length ≤ 64 := by
 obtain ⟨h1, h2, h3⟩ := h
 unfold aft
 rw [List.length_append, List.length_take]
 omega
theorem edg_len {p : Pv} {i x : Nat} {l l' : List Bool} (h : fits p i l) (hl : l.length ≤ 64) (hm : (x, l') ∈ edgs p i l) : l'.length ≤ 64 := by
 have ha := aft_len h
 unfold edgs at hm
 split at hm
 ·cases hm
 split at hm
 ·simp only [List.mem_singleton, Prod.mk.injEq] at hm
  rw [hm.2]; exact ha
 split at hm
 ·simp only [List.mem_cons, List.not_mem_nil, or_false, Prod.mk.injEq] at hm
  rcases hm with hm | hm
  ·rw [hm.2]; exact hl
  ·rw [hm.2]; exact ha
 split at hm
 ·simp only [List.mem_cons, List.not_mem_nil, or_false, Prod.mk.injEq] at hm
  rcases hm with hm | hm <;> (rw [hm.2]; exact ha)
 ·simp only [List.mem_singleton, Prod.mk.injEq] at hm
  rw [hm.2]; exact ha
theorem flow_len {p : Pv} {k : Kn} (hf : Flow p k) : ∀ (i : Nat) (l : List Bool), i < p.n → k i = some l → l.length ≤ 64 := by
 intro i
 induction i using Nat.strongRecOn with
 | _ i ih =>
  intro l hi hk
  rcases hf.rc i l hi hk with ⟨e, h6, h0, he⟩ | ⟨j, l0, l', hj, hk0, hm⟩
  ·have := hf.en e h6 h0
   rw [he, hk] at this
   cases this
   exact Nat.zero_le _
  ·have h1 := hf.fl j l0 (by omega) hk0
   have h2 := (h1.2 _ hm).2.2
   simp only at h2
   rw [hk] at h2
   cases h2
   exact edg_len h1.1 (ih j hj l0 (by omega) hk0) hm
/-- What an instruction asks of the stack. -/
theorem Tm.ops {p : Pv} {k : Kn} {hd : Int} {s : Ms} (hf : Flow p k) (h : Tm p k hd s) (ho : s.ov = false) : ∃ i l, s.pc = ((i : Nat) : Int) ∧ i < p.n ∧ s.h ≤ 64 ∧ (tkB p i).length ≤ s.h ∧ (s.h - (tkB p i).length + (lyB p i).length ≤ 64) ∧ Stk s l ∧ fits p i l := by
 obtain ⟨i, l, hi, hin, hk, hs⟩ := h.run ho
 have hft := (hf.fl i l hin hk).1
 have hh := hs.h
 refine ⟨i, l, hi, hin, ?_, by rw [hh]; exact hft.1, by rw [hh]; exact hft.2.2, hs, hft⟩
 rw [hh]
 exact flow_len hf i l hin hk
end Go.Proofs.YtpdjnbpjgpdnkaaGreatDoor
namespace Go.Proofs.YtpdjnbpjgpdnkaaGreatDoor
open Go.RowKit

/-- The rows that a machine reads. -/
structure Mr (c : Mc) (p : Pv) (mb cb co cc ib io ic : Nat) (w : World) : Prop where
 C : 0 < p.nc → c.vC = .slice (some ⟨cb, co, none⟩) p.nc cc ∧ cb ≠ mb ∧ cb < w.heap.size
 I : 0 < p.n → c.vI = .slice (some ⟨ib, io, none⟩) p.n ic ∧ ib ≠ mb ∧ ib < w.heap.size
 vc : ∀ j, j < p.nc → w.cell? ⟨cb, co + j, none⟩ = some (.int .u64 (p.C j))
 vo : ∀ j, j < p.n → w.cell? ⟨ib, io + j * 2, none⟩ = some (.int .i64 (p.op j))
 va : ∀ j, j < p.n → w.cell? ⟨ib, io + j * 2 + 1, none⟩ = some (.int .i64 (p.arg j))
 kd : ∀ j, j < p.ns → c.kd j = p.S j
theorem grown_cell {w w' : World} {r : Option Nat} (h : w.grownBy w' r) {b i : Nat} (hb : b < w.heap.size) (hr : some b ≠ r) : w'.cell? ⟨b, i, none⟩ = w.cell? ⟨b, i, none⟩ := by
 have := h.block b hb hr
 unfold World.cell?
 simp only
 rw [this]
theorem Mr.grown {c : Mc} {p : Pv} {mb cb co cc ib io ic : Nat} {w w' : World} (h : Mr c p mb cb co cc ib io ic w) (hg : w.grownBy w' (some mb)) : Mr c p mb cb co cc ib io ic w' :=
 ⟨fun e => ⟨(h.C e).1, (h.C e).2.1, Nat.lt_of_lt_of_le (h.C e).2.2 hg.size⟩, fun e => ⟨(h.I e).1, (h.I e).2.1, Nat.lt_of_lt_of_le (h.I e).2.2 hg.size⟩, fun j hj => (grown_cell hg (h.C (by omega)).2.2 (by simpa using (h.C (by omega)).2.1)).trans (h.vc j hj), fun j hj => (grown_cell hg (h.I (by omega)).2.2 (by simpa using (h.I (by omega)).2.1)).trans (h.vo j hj), fun j hj => (grown_cell hg (h.I (by omega)).2.2 (by simpa using (h.I (by omega)).2.1)).trans (h.va j hj), h.kd⟩
section
variable {p : Pv} {k : Kn} {ek ev : Nat → Int} {hd : Int} {s : Ms}
theorem st1 (h : (p.op s.pc.toNat).toNat = 1) : stepF p ek ev hd s = if s.left = 0 then s.stop 2 else { s with left := s.left - 1 }.nxt := by
 unfold stepF; simp only [h]; rfl
theorem st2 (h : (p.op s.pc.toNat).toNat = 2) : stepF p ek ev hd s = (s.push 0 (p.C (p.arg s.pc.toNat).toNat)).nxt := by
 unfold stepF; simp only [h]; rfl
theorem st3 (h : (p.op s.pc.toNat).toNat = 3) : stepF p ek ev hd s = (s.push 1 1).nxt := by
 unfold stepF; simp only [h]; rfl
theorem st4 (h : (p.op s.pc.toNat).toNat = 4) : stepF p ek ev hd s = (s.push 1 0).nxt := by
 unfold stepF; simp only [h]; rfl
theorem st5 (h : (p.op s.pc.toNat).toNat = 5) : stepF p ek ev hd s = (s.push (ek (p.arg s.pc.toNat).toNat) (ev (p.arg s.pc.toNat).toNat)).nxt := by
 unfold stepF; simp only [h]; rfl
theorem st6 (h : (p.op s.pc.toNat).toNat = 6) : stepF p ek ev hd s = (s.push (p.S (p.arg s.pc.toNat).toNat) (s.slt (p.arg s.pc.toNat).toNat)).nxt := by
 unfold stepF; simp only [h]; rfl
theorem st7 (h : (p.op s.pc.toNat).toNat = 7) : stepF p ek ev hd s = { s.pop 1 with slt := updI s.slt (p.arg s.pc.toNat).toNat (s.top 0) }.nxt := by
 unfold stepF; simp only [h]; rfl
theorem st25 (h : (p.op s.pc.toNat).toNat = 25) : stepF p ek ev hd s = s.go (p.arg s.pc.toNat) := by
 unfold stepF; simp only [h]; rfl
theorem st26 (h : (p.op s.pc.toNat).toNat = 26) : stepF p ek ev hd s = if s.top 0 = 1 then (s.pop 1).nxt else (s.pop 1).go (p.arg s.pc.toNat) := by
 unfold stepF; simp only [h]; rfl
theorem st27 (h : (p.op s.pc.toNat).toNat = 27) : stepF p ek ev hd s = if s.top 0 = 0 then s.go (p.arg s.pc.toNat) else (s.pop 1).nxt := by
 unfold stepF; simp only [h]; rfl
theorem st28 (h : (p.op s.pc.toNat).toNat = 28) : stepF p ek ev hd s = if s.top 0 = 1 then s.go (p.arg s.pc.toNat) else (s.pop 1).nxt := by
 unfold stepF; simp only [h]; rfl
theorem st30 (h : (p.op s.pc.toNat).toNat = 30) : stepF p ek ev hd s = if s.top 0 = 1 then (s.pop 1).nxt else { s.pop 1 with fail := p.arg s.pc.toNat }.stop 1 := by
 unfold stepF; simp only [h]; rfl
theorem st31 (h : (p.op s.pc.toNat).toNat = 31) : stepF p ek ev hd s = { s with fail := p.arg s.pc.toNat }.stop 1 := by
 unfold stepF; simp only [h]; rfl
theorem st32 (h : (p.op s.pc.toNat).toNat = 32) : stepF p ek ev hd s = s.stop 0 := by
 unfold stepF; simp only [h]; rfl
/-- A machine that has some steps yet to take, and where they lead. -/
structure Iv (c : Mc) (mb : Nat) (p : Pv) (k : Kn) (w : World) (sE : Ms) (r : Nat) (s : Ms) (wr : World) : Prop where
 g : Gm c mb s w wr
 t : Tm p k c.hd s
 e : runN p c.ek c.ev c.hd r s = sE
theorem Iv.next {c : Mc} {mb : Nat} {w wr w' : World} {sE : Ms} {r : Nat} (he : Me p k c.ek c.ev c.hd) (h : Iv c mb p k w sE (r + 1) s wr) (ho : s.ov = false) (g : Gm c mb (stepF p c.ek c.ev c.hd s) w w') : Iv c mb p k w sE r (stepF p c.ek c.ev c.hd s) w' := by
 refine ⟨g, (step_tm he h.t ho).1, ?_⟩
 have := h.e
 have e : runN p c.ek c.ev c.hd (r + 1) s = if s.ov = true then s else runN p c.ek c.ev c.hd r (stepF p c.ek c.ev c.hd s) := rfl
 rw [e, ho] at this
 exact this
theorem Iv.fin {c : Mc} {mb : Nat} {w wr : World} {sE : Ms} {r : Nat} (h : Iv c mb p k w sE r s wr) (ho : s.ov = true ∨ r = 0) : Gm c mb sE w wr := by
 have := h.e
 rcases ho with q | q
 ·rw [runN_over q] at this
  rw [← this]
  exact h.g
 ·subst q
  have e : runN p c.ek c.ev c.hd 0 s = s := rfl
  rw [e] at this
  rw [← this]
  exact h.g
/-- Every operation that is not told apart. -/
theorem operateC {c : Mc} {mb : Nat} {w : World} {i o : Nat} {l : List Bool} (h8 : 8 ≤ o ∧ o ≤ 24 ∨ o = 29) (h : Pm c mb s w) (ht : Tm p k c.hd s) (hov : s.ov = false) (hh : c.hd < two64) (hop : (p.op i).toNat = o) (h64 : s.h ≤ 64) (hs : Stk s l) (hf : fits p i l) : Calls Tryz.prog 36 #[.pointer (some ⟨mb, 0, none⟩), .int .i64 (o : Nat)] w fun e w' => e = .returned (.bool (opS o c.hd s).2) ∧ Hid (Gm c mb (opS o c.hd s).1 w w') := by
 have hsh := hs.h
 have htk := tk_of hop
 have hlen := hf.1
 have T : ∀ {j : Nat} {b : Bool}, (tkB p i)[(tkB p i).length - 1 - j]? = some b → j < (tkB p i).length → Okv (bI b) (s.top j) := fun a b => hs.top hf a b
 by_cases q8 : o = 8
 ·subst q8
  have e : tkB p i = [true] := htk.trans rfl
  rw [e] at T hlen
  have t0 := (T (j := 0) (b := true) rfl (by decide)).b rfl
  exact operate8 h (by rw [hsh]; exact hlen) h64 t0
 by_cases q16 : o ≤ 16
 ·have e2 : (tkB p i).length = 2 := by
   rw [htk]
   have : o = 9 ∨ o = 10 ∨ o = 11 ∨ o = 12 ∨ o = 13 ∨ o = 14 ∨ o = 15 ∨ o = 16 := by omega
   rcases this with rfl | rfl | rfl | rfl | rfl | rfl | rfl | rfl <;> rfl
  exact operateCmp (by omega) q16 h (by omega) h64
 by_cases q23 : o ≤ 23
 ·have e : tkB p i = [false, false] := by
   rw [htk]
   have : o = 17 ∨ o = 18 ∨ o = 19 ∨ o = 20 ∨ o = 21 ∨ o = 22 ∨ o = 23 := by omega
   rcases this with rfl | rfl | rfl | rfl | rfl | rfl | rfl <;> rfl
  rw [e] at T hlen
  have t0 := T (j := 0) (b := false) rfl (by decide)
  have t1 := T (j := 1) (b := false) rfl (by decide)
  exact operateReck (by omega) q23 h (by rw [hsh]; exact hlen) h64 ⟨t0.lo, t0.hi⟩ ⟨t1.lo, t1.hi⟩
 by_cases q24 : o = 24
 ·subst q24
  have e : tkB p i = [false, false, false] := htk.trans rfl
  rw [e] at T hlen
  have t0 := T (j := 0) (b := false) rfl (by decide)
  have t1 := T (j := 1) (b := false) rfl (by decide)
  have t2 := T (j := 2) (b := false) rfl (by decide)
  exact operateShare h (by rw [hsh]; exact hlen) h64 ⟨t0.lo, t0.hi⟩ ⟨t1.lo, t1.hi⟩ ⟨t2.lo, t2.hi⟩
 ·obtain rfl : o = 29 := by omega
  have e : tkB p i = [false, false] := htk.trans rfl
  rw [e] at T hlen
  have t0 := T (j := 0) (b := false) rfl (by decide)
  have t1 := T (j := 1) (b := false) rfl (by decide)
  exact operatePay h (by rw [hsh]; exact hlen) h64 hov ⟨t0.lo, t0.hi⟩ ⟨t1.lo, t1.hi⟩ ht.p0 ht.p1 ht.p2 ht.ps hh
end
end Go.Proofs.YtpdjnbpjgpdnkaaGreatDoor
