import Derived.Test.YtggpaljilpbmhaaGreatDoorW37
namespace Go.Proofs.YtggpaljilpbmhaaGreatDoor
open Go.RowKit

theorem step_op {p : Pv} {ek ev : Nat → Int} {hd : Int} {s : Ms} {o : Nat} (ho : (p.op s.pc.toNat).toNat = o) (h : 8 ≤ o ∧ o ≤ 24 ∨ o = 29) : stepF p ek ev hd s = if (opS o hd s).2 = true then (opS o hd s).1.nxt else (opS o hd s).1 := by
 unfold stepF
 simp only [ho]
 rw [if_neg (by omega), if_neg (by omega), if_neg (by omega), if_neg (by omega), if_neg (by omega), if_neg (by omega), if_neg (by omega)]
 unfold opS
 by_cases q8 : o = 8
 ·rw [if_pos q8, if_pos q8]; rfl
 rw [if_neg q8, if_neg q8]
 by_cases q16 : o ≤ 16
 ·rw [if_pos q16, if_pos q16]; rfl
 rw [if_neg q16, if_neg q16]
 by_cases q23 : o ≤ 23
 ·rw [if_pos q23, if_pos q23]
  split <;> rfl
 rw [if_neg q23, if_neg q23]
 by_cases q24 : o = 24
 ·rw [if_pos q24, if_pos q24]
  split <;> rfl
 rw [if_neg q24, if_neg q24, if_neg (by omega), if_neg (by omega), if_neg (by omega), if_neg (by omega), if_pos (by omega)]
 unfold Ms.pay
 split
 ·rfl
 ·split <;> rename_i h2
  ·rename_i h3
   have h2' : hd - s.paid 0 - s.paid 1 - s.paid 2 < s.top 1 := h2
   rw [if_pos h2']
   rfl
  ·have h2' : ¬ hd - s.paid 0 - s.paid 1 - s.paid 2 < s.top 1 := h2
   rw [if_neg h2']
   rfl
section
variable {c : Mc} {mb : Nat} {s : Ms} {w : World}
set_option maxRecDepth 10000 in
set_option maxHeartbeats 3200000 in
theorem operate8 (h : Pm c mb s w) (hn : 1 ≤ s.h) (h64 : s.h ≤ 64) (hb : s.top 0 = 0 ∨ s.top 0 = 1) : Calls Tryz.prog 75 #[.pointer (some ⟨mb, 0, none⟩), .int .i64 8] w fun e w' => e = .returned (.bool (opS 8 c.hd s).2) ∧ Hid (Gm c mb (opS 8 c.hd s).1 w w') := by
 have HT := hide (takeTruthC h hn h64)
 have HO : Hid (opS 8 c.hd s = ((s.pop 1).push 1 (bI (!decide (s.top 0 = 1))), true)) := by
  show _ = _
  unfold opS
  rw [if_pos rfl]
  rcases hb with q | q <;> rw [q] <;> rfl
 have HL : Hid (∀ w1 w2 k x, Gm c mb (s.pop 1) w w1 → Below w1.heap.size w1 w2 → Calls Tryz.prog 70 #[.pointer (some ⟨mb, 0, none⟩), .agg #[.int .i64 k, .int .u64 x]] w2 fun e w' => e = .returned (.tuple #[]) ∧ Hid (Gm c mb ((s.pop 1).push k x) w w')) := fun w1 w2 k x g1 hb => by
  refine (layC (g1.1.below hb) (by show s.h - 1 < 64; omega) k x).mono ?_
  rintro e w3 ⟨rfl, g3⟩
  exact ⟨rfl, (Gm.trans (s1 := s.pop 1) ⟨g1.1.below hb, grown_tr g1.2 (grown_below hb)⟩ g3.out)⟩
 rw [HO.out]
 clear h hn h64 hb HO
 obtain ⟨b, hb⟩ : ∃ b, decide (s.top 0 = 1) = b := ⟨_, rfl⟩
 rw [hb] at HT ⊢
 clear hb
 have HTR := hide (truthC (!b))
 obtain ⟨x, hx⟩ : ∃ x, bI (!b) = x := ⟨_, rfl⟩
 rw [hx] at HTR ⊢
 clear hx
 go_enter Tryz.func75, Tryz.ntmps75
 go_wp2_with fail
 refine HT.out.mono ?_
 rintro e w1 ⟨rfl, G1⟩
 clear HT
 go_wp2_with fail
 refine (HTR.out w1).mono ?_
 rintro e w2 ⟨rfl, G2⟩
 clear HTR
 go_wp2_with fail
 refine (HL.out w1 w2 1 x G1.out G2.out).mono ?_
 rintro e w3 ⟨rfl, G3⟩
 clear HL
 go_wp2
 go_ret
 exact ⟨rfl, G3⟩
set_option maxRecDepth 10000 in
set_option maxHeartbeats 3200000 in
theorem operateCmp {o : Nat} (h9 : 9 ≤ o) (h16 : o ≤ 16) (h : Pm c mb s w) (hn : 2 ≤ s.h) (h64 : s.h ≤ 64) : Calls Tryz.prog 75 #[.pointer (some ⟨mb, 0, none⟩), .int .i64 (o : Nat)] w fun e w' => e = .returned (.bool (opS o c.hd s).2) ∧ Hid (Gm c mb (opS o c.hd s).1 w w') := by
 have HT := hide (takeTwoC h hn h64)
 have HO : Hid (opS o c.hd s = ((s.pop 2).push 1 (bI (cmpB o (s.top 1) (s.top 0))), true)) := by
  show _ = _
  unfold opS
  rw [if_neg (by omega), if_pos h16]
 have HL : Hid (∀ w1 w2 k x, Gm c mb (s.pop 2) w w1 → Below w1.heap.size w1 w2 → Calls Tryz.prog 70 #[.pointer (some ⟨mb, 0, none⟩), .agg #[.int .i64 k, .int .u64 x]] w2 fun e w' => e = .returned (.tuple #[]) ∧ Hid (Gm c mb ((s.pop 2).push k x) w w')) := fun w1 w2 k x g1 hb => by
  refine (layC (g1.1.below hb) (by show s.h - 2 < 64; omega) k x).mono ?_
  rintro e w3 ⟨rfl, g3⟩
  exact ⟨rfl, (Gm.trans (s1 := s.pop 2) ⟨g1.1.below hb, grown_tr g1.2 (grown_below hb)⟩ g3.out)⟩
 have HH := hide (holdsC o h9 h16 (s.top 1) (s.top 0))
 rw [HO.out]
 clear h hn h64 HO
 obtain ⟨b, hb⟩ : ∃ b, cmpB o (s.top 1) (s.top 0) = b := ⟨_, rfl⟩
 rw [hb] at HH ⊢
 clear hb
 generalize s.top 0 = t0 at *
 generalize s.top 1 = t1 at *
 have HTR := hide (truthC b)
 obtain ⟨x, hx⟩ : ∃ x, bI b = x := ⟨_, rfl⟩
 rw [hx] at HTR ⊢
 clear hx
 have hc : o = 9 ∨ o = 10 ∨ o = 11 ∨ o = 12 ∨ o = 13 ∨ o = 14 ∨ o = 15 ∨ o = 16 := by omega
 rcases hc with rfl | rfl | rfl | rfl | rfl | rfl | rfl | rfl
 all_goals
  clear h9 h16
  go_enter Tryz.func75, Tryz.ntmps75
  go_wp2_with fail
  refine HT.out.mono ?_
  rintro e w1 ⟨rfl, G1⟩
  clear HT
  go_wp2_with fail
  refine (HH.out w1).mono ?_
  rintro e w2 ⟨rfl, hw2⟩
  have hw2 := hw2.symm
  subst hw2
  clear HH
  go_wp2_with fail
  refine (HTR.out w1).mono ?_
  rintro e w2 ⟨rfl, G2⟩
  clear HTR
  go_wp2_with fail
  refine (HL.out w1 w2 1 x G1.out G2.out).mono ?_
  rintro e w3 ⟨rfl, G3⟩
  clear HL
  go_wp2
  go_ret
  exact ⟨rfl, G3⟩
set_option maxRecDepth 10000 in
set_option maxHeartbeats 3200000 in
theorem operateReck {o : Nat} (h17 : 17 ≤ o) (h23 : o ≤ 23) (h : Pm c mb s w) (hn : 2 ≤ s.h) (h64 : s.h ≤ 64) (b0 : 0 ≤ s.top 0 ∧ s.top 0 < two64) (b1 : 0 ≤ s.top 1 ∧ s.top 1 < two64) : Calls Tryz.prog 75 #[.pointer (some ⟨mb, 0, none⟩), .int .i64 (o : Nat)] w fun e w' => e = .returned (.bool (opS o c.hd s).2) ∧ Hid (Gm c mb (opS o c.hd s).1 w w') := by
 have n8 : ¬ (o : Int) = 8 := by omega
 have n9 : ¬ (o : Int) = 9 := by omega
 have n10 : ¬ (o : Int) = 10 := by omega
 have n11 : ¬ (o : Int) = 11 := by omega
 have n12 : ¬ (o : Int) = 12 := by omega
 have n13 : ¬ (o : Int) = 13 := by omega
 have n14 : ¬ (o : Int) = 14 := by omega
 have n15 : ¬ (o : Int) = 15 := by omega
 have n16 : ¬ (o : Int) = 16 := by omega
 have n29 : ¬ (o : Int) = 29 := by omega
 have HR := hide (reckonC h h17 h23 hn h64 b0 b1)
 have HO : Hid ((decide ((reckI o (s.top 1) (s.top 0) 0).2 = 0) = (opS o c.hd s).2) ∧ (if (reckI o (s.top 1) (s.top 0) 0).2 = 0 then (s.pop 2).push 0 (reckI o (s.top 1) (s.top 0) 0).1 else (s.pop 2).stop (reckI o (s.top 1) (s.top 0) 0).2) = (opS o c.hd s).1) := by
  unfold opS
  rw [if_neg (by omega), if_neg (by omega), if_pos h23]
  by_cases q : (reckI o (s.top 1) (s.top 0) 0).2 = 0
  ·rw [if_pos q, if_pos q]
   exact ⟨by simp [q], rfl⟩
  ·rw [if_neg q, if_neg q]
   exact ⟨by simp [q], rfl⟩
 rw [HO.out.1, HO.out.2] at HR
 clear HO
 obtain ⟨b, hb⟩ : ∃ b, (opS o c.hd s).2 = b := ⟨_, rfl⟩
 rw [hb] at HR ⊢
 generalize (opS o c.hd s).1 = s1 at *
 clear hb h hn h64
 go_enter Tryz.func75, Tryz.ntmps75
 go_wp2_with fail
 refine HR.out.mono ?_
 rintro e w1 ⟨rfl, G1⟩
 clear HR
 go_wp2
 go_ret
 exact ⟨rfl, G1⟩
set_option maxRecDepth 10000 in
set_option maxHeartbeats 3200000 in
theorem operateShare (h : Pm c mb s w) (hn : 3 ≤ s.h) (h64 : s.h ≤ 64) (b0 : 0 ≤ s.top 0 ∧ s.top 0 < two64) (b1 : 0 ≤ s.top 1 ∧ s.top 1 < two64) (b2 : 0 ≤ s.top 2 ∧ s.top 2 < two64) : Calls Tryz.prog 75 #[.pointer (some ⟨mb, 0, none⟩), .int .i64 (24 : Int)] w fun e w' => e = .returned (.bool (opS 24 c.hd s).2) ∧ Hid (Gm c mb (opS 24 c.hd s).1 w w') := by
 have HR := hide (reckon3C h hn h64 b0 b1 b2)
 have HO : Hid ((decide ((reckI 24 (s.top 2) (s.top 1) (s.top 0)).2 = 0) = (opS 24 c.hd s).2) ∧ (if (reckI 24 (s.top 2) (s.top 1) (s.top 0)).2 = 0 then (s.pop 3).push 0 (reckI 24 (s.top 2) (s.top 1) (s.top 0)).1 else (s.pop 3).stop (reckI 24 (s.top 2) (s.top 1) (s.top 0)).2) = (opS 24 c.hd s).1) := by
  unfold opS
  rw [if_neg (by decide), if_neg (by decide), if_neg (by decide), if_pos rfl]
  by_cases q : (reckI 24 (s.top 2) (s.top 1) (s.top 0)).2 = 0
  ·rw [if_pos q, if_pos q]
   exact ⟨by simp [q], rfl⟩
  ·rw [if_neg q, if_neg q]
   exact ⟨by simp [q], rfl⟩
 rw [HO.out.1, HO.out.2] at HR
 clear HO
 obtain ⟨b, hb⟩ : ∃ b, (opS 24 c.hd s).2 = b := ⟨_, rfl⟩
 rw [hb] at HR ⊢
 generalize (opS 24 c.hd s).1 = s1 at *
 clear hb h hn h64
 go_enter Tryz.func75, Tryz.ntmps75
 go_wp2_with fail
 refine HR.out.mono ?_
 rintro e w1 ⟨rfl, G1⟩
 clear HR
 go_wp2
 go_ret
 exact ⟨rfl, G1⟩
set_option maxRecDepth 10000 in
set_option maxHeartbeats 3200000 in
theorem operatePay (h : Pm c mb s w) (hn : 2 ≤ s.h) (h64 : s.h ≤ 64) (hov : s.ov = false) (b0 : 0 ≤ s.top 0 ∧ s.top 0 < two64) (b1 : 0 ≤ s.top 1 ∧ s.top 1 < two64) (p0 : 0 ≤ s.paid 0) (p1 : 0 ≤ s.paid 1) (p2 : 0 ≤ s.paid 2) (ps : s.paid 0 + s.paid 1 + s.paid 2 ≤ c.hd) (hh : c.hd < two64) : Calls Tryz.prog 75 #[.pointer (some ⟨mb, 0, none⟩), .int .i64 29] w fun e w' => e = .returned (.bool (opS 29 c.hd s).2) ∧ Hid (Gm c mb (opS 29 c.hd s).1 w w') := by
 have HR := hide (payC h hn h64 hov b0 b1 p0 p1 p2 ps hh)
 obtain ⟨b, hb⟩ : ∃ b, (opS 29 c.hd s).2 = b := ⟨_, rfl⟩
 rw [hb] at HR ⊢
 generalize (opS 29 c.hd s).1 = s1 at *
 clear hb h hn h64 hov b0 b1 p0 p1 p2 ps hh
 go_enter Tryz.func75, Tryz.ntmps75
 go_wp2_with fail
 refine HR.out.mono ?_
 rintro e w1 ⟨rfl, G1⟩
 clear HR
 go_wp2
 go_ret
 exact ⟨rfl, G1⟩
end
theorem aft_len {p : Pv} {i : Nat} {l : List Bool} (h : fits p i l) : (aft p i l).length ≤ 64 := by
 obtain ⟨h1, h2, h3⟩ := h
 unfold aft
 rw [List.length_append, List.length_take]
 omega
theorem edg_len {p : Pv} {i x : Nat} {l l' : List Bool} (h : fits p i l) (hl : l.length ≤ 64) (hm : (x, l') ∈ edgs p i l) : l'.length ≤ 64 := by
 have ha := aft_len h
 unfold edgs at hm
 split at hm
 ·cases hm
 split at hm
 ·simp only [List.mem_singleton, Prod.mk.injEq] at hm
  rw [hm.2]; exact ha
 split at hm
 ·simp only [List.mem_cons, List.not_mem_nil, or_false, Prod.mk.injEq] at hm
  rcases hm with hm | hm
  ·rw [hm.2]; exact hl
  ·rw [hm.2]; exact ha
 split at hm
 ·simp only [List.mem_cons, List.not_mem_nil, or_false, Prod.mk.injEq] at hm
  rcases hm with hm | hm <;> (rw [hm.2]; exact ha)
 ·simp only [List.mem_singleton, Prod.mk.injEq] at hm
  rw [hm.2]; exact ha
theorem flow_len {p : Pv} {k : Kn} (hf : Flow p k) : ∀ (i : Nat) (l : List Bool), i < p.n → k i = some l → l.length ≤ 64 := by
 intro i
 induction i using Nat.strongRecOn with
 | _ i ih =>
  intro l hi hk
  rcases hf.rc i l hi hk with ⟨e, h6, h0, he⟩ | ⟨j, l0, l', hj, hk0, hm⟩
  ·have := hf.en e h6 h0
   rw [he, hk] at this
   cases this
   exact Nat.zero_le _
  ·have h1 := hf.fl j l0 (by omega) hk0
   have h2 := (h1.2 _ hm).2.2
   simp only at h2
   rw [hk] at h2
   cases h2
   exact edg_len h1.1 (ih j hj l0 (by omega) hk0) hm
/-- What an instruction asks of the stack. -/
theorem Tm.ops {p : Pv} {k : Kn} {hd : Int} {s : Ms} (hf : Flow p k) (h : Tm p k hd s) (ho : s.ov = false) : ∃ i l, s.pc = ((i : Nat) : Int) ∧ i < p.n ∧ s.h ≤ 64 ∧ (tkB p i).length ≤ s.h ∧ (s.h - (tkB p i).length + (lyB p i).length ≤ 64) ∧ Stk s l ∧ fits p i l := by
 obtain ⟨i, l, hi, hin, hk, hs⟩ := h.run ho
 have hft := (hf.fl i l hin hk).1
 have hh := hs.h
 refine ⟨i, l, hi, hin, ?_, by rw [hh]; exact hft.1, by rw [hh]; exact hft.2.2, hs, hft⟩
 rw [hh]
 exact flow_len hf i l hin hk
end Go.Proofs.YtggpaljilpbmhaaGreatDoor
namespace Go.Proofs.YtggpaljilpbmhaaGreatDoor
open Go.RowKit

/-- The rows that a machine reads. -/
structure Mr (c : Mc) (p : Pv) (mb cb co cc ib io ic : Nat) (w : World) : Prop where
 C : 0 < p.nc → c.vC = .slice (some ⟨cb, co, none⟩) p.nc cc ∧ cb ≠ mb ∧ cb < w.heap.size
 I : 0 < p.n → c.vI = .slice (some ⟨ib, io, none⟩) p.n ic ∧ ib ≠ mb ∧ ib < w.heap.size
 vc : ∀ j, j < p.nc → w.cell? ⟨cb, co + j, none⟩ = some (.int .u64 (p.C j))
 vo : ∀ j, j < p.n → w.cell? ⟨ib, io + j * 2, none⟩ = some (.int .i64 (p.op j))
 va : ∀ j, j < p.n → w.cell? ⟨ib, io + j * 2 + 1, none⟩ = some (.int .i64 (p.arg j))
 kd : ∀ j, j < p.ns → c.kd j = p.S j
theorem grown_cell {w w' : World} {r : Option Nat} (h : w.grownBy w' r) {b i : Nat} (hb : b < w.heap.size) (hr : some b ≠ r) : w'.cell? ⟨b, i, none⟩ = w.cell? ⟨b, i, none⟩ := by
 have := h.block b hb hr
 unfold World.cell?
 simp only
 rw [this]
theorem Mr.grown {c : Mc} {p : Pv} {mb cb co cc ib io ic : Nat} {w w' : World} (h : Mr c p mb cb co cc ib io ic w) (hg : w.grownBy w' (some mb)) : Mr c p mb cb co cc ib io ic w' :=
 ⟨fun e => ⟨(h.C e).1, (h.C e).2.1, Nat.lt_of_lt_of_le (h.C e).2.2 hg.size⟩, fun e => ⟨(h.I e).1, (h.I e).2.1, Nat.lt_of_lt_of_le (h.I e).2.2 hg.size⟩, fun j hj => (grown_cell hg (h.C (by omega)).2.2 (by simpa using (h.C (by omega)).2.1)).trans (h.vc j hj), fun j hj => (grown_cell hg (h.I (by omega)).2.2 (by simpa using (h.I (by omega)).2.1)).trans (h.vo j hj), fun j hj => (grown_cell hg (h.I (by omega)).2.2 (by simpa using (h.I (by omega)).2.1)).trans (h.va j hj), h.kd⟩
section
variable {p : Pv} {k : Kn} {ek ev : Nat → Int} {hd : Int} {s : Ms}
theorem st1 (h : (p.op s.pc.toNat).toNat = 1) : stepF p ek ev hd s = if s.left = 0 then s.stop 2 else { s with left := s.left - 1 }.nxt := by
 unfold stepF; simp only [h]; rfl
theorem st2 (h : (p.op s.pc.toNat).toNat = 2) : stepF p ek ev hd s = (s.push 0 (p.C (p.arg s.pc.toNat).toNat)).nxt := by
 unfold stepF; simp only [h]; rfl
theorem st3 (h : (p.op s.pc.toNat).toNat = 3) : stepF p ek ev hd s = (s.push 1 1).nxt := by
 unfold stepF; simp only [h]; rfl
theorem st4 (h : (p.op s.pc.toNat).toNat = 4) : stepF p ek ev hd s = (s.push 1 0).nxt := by
 unfold stepF; simp only [h]; rfl
theorem st5 (h : (p.op s.pc.toNat).toNat = 5) : stepF p ek ev hd s = (s.push (ek (p.arg s.pc.toNat).toNat) (ev (p.arg s.pc.toNat).toNat)).nxt := by
 unfold stepF; simp only [h]; rfl
theorem st6 (h : (p.op s.pc.toNat).toNat = 6) : stepF p ek ev hd s = (s.push (p.S (p.arg s.pc.toNat).toNat) (s.slt (p.arg s.pc.toNat).toNat)).nxt := by
 unfold stepF; simp only [h]; rfl
theorem st7 (h : (p.op s.pc.toNat).toNat = 7) : stepF p ek ev hd s = { s.pop 1 with slt := updI s.slt (p.arg s.pc.toNat).toNat (s.top 0) }.nxt := by
 unfold stepF; simp only [h]; rfl
theorem st25 (h : (p.op s.pc.toNat).toNat = 25) : stepF p ek ev hd s = s.go (p.arg s.pc.toNat) := by
 unfold stepF; simp only [h]; rfl
theorem st26 (h : (p.op s.pc.toNat).toNat = 26) : stepF p ek ev hd s = if s.top 0 = 1 then (s.pop 1).nxt else (s.pop 1).go (p.arg s.pc.toNat) := by
 unfold stepF; simp only [h]; rfl
theorem st27 (h : (p.op s.pc.toNat).toNat = 27) : stepF p ek ev hd s = if s.top 0 = 0 then s.go (p.arg s.pc.toNat) else (s.pop 1).nxt := by
 unfold stepF; simp only [h]; rfl
theorem st28 (h : (p.op s.pc.toNat).toNat = 28) : stepF p ek ev hd s = if s.top 0 = 1 then s.go (p.arg s.pc.toNat) else (s.pop 1).nxt := by
 unfold stepF; simp only [h]; rfl
theorem st30 (h : (p.op s.pc.toNat).toNat = 30) : stepF p ek ev hd s = if s.top 0 = 1 then (s.pop 1).nxt else { s.pop 1 with fail := p.arg s.pc.toNat }.stop 1 := by
 unfold stepF; simp only [h]; rfl
theorem st31 (h : (p.op s.pc.toNat).toNat = 31) : stepF p ek ev hd s = { s with fail := p.arg s.pc.toNat }.stop 1 := by
 unfold stepF; simp only [h]; rfl
theorem st32 (h : (p.op s.pc.toNat).toNat = 32) : stepF p ek ev hd s = s.stop 0 := by
 unfold stepF; simp only [h]; rfl
/-- A machine that has some steps yet to take, and where they lead. -/
structure Iv (c : Mc) (mb : Nat) (p : Pv) (k : Kn) (w : World) (sE : Ms) (r : Nat) (s : Ms) (wr : World) : Prop where
 g : Gm c mb s w wr
 t : Tm p k c.hd s
 e : runN p c.ek c.ev c.hd r s = sE
theorem Iv.next {c : Mc} {mb : Nat} {w wr w' : World} {sE : Ms} {r : Nat} (he : Me p k c.ek c.ev c.hd) (h : Iv c mb p k w sE (r + 1) s wr) (ho : s.ov = false) (g : Gm c mb (stepF p c.ek c.ev c.hd s) w w') : Iv c mb p k w sE r (stepF p c.ek c.ev c.hd s) w' := by
 refine ⟨g, (step_tm he h.t ho).1, ?_⟩
 have := h.e
 have e : runN p c.ek c.ev c.hd (r + 1) s = if s.ov = true then s else runN p c.ek c.ev c.hd r (stepF p c.ek c.ev c.hd s) := rfl
 rw [e, ho] at this
 exact this
theorem Iv.fin {c : Mc} {mb : Nat} {w wr : World} {sE : Ms} {r : Nat} (h : Iv c mb p k w sE r s wr) (ho : s.ov = true ∨ r = 0) : Gm c mb sE w wr := by
 have := h.e
 rcases ho with q | q
 ·rw [runN_over q] at this
  rw [← this]
  exact h.g
 ·subst q
  have e : runN p c.ek c.ev c.hd 0 s = s := rfl
  rw [e] at this
  rw [← this]
  exact h.g
/-- Every operation that is not told apart. -/
theorem operateC {c : Mc} {mb : Nat} {w : World} {i o : Nat} {l : List Bool} (h8 : 8 ≤ o ∧ o ≤ 24 ∨ o = 29) (h : Pm c mb s w) (ht : Tm p k c.hd s) (hov : s.ov = false) (hh : c.hd < two64) (hop : (p.op i).toNat = o) (h64 : s.h ≤ 64) (hs : Stk s l) (hf : fits p i l) : Calls Tryz.prog 75 #[.pointer (some ⟨mb, 0, none⟩), .int .i64 (o : Nat)] w fun e w' => e = .returned (.bool (opS o c.hd s).2) ∧ Hid (Gm c mb (opS o c.hd s).1 w w') := by
 have hsh := hs.h
 have htk := tk_of hop
 have hlen := hf.1
 have T : ∀ {j : Nat} {b : Bool}, (tkB p i)[(tkB p i).length - 1 - j]? = some b → j < (tkB p i).length → Okv (bI b) (s.top j) := fun a b => hs.top hf a b
 by_cases q8 : o = 8
 ·subst q8
  have e : tkB p i = [true] := htk.trans rfl
  rw [e] at T hlen
  have t0 := (T (j := 0) (b := true) rfl (by decide)).b rfl
  exact operate8 h (by rw [hsh]; exact hlen) h64 t0
 by_cases q16 : o ≤ 16
 ·have e2 : (tkB p i).length = 2 := by
   rw [htk]
   have : o = 9 ∨ o = 10 ∨ o = 11 ∨ o = 12 ∨ o = 13 ∨ o = 14 ∨ o = 15 ∨ o = 16 := by omega
   rcases this with rfl | rfl | rfl | rfl | rfl | rfl | rfl | rfl <;> rfl
  exact operateCmp (by omega) q16 h (by omega) h64
 by_cases q23 : o ≤ 23
 ·have e : tkB p i = [false, false] := by
   rw [htk]
   have : o = 17 ∨ o = 18 ∨ o = 19 ∨ o = 20 ∨ o = 21 ∨ o = 22 ∨ o = 23 := by omega
   rcases this with rfl | rfl | rfl | rfl | rfl | rfl | rfl <;> rfl
  rw [e] at T hlen
  have t0 := T (j := 0) (b := false) rfl (by decide)
  have t1 := T (j := 1) (b := false) rfl (by decide)
  exact operateReck (by omega) q23 h (by rw [hsh]; exact hlen) h64 ⟨t0.lo, t0.hi⟩ ⟨t1.lo, t1.hi⟩
 by_cases q24 : o = 24
 ·subst q24
  have e : tkB p i = [false, false, false] := htk.trans rfl
  rw [e] at T hlen
  have t0 := T (j := 0) (b := false) rfl (by decide)
  have t1 := T (j := 1) (b := false) rfl (by decide)
  have t2 := T (j := 2) (b := false) rfl (by decide)
  exact operateShare h (by rw [hsh]; exact hlen) h64 ⟨t0.lo, t0.hi⟩ ⟨t1.lo, t1.hi⟩ ⟨t2.lo, t2.hi⟩
 ·obtain rfl : o = 29 := by omega
  have e : tkB p i = [false, false] := htk.trans rfl
  rw [e] at T hlen
  have t0 := T (j := 0) (b := false) rfl (by decide)
  have t1 := T (j := 1) (b := false) rfl (by decide)
  exact operatePay h (by rw [hsh]; exact hlen) h64 hov ⟨t0.lo, t0.hi⟩ ⟨t1.lo, t1.hi⟩ ht.p0 ht.p1 ht.p2 ht.ps hh
end
end Go.Proofs.YtggpaljilpbmhaaGreatDoor
