import Derived.Test.YtpdjnbpjgpdnkaaGreatDoorX63
import Derived.Test.YtpdjnbpjgpdnkaaGreatDoorX43
import Derived.Test.YtpdjnbpjgpdnkaaGreatDoorX11
namespace Go.Proofs.YtpdjnbpjgpdnkaaGreatDoor
section
variable {p : Pv} {k : Kn} {hd : Int} {s : Ms} {ek ev : Nat → Int}
theorem ite_left {l : Int} (c : Prop) [Decidable c] {a b : Ms} (ha : a.left = l) (hb : b.left = l) : (if c then a else b).left = l := by
 by_cases q : c
 ·rw [if_pos q]; exact ha
 ·rw [if_neg q]; exact hb
theorem pay_left (t : Ms) (a b c : Int) : (t.pay a b c).left = t.left := by
 unfold Ms.pay
 repeat' (first | rfl | refine ite_left _ ?_ ?_)
/-- But for a tick, a step costs no fuel. -/
theorem step_left (h : (p.op s.pc.toNat).toNat ≠ 1) : (stepF p ek ev hd s).left = s.left := by
 obtain ⟨o, ho⟩ : ∃ o, (p.op s.pc.toNat).toNat = o := ⟨_, rfl⟩
 rw [ho] at h
 unfold stepF
 simp only [ho]
 rw [if_neg h]
 repeat' (first | rfl | exact pay_left _ _ _ _ | refine ite_left _ ?_ ?_)
theorem reck_un (o : Nat) (a b c : Int) : (reckI o a b c).2 ≠ 7 := by
 unfold reckI
 repeat' split
 all_goals simp
theorem ite_un (c : Prop) [Decidable c] (a b : Ms) (ha : a.ov = true → a.en ≠ 7) (hb : b.ov = true → b.en ≠ 7) : (if c then a else b).ov = true → (if c then a else b).en ≠ 7 := by
 by_cases q : c
 ·rw [if_pos q]; exact ha
 ·rw [if_neg q]; exact hb
theorem pay_un {t : Ms} {a b c : Int} (ho : t.ov = false) : (t.pay a b c).ov = true → (t.pay a b c).en ≠ 7 := by
 unfold Ms.pay
 split
 ·exact fun _ => (by decide : (6 : Int) ≠ 7)
 ·split
  ·exact fun _ => (by decide : (5 : Int) ≠ 7)
  ·intro e
   have e2 : t.ov = true := e
   rw [ho] at e2
   cases e2
/-- A verified program never ends stuck: no step does. -/
theorem step_un (ho : s.ov = false) : (stepF p ek ev hd s).ov = true → (stepF p ek ev hd s).en ≠ 7 := by
 have no : s.ov = true → False := fun e => by rw [ho] at e; cases e
 obtain ⟨o, hop⟩ : ∃ o, (p.op s.pc.toNat).toNat = o := ⟨_, rfl⟩
 unfold stepF
 simp only [hop]
 repeat' (first | exact fun e => (no e).elim | exact pay_un ho | exact fun _ => reck_un _ _ _ _ | exact fun _ => (by decide : (0 : Int) ≠ 7) | exact fun _ => (by decide : (1 : Int) ≠ 7) | exact fun _ => (by decide : (2 : Int) ≠ 7) | apply ite_un)
/-- A tick where there is no fuel. -/
theorem step_dry (h : (p.op s.pc.toNat).toNat = 1) (h0 : s.left = 0) : stepF p ek ev hd s = s.stop 2 := by
 unfold stepF
 simp only
 rw [if_pos h, if_pos h0]
/-- A tick where there is fuel. -/
theorem step_tick (h : (p.op s.pc.toNat).toNat = 1) (h0 : s.left ≠ 0) : stepF p ek ev hd s = Ms.nxt { s with left := s.left - 1 } := by
 unfold stepF
 simp only
 rw [if_pos h, if_neg h0]
/-- No fuel comes from nowhere. -/
theorem step_down : (stepF p ek ev hd s).left ≤ s.left := by
 by_cases h : (p.op s.pc.toNat).toNat = 1
 ·by_cases h0 : s.left = 0
  ·rw [step_dry h h0]
   exact Int.le_refl _
  ·rw [step_tick h h0]
   show s.left - 1 ≤ s.left
   omega
 ·rw [step_left h]
  exact Int.le_refl _
/-- How many steps a machine may still take, told closely. -/
def nu (p : Pv) (s : Ms) : Nat := if s.ov = true then 0 else s.left.toNat * p.n + (if p.op s.pc.toNat = 1 then 0 else p.n - s.pc.toNat) + 1
theorem nu_pos (h : s.ov = false) : 0 < nu p s := by unfold nu; rw [h]; simp
theorem nu_over (h : s.ov = true) : nu p s = 0 := by unfold nu; rw [if_pos h]
theorem nu_le (h : Tm p k hd s) : nu p s ≤ 1001 * p.n + 1 := by
 unfold nu
 split
 ·omega
 ·have h1 := h.l1
  have : s.left.toNat * p.n ≤ 1000 * p.n := Nat.mul_le_mul_right _ (by omega)
  split <;> omega
theorem step_nu (he : Me p k ek ev hd) (h : Tm p k hd s) (ho : s.ov = false) : nu p (stepF p ek ev hd s) < nu p s := by
 obtain ⟨g, gm⟩ := step_tm he h ho
 cases e : (stepF p ek ev hd s).ov with
 | true => rw [nu_over e]; exact nu_pos ho
 | false =>
  obtain ⟨i, l, hi, hin, _, _⟩ := h.run ho
  obtain ⟨x, l', hx, hxn, _, _⟩ := g.run e
  have hl0 := h.l0
  by_cases h1 : p.op i = 1
  ·have h1' : (p.op s.pc.toNat).toNat = 1 := by rw [hi, Int.toNat_natCast, h1]; rfl
   by_cases h0 : s.left = 0
   ·rw [step_dry h1' h0] at e
    cases e
   ·have hs := step_tick (ek := ek) (ev := ev) (hd := hd) h1' h0
    have hL : (stepF p ek ev hd s).left = s.left - 1 := by rw [hs]; rfl
    have hP : (stepF p ek ev hd s).pc = s.pc + 1 := by rw [hs]; rfl
    rw [hx, hi] at hP
    have hxi : x = i + 1 := by omega
    unfold nu
    rw [ho, e, hx, hi, hL]
    simp only [Bool.false_eq_true, if_false, Int.toNat_natCast]
    rw [if_pos h1]
    obtain ⟨m, hm⟩ : ∃ m : Nat, s.left.toNat = m + 1 := ⟨s.left.toNat - 1, by omega⟩
    have e1 : (s.left - 1).toNat = m := by omega
    rw [e1, hm, Nat.add_mul, Nat.one_mul]
    split <;> omega
  ·have h1' : (p.op s.pc.toNat).toNat ≠ 1 := by
    rw [hi, Int.toNat_natCast]
    omega
   have hL := step_left (ek := ek) (ev := ev) (hd := hd) h1'
   unfold mu at gm
   unfold nu
   rw [ho, e, hx, hi, hL] at gm ⊢
   simp only [Bool.false_eq_true, if_false, Int.toNat_natCast] at gm ⊢
   rw [if_neg h1] at gm ⊢
   by_cases q : p.op x = 1
   ·rw [if_pos q]
    omega
   ·rw [if_neg q] at gm ⊢
    omega
end
end Go.Proofs.YtpdjnbpjgpdnkaaGreatDoor
namespace Go.Proofs.YtpdjnbpjgpdnkaaGreatDoor
open Go.RowKit

/-- A program and a state, each in a box. -/
structure PS (W : World) (g : Pg) (p : Pv) (s : Ms) (v1 v2 : Value) (w : World) : Prop where
 p1 : w.heap[W.heap.size]? = some (.cells (g.cs p).toArray 27 (0, 0))
 p2 : w.heap[W.heap.size + 1]? = some (.cells (stA s v1 v2) 48 (0, 0))
 k1 : g.Ok p W.heap.size w
 bel : Below W.heap.size W w
theorem PS.next {W : World} {g : Pg} {p : Pv} {s : Ms} {v1 v2 : Value} {w w' : World} (h : PS W g p s v1 v2 w) (hb : Below w.heap.size w w') : PS W g p s v1 v2 w' :=
 ⟨(hb.block _ (block_lt h.p1)).trans h.p1, (hb.block _ (block_lt h.p2)).trans h.p2, h.k1.kept hb h.bel.size, h.bel.trans (hb.mono h.bel.size)⟩
theorem ps_new {W W2 : World} {g : Pg} {p : Pv} {s : Ms} {v1 v2 : Value} (h1 : g.Ok p W.heap.size W) (hW : (W.alloc (.cells (g.cs p).toArray 27)).alloc (.cells (stA s v1 v2) 48) = W2) : PS W g p s v1 v2 W2 := by
 have e1 : (W.alloc (.cells (g.cs p).toArray 27)).heap.size = W.heap.size + 1 := by simp
 have B2 : Below W.heap.size W W2 := by rw [← hW]; exact (below_alloc1 W _).alloc (by simp) _
 refine ⟨?_, ?_, h1.kept B2 (Nat.le_refl _), B2⟩
 ·rw [← hW]
  exact ((below_alloc1 _ _).block _ (by rw [e1]; omega)).trans (alloc_atK _ _)
 ·rw [← hW, ← e1]
  exact alloc_atK _ _
set_option maxRecDepth 10000 in
set_option maxHeartbeats 3200000 in
/-- The slots have the kinds that the program says. -/
theorem slotsT {W : World} {g : Pg} {p : Pv} {s : Ms} {v1 v2 : Value} (h1 : g.Ok p W.heap.size W) (h2 : Cv W v2 p.ns p.S s.slt) (hok : ∀ j, j < p.ns → Okv (p.S j) (s.slt j)) :
  Calls Tryz.prog 11 #[.agg (g.cs p).toArray, .agg (stA s v1 v2)] W fun e w' => e = .returned (.bool true) ∧ Hid (Below W.heap.size W w') := by
 obtain ⟨W2, hW2⟩ : ∃ W2, (W.alloc (.cells (g.cs p).toArray 27)).alloc (.cells (stA s v1 v2) 48) = W2 := ⟨_, rfl⟩
 obtain ⟨a2, c2, b2, rfl, _, q2, y2, z2⟩ := h2.ex
 have HS := hide (ps_new h1 hW2)
 have HW2 := hide hW2
 have hls := h1.ls
 have Q2 := hide q2
 have Y2 := hide y2
 have Z2 := hide z2
 have OK := hide hok
 clear h1 h2 hW2 q2 y2 z2 hok
 have x1 := block_cell HS.out.p1 1
 have xl := block_lt HS.out.p1
 have x2 := block_cell HS.out.p2 2
 have xm := block_lt HS.out.p2
 simp [Pg.cs] at x1
 simp [stA] at x2
 simp only [Pg.cs, stA] at HW2 ⊢
 go_enter Tryz.func11, Tryz.ntmps11
 go_upto_region 1 with fail
 rw [HW2.out]
 clear HW2
 go_upto_region 4 with fail
 clear x1 xl x2 xm
 go_loopw [5] (fun i wr => ∃ j : Nat, j ≤ p.ns ∧ i = .int .i64 (j : Nat) ∧ Hid (PS W g p s v1 (.slice a2 p.ns c2) wr)) (fun i _ => p.ns - (intOf i).toNat)
 case atStart => exact ⟨0, by omega, rfl, HS.out⟩
 case round =>
  obtain ⟨j, hj, rfl, HT⟩ := hrel
  clear HS
  have x1 := block_cell HT.out.p1 1
  have xl := block_lt HT.out.p1
  have x2 := block_cell HT.out.p2 2
  have xm := block_lt HT.out.p2
  simp [Pg.cs] at x1
  simp [stA] at x2
  by_cases hlt : j < p.ns
  ·obtain ⟨e1, l1⟩ := HT.out.k1.hs (by omega)
   obtain ⟨e2, l2⟩ := Q2.out (by omega)
   have u1 := HT.out.k1.vs j hlt
   have u2 : wr.cell? ⟨b2, j * 2, none⟩ = some (.int .i64 (p.S j)) := (HT.out.bel.cell (p := ⟨b2, _, none⟩) l2).trans (Y2.out j hlt)
   have u3 : wr.cell? ⟨b2, j * 2 + 1, none⟩ = some (.int .u64 (s.slt j)) := (HT.out.bel.cell (p := ⟨b2, _, none⟩) l2).trans (Z2.out j hlt)
   have k1 : g.sb < wr.heap.size := Nat.lt_of_lt_of_le l1 HT.out.bel.size
   have k2 : b2 < wr.heap.size := Nat.lt_of_lt_of_le l2 HT.out.bel.size
   have HD := hide (HT.out.next (Below.refl _ _).drew)
   have ok := OK.out j hlt
   have okd := ok.kd
   have okl := ok.lo
   have okb := ok.b
   rw [e1] at x1
   rw [e2] at x2
   subst e2
   clear e1 l1 l2 HT ok
   generalize p.S j = kj at *
   generalize s.slt j = xj at *
   rcases okd with rfl | rfl
   ·go_upto_region 6 with fail
    go_region
    go_wp2
    go_roundw
    case rel => exact ⟨j + 1, by omega, by go_num, HD.out⟩
    case measure => simp [intOf]; omega
   ·have hx : ¬ (1 < xj) := by have := okb rfl; omega
    go_upto_region 6 with fail
    go_region
    go_wp2
    go_roundw
    case rel => exact ⟨j + 1, by omega, by go_num, HD.out⟩
    case measure => simp [intOf]; omega
  ·obtain rfl : j = p.ns := by omega
   go_wp2
   go_ret
   exact ⟨rfl, HT.out.bel⟩
end Go.Proofs.YtpdjnbpjgpdnkaaGreatDoor
namespace Go.Proofs.YtpdjnbpjgpdnkaaGreatDoor
open Go.RowKit

set_option maxRecDepth 10000 in
set_option maxHeartbeats 6400000 in
/-- The stack has the kinds of the shape that Verify found there. -/
theorem fitsT {W : World} {g : Pg} {p : Pv} {s : Ms} {v1 v2 : Value} {k : Kn} {i : Nat} {l : List Bool} (h1 : g.Ok p W.heap.size W) (hT : Tab W) (h2 : Cv W v1 s.h s.sk s.sv) (hv : verF p = .ok k) (hpc : s.pc = (i : Nat)) (hin : i < p.n) (hki : k i = some l) (hst : Stk s l) (h64 : s.h ≤ 64) :
  Calls Tryz.prog 12 #[.agg (g.cs p).toArray, .agg (stA s v1 v2)] W fun e w' => e = .returned (.bool true) ∧ Hid (Below W.heap.size W w') := by
 obtain ⟨W2, hW2⟩ : ∃ W2, (W.alloc (.cells (g.cs p).toArray 27)).alloc (.cells (stA s v1 v2) 48) = W2 := ⟨_, rfl⟩
 obtain ⟨a2, c2, b2, rfl, _, q2, y2, z2⟩ := h2.ex
 have HS := hide (ps_new h1 hW2)
 have HW2 := hide hW2
 have hh := hst.h
 have HF : shF p (i : Nat) = .ok (l, true) := by
  unfold shF
  rw [hv]
  simp only
  rw [if_pos (by unfold isPl; simp; omega), Int.toNat_natCast, hki]
  rfl
 have HC : Hid (Calls Tryz.prog 27 #[.agg (g.cs p).toArray, .int .i64 (i : Nat)] W2 fun e w' => ∃ ao cap b off, e = .returned (.tuple #[.slice ao l.length cap, .bool true, .nilIface]) ∧ Hid ((0 < l.length → ao = some ⟨b, off, none⟩ ∧ b < w'.heap.size) ∧ (∀ j x, l[j]? = some x → w'.cell? ⟨b, off + j, none⟩ = some (iv x)) ∧ Below W2.heap.size W2 w')) := by
  refine (shapeC (HS.out.k1.wide HS.out.bel.size) (hT.below HS.out.bel hT.z) (i : Nat)).mono ?_
  intro e w' hq
  rw [HF] at hq
  obtain ⟨v, rfl, hk, hb⟩ := hq
  obtain ⟨ao, cap, b, off, rfl, _, e2, e3⟩ := hk
  exact ⟨ao, cap, b, off, rfl, e2, e3, hb⟩
 have Q2 := hide q2
 have Y2 := hide y2
 have Z2 := hide z2
 have ST := hide hst
 have hl : l.length ≤ 64 := by omega
 have HH := hide hh
 have HP := hide hpc
 clear h1 h2 hW2 q2 y2 z2 hst hT HF hki hv hh hpc h64
 have x0 := block_cell HS.out.p1 0
 have x1 := block_cell HS.out.p1 1
 have x2 := block_cell HS.out.p1 2
 have x3 := block_cell HS.out.p1 3
 have x4 := block_cell HS.out.p1 4
 have x5 := block_cell HS.out.p1 5
 have x6 := block_cell HS.out.p1 6
 have x7 := block_cell HS.out.p1 7
 have x8 := block_cell HS.out.p1 8
 have xl := block_lt HS.out.p1
 have y0 := block_cell HS.out.p2 0
 have ym := block_lt HS.out.p2
 simp [Pg.cs] at x0 x1 x2 x3 x4 x5 x6 x7 x8
 simp [stA, HP.out] at y0
 simp only [Pg.cs, stA] at HW2 HC ⊢
 go_enter Tryz.func12, Tryz.ntmps12
 go_upto_region 1 with fail
 rw [HW2.out]
 clear HW2
 go_wp2_with fail
 refine HC.out.mono ?_
 rintro e w3 ⟨ao, cap, b, off, rfl, G⟩
 have HS3 := hide (HS.out.next G.out.2.2)
 have GK := hide G.out.1
 have GV := hide G.out.2.1
 clear x0 x1 x2 x3 x4 x5 x6 x7 x8 xl y0 ym HS HC G
 have y1 := block_cell HS3.out.p2 1
 have ym := block_lt HS3.out.p2
 simp [stA, HH.out] at y1
 go_upto_region 5 with fail
 clear y1 ym
 go_loopw [8] (fun i wr => ∃ j : Nat, j ≤ l.length ∧ i = .int .i64 (j : Nat) ∧ Hid (PS W g p s (.slice a2 s.h c2) v2 wr ∧ Below w3.heap.size w3 wr)) (fun i _ => l.length - (intOf i).toNat)
 case atStart => exact ⟨0, by omega, rfl, HS3.out, Below.refl _ _⟩
 case round =>
  obtain ⟨j, hj, rfl, HT⟩ := hrel
  clear HS3
  have y1 := block_cell HT.out.1.p2 1
  have ym := block_lt HT.out.1.p2
  simp [stA, HH.out] at y1
  by_cases hlt : j < l.length
  ·obtain ⟨e1, l1⟩ := GK.out (by omega)
   obtain ⟨e2, l2⟩ := Q2.out (by rw [HH.out]; omega)
   obtain ⟨x, hx⟩ : ∃ x, l[j]? = some x := ⟨l[j], List.getElem?_eq_getElem hlt⟩
   have u1 : wr.cell? ⟨b, off + j, none⟩ = some (iv x) := (HT.out.2.cell (p := ⟨b, _, none⟩) l1).trans (GV.out j x hx)
   have u2 : wr.cell? ⟨b2, j * 2, none⟩ = some (.int .i64 (s.sk j)) := (HT.out.1.bel.cell (p := ⟨b2, _, none⟩) l2).trans (Y2.out j (by rw [HH.out]; exact hlt))
   have u3 : wr.cell? ⟨b2, j * 2 + 1, none⟩ = some (.int .u64 (s.sv j)) := (HT.out.1.bel.cell (p := ⟨b2, _, none⟩) l2).trans (Z2.out j (by rw [HH.out]; exact hlt))
   have k1 : b < wr.heap.size := Nat.lt_of_lt_of_le l1 HT.out.2.size
   have k2 : b2 < wr.heap.size := Nat.lt_of_lt_of_le l2 HT.out.1.bel.size
   have HD := hide (And.intro (HT.out.1.next (Below.refl _ _).drew) (HT.out.2.drew))
   have ok := ST.out.v j (by rw [HH.out]; exact hlt)
   have okl := ok.lo
   have okb := ok.b
   rw [ST.out.k j x hx] at u2 okb
   rw [e2] at y1
   subst e1
   subst e2
   clear l1 l2 HT ok
   generalize s.sv j = xj at *
   cases x with
   | false =>
    simp only [bI, iv, Bool.false_eq_true, if_false] at u1 u2
    go_upto_region 7 with fail
    go_region
    go_wp2
    go_roundw
    case rel => exact ⟨j + 1, by omega, by go_num, HD.out⟩
    case measure => simp [intOf]; omega
   | true =>
    simp only [bI, iv, if_true] at u1 u2
    have hx2 : ¬ (1 < xj) := by have := okb rfl; omega
    go_upto_region 7 with fail
    go_region
    go_wp2
    go_roundw
    case rel => exact ⟨j + 1, by omega, by go_num, HD.out⟩
    case measure => simp [intOf]; omega
  ·obtain rfl : j = l.length := by omega
   have hl64 : ((l.length : Nat) : Int) ≤ 64 := by omega
   go_wp2
   go_ret
   exact ⟨by simp, HT.out.1.bel⟩
end Go.Proofs.YtpdjnbpjgpdnkaaGreatDoor
