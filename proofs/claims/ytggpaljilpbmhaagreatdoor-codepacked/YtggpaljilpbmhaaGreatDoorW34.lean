import Derived.Test.YtggpaljilpbmhaaGreatDoorW17
namespace Go.Proofs.YtggpaljilpbmhaaGreatDoor

/-- How many places below one are kept; the place that is kept as the j-th. -/
def cnt (K : Nat → Bool) : Nat → Nat
 | 0 => 0
 | i + 1 => cnt K i + (if K i then 1 else 0)
def sel (K : Nat → Bool) : Nat → Nat → Nat
 | 0, _ => 0
 | n + 1, j => if K n = true ∧ cnt K n = j then n else sel K n j
theorem cnt_mono {K : Nat → Bool} {i j : Nat} (h : i ≤ j) : cnt K i ≤ cnt K j := by
 induction j with
 | zero =>
  obtain rfl : i = 0 := by omega
  exact Nat.le_refl _
 | succ j ih =>
  by_cases e : i = j + 1
  ·subst e; exact Nat.le_refl _
  ·have := ih (by omega)
   show _ ≤ cnt K j + _
   omega
theorem cnt_next {K : Nat → Bool} {i : Nat} (h : K i = true) : cnt K (i + 1) = cnt K i + 1 := by
 show cnt K i + _ = _
 rw [if_pos h]
theorem cnt_lt {K : Nat → Bool} {i j : Nat} (h : K i = true) (hj : i < j) : cnt K i < cnt K j := by
 have := cnt_mono (K := K) (show i + 1 ≤ j by omega)
 rw [cnt_next h] at this
 omega
theorem cnt_inj {K : Nat → Bool} {i j : Nat} (hi : K i = true) (hj : K j = true) (h : cnt K i = cnt K j) : i = j := by
 rcases Nat.lt_trichotomy i j with q | q | q
 ·have := cnt_lt hi q; omega
 ·exact q
 ·have := cnt_lt hj q; omega
theorem sel_spec {K : Nat → Bool} : ∀ {n j : Nat}, j < cnt K n → sel K n j < n ∧ K (sel K n j) = true ∧ cnt K (sel K n j) = j
 | 0, j, h => by cases h
 | n + 1, j, h => by
  unfold sel
  by_cases e : K n = true ∧ cnt K n = j
  ·rw [if_pos e]
   exact ⟨by omega, e.1, e.2⟩
  ·rw [if_neg e]
   have h2 : j < cnt K n := by
    have h3 : j < cnt K n + (if K n then 1 else 0) := h
    by_cases ek : K n = true
    ·rw [if_pos ek] at h3
     have : cnt K n ≠ j := fun q => e ⟨ek, q⟩
     omega
    ·rw [if_neg ek] at h3
     omega
   have := sel_spec h2
   exact ⟨by omega, this.2⟩
theorem sel_cnt {K : Nat → Bool} {n i : Nat} (hi : i < n) (hk : K i = true) : sel K n (cnt K i) = i := by
 have := sel_spec (cnt_lt hk hi)
 exact cnt_inj this.2.1 hk this.2.2
/-- Does its Arg name a place? -/
def wayP (o : Int) : Bool := decide (25 ≤ o) && decide (o ≤ 28)
theorem way_iff {o : Nat} (h : o ≤ 32) : (fArg o = 4) ↔ (25 ≤ o ∧ o ≤ 28) := by
 have : ∀ o, o < 33 → ((fArg o = 4) ↔ (25 ≤ o ∧ o ≤ 28)) := by decide
 exact this o (by omega)
/-- A program without the places that are not kept. -/
def cutF (p : Pv) (K : Nat → Bool) : Pv :=
 ⟨p.nc, p.ns, cnt K p.n, p.C, p.S, fun e => if 0 ≤ p.en e then ((cnt K (p.en e).toNat : Nat) : Int) else p.en e, fun j => p.op (sel K p.n j), fun j => if wayP (p.op (sel K p.n j)) = true then ((cnt K (p.arg (sel K p.n j)).toNat : Nat) : Int) else p.arg (sel K p.n j)⟩
theorem wayP_nat {x : Int} (h : wayP x = true) : 25 ≤ x.toNat ∧ x.toNat ≤ 28 := by
 simp [wayP] at h
 omega
/-- The form of a program. -/
structure Wf (p : Pv) : Prop where
 sz : p.nc ≤ 256 ∧ p.ns ≤ 128 ∧ p.n ≤ 1024
 sl : ∀ j, j < p.ns → p.S j = 0 ∨ p.S j = 1
 en : ∀ e, e < 6 → p.en e = -1 ∨ isPl (p.en e) p.n = true
 ins : ∀ i, i < p.n → InOk p i
theorem Wf.of {p : Pv} (h : statF p = none) : Wf p := by
 obtain ⟨h1, h2, h3, h4⟩ := stat_none h
 exact ⟨size_none h1, slot_none h2, fun e he => ent_of h3 he, fun i hi => InOk.of h4 hi⟩
theorem firstBad_nil {f : Nat → Option (Int × Int)} : ∀ {n : Nat}, (∀ j, j < n → f j = none) → firstBad f n = none
 | 0, _ => rfl
 | n + 1, h => firstBad_next (firstBad_nil (fun j hj => h j (by omega))) (h n (by omega))
theorem Wf.stat {p : Pv} (h : Wf p) : statF p = none := by
 have h1 : sizeF p = none := by
  unfold sizeF
  obtain ⟨a, b, c⟩ := h.sz
  rw [if_neg (by omega), if_neg (by omega), if_neg (by omega)]
 have h2 : slotF p = none := firstBad_nil (fun j hj => by
  unfold slotB
  rw [if_neg (fun e => by rcases h.sl j hj with q | q; exact e.1 q; exact e.2 q)])
 have h3 : entF p = none := firstBad_nil (fun j hj => by
  unfold entB
  rw [if_neg (fun e => by rcases h.en j hj with q | q; exact e.1 q; rw [q] at e; cases e.2)])
 have h4 : insF p = none := firstBad_nil (fun j hj => by
  have := h.ins j hj
  unfold insB
  rw [this.o, this.a]
  rfl)
 unfold statF
 rw [h1, h2, h3, h4]
 rfl
theorem op_nat {p : Pv} {i : Nat} (h : InOk p i) : 1 ≤ p.op i ∧ p.op i ≤ 32 ∧ p.op i = ((p.op i).toNat : Nat) := by
 have := h.o
 simp [isO] at this
 omega
theorem InOk.way {p : Pv} {i : Nat} (h : InOk p i) (hw : wayP (p.op i) = true) : isPl (p.arg i) p.n = true := by
 have h1 := op_nat h
 have h2 := wayP_nat hw
 exact argF_place h.a ((way_iff (by omega)).2 h2)
end Go.Proofs.YtggpaljilpbmhaaGreatDoor
namespace Go.Proofs.YtggpaljilpbmhaaGreatDoor

/-- Where a way ends that leads through jumps. -/
def finF (p : Pv) : Nat → Nat → Nat
 | 0, x => x
 | f + 1, x => if p.op x = 25 then finF p f (p.arg x).toNat else x
def shortF (p : Pv) : Pv := ⟨p.nc, p.ns, p.n, p.C, p.S, p.en, p.op, fun i => if wayP (p.op i) = true then ((finF p p.n (p.arg i).toNat : Nat) : Int) else p.arg i⟩
end Go.Proofs.YtggpaljilpbmhaaGreatDoor
namespace Go.Proofs.YtggpaljilpbmhaaGreatDoor

/-- Led to from the front in the shortened program. -/
def Rch (p : Pv) (k : Kn) (x : Nat) : Prop := ∀ P : Nat → Prop, (∀ i, Ent p i → P i) → (∀ i l d l', i < p.n → P i → k i = some l → (d, l') ∈ edgs (shortF p) i l → i < d → P d) → P x
theorem Rch.ent {p : Pv} {k : Kn} {i : Nat} (h : Ent p i) : Rch p k i := fun _ h1 _ => h1 i h
theorem Rch.step {p : Pv} {k : Kn} {i d : Nat} {l l' : List Bool} (h : Rch p k i) (hi : i < p.n) (hk : k i = some l) (he : (d, l') ∈ edgs (shortF p) i l) (hd : i < d) : Rch p k d := fun P h1 h2 => h2 i l d l' hi (h P h1 h2) hk he hd
theorem Rch.inv {p : Pv} {k : Kn} {x : Nat} (h : Rch p k x) : Ent p x ∨ ∃ i l l', i < x ∧ i < p.n ∧ Rch p k i ∧ k i = some l ∧ (x, l') ∈ edgs (shortF p) i l := by
 have := h (fun y => Rch p k y ∧ (Ent p y ∨ ∃ i l l', i < y ∧ i < p.n ∧ Rch p k i ∧ k i = some l ∧ (y, l') ∈ edgs (shortF p) i l)) (fun i hi => ⟨Rch.ent hi, .inl hi⟩) (fun i l d l' hi hp hk he hd => ⟨hp.1.step hi hk he hd, .inr ⟨i, l, l', hd, hi, hp.1, hk, he⟩⟩)
 exact this.2
end Go.Proofs.YtggpaljilpbmhaaGreatDoor
namespace Go.Proofs.YtggpaljilpbmhaaGreatDoor

theorem ver_wf {p : Pv} {k : Kn} (hv : verF p = .ok k) : Wf p := Wf.of (by
 rw [verF_stat] at hv
 cases e : statF p with
 | none => rfl
 | some z => rw [e] at hv; cases hv)
/-- The first jump to the next place. -/
def idleB (p : Pv) (j : Nat) : Bool := decide (p.op j = 25) && decide (p.arg j = (j : Int) + 1)
def fstI (p : Pv) : Nat → Option Nat
 | 0 => none
 | j + 1 => match fstI p j with
  | some x => some x
  | none => if idleB p j = true then some j else none
def butK (i : Nat) (x : Nat) : Bool := decide (x ≠ i)
/-- Without the jumps to the next place, one after the other. -/
def idleF : Nat → Pv → Pv
 | 0, p => p
 | f + 1, p => match fstI p p.n with
  | none => p
  | some i => idleF f (cutF p (butK i))
/-- Is a constant laid up somewhere? -/
def usedB (p : Pv) (c : Nat) : Nat → Bool
 | 0 => false
 | j + 1 => usedB p c j || (decide (p.op j = 2) && decide (p.arg j = (c : Int)))
def usd (p : Pv) (c : Nat) : Bool := usedB p c p.n
end Go.Proofs.YtggpaljilpbmhaaGreatDoor
namespace Go.Proofs.YtggpaljilpbmhaaGreatDoor

/-- A machine, as it is meant: where it stands, the height of its stack and what lies there (and what lay there), its slots, its fuel, what was paid, how it ended. -/
structure Ms where
 (pc : Int) (h : Nat) (sk : Nat → Int) (sv : Nat → Int) (slt : Nat → Int) (left : Int) (paid : Nat → Int) (ov : Bool) (en fail : Int)
def updI (f : Nat → Int) (i : Nat) (x : Int) (j : Nat) : Int := if j = i then x else f j
def Ms.nxt (s : Ms) : Ms := { s with pc := s.pc + 1 }
def Ms.go (s : Ms) (a : Int) : Ms := { s with pc := a }
def Ms.stop (s : Ms) (e : Int) : Ms := { s with pc := -1, ov := true, en := e }
def Ms.push (s : Ms) (k n : Int) : Ms := { s with h := s.h + 1, sk := updI s.sk s.h k, sv := updI s.sv s.h n }
def Ms.pop (s : Ms) (n : Nat) : Ms := { s with h := s.h - n }
/-- What lies below the top. -/
def Ms.top (s : Ms) (j : Nat) : Int := s.sv (s.h - 1 - j)
def bI (b : Bool) : Int := if b then 1 else 0
/-- A comparison. -/
def cmpB (o : Nat) (a b : Int) : Bool := if o = 9 ∨ o = 15 then decide (a = b) else if o = 10 ∨ o = 16 then !decide (a = b) else if o = 11 then decide (a < b) else if o = 12 then decide (a ≤ b) else if o = 13 then decide (b < a) else decide (b ≤ a)
def two64 : Int := 18446744073709551616
/-- What is worked out, and how it ends. -/
def reckI (o : Nat) (a b c : Int) : Int × Int :=
 if o = 17 then (if a + b < two64 then (a + b, 0) else (0, 3))
 else if o = 18 then (if b ≤ a then (a - b, 0) else (0, 3))
 else if o = 19 then (if a * b < two64 then (a * b, 0) else (0, 3))
 else if o = 20 then (if b = 0 then (0, 4) else (a / b, 0))
 else if o = 21 then (if b = 0 then (0, 4) else (a % b, 0))
 else if o = 22 then ((if b < a then b else a), 0)
 else if o = 23 then ((if a < b then b else a), 0)
 else if c = 0 then (0, 4) else if c ≤ a * b / two64 then (0, 3) else (a * b / c, 0)
/-- A payment. -/
def Ms.pay (s : Ms) (hd amount party : Int) : Ms :=
 if party < 1 ∨ 3 < party then s.stop 6 else if hd - s.paid 0 - s.paid 1 - s.paid 2 < amount then s.stop 5 else { s with pc := s.pc + 1, paid := updI s.paid (party - 1).toNat (s.paid (party - 1).toNat + amount) }
/-- One instruction. -/
def stepF (p : Pv) (ek ev : Nat → Int) (hd : Int) (s : Ms) : Ms :=
 let o := (p.op s.pc.toNat).toNat
 let a := p.arg s.pc.toNat
 if o = 1 then (if s.left = 0 then s.stop 2 else { s with left := s.left - 1 }.nxt)
 else if o = 2 then (s.push 0 (p.C a.toNat)).nxt
 else if o = 3 then (s.push 1 1).nxt
 else if o = 4 then (s.push 1 0).nxt
 else if o = 5 then (s.push (ek a.toNat) (ev a.toNat)).nxt
 else if o = 6 then (s.push (p.S a.toNat) (s.slt a.toNat)).nxt
 else if o = 7 then { s.pop 1 with slt := updI s.slt a.toNat (s.top 0) }.nxt
 else if o = 8 then ((s.pop 1).push 1 (1 - s.top 0)).nxt
 else if o ≤ 16 then ((s.pop 2).push 1 (bI (cmpB o (s.top 1) (s.top 0)))).nxt
 else if o ≤ 23 then (if (reckI o (s.top 1) (s.top 0) 0).2 = 0 then ((s.pop 2).push 0 (reckI o (s.top 1) (s.top 0) 0).1).nxt else (s.pop 2).stop (reckI o (s.top 1) (s.top 0) 0).2)
 else if o = 24 then (if (reckI o (s.top 2) (s.top 1) (s.top 0)).2 = 0 then ((s.pop 3).push 0 (reckI o (s.top 2) (s.top 1) (s.top 0)).1).nxt else (s.pop 3).stop (reckI o (s.top 2) (s.top 1) (s.top 0)).2)
 else if o = 25 then s.go a
 else if o = 26 then (if s.top 0 = 1 then (s.pop 1).nxt else (s.pop 1).go a)
 else if o = 27 then (if s.top 0 = 0 then s.go a else (s.pop 1).nxt)
 else if o = 28 then (if s.top 0 = 1 then s.go a else (s.pop 1).nxt)
 else if o = 29 then (s.pop 2).pay hd (s.top 1) (s.top 0)
 else if o = 30 then (if s.top 0 = 1 then (s.pop 1).nxt else { s.pop 1 with fail := a }.stop 1)
 else if o = 31 then { s with fail := a }.stop 1
 else s.stop 0
/-- A value is of its kind. -/
structure Okv (k n : Int) : Prop where
 kd : k = 0 ∨ k = 1
 lo : 0 ≤ n
 hi : n < two64
 b : k = 1 → n = 0 ∨ n = 1
theorem Okv.num {n : Int} (h0 : 0 ≤ n) (h1 : n < two64) : Okv 0 n := ⟨.inl rfl, h0, h1, fun e => by cases e⟩
theorem Okv.bit {n : Int} (h : n = 0 ∨ n = 1) : Okv 1 n := ⟨.inr rfl, by omega, by unfold two64; omega, fun _ => h⟩
/-- The machine's stack is of these kinds. -/
structure Stk (s : Ms) (l : List Bool) : Prop where
 h : s.h = l.length
 k : ∀ j b, l[j]? = some b → s.sk j = bI b
 v : ∀ j, j < s.h → Okv (s.sk j) (s.sv j)
/-- What holds of a machine all along. -/
structure Tm (p : Pv) (k : Kn) (hd : Int) (s : Ms) : Prop where
 run : s.ov = false → ∃ i l, s.pc = ((i : Nat) : Int) ∧ i < p.n ∧ k i = some l ∧ Stk s l
 sl : ∀ j, j < p.ns → Okv (p.S j) (s.slt j)
 l0 : 0 ≤ s.left
 l1 : s.left ≤ 1000
 p0 : 0 ≤ s.paid 0
 p1 : 0 ≤ s.paid 1
 p2 : 0 ≤ s.paid 2
 ps : s.paid 0 + s.paid 1 + s.paid 2 ≤ hd
 e0 : 0 ≤ s.en
 e1 : s.en ≤ 8
 en : s.ov = true → s.pc = -1
section
variable {p : Pv} {k : Kn} {hd : Int} {s : Ms} {ek ev : Nat → Int}
theorem Stk.pop {l : List Bool} {n : Nat} (h : Stk s l) : Stk (s.pop n) (l.take (l.length - n)) := by
 have hh := h.h
 refine ⟨?_, fun j b e => ?_, fun j hj => ?_⟩
 ·show s.h - n = _
  rw [List.length_take]
  omega
 ·rw [List.getElem?_take] at e
  split at e
  ·exact h.k j b e
  ·cases e
 ·have hj : j < s.h - n := hj
  exact h.v j (by omega)
theorem Stk.push {l : List Bool} (h : Stk s l) {b : Bool} {n : Int} (hn : Okv (bI b) n) : Stk (s.push (bI b) n) (l ++ [b]) := by
 have hh := h.h
 refine ⟨?_, fun j x e => ?_, fun j hj => ?_⟩
 ·show s.h + 1 = _
  simp
  omega
 ·show updI s.sk s.h (bI b) j = _
  unfold updI
  by_cases q : j = s.h
  ·rw [if_pos q]
   rw [q, hh, List.getElem?_append_right (Nat.le_refl _)] at e
   simp at e
   rw [e]
  ·rw [if_neg q]
   have : j < l.length := by
    have := (List.getElem?_eq_some_iff.1 e).1
    simp at this
    omega
   rw [List.getElem?_append_left this] at e
   exact h.k j x e
 ·have hj : j < s.h + 1 := hj
  show Okv (updI s.sk s.h (bI b) j) (updI s.sv s.h n j)
  unfold updI
  by_cases q : j = s.h
  ·rw [if_pos q, if_pos q]
   exact hn
  ·rw [if_neg q, if_neg q]
   exact h.v j (by omega)
/-- What lies on top, of its kind. -/
theorem Stk.top {l : List Bool} (h : Stk s l) {i : Nat} (hf : fits p i l) {j : Nat} {b : Bool} (hj : (tkB p i)[(tkB p i).length - 1 - j]? = some b) (hl : j < (tkB p i).length) : Okv (bI b) (s.top j) := by
 have hh := h.h
 obtain ⟨f1, f2, _⟩ := hf
 rw [← f2] at hj
 rw [List.getElem?_drop] at hj
 have f3 := congrArg List.length f2
 rw [List.length_drop] at f3
 have e : l.length - (tkB p i).length + ((List.drop (l.length - (tkB p i).length) l).length - 1 - j) = s.h - 1 - j := by
  rw [List.length_drop]
  omega
 rw [e] at hj
 have := h.v (s.h - 1 - j) (by omega)
 rw [h.k _ _ hj] at this
 exact this
end
end Go.Proofs.YtggpaljilpbmhaaGreatDoor
namespace Go.Proofs.YtggpaljilpbmhaaGreatDoor

/-- How far a machine may still go. -/
def mu (p : Pv) (s : Ms) : Nat := if s.ov = true then 0 else (s.left.toNat + (if p.op s.pc.toNat = 1 then 0 else 1)) * (p.n + 2) + (p.n - s.pc.toNat) + 1
theorem mu_pos {p : Pv} {s : Ms} (h : s.ov = false) : 0 < mu p s := by unfold mu; rw [h]; simp
theorem mu_edge {p : Pv} {s s' : Ms} {i x : Nat} (h : s.ov = false) (h' : s'.ov = false) (hi : s.pc = (i : Nat)) (hx : s'.pc = (x : Nat)) (hin : i < p.n) (hxn : x < p.n) (ho : p.op i ≠ 1) (hb : x ≤ i → p.op x = 1) (hl : s'.left = s.left) : mu p s' < mu p s := by
 unfold mu
 rw [h, h', hi, hx, hl]
 simp only [Bool.false_eq_true, if_false, Int.toNat_natCast]
 rw [if_neg ho]
 by_cases e : x ≤ i
 ·have e0 : (s.left.toNat + 0) * (p.n + 2) = s.left.toNat * (p.n + 2) := by rw [Nat.add_zero]
  have e1 : (s.left.toNat + 1) * (p.n + 2) = s.left.toNat * (p.n + 2) + (p.n + 2) := by rw [Nat.add_mul, Nat.one_mul]
  rw [if_pos (hb e), e0, e1]
  omega
 ·have : (s.left.toNat + (if p.op x = 1 then 0 else 1)) * (p.n + 2) ≤ (s.left.toNat + 1) * (p.n + 2) := Nat.mul_le_mul_right _ (by split <;> omega)
  omega
theorem mu_tick {p : Pv} {s s' : Ms} {i : Nat} (h : s.ov = false) (h' : s'.ov = false) (hi : s.pc = (i : Nat)) (hx : s'.pc = ((i + 1 : Nat) : Int)) (hin : i < p.n) (ho : p.op i = 1) (hl : s'.left = s.left - 1) (h1 : 1 ≤ s.left) : mu p s' < mu p s := by
 unfold mu
 rw [h, h', hi, hx, hl]
 simp only [Bool.false_eq_true, if_false, Int.toNat_natCast]
 rw [if_pos ho]
 have e : (s.left - 1).toNat = s.left.toNat - 1 := by omega
 have : ((s.left - 1).toNat + (if p.op (i + 1) = 1 then 0 else 1)) * (p.n + 2) ≤ (s.left.toNat + 0) * (p.n + 2) := Nat.mul_le_mul_right _ (by rw [e]; split <;> omega)
 omega
theorem reck_ok {o : Nat} {a b c : Int} (ha : 0 ≤ a) (ha2 : a < two64) (hb : 0 ≤ b) (hb2 : b < two64) (hc : 0 ≤ c) : 0 ≤ (reckI o a b c).1 ∧ (reckI o a b c).1 < two64 ∧ 0 ≤ (reckI o a b c).2 ∧ (reckI o a b c).2 ≤ 8 := by
 have hm : 0 ≤ a * b := Int.mul_nonneg ha hb
 have t : (0 : Int) < two64 := by unfold two64; decide
 have G : ∀ {x e : Int}, 0 ≤ x → x < two64 → 0 ≤ e → e ≤ 8 → 0 ≤ ((x, e) : Int × Int).1 ∧ ((x, e) : Int × Int).1 < two64 ∧ 0 ≤ ((x, e) : Int × Int).2 ∧ ((x, e) : Int × Int).2 ≤ 8 := fun a b c d => ⟨a, b, c, d⟩
 unfold reckI
 split
 ·split
  ·exact G (by omega) (by assumption) (by decide) (by decide)
  ·exact G (by decide) t (by decide) (by decide)
 split
 ·split
  ·exact G (by omega) (by omega) (by decide) (by decide)
  ·exact G (by decide) t (by decide) (by decide)
 split
 ·split
  ·exact G hm (by assumption) (by decide) (by decide)
  ·exact G (by decide) t (by decide) (by decide)
 split
 ·split
  ·exact G (by decide) t (by decide) (by decide)
  ·have := Int.ediv_le_self b ha
   exact G (Int.ediv_nonneg ha hb) (by omega) (by decide) (by decide)
 split
 ·split
  ·exact G (by decide) t (by decide) (by decide)
  ·rename_i h0
   have h1 := Int.emod_nonneg a h0
   have h2 := Int.emod_lt_of_pos a (show 0 < b by omega)
   exact G h1 (by omega) (by decide) (by decide)
 split
 ·split
  ·exact G hb hb2 (by decide) (by decide)
  ·exact G ha ha2 (by decide) (by decide)
 split
 ·split
  ·exact G hb hb2 (by decide) (by decide)
  ·exact G ha ha2 (by decide) (by decide)
 split
 ·exact G (by decide) t (by decide) (by decide)
 split
 ·exact G (by decide) t (by decide) (by decide)
 ·rename_i h0 h1
  have h2 : a * b / two64 < c := by omega
  have h3 : a * b < c * two64 := Int.lt_mul_of_ediv_lt t h2
  exact G (Int.ediv_nonneg hm hc) (Int.ediv_lt_of_lt_mul (by omega) (by rw [Int.mul_comm two64 c]; exact h3)) (by decide) (by decide)
/-- What a machine runs with. -/
structure Me (p : Pv) (k : Kn) (ek ev : Nat → Int) (hd : Int) : Prop where
 wf : Wf p
 fl : Flow p k
 C : ∀ j, j < p.nc → 0 ≤ p.C j ∧ p.C j < two64
 E : ∀ a, a < 8 → ek a = bI (decide (a = 7)) ∧ Okv (ek a) (ev a)
 h0 : 0 ≤ hd
 h1 : hd < two64
section
variable {p : Pv} {k : Kn} {hd : Int} {s : Ms} {ek ev : Nat → Int}
/-- A step that goes along an edge. -/
theorem Tm.edge {i x : Nat} {l l' : List Bool} {s' : Ms} (h : Tm p k hd s) (hf : Flow p k) (ho : s.ov = false) (hi : s.pc = (i : Nat)) (hin : i < p.n) (hk : k i = some l) (h1 : p.op i ≠ 1) (hm : (x, l') ∈ edgs p i l) (hx : s'.pc = (x : Nat)) (hv : s'.ov = false) (hs : Stk s' l') (hsl : ∀ j, j < p.ns → Okv (p.S j) (s'.slt j)) (hl : s'.left = s.left) (hp : s'.paid = s.paid) (he : s'.en = s.en) : Tm p k hd s' ∧ mu p s' < mu p s := by
 obtain ⟨g1, g2, g3⟩ := (hf.fl i l hin hk).2 _ hm
 simp only at g1 g2 g3
 refine ⟨⟨fun _ => ⟨x, l', hx, g1, g3, hs⟩, hsl, by rw [hl]; exact h.l0, by rw [hl]; exact h.l1, by rw [hp]; exact h.p0, by rw [hp]; exact h.p1, by rw [hp]; exact h.p2, by rw [hp]; exact h.ps, by rw [he]; exact h.e0, by rw [he]; exact h.e1, fun e => by rw [hv] at e; cases e⟩, mu_edge ho hv hi hx hin g1 h1 g2 hl⟩
/-- A step that ends. -/
theorem Tm.stopped {s' : Ms} (h : Tm p k hd s) (ho : s.ov = false) (hv : s'.ov = true) (hpc : s'.pc = -1) (hsl : s'.slt = s.slt) (hl : s'.left = s.left) (hp : s'.paid = s.paid) (he0 : 0 ≤ s'.en) (he1 : s'.en ≤ 8) : Tm p k hd s' ∧ mu p s' < mu p s := by
 refine ⟨⟨fun e => (by rw [hv] at e; cases e), by rw [hsl]; exact h.sl, by rw [hl]; exact h.l0, by rw [hl]; exact h.l1, by rw [hp]; exact h.p0, by rw [hp]; exact h.p1, by rw [hp]; exact h.p2, by rw [hp]; exact h.ps, he0, he1, fun _ => hpc⟩, ?_⟩
 have : mu p s' = 0 := by unfold mu; rw [if_pos hv]
 rw [this]
 exact mu_pos ho
theorem tk_of {i o : Nat} (h : (p.op i).toNat = o) : tkB p i = colB p (fTakes o) (p.arg i) := by unfold tkB; rw [h]
theorem ly_of {i o : Nat} (h : (p.op i).toNat = o) : lyB p i = colB p (fLays o) (p.arg i) := by unfold lyB; rw [h]
theorem edg_next {i o : Nat} {l : List Bool} (h : (p.op i).toNat = o) (h1 : o ≤ 24 ∨ o = 29 ∨ o = 30) : (i + 1, aft p i l) ∈ edgs p i l := by
 unfold edgs
 rw [h, if_neg (by omega), if_neg (by omega), if_neg (by omega), if_neg (by omega)]
 exact List.mem_cons_self ..
theorem pay_sum {paid : Nat → Int} {m : Nat} {a : Int} (hm : m < 3) : updI paid m (paid m + a) 0 + updI paid m (paid m + a) 1 + updI paid m (paid m + a) 2 = paid 0 + paid 1 + paid 2 + a := by
 match m, hm with
 | 0, _ => simp [updI]; omega
 | 1, _ => simp [updI]; omega
 | 2, _ => simp [updI]; omega
/-- A step keeps what holds, and comes nearer to the end. -/
theorem step_tm (he : Me p k ek ev hd) (h : Tm p k hd s) (ho : s.ov = false) : Tm p k hd (stepF p ek ev hd s) ∧ mu p (stepF p ek ev hd s) < mu p s := by
 obtain ⟨i, l, hi, hin, hk, hs⟩ := h.run ho
 have hfl := he.fl
 have hft := (he.fl.fl i l hin hk).1
 have hII := he.wf.ins i hin
 obtain ⟨h32a, h32b, hcast⟩ := op_nat hII
 have ht : s.pc.toNat = i := by rw [hi]; rfl
 obtain ⟨o, hop⟩ : ∃ o, (p.op i).toNat = o := ⟨_, rfl⟩
 have ho1 : 1 ≤ o := by omega
 have ho2 : o ≤ 32 := by omega
 have htk := tk_of hop
 have hly := ly_of hop
 have harg := hII.a
 rw [hop] at harg
 have hop1 : ∀ {q : Nat}, o = q → p.op i = q := fun e => by rw [hcast, hop, e]
 have hn1 : o ≠ 1 → p.op i ≠ 1 := fun e q => e (by rw [← hop, q]; rfl)
 have hx1 : ∀ a : Ms, a.pc = s.pc → a.nxt.pc = ((i + 1 : Nat) : Int) := fun a e => by show a.pc + 1 = _; rw [e, hi]; rfl
 have aft0 : ∀ {m : Nat} {tk ly : List Bool}, tkB p i = tk → lyB p i = ly → tk.length = m → aft p i l = l.take (l.length - m) ++ ly := fun e1 e2 e3 => by unfold aft; rw [e1, e2, e3]
 unfold stepF
 simp only [ht, hop]
 by_cases q1 : o = 1
 ·rw [if_pos q1]
  subst q1
  by_cases ql : s.left = 0
  ·rw [if_pos ql]
   exact h.stopped ho rfl rfl rfl rfl rfl (show (0 : Int) ≤ 2 by decide) (show (2 : Int) ≤ 8 by decide)
  ·rw [if_neg ql]
   have hl0 := h.l0
   have hl1 := h.l1
   obtain ⟨g1, g2, g3⟩ := hft
   have hm := edg_next (l := l) hop (.inl (by decide))
   obtain ⟨k1, k2, k3⟩ := (hfl.fl i l hin hk).2 _ hm
   have ea : aft p i l = l := by
    rw [aft0 (m := 0) (tk := []) (ly := []) (htk.trans (by rfl)) (hly.trans (by rfl)) rfl]
    simp
   rw [ea] at k3
   refine ⟨⟨fun _ => ⟨i + 1, l, hx1 _ rfl, k1, k3, ⟨hs.h, hs.k, hs.v⟩⟩, h.sl, by show 0 ≤ s.left - 1; omega, by show s.left - 1 ≤ 1000; omega, h.p0, h.p1, h.p2, h.ps, h.e0, h.e1, fun e => by rw [show ({ s with left := s.left - 1 } : Ms).nxt.ov = s.ov from rfl, ho] at e; cases e⟩, ?_⟩
   exact mu_tick ho ho hi (hx1 _ rfl) hin (by rw [hcast, hop]; rfl) rfl (by omega)
 rw [if_neg q1]
 have hE := fun {x : Nat} {l' : List Bool} {s' : Ms} => h.edge (x := x) (l' := l') (s' := s') hfl ho hi hin hk (hn1 q1)
 -- an instruction that lays up one value
 have hpush : ∀ {m : Nat} {b : Bool} {n : Int}, (o ≤ 24 ∨ o = 29 ∨ o = 30) → (tkB p i).length = m → lyB p i = [b] → Okv (bI b) n → Tm p k hd ((s.pop m).push (bI b) n).nxt ∧ mu p ((s.pop m).push (bI b) n).nxt < mu p s := fun {m b n} hq e1 e2 hv => by
  refine hE (edg_next hop hq) (hx1 _ rfl) ho ?_ h.sl rfl rfl rfl
  have e3 := (hs.pop (n := m)).push hv
  rw [aft0 rfl e2 e1]
  exact ⟨e3.h, e3.k, e3.v⟩
 have pop0 : s.pop 0 = s := rfl
 by_cases q2 : o = 2
 ·rw [if_pos q2]
  subst q2
  have hpl := isPl_nat (show isPl (p.arg i) p.nc = true by simpa [argF, fArg, formT] using harg)
  have := hpush (m := 0) (b := false) (n := p.C (p.arg i).toNat) (.inl (by decide)) (by rw [htk]; rfl) (hly.trans (by rfl)) (Okv.num (he.C _ hpl.2).1 (he.C _ hpl.2).2)
  exact this
 rw [if_neg q2]
 by_cases q3 : o = 3
 ·rw [if_pos q3]
  subst q3
  exact hpush (m := 0) (b := true) (n := 1) (.inl (by decide)) (by rw [htk]; rfl) (hly.trans (by rfl)) (Okv.bit (.inr rfl))
 rw [if_neg q3]
 by_cases q4 : o = 4
 ·rw [if_pos q4]
  subst q4
  exact hpush (m := 0) (b := true) (n := 0) (.inl (by decide)) (by rw [htk]; rfl) (hly.trans (by rfl)) (Okv.bit (.inl rfl))
 rw [if_neg q4]
 by_cases q5 : o = 5
 ·rw [if_pos q5]
  subst q5
  have hpl := isPl_nat (show isPl (p.arg i) 8 = true by simpa [argF, fArg, formT] using harg)
  obtain ⟨e1, e2⟩ := he.E _ hpl.2
  have e3 : lyB p i = [decide ((p.arg i).toNat = 7)] := by
   rw [hly]
   show [decide (p.arg i = 7)] = _
   congr 1
   exact decide_eq_decide.2 (by omega)
  rw [e1] at e2 ⊢
  exact hpush (m := 0) (.inl (by decide)) (by rw [htk]; rfl) e3 e2
 rw [if_neg q5]
 by_cases q6 : o = 6
 ·rw [if_pos q6]
  subst q6
  have hpl := isPl_nat (show isPl (p.arg i) p.ns = true by simpa [argF, fArg, formT] using harg)
  have e2 := h.sl _ hpl.2
  have e3 : lyB p i = [decide (p.S (p.arg i).toNat = 1)] := by rw [hly]; rfl
  have e4 : p.S (p.arg i).toNat = bI (decide (p.S (p.arg i).toNat = 1)) := by
   rcases e2.kd with q | q <;> rw [q] <;> rfl
  have := hpush (m := 0) (b := decide (p.S (p.arg i).toNat = 1)) (n := s.slt (p.arg i).toNat) (.inl (by decide)) (by rw [htk]; rfl) e3 (by rw [← e4]; exact e2)
  rw [← e4] at this
  exact this
 rw [if_neg q6]
 by_cases q7 : o = 7
 ·rw [if_pos q7]
  subst q7
  have hpl := isPl_nat (show isPl (p.arg i) p.ns = true by simpa [argF, fArg, formT] using harg)
  have e3 : tkB p i = [decide (p.S (p.arg i).toNat = 1)] := by rw [htk]; rfl
  have e4 : p.S (p.arg i).toNat = bI (decide (p.S (p.arg i).toNat = 1)) := by
   rcases (h.sl _ hpl.2).kd with q | q <;> rw [q] <;> rfl
  have ev := hs.top hft (j := 0) (b := decide (p.S (p.arg i).toNat = 1)) (by rw [e3]; rfl) (by rw [e3]; exact Nat.zero_lt_one)
  rw [← e4] at ev
  refine hE (edg_next hop (.inl (by decide))) (hx1 _ rfl) ho ?_ (fun j hj => ?_) rfl rfl rfl
  ·have e5 := hs.pop (n := 1)
   rw [aft0 (m := 1) (ly := []) e3 (hly.trans (by rfl)) rfl, List.append_nil]
   exact ⟨e5.h, e5.k, e5.v⟩
  ·show Okv (p.S j) (updI s.slt (p.arg i).toNat (s.top 0) j)
   unfold updI
   by_cases ej : j = (p.arg i).toNat
   ·rw [if_pos ej, ej]; exact ev
   ·rw [if_neg ej]; exact h.sl j hj
 rw [if_neg q7]
 by_cases q8 : o = 8
 ·rw [if_pos q8]
  subst q8
  have e3 : tkB p i = [true] := by rw [htk]; rfl
  have ev := hs.top hft (j := 0) (b := true) (by rw [e3]; rfl) (by rw [e3]; decide)
  exact hpush (m := 1) (b := true) (n := 1 - s.top 0) (.inl (by decide)) (by rw [e3]; rfl) (hly.trans (by rfl)) (Okv.bit (by have := ev.b rfl; omega))
 rw [if_neg q8]
 by_cases q16 : o ≤ 16
 ·rw [if_pos q16]
  have t1 : ∀ o, o ≤ 16 → 9 ≤ o → (colB p (fTakes o) (p.arg i)).length = 2 ∧ colB p (fLays o) (p.arg i) = [true] := fun o a b => by
   have hc : o = 9 ∨ o = 10 ∨ o = 11 ∨ o = 12 ∨ o = 13 ∨ o = 14 ∨ o = 15 ∨ o = 16 := by omega
   rcases hc with rfl | rfl | rfl | rfl | rfl | rfl | rfl | rfl <;> exact ⟨rfl, rfl⟩
  obtain ⟨t2, t3⟩ := t1 o q16 (by omega)
  refine hpush (m := 2) (b := true) (.inl (by omega)) (by rw [htk]; exact t2) (hly.trans t3) (Okv.bit ?_)
  cases cmpB o (s.top 1) (s.top 0) <;> simp [bI]
 rw [if_neg q16]
 have tnum : ∀ {j m : Nat}, tkB p i = List.replicate m false → j < m → 0 ≤ s.top j ∧ s.top j < two64 := fun {j m} e hj => by
  have := hs.top hft (j := j) (b := false) (by rw [e, List.getElem?_replicate]; simp; omega) (by rw [e]; simpa using hj)
  exact ⟨this.lo, this.hi⟩
 by_cases q23 : o ≤ 23
 ·rw [if_pos q23]
  have t1 : ∀ o, o ≤ 23 → 17 ≤ o → colB p (fTakes o) (p.arg i) = List.replicate 2 false ∧ colB p (fLays o) (p.arg i) = [false] := fun o a b => by
   have hc : o = 17 ∨ o = 18 ∨ o = 19 ∨ o = 20 ∨ o = 21 ∨ o = 22 ∨ o = 23 := by omega
   rcases hc with rfl | rfl | rfl | rfl | rfl | rfl | rfl <;> exact ⟨rfl, rfl⟩
  obtain ⟨t2, t3⟩ := t1 o q23 (by omega)
  have v0 := tnum (j := 0) (htk.trans t2) (by decide)
  have v1 := tnum (j := 1) (htk.trans t2) (by decide)
  obtain ⟨r0, r1, r2, r3⟩ := reck_ok (o := o) v1.1 v1.2 v0.1 v0.2 (Int.le_refl 0)
  by_cases qe : (reckI o (s.top 1) (s.top 0) 0).2 = 0
  ·rw [if_pos qe]
   exact hpush (m := 2) (b := false) (.inl (by omega)) (by rw [htk, t2]; rfl) (hly.trans t3) (Okv.num r0 r1)
  ·rw [if_neg qe]
   exact h.stopped ho rfl rfl rfl rfl rfl r2 r3
 rw [if_neg q23]
 by_cases q24 : o = 24
 ·rw [if_pos q24]
  have t2 : tkB p i = List.replicate 3 false := by rw [htk, q24]; rfl
  have t3 : lyB p i = [false] := by rw [hly, q24]; rfl
  have v0 := tnum (j := 0) t2 (by decide)
  have v1 := tnum (j := 1) t2 (by decide)
  have v2 := tnum (j := 2) t2 (by decide)
  obtain ⟨r0, r1, r2, r3⟩ := reck_ok (o := o) v2.1 v2.2 v1.1 v1.2 v0.1
  by_cases qe : (reckI o (s.top 2) (s.top 1) (s.top 0)).2 = 0
  ·rw [if_pos qe]
   exact hpush (m := 3) (b := false) (.inl (by omega)) (by rw [t2]; rfl) t3 (Okv.num r0 r1)
  ·rw [if_neg qe]
   exact h.stopped ho rfl rfl rfl rfl rfl r2 r3
 rw [if_neg q24]
 have hplace : 25 ≤ o → o ≤ 28 → p.arg i = (((p.arg i).toNat : Nat) : Int) := fun a b => (isPl_nat (hII.way (by unfold wayP; simp; omega))).1
 have hsame : ∀ {s' : Ms} {l' : List Bool}, s'.h = s.h → s'.sk = s.sk → s'.sv = s.sv → l' = l → Stk s' l' := fun e1 e2 e3 e4 => by subst e4; exact ⟨e1.trans hs.h, fun j b e => by rw [e2]; exact hs.k j b e, fun j hj => by rw [e2, e3]; exact hs.v j (by rw [← e1]; exact hj)⟩
 by_cases q25 : o = 25
 ·rw [if_pos q25]
  subst q25
  have ea : aft p i l = l := by
    rw [aft0 (m := 0) (tk := []) (ly := []) (htk.trans (by rfl)) (hly.trans (by rfl)) rfl]
    simp
  refine hE (x := (p.arg i).toNat) (l' := l) ?_ (hplace (by decide) (by decide)) ho (hsame rfl rfl rfl rfl) h.sl rfl rfl rfl
  unfold edgs
  rw [hop, if_neg (by decide), if_pos rfl, ea]
  exact List.mem_cons_self ..
 rw [if_neg q25]
 have hpop1 : ∀ {l' : List Bool}, tkB p i = [true] → lyB p i = [] → l' = aft p i l → ∀ {s' : Ms}, s'.h = s.h - 1 → s'.sk = s.sk → s'.sv = s.sv → Stk s' l' := fun {l'} e1 e2 e3 {s'} a1 a2 a3 => by
  have e5 := hs.pop (n := 1)
  rw [e3, aft0 (m := 1) e1 e2 rfl, List.append_nil]
  exact ⟨a1.trans e5.h, fun j b e => by rw [a2]; exact e5.k j b e, fun j hj => by rw [a2, a3]; exact e5.v j (by show j < s.h - 1; rw [← a1]; exact hj)⟩
 by_cases q26 : o = 26
 ·rw [if_pos q26]
  subst q26
  have t2 : tkB p i = [true] := by rw [htk]; rfl
  have t3 : lyB p i = [] := by rw [hly]; rfl
  by_cases qe : s.top 0 = 1
  ·rw [if_pos qe]
   refine hE (x := i + 1) (l' := aft p i l) ?_ (hx1 _ rfl) ho (hpop1 t2 t3 rfl rfl rfl rfl) h.sl rfl rfl rfl
   unfold edgs
   rw [hop, if_neg (by decide), if_neg (by decide), if_neg (by decide), if_pos rfl]
   exact List.mem_cons_of_mem _ (List.mem_cons_self ..)
  ·rw [if_neg qe]
   refine hE (x := (p.arg i).toNat) (l' := aft p i l) ?_ (hplace (by decide) (by decide)) ho (hpop1 t2 t3 rfl rfl rfl rfl) h.sl rfl rfl rfl
   unfold edgs
   rw [hop, if_neg (by decide), if_neg (by decide), if_neg (by decide), if_pos rfl]
   exact List.mem_cons_self ..
 rw [if_neg q26]
 have hskip : o = 27 ∨ o = 28 → (Tm p k hd (s.go (p.arg i)) ∧ mu p (s.go (p.arg i)) < mu p s) ∧ (Tm p k hd (s.pop 1).nxt ∧ mu p (s.pop 1).nxt < mu p s) := fun hq => by
  have t2 : tkB p i = [true] := by rw [htk]; rcases hq with q | q <;> rw [q] <;> rfl
  have t3 : lyB p i = [] := by rw [hly]; rcases hq with q | q <;> rw [q] <;> rfl
  have em : edgs p i l = [((p.arg i).toNat, l), (i + 1, aft p i l)] := by
   unfold edgs
   rw [hop, if_neg (by omega), if_neg (by omega), if_pos hq]
  constructor
  ·refine hE (x := (p.arg i).toNat) (l' := l) ?_ (hplace (by omega) (by omega)) ho (hsame rfl rfl rfl rfl) h.sl rfl rfl rfl
   rw [em]
   exact List.mem_cons_self ..
  ·refine hE (x := i + 1) (l' := aft p i l) ?_ (hx1 _ rfl) ho (hpop1 t2 t3 rfl rfl rfl rfl) h.sl rfl rfl rfl
   rw [em]
   exact List.mem_cons_of_mem _ (List.mem_cons_self ..)
 by_cases q27 : o = 27
 ·rw [if_pos q27]
  split
  ·exact (hskip (.inl q27)).1
  ·exact (hskip (.inl q27)).2
 rw [if_neg q27]
 by_cases q28 : o = 28
 ·rw [if_pos q28]
  split
  ·exact (hskip (.inr q28)).1
  ·exact (hskip (.inr q28)).2
 rw [if_neg q28]
 by_cases q29 : o = 29
 ·rw [if_pos q29]
  subst q29
  have t2 : tkB p i = List.replicate 2 false := by rw [htk]; rfl
  have t3 : lyB p i = [] := by rw [hly]; rfl
  have v0 := tnum (j := 0) t2 (by decide)
  have v1 := tnum (j := 1) t2 (by decide)
  unfold Ms.pay
  split
  ·exact h.stopped ho rfl rfl rfl rfl rfl (show (0 : Int) ≤ 6 by decide) (show (6 : Int) ≤ 8 by decide)
  ·rename_i hp1
   split
   ·exact h.stopped ho rfl rfl rfl rfl rfl (show (0 : Int) ≤ 5 by decide) (show (5 : Int) ≤ 8 by decide)
   ·rename_i hp2
    have hp2 : ¬ hd - s.paid 0 - s.paid 1 - s.paid 2 < s.top 1 := hp2
    have hm := edg_next (l := l) hop (.inr (.inl rfl))
    obtain ⟨k1, k2, k3⟩ := (hfl.fl i l hin hk).2 _ hm
    simp only at k1 k2 k3
    have ex : s.pc + 1 = ((i + 1 : Nat) : Int) := by rw [hi]; rfl
    have m3 : (s.top 0 - 1).toNat < 3 := by omega
    have e5 := hs.pop (n := 2)
    have ea : aft p i l = l.take (l.length - 2) := by rw [aft0 (m := 2) t2 t3 rfl, List.append_nil]
    rw [ea] at k3
    have hpos : ∀ j, 0 ≤ s.paid j → 0 ≤ updI s.paid (s.top 0 - 1).toNat (s.paid (s.top 0 - 1).toNat + s.top 1) j ∨ ¬ 0 ≤ s.paid (s.top 0 - 1).toNat := fun j hj => by
     unfold updI
     split
     ·by_cases q : 0 ≤ s.paid (s.top 0 - 1).toNat
      ·left; omega
      ·exact .inr q
     ·exact .inl hj
    have hpm : 0 ≤ s.paid (s.top 0 - 1).toNat := by
     have : (s.top 0 - 1).toNat = 0 ∨ (s.top 0 - 1).toNat = 1 ∨ (s.top 0 - 1).toNat = 2 := by omega
     rcases this with q | q | q <;> rw [q]
     ·exact h.p0
     ·exact h.p1
     ·exact h.p2
    have hq : ∀ j, 0 ≤ s.paid j → 0 ≤ updI s.paid (s.top 0 - 1).toNat (s.paid (s.top 0 - 1).toNat + s.top 1) j := fun j hj => by
     rcases hpos j hj with q | q
     ·exact q
     ·exact absurd hpm q
    refine ⟨⟨fun _ => ⟨i + 1, _, ex, k1, k3, ⟨e5.h, e5.k, e5.v⟩⟩, h.sl, h.l0, h.l1, hq 0 h.p0, hq 1 h.p1, hq 2 h.p2, ?_, h.e0, h.e1, fun e => ?_⟩, ?_⟩
    ·have hq2 := pay_sum (paid := s.paid) (a := s.top 1) m3
     have hps := h.ps
     show updI s.paid (s.top 0 - 1).toNat (s.paid (s.top 0 - 1).toNat + s.top 1) 0 + updI s.paid (s.top 0 - 1).toNat (s.paid (s.top 0 - 1).toNat + s.top 1) 1 + updI s.paid (s.top 0 - 1).toNat (s.paid (s.top 0 - 1).toNat + s.top 1) 2 ≤ hd
     rw [hq2]
     omega
    ·have e : s.ov = true := e
     rw [ho] at e
     cases e
    ·exact mu_edge ho ho hi ex hin k1 (hn1 q1) k2 rfl
 rw [if_neg q29]
 by_cases q30 : o = 30
 ·rw [if_pos q30]
  subst q30
  have t2 : tkB p i = [true] := by rw [htk]; rfl
  have t3 : lyB p i = [] := by rw [hly]; rfl
  split
  ·exact hE (edg_next hop (.inr (.inr rfl))) (hx1 _ rfl) ho (hpop1 t2 t3 rfl rfl rfl rfl) h.sl rfl rfl rfl
  ·exact h.stopped ho rfl rfl rfl rfl rfl (show (0 : Int) ≤ 1 by decide) (show (1 : Int) ≤ 8 by decide)
 rw [if_neg q30]
 split
 ·exact h.stopped ho rfl rfl rfl rfl rfl (show (0 : Int) ≤ 1 by decide) (show (1 : Int) ≤ 8 by decide)
 ·exact h.stopped ho rfl rfl rfl rfl rfl (show (0 : Int) ≤ 0 by decide) (show (0 : Int) ≤ 8 by decide)
/-- Some steps. -/
def runN (p : Pv) (ek ev : Nat → Int) (hd : Int) : Nat → Ms → Ms
 | 0, s => s
 | n + 1, s => if s.ov = true then s else runN p ek ev hd n (stepF p ek ev hd s)
theorem runN_over {n : Nat} (h : s.ov = true) : runN p ek ev hd n s = s := by
 cases n with
 | zero => rfl
 | succ n => show (if s.ov = true then s else _) = s; rw [if_pos h]
theorem runN_end (he : Me p k ek ev hd) : ∀ {n : Nat} {s : Ms}, Tm p k hd s → mu p s ≤ n → (runN p ek ev hd n s).ov = true
 | 0, s, h, hm => by
  cases e : s.ov with
  | true => exact e
  | false => have := mu_pos (p := p) e; omega
 | n + 1, s, h, hm => by
  show (if s.ov = true then s else runN p ek ev hd n (stepF p ek ev hd s)).ov = true
  cases e : s.ov with
  | true => exact e
  | false =>
   have := step_tm he h e
   exact runN_end he this.1 (by omega)
/-- More steps than it takes turn nothing. -/
theorem runN_more : ∀ {n m : Nat} {s : Ms}, (runN p ek ev hd n s).ov = true → n ≤ m → runN p ek ev hd m s = runN p ek ev hd n s
 | 0, m, s, h, _ => runN_over h
 | n + 1, 0, _, _, hm => by omega
 | n + 1, m + 1, s, h, hm => by
  have h : (if s.ov = true then s else runN p ek ev hd n (stepF p ek ev hd s)).ov = true := h
  show (if s.ov = true then s else runN p ek ev hd m (stepF p ek ev hd s)) = (if s.ov = true then s else runN p ek ev hd n (stepF p ek ev hd s))
  cases e : s.ov with
  | true => rfl
  | false =>
   rw [e] at h
   simp only [Bool.false_eq_true, if_false] at h ⊢
   exact runN_more h (by omega)
theorem mu_le (h : Tm p k hd s) (hw : Wf p) : mu p s ≤ 1200000 := by
 unfold mu
 split
 ·omega
 ·have h1 := h.l1
  have h2 := hw.sz.2.2
  have : (s.left.toNat + (if p.op s.pc.toNat = 1 then 0 else 1)) * (p.n + 2) ≤ 1001 * 1026 := Nat.mul_le_mul (by split <;> omega) (by omega)
  omega
end
end Go.Proofs.YtggpaljilpbmhaaGreatDoor
