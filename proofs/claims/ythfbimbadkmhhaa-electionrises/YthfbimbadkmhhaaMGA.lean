import Derived.Test.YthfbimbadkmhhaaPBase
namespace Go.Proofs.Ythfbimbadkmhhaa
open Go.RowKit Crc

/-- A request as it lies. -/
structure Rq where
  (cl sq : Nat) (co : Option Addr) (cn cc : Nat) (C : List Nat)
def Rq.cells (r : Rq) : Array Value := #[.int .u64 (r.cl : Int), .int .u64 (r.sq : Int), .slice r.co r.cn r.cc]
structure Rq.Ok (lim : Nat) (w : World) (r : Rq) : Prop where
  hc : r.cl < 18446744073709551616
  hs : r.sq < 18446744073709551616
  hC : Shows lim w r.co r.cn r.cc r.C
/-- Requests as they lie, one behind the other. -/
structure Rqs (lim : Nat) (w : World) (ro : Option Addr) (rs : List Rq) (b off : Nat) : Prop where
  ad : 0 < rs.length → ro = some ⟨b, off, none⟩
  lt : 0 < rs.length → b < lim
  le : rs.length ≤ 3518437208883
  at_ : ∀ (i : Nat) (r : Rq), rs[i]? = some r → ∀ j v, r.cells[j]? = some v → w.cell? ⟨b, off + i * 3 + j, none⟩ = some v
  ok : ∀ r ∈ rs, r.Ok lim w
theorem Shows.belowL {lim : Nat} {w w' : World} {ao : Option Addr} {n cap : Nat} {B : List Nat} (h : Shows lim w ao n cap B) (hb : Below lim w w') : Shows lim w' ao n cap B := by
  obtain ⟨h1, h2, h3, h4, b, off, h5, h6, h7⟩ := h
  exact ⟨h1, h2, h3, h4, b, off, h5, h6, fun i hi => (hb.cell (p := ⟨b, _, none⟩) (h6 (by omega))).trans (h7 i hi)⟩
theorem Rq.Ok.below {lim : Nat} {w w' : World} {r : Rq} (h : r.Ok lim w) (hb : Below lim w w') : r.Ok lim w' := ⟨h.hc, h.hs, h.hC.belowL hb⟩
theorem Rqs.below {lim : Nat} {w w' : World} {ro : Option Addr} {rs : List Rq} {b off : Nat} (h : Rqs lim w ro rs b off) (hb : Below lim w w') : Rqs lim w' ro rs b off :=
  ⟨h.ad, h.lt, h.le, fun i r hr j v hv => (hb.cell (p := ⟨b, _, none⟩) (h.lt (by have := (List.getElem?_eq_some_iff.1 hr).1; omega))).trans (h.at_ i r hr j v hv), fun r hr => (h.ok r hr).below hb⟩
/-- The request at a place. -/
theorem Rqs.get {lim : Nat} {w : World} {ro : Option Addr} {rs : List Rq} {b off : Nat} (h : Rqs lim w ro rs b off) {k : Nat} (hk : k < rs.length) :
    ∃ r, rs[k]? = some r ∧ rs.drop k = r :: rs.drop (k + 1) ∧ r.Ok lim w ∧ b < lim ∧ ro = some ⟨b, off, none⟩ ∧ w.cell? ⟨b, off + k * 3, none⟩ = some (.int .u64 (r.cl : Int)) ∧ w.cell? ⟨b, off + k * 3 + 1, none⟩ = some (.int .u64 (r.sq : Int)) ∧ w.cell? ⟨b, off + k * 3 + 2, none⟩ = some (.slice r.co r.cn r.cc) := by
  have hg : rs[k]? = some rs[k] := List.getElem?_eq_getElem hk
  exact ⟨rs[k], hg, List.drop_eq_getElem_cons hk, h.ok _ (List.getElem_mem hk), h.lt (by omega), h.ad (by omega), h.at_ k _ hg 0 _ rfl, h.at_ k _ hg 1 _ rfl, h.at_ k _ hg 2 _ rfl⟩

/-- Why a request may not be; why a batch may not be, and where. -/
def Rq.why (r : Rq) : Int := if r.cl < 256 then 29 else if 700 < r.cn then 21 else 0
def bGo : List Rq → Nat → Nat × Int
  | [], _ => (0, 0)
  | r :: t, i => if r.why = 0 then bGo t (i + 1) else (2 + i, r.why)
def bFault (stamp : Nat) (rs : List Rq) : Nat × Int := if 1099511627776 < stamp then (0, 29) else if 8 < rs.length then (1, 21) else bGo rs 0

theorem below_alloc1 (w : World) (o : Obj) : Below w.heap.size w (w.alloc o) := (Below.refl _ w).alloc (Nat.le_refl _) o
end Go.Proofs.Ythfbimbadkmhhaa
namespace Go.Proofs.Ythfbimbadkmhhaa
open Go.RowKit

/-- Is n in the set? -/
def hasB (s : Nat) (n : Int) : Bool := decide (0 ≤ n ∧ n < 32) && s.testBit n.toNat
/-- n's own set. -/
def aloneB (n : Int) : Nat := if 0 ≤ n ∧ n < 32 then 2 ^ n.toNat else 0
theorem aloneB_lt (n : Int) : aloneB n < 4294967296 := by
  unfold aloneB
  split
  · have : 2 ^ n.toNat ≤ 2 ^ 31 := Nat.pow_le_pow_right (by omega) (by omega)
    omega
  · omega
theorem and_alone (s : Nat) (n : Int) : (s &&& aloneB n = 0) ↔ hasB s n = false := by
  unfold aloneB hasB
  by_cases h : 0 ≤ n ∧ n < 32
  · rw [if_pos h, decide_eq_true h, Bool.true_and]
    constructor
    · intro e
      have h1 : (s &&& 2 ^ n.toNat).testBit n.toNat = false := by rw [e]; simp
      rw [Nat.testBit_and, Nat.testBit_two_pow_self, Bool.and_true] at h1
      exact h1
    · intro e
      apply Nat.eq_of_testBit_eq
      intro i
      rw [Nat.testBit_and, Nat.zero_testBit]
      by_cases hi : n.toNat = i
      · subst hi; rw [e]; rfl
      · rw [Nat.testBit_two_pow_of_ne hi, Bool.and_false]
  · rw [if_neg h, decide_eq_false h, Bool.false_and]
    simp
set_option maxRecDepth 10000 in
set_option maxHeartbeats 800000 in
theorem alone_small (k : Nat) (h : k < 32) (w : World) :
    Calls Try.prog 52 #[.int .i64 (k : Nat)] w fun e w' => e = .returned (.int .u32 ((2 ^ k : Nat) : Int)) ∧ w' = w := by
  match k, h with
  | 0, _ => go_enter Try.func52, Try.ntmps52; go_wp2; go_ret; exact ⟨rfl, rfl⟩
  | 1, _ => go_enter Try.func52, Try.ntmps52; go_wp2; go_ret; exact ⟨rfl, rfl⟩
  | 2, _ => go_enter Try.func52, Try.ntmps52; go_wp2; go_ret; exact ⟨rfl, rfl⟩
  | 3, _ => go_enter Try.func52, Try.ntmps52; go_wp2; go_ret; exact ⟨rfl, rfl⟩
  | 4, _ => go_enter Try.func52, Try.ntmps52; go_wp2; go_ret; exact ⟨rfl, rfl⟩
  | 5, _ => go_enter Try.func52, Try.ntmps52; go_wp2; go_ret; exact ⟨rfl, rfl⟩
  | 6, _ => go_enter Try.func52, Try.ntmps52; go_wp2; go_ret; exact ⟨rfl, rfl⟩
  | 7, _ => go_enter Try.func52, Try.ntmps52; go_wp2; go_ret; exact ⟨rfl, rfl⟩
  | 8, _ => go_enter Try.func52, Try.ntmps52; go_wp2; go_ret; exact ⟨rfl, rfl⟩
  | 9, _ => go_enter Try.func52, Try.ntmps52; go_wp2; go_ret; exact ⟨rfl, rfl⟩
  | 10, _ => go_enter Try.func52, Try.ntmps52; go_wp2; go_ret; exact ⟨rfl, rfl⟩
  | 11, _ => go_enter Try.func52, Try.ntmps52; go_wp2; go_ret; exact ⟨rfl, rfl⟩
  | 12, _ => go_enter Try.func52, Try.ntmps52; go_wp2; go_ret; exact ⟨rfl, rfl⟩
  | 13, _ => go_enter Try.func52, Try.ntmps52; go_wp2; go_ret; exact ⟨rfl, rfl⟩
  | 14, _ => go_enter Try.func52, Try.ntmps52; go_wp2; go_ret; exact ⟨rfl, rfl⟩
  | 15, _ => go_enter Try.func52, Try.ntmps52; go_wp2; go_ret; exact ⟨rfl, rfl⟩
  | 16, _ => go_enter Try.func52, Try.ntmps52; go_wp2; go_ret; exact ⟨rfl, rfl⟩
  | 17, _ => go_enter Try.func52, Try.ntmps52; go_wp2; go_ret; exact ⟨rfl, rfl⟩
  | 18, _ => go_enter Try.func52, Try.ntmps52; go_wp2; go_ret; exact ⟨rfl, rfl⟩
  | 19, _ => go_enter Try.func52, Try.ntmps52; go_wp2; go_ret; exact ⟨rfl, rfl⟩
  | 20, _ => go_enter Try.func52, Try.ntmps52; go_wp2; go_ret; exact ⟨rfl, rfl⟩
  | 21, _ => go_enter Try.func52, Try.ntmps52; go_wp2; go_ret; exact ⟨rfl, rfl⟩
  | 22, _ => go_enter Try.func52, Try.ntmps52; go_wp2; go_ret; exact ⟨rfl, rfl⟩
  | 23, _ => go_enter Try.func52, Try.ntmps52; go_wp2; go_ret; exact ⟨rfl, rfl⟩
  | 24, _ => go_enter Try.func52, Try.ntmps52; go_wp2; go_ret; exact ⟨rfl, rfl⟩
  | 25, _ => go_enter Try.func52, Try.ntmps52; go_wp2; go_ret; exact ⟨rfl, rfl⟩
  | 26, _ => go_enter Try.func52, Try.ntmps52; go_wp2; go_ret; exact ⟨rfl, rfl⟩
  | 27, _ => go_enter Try.func52, Try.ntmps52; go_wp2; go_ret; exact ⟨rfl, rfl⟩
  | 28, _ => go_enter Try.func52, Try.ntmps52; go_wp2; go_ret; exact ⟨rfl, rfl⟩
  | 29, _ => go_enter Try.func52, Try.ntmps52; go_wp2; go_ret; exact ⟨rfl, rfl⟩
  | 30, _ => go_enter Try.func52, Try.ntmps52; go_wp2; go_ret; exact ⟨rfl, rfl⟩
  | 31, _ => go_enter Try.func52, Try.ntmps52; go_wp2; go_ret; exact ⟨rfl, rfl⟩
  | n + 32, h => exact absurd h (by omega)
set_option maxRecDepth 10000 in
set_option maxHeartbeats 800000 in
theorem alone_any (n : Int) (w : World) :
    Calls Try.prog 52 #[.int .i64 n] w fun e w' => e = .returned (.int .u32 ((aloneB n : Nat) : Int)) ∧ w' = w := by
  by_cases h : 0 ≤ n ∧ n < 32
  · obtain ⟨k, hk⟩ := Int.eq_ofNat_of_zero_le h.1
    subst hk
    have e : aloneB (k : Int) = 2 ^ k := by unfold aloneB; rw [if_pos h]; simp
    rw [e]
    exact alone_small k (by omega) w
  · have hv : Hid (aloneB n = 0) := by show _ = _; unfold aloneB; rw [if_neg h]
    generalize aloneB n = v at *
    by_cases h0 : n < 0
    · go_enter Try.func52, Try.ntmps52
      go_wp2
      go_ret
      exact ⟨by rw [hv.out]; rfl, rfl⟩
    · have h1 : n ≥ 32 := by omega
      go_enter Try.func52, Try.ntmps52
      go_wp2
      go_ret
      exact ⟨by rw [hv.out]; rfl, rfl⟩
set_option maxRecDepth 10000 in
set_option maxHeartbeats 400000 in
theorem has_any (s : Nat) (hs : s < 4294967296) (n : Int) (w : World) :
    Calls Try.prog 58 #[.int .u32 (s : Nat), .int .i64 n] w fun e w' => e = .returned (.bool (hasB s n)) ∧ w' = w := by
  have HA := hide (alone_any n w)
  have hb : bits .and .u32 (s : Int) (aloneB n : Int) = ((s &&& aloneB n : Nat) : Int) := u32_and_nat s (aloneB n) hs (aloneB_lt n)
  have HV : Hid (hasB s n = !decide (((s &&& aloneB n : Nat) : Int) = 0)) := by
    show _ = _
    have := and_alone s n
    cases hh : hasB s n with
    | false => rw [hh] at this; rw [decide_eq_true (by have := this.2 rfl; omega)]; rfl
    | true =>
      rw [decide_eq_false (fun e => by have h0 := this.1 (by omega); rw [hh] at h0; cases h0)]
      rfl
  generalize hasB s n = v at *
  generalize ((s &&& aloneB n : Nat) : Int) = x at *
  generalize (aloneB n : Int) = y at *
  generalize (s : Int) = s at *
  go_enter Try.func58, Try.ntmps58
  go_wp2_with fail
  refine HA.out.mono ?_
  rintro e w1 ⟨rfl, rfl⟩
  go_wp2
  go_ret
  exact ⟨by rw [HV.out]; simp [bne, BEq.beq], rfl⟩
/-- The set, and n in it. -/
def withB (s : Nat) (n : Int) : Nat := s ||| aloneB n
set_option maxRecDepth 10000 in
set_option maxHeartbeats 400000 in
theorem with_any (s : Nat) (hs : s < 4294967296) (n : Int) (w : World) :
    Calls Try.prog 38 #[.int .u32 (s : Nat), .int .i64 n] w fun e w' => e = .returned (.int .u32 ((withB s n : Nat) : Int)) ∧ w' = w := by
  have HA := hide (alone_any n w)
  have hb : bits .or .u32 (s : Int) (aloneB n : Int) = ((s ||| aloneB n : Nat) : Int) := u32_or_nat s (aloneB n) hs (aloneB_lt n)
  unfold withB
  generalize ((s ||| aloneB n : Nat) : Int) = x at *
  generalize (aloneB n : Int) = y at *
  generalize (s : Int) = s at *
  go_enter Try.func38, Try.ntmps38
  go_wp2_with fail
  refine HA.out.mono ?_
  rintro e w1 ⟨rfl, rfl⟩
  go_wp2
  go_ret
  exact ⟨rfl, rfl⟩
end Go.Proofs.Ythfbimbadkmhhaa
namespace Go.Proofs.Ythfbimbadkmhhaa
open Go.RowKit

/-- a and b, at most most. -/
def addB (a b most : Nat) : Nat := if most ≤ a + b then most else a + b
end Go.Proofs.Ythfbimbadkmhhaa
namespace Go.Proofs.Ythfbimbadkmhhaa
open Go.RowKit

/-- The order of two ballots. -/
def cmpB (n1 m1 n2 m2 : Int) : Int := if n1 = n2 then (if m1 = m2 then 0 else if m1 < m2 then -1 else 1) else if n1 < n2 then -1 else 1
end Go.Proofs.Ythfbimbadkmhhaa
namespace Go.Proofs.Ythfbimbadkmhhaa
open Go.RowKit

/-- A configuration. -/
structure Cf where
  (f mb : Int) (delay win every beat ep em mn ms : Nat)
def Cf.cells (c : Cf) : Array Value := #[.int .i64 c.f, .int .i64 c.mb, .int .u64 (c.delay : Nat), .int .u64 (c.win : Nat), .int .u64 (c.every : Nat), .int .u64 (c.beat : Nat), .int .u64 (c.ep : Nat), .int .u64 (c.em : Nat), .int .u64 (c.mn : Nat), .int .u64 (c.ms : Nat)]
/-- The numbers of a configuration, as they came in. -/
structure Cf.In (c : Cf) : Prop where
  (f1 : -9223372036854775808 ≤ c.f) (f2 : c.f < 9223372036854775808) (m1 : -9223372036854775808 ≤ c.mb) (m2 : c.mb < 9223372036854775808) (win : c.win < 18446744073709551616) (mn : c.mn < 18446744073709551616) (ms : c.ms < 18446744073709551616)
/-- May it be? -/
structure Cf.Ok (c : Cf) : Prop where
  (f1 : 1 ≤ c.f) (f3 : c.f ≤ 3) (win1 : 1 ≤ c.win) (win8 : c.win ≤ 8) (mn1 : 1 ≤ c.mn) (mn2 : c.mn ≤ 1099511627776) (ms1 : 1 ≤ c.ms) (ms2 : c.ms ≤ 1099511627776)
/-- The reference's group, as far as the calls read it. -/
structure RefG (w : World) (p : Nat) (c : Cf) : Prop where
  (cf : w.cell? ⟨p, 0, none⟩ = some (.int .i64 c.f)) (cw : w.cell? ⟨p, 3, none⟩ = some (.int .u64 (c.win : Nat))) (cn : w.cell? ⟨p, 8, none⟩ = some (.int .u64 (c.mn : Nat))) (cs : w.cell? ⟨p, 9, none⟩ = some (.int .u64 (c.ms : Nat))) (ok : c.Ok)

def Cf.node (c : Cf) (n : Int) : Bool := decide (0 ≤ n ∧ n < 2 * c.f + 1)
end Go.Proofs.Ythfbimbadkmhhaa
namespace Go.Proofs.Ythfbimbadkmhhaa
open Go.RowKit

def Cf.high (c : Cf) (low : Nat) : Nat := addB low c.win c.ms
theorem RefG.drew {w : World} {p : Nat} {c : Cf} (h : RefG w p c) (q : Nat) : RefG (w.drewN q) p c := ⟨by simpa using h.cf, by simpa using h.cw, by simpa using h.cn, by simpa using h.cs, h.ok⟩
theorem RefG.below {w w' : World} {p B : Nat} {c : Cf} (h : RefG w p c) (hb : Below B w w') (hp : p < B) : RefG w' p c := ⟨(hb.cell (p := ⟨p, _, none⟩) hp).trans h.cf, (hb.cell (p := ⟨p, _, none⟩) hp).trans h.cw, (hb.cell (p := ⟨p, _, none⟩) hp).trans h.cn, (hb.cell (p := ⟨p, _, none⟩) hp).trans h.cs, h.ok⟩
def Cf.inside (c : Cf) (low slot : Nat) : Bool := decide (low ≤ slot ∧ slot < c.high low)
end Go.Proofs.Ythfbimbadkmhhaa
namespace Go.Proofs.Ythfbimbadkmhhaa
open Go.RowKit

/-- Is (n, m) a ballot of the group? -/
def Cf.valid (c : Cf) (n : Nat) (m : Int) : Bool := if n = 0 then decide (m = 0) else (decide (n ≤ c.mn) && c.node m)
end Go.Proofs.Ythfbimbadkmhhaa
