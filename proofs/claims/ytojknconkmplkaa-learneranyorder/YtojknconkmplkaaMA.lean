import Derived.Test.YtojknconkmplkaaPBase
namespace Go.Proofs.Ytojknconkmplkaa
open Go.RowKit Crc

/-- A request as it lies. -/
structure Rq where
  (cl sq : Nat) (co : Option Addr) (cn cc : Nat) (C : List Nat)
def Rq.cells (r : Rq) : Array Value := #[.int .u64 (r.cl : Int), .int .u64 (r.sq : Int), .slice r.co r.cn r.cc]
structure Rq.Ok (lim : Nat) (w : World) (r : Rq) : Prop where
  hc : r.cl < 18446744073709551616
  hs : r.sq < 18446744073709551616
  hC : Shows lim w r.co r.cn r.cc r.C
/-- Requests as they lie, one behind the other. -/
structure Rqs (lim : Nat) (w : World) (ro : Option Addr) (rs : List Rq) (b off : Nat) : Prop where
  ad : 0 < rs.length → ro = some ⟨b, off, none⟩
  lt : 0 < rs.length → b < lim
  le : rs.length ≤ 3518437208883
  at_ : ∀ (i : Nat) (r : Rq), rs[i]? = some r → ∀ j v, r.cells[j]? = some v → w.cell? ⟨b, off + i * 3 + j, none⟩ = some v
  ok : ∀ r ∈ rs, r.Ok lim w
theorem Shows.belowL {lim : Nat} {w w' : World} {ao : Option Addr} {n cap : Nat} {B : List Nat} (h : Shows lim w ao n cap B) (hb : Below lim w w') : Shows lim w' ao n cap B := by
  obtain ⟨h1, h2, h3, h4, b, off, h5, h6, h7⟩ := h
  exact ⟨h1, h2, h3, h4, b, off, h5, h6, fun i hi => (hb.cell (p := ⟨b, _, none⟩) (h6 (by omega))).trans (h7 i hi)⟩
theorem Rq.Ok.below {lim : Nat} {w w' : World} {r : Rq} (h : r.Ok lim w) (hb : Below lim w w') : r.Ok lim w' := ⟨h.hc, h.hs, h.hC.belowL hb⟩
theorem Rqs.below {lim : Nat} {w w' : World} {ro : Option Addr} {rs : List Rq} {b off : Nat} (h : Rqs lim w ro rs b off) (hb : Below lim w w') : Rqs lim w' ro rs b off :=
  ⟨h.ad, h.lt, h.le, fun i r hr j v hv => (hb.cell (p := ⟨b, _, none⟩) (h.lt (by have := (List.getElem?_eq_some_iff.1 hr).1; omega))).trans (h.at_ i r hr j v hv), fun r hr => (h.ok r hr).below hb⟩
/-- The request at a place. -/
theorem Rqs.get {lim : Nat} {w : World} {ro : Option Addr} {rs : List Rq} {b off : Nat} (h : Rqs lim w ro rs b off) {k : Nat} (hk : k < rs.length) :
    ∃ r, rs[k]? = some r ∧ rs.drop k = r :: rs.drop (k + 1) ∧ r.Ok lim w ∧ b < lim ∧ ro = some ⟨b, off, none⟩ ∧ w.cell? ⟨b, off + k * 3, none⟩ = some (.int .u64 (r.cl : Int)) ∧ w.cell? ⟨b, off + k * 3 + 1, none⟩ = some (.int .u64 (r.sq : Int)) ∧ w.cell? ⟨b, off + k * 3 + 2, none⟩ = some (.slice r.co r.cn r.cc) := by
  have hg : rs[k]? = some rs[k] := List.getElem?_eq_getElem hk
  exact ⟨rs[k], hg, List.drop_eq_getElem_cons hk, h.ok _ (List.getElem_mem hk), h.lt (by omega), h.ad (by omega), h.at_ k _ hg 0 _ rfl, h.at_ k _ hg 1 _ rfl, h.at_ k _ hg 2 _ rfl⟩

/-- Why a request may not be; why a batch may not be, and where. -/
def Rq.why (r : Rq) : Int := if r.cl < 256 then 29 else if 700 < r.cn then 21 else 0
def bGo : List Rq → Nat → Nat × Int
  | [], _ => (0, 0)
  | r :: t, i => if r.why = 0 then bGo t (i + 1) else (2 + i, r.why)
def bFault (stamp : Nat) (rs : List Rq) : Nat × Int := if 1099511627776 < stamp then (0, 29) else if 8 < rs.length then (1, 21) else bGo rs 0

theorem below_alloc1 (w : World) (o : Obj) : Below w.heap.size w (w.alloc o) := (Below.refl _ w).alloc (Nat.le_refl _) o
end Go.Proofs.Ytojknconkmplkaa
namespace Go.Proofs.Ytojknconkmplkaa
open Go.RowKit

/-- Is n in the set? -/
def hasB (s : Nat) (n : Int) : Bool := decide (0 ≤ n ∧ n < 32) && s.testBit n.toNat
/-- n's own set. -/
def aloneB (n : Int) : Nat := if 0 ≤ n ∧ n < 32 then 2 ^ n.toNat else 0
theorem aloneB_lt (n : Int) : aloneB n < 4294967296 := by
  unfold aloneB
  split
  · have : 2 ^ n.toNat ≤ 2 ^ 31 := Nat.pow_le_pow_right (by omega) (by omega)
    omega
  · omega
theorem and_alone (s : Nat) (n : Int) : (s &&& aloneB n = 0) ↔ hasB s n = false := by
  unfold aloneB hasB
  by_cases h : 0 ≤ n ∧ n < 32
  · rw [if_pos h, decide_eq_true h, Bool.true_and]
    constructor
    · intro e
      have h1 : (s &&& 2 ^ n.toNat).testBit n.toNat = false := by rw [e]; simp
      rw [Nat.testBit_and, Nat.testBit_two_pow_self, Bool.and_true] at h1
      exact h1
    · intro e
      apply Nat.eq_of_testBit_eq
      intro i
      rw [Nat.testBit_and, Nat.zero_testBit]
      by_cases hi : n.toNat = i
      · subst hi; rw [e]; rfl
      · rw [Nat.testBit_two_pow_of_ne hi, Bool.and_false]
  · rw [if_neg h, decide_eq_false h, Bool.false_and]
    simp
set_option maxRecDepth 10000 in
set_option maxHeartbeats 800000 in
theorem alone_small (k : Nat) (h : k < 32) (w : World) :
    Calls Try.prog 39 #[.int .i64 (k : Nat)] w fun e w' => e = .returned (.int .u32 ((2 ^ k : Nat) : Int)) ∧ w' = w := by
  match k, h with
  | 0, _ => go_enter Try.func39, Try.ntmps39; go_wp2; go_ret; exact ⟨rfl, rfl⟩
  | 1, _ => go_enter Try.func39, Try.ntmps39; go_wp2; go_ret; exact ⟨rfl, rfl⟩
  | 2, _ => go_enter Try.func39, Try.ntmps39; go_wp2; go_ret; exact ⟨rfl, rfl⟩
  | 3, _ => go_enter Try.func39, Try.ntmps39; go_wp2; go_ret; exact ⟨rfl, rfl⟩
  | 4, _ => go_enter Try.func39, Try.ntmps39; go_wp2; go_ret; exact ⟨rfl, rfl⟩
  | 5, _ => go_enter Try.func39, Try.ntmps39; go_wp2; go_ret; exact ⟨rfl, rfl⟩
  | 6, _ => go_enter Try.func39, Try.ntmps39; go_wp2; go_ret; exact ⟨rfl, rfl⟩
  | 7, _ => go_enter Try.func39, Try.ntmps39; go_wp2; go_ret; exact ⟨rfl, rfl⟩
  | 8, _ => go_enter Try.func39, Try.ntmps39; go_wp2; go_ret; exact ⟨rfl, rfl⟩
  | 9, _ => go_enter Try.func39, Try.ntmps39; go_wp2; go_ret; exact ⟨rfl, rfl⟩
  | 10, _ => go_enter Try.func39, Try.ntmps39; go_wp2; go_ret; exact ⟨rfl, rfl⟩
  | 11, _ => go_enter Try.func39, Try.ntmps39; go_wp2; go_ret; exact ⟨rfl, rfl⟩
  | 12, _ => go_enter Try.func39, Try.ntmps39; go_wp2; go_ret; exact ⟨rfl, rfl⟩
  | 13, _ => go_enter Try.func39, Try.ntmps39; go_wp2; go_ret; exact ⟨rfl, rfl⟩
  | 14, _ => go_enter Try.func39, Try.ntmps39; go_wp2; go_ret; exact ⟨rfl, rfl⟩
  | 15, _ => go_enter Try.func39, Try.ntmps39; go_wp2; go_ret; exact ⟨rfl, rfl⟩
  | 16, _ => go_enter Try.func39, Try.ntmps39; go_wp2; go_ret; exact ⟨rfl, rfl⟩
  | 17, _ => go_enter Try.func39, Try.ntmps39; go_wp2; go_ret; exact ⟨rfl, rfl⟩
  | 18, _ => go_enter Try.func39, Try.ntmps39; go_wp2; go_ret; exact ⟨rfl, rfl⟩
  | 19, _ => go_enter Try.func39, Try.ntmps39; go_wp2; go_ret; exact ⟨rfl, rfl⟩
  | 20, _ => go_enter Try.func39, Try.ntmps39; go_wp2; go_ret; exact ⟨rfl, rfl⟩
  | 21, _ => go_enter Try.func39, Try.ntmps39; go_wp2; go_ret; exact ⟨rfl, rfl⟩
  | 22, _ => go_enter Try.func39, Try.ntmps39; go_wp2; go_ret; exact ⟨rfl, rfl⟩
  | 23, _ => go_enter Try.func39, Try.ntmps39; go_wp2; go_ret; exact ⟨rfl, rfl⟩
  | 24, _ => go_enter Try.func39, Try.ntmps39; go_wp2; go_ret; exact ⟨rfl, rfl⟩
  | 25, _ => go_enter Try.func39, Try.ntmps39; go_wp2; go_ret; exact ⟨rfl, rfl⟩
  | 26, _ => go_enter Try.func39, Try.ntmps39; go_wp2; go_ret; exact ⟨rfl, rfl⟩
  | 27, _ => go_enter Try.func39, Try.ntmps39; go_wp2; go_ret; exact ⟨rfl, rfl⟩
  | 28, _ => go_enter Try.func39, Try.ntmps39; go_wp2; go_ret; exact ⟨rfl, rfl⟩
  | 29, _ => go_enter Try.func39, Try.ntmps39; go_wp2; go_ret; exact ⟨rfl, rfl⟩
  | 30, _ => go_enter Try.func39, Try.ntmps39; go_wp2; go_ret; exact ⟨rfl, rfl⟩
  | 31, _ => go_enter Try.func39, Try.ntmps39; go_wp2; go_ret; exact ⟨rfl, rfl⟩
  | n + 32, h => exact absurd h (by omega)
set_option maxRecDepth 10000 in
set_option maxHeartbeats 800000 in
theorem alone_any (n : Int) (w : World) :
    Calls Try.prog 39 #[.int .i64 n] w fun e w' => e = .returned (.int .u32 ((aloneB n : Nat) : Int)) ∧ w' = w := by
  by_cases h : 0 ≤ n ∧ n < 32
  · obtain ⟨k, hk⟩ := Int.eq_ofNat_of_zero_le h.1
    subst hk
    have e : aloneB (k : Int) = 2 ^ k := by unfold aloneB; rw [if_pos h]; simp
    rw [e]
    exact alone_small k (by omega) w
  · have hv : Hid (aloneB n = 0) := by show _ = _; unfold aloneB; rw [if_neg h]
    generalize aloneB n = v at *
    by_cases h0 : n < 0
    · go_enter Try.func39, Try.ntmps39
      go_wp2
      go_ret
      exact ⟨by rw [hv.out]; rfl, rfl⟩
    · have h1 : n ≥ 32 := by omega
      go_enter Try.func39, Try.ntmps39
      go_wp2
      go_ret
      exact ⟨by rw [hv.out]; rfl, rfl⟩
set_option maxRecDepth 10000 in
set_option maxHeartbeats 400000 in
theorem has_any (s : Nat) (hs : s < 4294967296) (n : Int) (w : World) :
    Calls Try.prog 21 #[.int .u32 (s : Nat), .int .i64 n] w fun e w' => e = .returned (.bool (hasB s n)) ∧ w' = w := by
  have HA := hide (alone_any n w)
  have hb : bits .and .u32 (s : Int) (aloneB n : Int) = ((s &&& aloneB n : Nat) : Int) := u32_and_nat s (aloneB n) hs (aloneB_lt n)
  have HV : Hid (hasB s n = !decide (((s &&& aloneB n : Nat) : Int) = 0)) := by
    show _ = _
    have := and_alone s n
    cases hh : hasB s n with
    | false => rw [hh] at this; rw [decide_eq_true (by have := this.2 rfl; omega)]; rfl
    | true =>
      rw [decide_eq_false (fun e => by have h0 := this.1 (by omega); rw [hh] at h0; cases h0)]
      rfl
  generalize hasB s n = v at *
  generalize ((s &&& aloneB n : Nat) : Int) = x at *
  generalize (aloneB n : Int) = y at *
  generalize (s : Int) = s at *
  go_enter Try.func21, Try.ntmps21
  go_wp2_with fail
  refine HA.out.mono ?_
  rintro e w1 ⟨rfl, rfl⟩
  go_wp2
  go_ret
  exact ⟨by rw [HV.out]; simp [bne, BEq.beq], rfl⟩
/-- The set, and n in it. -/
def withB (s : Nat) (n : Int) : Nat := s ||| aloneB n
set_option maxRecDepth 10000 in
set_option maxHeartbeats 400000 in
theorem with_any (s : Nat) (hs : s < 4294967296) (n : Int) (w : World) :
    Calls Try.prog 23 #[.int .u32 (s : Nat), .int .i64 n] w fun e w' => e = .returned (.int .u32 ((withB s n : Nat) : Int)) ∧ w' = w := by
  have HA := hide (alone_any n w)
  have hb : bits .or .u32 (s : Int) (aloneB n : Int) = ((s ||| aloneB n : Nat) : Int) := u32_or_nat s (aloneB n) hs (aloneB_lt n)
  unfold withB
  generalize ((s ||| aloneB n : Nat) : Int) = x at *
  generalize (aloneB n : Int) = y at *
  generalize (s : Int) = s at *
  go_enter Try.func23, Try.ntmps23
  go_wp2_with fail
  refine HA.out.mono ?_
  rintro e w1 ⟨rfl, rfl⟩
  go_wp2
  go_ret
  exact ⟨rfl, rfl⟩
end Go.Proofs.Ytojknconkmplkaa
namespace Go.Proofs.Ytojknconkmplkaa
open Go.RowKit

/-- a and b, at most most. -/
def addB (a b most : Nat) : Nat := if most ≤ a + b then most else a + b
end Go.Proofs.Ytojknconkmplkaa
namespace Go.Proofs.Ytojknconkmplkaa
open Go.RowKit

/-- The order of two ballots. -/
def cmpB (n1 m1 n2 m2 : Int) : Int := if n1 = n2 then (if m1 = m2 then 0 else if m1 < m2 then -1 else 1) else if n1 < n2 then -1 else 1
end Go.Proofs.Ytojknconkmplkaa
namespace Go.Proofs.Ytojknconkmplkaa
open Go.RowKit

/-- A configuration. -/
structure Cf where
  (f mb : Int) (delay win every beat ep em mn ms : Nat)
def Cf.cells (c : Cf) : Array Value := #[.int .i64 c.f, .int .i64 c.mb, .int .u64 (c.delay : Nat), .int .u64 (c.win : Nat), .int .u64 (c.every : Nat), .int .u64 (c.beat : Nat), .int .u64 (c.ep : Nat), .int .u64 (c.em : Nat), .int .u64 (c.mn : Nat), .int .u64 (c.ms : Nat)]
/-- The numbers of a configuration, as they came in. -/
structure Cf.In (c : Cf) : Prop where
  (f1 : -9223372036854775808 ≤ c.f) (f2 : c.f < 9223372036854775808) (m1 : -9223372036854775808 ≤ c.mb) (m2 : c.mb < 9223372036854775808) (win : c.win < 18446744073709551616) (mn : c.mn < 18446744073709551616) (ms : c.ms < 18446744073709551616)
/-- May it be? -/
structure Cf.Ok (c : Cf) : Prop where
  (f1 : 1 ≤ c.f) (f3 : c.f ≤ 3) (win1 : 1 ≤ c.win) (win8 : c.win ≤ 8) (mn1 : 1 ≤ c.mn) (mn2 : c.mn ≤ 1099511627776) (ms1 : 1 ≤ c.ms) (ms2 : c.ms ≤ 1099511627776)
/-- The reference's group, as far as the calls read it. -/
structure RefG (w : World) (p : Nat) (c : Cf) : Prop where
  (cf : w.cell? ⟨p, 0, none⟩ = some (.int .i64 c.f)) (cw : w.cell? ⟨p, 3, none⟩ = some (.int .u64 (c.win : Nat))) (cn : w.cell? ⟨p, 8, none⟩ = some (.int .u64 (c.mn : Nat))) (cs : w.cell? ⟨p, 9, none⟩ = some (.int .u64 (c.ms : Nat))) (ok : c.Ok)

def Cf.node (c : Cf) (n : Int) : Bool := decide (0 ≤ n ∧ n < 2 * c.f + 1)
end Go.Proofs.Ytojknconkmplkaa
namespace Go.Proofs.Ytojknconkmplkaa
open Go.RowKit

def Cf.high (c : Cf) (low : Nat) : Nat := addB low c.win c.ms
theorem RefG.drew {w : World} {p : Nat} {c : Cf} (h : RefG w p c) (q : Nat) : RefG (w.drewN q) p c := ⟨by simpa using h.cf, by simpa using h.cw, by simpa using h.cn, by simpa using h.cs, h.ok⟩
theorem RefG.below {w w' : World} {p B : Nat} {c : Cf} (h : RefG w p c) (hb : Below B w w') (hp : p < B) : RefG w' p c := ⟨(hb.cell (p := ⟨p, _, none⟩) hp).trans h.cf, (hb.cell (p := ⟨p, _, none⟩) hp).trans h.cw, (hb.cell (p := ⟨p, _, none⟩) hp).trans h.cn, (hb.cell (p := ⟨p, _, none⟩) hp).trans h.cs, h.ok⟩
def Cf.inside (c : Cf) (low slot : Nat) : Bool := decide (low ≤ slot ∧ slot < c.high low)
end Go.Proofs.Ytojknconkmplkaa
namespace Go.Proofs.Ytojknconkmplkaa
open Go.RowKit

/-- Is (n, m) a ballot of the group? -/
def Cf.valid (c : Cf) (n : Nat) (m : Int) : Bool := if n = 0 then decide (m = 0) else (decide (n ≤ c.mn) && c.node m)
end Go.Proofs.Ytojknconkmplkaa
namespace Go.Proofs.Ytojknconkmplkaa
open Go.RowKit Crc

/-- A list that was appended to: nothing but its own row has turned, and what it has now is that row or a new one. -/
def Ext (w w' : World) (v v' : Value) : Prop := w.grownBy w' v.ownBlock ∧ ∀ g, v'.ownBlock = some g → v.ownBlock = some g ∨ w.heap.size ≤ g
theorem Ext.refl (w : World) (v : Value) : Ext w w v v := ⟨⟨rfl, rfl, rfl, Nat.le_refl _, fun _ _ _ => rfl⟩, fun _ h => .inl h⟩
theorem Ext.trans {a b c : World} {u v x : Value} (h : Ext a b u v) (k : Ext b c v x) : Ext a c u x := by
  refine ⟨⟨k.1.os.trans h.1.os, k.1.tape.trans h.1.tape, k.1.output.trans h.1.output, Nat.le_trans h.1.size k.1.size, fun i hi hr => ?_⟩, fun g hg => ?_⟩
  · refine (k.1.block i (Nat.lt_of_lt_of_le hi h.1.size) (fun e => ?_)).trans (h.1.block i hi hr)
    rcases h.2 i e.symm with h1 | h1
    · exact hr h1.symm
    · omega
  · rcases k.2 g hg with h1 | h1
    · exact h.2 g h1
    · exact .inr (Nat.le_trans h.1.size h1)
theorem Ext.alloc {a b : World} {u v : Value} (h : Ext a b u v) (o : Obj) : Ext a (b.alloc o) u v := by
  refine h.trans ⟨World.grownBy_alloc b o _, fun g hg => .inl hg⟩

section
variable {P : Program} {ops : Array Oper} {rest : List Oper} {o : Oper} {a : Act} {Q : Exit → Act → World → Prop}
theorem wpList_append_ext (w : World) (hgd : o.guard = none) (s x : Operand) (t : TypeId)
    (ho : o.op = .call { callee := .builtin .append, args := #[s, x], argTypes := #[t, t] })
    (base : Nat) (e : TypeId) (i : TypeInfo) (z : Value) (ht : P.underlying t = some (.slice e)) (hi : P.info? e = some i) (hz : i.zero = some z)
    (hsize : i.size = 1) (hby : i.bytes = 1) (hzs : z.cells.size = 1)
    (v : Value) (n : Nat) (xs : List Value) (hs : a.eval s = v) (hown : w.ownsRow base e 1 v n xs)
    (ad : Addr) (m c : Nat) (news : List Value) (hx : a.eval x = .slice (some ad) m c) (hl : news.length = m) (hnews : ∀ j u, news[j]? = some u → w.cell? (ad.add j) = some u) (h1 : ∀ u ∈ news, u.oneCell' = true)
    (hm : 0 < m) (hbytes : n + m ≤ 140737488355328) (hbase : base ≤ w.heap.size)
    (h : ∀ v' w', w'.ownsRow base e 1 v' (n + m) (xs ++ news) → Ext w w' v v' → wpList P ops Q rest (a.put o.dst v') w') : wpList P ops Q (o :: rest) a w := by
  rcases hown.2 with ⟨rfl, rfl⟩ | ⟨g, cap, cur, rfl, hbg, hg, hnc, hcm, hcs, htake⟩
  · have hxs : xs = [] := List.eq_nil_of_length_eq_zero (by have := hown.1; omega)
    subst hxs
    refine wpList_append_grows w hgd s x t ho e i z 1 1 ht hi hz hsize hby hzs (by omega) none 0 0 [] hs (fun _ => ⟨rfl, rfl⟩) (by simp) (fun b hb => by cases hb) ad m c news hx (by omega) hnews h1 (by omega) (by unfold maxLen; omega) (by omega) ?_
    intro v' w' hown' hgrow
    refine h v' w' ?_ ⟨⟨hgrow.os, hgrow.tape, hgrow.output, hgrow.size, hgrow.block⟩, fun g hg => .inr (hown'.lt g hg).1⟩
    refine ⟨hown'.1, ?_⟩
    rcases hown'.2 with h0 | ⟨g, cap, cur, hv, hbg, rest⟩
    · exact .inl h0
    · exact .inr ⟨g, cap, cur, hv, by omega, rest⟩
  · by_cases hroom : n + m ≤ cap
    · refine wpList_append_own_spare w hgd s x t ho base e i 1 ht hi hsize g n cap xs hs hown ad m c news hx (by omega) hnews h1 hroom ?_
      intro w' hown' hgrow
      exact h _ w' hown' ⟨hgrow, fun g' hg' => .inl hg'⟩
    · have holds : ∀ b, some (⟨g, 0, none⟩ : Addr) = some b → ∀ j u, xs[j]? = some u → w.cell? (b.add j) = some u := by
        intro b hb j u hj
        cases hb
        exact hown.cells rfl j u hj
      refine wpList_append_grows w hgd s x t ho e i z 1 1 ht hi hz hsize hby hzs (by omega) (some ⟨g, 0, none⟩) n cap xs hs (fun h => by cases h) hown.1 holds ad m c news hx (by omega) hnews h1 (by omega) (by unfold maxLen; omega) (by omega) ?_
      intro v' w' hown' hgrow
      refine h v' w' ?_ ⟨⟨hgrow.os, hgrow.tape, hgrow.output, hgrow.size, fun k hk _ => hgrow.block k hk (by simp)⟩, fun g hg => .inr (hown'.lt g hg).1⟩
      refine ⟨hown'.1, ?_⟩
      rcases hown'.2 with h0 | ⟨g, cap, cur, hv, hbg, rest⟩
      · exact .inl h0
      · exact .inr ⟨g, cap, cur, hv, by omega, rest⟩
end

/-- A number in groups of seven bits, the lowest first. -/
def numTo : Nat → Nat → List Nat
  | 0, v => [v]
  | f + 1, v => if v < 128 then [v] else (v % 128 + 128) :: numTo f (v / 128)
def numB (v : Nat) : List Nat := numTo 9 v
theorem numTo_lt : ∀ f v, v < 128 ^ (f + 1) → ∀ x ∈ numTo f v, x < 256
  | 0, v, h, x, hx => by simp [numTo] at hx; subst hx; simp at h; omega
  | f + 1, v, h, x, hx => by
    unfold numTo at hx
    by_cases hv : v < 128
    · rw [if_pos hv] at hx; simp at hx; omega
    · rw [if_neg hv] at hx
      rcases List.mem_cons.1 hx with rfl | hx
      · omega
      · exact numTo_lt f (v / 128) (by rw [Nat.pow_succ] at h; omega) x hx
theorem numB_lt (v : Nat) (h : v < 18446744073709551616) : ∀ x ∈ numB v, x < 256 := numTo_lt 9 v (by omega)
theorem numTo_len : ∀ f v, (numTo f v).length ≤ f + 1
  | 0, v => by simp [numTo]
  | f + 1, v => by
    unfold numTo
    by_cases hv : v < 128
    · rw [if_pos hv]; simp
    · rw [if_neg hv]; simp; exact numTo_len f (v / 128)
theorem numTo_pos : ∀ f v, 0 < (numTo f v).length
  | 0, v => by simp [numTo]
  | f + 1, v => by unfold numTo; by_cases hv : v < 128 <;> simp [hv]
/-- One step, fuel aside. -/
theorem numTo_more : ∀ f v, v < 128 ^ (f + 1) → numTo (f + 1) v = numTo f v
  | 0, v, h => by simp at h; simp [numTo, h]
  | f + 1, v, h => by
    rw [numTo]
    conv => rhs; rw [numTo]
    by_cases hv : v < 128
    · rw [if_pos hv, if_pos hv]
    · rw [if_neg hv, if_neg hv, numTo_more f (v / 128) (by rw [Nat.pow_succ] at h; omega)]
theorem numB_big (v : Nat) (hv : ¬ v < 128) (h : v < 18446744073709551616) : numB v = (v % 128 + 128) :: numB (v / 128) := by
  unfold numB
  conv => lhs; rw [numTo]
  rw [if_neg hv, numTo_more 8 (v / 128) (by omega)]
theorem numB_small (v : Nat) (hv : v < 128) : numB v = [v] := by simp [numB, numTo, hv]
end Go.Proofs.Ytojknconkmplkaa
namespace Go.Proofs.Ytojknconkmplkaa

/-- Two places change their numbers. -/
def swp (D : Nat → Nat) (i j : Nat) : Nat → Nat := fun k => if k = i then D j else if k = j then D i else D k
theorem swp_l (D : Nat → Nat) (i j : Nat) : swp D i j i = D j := by simp [swp]
theorem swp_r (D : Nat → Nat) (i j : Nat) : swp D i j j = D i := by
  unfold swp
  split
  · next h => rw [h]
  · simp
theorem swp_o (D : Nat → Nat) {i j k : Nat} (h1 : k ≠ i) (h2 : k ≠ j) : swp D i j k = D k := by simp [swp, h1, h2]
/-- Within [a, b) the one is the other in another order; else they are the same. -/
def PermR (a b : Nat) (D D' : Nat → Nat) : Prop := ∃ s t : Nat → Nat, (∀ i, t (s i) = i) ∧ (∀ i, s (t i) = i) ∧ (∀ i, i < a ∨ b ≤ i → s i = i) ∧ ∀ i, D' i = D (s i)
theorem PermR.refl (a b : Nat) (D : Nat → Nat) : PermR a b D D := ⟨id, id, fun _ => rfl, fun _ => rfl, fun _ _ => rfl, fun _ => rfl⟩
theorem PermR.trans {a b : Nat} {D D' D'' : Nat → Nat} (h : PermR a b D D') (h' : PermR a b D' D'') : PermR a b D D'' := by
  obtain ⟨s, t, h1, h2, h3, h4⟩ := h
  obtain ⟨s', t', k1, k2, k3, k4⟩ := h'
  refine ⟨fun i => s (s' i), fun i => t' (t i), fun i => ?_, fun i => ?_, fun i hi => ?_, fun i => ?_⟩
  · show t' (t (s (s' i))) = i
    rw [h1, k1]
  · show s (s' (t' (t i))) = i
    rw [k2, h2]
  · show s (s' i) = i
    rw [k3 i hi, h3 i hi]
  · rw [k4, h4]
theorem PermR.wide {a b a' b' : Nat} {D D' : Nat → Nat} (h : PermR a b D D') (ha : a' ≤ a) (hb : b ≤ b') : PermR a' b' D D' := by
  obtain ⟨s, t, h1, h2, h3, h4⟩ := h
  exact ⟨s, t, h1, h2, fun i hi => h3 i (by omega), h4⟩
theorem PermR.swp {a b : Nat} (D : Nat → Nat) {i j : Nat} (h1 : a ≤ i) (h2 : i < b) (h3 : a ≤ j) (h4 : j < b) : PermR a b D (swp D i j) := by
  have inv : ∀ k, (fun k => if k = i then j else if k = j then i else k) ((fun k => if k = i then j else if k = j then i else k) k) = k := fun k => by
    by_cases e1 : k = i
    · subst e1
      by_cases e2 : j = k
      · simp [e2]
      · simp [e2]
    · by_cases e2 : k = j
      · subst e2; simp [e1]
      · simp [e1, e2]
  refine ⟨fun k => if k = i then j else if k = j then i else k, fun k => if k = i then j else if k = j then i else k, inv, inv, fun k hk => ?_, fun k => ?_⟩
  · have e1 : k ≠ i := by omega
    have e2 : k ≠ j := by omega
    simp [e1, e2]
  · unfold Go.Proofs.Ytojknconkmplkaa.swp
    by_cases e1 : k = i
    · simp [e1]
    · by_cases e2 : k = j
      · subst e2; simp [e1]
      · simp [e1, e2]
theorem PermR.out {a b : Nat} {D D' : Nat → Nat} (h : PermR a b D D') {i : Nat} (hi : i < a ∨ b ≤ i) : D' i = D i := by
  obtain ⟨s, t, h1, h2, h3, h4⟩ := h
  rw [h4, h3 i hi]
theorem PermR.at_ {a b : Nat} {D D' : Nat → Nat} (h : PermR a b D D') {i : Nat} (h1 : a ≤ i) (h2 : i < b) : ∃ j, a ≤ j ∧ j < b ∧ D' i = D j := by
  obtain ⟨s, t, k1, k2, k3, k4⟩ := h
  refine ⟨s i, ?_, ?_, k4 i⟩
  · by_cases e : s i < a
    · have h3 := k3 (s i) (.inl e)
      have h4 := congrArg t h3
      rw [k1, k1] at h4
      omega
    · omega
  · by_cases e : b ≤ s i
    · have h3 := k3 (s i) (.inr e)
      have h4 := congrArg t h3
      rw [k1, k1] at h4
      omega
    · omega
theorem PermR.all {a b : Nat} {D D' : Nat → Nat} (h : PermR a b D D') {P : Nat → Prop} (hP : ∀ i, a ≤ i → i < b → P (D i)) : ∀ i, a ≤ i → i < b → P (D' i) := fun i h1 h2 => by
  obtain ⟨j, h3, h4, h5⟩ := h.at_ h1 h2
  rw [h5]
  exact hP j h3 h4
theorem PermR.perm {a b n : Nat} {D D' : Nat → Nat} (h : PermR a b D D') (hb : b ≤ n) : ((List.range n).map D').Perm ((List.range n).map D) := by
  have h0 := h
  obtain ⟨s, t, k1, k2, k3, k4⟩ := h
  have e : (List.range n).map D' = ((List.range n).map s).map D := by
    rw [List.map_map]
    exact List.map_congr_left fun i _ => k4 i
  rw [e]
  refine List.Perm.map D ?_
  have inj : ∀ i j, s i = s j → i = j := fun i j hij => by rw [← k1 i, hij, k1 j]
  have nd : ((List.range n).map s).Nodup := List.Pairwise.map s (fun i j hij hs => hij (inj i j hs)) (List.nodup_range)
  have lt : ∀ (f g : Nat → Nat), (∀ i, g (f i) = i) → (∀ i, i < a ∨ b ≤ i → f i = i) → ∀ i, i < n → f i < n := fun f g h1 h2 i hi => by
    by_cases e : f i < n
    · exact e
    · have h3 := h2 (f i) (.inr (by omega))
      have h4 := congrArg g h3
      rw [h1, h1] at h4
      omega
  have tf : ∀ i, i < a ∨ b ≤ i → t i = i := fun i hi => by
    have h3 := k3 i hi
    have h4 := congrArg t h3
    rw [k1] at h4
    exact h4.symm
  refine (List.perm_ext_iff_of_nodup nd List.nodup_range).2 fun x => ?_
  simp only [List.mem_map, List.mem_range]
  constructor
  · rintro ⟨i, hi, rfl⟩
    exact lt s t k1 k3 i hi
  · intro hx
    exact ⟨t x, lt t s k2 tf x hx, k2 x⟩
/-- [a, b) is in order. -/
def SortR (a b : Nat) (D : Nat → Nat) : Prop := ∀ i j, a ≤ i → i ≤ j → j < b → D i ≤ D j
theorem SortR.none {a b : Nat} (D : Nat → Nat) (h : b ≤ a + 1) : SortR a b D := fun i j h1 h2 h3 => by
  have : i = j := by omega
  rw [this]; exact Nat.le_refl _
theorem SortR.same {a b : Nat} {D D' : Nat → Nat} (h : SortR a b D) (e : ∀ i, a ≤ i → i < b → D' i = D i) : SortR a b D' := fun i j h1 h2 h3 => by
  rw [e i h1 (by omega), e j (by omega) h3]
  exact h i j h1 h2 h3
theorem SortR.step {a b : Nat} {D : Nat → Nat} (h : ∀ i, a ≤ i → i + 1 < b → D i ≤ D (i + 1)) : SortR a b D := fun i j h1 h2 h3 => by
  obtain ⟨d, rfl⟩ : ∃ d, j = i + d := ⟨j - i, by omega⟩
  clear h2
  induction d with
  | zero => exact Nat.le_refl _
  | succ d ih => exact Nat.le_trans (ih (by omega)) (h (i + d) (by omega) (by omega))
/-- Two ordered stretches around a number make one. -/
theorem SortR.join {a b m : Nat} {D : Nat → Nat} (h1 : SortR a m D) (h2 : SortR (m + 1) b D) (hl : ∀ i, a ≤ i → i < m → D i ≤ D m) (hr : ∀ i, m < i → i < b → D m ≤ D i) : SortR a b D := fun i j k1 k2 k3 => by
  by_cases e1 : j < m
  · exact h1 i j k1 k2 e1
  · by_cases e2 : m < i
    · exact h2 i j (by omega) k2 k3
    · have A : D i ≤ D m := by
        by_cases e : i = m
        · rw [e]; exact Nat.le_refl _
        · exact hl i k1 (by omega)
      have B : D m ≤ D j := by
        by_cases e : j = m
        · rw [e]; exact Nat.le_refl _
        · exact hr j (by omega) k3
      exact Nat.le_trans A B
theorem SortR.list {n : Nat} {D : Nat → Nat} (h : SortR 0 n D) : ((List.range n).map D).Pairwise (· ≤ ·) := by
  rw [List.pairwise_map]
  refine List.Pairwise.imp_of_mem ?_ List.pairwise_lt_range
  intro i j hi hj hij
  exact h i j (by omega) (by omega) (List.mem_range.1 hj)
/-- Every child from lo on is at most its parent. -/
def Heap (lo hi first : Nat) (D : Nat → Nat) : Prop := ∀ c, 1 ≤ c → c < hi → lo ≤ (c - 1) / 2 → D (first + c) ≤ D (first + (c - 1) / 2)
/-- .. but for the children of r, which are at most r's parent. -/
def HeapBut (lo hi first r : Nat) (D : Nat → Nat) : Prop := (∀ c, 1 ≤ c → c < hi → lo ≤ (c - 1) / 2 → (c - 1) / 2 ≠ r → D (first + c) ≤ D (first + (c - 1) / 2)) ∧ ∀ c, 1 ≤ c → c < hi → (c - 1) / 2 = r → lo < r → lo ≤ (r - 1) / 2 → D (first + c) ≤ D (first + (r - 1) / 2)
theorem Heap.but {lo hi first : Nat} {D : Nat → Nat} (h : Heap (lo + 1) hi first D) : HeapBut lo hi first lo D := ⟨fun c h1 h2 h3 h4 => h c h1 h2 (by omega), fun c h1 h2 h3 h4 => by omega⟩
theorem HeapBut.done {lo hi first r : Nat} {D : Nat → Nat} (h : HeapBut lo hi first r D) (hc : ∀ c, 1 ≤ c → c < hi → (c - 1) / 2 = r → D (first + c) ≤ D (first + r)) : Heap lo hi first D := fun c h1 h2 h3 => by
  by_cases e : (c - 1) / 2 = r
  · rw [e]; exact hc c h1 h2 e
  · exact h.1 c h1 h2 h3 e
/-- The root goes down to its greatest child. -/
theorem HeapBut.down {lo hi first r k : Nat} {D : Nat → Nat} (h : HeapBut lo hi first r D) (hr : lo ≤ r) (hk1 : 1 ≤ k) (hk : k < hi) (hkr : (k - 1) / 2 = r) (hmax : ∀ c, 1 ≤ c → c < hi → (c - 1) / 2 = r → D (first + c) ≤ D (first + k)) (hlt : D (first + r) < D (first + k)) : HeapBut lo hi first k (swp D (first + r) (first + k)) := by
  have er : swp D (first + r) (first + k) (first + r) = D (first + k) := swp_l _ _ _
  have ek : swp D (first + r) (first + k) (first + k) = D (first + r) := swp_r _ _ _
  have eo : ∀ c, c ≠ r → c ≠ k → swp D (first + r) (first + k) (first + c) = D (first + c) := fun c h1 h2 => swp_o D (by omega) (by omega)
  refine ⟨fun c h1 h2 h3 h4 => ?_, fun c h1 h2 h3 h4 h5 => ?_⟩
  · by_cases e1 : (c - 1) / 2 = r
    · rw [e1, er]
      by_cases e2 : c = k
      · rw [e2, ek]; omega
      · rw [eo c (by omega) e2]; exact hmax c h1 h2 e1
    · rw [eo ((c - 1) / 2) e1 h4]
      by_cases e2 : c = r
      · subst e2
        rw [er]
        exact h.2 k hk1 hk hkr (by omega) h3
      · by_cases e3 : c = k
        · omega
        · rw [eo c e2 e3]
          exact h.1 c h1 h2 h3 e1
  · have e1 : c ≠ k := by omega
    have e2 : c ≠ r := by omega
    rw [eo c e2 e1, hkr, er]
    have := h.1 c h1 h2 (by omega) (by omega)
    rw [h3] at this
    exact this
theorem Heap.top {hi first : Nat} {D : Nat → Nat} (h : Heap 0 hi first D) : ∀ c, c < hi → D (first + c) ≤ D first := fun c => by
  induction c using Nat.strongRecOn with
  | _ c ih =>
    intro hc
    by_cases e : c = 0
    · subst e; exact Nat.le_refl _
    · exact Nat.le_trans (h c (by omega) hc (by omega)) (ih _ (by omega) (by omega))
end Go.Proofs.Ytojknconkmplkaa
namespace Go.Proofs.Ytojknconkmplkaa

/-- What lies ahead of a is not above what lies in [a, b). -/
def PreR (a b : Nat) (D : Nat → Nat) : Prop := a = 0 ∨ ∀ k, a ≤ k → k < b → D (a - 1) ≤ D k
theorem PreR.perm {a b : Nat} {D D' : Nat → Nat} (h : PreR a b D) (hp : PermR a b D D') : PreR a b D' := by
  rcases h with h | h
  · exact .inl h
  · by_cases e : a = 0
    · exact .inl e
    · refine .inr fun k h1 h2 => ?_
      rw [hp.out (i := a - 1) (.inl (by omega))]
      exact hp.all (P := fun v => D (a - 1) ≤ v) h k h1 h2
theorem PreR.less {a b b' : Nat} {D : Nat → Nat} (h : PreR a b D) (hb : b' ≤ b) : PreR a b' D := by
  rcases h with h | h
  · exact .inl h
  · exact .inr fun k h1 h2 => h k h1 (by omega)
/-- The state of pdqsort's loop: once [p, q) is in order, all of [a, b) is. -/
structure PdR (a b p q : Nat) (D : Nat → Nat) : Prop where
  ap : a ≤ p
  pq : p ≤ q
  qb : q ≤ b
  pre : PreR p q D
  fin : ∀ D', PermR p q D D' → SortR p q D' → SortR a b D'
theorem PdR.start {a b : Nat} {D : Nat → Nat} (hab : a ≤ b) (h : PreR a b D) : PdR a b a b D := ⟨Nat.le_refl _, hab, Nat.le_refl _, h, fun _ _ h => h⟩
theorem PdR.perm {a b p q : Nat} {D D' : Nat → Nat} (h : PdR a b p q D) (hp : PermR p q D D') : PdR a b p q D' := ⟨h.ap, h.pq, h.qb, h.pre.perm hp, fun D2 h1 h2 => h.fin D2 (hp.trans h1) h2⟩
/-- Behind partitionEqual. -/
theorem PdR.eq {a b p q m v : Nat} {D D' : Nat → Nat} (h : PdR a b p q D) (hp : PermR p q D D') (h1 : p < m) (h2 : m ≤ q) (hl : ∀ k, p ≤ k → k < m → D' k = v) (hr : ∀ k, m ≤ k → k < q → v < D' k) : PdR a b m q D' := by
  refine ⟨by have := h.ap; omega, h2, h.qb, .inr fun k k1 k2 => ?_, fun D2 g1 g2 => ?_⟩
  · rw [hl (m - 1) (by omega) (by omega)]
    exact Nat.le_of_lt (hr k k1 k2)
  · refine h.fin D2 (hp.trans (g1.wide (Nat.le_of_lt h1) (Nat.le_refl _))) fun i j i1 i2 i3 => ?_
    have el : ∀ k, p ≤ k → k < m → D2 k = v := fun k k1 k2 => by rw [g1.out (.inl k2)]; exact hl k k1 k2
    have er : ∀ k, m ≤ k → k < q → v < D2 k := g1.all (P := fun x => v < x) hr
    by_cases e1 : j < m
    · rw [el i i1 (by omega), el j (by omega) e1]; exact Nat.le_refl _
    · by_cases e2 : i < m
      · rw [el i i1 e2]
        exact Nat.le_of_lt (er j (by omega) i3)
      · exact g2 i j (by omega) i2 i3
/-- Behind partition, and the shorter side on the left in order. -/
theorem PdR.left {a b p q m : Nat} {D D' D2 : Nat → Nat} (h : PdR a b p q D) (hp : PermR p q D D') (h1 : p ≤ m) (h2 : m < q) (hl : ∀ k, p ≤ k → k < m → D' k < D' m) (hr : ∀ k, m < k → k < q → D' m ≤ D' k) (hp2 : PermR p m D' D2) (hs : SortR p m D2) : PdR a b (m + 1) q D2 := by
  have em : D2 m = D' m := hp2.out (.inr (Nat.le_refl _))
  have el : ∀ k, p ≤ k → k < m → D2 k < D' m := hp2.all (P := fun x => x < D' m) hl
  have er : ∀ k, m < k → k < q → D' m ≤ D2 k := fun k k1 k2 => by rw [hp2.out (.inr (by omega))]; exact hr k k1 k2
  refine ⟨by have := h.ap; omega, h2, h.qb, .inr fun k k1 k2 => ?_, fun D3 g1 g2 => ?_⟩
  · rw [Nat.add_sub_cancel, em]
    exact er k (by omega) k2
  · refine h.fin D3 ((hp.trans (hp2.wide (Nat.le_refl _) (Nat.le_of_lt h2))).trans (g1.wide (by omega) (Nat.le_refl _))) ?_
    have e3 : ∀ k, k < m + 1 → D3 k = D2 k := fun k hk => g1.out (.inl hk)
    refine SortR.join (m := m) (hs.same fun k _ k2 => e3 k (by omega)) g2 (fun k k1 k2 => ?_) fun k k1 k2 => ?_
    · rw [e3 k (by omega), e3 m (by omega), em]
      exact Nat.le_of_lt (el k k1 k2)
    · rw [e3 m (by omega), em]
      exact g1.all (P := fun x => D' m ≤ x) (fun i i1 i2 => er i (by omega) i2) k (by omega) k2
/-- .. on the right. -/
theorem PdR.right {a b p q m : Nat} {D D' D2 : Nat → Nat} (h : PdR a b p q D) (hp : PermR p q D D') (h1 : p ≤ m) (h2 : m < q) (hl : ∀ k, p ≤ k → k < m → D' k < D' m) (hr : ∀ k, m < k → k < q → D' m ≤ D' k) (hp2 : PermR (m + 1) q D' D2) (hs : SortR (m + 1) q D2) : PdR a b p m D2 := by
  have em : ∀ k, k ≤ m → D2 k = D' k := fun k hk => hp2.out (.inl (by omega))
  have er : ∀ k, m + 1 ≤ k → k < q → D' m ≤ D2 k := hp2.all (P := fun x => D' m ≤ x) fun i i1 i2 => hr i (by omega) i2
  have hpp : PermR p q D D2 := hp.trans (hp2.wide (by omega) (Nat.le_refl _))
  refine ⟨h.ap, h1, by have := h.qb; omega, (h.pre.perm hpp).less (by omega), fun D3 g1 g2 => ?_⟩
  refine h.fin D3 (hpp.trans (g1.wide (Nat.le_refl _) (Nat.le_of_lt h2))) ?_
  have e3 : ∀ k, m ≤ k → D3 k = D2 k := fun k hk => g1.out (.inr hk)
  refine SortR.join (m := m) g2 (hs.same fun k k1 _ => e3 k (by omega)) (fun k k1 k2 => ?_) fun k k1 k2 => ?_
  · rw [e3 m (Nat.le_refl _), em m (Nat.le_refl _)]
    exact g1.all (P := fun x => x ≤ D' m) (fun i i1 i2 => by rw [em i (by omega)]; exact Nat.le_of_lt (hl i i1 i2)) k k1 k2
  · rw [e3 m (Nat.le_refl _), em m (Nat.le_refl _), e3 k (by omega)]
    exact er k (by omega) k2
end Go.Proofs.Ytojknconkmplkaa
