import Derived.Test.YtneginefcloceaaQDef
import Derived.Test.YtneginefcloceaaBMj
import Derived.Test.YtneginefcloceaaBPh
import Derived.Test.YtneginefcloceaaBPf
import Derived.Maps.RangeWalk
import Derived.Maps.OwnSet
namespace Go.Proofs.Ytneginefcloceaa
open Go.RowKit Crc

/-- What a request says. -/
def Rq.val (r : Rq) : Nat × Nat × List Nat := (r.cl, r.sq, r.C)
theorem Rqs.wide {lim lim' : Nat} {w : World} {ro : Option Addr} {rs : List Rq} {b off : Nat} (h : Rqs lim w ro rs b off) (hl : lim ≤ lim') : Rqs lim' w ro rs b off :=
  ⟨h.ad, fun e => Nat.lt_of_lt_of_le (h.lt e) hl, h.le, h.at_, fun r hr => ⟨(h.ok r hr).hc, (h.ok r hr).hs, (h.ok r hr).hC.wide hl⟩⟩
theorem Rqs.nil (lim : Nat) (w : World) (ro : Option Addr) : Rqs lim w ro [] 0 0 := ⟨fun h => by simp at h, fun h => by simp at h, by simp, fun i r h => by simp at h, fun r h => by simp at h⟩
/-- A block none of whose cells is a byte or a list, is none of a batch's. -/
def Odd (w : World) (q : Nat) : Prop := ∀ j v, w.cell? ⟨q, j, none⟩ = some v → (∀ x, v ≠ .int .u8 x) ∧ ∀ a n k, v ≠ .slice a n k
theorem Shows.odd {lim q : Nat} {w w' : World} {ao : Option Addr} {n cap : Nat} {B : List Nat} (h : Shows lim w ao n cap B) (hg : w.grownBy w' (some q)) (ho : Odd w q) : Shows lim w' ao n cap B := by
  obtain ⟨h1, h2, h3, h4, b, off, h5, h6, h7⟩ := h
  refine ⟨h1, h2, h3, h4, b, off, h5, h6, fun i hi => hg.cell (h7 i hi) (fun e => ?_)⟩
  cases e
  exact (ho _ _ (h7 i hi)).1 _ rfl
theorem Rqs.odd {lim q : Nat} {w w' : World} {ro : Option Addr} {rs : List Rq} {b off : Nat} (h : Rqs lim w ro rs b off) (hg : w.grownBy w' (some q)) (ho : Odd w q) : Rqs lim w' ro rs b off := by
  refine ⟨h.ad, h.lt, h.le, fun i r hr j v hv => hg.cell (h.at_ i r hr j v hv) (fun e => ?_), fun r hr => ⟨(h.ok r hr).hc, (h.ok r hr).hs, (h.ok r hr).hC.odd hg ho⟩⟩
  cases e
  exact (ho _ _ (h.at_ i r hr 2 _ rfl)).2 _ _ _ rfl
theorem odd_map {w : World} {q : Nat} {es : Array MapEntry} {k : Nat} (h : w.heap[q]? = some (.map es k)) : Odd w q := by
  intro j v hv
  simp [World.cell?, h] at hv

/-- A tally as it is told. -/
structure Jv where
  (num : Nat) (node : Int) (fr st : Nat) (rs : List (Nat × Nat × List Nat))
def Jv.zero : Jv := ⟨0, 0, 0, 0, []⟩
/-- A tally as it lies. -/
structure Jt where
  (num : Nat) (node : Int) (fr st : Nat) (ro : Option Addr) (n rc : Nat) (rs : List Rq) (b off : Nat)
def Jt.zero : Jt := ⟨0, 0, 0, 0, none, 0, 0, [], 0, 0⟩
def Jt.cells (t : Jt) : Array Value := #[.int .u64 (t.num : Nat), .int .i64 t.node, .int .u32 (t.fr : Nat), .int .u64 (t.st : Nat), .slice t.ro t.n t.rc]
def Jt.abs (t : Jt) : Jv := ⟨t.num, t.node, t.fr, t.st, t.rs.map Rq.val⟩
structure Jt.Ok (lim : Nat) (w : World) (t : Jt) : Prop where
  hn : t.num < 18446744073709551616
  hf : t.fr < 4294967296
  hs : t.st < 18446744073709551616
  hR : Rqs lim w t.ro t.rs t.b t.off
  hl : t.rs.length = t.n
theorem Jt.Ok.below {lim : Nat} {w w' : World} {t : Jt} (h : t.Ok lim w) (hb : Below lim w w') : t.Ok lim w' := ⟨h.hn, h.hf, h.hs, h.hR.below hb, h.hl⟩
theorem Jt.Ok.wide {lim lim' : Nat} {w : World} {t : Jt} (h : t.Ok lim w) (hl : lim ≤ lim') : t.Ok lim' w := ⟨h.hn, h.hf, h.hs, h.hR.wide hl, h.hl⟩
theorem Jt.Ok.odd {lim q : Nat} {w w' : World} {t : Jt} (h : t.Ok lim w) (hg : w.grownBy w' (some q)) (ho : Odd w q) : t.Ok lim w' := ⟨h.hn, h.hf, h.hs, h.hR.odd hg ho, h.hl⟩
theorem Jt.zero_ok (lim : Nat) (w : World) : Jt.zero.Ok lim w := ⟨by decide, by decide, by decide, Rqs.nil lim w none, rfl⟩
theorem Jt.zero_abs : Jt.zero.abs = Jv.zero := rfl

/-- An element reads as itself. -/
def RV : Value → Option (DataW Value × List MemPlace) := fun v => some (.held v, [])
abbrev kU (x : Nat) : Lit := .int .u64 (x : Int)
theorem KD : Maps.Keyed Try.prog 25 := Maps.int_keyed Try.underlying25
theorem kU_wf {x : Nat} (h : x < 18446744073709551616) : (kU x).wf = true := by simp [Lit.wf, IntKind.min, IntKind.max, IntKind.bits, IntKind.signed]; omega
theorem kU_of {x : Nat} (h : x < 18446744073709551616) : keyOf Try.prog 25 (.int .u64 (x : Int)) = some (kU x) := Maps.keyOf_int_mk Try.underlying25 (kU_wf h)
theorem kU_inj {x y : Nat} (h : kU x = kU y) : x = y := by cases h; rfl
/-- The map's block: under each number that tally. -/
def TLm (W : World) (mb n : Nat) (m : Nat → Jt) : Prop :=
  ∃ D : DataW Value, W.ownsMap Try.prog 25 RV mb n D ∧ ∀ x, x < 18446744073709551616 → D.atKey (kU x) (.held (.agg Jt.zero.cells)) = .held (.agg (m x).cells) ∧ (Maps.has D (kU x) = true → 0 < (m x).fr)
theorem TLm.obj {W : World} {mb n : Nat} {m : Nat → Jt} (h : TLm W mb n m) : ∃ es k, W.heap[mb]? = some (.map es k) := by
  obtain ⟨D, ⟨es, k, h1, _⟩, _⟩ := h
  exact ⟨es, k, h1⟩
theorem TLm.odd {W : World} {mb n : Nat} {m : Nat → Jt} (h : TLm W mb n m) : Odd W mb := by
  obtain ⟨es, k, h⟩ := h.obj
  exact odd_map h
theorem TLm.lt {W : World} {mb n : Nat} {m : Nat → Jt} (h : TLm W mb n m) : mb < W.heap.size := by
  obtain ⟨es, k, h⟩ := h.obj
  exact block_lt h
theorem TLm.kept {W W' : World} {mb n : Nat} {m : Nat → Jt} (h : TLm W mb n m) {row : Option Nat} (hg : W.grownBy W' row) (hne : some mb ≠ row) : TLm W' mb n m := by
  obtain ⟨D, h1, h2⟩ := h
  exact ⟨D, h1.kept hg hne, h2⟩
def updT {β : Type} (m : Nat → β) (k : Nat) (v : β) : Nat → β := fun x => if x = k then v else m x
theorem tlm_made (W : World) : TLm (W.alloc (.map #[] 0)) W.heap.size 0 (fun _ => Jt.zero) := ⟨.map [], World.ownsMap_made W _ _ _, fun _ _ => ⟨rfl, fun h => (by cases h)⟩⟩

theorem below_less {w w' : World} {B : Nat} (h : Below w.heap.size w w') (hB : B ≤ w.heap.size) : Below B w w' := h.mono hB
end Go.Proofs.Ytneginefcloceaa
