import Derived.Test.YtmoklddfaocihaaDoorBKd
import Derived.Test.YtmoklddfaocihaaDoorBAs
import Derived.Test.YtmoklddfaocihaaDoorBAt
import Derived.Test.YtmoklddfaocihaaDoorBAw
import Derived.Defers
import Derived.Recover
import Derived.Deep.DeepCutAuto
namespace Go.Proofs.YtmoklddfaocihaaDoor
open Go.RowKit

theorem below_alloc1 (W : World) (o : Obj) : Below W.heap.size W (W.alloc o) := (Below.refl _ W).alloc (Nat.le_refl _) _
/-- The table of forms: what the Arg is, what is taken, what is laid up. -/
def formT : List (Nat × List Nat × List Nat) := [(0, [], []), (0, [], []), (1, [], [110]), (0, [], [116]), (0, [], [116]), (2, [], [105]), (3, [], [115]), (3, [115], []), (0, [116], [116]), (0, [110, 110], [116]), (0, [110, 110], [116]), (0, [110, 110], [116]), (0, [110, 110], [116]), (0, [110, 110], [116]), (0, [110, 110], [116]), (0, [116, 116], [116]), (0, [116, 116], [116]), (0, [110, 110], [110]), (0, [110, 110], [110]), (0, [110, 110], [110]), (0, [110, 110], [110]), (0, [110, 110], [110]), (0, [110, 110], [110]), (0, [110, 110], [110]), (0, [110, 110, 110], [110]), (4, [], []), (4, [116], []), (4, [116], []), (4, [116], []), (0, [110, 110], []), (5, [116], []), (5, [], []), (0, [], [])]
def fArg (o : Nat) : Nat := (formT.getD o (0, [], [])).1
def fTakes (o : Nat) : List Nat := (formT.getD o (0, [], [])).2.1
def fLays (o : Nat) : List Nat := (formT.getD o (0, [], [])).2.2
/-- Letters as a text. -/
def txt (l : List Nat) : ByteArray := ⟨(l.map (fun x => UInt8.ofNat x)).toArray⟩
/-- The tables as they lie. -/
structure Tab (w : World) : Prop where
  a : ∀ o, o ≤ 32 → w.cell? ⟨0, o * 3, none⟩ = some (.int .i64 (fArg o : Nat))
  t : ∀ o, o ≤ 32 → w.cell? ⟨0, o * 3 + 1, none⟩ = some (.string (txt (fTakes o)))
  l : ∀ o, o ≤ 32 → w.cell? ⟨0, o * 3 + 2, none⟩ = some (.string (txt (fLays o)))
  i : ∀ o, o < 8 → w.cell? ⟨1, o * 2 + 1, none⟩ = some (.int .i64 (if o = 7 then 1 else 0))
  z : 3 < w.heap.size
theorem Tab.below {w w' : World} {k : Nat} (h : Tab w) (hb : Below k w w') (hk : 3 < k) : Tab w' :=
  ⟨fun o ho => (hb.cell (p := ⟨0, _, none⟩) (by show 0 < k; omega)).trans (h.a o ho), fun o ho => (hb.cell (p := ⟨0, _, none⟩) (by show 0 < k; omega)).trans (h.t o ho), fun o ho => (hb.cell (p := ⟨0, _, none⟩) (by show 0 < k; omega)).trans (h.l o ho), fun o ho => (hb.cell (p := ⟨1, _, none⟩) (by show 1 < k; omega)).trans (h.i o ho), Nat.lt_of_lt_of_le h.z hb.size⟩
/-- A program, as it is meant. -/
structure Pv where
  (nc ns n : Nat) (C S : Nat → Int) (en : Nat → Int) (op arg : Nat → Int)
/-- A program as it lies: its lists. -/
structure Pg where
  (ca sa ia : Option Addr) (cc sc ic : Nat) (cb co sb so ib io : Nat)
def Pg.cs (g : Pg) (p : Pv) : List Value := [.slice g.ca p.nc g.cc, .slice g.sa p.ns g.sc, .int .i64 (p.en 0), .int .i64 (p.en 1), .int .i64 (p.en 2), .int .i64 (p.en 3), .int .i64 (p.en 4), .int .i64 (p.en 5), .slice g.ia p.n g.ic]
structure Pg.Ok (g : Pg) (p : Pv) (lim : Nat) (w : World) : Prop where
  hc : 0 < p.nc → g.ca = some ⟨g.cb, g.co, none⟩ ∧ g.cb < lim
  hs : 0 < p.ns → g.sa = some ⟨g.sb, g.so, none⟩ ∧ g.sb < lim
  hi : 0 < p.n → g.ia = some ⟨g.ib, g.io, none⟩ ∧ g.ib < lim
  vc : ∀ j, j < p.nc → w.cell? ⟨g.cb, g.co + j, none⟩ = some (.int .u64 (p.C j))
  vs : ∀ j, j < p.ns → w.cell? ⟨g.sb, g.so + j, none⟩ = some (.int .i64 (p.S j))
  vo : ∀ j, j < p.n → w.cell? ⟨g.ib, g.io + j * 2, none⟩ = some (.int .i64 (p.op j))
  va : ∀ j, j < p.n → w.cell? ⟨g.ib, g.io + j * 2 + 1, none⟩ = some (.int .i64 (p.arg j))
  lc : p.nc ≤ 140737488355328
  ls : p.ns ≤ 140737488355328
  li : p.n ≤ 140737488355328
theorem Pg.Ok.kept {g : Pg} {p : Pv} {lim k : Nat} {w w' : World} (h : g.Ok p lim w) (hb : Below k w w') (hk : lim ≤ k) : g.Ok p lim w' :=
  ⟨h.hc, h.hs, h.hi, fun j hj => (hb.cell (p := ⟨g.cb, _, none⟩) (by have := (h.hc (by omega)).2; show g.cb < k; omega)).trans (h.vc j hj), fun j hj => (hb.cell (p := ⟨g.sb, _, none⟩) (by have := (h.hs (by omega)).2; show g.sb < k; omega)).trans (h.vs j hj), fun j hj => (hb.cell (p := ⟨g.ib, _, none⟩) (by have := (h.hi (by omega)).2; show g.ib < k; omega)).trans (h.vo j hj), fun j hj => (hb.cell (p := ⟨g.ib, _, none⟩) (by have := (h.hi (by omega)).2; show g.ib < k; omega)).trans (h.va j hj), h.lc, h.ls, h.li⟩
theorem Pg.Ok.wide {g : Pg} {p : Pv} {lim lim' : Nat} {w : World} (h : g.Ok p lim w) (hl : lim ≤ lim') : g.Ok p lim' w :=
  ⟨fun e => ⟨(h.hc e).1, Nat.lt_of_lt_of_le (h.hc e).2 hl⟩, fun e => ⟨(h.hs e).1, Nat.lt_of_lt_of_le (h.hs e).2 hl⟩, fun e => ⟨(h.hi e).1, Nat.lt_of_lt_of_le (h.hi e).2 hl⟩, h.vc, h.vs, h.vo, h.va, h.lc, h.ls, h.li⟩
/-- What is known of the places: the kinds, the lowest first; true: a truth. -/
abbrev Kn := Nat → Option (List Bool)
def ltr (b : Bool) : Nat := if b then 116 else 110
def kin (o : Option (List Bool)) : List Bool := o.getD []
def ktx (l : List Bool) : ByteArray := txt (l.map ltr)
/-- The walk of the program as it lies: its block q, the shapes in block hb. -/
structure WK (lim : Nat) (W : World) (q hb : Nat) (g : Pg) (p : Pv) (k : Kn) : Prop where
  blk : W.heap[q]? = some (.cells (g.cs p ++ [Value.slice (some ⟨hb, 0, none⟩) p.n p.n]).toArray 145 (0, 0))
  row : ∃ cs, W.heap[hb]? = some (.cells cs 124 (0, 0)) ∧ ∀ j, j < p.n → cs[j * 2]? = some (.bool (k j).isSome) ∧ cs[j * 2 + 1]? = some (.string (ktx (kin (k j))))
  ok : g.Ok p lim W
  lq : lim ≤ q
  lh : lim ≤ hb
  tab : Tab W
  l2 : 3 < lim
/-- A fault of this layer as it lies. -/
def Ft (lim : Nat) (w : World) (v : Value) (at_ why : Int) : Prop := Chain lim w [⟨⟨#[99, 111, 100, 101]⟩, at_⟩] v why
set_option maxRecDepth 10000 in
theorem refusalC (at_ why : Int) (w : World) :
    Calls Tryd.prog 42 #[.int .i64 at_, .iface 98 (.int .i64 why)] w fun e w' => e = .returned (.pointer (some ⟨w.heap.size, 0, none⟩)) ∧ w' = w.alloc (.cells #[.string ⟨#[99, 111, 100, 101]⟩, .int .i64 at_, .iface 98 (.int .i64 why)] 129) := by
  go_enter Tryd.func42, Tryd.ntmps42
  go_wp2
  go_ret
  exact ⟨rfl, rfl⟩
/-- It gave up. -/
def Gu (w : World) (at_ why : Int) (e : Ending) (w' : World) : Prop := ∃ g, e = .panicked [{ v := .iface 96 (.pointer (some ⟨g, 0, none⟩)), recovered := false }] ∧ Hid (Ft w'.heap.size w' (.iface 96 (.pointer (some ⟨g, 0, none⟩))) at_ why ∧ Below w.heap.size w w')
theorem ft_new {w w' : World} {at_ why : Int} (h : w' = w.alloc (.cells #[.string ⟨#[99, 111, 100, 101]⟩, .int .i64 at_, .iface 98 (.int .i64 why)] 129)) : Ft w'.heap.size w' (.iface 96 (.pointer (some ⟨w.heap.size, 0, none⟩))) at_ why ∧ Below w.heap.size w w' := by
  subst h
  refine ⟨⟨w.heap.size, .iface 98 (.int .i64 why), rfl, by simp, ?_, ?_, ?_, rfl⟩, below_alloc1 w _⟩
  · exact (World.cell?_alloc_new w _ _ 0).trans rfl
  · exact (World.cell?_alloc_new w _ _ 1).trans rfl
  · exact (World.cell?_alloc_new w _ _ 2).trans rfl
set_option maxRecDepth 10000 in
theorem giveUp_any (at_ why : Int) (w : World) : Calls Tryd.prog 96 #[.int .i64 at_, .int .i64 why] w (Gu w at_ why) := by
  unfold Gu
  go_enter Tryd.func96, Tryd.ntmps96
  go_wp2_with fail
  refine (refusalC at_ why w).mono ?_
  rintro e w1 ⟨rfl, hw⟩
  have HF := hide (ft_new hw)
  clear hw
  go_wp2
  exact ⟨rfl, _, rfl, HF⟩
/-- A place in a list of so many. -/
def isPl (a : Int) (n : Nat) : Bool := decide (0 ≤ a) && decide (a < (n : Int))
set_option maxRecDepth 10000 in
theorem isPlace_any (a : Int) (n : Nat) (w : World) : Calls Tryd.prog 41 #[.int .i64 a, .int .i64 (n : Nat)] w fun e w' => e = .returned (.bool (isPl a n)) ∧ w' = w := by
  unfold isPl
  by_cases h1 : 0 ≤ a
  · by_cases h2 : a < (n : Int)
    · have e1 : decide (0 ≤ a) = true := decide_eq_true h1
      have e2 : decide (a < (n : Int)) = true := decide_eq_true h2
      rw [e1, e2]
      go_enter Tryd.func41, Tryd.ntmps41
      go_wp2
      go_ret
      exact ⟨rfl, rfl⟩
    · have e1 : decide (0 ≤ a) = true := decide_eq_true h1
      have e2 : decide (a < (n : Int)) = false := decide_eq_false h2
      rw [e1, e2]
      go_enter Tryd.func41, Tryd.ntmps41
      go_wp2
      go_ret
      exact ⟨rfl, rfl⟩
  · have e1 : decide (0 ≤ a) = false := decide_eq_false h1
    rw [e1]
    go_enter Tryd.func41, Tryd.ntmps41
    go_wp2
    go_ret
    exact ⟨rfl, rfl⟩
def isO (a : Int) : Bool := decide (1 ≤ a) && decide (a ≤ 32)
set_option maxRecDepth 10000 in
theorem isOp_any (a : Int) (w : World) : Calls Tryd.prog 97 #[.int .i64 a] w fun e w' => e = .returned (.bool (isO a)) ∧ w' = w := by
  unfold isO
  by_cases h1 : 1 ≤ a
  · by_cases h2 : a ≤ 32
    · have e1 : decide (1 ≤ a) = true := decide_eq_true h1
      have e2 : decide (a ≤ 32) = true := decide_eq_true h2
      rw [e1, e2]
      go_enter Tryd.func97, Tryd.ntmps97
      go_wp2
      go_ret
      exact ⟨rfl, rfl⟩
    · have e1 : decide (1 ≤ a) = true := decide_eq_true h1
      have e2 : decide (a ≤ 32) = false := decide_eq_false h2
      rw [e1, e2]
      go_enter Tryd.func97, Tryd.ntmps97
      go_wp2
      go_ret
      exact ⟨rfl, rfl⟩
  · have e1 : decide (1 ≤ a) = false := decide_eq_false h1
    rw [e1]
    go_enter Tryd.func97, Tryd.ntmps97
    go_wp2
    go_ret
    exact ⟨rfl, rfl⟩
theorem WK.cells {lim : Nat} {W : World} {q hb : Nat} {g : Pg} {p : Pv} {k : Kn} (h : WK lim W q hb g p k) : W.cell? ⟨q, 0, none⟩ = some (.slice g.ca p.nc g.cc) ∧ W.cell? ⟨q, 1, none⟩ = some (.slice g.sa p.ns g.sc) ∧ W.cell? ⟨q, 8, none⟩ = some (.slice g.ia p.n g.ic) ∧ W.cell? ⟨q, 9, none⟩ = some (.slice (some ⟨hb, 0, none⟩) p.n p.n) ∧ q < W.heap.size :=
  ⟨block_cell h.blk 0, block_cell h.blk 1, block_cell h.blk 8, block_cell h.blk 9, block_lt h.blk⟩
end Go.Proofs.YtmoklddfaocihaaDoor
