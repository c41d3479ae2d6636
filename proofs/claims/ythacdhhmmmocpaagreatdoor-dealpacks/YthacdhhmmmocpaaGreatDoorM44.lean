import Derived.Test.YthacdhhmmmocpaaGreatDoorPRefText
import Derived.Test.YthacdhhmmmocpaaGreatDoorM42
import Derived.Test.YthacdhhmmmocpaaGreatDoorPRdNil
import Derived.Test.YthacdhhmmmocpaaGreatDoorM18
namespace Go.Proofs.YthacdhhmmmocpaaGreatDoor
open Go.RowKit Crc

/-- Both readers, in one state. -/
structure Pair (base limr d pv : Nat) (po : Option Addr) (w : World) (s : RS) : Prop where
  prog : RdP limr w po s
  ref : RefS d w pv s
  place : s.sound → s.place = 0
  plain : s.made = false → s.B.length = s.pos
  lim : limr ≤ pv
  nepv : rowP po ≠ some pv
  ned : rowP po ≠ some d
  bpo : ∀ g, rowP po = some g → base ≤ g ∧ g < w.heap.size
  bpv : base ≤ pv
  dlt : d < w.heap.size
  len : s.B.length ≤ 140737488351232
def Keep (base : Nat) (w w' : World) : Prop := ∀ W, Below base W w → Below base W w'
/-- What a step leaves. -/
def Res (base limr d pv : Nat) (po : Option Addr) (w w' : World) : Prop := (∃ s', Pair base limr d pv po w' s') ∧ Keep base w w'
theorem Keep.trans {base : Nat} {a b c : World} (h : Keep base a b) (k : Keep base b c) : Keep base a c := fun W hW => k W (h W hW)
theorem Pair.pvlt {base limr d pv : Nat} {po : Option Addr} {w : World} {s : RS} (h : Pair base limr d pv po w s) : pv < w.heap.size := refS_size h.ref
theorem Pair.base_le {base limr d pv : Nat} {po : Option Addr} {w : World} {s : RS} (h : Pair base limr d pv po w s) : base ≤ w.heap.size := by have h1 := h.bpv; have h2 := h.pvlt; omega
/-- Only new blocks were written. -/
theorem Pair.quiet {base limr d pv : Nat} {po : Option Addr} {w w' : World} {s : RS} {row : Option Nat} (h : Pair base limr d pv po w s) (hg : w.grownBy w' row) (hr : ∀ g, row = some g → w.heap.size ≤ g) : Pair base limr d pv po w' s ∧ Keep base w w' := by
  have h1 := h.pvlt
  have h2 := h.lim
  have h3 := h.dlt
  refine ⟨⟨h.prog.kept hg (fun g hg' => ⟨by have := hr g hg'; omega, fun e => ?_⟩), h.ref.kept hg (fun e => ?_) (fun e => ?_), h.place, h.plain, h.lim, h.nepv, h.ned, fun g e => ⟨(h.bpo g e).1, Nat.lt_of_lt_of_le (h.bpo g e).2 hg.size⟩, h.bpv, Nat.lt_of_lt_of_le h3 hg.size, h.len⟩, fun W hW => hW.grown hg h.base_le (fun k hk => Nat.le_trans h.base_le (hr k hk))⟩
  · have := (h.bpo g e).2; have := hr g hg'; omega
  · have := hr pv e; omega
  · have := hr d e; omega
theorem RS.step_place {s : RS} (h : s.sound → s.place = 0) (z : Nat) (y : Int) : (s.step z y).sound → (s.step z y).place = 0 := by
  intro hs
  by_cases h0 : s.sound
  · by_cases hy : y = 0
    · subst hy
      rw [RS.step_ok h0]
      exact h h0
    · exact absurd hs (RS.unsound z hy)
  · rw [RS.step_not h0] at hs ⊢
    exact h hs
theorem RS.step_plain {s : RS} (h : s.made = false → s.B.length = s.pos) (z : Nat) (y : Int) : (s.step z y).made = false → (s.step z y).B.length = (s.step z y).pos := by
  by_cases h0 : s.sound
  · intro hm
    have : (s.step z y).made = s.made := by unfold RS.step; split <;> (try split) <;> rfl
    rw [this, h0.1] at hm
    cases hm
  · rw [RS.step_not h0]
    exact h
/-- Both went on. -/
theorem Pair.next {base limr d pv : Nat} {po : Option Addr} {w w1 w2 : World} {s : RS} {z : Nat} {y : Int} (h : Pair base limr d pv po w s) (hp : RdP limr w1 po (s.step z y)) (hg1 : w.grownBy w1 (rowP po)) (hr : RefS d w2 pv (s.step z y)) (hg2 : w1.grownBy w2 (some pv)) : Res base limr d pv po w w2 := by
  refine ⟨⟨s.step z y, ⟨hp.kept hg2 (fun g e => by cases e; exact ⟨h.lim, h.nepv⟩), hr, RS.step_place h.place z y, RS.step_plain h.plain z y, h.lim, h.nepv, h.ned, fun g e => ⟨(h.bpo g e).1, Nat.lt_of_lt_of_le (h.bpo g e).2 (Nat.le_trans hg1.size hg2.size)⟩, h.bpv, Nat.lt_of_lt_of_le h.dlt (Nat.le_trans hg1.size hg2.size), by rw [RS.step_B]; exact h.len⟩⟩, ?_⟩
  intro W hW
  exact (hW.grown hg1 h.base_le (fun k hk => (h.bpo k hk).1)).grown hg2 (Nat.le_trans h.base_le hg1.size) (fun k hk => by cases hk; exact h.bpv)
/-- A block was written that was new to an earlier state. -/
theorem Pair.wrote {base limr d pv : Nat} {po : Option Addr} {w0 w w' : World} {s0 s : RS} {row : Option Nat} (h0 : Pair base limr d pv po w0 s0) (h : Pair base limr d pv po w s) (hg : w.grownBy w' row) (hr : ∀ g, row = some g → w0.heap.size ≤ g) : Pair base limr d pv po w' s ∧ Keep base w w' := by
  have h1 := h0.pvlt
  have h2 := h0.lim
  have h3 := h0.dlt
  refine ⟨⟨h.prog.kept hg (fun g hg' => ⟨by have := hr g hg'; omega, fun e => ?_⟩), h.ref.kept hg (fun e => ?_) (fun e => ?_), h.place, h.plain, h.lim, h.nepv, h.ned, fun g e => ⟨(h.bpo g e).1, Nat.lt_of_lt_of_le (h.bpo g e).2 hg.size⟩, h.bpv, Nat.lt_of_lt_of_le h.dlt hg.size, h.len⟩, fun W hW => hW.grown hg h.base_le (fun k hk => Nat.le_trans h0.base_le (hr k hk))⟩
  · have := (h0.bpo g e).2; have := hr g hg'; omega
  · have := hr pv e; omega
  · have := hr d e; omega
/-- The reference's reader behind the program's step. -/
theorem Pair.refAt {base limr d pv : Nat} {po : Option Addr} {w w1 : World} {s : RS} (h : Pair base limr d pv po w s) (hg1 : w.grownBy w1 (rowP po)) : RefS d w1 pv s := h.ref.kept hg1 h.nepv h.ned

end Go.Proofs.YthacdhhmmmocpaaGreatDoor
namespace Go.Proofs.YthacdhhmmmocpaaGreatDoor
open Go.RowKit Crc

def Cd.set (c : Cd) (f n : Nat) : Cd := match f with
  | 1 => { c with deal := n }
  | 2 => { c with acct := n }
  | 3 => { c with to_ := n }
  | 4 => { c with arb := n }
  | 5 => { c with amt := n }
  | 6 => { c with due := n }
  | _ => c
def txA (s : RS) : ByteArray × Nat × Int := textAt s.rest 512 (utf8Ok (strOf (blobAt s.rest 512).1))
/-- A field is read. -/
def rdF (x : RS × Cd) (f : Nat) : RS × Cd := if f = 7 then (x.1.step (txA x.1).2.1 (txA x.1).2.2, { x.2 with terms := (txA x.1).1 }) else (x.1.step (numAt x.1.rest).2.1 (numAt x.1.rest).2.2, x.2.set f (numAt x.1.rest).1)
def Cd.zero (v : Int) : Cd := ⟨v, 0, 0, 0, 0, 0, 0, ⟨#[]⟩⟩
def rdAll (v : Int) (s : RS) : RS × Cd := (fds v).foldl rdF (s, Cd.zero v)
/-- Between two fields of the reading. -/
structure Rf (w : World) (lim p nb fb : Nat) (L : List Nat) (x : RS × Cd) (W : World) : Prop where
  rd : RdP lim W (some ⟨p, 0, none⟩) x.1
  gr : w.grownBy W (some p)
  box : W.heap[nb]? = some (.cells x.2.nums 49 (0, 0))
  res : W.heap[w.heap.size]? = some (.cells (Cd.zero 0).cells 25 (0, 0))
  ints : Ints W fb L
  pl : x.1.sound → x.1.place = 0
theorem Rf.step {w : World} {lim p nb fb : Nat} {L : List Nat} {x : RS × Cd} {W W' : World} {z : Nat} {y : Int} (h : Rf w lim p nb fb L x W) (hp : p < w.heap.size) (hnb : w.heap.size < nb) (hfb : w.heap.size < fb) (hfw : fb < W.heap.size) (h1 : RdP lim W' (some ⟨p, 0, none⟩) (x.1.step z y)) (hg : W.grownBy W' (rowP (some ⟨p, 0, none⟩))) (c' : Cd) (hc : c'.nums = x.2.nums) : Rf w lim p nb fb L (x.1.step z y, c') W' := by
  have hg : W.grownBy W' (some p) := hg
  refine ⟨h1, grown_trans (row := some p) h.gr hg, ?_, ?_, h.ints.heap (hg.block fb hfw (by simp; omega)), RS.step_place h.pl z y⟩
  · show W'.heap[nb]? = some (.cells c'.nums _ _)
    rw [hc]
    exact (hg.block nb (block_lt h.box) (by simp; omega)).trans h.box
  · exact (hg.block _ (block_lt h.res) (by simp; omega)).trans h.res
theorem Rf.store {w : World} {lim p nb fb : Nat} {L : List Nat} {x : RS × Cd} {W : World} (h : Rf w lim p nb fb L x W) (hp : p < w.heap.size) (hlim : lim ≤ p) (hnb : w.heap.size < nb) (hfb : nb ≠ fb) (j : Nat) (v : Value) (c' : Cd) (hc : c'.nums = x.2.nums.setIfInBounds j v) : Rf w lim p nb fb L (x.1, c') (W.setCell ⟨nb, j, none⟩ v) := by
  have g := grown_set W nb j v
  refine ⟨h.rd.kept g (fun k e => by cases e; exact ⟨by omega, by simp [rowP]; omega⟩), ?_, ?_, (g.block _ (block_lt h.res) (by simp; omega)).trans h.res, fun i f hf => g.cell (h.ints i f hf) (by simpa using fun e => hfb e.symm), h.pl⟩
  · exact ⟨g.os.trans h.gr.os, g.tape.trans h.gr.tape, g.output.trans h.gr.output, Nat.le_trans h.gr.size g.size, fun k hk hr => (g.block k (Nat.lt_of_lt_of_le hk h.gr.size) (by simp; omega)).trans (h.gr.block k hk hr)⟩
  · rw [heap_setCell_same W nb j _ _ v h.box]
    show _ = some (Obj.cells c'.nums _ _)
    rw [hc]
end Go.Proofs.YthacdhhmmmocpaaGreatDoor
