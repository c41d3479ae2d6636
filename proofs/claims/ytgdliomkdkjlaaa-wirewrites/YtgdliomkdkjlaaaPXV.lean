import Derived.Test.YtgdliomkdkjlaaaPXU
import Derived.Test.YtgdliomkdkjlaaaPSame
import Derived.Test.YtgdliomkdkjlaaaPSpoil
import Derived.Test.YtgdliomkdkjlaaaPKept
import Derived.Test.YtgdliomkdkjlaaaPLent
import Derived.Test.YtgdliomkdkjlaaaPLawA
import Derived.Test.YtgdliomkdkjlaaaPFls
namespace Go.Proofs.Ytgdliomkdkjlaaa
open Go.RowKit Crc

/-- What lay below base is kept. -/
def KeepW (base : Nat) (w w' : World) : Prop := ∀ W, Below base W w → Below base W w'
theorem KeepW.trans {base : Nat} {a b c : World} (h : KeepW base a b) (k : KeepW base b c) : KeepW base a c := fun W hW => k W (h W hW)

theorem Owns.keepAt {base : Nat} {w w' : World} {v : Value} {B : List Nat} (h : Owns base w v B) (hk : ∀ g, v.ownBlock = some g → w'.heap[g]? = w.heap[g]?) : Owns base w' v B := by
  obtain ⟨⟨h1, h2⟩, h3, h4⟩ := h
  refine ⟨⟨h1, ?_⟩, h3, h4⟩
  rcases h2 with h2 | ⟨g, cap, cur, hv, hbg, hg, hr⟩
  · exact .inl h2
  · exact .inr ⟨g, cap, cur, hv, hbg, (hk g (by rw [hv]; rfl)).trans hg, hr⟩
theorem cell_keepAt {w w' : World} {p j : Nat} (h : w'.heap[p]? = w.heap[p]?) : w'.cell? ⟨p, j, none⟩ = w.cell? ⟨p, j, none⟩ := by simp [World.cell?, h]
theorem Foot.keepAt {w w' : World} {p j k : Nat} (h : w'.heap[p]? = w.heap[p]?) : Foot w' p j k ↔ Foot w p j k := by unfold Foot; rw [cell_keepAt h]
theorem WrS.keepAt {base p : Nat} {w w' : World} {s : WS} (h : WrS base w p s) (hk : ∀ k, Foot w p 4 k → w'.heap[k]? = w.heap[k]?) : WrS base w' p s := by
  obtain ⟨v, hb, hO, hne⟩ := h
  have c4 := block_cell hb 4
  simp at c4
  exact ⟨v, (hk p (.inl rfl)).trans hb, hO.keepAt (fun g hg => hk g (.inr ⟨v, c4, hg⟩)), hne⟩
theorem RefW.keepAt {base p : Nat} {w w' : World} {s : WS} (h : RefW base w p s) (hk : ∀ k, Foot w p 2 k → w'.heap[k]? = w.heap[k]?) : RefW base w' p s := by
  obtain ⟨v, hb, hO, hne⟩ := h
  have c4 := block_cell hb 2
  simp at c4
  exact ⟨v, (hk p (.inl rfl)).trans hb, hO.keepAt (fun g hg => hk g (.inr ⟨v, c4, hg⟩)), hne⟩
theorem owns_lt {base : Nat} {w : World} {v : Value} {B : List Nat} (h : Owns base w v B) : ∀ g, v.ownBlock = some g → g < w.heap.size := by
  intro g hg
  obtain ⟨a0, c0, rfl, _, (⟨rfl, _⟩ | ⟨g', rfl, hb, hl⟩)⟩ := h.form
  · cases hg
  · have : g' = g := by simpa [Value.ownBlock] using hg
    omega
theorem WrS.foot {base p : Nat} {w : World} {s : WS} (h : WrS base w p s) (hp : base ≤ p) {k : Nat} (hk : Foot w p 4 k) : base ≤ k ∧ k < w.heap.size := by
  obtain ⟨v, hb, hO, hne⟩ := h
  rcases hk with rfl | ⟨u, hu, hg⟩
  · exact ⟨hp, block_lt hb⟩
  · have c4 := block_cell hb 4
    rw [hu] at c4
    simp at c4
    subst c4
    exact ⟨ownx_far hO k hg, owns_lt hO k hg⟩
theorem RefW.foot {base p : Nat} {w : World} {s : WS} (h : RefW base w p s) (hp : base ≤ p) {k : Nat} (hk : Foot w p 2 k) : base ≤ k ∧ k < w.heap.size := by
  obtain ⟨v, hb, hO, hne⟩ := h
  rcases hk with rfl | ⟨u, hu, hg⟩
  · exact ⟨hp, block_lt hb⟩
  · have c4 := block_cell hb 2
    rw [hu] at c4
    simp at c4
    subst c4
    exact ⟨ownx_far hO k hg, owns_lt hO k hg⟩

/-- The blocks of the program's writer, nil or not. -/
def FootP (w : World) (po : Option Addr) (k : Nat) : Prop := ∃ p, po = some ⟨p, 0, none⟩ ∧ Foot w p 4 k
/-- Both writers, in one state. -/
structure PairW (base pv : Nat) (po : Option Addr) (w : World) (s : WS) : Prop where
  prog : WrP base w po s
  ref : RefW base w pv s
  inv : s.Inv
  place : s.sound → s.place = 0
  bpo : ∀ p, po = some ⟨p, 0, none⟩ → base ≤ p
  bpv : base ≤ pv
  apart : ∀ k, FootP w po k → ¬ Foot w pv 2 k
def ResW (base pv : Nat) (po : Option Addr) (w w' : World) : Prop := (∃ s', PairW base pv po w' s') ∧ KeepW base w w'
theorem ResW.from {base pv : Nat} {po : Option Addr} {w w1 w2 : World} (hk : KeepW base w w1) (h : ResW base pv po w1 w2) : ResW base pv po w w2 := ⟨h.1, hk.trans h.2⟩
theorem PairW.base_le {base pv : Nat} {po : Option Addr} {w : World} {s : WS} (h : PairW base pv po w s) : base ≤ w.heap.size := by have h1 := h.bpv; have h2 := h.ref.plt; omega
theorem PairW.footP {base pv : Nat} {po : Option Addr} {w : World} {s : WS} (h : PairW base pv po w s) {k : Nat} (hk : FootP w po k) : base ≤ k ∧ k < w.heap.size := by
  obtain ⟨p, rfl, hk⟩ := hk
  rcases h.prog with ⟨h0, _⟩ | ⟨p', hp, hW⟩
  · cases h0
  · cases hp
    exact hW.foot (h.bpo _ rfl) hk
theorem WrP.keepAt {base : Nat} {w w' : World} {po : Option Addr} {s : WS} (h : WrP base w po s) (hk : ∀ k, FootP w po k → w'.heap[k]? = w.heap[k]?) : WrP base w' po s := by
  rcases h with h | ⟨p, rfl, h⟩
  · exact .inl h
  · exact .inr ⟨p, rfl, h.keepAt (fun k hf => hk k ⟨p, rfl, hf⟩)⟩
theorem FootP.keepAt {w w' : World} {po : Option Addr} {k : Nat} (hk : ∀ k, FootP w po k → w'.heap[k]? = w.heap[k]?) : FootP w' po k ↔ FootP w po k := by
  constructor
  · rintro ⟨p, rfl, h⟩
    exact ⟨p, rfl, (Foot.keepAt (hk p ⟨p, rfl, .inl rfl⟩)).1 h⟩
  · rintro ⟨p, rfl, h⟩
    exact ⟨p, rfl, (Foot.keepAt (hk p ⟨p, rfl, .inl rfl⟩)).2 h⟩
/-- Nothing of both was touched. -/
theorem PairW.wrote {base pv : Nat} {po : Option Addr} {w w' : World} {s : WS} {row : Option Nat} (h : PairW base pv po w s) (hg : w.grownBy w' row) (hr : ∀ g, row = some g → base ≤ g ∧ ¬ FootP w po g ∧ ¬ Foot w pv 2 g) : PairW base pv po w' s ∧ KeepW base w w' := by
  have hkp : ∀ k, FootP w po k → w'.heap[k]? = w.heap[k]? := fun k hk => hg.block k (h.footP hk).2 (fun e => (hr k e.symm).2.1 hk)
  have hkr : ∀ k, Foot w pv 2 k → w'.heap[k]? = w.heap[k]? := fun k hk => hg.block k (h.ref.foot h.bpv hk).2 (fun e => (hr k e.symm).2.2 hk)
  refine ⟨⟨h.prog.keepAt hkp, h.ref.keepAt hkr, h.inv, h.place, h.bpo, h.bpv, fun k hk hf => ?_⟩, fun W hW => hW.grown hg h.base_le (fun k hk => (hr k hk).1)⟩
  exact h.apart k ((FootP.keepAt hkp).1 hk) ((Foot.keepAt (hkr pv (.inl rfl))).1 hf)
theorem PairW.quiet {base pv : Nat} {po : Option Addr} {w w' : World} {s : WS} {row : Option Nat} (h : PairW base pv po w s) (hg : w.grownBy w' row) (hr : ∀ g, row = some g → w.heap.size ≤ g) : PairW base pv po w' s ∧ KeepW base w w' := by
  refine h.wrote hg (fun g e => ⟨Nat.le_trans h.base_le (hr g e), fun hf => ?_, fun hf => ?_⟩)
  · have := (h.footP hf).2; have := hr g e; omega
  · have := (h.ref.foot h.bpv hf).2; have := hr g e; omega
theorem PairW.alloc {base pv : Nat} {po : Option Addr} {w : World} {s : WS} (h : PairW base pv po w s) (o : Obj) : PairW base pv po (w.alloc o) s ∧ KeepW base w (w.alloc o) := h.quiet (World.grownBy_alloc w o none) (fun g e => by cases e)
theorem PairW.below {base pv : Nat} {po : Option Addr} {w w' : World} {s : WS} (h : PairW base pv po w s) (hb : Below w.heap.size w w') : PairW base pv po w' s ∧ KeepW base w w' := h.quiet (below_none hb) (fun g e => by cases e)
theorem PairW.drewN {base pv : Nat} {po : Option Addr} {w : World} {s : WS} (h : PairW base pv po w s) (q : Nat) : PairW base pv po (w.drewN q) s ∧ KeepW base w (w.drewN q) := h.quiet (drew_grown w q) (fun g e => by cases e)

theorem WS.put_place {s : WS} (h : s.sound → s.place = 0) (F : List Nat) (y : Int) : (s.put F y).sound → (s.put F y).place = 0 := by
  unfold WS.put
  split
  · rename_i hs
    split
    · rename_i hy; intro h2; exact absurd h2.2 hy
    · split
      · intro h2; cases h2.2
      · intro _; exact h hs
  · exact h
/-- What the program's step touched, of what was there. -/
theorem TchP.keep {base pv : Nat} {po : Option Addr} {w w1 : World} {s : WS} (_h : PairW base pv po w s) (ht : TchP w w1 po) : (w1.os = w.os ∧ w1.tape = w.tape ∧ w1.output = w.output ∧ w.heap.size ≤ w1.heap.size) ∧ (∀ k, k < w.heap.size → ¬ FootP w po k → w1.heap[k]? = w.heap[k]?) ∧ ∀ k, FootP w1 po k → FootP w po k ∨ w.heap.size ≤ k := by
  rcases ht with ⟨rfl, hg⟩ | ⟨p, rfl, ht⟩
  · exact ⟨⟨hg.os, hg.tape, hg.output, hg.size⟩, fun k hk _ => hg.block k hk (by simp), fun k hk => by obtain ⟨p, e, _⟩ := hk; cases e⟩
  · refine ⟨⟨ht.os, ht.tape, ht.output, ht.size⟩, fun k hk hf => ht.keep k hk (fun e => hf ⟨p, rfl, e⟩), fun k hk => ?_⟩
    obtain ⟨p', e, hk⟩ := hk
    cases e
    rcases ht.foot k hk with h1 | h1
    · exact .inl ⟨p, rfl, h1⟩
    · exact .inr h1
/-- The reference's writer behind the program's step. -/
theorem PairW.refAt {base pv : Nat} {po : Option Addr} {w w1 : World} {s : WS} (h : PairW base pv po w s) (ht : TchP w w1 po) : RefW base w1 pv s ∧ base ≤ w1.heap.size ∧ ∀ k, Foot w1 pv 2 k ↔ Foot w pv 2 k := by
  obtain ⟨⟨_, _, _, hs⟩, hk, _⟩ := ht.keep h
  have hkr : ∀ k, Foot w pv 2 k → w1.heap[k]? = w.heap[k]? := fun k hf => hk k (h.ref.foot h.bpv hf).2 (fun e => h.apart k e hf)
  exact ⟨h.ref.keepAt hkr, Nat.le_trans h.base_le hs, fun k => Foot.keepAt (hkr pv (.inl rfl))⟩
/-- Both went on. -/
theorem PairW.next {base pv : Nat} {po : Option Addr} {w w1 w2 : World} {s : WS} {F : List Nat} {y : Int} (h : PairW base pv po w s) (hp : WrP base w1 po (s.put F y)) (ht : TchP w w1 po) (hr : RefW base w2 pv (s.put F y)) (ht2 : Tch 2 w1 w2 pv) :
    PairW base pv po w2 (s.put F y) ∧ KeepW base w w2 ∧ ∀ k, k < w.heap.size → ¬ FootP w po k → ¬ Foot w pv 2 k → w2.heap[k]? = w.heap[k]? ∧ ¬ FootP w2 po k ∧ ¬ Foot w2 pv 2 k := by
  obtain ⟨hrs, hb1, hf1⟩ := h.refAt ht
  obtain ⟨⟨ho, hta, hou, hs⟩, hkk, hfp⟩ := ht.keep h
  have hlt1 : ∀ k, FootP w1 po k → base ≤ k ∧ k < w1.heap.size := by
    rintro k ⟨p, rfl, hk⟩
    rcases hp with ⟨h0, _⟩ | ⟨p', hp, hW⟩
    · cases h0
    · cases hp
      exact hW.foot (h.bpo _ rfl) hk
  have hap1 : ∀ k, FootP w1 po k → ¬ Foot w1 pv 2 k := by
    intro k hk hf
    rcases hfp k hk with h1 | h1
    · exact h.apart k h1 ((hf1 k).1 hf)
    · have := (h.ref.foot h.bpv ((hf1 k).1 hf)).2; omega
  have hkp : ∀ k, FootP w1 po k → w2.heap[k]? = w1.heap[k]? := fun k hk => ht2.keep k (hlt1 k hk).2 (hap1 k hk)
  refine ⟨⟨hp.keepAt hkp, hr, WS.put_inv h.inv F y, WS.put_place h.place F y, h.bpo, h.bpv, fun k hk hf => ?_⟩, fun W hW => ?_, fun k hk hn1 hn2 => ?_⟩
  · have hk1 := (FootP.keepAt hkp).1 hk
    rcases ht2.foot k hf with h1 | h1
    · exact hap1 k hk1 h1
    · have := (hlt1 k hk1).2; omega
  · refine ⟨ht2.os.trans (ho.trans hW.os), ht2.tape.trans (hta.trans hW.tape), ht2.output.trans (hou.trans hW.output), Nat.le_trans hW.size (Nat.le_trans hs ht2.size), fun k hk => ?_⟩
    have hbl := h.base_le
    rw [ht2.keep k (by omega) (fun e => by have := (hrs.foot h.bpv e).1; omega), hkk k (by omega) (fun e => by have := (h.footP e).1; omega)]
    exact hW.block k hk
  · have hn3 : ¬ Foot w1 pv 2 k := fun e => hn2 ((hf1 k).1 e)
    refine ⟨(ht2.keep k (by omega) hn3).trans (hkk k hk hn1), fun e => ?_, fun e => ?_⟩
    · rcases hfp k ((FootP.keepAt hkp).1 e) with h1 | h1
      · exact hn1 h1
      · omega
    · rcases ht2.foot k e with h1 | h1
      · exact hn3 h1
      · omega
end Go.Proofs.Ytgdliomkdkjlaaa
