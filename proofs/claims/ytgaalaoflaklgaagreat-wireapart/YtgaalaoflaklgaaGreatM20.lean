import Derived.Test.YtgaalaoflaklgaaGreatM19
import Derived.Test.YtgaalaoflaklgaaGreatM18
import Derived.Test.YtgaalaoflaklgaaGreatM13
namespace Go.Proofs.YtgaalaoflaklgaaGreat
open Go.ChangeShapes Go.WideShapes Go.ChangeAt Go.RowKit Go.Deep

theorem Fl.Ok.next {lim : Nat} {w w' : World} {f : Fl} {row : Option Nat} (h : f.Ok lim w) (hg : w.grownBy w' row) (hr : ∀ g, row = some g → lim ≤ g) : f.Ok lim w' :=
  ⟨h.hN, h.hK1, h.hK2, h.hI1, h.hI2, h.hM1, h.hM2, h.hB.kept hg hr, h.hS⟩

/-- The fields as they lie, one behind the other. -/
structure Fls (lim : Nat) (w : World) (b off : Nat) (fs : List Fl) : Prop where
  ok : ∀ f ∈ fs, f.Ok lim w
  at_ : ∀ i f, fs[i]? = some f → ∀ j v, f.cells[j]? = some v → w.cell? ⟨b, off + i * 6 + j, none⟩ = some v
theorem Fls.next {lim : Nat} {w w' : World} {b off : Nat} {fs : List Fl} {row : Option Nat} (h : Fls lim w b off fs) (hb : b < lim) (hg : w.grownBy w' row) (hr : ∀ g, row = some g → lim ≤ g) : Fls lim w' b off fs :=
  ⟨fun f hf => (h.ok f hf).next hg hr, fun i f hi j v hj => hg.cell (h.at_ i f hi j v hj) (fun e => by have := hr b e.symm; omega)⟩

instance : Inhabited Fl := ⟨⟨0, 0, 0, none, 0, 0, [], ByteArray.empty, 0⟩⟩
end Go.Proofs.YtgaalaoflaklgaaGreat
namespace Go.Proofs.YtgaalaoflaklgaaGreat
open Go.RowKit Crc

/-- What lay below base is kept. -/
def KeepW (base : Nat) (w w' : World) : Prop := ∀ W, Below base W w → Below base W w'
theorem KeepW.trans {base : Nat} {a b c : World} (h : KeepW base a b) (k : KeepW base b c) : KeepW base a c := fun W hW => k W (h W hW)

theorem Owns.keepAt {base : Nat} {w w' : World} {v : Value} {B : List Nat} (h : Owns base w v B) (hk : ∀ g, v.ownBlock = some g → w'.heap[g]? = w.heap[g]?) : Owns base w' v B := by
  obtain ⟨⟨h1, h2⟩, h3, h4⟩ := h
  refine ⟨⟨h1, ?_⟩, h3, h4⟩
  rcases h2 with h2 | ⟨g, cap, cur, hv, hbg, hg, hr⟩
  · exact .inl h2
  · exact .inr ⟨g, cap, cur, hv, hbg, (hk g (by rw [hv]; rfl)).trans hg, hr⟩
theorem cell_keepAt {w w' : World} {p j : Nat} (h : w'.heap[p]? = w.heap[p]?) : w'.cell? ⟨p, j, none⟩ = w.cell? ⟨p, j, none⟩ := by simp [World.cell?, h]
theorem Foot.keepAt {w w' : World} {p j k : Nat} (h : w'.heap[p]? = w.heap[p]?) : Foot w' p j k ↔ Foot w p j k := by unfold Foot; rw [cell_keepAt h]
theorem WrS.keepAt {base p : Nat} {w w' : World} {s : WS} (h : WrS base w p s) (hk : ∀ k, Foot w p 4 k → w'.heap[k]? = w.heap[k]?) : WrS base w' p s := by
  obtain ⟨v, hb, hO, hne⟩ := h
  have c4 := block_cell hb 4
  simp at c4
  exact ⟨v, (hk p (.inl rfl)).trans hb, hO.keepAt (fun g hg => hk g (.inr ⟨v, c4, hg⟩)), hne⟩
theorem RefW.keepAt {base p : Nat} {w w' : World} {s : WS} (h : RefW base w p s) (hk : ∀ k, Foot w p 2 k → w'.heap[k]? = w.heap[k]?) : RefW base w' p s := by
  obtain ⟨v, hb, hO, hne⟩ := h
  have c4 := block_cell hb 2
  simp at c4
  exact ⟨v, (hk p (.inl rfl)).trans hb, hO.keepAt (fun g hg => hk g (.inr ⟨v, c4, hg⟩)), hne⟩
theorem owns_lt {base : Nat} {w : World} {v : Value} {B : List Nat} (h : Owns base w v B) : ∀ g, v.ownBlock = some g → g < w.heap.size := by
  intro g hg
  obtain ⟨a0, c0, rfl, _, (⟨rfl, _⟩ | ⟨g', rfl, hb, hl⟩)⟩ := h.form
  · cases hg
  · have : g' = g := by simpa [Value.ownBlock] using hg
    omega
theorem WrS.foot {base p : Nat} {w : World} {s : WS} (h : WrS base w p s) (hp : base ≤ p) {k : Nat} (hk : Foot w p 4 k) : base ≤ k ∧ k < w.heap.size := by
  obtain ⟨v, hb, hO, hne⟩ := h
  rcases hk with rfl | ⟨u, hu, hg⟩
  · exact ⟨hp, block_lt hb⟩
  · have c4 := block_cell hb 4
    rw [hu] at c4
    simp at c4
    subst c4
    exact ⟨ownx_far hO k hg, owns_lt hO k hg⟩
theorem RefW.foot {base p : Nat} {w : World} {s : WS} (h : RefW base w p s) (hp : base ≤ p) {k : Nat} (hk : Foot w p 2 k) : base ≤ k ∧ k < w.heap.size := by
  obtain ⟨v, hb, hO, hne⟩ := h
  rcases hk with rfl | ⟨u, hu, hg⟩
  · exact ⟨hp, block_lt hb⟩
  · have c4 := block_cell hb 2
    rw [hu] at c4
    simp at c4
    subst c4
    exact ⟨ownx_far hO k hg, owns_lt hO k hg⟩

/-- The blocks of the program's writer, nil or not. -/
def FootP (w : World) (po : Option Addr) (k : Nat) : Prop := ∃ p, po = some ⟨p, 0, none⟩ ∧ Foot w p 4 k
/-- Both writers, in one state. -/
structure PairW (base pv : Nat) (po : Option Addr) (w : World) (s : WS) : Prop where
  prog : WrP base w po s
  ref : RefW base w pv s
  inv : s.Inv
  place : s.sound → s.place = 0
  bpo : ∀ p, po = some ⟨p, 0, none⟩ → base ≤ p
  bpv : base ≤ pv
  apart : ∀ k, FootP w po k → ¬ Foot w pv 2 k
def ResW (base pv : Nat) (po : Option Addr) (w w' : World) : Prop := (∃ s', PairW base pv po w' s') ∧ KeepW base w w'
theorem ResW.from {base pv : Nat} {po : Option Addr} {w w1 w2 : World} (hk : KeepW base w w1) (h : ResW base pv po w1 w2) : ResW base pv po w w2 := ⟨h.1, hk.trans h.2⟩
theorem PairW.base_le {base pv : Nat} {po : Option Addr} {w : World} {s : WS} (h : PairW base pv po w s) : base ≤ w.heap.size := by have h1 := h.bpv; have h2 := h.ref.plt; omega
theorem PairW.footP {base pv : Nat} {po : Option Addr} {w : World} {s : WS} (h : PairW base pv po w s) {k : Nat} (hk : FootP w po k) : base ≤ k ∧ k < w.heap.size := by
  obtain ⟨p, rfl, hk⟩ := hk
  rcases h.prog with ⟨h0, _⟩ | ⟨p', hp, hW⟩
  · cases h0
  · cases hp
    exact hW.foot (h.bpo _ rfl) hk
theorem WrP.keepAt {base : Nat} {w w' : World} {po : Option Addr} {s : WS} (h : WrP base w po s) (hk : ∀ k, FootP w po k → w'.heap[k]? = w.heap[k]?) : WrP base w' po s := by
  rcases h with h | ⟨p, rfl, h⟩
  · exact .inl h
  · exact .inr ⟨p, rfl, h.keepAt (fun k hf => hk k ⟨p, rfl, hf⟩)⟩
theorem FootP.keepAt {w w' : World} {po : Option Addr} {k : Nat} (hk : ∀ k, FootP w po k → w'.heap[k]? = w.heap[k]?) : FootP w' po k ↔ FootP w po k := by
  constructor
  · rintro ⟨p, rfl, h⟩
    exact ⟨p, rfl, (Foot.keepAt (hk p ⟨p, rfl, .inl rfl⟩)).1 h⟩
  · rintro ⟨p, rfl, h⟩
    exact ⟨p, rfl, (Foot.keepAt (hk p ⟨p, rfl, .inl rfl⟩)).2 h⟩
/-- Nothing of both was touched. -/
theorem PairW.wrote {base pv : Nat} {po : Option Addr} {w w' : World} {s : WS} {row : Option Nat} (h : PairW base pv po w s) (hg : w.grownBy w' row) (hr : ∀ g, row = some g → base ≤ g ∧ ¬ FootP w po g ∧ ¬ Foot w pv 2 g) : PairW base pv po w' s ∧ KeepW base w w' := by
  have hkp : ∀ k, FootP w po k → w'.heap[k]? = w.heap[k]? := fun k hk => hg.block k (h.footP hk).2 (fun e => (hr k e.symm).2.1 hk)
  have hkr : ∀ k, Foot w pv 2 k → w'.heap[k]? = w.heap[k]? := fun k hk => hg.block k (h.ref.foot h.bpv hk).2 (fun e => (hr k e.symm).2.2 hk)
  refine ⟨⟨h.prog.keepAt hkp, h.ref.keepAt hkr, h.inv, h.place, h.bpo, h.bpv, fun k hk hf => ?_⟩, fun W hW => hW.grown hg h.base_le (fun k hk => (hr k hk).1)⟩
  exact h.apart k ((FootP.keepAt hkp).1 hk) ((Foot.keepAt (hkr pv (.inl rfl))).1 hf)
theorem PairW.quiet {base pv : Nat} {po : Option Addr} {w w' : World} {s : WS} {row : Option Nat} (h : PairW base pv po w s) (hg : w.grownBy w' row) (hr : ∀ g, row = some g → w.heap.size ≤ g) : PairW base pv po w' s ∧ KeepW base w w' := by
  refine h.wrote hg (fun g e => ⟨Nat.le_trans h.base_le (hr g e), fun hf => ?_, fun hf => ?_⟩)
  · have := (h.footP hf).2; have := hr g e; omega
  · have := (h.ref.foot h.bpv hf).2; have := hr g e; omega
theorem PairW.alloc {base pv : Nat} {po : Option Addr} {w : World} {s : WS} (h : PairW base pv po w s) (o : Obj) : PairW base pv po (w.alloc o) s ∧ KeepW base w (w.alloc o) := h.quiet (World.grownBy_alloc w o none) (fun g e => by cases e)
theorem PairW.below {base pv : Nat} {po : Option Addr} {w w' : World} {s : WS} (h : PairW base pv po w s) (hb : Below w.heap.size w w') : PairW base pv po w' s ∧ KeepW base w w' := h.quiet (below_none hb) (fun g e => by cases e)
theorem PairW.drewN {base pv : Nat} {po : Option Addr} {w : World} {s : WS} (h : PairW base pv po w s) (q : Nat) : PairW base pv po (w.drewN q) s ∧ KeepW base w (w.drewN q) := h.quiet (drew_grown w q) (fun g e => by cases e)

theorem WS.put_place {s : WS} (h : s.sound → s.place = 0) (F : List Nat) (y : Int) : (s.put F y).sound → (s.put F y).place = 0 := by
  unfold WS.put
  split
  · rename_i hs
    split
    · rename_i hy; intro h2; exact absurd h2.2 hy
    · split
      · intro h2; cases h2.2
      · intro _; exact h hs
  · exact h
/-- What the program's step touched, of what was there. -/
theorem TchP.keep {base pv : Nat} {po : Option Addr} {w w1 : World} {s : WS} (_h : PairW base pv po w s) (ht : TchP w w1 po) : (w1.os = w.os ∧ w1.tape = w.tape ∧ w1.output = w.output ∧ w.heap.size ≤ w1.heap.size) ∧ (∀ k, k < w.heap.size → ¬ FootP w po k → w1.heap[k]? = w.heap[k]?) ∧ ∀ k, FootP w1 po k → FootP w po k ∨ w.heap.size ≤ k := by
  rcases ht with ⟨rfl, hg⟩ | ⟨p, rfl, ht⟩
  · exact ⟨⟨hg.os, hg.tape, hg.output, hg.size⟩, fun k hk _ => hg.block k hk (by simp), fun k hk => by obtain ⟨p, e, _⟩ := hk; cases e⟩
  · refine ⟨⟨ht.os, ht.tape, ht.output, ht.size⟩, fun k hk hf => ht.keep k hk (fun e => hf ⟨p, rfl, e⟩), fun k hk => ?_⟩
    obtain ⟨p', e, hk⟩ := hk
    cases e
    rcases ht.foot k hk with h1 | h1
    · exact .inl ⟨p, rfl, h1⟩
    · exact .inr h1
/-- The reference's writer behind the program's step. -/
theorem PairW.refAt {base pv : Nat} {po : Option Addr} {w w1 : World} {s : WS} (h : PairW base pv po w s) (ht : TchP w w1 po) : RefW base w1 pv s ∧ base ≤ w1.heap.size ∧ ∀ k, Foot w1 pv 2 k ↔ Foot w pv 2 k := by
  obtain ⟨⟨_, _, _, hs⟩, hk, _⟩ := ht.keep h
  have hkr : ∀ k, Foot w pv 2 k → w1.heap[k]? = w.heap[k]? := fun k hf => hk k (h.ref.foot h.bpv hf).2 (fun e => h.apart k e hf)
  exact ⟨h.ref.keepAt hkr, Nat.le_trans h.base_le hs, fun k => Foot.keepAt (hkr pv (.inl rfl))⟩
/-- Both went on. -/
theorem PairW.next {base pv : Nat} {po : Option Addr} {w w1 w2 : World} {s : WS} {F : List Nat} {y : Int} (h : PairW base pv po w s) (hp : WrP base w1 po (s.put F y)) (ht : TchP w w1 po) (hr : RefW base w2 pv (s.put F y)) (ht2 : Tch 2 w1 w2 pv) :
    PairW base pv po w2 (s.put F y) ∧ KeepW base w w2 ∧ ∀ k, k < w.heap.size → ¬ FootP w po k → ¬ Foot w pv 2 k → w2.heap[k]? = w.heap[k]? ∧ ¬ FootP w2 po k ∧ ¬ Foot w2 pv 2 k := by
  obtain ⟨hrs, hb1, hf1⟩ := h.refAt ht
  obtain ⟨⟨ho, hta, hou, hs⟩, hkk, hfp⟩ := ht.keep h
  have hlt1 : ∀ k, FootP w1 po k → base ≤ k ∧ k < w1.heap.size := by
    rintro k ⟨p, rfl, hk⟩
    rcases hp with ⟨h0, _⟩ | ⟨p', hp, hW⟩
    · cases h0
    · cases hp
      exact hW.foot (h.bpo _ rfl) hk
  have hap1 : ∀ k, FootP w1 po k → ¬ Foot w1 pv 2 k := by
    intro k hk hf
    rcases hfp k hk with h1 | h1
    · exact h.apart k h1 ((hf1 k).1 hf)
    · have := (h.ref.foot h.bpv ((hf1 k).1 hf)).2; omega
  have hkp : ∀ k, FootP w1 po k → w2.heap[k]? = w1.heap[k]? := fun k hk => ht2.keep k (hlt1 k hk).2 (hap1 k hk)
  refine ⟨⟨hp.keepAt hkp, hr, WS.put_inv h.inv F y, WS.put_place h.place F y, h.bpo, h.bpv, fun k hk hf => ?_⟩, fun W hW => ?_, fun k hk hn1 hn2 => ?_⟩
  · have hk1 := (FootP.keepAt hkp).1 hk
    rcases ht2.foot k hf with h1 | h1
    · exact hap1 k hk1 h1
    · have := (hlt1 k hk1).2; omega
  · refine ⟨ht2.os.trans (ho.trans hW.os), ht2.tape.trans (hta.trans hW.tape), ht2.output.trans (hou.trans hW.output), Nat.le_trans hW.size (Nat.le_trans hs ht2.size), fun k hk => ?_⟩
    have hbl := h.base_le
    rw [ht2.keep k (by omega) (fun e => by have := (hrs.foot h.bpv e).1; omega), hkk k (by omega) (fun e => by have := (h.footP e).1; omega)]
    exact hW.block k hk
  · have hn3 : ¬ Foot w1 pv 2 k := fun e => hn2 ((hf1 k).1 e)
    refine ⟨(ht2.keep k (by omega) hn3).trans (hkk k hk hn1), fun e => ?_, fun e => ?_⟩
    · rcases hfp k ((FootP.keepAt hkp).1 e) with h1 | h1
      · exact hn1 h1
      · omega
    · rcases ht2.foot k e with h1 | h1
      · exact hn3 h1
      · omega
end Go.Proofs.YtgaalaoflaklgaaGreat
namespace Go.Proofs.YtgaalaoflaklgaaGreat
open Go.RowKit Crc

theorem PairW.fresh {base pv : Nat} {po : Option Addr} {w w' : World} {s : WS} (h : PairW base pv po w s) (hg : w.grownBy w' none) {k : Nat} (hk : w.heap.size ≤ k) : ¬ FootP w' po k ∧ ¬ Foot w' pv 2 k := by
  have hkp : ∀ k, FootP w po k → w'.heap[k]? = w.heap[k]? := fun k hk => hg.block k (h.footP hk).2 (by simp)
  have hkr : ∀ k, Foot w pv 2 k → w'.heap[k]? = w.heap[k]? := fun k hk => hg.block k (h.ref.foot h.bpv hk).2 (by simp)
  refine ⟨fun hf => ?_, fun hf => ?_⟩
  · have := (h.footP ((FootP.keepAt hkp).1 hf)).2; omega
  · have := (h.ref.foot h.bpv ((Foot.keepAt (hkr pv (.inl rfl))).1 hf)).2; omega
/-- The program's step, behind a new block. -/
theorem lay_prog {base pv : Nat} {po : Option Addr} {w : World} {s : WS} (hP : PairW base pv po w s) (o : Obj) (F : List Nat) (y : Int) {f : Nat} {args : Array Value}
    (hc : ∀ wx, WrP base wx po s → base ≤ wx.heap.size → Calls Tryz.prog f args wx fun e w' => e = .returned (.tuple #[]) ∧ Hid (WrP base w' po (s.put F y) ∧ TchP wx w' po)) :
    Calls Tryz.prog f args (w.alloc o) fun e w1 => e = .returned (.tuple #[]) ∧ w1.heap[w.heap.size]? = some o ∧ Hid (WrP base w1 po (s.put F y) ∧ TchP (w.alloc o) w1 po) := by
  have hA := hP.alloc o
  refine (hc _ hA.1.prog hA.1.base_le).mono ?_
  rintro e w1 ⟨rfl, h⟩
  have hf := (hP.fresh (World.grownBy_alloc w o none) (Nat.le_refl _)).1
  exact ⟨rfl, ((h.out.2.keep hA.1).2.1 _ (by simp) hf).trans (heap_alloc_new w o), h⟩
/-- The reference's step, behind the program's. -/
theorem lay_ref {base pv : Nat} {po : Option Addr} {w : World} {s : WS} (hP : PairW base pv po w s) (o : Obj) (F : List Nat) (y : Int) {f : Nat} {args : Array Value}
    (hc : ∀ wx, RefW base wx pv s → base ≤ wx.heap.size → Calls Tryz.prog f args wx fun e w' => e = .returned (.tuple #[]) ∧ Hid (RefW base w' pv (s.put F y) ∧ Tch 2 wx w' pv)) (w1 : World) (h1 : WrP base w1 po (s.put F y) ∧ TchP (w.alloc o) w1 po) :
    Calls Tryz.prog f args w1 fun e w2 => e = .returned (.tuple #[]) ∧ Hid (ResW base pv po w w2) := by
  have hA := hP.alloc o
  have hr := hA.1.refAt h1.2
  refine (hc _ hr.1 hr.2.1).mono ?_
  rintro e w2 ⟨rfl, h⟩
  have hn := hA.1.next h1.1 h1.2 h.out.1 h.out.2
  exact ⟨rfl, ⟨_, hn.1⟩, hA.2.trans hn.2.1⟩
end Go.Proofs.YtgaalaoflaklgaaGreat
namespace Go.Proofs.YtgaalaoflaklgaaGreat
open Go.RowKit Crc

theorem KeepW.below {base : Nat} {w w' : World} (h : KeepW base w w') : Below base w w' := h w (Below.refl _ _)
theorem Shows.belowB {base : Nat} {w w' : World} {ao : Option Addr} {n cap : Nat} {B : List Nat} (h : Shows base w ao n cap B) (hb : Below base w w') : Shows base w' ao n cap B := by
  obtain ⟨h1, h2, h3, h4, b, off, h5, h6, h7⟩ := h
  refine ⟨h1, h2, h3, h4, b, off, h5, h6, fun i hi => ?_⟩
  rw [← h7 i hi]
  exact hb.cell (p := ⟨b, off + i, none⟩) (h6 (by omega))
theorem Lent.keepAt {w w' : World} {gc n : Nat} {B : List Nat} (h : Lent w gc n B) (hk : w'.heap[gc]? = w.heap[gc]?) : Lent w' gc n B := by
  obtain ⟨h0, h1, h2⟩ := h
  refine ⟨h0, h1, ?_⟩
  rcases h2 with h2 | ⟨g, cap, cur, hv, hbg, hg, hr⟩
  · exact .inl h2
  · have e : g = gc := by
      simp only [Value.slice.injEq, Option.some.injEq, Addr.mk.injEq, and_true] at hv
      exact hv.1.symm
    exact .inr ⟨g, cap, cur, hv, hbg, (by rw [e] at hg ⊢; exact hk.trans hg), hr⟩
theorem Lent.ownsW {w : World} {gc n : Nat} {B : List Nat} (h : Lent w gc n B) (hB : ∀ x ∈ B, x < 256) (hl : n ≤ 140737488355328) : Owns gc w (.slice (some ⟨gc, 0, none⟩) n (n + 4)) B := by
  obtain ⟨h1, h2, h3⟩ := h
  subst h1
  rcases h3 with ⟨h4, _⟩ | ⟨g, cap, cur, hv, hbg, hg, hnc, hcm, hcs, htake⟩
  · cases h4
  · simp only [Value.slice.injEq, Option.some.injEq, Addr.mk.injEq, and_true, true_and] at hv
    obtain ⟨rfl, rfl⟩ := hv
    refine ⟨⟨by simp [vals], .inr ⟨gc, B.length + 4, cur, rfl, hbg, hg, by omega, hcm, hcs, ?_⟩⟩, hB, hl⟩
    have h5 : cur.toList.take (B.length * 1) = (cur.toList.take ((B.length + 4) * 1)).take (B.length * 1) := by
      rw [List.take_take]
      congr 1
      omega
    rw [h5, htake]
    unfold vals
    rw [List.map_append, List.take_left' (by simp)]

theorem PairW.progBelow {base pv : Nat} {po : Option Addr} {w w1 : World} {s : WS} (h : PairW base pv po w s) (ht : TchP w w1 po) : Below base w w1 := by
  obtain ⟨⟨ho, hta, hou, hs⟩, hk, _⟩ := ht.keep h
  exact ⟨ho, hta, hou, hs, fun k hk' => hk k (by have := h.base_le; omega) (fun e => by have := (h.footP e).1; omega)⟩

theorem lay8_prog {base pv : Nat} {po : Option Addr} {w1 : World} {s : WS} (hP : PairW base pv po w1 s) (gc bn : Nat) (B : List Nat) (M : Int) (hL : Lent w1 gc bn B) (hB : ∀ x ∈ B, x < 256) (hbn : bn ≤ 140737488351232) (hf : ¬ FootP w1 po gc) :
    Calls Tryz.prog 55 #[.pointer po, .slice (some ⟨gc, 0, none⟩) bn (bn + 4), .int .i64 M] w1 fun e w2 => e = .returned (.tuple #[]) ∧ Hid (WrP base w2 po (s.put (numB bn ++ B) (cntY bn M)) ∧ TchP w1 w2 po) := by
  refine wBlobP hP.prog hP.inv hP.base_le _ bn (bn + 4) B M (hL.shows hB (by omega)) ?_
  intro p u g hp hu hg b off hb e
  have e1 : gc = b := by
    simp only [Option.some.injEq, Addr.mk.injEq, and_true] at hb
    exact hb.1
  subst e1
  subst e
  exact hf ⟨p, hp, .inr ⟨u, hu, hg⟩⟩
theorem lay8_ref {base pv : Nat} {po : Option Addr} {w1 w2 : World} {s : WS} (hP : PairW base pv po w1 s) (bo : Option Addr) (bn bc : Nat) (B : List Nat) (M : Int) (hS : Shows base w1 bo bn bc B) (hbn : bn ≤ 140737488351232) (h2 : WrP base w2 po (s.put (numB bn ++ B) (cntY bn M)) ∧ TchP w1 w2 po) :
    Calls Tryz.prog 47 #[.pointer (some ⟨pv, 0, none⟩), .slice bo bn bc, .int .i64 M] w2 fun e w3 => e = .returned (.tuple #[]) ∧ Hid (PairW base pv po w3 (s.put (numB bn ++ B) (cntY bn M)) ∧ KeepW base w1 w3 ∧ ∀ k, k < w1.heap.size → ¬ FootP w1 po k → ¬ Foot w1 pv 2 k → w3.heap[k]? = w1.heap[k]? ∧ ¬ FootP w3 po k ∧ ¬ Foot w3 pv 2 k) := by
  have hr := hP.refAt h2.2
  refine (refWBlob hr.1 hP.inv hr.2.1 bo bn bc B M (hS.belowB (hP.progBelow h2.2)) hr.2.1 hbn).mono ?_
  rintro e w3 ⟨rfl, h3⟩
  exact ⟨rfl, hP.next h2.1 h2.2 h3.out.1 h3.out.2⟩

end Go.Proofs.YtgaalaoflaklgaaGreat
namespace Go.Proofs.YtgaalaoflaklgaaGreat
open Go.RowKit Crc

theorem WS.shown_len {s : WS} (h : s.Inv) : s.shown.length ≤ 65507 := by
  unfold WS.shown
  split
  · rename_i hs
    have := h hs.1
    omega
  · simp

end Go.Proofs.YtgaalaoflaklgaaGreat
namespace Go.Proofs.YtgaalaoflaklgaaGreat
open Go.RowKit Crc

/-- A field with the reach's own bounds. -/
structure Fl.Okx (base : Nat) (w : World) (f : Fl) : Prop where
  ok : f.Ok base w
  hbn : f.bn ≤ 140737488351232
  hSn : f.S.size ≤ 140737488351232
end Go.Proofs.YtgaalaoflaklgaaGreat
