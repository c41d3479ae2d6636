import Derived.Test.YtmoklddfaocihaaDoorV49
import Derived.Test.YtmoklddfaocihaaDoorV50
import Derived.Test.YtmoklddfaocihaaDoorV45
import Derived.Test.YtmoklddfaocihaaDoorV47
import Derived.Test.YtmoklddfaocihaaDoorV37
import Derived.Test.YtmoklddfaocihaaDoorV39
namespace Go.Proofs.YtmoklddfaocihaaDoor
open Go.RowKit

theorem Rx.off {c : Rc} {vS : Value} {s : Ms} {w w' : World} {mb : Nat} {cs : Array Value} (h : Rx c vS s w) (hm : w.heap[mb]? = some (.cells cs 61 (0, 0))) (hle : c.rb ≤ mb) (hg : w.grownBy w' (some mb)) : Rx c vS s w' := by
 have ne : ∀ {b : Nat} {cs' : Array Value} {t : TypeId} {z : Nat × Nat}, t ≠ 61 → w.heap[b]? = some (.cells cs' t z) → w'.heap[b]? = some (.cells cs' t z) := fun {b cs' t z} ht hb => by
  refine (hg.block b (Array.getElem?_eq_some_iff.1 hb).1 (fun e => ?_)).trans hb
  cases e
  rw [hm] at hb
  cases hb
  exact ht rfl
 have hb : Below c.rb w w' := (Below.refl _ w).grown hg (Nat.le_of_lt h.lt) (fun q e => by cases e; exact hle)
 refine ⟨ne (by decide) h.blk, own_offT h.stk hm (by decide) hg, fun q => ?_, h.ok.kept hb (Nat.le_refl _), h.rq, Nat.le_trans h.sz hg.size⟩
 obtain ⟨q1, q2, q3, cq, q4, q5⟩ := h.slt q
 exact ⟨q1, q2, q3, cq, ne (by decide) q4, q5⟩
theorem Mr.keep {c : Mc} {p : Pv} {mb cb co cc ib io ic : Nat} {w w' : World} (h : Mr c p mb cb co cc ib io ic w) (hs : w.heap.size ≤ w'.heap.size) (hC : 0 < p.nc → w'.heap[cb]? = w.heap[cb]?) (hI : 0 < p.n → w'.heap[ib]? = w.heap[ib]?) : Mr c p mb cb co cc ib io ic w' := by
 have kc : ∀ {b i : Nat}, w'.heap[b]? = w.heap[b]? → w'.cell? ⟨b, i, none⟩ = w.cell? ⟨b, i, none⟩ := fun e => by
  simp only [World.cell?, e]
 exact ⟨fun e => ⟨(h.C e).1, (h.C e).2.1, Nat.lt_of_lt_of_le (h.C e).2.2 hs⟩, fun e => ⟨(h.I e).1, (h.I e).2.1, Nat.lt_of_lt_of_le (h.I e).2.2 hs⟩, fun j hj => (kc (hC (by omega))).trans (h.vc j hj), fun j hj => (kc (hI (by omega))).trans (h.vo j hj), fun j hj => (kc (hI (by omega))).trans (h.va j hj), h.kd⟩
theorem Cv.congr {w : World} {v : Value} {n : Nat} {k k' x x' : Nat → Int} (h : Cv w v n k x) (hk : ∀ j, j < n → k j = k' j) (hx : ∀ j, j < n → x j = x' j) : Cv w v n k' x' := by
 obtain ⟨ao, cap, b, h1, h2, h3, h4, h5⟩ := h.ex
 exact ⟨ao, cap, b, h1, h2, h3, fun j hj => by rw [← hk j hj]; exact h4 j hj, fun j hj => by rw [← hx j hj]; exact h5 j hj⟩
/-- What stays, of two machines side by side. -/
structure Jc (k : Kn) (c : Mc) (d : Rc) : Prop where
 me : Me d.p k d.e.ek d.e.ev d.e.x2
 ek : c.ek = d.e.ek
 ev : c.ev = d.e.ev
 hd : c.hd = d.e.x2
 ns : c.many = d.p.ns
 kd : c.kd = kdJ d.p d.p.ns
 q : ∃ qa qc, d.vQ = .slice qa d.p.ns qc
/-- Both machines, side by side, in one state. -/
structure Jm (W : World) (k : Kn) (c : Mc) (d : Rc) (mb cb co cc ib io ic : Nat) (s : Ms) (w : World) : Prop where
 m : Pm c mb s w
 r : Mr c d.p mb cb co cc ib io ic w
 tc : 0 < d.p.nc → ∃ cs, w.heap[cb]? = some (.cells cs 42 (0, 0))
 ti : 0 < d.p.n → ∃ cs, w.heap[ib]? = some (.cells cs 83 (0, 0))
 x : ∃ vS, Rx d vS s w
 t : Tm d.p k d.e.x2 s
 h64 : s.h ≤ 64
 fl : 0 ≤ s.fail ∧ s.fail < two64
 bel : Below W.heap.size W w
 lr : W.heap.size ≤ d.rb
 rm : d.rb ≤ mb
section
variable {W : World} {k : Kn} {c : Mc} {d : Rc} {mb cb co cc ib io ic : Nat} {s : Ms} {w w' : World}
theorem Jm.next (h : Jm W k c d mb cb co cc ib io ic s w) (hb : Below w.heap.size w w') : Jm W k c d mb cb co cc ib io ic s w' := by
 obtain ⟨vS, hx⟩ := h.x
 exact ⟨⟨(hb.block _ h.m.lt).trans h.m.blk⟩, h.r.grown (grown_of_below hb _), fun q => (h.tc q).imp fun cs e => (hb.block _ (block_lt e)).trans e, fun q => (h.ti q).imp fun cs e => (hb.block _ (block_lt e)).trans e, ⟨vS, hx.next hb⟩, h.t, h.h64, h.fl, h.bel.trans (hb.mono h.bel.size), h.lr, h.rm⟩
theorem Jm.steps (hc : Jc k c d) (h : Jm W k c d mb cb co cc ib io ic s w) : Calls Tryd.prog 22 #[.pointer (some ⟨d.rb, 0, none⟩)] w fun e w1 => ∃ b, e = .returned (.bool b) ∧ Hid (Calls Tryd.prog 23 #[.pointer (some ⟨mb, 0, none⟩)] w1 fun e w2 => e = .returned (.bool b) ∧ Hid (∃ s', Jm W k c d mb cb co cc ib io ic s' w2)) := by
 obtain ⟨vS, hx⟩ := h.x
 cases ho : s.ov with
 | true =>
  refine (stepO hx ho).mono ?_
  rintro e w1 ⟨rfl, rfl⟩
  refine ⟨false, rfl, ?_⟩
  refine (stepCo h.m ho).mono ?_
  rintro e w2 ⟨rfl, rfl⟩
  exact ⟨rfl, s, h⟩
 | false =>
  refine (stepR hc.me h.t ho hx).mono ?_
  rintro e w1 ⟨rfl, G⟩
  obtain ⟨vT, hx1, hbk⟩ := G.out
  refine ⟨true, rfl, ?_⟩
  have m1 : Pm c mb s w1 := ⟨hbk.t mb _ _ _ h.m.blk (by decide) (by decide)⟩
  have c1 : 0 < d.p.nc → ∃ cs, w.heap[cb]? = some (.cells cs 42 (0, 0)) ∧ w1.heap[cb]? = some (.cells cs 42 (0, 0)) := fun q => (h.tc q).imp fun cs e => ⟨e, hbk.t cb _ _ _ e (by decide) (by decide)⟩
  have i1 : 0 < d.p.n → ∃ cs, w.heap[ib]? = some (.cells cs 83 (0, 0)) ∧ w1.heap[ib]? = some (.cells cs 83 (0, 0)) := fun q => (h.ti q).imp fun cs e => ⟨e, hbk.t ib _ _ _ e (by decide) (by decide)⟩
  have r1 : Mr c d.p mb cb co cc ib io ic w1 := h.r.keep hbk.b.size (fun q => by obtain ⟨cs, e1, e2⟩ := c1 q; rw [e1, e2]) (fun q => by obtain ⟨cs, e1, e2⟩ := i1 q; rw [e1, e2])
  have me' : Me d.p k c.ek c.ev c.hd := by rw [hc.ek, hc.ev, hc.hd]; exact hc.me
  refine (stepC me' r1 (by rw [hc.hd]; exact h.t) m1 ho).mono ?_
  rintro e w2 ⟨rfl, G2⟩
  obtain ⟨m2, g2⟩ := G2.out
  rw [hc.ek, hc.ev, hc.hd] at m2
  have bel1 := h.bel.trans (hbk.b.mono h.lr)
  refine ⟨rfl, _, ⟨m2, r1.grown g2, fun q => ?_, fun q => ?_, ⟨vT, hx1.off m1.blk h.rm g2⟩, (step_tm hc.me h.t ho).1, step_h hc.me h.t ho h.h64, step_fail hc.me h.t ho h.fl, bel1.grown g2 bel1.size (fun q e => by cases e; exact Nat.le_trans h.lr h.rm), h.lr, h.rm⟩⟩
  ·obtain ⟨cs, _, e2⟩ := c1 q
   exact ⟨cs, (g2.block _ (block_lt e2) (by simpa using (r1.C q).2.1)).trans e2⟩
  ·obtain ⟨cs, _, e2⟩ := i1 q
   exact ⟨cs, (g2.block _ (block_lt e2) (by simpa using (r1.I q).2.1)).trans e2⟩
theorem Jm.out1 (h : Jm W k c d mb cb co cc ib io ic s w) : Calls Tryd.prog 18 #[.pointer (some ⟨d.rb, 0, none⟩)] w fun e w' => e = .returned (.tuple #[.agg (outO s), .bool s.ov]) ∧ Hid (Below w.heap.size w w') := by
 obtain ⟨vS, hx⟩ := h.x
 exact outcomeR hx rfl h.fl.1 h.fl.2
theorem Jm.out2 (h : Jm W k c d mb cb co cc ib io ic s w) : Calls Tryd.prog 19 #[.pointer (some ⟨mb, 0, none⟩)] w fun e w' => e = .returned (.tuple #[.agg (outO s), .bool s.ov]) ∧ Hid (Below w.heap.size w w') :=
 outcomeC h.m
theorem Jm.state (hc : Jc k c d) (h : Jm W k c d mb cb co cc ib io ic s w) : Calls Tryd.prog 21 #[.pointer (some ⟨d.rb, 0, none⟩)] w fun e w1 => ∃ A : Array Value, e = .returned (.agg A) ∧ Hid (Below w.heap.size w w1 ∧ Calls Tryd.prog 20 #[.pointer (some ⟨mb, 0, none⟩), .agg A] w1 fun e w2 => e = .returned (.bool true) ∧ Hid (Below w1.heap.size w1 w2)) := by
 obtain ⟨vS, hx⟩ := h.x
 have hns : d.p.ns ≤ 128 := hc.me.wf.sz.2.1
 have h64 := h.h64
 refine (stateR hx (by omega) hns hc.q).mono ?_
 rintro e w1 ⟨a1, d1, a2, d2, rfl, G⟩
 obtain ⟨v1, v2, hb⟩ := G.out
 have h1 := h.next hb
 refine ⟨_, rfl, hb, ?_⟩
 have hS : ∀ w', Below w1.heap.size w1 w' → StR (.pointer (some ⟨mb, 0, none⟩)) s s.h s.sk s.sv c.many c.kd s.slt w' := fun w' hb' => stateC (h1.next hb').m h.h64 (by rw [hc.ns]; exact hns)
 have v2' : Cv w1 (.slice a2 d.p.ns d2) c.many c.kd s.slt := by
  rw [hc.ns, hc.kd]
  exact v2.congr (fun j hj => by simp [kdJ, hj]) (fun _ _ => rfl)
 exact (sameStateT hS v1 v2' (by omega) (by rw [hc.ns]; omega))
end
theorem Jm.dv {W : World} {k : Kn} {c : Mc} {d : Rc} {mb cb co cc ib io ic : Nat} (hc : Jc k c d) : Dv W (.pointer (some ⟨mb, 0, none⟩)) (.pointer (some ⟨d.rb, 0, none⟩)) (Jm W k c d mb cb co cc ib io ic) :=
 ⟨fun _ _ h => h.bel, fun _ _ _ h hb => h.next hb, fun _ _ h => h.out1, fun _ _ h => h.out2, fun _ _ h => h.state hc, fun _ _ h => h.steps hc⟩
/-- Nobody's machines. -/
structure Jn (W : World) (pm : Value) (vb : Nat) (s : Ms) (w : World) : Prop where
 s0 : s = mk0 0 0
 m : Nbd pm w
 l : vb < w.heap.size
 c : w.cell? ⟨vb, 0, none⟩ = some (.bool false)
 bel : Below W.heap.size W w
section
variable {W : World} {pm : Value} {vb : Nat} {s : Ms} {w w' : World}
theorem Jn.next (h : Jn W pm vb s w) (hb : Below w.heap.size w w') : Jn W pm vb s w' :=
 ⟨h.s0, h.m.next hb, Nat.lt_of_lt_of_le h.l hb.size, (hb.cell (p := ⟨vb, 0, none⟩) h.l).trans h.c, h.bel.trans (hb.mono h.bel.size)⟩
theorem Jn.state (h : Jn W pm vb s w) : Calls Tryd.prog 21 #[.pointer (some ⟨vb, 0, none⟩)] w fun e w1 => ∃ A : Array Value, e = .returned (.agg A) ∧ Hid (Below w.heap.size w w1 ∧ Calls Tryd.prog 20 #[pm, .agg A] w1 fun e w2 => e = .returned (.bool true) ∧ Hid (Below w1.heap.size w1 w2)) := by
 refine (stateRn h.l h.c).mono ?_
 rintro e w1 ⟨rfl, G⟩
 have h1 := h.next G.out
 refine ⟨_, rfl, G.out, ?_⟩
 exact (sameStateT (fun w' hb => stateN (h1.next hb).m) (Cv.nil w1 _ _) (Cv.nil w1 _ _) (by decide) (by decide))
theorem Jn.dv : Dv W pm (.pointer (some ⟨vb, 0, none⟩)) (Jn W pm vb) := by
 refine ⟨fun _ _ h => h.bel, fun _ _ _ h hb => h.next hb, fun s w h => ?_, fun s w h => ?_, fun _ _ h => h.state, fun s w h => ?_⟩
 ·obtain rfl := h.s0
  exact outcomeRn h.l h.c
 ·obtain rfl := h.s0
  exact outcomeN h.m
 ·refine (stepRn h.l h.c).mono ?_
  rintro e w1 ⟨rfl, rfl⟩
  refine ⟨false, rfl, ?_⟩
  refine (stepCn h.m).mono ?_
  rintro e w2 ⟨rfl, rfl⟩
  exact ⟨rfl, s, h⟩
end
end Go.Proofs.YtmoklddfaocihaaDoor
