import Derived.Test.YtpdjnbpjgpdnkaaGreatDoorX70
import Derived.Test.YtpdjnbpjgpdnkaaGreatDoorX44
import Derived.Test.YtpdjnbpjgpdnkaaGreatDoorX34
namespace Go.Proofs.YtpdjnbpjgpdnkaaGreatDoor
open Go.RowKit

section
variable {p : Pv} {k : Kn} {ek ev : Nat → Int} {hd : Int} {s : Ms}
theorem pay_hS {t : Ms} {n : Nat} {a b c : Int} (hn : t.h ≤ n) : (t.pay a b c).ov = true → (t.pay a b c).h ≤ n := by
 unfold Ms.pay
 split
 ·exact fun _ => hn
 ·split
  ·exact fun _ => hn
  ·exact fun _ => hn
theorem step_hovS (ho : s.ov = false) : (stepF p ek ev hd s).ov = true → (stepF p ek ev hd s).h ≤ s.h := by
 have ite_h : ∀ (c : Prop) [Decidable c] (a b : Ms), (a.ov = true → a.h ≤ s.h) → (b.ov = true → b.h ≤ s.h) → (if c then a else b).ov = true → (if c then a else b).h ≤ s.h := fun c _ a b ha hb => by
  by_cases q : c
  ·rw [if_pos q]; exact ha
  ·rw [if_neg q]; exact hb
 have no : s.ov = true → False := fun e => by rw [ho] at e; cases e
 unfold stepF
 simp only
 repeat' (first | exact fun e => (no e).elim | exact fun _ => Nat.le_refl _ | exact fun _ => Nat.sub_le _ _ | exact pay_hS (Nat.sub_le _ _) | apply ite_h)
theorem step_hS (he : Me p k ek ev hd) (ht : Tm p k hd s) (ho : s.ov = false) (h : s.h ≤ 64) : (stepF p ek ev hd s).h ≤ 64 := by
 cases e : (stepF p ek ev hd s).ov with
 | true => exact Nat.le_trans (step_hovS ho e) h
 | false =>
  obtain ⟨i, l, _, hi, hk, hs⟩ := (step_tm he ht ho).1.run e
  rw [hs.h]
  exact flow_len he.fl i l hi hk
end
theorem Cv.congrS {w : World} {v : Value} {n : Nat} {k k' x x' : Nat → Int} (h : Cv w v n k x) (hk : ∀ j, j < n → k j = k' j) (hx : ∀ j, j < n → x j = x' j) : Cv w v n k' x' := by
 obtain ⟨ao, cap, b, h1, h2, h3, h4, h5⟩ := h.ex
 exact ⟨ao, cap, b, h1, h2, h3, fun j hj => by rw [← hk j hj]; exact h4 j hj, fun j hj => by rw [← hx j hj]; exact h5 j hj⟩
/-- What stays of a machine that a verified program drives. -/
structure Sc (p : Pv) (k : Kn) (e : En) (c : Mc) : Prop where
 me : Me p k c.ek c.ev c.hd
 vf : verF p = .ok k
 hd : c.hd = e.x2
 ns : c.many = p.ns
 kd : c.kd = kdJ p p.ns
/-- The law's world: the two boxes, the program, the tables, the machine. -/
structure Sg (W : World) (g : Pg) (p : Pv) (e : En) (k : Kn) (c : Mc) (pb eb mb : Nat) (s : Ms) (w : World) : Prop where
 m : Pm c mb s w
 r : ∃ cb co cc ib io ic, Mr c p mb cb co cc ib io ic w
 t : Tm p k c.hd s
 h64 : s.h ≤ 64
 un : s.ov = true → s.en ≠ 7
 bp : w.heap[pb]? = some (.cells (g.cs p).toArray 27 (0, 0))
 be : w.heap[eb]? = some (.cells e.cs.toArray 30 (0, 0))
 ok : g.Ok p W.heap.size w
 tab : Tab w
 bel : Below W.heap.size W w
 lm : W.heap.size ≤ mb
 lz : 10 < W.heap.size
 np : pb ≠ mb
 ne : eb ≠ mb
section
variable {W : World} {g : Pg} {p : Pv} {e : En} {k : Kn} {c : Mc} {pb eb mb : Nat} {s : Ms} {w w' : World}
theorem Sg.next (h : Sg W g p e k c pb eb mb s w) (hb : Below w.heap.size w w') : Sg W g p e k c pb eb mb s w' := by
 obtain ⟨cb, co, cc, ib, io, ic, hr⟩ := h.r
 exact ⟨h.m.below hb, ⟨cb, co, cc, ib, io, ic, hr.grown (grown_below hb)⟩, h.t, h.h64, h.un, (hb.block _ (block_lt h.bp)).trans h.bp, (hb.block _ (block_lt h.be)).trans h.be, h.ok.kept hb h.bel.size, h.tab.below hb h.tab.z, h.bel.trans (hb.mono h.bel.size), h.lm, h.lz, h.np, h.ne⟩
/-- A step of a machine that is not at its end. -/
theorem Sg.step (hc : Sc p k e c) (h : Sg W g p e k c pb eb mb s w) (ho : s.ov = false) : Calls Tryz.prog 13 #[.pointer (some ⟨mb, 0, none⟩)] w fun x w' => x = .returned (.bool true) ∧ Hid (Sg W g p e k c pb eb mb (stepF p c.ek c.ev c.hd s) w') := by
 obtain ⟨cb, co, cc, ib, io, ic, hr⟩ := h.r
 refine (stepC hc.me hr h.t h.m ho).mono ?_
 rintro x w' ⟨rfl, G⟩
 obtain ⟨m2, g2⟩ := G.out
 have hbel : Below W.heap.size W w' := h.bel.grown g2 h.bel.size (fun q e => by cases e; exact h.lm)
 have hb2 : Below W.heap.size w w' := (Below.refl _ w).grown g2 h.bel.size (fun q e => by cases e; exact h.lm)
 exact ⟨rfl, m2, ⟨cb, co, cc, ib, io, ic, hr.grown g2⟩, (step_tm hc.me h.t ho).1, step_hS hc.me h.t ho h.h64, step_un ho, (g2.block _ (block_lt h.bp) (by simpa using h.np)).trans h.bp, (g2.block _ (block_lt h.be) (by simpa using h.ne)).trans h.be, h.ok.kept hb2 (Nat.le_refl _), h.tab.below hb2 h.lz, hbel, h.lm, h.lz, h.np, h.ne⟩
/-- What State tells of it: slots and fits say true of that. -/
theorem Sg.state (hc : Sc p k e c) (h : Sg W g p e k c pb eb mb s w) : Calls Tryz.prog 10 #[.pointer (some ⟨mb, 0, none⟩)] w fun x w' => ∃ a1 d1 a2 d2, x = .returned (.agg (stA s (.slice a1 s.h d1) (.slice a2 p.ns d2))) ∧ Hid (Below w.heap.size w w' ∧ (∀ w2, Below w'.heap.size w' w2 → Calls Tryz.prog 11 #[.agg (g.cs p).toArray, .agg (stA s (.slice a1 s.h d1) (.slice a2 p.ns d2))] w2 fun x w3 => x = .returned (.bool true) ∧ Hid (Below w2.heap.size w2 w3)) ∧ (s.ov = false → ∀ w2, Below w'.heap.size w' w2 → Calls Tryz.prog 12 #[.agg (g.cs p).toArray, .agg (stA s (.slice a1 s.h d1) (.slice a2 p.ns d2))] w2 fun x w3 => x = .returned (.bool true) ∧ Hid (Below w2.heap.size w2 w3))) := by
 have hns : p.ns ≤ 128 := hc.me.wf.sz.2.1
 refine (stateC h.m h.h64 (by rw [hc.ns]; exact hns)).mono ?_
 rintro x w' ⟨a1, d1, a2, d2, rfl, G⟩
 obtain ⟨o1, o2, _, hb⟩ := G.out
 have c1 := Cv.of o1
 have c2 := Cv.of o2
 rw [hc.ns] at c2
 have c3 : Cv w' (.slice a2 p.ns d2) p.ns p.S s.slt := c2.congrS (fun j hj => by rw [hc.kd]; unfold kdJ; rw [if_pos hj]) (fun _ _ => rfl)
 refine ⟨a1, d1, a2, d2, by rw [hc.ns], hb, fun w2 hb2 => ?_, fun ho w2 hb2 => ?_⟩
 ·have h2 := (h.next hb).next hb2
  exact slotsT (h2.ok.wide h2.bel.size) (c3.next hb2) h.t.sl
 ·have h2 := (h.next hb).next hb2
  obtain ⟨i, l, hi, hin, hk, hst⟩ := h.t.run ho
  exact fitsT (h2.ok.wide h2.bel.size) h2.tab (c1.next hb2) hc.vf hi hin hk hst h.h64
end
end Go.Proofs.YtpdjnbpjgpdnkaaGreatDoor
