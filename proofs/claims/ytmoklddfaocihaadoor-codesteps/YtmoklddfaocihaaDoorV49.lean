import Derived.Test.YtmoklddfaocihaaDoorV48
import Derived.Test.YtmoklddfaocihaaDoorV40
namespace Go.Proofs.YtmoklddfaocihaaDoor
open Go.RowKit

theorem own_cutQ {w : World} {B n sz cap : Nat} {t : TypeId} {a : Option Addr} {xs ys : List Value} (h : w.ownsRow B t sz (.slice a (n + 1) cap) (n + 1) xs) (hy : xs.take (n * sz) = ys) : w.ownsRow B t sz (.slice a n cap) n ys := by
 have hm : n * sz ≤ (n + 1) * sz := Nat.mul_le_mul_right _ (Nat.le_succ n)
 refine ⟨by rw [← hy, List.length_take, h.1]; exact Nat.min_eq_left hm, .inr ?_⟩
 rcases h.2 with ⟨e, _⟩ | ⟨g, cap', cur, e, hb, hc, hnc, hmx, hs, ht⟩
 ·cases e
 ·cases e
  exact ⟨g, cap, cur, rfl, hb, hc, by omega, hmx, hs, by rw [← hy, ← ht, List.take_take, Nat.min_eq_left hm]⟩
section
variable {B : Nat} {g : Pg} {p : Pv} {w w' : World}
theorem Lo.next (h : Lo B g p w) (hb : Below w.heap.size w w') : Lo B g p w' := ⟨own_keep h.c hb, own_keep h.s hb, own_keep h.i hb⟩
theorem Lo.po (h : Lo B g p w) (ok : g.Ok p w.heap.size w) : Po B g p w :=
 ⟨own_cutQ h.c (List.take_left' (by simp [rowA])), own_cutQ h.s (List.take_left' (by simp [rowB])), own_cutQ h.i (by rw [← rowC_nums]; exact List.take_left' (rowC_len p p.n)), ok⟩
theorem Lo.bh (h : Lo B g p w) : Bh w.heap.size g :=
 ⟨fun a e => (h.c.lt a.block (by rw [e]; rfl)).2, fun a e => (h.s.lt a.block (by rw [e]; rfl)).2, fun a e => (h.i.lt a.block (by rw [e]; rfl)).2⟩
end
section
variable {p : Pv} {k : Kn} {ek ev : Nat → Int} {hd : Int} {s : Ms}
theorem pay_h {t : Ms} {n : Nat} {a b c : Int} (hn : t.h ≤ n) : (t.pay a b c).ov = true → (t.pay a b c).h ≤ n := by
 unfold Ms.pay
 split
 ·exact fun _ => hn
 ·split
  ·exact fun _ => hn
  ·exact fun _ => hn
theorem step_hov (ho : s.ov = false) : (stepF p ek ev hd s).ov = true → (stepF p ek ev hd s).h ≤ s.h := by
 have ite_h : ∀ (c : Prop) [Decidable c] (a b : Ms), (a.ov = true → a.h ≤ s.h) → (b.ov = true → b.h ≤ s.h) → (if c then a else b).ov = true → (if c then a else b).h ≤ s.h := fun c _ a b ha hb => by
  by_cases q : c
  ·rw [if_pos q]; exact ha
  ·rw [if_neg q]; exact hb
 have no : s.ov = true → False := fun e => by rw [ho] at e; cases e
 unfold stepF
 simp only
 repeat' (first | exact fun e => (no e).elim | exact fun _ => Nat.le_refl _ | exact fun _ => Nat.sub_le _ _ | exact pay_h (Nat.sub_le _ _) | apply ite_h)
theorem step_h (he : Me p k ek ev hd) (ht : Tm p k hd s) (ho : s.ov = false) (h : s.h ≤ 64) : (stepF p ek ev hd s).h ≤ 64 := by
 cases e : (stepF p ek ev hd s).ov with
 | true => exact Nat.le_trans (step_hov ho e) h
 | false =>
  obtain ⟨i, l, _, hi, hk, hs⟩ := (step_tm he ht ho).1.run e
  rw [hs.h]
  exact flow_len he.fl i l hi hk
end
end Go.Proofs.YtmoklddfaocihaaDoor
