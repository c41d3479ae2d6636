import Derived.Test.YtnpekdkfjjeeeaaM49
import Derived.Test.YtnpekdkfjjeeeaaJFg
import Derived.Test.YtnpekdkfjjeeeaaMV
namespace Go.Proofs.Ytnpekdkfjjeeeaa
open Go.RowKit Crc

theorem maj_zero {c : Cf} (hk : c.Ok) : c.maj Jv.zero.fr = false := by
  unfold Cf.maj Jv.zero
  have h1 := hk.f1
  have e : countB (0 &&& allN c.f) = 0 := by rw [Nat.zero_and]; decide
  simp only [e]
  exact decide_eq_false (by omega)
/-- What is decided stays. -/
theorem acc_stays {c : Cf} {low : Nat} {u : Nat → Jv} {src : Nat} {m : Mw} {s : Nat} (h : c.maj (u s).fr = true) : (accF c low u src m).2 s = u s := by
  unfold accF
  by_cases e : m.slot = s
  · rw [e, if_pos h]
    split <;> rfl
  · have hu : ∀ t, updT u m.slot t s = u s := fun t => by unfold updT; rw [if_neg (fun h => e h.symm)]
    split
    · rfl
    split
    · rfl
    split
    · exact hu _
    split
    · exact hu _
    · rfl
theorem blk_map {V V' : World} {lb g mb n : Nat} {c : Cf} {low : Nat} {u : Nat → Jv} (h : LL V lb g mb n c low u) (hg : V.grownBy V' (some mb)) {b : Nat} {cs : Array Value} {t : TypeId} (hb : V.heap[b]? = some (.cells cs t (0, 0))) : V'.heap[b]? = some (.cells cs t (0, 0)) := by
  obtain ⟨es, k, ho⟩ := h.obj
  exact (hg.block _ (block_lt hb) (fun e => by cases e; rw [hb] at ho; cases ho)).trans hb
theorem LL.oddM {V : World} {lb g mb n : Nat} {c : Cf} {low : Nat} {u : Nat → Jv} (h : LL V lb g mb n c low u) : Odd V mb := by
  obtain ⟨m, t1, _⟩ := h.tal
  exact t1.odd
/-- A learner at work. -/
structure Sy (w : World) (c : Cf) (lb g mb : Nat) (V : World) (n low : Nat) (u : Nat → Jv) : Prop where
  bel : Below w.heap.size w V
  ll : LL V lb g mb n c low u
  lm : w.heap.size ≤ mb
  lll : w.heap.size ≤ lb
theorem Sy.kept {w V V' : World} {c : Cf} {lb g mb n low : Nat} {u : Nat → Jv} (h : Sy w c lb g mb V n low u) (hb : Below V.heap.size V V') : Sy w c lb g mb V' n low u := ⟨h.bel.trans (hb.mono h.bel.size), h.ll.kept hb, h.lm, h.lll⟩
theorem Sy.acc {w V V' : World} {c : Cf} {lb g mb n low : Nat} {u u' : Nat → Jv} (h : Sy w c lb g mb V n low u) (hg : V.grownBy V' (some mb)) (hl : LL V' lb g mb (n + 1) c low u') : Sy w c lb g mb V' (n + 1) low u' := ⟨h.bel.grown hg h.bel.size (fun k e => by cases e; exact h.lm), hl, h.lm, h.lll⟩
theorem Sy.fgt {w V V' : World} {c : Cf} {lb g mb n low X : Nat} {u u' : Nat → Jv} (h : Sy w c lb g mb V n low u) (hf : FgW lb mb V V') (hl : LL V' lb g mb n c X u') : Sy w c lb g mb V' n X u' := by
  obtain ⟨V1, g1, g2, _, _, hs⟩ := hf
  have b1 := h.bel.grown g1 h.bel.size (fun k e => by cases e; exact h.lll)
  exact ⟨b1.grown g2 b1.size (fun k e => by cases e; exact h.lm), hl, h.lm, h.lll⟩
/-- .. with what was told of the slot. -/
structure Sz (w : World) (c : Cf) (lb g mb slot : Nat) (t0 : Jv) (xb : Nat) (sl : Value) (V : World) (n low : Nat) (u : Nat → Jv) : Prop where
  sy : Sy w c lb g mb V n low u
  box : V.heap[xb]? = some (.cells #[.int .u64 (decS c t0 : Nat), sl] 40 (0, 0))
  bt : BtOk V (decS c t0) sl (decR c t0)
  inv : slot < low ∨ (c.maj t0.fr = true → u slot = t0)
theorem Sz.kept {w V V' : World} {c : Cf} {lb g mb slot : Nat} {t0 : Jv} {xb : Nat} {sl : Value} {n low : Nat} {u : Nat → Jv} (h : Sz w c lb g mb slot t0 xb sl V n low u) (hb : Below V.heap.size V V') : Sz w c lb g mb slot t0 xb sl V' n low u := ⟨h.sy.kept hb, (hb.block _ (block_lt h.box)).trans h.box, h.bt.kept hb, h.inv⟩
theorem Sz.acc {w V V' : World} {c : Cf} {lb g mb slot : Nat} {t0 : Jv} {xb : Nat} {sl : Value} {n low : Nat} {u : Nat → Jv} (h : Sz w c lb g mb slot t0 xb sl V n low u) {src : Nat} {m : Mw} (hg : V.grownBy V' (some mb)) (hl : LL V' lb g mb (n + 1) c low (accF c low u src m).2) : Sz w c lb g mb slot t0 xb sl V' (n + 1) low (accF c low u src m).2 := by
  refine ⟨h.sy.acc hg hl, blk_map h.sy.ll hg h.box, h.bt.odd hg h.sy.ll.oddM, ?_⟩
  rcases h.inv with hi | hi
  · exact .inl hi
  · right
    intro hm
    rw [acc_stays (by rw [hi hm]; exact hm)]
    exact hi hm
theorem Sz.fgt {w V V' : World} {c : Cf} {lb g mb slot : Nat} {t0 : Jv} {xb : Nat} {sl : Value} {n low X : Nat} {u : Nat → Jv} (h : Sz w c lb g mb slot t0 xb sl V n low u) (hX : low ≤ X) (hf : FgW lb mb V V') (hl : LL V' lb g mb n c X (fun x => if x < X then Jv.zero else u x)) : Sz w c lb g mb slot t0 xb sl V' n X (fun x => if x < X then Jv.zero else u x) := by
  have hs := h.sy.fgt hf hl
  obtain ⟨V1, g1, g2, o1, o2, hsz⟩ := hf
  have nb : some xb ≠ some lb := fun e => by
    cases e
    have := h.box
    rw [h.sy.ll.blk] at this
    cases this
  have b1 := (g1.block _ (block_lt h.box) nb).trans h.box
  obtain ⟨es, k, ho⟩ := hl.obj
  have nm : some xb ≠ some mb := fun e => by
    cases e
    have := h.box
    obtain ⟨es, k, ho⟩ := h.sy.ll.obj
    rw [ho] at this
    cases this
  refine ⟨hs, (g2.block _ (block_lt b1) nm).trans b1, (h.bt.odd g1 o1).odd g2 o2, ?_⟩
  by_cases e : slot < X
  · exact .inl e
  · right
    intro hm
    rcases h.inv with hi | hi
    · omega
    · show (if slot < X then Jv.zero else u slot) = t0
      rw [if_neg e]
      exact hi hm
theorem wo_at {lim : Nat} {w : World} {ao : Option Addr} {fs : List Wo} {b off : Nat} (h : Wos lim w ao fs b off) {k : Nat} (hk : k < fs.length) : ∃ f, fs[k]? = some f ∧ f.Ok lim w ∧ b < lim ∧ ao = some ⟨b, off, none⟩ ∧ w.rangeAt b (off + k * 52) f.cells := by
  have hg : fs[k]? = some fs[k] := List.getElem?_eq_getElem hk
  exact ⟨fs[k], hg, h.ok _ (List.getElem_mem hk), h.lt (by omega), h.ad (by omega), h.at_ k _ hg⟩
theorem wo_cells {w : World} {b o : Nat} {f : Wo} (h : w.rangeAt b o f.cells) : w.cell? ⟨b, o, none⟩ = some (.int .i64 f.kind) ∧ w.cell? ⟨b, o + 1, none⟩ = some (.int .u64 (f.src : Nat)) ∧ w.cell? ⟨b, o + 2, none⟩ = some (.int .u64 (f.slot : Nat)) ∧ w.rangeAt b (o + 3) f.m.cs := by
  refine ⟨h 0 _ rfl, h 1 _ rfl, h 2 _ rfl, fun j v hv => ?_⟩
  have := h (j + 3) v (by simpa [Wo.cells] using hv)
  rw [show o + (j + 3) = o + 3 + j by omega] at this
  exact this
end Go.Proofs.Ytnpekdkfjjeeeaa
