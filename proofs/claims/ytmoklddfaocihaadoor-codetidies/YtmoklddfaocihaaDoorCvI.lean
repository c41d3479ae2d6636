import Derived.Test.YtmoklddfaocihaaDoorCvH
namespace Go.Proofs.YtmoklddfaocihaaDoor
open Go.RowKit

def orE (o : Option (Int × Int)) (r : Except (Int × Int) Kn) : Except (Int × Int) Kn := match o with
  | some y => .error y
  | none => r
/-- What Verify finds. -/
def verF (p : Pv) : Except (Int × Int) Kn := orE (sizeF p) (orE (slotF p) (orE (entF p) (orE (insF p) (goF p p.n))))
/-- Shapes as they lie. -/
def Shp (w : World) (hb n : Nat) (k : Kn) : Prop := ∃ cs, w.heap[hb]? = some (.cells cs 124 (0, 0)) ∧ ∀ j, j < n → cs[j * 2]? = some (.bool (k j).isSome) ∧ cs[j * 2 + 1]? = some (.string (ktx (kin (k j))))
theorem Shp.kept {w w' : World} {hb n : Nat} {k : Kn} (h : Shp w hb n k) (hB : Below w.heap.size w w') : Shp w' hb n k := by
  obtain ⟨cs, h1, h2⟩ := h
  exact ⟨cs, (hB.block _ (block_lt h1)).trans h1, h2⟩
theorem Ft.kept {w w' : World} {v : Value} {a y : Int} (h : Ft w.heap.size w v a y) (hB : Below w.heap.size w w') : Ft w'.heap.size w' v a y := (Chain.below hB h).wide hB.size
theorem Ft.set {W : World} {v u : Value} {q : Nat} {t : TypeId} {cs : Array Value} {a y : Int} (h : Ft W.heap.size W v a y) (hq : W.heap[q]? = some (.cells cs t (0, 0))) (ht : ∀ x, cs[0]? ≠ some (.string x)) (i : Nat) : Ft (W.setCell ⟨q, i, none⟩ u).heap.size (W.setCell ⟨q, i, none⟩ u) v a y := by
  obtain ⟨g, u', hv, hg, c0, c1, c2, hr⟩ := h
  have hne : g ≠ q := fun e => by subst e; rw [block_cell hq 0] at c0; exact ht _ c0
  refine ⟨g, u', hv, by simpa using hg, ?_, ?_, ?_, hr⟩
  · rw [World.cell?_setCell_far _ _ _ _ (by simpa using fun e => hne e.symm)]; exact c0
  · rw [World.cell?_setCell_far _ _ _ _ (by simpa using fun e => hne e.symm)]; exact c1
  · rw [World.cell?_setCell_far _ _ _ _ (by simpa using fun e => hne e.symm)]; exact c2
theorem asrt_nilF (w : World) : (Instr.typeAssert .nilIface 20 96 true).run Tryd.prog w = .ok (.tuple #[.pointer none, .bool false]) w := by kernel_rfl
theorem asrt_hitF (g : Nat) (w : World) : (Instr.typeAssert (.iface 96 (.pointer (some ⟨g, 0, none⟩))) 20 96 true).run Tryd.prog w = .ok (.tuple #[.pointer (some ⟨g, 0, none⟩), .bool true]) w := by kernel_rfl
/-- The deferred function, where nothing was given up. -/
theorem catch_idle (a b : Addr) (w : World) :
    CallsD Tryd.prog 80 #[.pointer (some a), .pointer (some b)] .returning w fun e u' w' => e = .returned (.tuple #[]) ∧ u' = .returning ∧ w' = w := by
  have ha := asrt_nilF w
  refine callsD_of_wpS Tryd.func80 rfl fun c₀ cs hu => ?_
  apply wpS_seq
  apply wpS_region
  simp [wpOpsS, go_sem, recoverD, hu, Tryd.ntmps80, Exit.thenS, ha]
  apply wpS_seq
  apply wpS_region
  simp [wpOpsS, go_sem, Exit.thenS]
  refine wpS_cond (t := false) (by simp [Act.eval, Array.replicate]) ?_
  simp only [Bool.false_eq_true, if_false]
  refine wpS_of_wp (wp_skip ?_)
  cases c₀
  simp_all [bodyPostS, results, Tryd.results80]
/-- The deferred function, where it was given up. -/
theorem catch_fault (a b g : Nat) (x y : Value) (w : World) (hx : w.cell? ⟨a, 0, none⟩ = some x) (hy : w.cell? ⟨b, 0, none⟩ = some y) (fx : w.frozen? ⟨a, 0, none⟩ = false) (fy : w.frozen? ⟨b, 0, none⟩ = false) (hab : ¬ a = b) :
    CallsD Tryd.prog 80 #[.pointer (some ⟨a, 0, none⟩), .pointer (some ⟨b, 0, none⟩)] (.panicking [{ v := .iface 96 (.pointer (some ⟨g, 0, none⟩)), recovered := false }]) w fun e u' w' => e = .returned (.tuple #[]) ∧ u' = .panicking [{ v := .iface 96 (.pointer (some ⟨g, 0, none⟩)), recovered := true }] ∧ w' = (w.setCell ⟨a, 0, none⟩ (.slice none 0 0)).setCell ⟨b, 0, none⟩ (.iface 96 (.pointer (some ⟨g, 0, none⟩))) := by
  have ha := asrt_hitF g w
  refine callsD_of_wpS Tryd.func80 rfl fun c₀ cs hu => ?_
  apply wpS_seq
  apply wpS_region
  simp [wpOpsS, go_sem, recoverD, hu, Tryd.ntmps80, Exit.thenS, ha]
  apply wpS_seq
  apply wpS_region
  simp [wpOpsS, go_sem, Exit.thenS]
  refine wpS_cond (t := true) (by simp [Act.eval, Array.replicate]) ?_
  simp only [if_true]
  apply wpS_region
  have hy' : (w.setCell ⟨a, 0, none⟩ (.slice none 0 0)).cell? ⟨b, 0, none⟩ = some y := by rw [World.cell?_setCell_far _ _ _ _ (by simpa using fun e => hab e)]; exact hy
  simp [wpOpsS, go_sem, hx, hy', fx, fy, bodyPostS, results, Tryd.results80, Array.replicate]
/-- What becomes of walked. -/
def Wd (W : World) (p : Pv) (r : Except (Int × Int) Kn) (e : Ending) (w' : World) : Prop := match r with
  | .ok k => ∃ hb, e = .returned (.tuple #[.slice (some ⟨hb, 0, none⟩) p.n p.n, .nilIface]) ∧ Hid (Shp w' hb p.n k ∧ Below W.heap.size W w')
  | .error (a, y) => ∃ g, e = .returned (.tuple #[.slice none 0 0, .iface 96 (.pointer (some ⟨g, 0, none⟩))]) ∧ Hid (Ft w'.heap.size w' (.iface 96 (.pointer (some ⟨g, 0, none⟩))) a y ∧ Below W.heap.size W w')
/-- The boxes of walked: the program, the results, the walk. -/
structure BxW (W : World) (b : Nat) (cs : List Value) : Prop where
  b0 : W.heap[b]? = some (.cells cs.toArray 27 (0, 0))
  b1 : W.heap[b + 1]? = some (.cells #[.slice none 0 0] 119 (0, 0))
  b2 : W.heap[b + 1 + 1]? = some (.cells #[.nilIface] 35 (0, 0))
theorem bxW_new {W W3 : World} {cs : List Value} (h : ((W.alloc (.cells cs.toArray 27)).alloc (.cells #[.slice none 0 0] 119)).alloc (.cells #[.nilIface] 35) = W3) : BxW W3 W.heap.size cs ∧ Below W.heap.size W W3 ∧ W3.heap.size = W.heap.size + 1 + 1 + 1 := by
  have e1 : (W.alloc (.cells cs.toArray 27)).heap.size = W.heap.size + 1 := by simp
  have e2 : ((W.alloc (.cells cs.toArray 27)).alloc (.cells #[.slice none 0 0] 119)).heap.size = W.heap.size + 1 + 1 := by simp
  refine ⟨⟨?_, ?_, ?_⟩, by rw [← h]; exact ((below_alloc1 W _).alloc (by simp) _).alloc (by simp; omega) _, by rw [← h]; simp⟩
  · rw [← h]
    exact ((below_alloc1 _ _).block _ (by rw [e2]; omega)).trans (((below_alloc1 _ _).block _ (by rw [e1]; omega)).trans (alloc_atK _ _))
  · rw [← h, ← e1]
    exact ((below_alloc1 _ _).block _ (by rw [e2, e1]; omega)).trans (alloc_atK _ _)
  · rw [← h, ← e2]
    exact alloc_atK _ _
theorem BxW.kept {W W' : World} {b : Nat} {cs : List Value} (h : BxW W b cs) (hb : Below W.heap.size W W') : BxW W' b cs := ⟨(hb.block _ (block_lt h.b0)).trans h.b0, (hb.block _ (block_lt h.b1)).trans h.b1, (hb.block _ (block_lt h.b2)).trans h.b2⟩
theorem BxW.grown {W W' : World} {b q : Nat} {cs : List Value} (h : BxW W b cs) (hg : W.grownBy W' (some q)) (hq : b + 1 + 1 < q) : BxW W' b cs := ⟨(hg.block _ (block_lt h.b0) (by simp; omega)).trans h.b0, (hg.block _ (block_lt h.b1) (by simp; omega)).trans h.b1, (hg.block _ (block_lt h.b2) (by simp; omega)).trans h.b2⟩
/-- The end of walked where it was given up. -/
theorem walked_gave {W w5 : World} {p : Pv} {g : Nat} {cs : List Value} {a y : Int} (hx : BxW w5 W.heap.size cs) (hf : Ft w5.heap.size w5 (.iface 96 (.pointer (some ⟨g, 0, none⟩))) a y) (hB : Below W.heap.size W w5) (tmps : Array Value) (h1 : tmps[2]? = some (.pointer (some ⟨W.heap.size + 1, 0, none⟩))) (h2 : tmps[3]? = some (.pointer (some ⟨W.heap.size + 1 + 1, 0, none⟩))) :
    bodyPostD Tryd.prog Tryd.f59 (Wd W p (.error (a, y))) (.panic [{ v := .iface 96 (.pointer (some ⟨g, 0, none⟩)), recovered := false }]) { tmps := tmps, defers := [{ target := .fn (.func 80) #[.pointer (some ⟨W.heap.size + 1, 0, none⟩), .pointer (some ⟨W.heap.size + 1 + 1, 0, none⟩)], args := #[] }] } w5 := by
  have z1 := block_cell hx.b1 0
  have z2 := block_cell hx.b2 0
  simp at z1 z2
  refine leaves_cons (f := 80) (args := #[.pointer (some ⟨W.heap.size + 1, 0, none⟩), .pointer (some ⟨W.heap.size + 1 + 1, 0, none⟩)]) (by simp) (by simp [go_sem]) ?_
  refine (catch_fault _ _ g _ _ w5 z1 z2 (block_free hx.b1 0) (block_free hx.b2 0) (by omega)).mono ?_
  rintro e u' w6 ⟨rfl, rfl, hw6⟩
  have s1 := heap_setCell_same w5 (W.heap.size + 1) 0 _ _ (.slice none 0 0) hx.b1
  have k2 := ((grown_set w5 (W.heap.size + 1) 0 (.slice none 0 0)).block _ (block_lt hx.b2) (by simp)).trans hx.b2
  have s2 := heap_setCell_same _ (W.heap.size + 1 + 1) 0 _ _ (.iface 96 (.pointer (some ⟨g, 0, none⟩))) k2
  have k1 := ((grown_set (w5.setCell ⟨W.heap.size + 1, 0, none⟩ (.slice none 0 0)) (W.heap.size + 1 + 1) 0 (.iface 96 (.pointer (some ⟨g, 0, none⟩)))).block _ (block_lt s1) (by simp)).trans s1
  have d1 : w6.cell? ⟨W.heap.size + 1, 0, none⟩ = some (.slice none 0 0) := by rw [hw6, block_cell k1 0]; rfl
  have d2 : w6.cell? ⟨W.heap.size + 1 + 1, 0, none⟩ = some (.iface 96 (.pointer (some ⟨g, 0, none⟩))) := by rw [hw6, block_cell s2 0]; rfl
  have hF : Ft w6.heap.size w6 (.iface 96 (.pointer (some ⟨g, 0, none⟩))) a y := by
    rw [hw6]
    exact (hf.set hx.b1 (by simp) 0).set k2 (by simp) 0
  have hB6 : Below W.heap.size W w6 := by
    rw [hw6]
    exact (hB.setCell (p := ⟨W.heap.size + 1, 0, none⟩) (by simp) _).setCell (p := ⟨W.heap.size + 1 + 1, 0, none⟩) (by simp; omega) _
  exact ⟨.tuple #[.slice none 0 0, .iface 96 (.pointer (some ⟨g, 0, none⟩))], by simp [results, Tryd.results59, go_sem, h1, h2, d1, d2], g, rfl, hF, hB6⟩
end Go.Proofs.YtmoklddfaocihaaDoor
