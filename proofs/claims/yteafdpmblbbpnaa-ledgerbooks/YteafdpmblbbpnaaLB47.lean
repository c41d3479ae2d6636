import Derived.Test.YteafdpmblbbpnaaLB46
namespace Go.Proofs.Yteafdpmblbbpnaa
open Go.RowKit

theorem wrapU (x : Int) : IntKind.u64.wrap x = x % 18446744073709551616 := by simp [IntKind.wrap, IntKind.bits, IntKind.signed]
theorem wrap_sub {a m : Nat} (ha : a < 18446744073709551616) (hm : m < 18446744073709551616) : IntKind.u64.wrap ((a : Int) - (m : Int)) = ((subW a m : Nat) : Int) := by
  rw [wrapU]
  unfold subW
  omega
theorem wrap_add (a m : Nat) : IntKind.u64.wrap ((a : Int) + (m : Int)) = ((addW a m : Nat) : Int) := by
  rw [wrapU]
  unfold addW
  omega
theorem subW_lt (a m : Nat) : subW a m < 18446744073709551616 := by unfold subW; omega
theorem addW_lt (a m : Nat) : addW a m < 18446744073709551616 := by unfold addW; omega
theorem fAm1_in {e : Jn} {a : Ac} (h : a.In) : (fAm1 e a).In := by
  unfold fAm1
  split
  · exact ⟨h.h0, h.h1, subW_lt _ _, h.h3⟩
  · exact h
theorem fAm2_in {e : Jn} {a : Ac} (h : a.In) : (fAm2 e a).In := by
  unfold fAm2
  split
  · exact ⟨h.h0, h.h1, addW_lt _ _, h.h3⟩
  · exact h
theorem foldF_in {e : Jn} {A : List Ac} {H : List Ho} (he : e.In) (hA : ∀ x ∈ A, x.In) (hH : ∀ x ∈ H, x.In) : (∀ x ∈ (foldF e A H).1, x.In) ∧ (∀ x ∈ (foldF e A H).2.1, x.In) := by
  have ha : ∀ x ∈ (A.foldl (foldA e) ⟨false, false, []⟩).out, x.In := fun x hx => by
    rw [foldA_out, List.nil_append] at hx
    obtain ⟨a, ha, ef⟩ := List.mem_filterMap.1 hx
    unfold fAf at ef
    split at ef
    · cases ef
    · cases ef
      exact fAm2_in (fAm1_in (hA a ha))
  have hh : ∀ x ∈ H.filterMap (fHf e), x.In := fun x hx => by
    obtain ⟨a, ha, ef⟩ := List.mem_filterMap.1 hx
    unfold fHf at ef
    split at ef
    · cases ef
    · cases ef
      have h1 := hH a ha
      unfold foldH
      split
      · exact ⟨h1.h0, h1.h1, subW_lt _ _⟩
      · exact h1
  unfold foldF
  split
  · exact ⟨fun x hx => by
      rcases List.mem_append.1 hx with h | h
      · exact ha x h
      · obtain rfl : x = ⟨e.fr, 0, 0, e.am⟩ := by simpa using h
        exact ⟨he.h2, by show 0 < _; decide, by show 0 < _; decide, he.h4⟩, hh⟩
  split
  · exact ⟨ha, fun x hx => by
      rcases List.mem_append.1 hx with h | h
      · exact hh x h
      · obtain rfl : x = ⟨e.tw, e.fr, e.am⟩ := by simpa using h
        exact ⟨he.h3, he.h2, he.h4⟩⟩
  · exact ⟨ha, hh⟩
/-- Rows of unlike types lie apart. -/
theorem rows2_ne {W : World} {B1 B2 e1 e2 k1 k2 n m : Nat} {v u : Value} {xs ys : List Value} (h : W.ownsRow B1 e1 k1 v n xs) (h' : W.ownsRow B2 e2 k2 u m ys) (hne : e1 ≠ e2) : u.ownBlock = none ∨ u.ownBlock ≠ v.ownBlock := by
  rcases h'.2 with ⟨rfl, _⟩ | ⟨g', c', cur', rfl, _, hg', _⟩
  · exact .inl rfl
  · refine .inr (fun e => ?_)
    rcases h.2 with ⟨rfl, _⟩ | ⟨g, c, cur, rfl, _, hg, _⟩
    · cases e
    · cases e
      rw [hg] at hg'
      cases hg'
      exact hne rfl
def Jn.arr (e : Jn) : Array Value := #[.int .u64 (e.sq : Nat), .int .i64 (e.kd : Nat), .int .u64 (e.fr : Nat), .int .u64 (e.tw : Nat), .int .u64 (e.am : Nat)]
/-- The world of fold: the boxes of the image, of the line, of the answer and of the new image, which has these accounts and holds. -/
structure Fo (w : World) (mc : Array Value) (e : Jn) (t0 t1 : Value) (out : List Ac) (v : Value) (hs : List Ho) (u : Value) (V : World) : Prop where
  bel : Below w.heap.size w V
  b0 : V.heap[w.heap.size]? = some (.cells mc 31 (0, 0))
  b1 : V.heap[w.heap.size + 1]? = some (.cells e.arr 38 (0, 0))
  b2 : V.heap[w.heap.size + 1 + 1]? = some (.cells #[.int .u64 0, .int .u64 0, .slice none 0 0, .slice none 0 0, .slice none 0 0] 31 (0, 0))
  b3 : V.heap[w.heap.size + 1 + 1 + 1]? = some (.cells #[t0, t1, v, u, .slice none 0 0] 31 (0, 0))
  ra : V.ownsRow (w.heap.size + 1 + 1 + 1 + 1) 50 4 v out.length (acells out)
  rh : V.ownsRow (w.heap.size + 1 + 1 + 1 + 1) 75 3 u hs.length (hcells hs)
section
variable {w : World} {mc : Array Value} {e : Jn} {t0 t1 : Value} {out : List Ac} {v : Value} {hs : List Ho} {u : Value} {V : World}
theorem Fo.alloc (h : Fo w mc e t0 t1 out v hs u V) (o : Obj) : Fo w mc e t0 t1 out v hs u (V.alloc o) := by
  have hg := World.grownBy_alloc V o none
  exact ⟨h.bel.alloc h.bel.size o, (hg.block _ (block_lt h.b0) (by simp)).trans h.b0, (hg.block _ (block_lt h.b1) (by simp)).trans h.b1, (hg.block _ (block_lt h.b2) (by simp)).trans h.b2, (hg.block _ (block_lt h.b3) (by simp)).trans h.b3, h.ra.alloc o, h.rh.alloc o⟩
/-- A box of one's own turns. -/
theorem Fo.box {V' : World} {q : Nat} (h : Fo w mc e t0 t1 out v hs u V) (hg : V.grownBy V' (some q)) (hq : w.heap.size + 1 + 1 + 1 < q) (h1 : v.ownBlock ≠ some q) (h2 : u.ownBlock ≠ some q) : Fo w mc e t0 t1 out v hs u V' := by
  have n : ∀ k, k ≤ w.heap.size + 1 + 1 + 1 → some k ≠ some q := fun k hk e => by cases e; omega
  exact ⟨h.bel.grown hg h.bel.size (fun j e => by cases e; omega), (hg.block _ (block_lt h.b0) (n _ (by omega))).trans h.b0, (hg.block _ (block_lt h.b1) (n _ (by omega))).trans h.b1, (hg.block _ (block_lt h.b2) (n _ (by omega))).trans h.b2, (hg.block _ (block_lt h.b3) (n _ (by omega))).trans h.b3, h.ra.kept hg (.inr h1), h.rh.kept hg (.inr h2)⟩
theorem Fo.new (h : Fo w mc e t0 t1 out v hs u V) : v.ownBlock ≠ some V.heap.size ∧ u.ownBlock ≠ some V.heap.size ∧ w.heap.size + 1 + 1 + 1 < V.heap.size := ⟨fun e => by have := (h.ra.lt _ e).2; omega, fun e => by have := (h.rh.lt _ e).2; omega, block_lt h.b3⟩
/-- The new image's list of accounts: one more. -/
theorem Fo.appA (h : Fo w mc e t0 t1 out v hs u V) (o : Obj) {x : Ac} {v' : Value} {w4 : World} (ho : w4.ownsRow (w.heap.size + 1 + 1 + 1 + 1) 50 4 v' (out.length + 1) (acells out ++ x.vals)) (hg : (V.alloc o).grownBy w4 v.ownBlock) : Fo w mc e t0 t1 (out ++ [x]) v' hs u (w4.setCell ⟨w.heap.size + 1 + 1 + 1, 2, none⟩ v') := by
  have ha := h.alloc o
  have ne : ∀ k cs t, (V.alloc o).heap[k]? = some (.cells cs t (0, 0)) → t ≠ 50 → some k ≠ v.ownBlock := fun k cs t hk ht e => rowT_ne ha.ra hk ht e.symm
  have c0 := (hg.block _ (block_lt ha.b0) (ne _ _ _ ha.b0 (by decide))).trans ha.b0
  have c1 := (hg.block _ (block_lt ha.b1) (ne _ _ _ ha.b1 (by decide))).trans ha.b1
  have c2 := (hg.block _ (block_lt ha.b2) (ne _ _ _ ha.b2 (by decide))).trans ha.b2
  have c3 := (hg.block _ (block_lt ha.b3) (ne _ _ _ ha.b3 (by decide))).trans ha.b3
  have hu := ha.rh.kept hg (rows2_ne ha.ra ha.rh (by decide))
  have gs := grown_set w4 (w.heap.size + 1 + 1 + 1) 2 v'
  have n : ∀ k, k < w.heap.size + 1 + 1 + 1 → some k ≠ some (w.heap.size + 1 + 1 + 1) := fun k hk e => by cases e; omega
  have e4 : acells (out ++ [x]) = acells out ++ x.vals := by rw [acells_app]; simp [acells]
  refine ⟨(ha.bel.grown hg ha.bel.size (fun j e => by have := (ha.ra.lt j e).1; omega)).grown gs (by have := hg.size; have := ha.bel.size; omega) (fun j e => by cases e; omega), (gs.block _ (block_lt c0) (n _ (by omega))).trans c0, (gs.block _ (block_lt c1) (n _ (by omega))).trans c1, (gs.block _ (block_lt c2) (n _ (by omega))).trans c2, heap_setCell_same w4 _ 2 _ _ _ c3, ?_, hu.kept gs (.inr (rowT_ne hu c3 (by decide)))⟩
  rw [e4, List.length_append]
  exact ho.kept gs (.inr (rowT_ne ho c3 (by decide)))
/-- The new image's list of holds: one more. -/
theorem Fo.appH (h : Fo w mc e t0 t1 out v hs u V) (o : Obj) {x : Ho} {u' : Value} {w4 : World} (ho : w4.ownsRow (w.heap.size + 1 + 1 + 1 + 1) 75 3 u' (hs.length + 1) (hcells hs ++ x.vals)) (hg : (V.alloc o).grownBy w4 u.ownBlock) : Fo w mc e t0 t1 out v (hs ++ [x]) u' (w4.setCell ⟨w.heap.size + 1 + 1 + 1, 3, none⟩ u') := by
  have ha := h.alloc o
  have ne : ∀ k cs t, (V.alloc o).heap[k]? = some (.cells cs t (0, 0)) → t ≠ 75 → some k ≠ u.ownBlock := fun k cs t hk ht e => rowT_ne ha.rh hk ht e.symm
  have c0 := (hg.block _ (block_lt ha.b0) (ne _ _ _ ha.b0 (by decide))).trans ha.b0
  have c1 := (hg.block _ (block_lt ha.b1) (ne _ _ _ ha.b1 (by decide))).trans ha.b1
  have c2 := (hg.block _ (block_lt ha.b2) (ne _ _ _ ha.b2 (by decide))).trans ha.b2
  have c3 := (hg.block _ (block_lt ha.b3) (ne _ _ _ ha.b3 (by decide))).trans ha.b3
  have hv := ha.ra.kept hg (rows2_ne ha.rh ha.ra (by decide))
  have gs := grown_set w4 (w.heap.size + 1 + 1 + 1) 3 u'
  have n : ∀ k, k < w.heap.size + 1 + 1 + 1 → some k ≠ some (w.heap.size + 1 + 1 + 1) := fun k hk e => by cases e; omega
  have e4 : hcells (hs ++ [x]) = hcells hs ++ x.vals := by rw [hcells_app]; simp [hcells]
  refine ⟨(ha.bel.grown hg ha.bel.size (fun j e => by have := (ha.rh.lt j e).1; omega)).grown gs (by have := hg.size; have := ha.bel.size; omega) (fun j e => by cases e; omega), (gs.block _ (block_lt c0) (n _ (by omega))).trans c0, (gs.block _ (block_lt c1) (n _ (by omega))).trans c1, (gs.block _ (block_lt c2) (n _ (by omega))).trans c2, heap_setCell_same w4 _ 3 _ _ _ c3, hv.kept gs (.inr (rowT_ne hv c3 (by decide))), ?_⟩
  rw [e4, List.length_append]
  exact ho.kept gs (.inr (rowT_ne ho c3 (by decide)))
end
/-- Behind the append the new image's box is as it was. -/
theorem Fo.boxA {w : World} {mc : Array Value} {e : Jn} {t0 t1 : Value} {out : List Ac} {v : Value} {hs : List Ho} {u : Value} {V : World} (h : Fo w mc e t0 t1 out v hs u V) (o : Obj) {w4 : World} (hg : (V.alloc o).grownBy w4 v.ownBlock) : w4.heap[w.heap.size + 1 + 1 + 1]? = some (.cells #[t0, t1, v, u, .slice none 0 0] 31 (0, 0)) := by
  have ha := h.alloc o
  exact (hg.block _ (block_lt ha.b3) (fun e => rowT_ne ha.ra ha.b3 (by decide) e.symm)).trans ha.b3
theorem Fo.boxH {w : World} {mc : Array Value} {e : Jn} {t0 t1 : Value} {out : List Ac} {v : Value} {hs : List Ho} {u : Value} {V : World} (h : Fo w mc e t0 t1 out v hs u V) (o : Obj) {w4 : World} (hg : (V.alloc o).grownBy w4 u.ownBlock) : w4.heap[w.heap.size + 1 + 1 + 1]? = some (.cells #[t0, t1, v, u, .slice none 0 0] 31 (0, 0)) := by
  have ha := h.alloc o
  exact (hg.block _ (block_lt ha.b3) (fun e => rowT_ne ha.rh ha.b3 (by decide) e.symm)).trans ha.b3
theorem Fo.res {w : World} {mc : Array Value} {e : Jn} {t0 t1 : Value} {out : List Ac} {v : Value} {hs : List Ho} {u : Value} {V : World} (h : Fo w mc e t0 t1 out v hs u V) : (V.cell? ⟨w.heap.size + 1 + 1 + 1, 0, none⟩ = some t0 ∧ V.cell? ⟨w.heap.size + 1 + 1 + 1, 1, none⟩ = some t1 ∧ V.cell? ⟨w.heap.size + 1 + 1 + 1, 2, none⟩ = some v ∧ V.cell? ⟨w.heap.size + 1 + 1 + 1, 3, none⟩ = some u ∧ V.cell? ⟨w.heap.size + 1 + 1 + 1, 4, none⟩ = some (.slice none 0 0) ∧ w.heap.size + 1 + 1 + 1 < V.heap.size) ∧ (V.cell? ⟨w.heap.size + 1 + 1, 0, none⟩ = some (.int .u64 0) ∧ V.cell? ⟨w.heap.size + 1 + 1, 1, none⟩ = some (.int .u64 0) ∧ V.cell? ⟨w.heap.size + 1 + 1, 2, none⟩ = some (.slice none 0 0) ∧ V.cell? ⟨w.heap.size + 1 + 1, 3, none⟩ = some (.slice none 0 0) ∧ V.cell? ⟨w.heap.size + 1 + 1, 4, none⟩ = some (.slice none 0 0) ∧ w.heap.size + 1 + 1 < V.heap.size) ∧ V.frozen? ⟨w.heap.size + 1 + 1, 0, none⟩ = false ∧ V.frozen? ⟨w.heap.size + 1 + 1, 1, none⟩ = false ∧ V.frozen? ⟨w.heap.size + 1 + 1, 2, none⟩ = false ∧ V.frozen? ⟨w.heap.size + 1 + 1, 3, none⟩ = false ∧ V.frozen? ⟨w.heap.size + 1 + 1, 4, none⟩ = false :=
  ⟨⟨block_cell h.b3 0, block_cell h.b3 1, block_cell h.b3 2, block_cell h.b3 3, block_cell h.b3 4, block_lt h.b3⟩, ⟨block_cell h.b2 0, block_cell h.b2 1, block_cell h.b2 2, block_cell h.b2 3, block_cell h.b2 4, block_lt h.b2⟩, block_free h.b2 0, block_free h.b2 1, block_free h.b2 2, block_free h.b2 3, block_free h.b2 4⟩
/-- The answer's box is written. -/
theorem Fo.fin {w : World} {mc : Array Value} {e : Jn} {t0 t1 : Value} {out : List Ac} {v : Value} {hs : List Ho} {u : Value} {V : World} (h : Fo w mc e t0 t1 out v hs u V) : ∀ u0 u1 u2 u3 u4 : Value, Hid ((((((V.setCell ⟨w.heap.size + 1 + 1, 0, none⟩ u0).setCell ⟨w.heap.size + 1 + 1, 1, none⟩ u1).setCell ⟨w.heap.size + 1 + 1, 2, none⟩ u2).setCell ⟨w.heap.size + 1 + 1, 3, none⟩ u3).setCell ⟨w.heap.size + 1 + 1, 4, none⟩ u4).ownsRow w.heap.size 50 4 v out.length (acells out) ∧ (((((V.setCell ⟨w.heap.size + 1 + 1, 0, none⟩ u0).setCell ⟨w.heap.size + 1 + 1, 1, none⟩ u1).setCell ⟨w.heap.size + 1 + 1, 2, none⟩ u2).setCell ⟨w.heap.size + 1 + 1, 3, none⟩ u3).setCell ⟨w.heap.size + 1 + 1, 4, none⟩ u4).ownsRow w.heap.size 75 3 u hs.length (hcells hs) ∧ Below w.heap.size w (((((V.setCell ⟨w.heap.size + 1 + 1, 0, none⟩ u0).setCell ⟨w.heap.size + 1 + 1, 1, none⟩ u1).setCell ⟨w.heap.size + 1 + 1, 2, none⟩ u2).setCell ⟨w.heap.size + 1 + 1, 3, none⟩ u3).setCell ⟨w.heap.size + 1 + 1, 4, none⟩ u4)) := fun u0 u1 u2 u3 u4 => by
  have hg := set5_g V (w.heap.size + 1 + 1) u0 u1 u2 u3 u4
  unfold set5 at hg
  exact ⟨row_lower (h.ra.kept hg (.inr (rowT_ne h.ra h.b2 (by decide)))) (by omega), row_lower (h.rh.kept hg (.inr (rowT_ne h.rh h.b2 (by decide)))) (by omega), h.bel.grown hg h.bel.size (fun j e => by cases e; omega)⟩
theorem own_form2 {w : World} {base n s : Nat} {t : TypeId} {v : Value} {xs : List Value} (h : w.ownsRow base t s v n xs) : ∃ ao cap, v = .slice ao n cap := by
  rcases h.2 with ⟨e3, e0⟩ | ⟨g3, cap, cur, e3, _⟩
  · exact ⟨none, 0, by rw [e3, e0]⟩
  · exact ⟨_, cap, e3⟩
/-- Four boxes, one behind the other. -/
theorem four_boxes (w : World) (o0 o1 o2 o3 : Array Value) (k0 k1 k2 k3 : TypeId) {W : World} (h : (((w.alloc (.cells o0 k0)).alloc (.cells o1 k1)).alloc (.cells o2 k2)).alloc (.cells o3 k3) = W) : Below w.heap.size w W ∧ W.heap[w.heap.size]? = some (.cells o0 k0 (0, 0)) ∧ W.heap[w.heap.size + 1]? = some (.cells o1 k1 (0, 0)) ∧ W.heap[w.heap.size + 1 + 1]? = some (.cells o2 k2 (0, 0)) ∧ W.heap[w.heap.size + 1 + 1 + 1]? = some (.cells o3 k3 (0, 0)) := by
  subst h
  have s1 : (w.alloc (.cells o0 k0)).heap.size = w.heap.size + 1 := by simp
  have s2 : ((w.alloc (.cells o0 k0)).alloc (.cells o1 k1)).heap.size = w.heap.size + 1 + 1 := by simp
  have s3 : (((w.alloc (.cells o0 k0)).alloc (.cells o1 k1)).alloc (.cells o2 k2)).heap.size = w.heap.size + 1 + 1 + 1 := by simp
  have a0 := alloc_atK w (.cells o0 k0)
  have a1 := alloc_atK (w.alloc (.cells o0 k0)) (.cells o1 k1)
  have a2 := alloc_atK ((w.alloc (.cells o0 k0)).alloc (.cells o1 k1)) (.cells o2 k2)
  have a3 := alloc_atK (((w.alloc (.cells o0 k0)).alloc (.cells o1 k1)).alloc (.cells o2 k2)) (.cells o3 k3)
  rw [s1] at a1
  rw [s2] at a2
  rw [s3] at a3
  have g1 := World.grownBy_alloc (w.alloc (.cells o0 k0)) (.cells o1 k1) none
  have g2 := World.grownBy_alloc ((w.alloc (.cells o0 k0)).alloc (.cells o1 k1)) (.cells o2 k2) none
  have g3 := World.grownBy_alloc (((w.alloc (.cells o0 k0)).alloc (.cells o1 k1)).alloc (.cells o2 k2)) (.cells o3 k3) none
  have b0 := (g1.block _ (block_lt a0) (by simp)).trans a0
  have c0 := (g2.block _ (block_lt b0) (by simp)).trans b0
  have d0 := (g3.block _ (block_lt c0) (by simp)).trans c0
  have b1 := (g2.block _ (block_lt a1) (by simp)).trans a1
  have c1 := (g3.block _ (block_lt b1) (by simp)).trans b1
  have b2 := (g3.block _ (block_lt a2) (by simp)).trans a2
  exact ⟨((((Below.refl _ w).alloc (Nat.le_refl _) _).alloc (by omega) _).alloc (by omega) _).alloc (by omega) _, d0, c1, b2, a3⟩
end Go.Proofs.Yteafdpmblbbpnaa
