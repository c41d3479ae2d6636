import Derived.Test.YtggpaljilpbmhaaGreatDoorZ10
namespace Go.Proofs.YtggpaljilpbmhaaGreatDoor
open Go.RowKit

def orE (o : Option (Int × Int)) (r : Except (Int × Int) Kn) : Except (Int × Int) Kn := match o with
 | some y => .error y
 | none => r
/-- What Verify finds. -/
def verF (p : Pv) : Except (Int × Int) Kn := orE (sizeF p) (orE (slotF p) (orE (entF p) (orE (insF p) (goF p p.n))))
/-- Shapes as they lie. -/
def Shp (w : World) (hb n : Nat) (k : Kn) : Prop := ∃ cs, w.heap[hb]? = some (.cells cs 78 (0, 0)) ∧ ∀ j, j < n → cs[j * 2]? = some (.bool (k j).isSome) ∧ cs[j * 2 + 1]? = some (.string (ktx (kin (k j))))
theorem Shp.kept {w w' : World} {hb n : Nat} {k : Kn} (h : Shp w hb n k) (hB : Below w.heap.size w w') : Shp w' hb n k := by
 obtain ⟨cs, h1, h2⟩ := h
 exact ⟨cs, (hB.block _ (block_lt h1)).trans h1, h2⟩
theorem Ft.kept {w w' : World} {v : Value} {a y : Int} (h : Ft w.heap.size w v a y) (hB : Below w.heap.size w w') : Ft w'.heap.size w' v a y := (Chain.below hB h).wide hB.size
theorem Ft.set {W : World} {v u : Value} {q : Nat} {t : TypeId} {cs : Array Value} {a y : Int} (h : Ft W.heap.size W v a y) (hq : W.heap[q]? = some (.cells cs t (0, 0))) (ht : ∀ x, cs[0]? ≠ some (.string x)) (i : Nat) : Ft (W.setCell ⟨q, i, none⟩ u).heap.size (W.setCell ⟨q, i, none⟩ u) v a y := by
 obtain ⟨g, u', hv, hg, c0, c1, c2, hr⟩ := h
 have hne : g ≠ q := fun e => by subst e; rw [block_cell hq 0] at c0; exact ht _ c0
 refine ⟨g, u', hv, by simpa using hg, ?_, ?_, ?_, hr⟩
 ·rw [World.cell?_setCell_far _ _ _ _ (by simpa using fun e => hne e.symm)]; exact c0
 ·rw [World.cell?_setCell_far _ _ _ _ (by simpa using fun e => hne e.symm)]; exact c1
 ·rw [World.cell?_setCell_far _ _ _ _ (by simpa using fun e => hne e.symm)]; exact c2
theorem asrt_nilF (w : World) : (Instr.typeAssert .nilIface 20 74 true).run Tryz.prog w = .ok (.tuple #[.pointer none, .bool false]) w := by kernel_rfl
theorem asrt_hitF (g : Nat) (w : World) : (Instr.typeAssert (.iface 74 (.pointer (some ⟨g, 0, none⟩))) 20 74 true).run Tryz.prog w = .ok (.tuple #[.pointer (some ⟨g, 0, none⟩), .bool true]) w := by kernel_rfl
/-- The deferred function, where nothing was given up. -/
theorem catch_idle (a b : Addr) (w : World) :
  CallsD Tryz.prog 60 #[.pointer (some a), .pointer (some b)] .returning w fun e u' w' => e = .returned (.tuple #[]) ∧ u' = .returning ∧ w' = w := by
 have ha := asrt_nilF w
 refine callsD_of_wpS Tryz.func60 rfl fun c₀ cs hu => ?_
 apply wpS_seq
 apply wpS_region
 simp [wpOpsS, go_sem, recoverD, hu, Tryz.ntmps60, Exit.thenS, ha]
 apply wpS_seq
 apply wpS_region
 simp [wpOpsS, go_sem, Exit.thenS]
 refine wpS_cond (t := false) (by simp [Act.eval, Array.replicate]) ?_
 simp only [Bool.false_eq_true, if_false]
 refine wpS_of_wp (wp_skip ?_)
 cases c₀
 simp_all [bodyPostS, results, Tryz.results60]
/-- The deferred function, where it was given up. -/
theorem catch_fault (a b g : Nat) (x y : Value) (w : World) (hx : w.cell? ⟨a, 0, none⟩ = some x) (hy : w.cell? ⟨b, 0, none⟩ = some y) (fx : w.frozen? ⟨a, 0, none⟩ = false) (fy : w.frozen? ⟨b, 0, none⟩ = false) (hab : ¬ a = b) :
  CallsD Tryz.prog 60 #[.pointer (some ⟨a, 0, none⟩), .pointer (some ⟨b, 0, none⟩)] (.panicking [{ v := .iface 74 (.pointer (some ⟨g, 0, none⟩)), recovered := false }]) w fun e u' w' => e = .returned (.tuple #[]) ∧ u' = .panicking [{ v := .iface 74 (.pointer (some ⟨g, 0, none⟩)), recovered := true }] ∧ w' = (w.setCell ⟨a, 0, none⟩ (.slice none 0 0)).setCell ⟨b, 0, none⟩ (.iface 74 (.pointer (some ⟨g, 0, none⟩))) := by
 have ha := asrt_hitF g w
 refine callsD_of_wpS Tryz.func60 rfl fun c₀ cs hu => ?_
 apply wpS_seq
 apply wpS_region
 simp [wpOpsS, go_sem, recoverD, hu, Tryz.ntmps60, Exit.thenS, ha]
 apply wpS_seq
 apply wpS_region
 simp [wpOpsS, go_sem, Exit.thenS]
 refine wpS_cond (t := true) (by simp [Act.eval, Array.replicate]) ?_
 simp only [if_true]
 apply wpS_region
 have hy' : (w.setCell ⟨a, 0, none⟩ (.slice none 0 0)).cell? ⟨b, 0, none⟩ = some y := by rw [World.cell?_setCell_far _ _ _ _ (by simpa using fun e => hab e)]; exact hy
 simp [wpOpsS, go_sem, hx, hy', fx, fy, bodyPostS, results, Tryz.results60, Array.replicate]
/-- What becomes of walked. -/
def Wd (W : World) (p : Pv) (r : Except (Int × Int) Kn) (e : Ending) (w' : World) : Prop := match r with
 | .ok k => ∃ hb, e = .returned (.tuple #[.slice (some ⟨hb, 0, none⟩) p.n p.n, .nilIface]) ∧ Hid (Shp w' hb p.n k ∧ Below W.heap.size W w')
 | .error (a, y) => ∃ g, e = .returned (.tuple #[.slice none 0 0, .iface 74 (.pointer (some ⟨g, 0, none⟩))]) ∧ Hid (Ft w'.heap.size w' (.iface 74 (.pointer (some ⟨g, 0, none⟩))) a y ∧ Below W.heap.size W w')
/-- The boxes of walked: the program, the results, the walk. -/
structure BxW (W : World) (b : Nat) (cs : List Value) : Prop where
 b0 : W.heap[b]? = some (.cells cs.toArray 27 (0, 0))
 b1 : W.heap[b + 1]? = some (.cells #[.slice none 0 0] 70 (0, 0))
 b2 : W.heap[b + 1 + 1]? = some (.cells #[.nilIface] 33 (0, 0))
theorem bxW_new {W W3 : World} {cs : List Value} (h : ((W.alloc (.cells cs.toArray 27)).alloc (.cells #[.slice none 0 0] 70)).alloc (.cells #[.nilIface] 33) = W3) : BxW W3 W.heap.size cs ∧ Below W.heap.size W W3 ∧ W3.heap.size = W.heap.size + 1 + 1 + 1 := by
 have e1 : (W.alloc (.cells cs.toArray 27)).heap.size = W.heap.size + 1 := by simp
 have e2 : ((W.alloc (.cells cs.toArray 27)).alloc (.cells #[.slice none 0 0] 70)).heap.size = W.heap.size + 1 + 1 := by simp
 refine ⟨⟨?_, ?_, ?_⟩, by rw [← h]; exact ((below_alloc1 W _).alloc (by simp) _).alloc (by simp; omega) _, by rw [← h]; simp⟩
 ·rw [← h]
  exact ((below_alloc1 _ _).block _ (by rw [e2]; omega)).trans (((below_alloc1 _ _).block _ (by rw [e1]; omega)).trans (alloc_atK _ _))
 ·rw [← h, ← e1]
  exact ((below_alloc1 _ _).block _ (by rw [e2, e1]; omega)).trans (alloc_atK _ _)
 ·rw [← h, ← e2]
  exact alloc_atK _ _
theorem BxW.kept {W W' : World} {b : Nat} {cs : List Value} (h : BxW W b cs) (hb : Below W.heap.size W W') : BxW W' b cs := ⟨(hb.block _ (block_lt h.b0)).trans h.b0, (hb.block _ (block_lt h.b1)).trans h.b1, (hb.block _ (block_lt h.b2)).trans h.b2⟩
theorem BxW.grown {W W' : World} {b q : Nat} {cs : List Value} (h : BxW W b cs) (hg : W.grownBy W' (some q)) (hq : b + 1 + 1 < q) : BxW W' b cs := ⟨(hg.block _ (block_lt h.b0) (by simp; omega)).trans h.b0, (hg.block _ (block_lt h.b1) (by simp; omega)).trans h.b1, (hg.block _ (block_lt h.b2) (by simp; omega)).trans h.b2⟩
/-- The end of walked where it was given up. -/
theorem walked_gave {W w5 : World} {p : Pv} {g : Nat} {cs : List Value} {a y : Int} (hx : BxW w5 W.heap.size cs) (hf : Ft w5.heap.size w5 (.iface 74 (.pointer (some ⟨g, 0, none⟩))) a y) (hB : Below W.heap.size W w5) (tmps : Array Value) (h1 : tmps[2]? = some (.pointer (some ⟨W.heap.size + 1, 0, none⟩))) (h2 : tmps[3]? = some (.pointer (some ⟨W.heap.size + 1 + 1, 0, none⟩))) :
  bodyPostD Tryz.prog Tryz.f28 (Wd W p (.error (a, y))) (.panic [{ v := .iface 74 (.pointer (some ⟨g, 0, none⟩)), recovered := false }]) { tmps := tmps, defers := [{ target := .fn (.func 60) #[.pointer (some ⟨W.heap.size + 1, 0, none⟩), .pointer (some ⟨W.heap.size + 1 + 1, 0, none⟩)], args := #[] }] } w5 := by
 have z1 := block_cell hx.b1 0
 have z2 := block_cell hx.b2 0
 simp at z1 z2
 refine leaves_cons (f := 60) (args := #[.pointer (some ⟨W.heap.size + 1, 0, none⟩), .pointer (some ⟨W.heap.size + 1 + 1, 0, none⟩)]) (by simp) (by simp [go_sem]) ?_
 refine (catch_fault _ _ g _ _ w5 z1 z2 (block_free hx.b1 0) (block_free hx.b2 0) (by omega)).mono ?_
 rintro e u' w6 ⟨rfl, rfl, hw6⟩
 have s1 := heap_setCell_same w5 (W.heap.size + 1) 0 _ _ (.slice none 0 0) hx.b1
 have k2 := ((grown_set w5 (W.heap.size + 1) 0 (.slice none 0 0)).block _ (block_lt hx.b2) (by simp)).trans hx.b2
 have s2 := heap_setCell_same _ (W.heap.size + 1 + 1) 0 _ _ (.iface 74 (.pointer (some ⟨g, 0, none⟩))) k2
 have k1 := ((grown_set (w5.setCell ⟨W.heap.size + 1, 0, none⟩ (.slice none 0 0)) (W.heap.size + 1 + 1) 0 (.iface 74 (.pointer (some ⟨g, 0, none⟩)))).block _ (block_lt s1) (by simp)).trans s1
 have d1 : w6.cell? ⟨W.heap.size + 1, 0, none⟩ = some (.slice none 0 0) := by rw [hw6, block_cell k1 0]; rfl
 have d2 : w6.cell? ⟨W.heap.size + 1 + 1, 0, none⟩ = some (.iface 74 (.pointer (some ⟨g, 0, none⟩))) := by rw [hw6, block_cell s2 0]; rfl
 have hF : Ft w6.heap.size w6 (.iface 74 (.pointer (some ⟨g, 0, none⟩))) a y := by
  rw [hw6]
  exact (hf.set hx.b1 (by simp) 0).set k2 (by simp) 0
 have hB6 : Below W.heap.size W w6 := by
  rw [hw6]
  exact (hB.setCell (p := ⟨W.heap.size + 1, 0, none⟩) (by simp) _).setCell (p := ⟨W.heap.size + 1 + 1, 0, none⟩) (by simp; omega) _
 exact ⟨.tuple #[.slice none 0 0, .iface 74 (.pointer (some ⟨g, 0, none⟩))], by simp [results, Tryz.results28, go_sem, h1, h2, d1, d2], g, rfl, hF, hB6⟩
end Go.Proofs.YtggpaljilpbmhaaGreatDoor
namespace Go.Proofs.YtggpaljilpbmhaaGreatDoor
open Go.RowKit

theorem sizeF_n {p : Pv} (h : sizeF p = none) : p.n ≤ 1024 ∧ p.ns ≤ 128 ∧ p.nc ≤ 256 := by
 unfold sizeF at h
 split at h
 ·cases h
 ·split at h
  ·cases h
  ·split at h
   ·cases h
   ·omega
set_option maxRecDepth 10000 in
set_option maxHeartbeats 6400000 in
theorem walkedC {W : World} {g : Pg} {p : Pv} (h : g.Ok p W.heap.size W) (hT : Tab W) :
  Calls Tryz.prog 28 #[.agg (g.cs p).toArray] W (Wd W p (verF p)) := by
 have hmf : ∀ (fn : Fn) (first cap : Array Value) (w : World), (Instr.makeFunc fn first cap).run Tryz.prog w = .ok (.func fn first cap) w := fun _ _ _ _ => rfl
 obtain ⟨W3, hW3⟩ : ∃ W3, ((W.alloc (.cells (g.cs p).toArray 27)).alloc (.cells #[.slice none 0 0] 70)).alloc (.cells #[.nilIface] 33) = W3 := ⟨_, rfl⟩
 have hX := bxW_new hW3
 obtain ⟨W4, hW4⟩ : ∃ W4, W3.alloc (.cells (g.cs p ++ [Value.slice none 0 0]).toArray 128) = W4 := ⟨_, rfl⟩
 have b34 : Below W3.heap.size W3 W4 := by rw [← hW4]; exact below_alloc1 W3 _
 have B4 := hide (hX.2.1.trans (b34.mono hX.2.1.size))
 have Q4 : Hid (W4.heap[W3.heap.size]? = some (.cells (g.cs p ++ [Value.slice none 0 0]).toArray 128 (0, 0))) := by rw [← hW4]; exact alloc_atK _ _
 have C4 : Hid (WC W.heap.size W4 W3.heap.size g p) := ⟨⟨_, Q4.out⟩, h.kept B4.out (Nat.le_refl _), hX.2.1.size, hT.below B4.out hT.z, hT.z, B4.out.size⟩
 have X4 := hide (hX.1.kept b34)
 obtain ⟨r, hr⟩ : ∃ r, verF p = r := ⟨_, rfl⟩
 rw [hr]
 have HR := hide hr
 have z0 := block_cell hX.1.b0 0
 have z1 := block_cell hX.1.b0 1
 have z2 := block_cell hX.1.b0 2
 have z3 := block_cell hX.1.b0 3
 have z4 := block_cell hX.1.b0 4
 have z5 := block_cell hX.1.b0 5
 have z6 := block_cell hX.1.b0 6
 have z7 := block_cell hX.1.b0 7
 have z8 := block_cell hX.1.b0 8
 have zl := block_lt hX.1.b0
 simp [Pg.cs] at z0 z1 z2 z3 z4 z5 z6 z7 z8
 have HS := hide hX.2.2
 have HW3 := hide hW3
 have HW4 := hide hW4
 clear h hT hX b34 hr hW3 hW4
 have HCS : Hid (g.cs p = [.slice g.ca p.nc g.cc, .slice g.sa p.ns g.sc, .int .i64 (p.en 0), .int .i64 (p.en 1), .int .i64 (p.en 2), .int .i64 (p.en 3), .int .i64 (p.en 4), .int .i64 (p.en 5), .slice g.ia p.n g.ic]) := rfl
 rw [HCS.out] at HW3 HW4 ⊢
 simp only [List.cons_append, List.nil_append] at HW4
 go_enter_defers Tryz.func28, Tryz.ntmps28
 go_upto_region 1 with fail
 rw [HW3.out]
 clear HW3
 go_upto_region 3 with fail
 rw [HW4.out]
 clear HW4 z0 z1 z2 z3 z4 z5 z6 z7 z8 zl
 go_wp2_with fail
 refine (checkSizesC C4.out).mono ?_
 intro e w5 hh
 cases h0 : sizeF p with
 | some y =>
  obtain ⟨a, y⟩ := y
  rw [h0] at hh
  obtain ⟨g', rfl, G⟩ := hh
  have hr : r = .error (a, y) := by rw [← HR.out]; unfold verF; rw [h0]; rfl
  subst hr
  have HD := hide (walked_gave (p := p) (X4.out.kept G.out.2) G.out.1 (B4.out.trans (G.out.2.mono B4.out.size)))
  go_wp2
  exact HD.out _ rfl rfl
 | none =>
 rw [h0] at hh
 obtain ⟨rfl, G5⟩ := hh
 have C5 := hide (C4.out.kept G5.out)
 have X5 := hide (X4.out.kept G5.out)
 have B5 := hide (B4.out.trans (G5.out.mono B4.out.size))
 have Q5 := hide ((G5.out.block _ (block_lt Q4.out)).trans Q4.out)
 go_wp2_with fail
 refine (checkSlotsC C5.out).mono ?_
 intro e w6 hh
 cases h1 : slotF p with
 | some y =>
  obtain ⟨a, y⟩ := y
  rw [h1] at hh
  obtain ⟨g', rfl, G⟩ := hh
  have hr : r = .error (a, y) := by rw [← HR.out]; unfold verF; rw [h0, h1]; rfl
  subst hr
  have HD := hide (walked_gave (p := p) (X5.out.kept G.out.2) G.out.1 (B5.out.trans (G.out.2.mono B5.out.size)))
  go_wp2
  exact HD.out _ rfl rfl
 | none =>
 rw [h1] at hh
 obtain ⟨rfl, G6⟩ := hh
 have C6 := hide (C5.out.kept G6.out)
 have X6 := hide (X5.out.kept G6.out)
 have B6 := hide (B5.out.trans (G6.out.mono B5.out.size))
 have Q6 := hide ((G6.out.block _ (block_lt Q5.out)).trans Q5.out)
 go_wp2_with fail
 refine (checkEntriesC C6.out).mono ?_
 intro e w7 hh
 cases h2 : entF p with
 | some y =>
  obtain ⟨a, y⟩ := y
  rw [h2] at hh
  obtain ⟨g', rfl, G⟩ := hh
  have hr : r = .error (a, y) := by rw [← HR.out]; unfold verF; rw [h0, h1, h2]; rfl
  subst hr
  have HD := hide (walked_gave (p := p) (X6.out.kept G.out.2) G.out.1 (B6.out.trans (G.out.2.mono B6.out.size)))
  go_wp2
  exact HD.out _ rfl rfl
 | none =>
 rw [h2] at hh
 obtain ⟨rfl, G7⟩ := hh
 have C7 := hide (C6.out.kept G7.out)
 have X7 := hide (X6.out.kept G7.out)
 have B7 := hide (B6.out.trans (G7.out.mono B6.out.size))
 have Q7 := hide ((G7.out.block _ (block_lt Q6.out)).trans Q6.out)
 go_wp2_with fail
 refine (checkInsC C7.out).mono ?_
 intro e w8 hh
 cases h3 : insF p with
 | some y =>
  obtain ⟨a, y⟩ := y
  rw [h3] at hh
  obtain ⟨g', rfl, G⟩ := hh
  have hr : r = .error (a, y) := by rw [← HR.out]; unfold verF; rw [h0, h1, h2, h3]; rfl
  subst hr
  have HD := hide (walked_gave (p := p) (X7.out.kept G.out.2) G.out.1 (B7.out.trans (G.out.2.mono B7.out.size)))
  go_wp2
  exact HD.out _ rfl rfl
 | none =>
 rw [h3] at hh
 obtain ⟨rfl, G8⟩ := hh
 have C8 := hide (C7.out.kept G8.out)
 have X8 := hide (X7.out.kept G8.out)
 have B8 := hide (B7.out.trans (G8.out.mono B7.out.size))
 have Q8 := hide ((G8.out.block _ (block_lt Q7.out)).trans Q7.out)
 go_wp2_with fail
 have hz := sizeF_n h0
 have HGT := hide (goThroughC C8.out Q8.out hz.1 h2 h3)
 refine HGT.out.mono ?_
 intro e w9 hh
 have hr : r = goF p p.n := by rw [← HR.out]; unfold verF; rw [h0, h1, h2, h3]; rfl
 cases h4 : goF p p.n with
 | error y =>
  obtain ⟨a, y⟩ := y
  rw [h4] at hh hr
  obtain ⟨g', rfl, G⟩ := hh
  subst hr
  have HD := hide (walked_gave (p := p) (X8.out.grown G.out.2 (by rw [HS.out]; omega)) G.out.1 (B8.out.trans (below_of_grown G.out.2 (by rw [HS.out]; omega) B8.out.size)))
  go_wp2
  exact HD.out _ rfl rfl
 | ok k =>
  rw [h4] at hh hr
  obtain ⟨rfl, G⟩ := hh
  subst hr
  obtain ⟨hb, hk, hg, hlt⟩ := G.out
  have hq : W.heap.size + 1 + 1 < W3.heap.size := by rw [HS.out]; omega
  have X9 := X8.out.grown hg hq
  have B9 := B8.out.trans (below_of_grown hg (by omega) B8.out.size)
  have hB8 := B8.out.size
  have hS8 := block_lt X8.out.b2
  obtain ⟨_, _, _, c9, ql⟩ := hk.cells
  have z1 := block_cell X9.b1 0
  have z2 := block_cell X9.b2 0
  have f1 := block_free X9.b1 0
  have f2 := block_free X9.b2 0
  have l1 := block_lt X9.b1
  have l2 := block_lt X9.b2
  simp at z1 z2
  have HD : Hid (∀ W10, (w9.setCell ⟨W.heap.size + 1, 0, none⟩ (.slice (some ⟨hb, 0, none⟩) p.n p.n)).setCell ⟨W.heap.size + 1 + 1, 0, none⟩ .nilIface = W10 → Shp W10 hb p.n k ∧ Below W.heap.size W W10 ∧ W10.cell? ⟨W.heap.size + 1, 0, none⟩ = some (.slice (some ⟨hb, 0, none⟩) p.n p.n) ∧ W10.cell? ⟨W.heap.size + 1 + 1, 0, none⟩ = some .nilIface) := by
   intro W10 hW
   have s1 := heap_setCell_same w9 (W.heap.size + 1) 0 _ _ (.slice (some ⟨hb, 0, none⟩) p.n p.n) X9.b1
   have k2 := ((grown_set w9 (W.heap.size + 1) 0 (.slice (some ⟨hb, 0, none⟩) p.n p.n)).block _ (block_lt X9.b2) (by simp)).trans X9.b2
   have s2 := heap_setCell_same _ (W.heap.size + 1 + 1) 0 _ _ .nilIface k2
   have k1 := ((grown_set (w9.setCell ⟨W.heap.size + 1, 0, none⟩ (.slice (some ⟨hb, 0, none⟩) p.n p.n)) (W.heap.size + 1 + 1) 0 .nilIface).block _ (block_lt s1) (by simp)).trans s1
   obtain ⟨cs, r1, r2⟩ := hk.row
   have n1 : hb ≠ W.heap.size + 1 := by omega
   have n2 : hb ≠ W.heap.size + 1 + 1 := by omega
   have r3 := ((grown_set w9 (W.heap.size + 1) 0 (.slice (some ⟨hb, 0, none⟩) p.n p.n)).block _ (block_lt r1) (by simpa using n1)).trans r1
   have r4 := ((grown_set (w9.setCell ⟨W.heap.size + 1, 0, none⟩ (.slice (some ⟨hb, 0, none⟩) p.n p.n)) (W.heap.size + 1 + 1) 0 .nilIface).block _ (block_lt r3) (by simpa using n2)).trans r3
   rw [hW] at k1 s2 r4
   refine ⟨⟨cs, r4, r2⟩, ?_, ?_, ?_⟩
   ·rw [← hW]
    exact (B9.setCell (p := ⟨W.heap.size + 1, 0, none⟩) (by simp) _).setCell (p := ⟨W.heap.size + 1 + 1, 0, none⟩) (by simp; omega) _
   ·rw [block_cell k1 0]; rfl
   ·rw [block_cell s2 0]; rfl
  clear hk hg X9 B9 G X8 B8
  go_upto_region 8 with fail
  go_wp2
  obtain ⟨W10, hW10⟩ : ∃ W10, (w9.setCell ⟨W.heap.size + 1, 0, none⟩ (.slice (some ⟨hb, 0, none⟩) p.n p.n)).setCell ⟨W.heap.size + 1 + 1, 0, none⟩ .nilIface = W10 := ⟨_, rfl⟩
  obtain ⟨hsh, hB10, d1, d2⟩ := HD.out W10 hW10
  rw [hW10]
  refine leaves_cons (f := 60) (args := #[.pointer (some ⟨W.heap.size + 1, 0, none⟩), .pointer (some ⟨W.heap.size + 1 + 1, 0, none⟩)]) (by simp) (by simp [go_sem]) ?_
  refine (catch_idle _ _ W10).mono ?_
  rintro e u' w11 ⟨rfl, rfl, hw11⟩
  rw [hw11]
  exact ⟨.tuple #[.slice (some ⟨hb, 0, none⟩) p.n p.n, .nilIface], by simp [results, Tryz.results28, go_sem, d1, d2], hb, rfl, hsh, hB10⟩
end Go.Proofs.YtggpaljilpbmhaaGreatDoor
