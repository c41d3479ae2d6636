import Derived.Test.YthfbimbadkmhhaaMGK
import Derived.Test.YthfbimbadkmhhaaMGI
import Derived.Test.YthfbimbadkmhhaaMGD
import Derived.Test.YthfbimbadkmhhaaMGC
import Derived.Test.YthfbimbadkmhhaaMGF
namespace Go.Proofs.Ythfbimbadkmhhaa
open Go.RowKit Crc

/-- A command that is copied byte by byte: the first j. -/
structure Cw (W : World) (C : List Nat) (j : Nat) (v : Value) (wr : World) : Prop where
  bel : Below W.heap.size W wr
  row : wr.ownsRow W.heap.size 5 1 v j (vals (C.take j))
theorem Cw.form {W : World} {C : List Nat} {j : Nat} {v : Value} {wr : World} (h : Cw W C j v wr) : ∃ ao cap, v = .slice ao j cap := by
  rcases h.row.2 with ⟨rfl, h0⟩ | ⟨g, cap, cur, rfl, _⟩
  · exact ⟨none, 0, by rw [h0]⟩
  · exact ⟨_, cap, rfl⟩
theorem Cw.next {W : World} {C : List Nat} {j : Nat} {v v' : Value} {wr w2 : World} {o : Obj} (h : Cw W C j v wr) (hj : j < C.length) (ho : w2.ownsRow W.heap.size 5 1 v' (j + 1) (vals (C.take j) ++ [.int .u8 ((C.getD j 0 : Nat) : Int)])) (hg : (wr.alloc o).grownBy w2 v.ownBlock) : Cw W C (j + 1) v' w2 := by
  refine ⟨?_, by rw [take_snoc C j hj, vals_append, vals_one]; exact ho⟩
  have hA := World.grownBy_alloc wr o none
  have f : Fe W (wr.alloc o) (fun _ => False) := (Fe.below h.bel _).trans (Fe.grown hA (T := fun _ => False) (fun y e => by cases e)) (fun _ _ e => e)
  have f2 : Fe W w2 (fun b => v.ownBlock = some b) := (f.wide (fun _ e => e.elim)).trans (Fe.grown hg (fun y e => e)) (fun _ _ e => e)
  exact f2.toBelow _ (Nat.le_refl _) (fun j e => (h.row.lt j e).1)
/-- What CopyBatch of one request gives. -/
def CopyB (w : World) (cl sq cn : Nat) (C : List Nat) (g cp : Nat) (w' : World) : Prop := Below w.heap.size w w' ∧ g < w'.heap.size ∧ ∃ ao cap, w'.cell? ⟨g, 0, none⟩ = some (.int .u64 (cl : Int)) ∧ w'.cell? ⟨g, 1, none⟩ = some (.int .u64 (sq : Int)) ∧ w'.cell? ⟨g, 2, none⟩ = some (.slice ao cn cap) ∧ Cq w.heap.size w' (Rq.mk cl sq ao cn cap C) ∧ 1 ≤ cp
theorem cp_fin {w W3 W4 wr w2 : World} {cl sq k : Nat} {C : List Nat} {ao : Option Addr} {cp g' cap' : Nat} {o : Obj} {u : Value} (B3 : Below w.heap.size w W3) (B4 : Below W3.heap.size W3 W4) (s3 : W3.heap.size = w.heap.size + 3) (s4 : W4.heap.size = w.heap.size + 4) (hcl : cl < 18446744073709551616) (hsq : sq < 18446744073709551616) (hC : ∀ x ∈ C, x < 256) (hk : k = C.length) (hkl : k ≤ 140737488355328)
    (h : Cw W4 C k (.slice ao k cp) wr) (ho : w2.ownsRow 0 37 3 (.slice (some ⟨g', 0, none⟩) 1 cap') 1 [.int .u64 (cl : Int), .int .u64 (sq : Int), .slice ao k cp]) (hg : ((wr.setCell ⟨W3.heap.size, 2, none⟩ u).alloc o).grownBy w2 none) (hv : g' = ((wr.setCell ⟨W3.heap.size, 2, none⟩ u).alloc o).heap.size) (x1 x2 x3 : Value) :
    CopyB w cl sq k C g' cap' (((w2.setCell ⟨w.heap.size + 1 + 1, 1, none⟩ x1).setCell ⟨w.heap.size + 1, 0, none⟩ x2).setCell ⟨w.heap.size + 1, 1, none⟩ x3) := by
  have sW := h.bel.size
  have sA : ((wr.setCell ⟨W3.heap.size, 2, none⟩ u).alloc o).heap.size = wr.heap.size + 1 := by simp
  have f0 : Fe w wr (fun _ => False) := (Fe.below B3 _).trans ((Fe.below B4 _).trans (Fe.below h.bel _) (fun _ _ e => e)) (fun _ _ e => e)
  have f1 : Fe wr (wr.setCell ⟨W3.heap.size, 2, none⟩ u) (fun b => b = W3.heap.size) := Fe.grown (grown_set _ _ 2 _) (fun y e => by cases e; rfl)
  have f2 : Fe (wr.setCell ⟨W3.heap.size, 2, none⟩ u) w2 (fun _ => False) := (Fe.grown (World.grownBy_alloc _ o none) (T := fun _ => False) (fun y e => by cases e)).trans (Fe.grown hg (T := fun _ => False) (fun y e => by cases e)) (fun _ _ e => e)
  have f3 : Fe w2 (w2.setCell ⟨w.heap.size + 1 + 1, 1, none⟩ x1) (fun b => b = w.heap.size + 1 + 1) := Fe.grown (grown_set _ _ 1 _) (fun y e => by cases e; rfl)
  have f4 : Fe (w2.setCell ⟨w.heap.size + 1 + 1, 1, none⟩ x1) ((w2.setCell ⟨w.heap.size + 1 + 1, 1, none⟩ x1).setCell ⟨w.heap.size + 1, 0, none⟩ x2) (fun b => b = w.heap.size + 1) := Fe.grown (grown_set _ _ 0 _) (fun y e => by cases e; rfl)
  have f5 : Fe ((w2.setCell ⟨w.heap.size + 1 + 1, 1, none⟩ x1).setCell ⟨w.heap.size + 1, 0, none⟩ x2) (((w2.setCell ⟨w.heap.size + 1 + 1, 1, none⟩ x1).setCell ⟨w.heap.size + 1, 0, none⟩ x2).setCell ⟨w.heap.size + 1, 1, none⟩ x3) (fun b => b = w.heap.size + 1) := Fe.grown (grown_set _ _ 1 _) (fun y e => by cases e; rfl)
  have wide : ∀ {a b : World} {T : Nat → Prop}, Fe a b T → (∀ j, T j → w.heap.size ≤ j) → Fe a b (fun j => w.heap.size ≤ j) := fun f ht => f.wide ht
  have fA : Fe w (((w2.setCell ⟨w.heap.size + 1 + 1, 1, none⟩ x1).setCell ⟨w.heap.size + 1, 0, none⟩ x2).setCell ⟨w.heap.size + 1, 1, none⟩ x3) (fun j => w.heap.size ≤ j) :=
    (wide f0 (fun _ e => e.elim)).trans ((wide f1 (fun j e => by omega)).trans ((wide f2 (fun _ e => e.elim)).trans ((wide f3 (fun j e => by omega)).trans ((wide f4 (fun j e => by omega)).trans (wide f5 (fun j e => by omega)) (fun _ _ e => e)) (fun _ _ e => e)) (fun _ _ e => e)) (fun _ _ e => e)) (fun _ _ e => e)
  have ow : Owns W4.heap.size wr (.slice ao k cp) C := by
    refine ⟨?_, hC, by omega⟩
    have := h.row
    rw [List.take_of_length_le (by omega)] at this
    rw [← hk]
    exact this
  have obl : ∀ b, (Value.slice ao k cp).ownBlock = some b → W4.heap.size ≤ b := fun b e => (h.row.lt b e).1
  have ow' := (((((ow.fe f1 (fun b e e2 => by have := obl b e; omega)).fe f2 (fun _ _ e => e)).fe f3 (fun b e e2 => by have := obl b e; omega)).fe f4 (fun b e e2 => by have := obl b e; omega)).fe f5 (fun b e e2 => by have := obl b e; omega))
  have hg2 : g' < w2.heap.size := (ho.lt g' rfl).2
  have ro' := (row_fe (row_fe (row_fe ho f3 (fun b e e2 => by have e3 : b = g' := by simpa [Value.ownBlock] using e.symm
                                                              omega)) f4 (fun b e e2 => by have e3 : b = g' := by simpa [Value.ownBlock] using e.symm
                                                                                           omega)) f5 (fun b e e2 => by have e3 : b = g' := by simpa [Value.ownBlock] using e.symm
                                                                                                                        omega))
  have c0 := ro'.cellAt 0 (by omega)
  have c1 := ro'.cellAt 1 (by omega)
  have c2 := ro'.cellAt 2 (by omega)
  refine ⟨fA.toBelow _ (Nat.le_refl _) (fun j e => e), by simpa using hg2, ao, cp, by simpa using c0, by simpa using c1, by simpa using c2, ⟨hcl, hsq, ow'.lower (by omega), hk⟩, ?_⟩
  · rcases ho.2 with ⟨e, _⟩ | ⟨_, _, _, e, _, _, h4, _⟩
    · cases e
    · cases e; exact h4
end Go.Proofs.Ythfbimbadkmhhaa
namespace Go.Proofs.Ythfbimbadkmhhaa
open Go.RowKit Crc

set_option maxRecDepth 10000 in
set_option maxHeartbeats 3200000 in
theorem recoverE (c : Cf) (hin : c.In) (hk : badOf c.oks = -1) (hok : c.Ok) (me : Nat) (hme : (me : Int) < 2 * c.f + 1) (hem : c.em ≤ 100000) (hep : 1 ≤ c.ep) (hpe : c.ep ≤ c.em) (now : Nat) (hnow : now ≤ 1099511627776) (w : World) :
    Calls Try.prog 12 #[.agg c.cells, .int .i64 (me : Nat), .int .u64 (now : Nat), .slice none 0 0] w fun e w' => ∃ eb g, e = .returned (.tuple #[.pointer (some ⟨eb, 0, none⟩), .nilIface]) ∧ Hid (∃ fp x, EL w' eb g c me fp x ∧ x.abs = ⟨1, 0, 0, c.ep, addB now c.ep 1099511627776, [], []⟩ ∧ Below w.heap.size w w' ∧ w.heap.size ≤ eb ∧ ∀ b, fp b → w.heap.size ≤ b) := by
  obtain ⟨W1, hW1⟩ : ∃ W1, w.alloc (.cells c.cells 25) = W1 := ⟨_, rfl⟩
  have B1 : Hid (Below w.heap.size w W1) := by rw [← hW1]; exact (Below.refl _ w).alloc (Nat.le_refl _) _
  have C1 : Hid (W1.heap[w.heap.size]? = some (.cells c.cells 25 (0, 0))) := by rw [← hW1]; exact alloc_atK _ _
  obtain ⟨z0, z1, z2, z3, z4, z5, z6, z7, z8, z9⟩ := cfg_cells C1.out
  have HNW : Hid (Calls Try.prog 23 #[.agg c.cells] W1 fun e w' => ∃ g, e = .returned (.tuple #[.pointer (some ⟨g, 0, none⟩), .nilIface]) ∧ Hid (Below W1.heap.size W1 w' ∧ w'.heap[g]? = some (.cells c.cells 101 (0, 0)))) := (newP_ok c hin hk W1).mono fun e w' ⟨a, ⟨ev, h1, h2⟩, h3⟩ => by
    obtain ⟨g, rfl, hg⟩ := h3.out
    rcases h2.out.1 with ⟨rfl, _⟩ | ⟨_, h, _⟩
    · exact ⟨g, h1, h2.out.2, hg⟩
    · simp at h
  have HND : Hid (∀ (w2 : World) (g : Nat), w2.heap[g]? = some (.cells c.cells 101 (0, 0)) → Calls Try.prog 25 #[.pointer (some ⟨g, 0, none⟩), .int .i64 (me : Nat)] w2 fun e w' => e = .returned (.bool true) ∧ w' = w2) := fun w2 g hg => by
    have h := node_live (me : Int) (⟨g, rfl, hg⟩ : PG w2 (some ⟨g, 0, none⟩) c) hok
    have e : c.node (me : Int) = true := by unfold Cf.node; exact decide_eq_true ⟨by omega, hme⟩
    rw [e] at h
    exact h
  have HBG : Hid (∀ (w2 : World) (g : Nat), Below W1.heap.size W1 w2 → w2.heap[g]? = some (.cells c.cells 101 (0, 0)) → Calls Try.prog 29 #[.pointer (some ⟨w2.heap.size, 0, none⟩), .int .u64 (now : Nat)] (w2.alloc (.cells #[.pointer (some ⟨g, 0, none⟩), .int .i64 (me : Nat), .int .u64 1, .int .i64 0, .int .u32 0, .int .u64 (c.ep : Nat), .int .u64 0, .slice none 0 0, .slice none 0 0] 69)) fun e w' => e = .returned (.tuple #[]) ∧ Hid (∃ fp x, EL w' w2.heap.size g c me fp x ∧ x.abs = ⟨1, 0, 0, c.ep, addB now c.ep 1099511627776, [], []⟩ ∧ Below w.heap.size w w' ∧ w.heap.size ≤ w2.heap.size ∧ ∀ b, fp b → w.heap.size ≤ b)) := fun w2 g hb hg => by
    have hb1 := B1.out.trans (hb.mono B1.out.size)
    have hg1 := World.grownBy_alloc w2 (.cells #[.pointer (some ⟨g, 0, none⟩), .int .i64 (me : Nat), .int .u64 1, .int .i64 0, .int .u32 0, .int .u64 (c.ep : Nat), .int .u64 0, .slice none 0 0, .slice none 0 0] 69) none
    have hE : EL (w2.alloc (.cells #[.pointer (some ⟨g, 0, none⟩), .int .i64 (me : Nat), .int .u64 1, .int .i64 0, .int .u32 0, .int .u64 (c.ep : Nat), .int .u64 0, .slice none 0 0, .slice none 0 0] 69)) w2.heap.size g c me (fun _ => False) ⟨1, 0, 0, c.ep, 0, none, 0, [], none, 0, []⟩ := by
      refine ⟨alloc_atK _ _, (hg1.block _ (block_lt hg) (by simp)).trans hg, Qs.nil _ _, Qs.nil _ _, fun b e => (by cases e), fun b e => e.elim, fun e => e, fun e => e, Nat.le_refl _, ?_, by show 0 < _; decide, hep, hpe, by show 0 ≤ _; decide⟩
      show c.valid 1 0 = true
      unfold Cf.valid Cf.node
      rw [if_neg (by decide)]
      have := hok.mn1
      have := hok.f1
      simp
      omega
    refine (beginE hE hem now (by omega)).mono ?_
    rintro e w' ⟨rfl, d⟩
    obtain ⟨fp', x, d1, d2, d3, d4⟩ := d.out
    have hbA := hb1.alloc hb1.size (.cells #[.pointer (some ⟨g, 0, none⟩), .int .i64 (me : Nat), .int .u64 1, .int .i64 0, .int .u32 0, .int .u64 (c.ep : Nat), .int .u64 0, .slice none 0 0, .slice none 0 0] 69)
    refine ⟨rfl, fp', x, d1, d2, hbA.trans (d3.toBelow _ (by simp; have := hb1.size; omega) ?_), hb1.size, fun b hb' => ?_⟩
    · rintro j (e | e)
      · rw [e]; exact hb1.size
      · exact e.elim
    · rcases d4 b hb' with e | e
      · exact e.elim
      · have := hb1.size; simp at e; omega
  have hlo : decide ((1099511627776 : Int) < (now : Int)) = false := decide_eq_false (by omega)
  clear hin hk hok hme hem hep hpe hnow
  unfold Cf.cells at *
  generalize c.f = f at *
  generalize c.mb = mb at *
  generalize (c.delay : Int) = d at *
  generalize (c.win : Int) = wn at *
  generalize (c.every : Int) = ev at *
  generalize (c.beat : Int) = bt at *
  generalize hepi : (c.ep : Int) = ep at *
  generalize (c.em : Int) = em at *
  generalize (c.mn : Int) = mn at *
  generalize (c.ms : Int) = ms at *
  clear hepi
  generalize (me : Int) = mi at *
  generalize (now : Int) = nw at *
  have HW1 := hide hW1
  clear hW1
  go_enter Try.func12, Try.ntmps12
  go_upto_region 1 with fail
  rw [HW1.out]
  clear HW1
  go_wp2_with fail
  refine HNW.out.mono ?_
  rintro e w2 ⟨g, rfl, G2⟩
  have CB := hide ((G2.out.1.block _ (block_lt C1.out)).trans C1.out)
  have HN2 := hide (HND.out w2 g G2.out.2)
  have HB2 := hide (HBG.out w2 g G2.out.1 G2.out.2)
  clear z0 z1 z2 z3 z4 z5 z6 z7 z8 z9 HNW G2 C1 B1 HND HBG
  have z6 : w2.cell? ⟨w.heap.size, 6, none⟩ = some (.int .u64 ep) := block_cell CB.out 6
  have zl := block_lt CB.out
  go_wp2_with (go_at_call 25; refine HN2.out.mono ?_; rintro e w3 ⟨rfl, hVV⟩; have hVW := hVV.symm; clear hVV; subst hVW)
  refine wp_loop_rounds 1 ?_
  unfold Code.rounds
  go_wp2_with (go_at_call 29; refine HB2.out.mono ?_; rintro e w4 ⟨rfl, D⟩)
  go_ret2
  exact ⟨_, g, rfl, D.out⟩
set_option maxRecDepth 10000 in
set_option maxHeartbeats 1600000 in
theorem newE (c : Cf) (hin : c.In) (hk : badOf c.oks = -1) (hok : c.Ok) (me : Nat) (hme : (me : Int) < 2 * c.f + 1) (hem : c.em ≤ 100000) (hep : 1 ≤ c.ep) (hpe : c.ep ≤ c.em) (now : Nat) (hnow : now ≤ 1099511627776) (w : World) :
    Calls Try.prog 5 #[.agg c.cells, .int .i64 (me : Nat), .int .u64 (now : Nat)] w fun e w' => ∃ eb g, e = .returned (.tuple #[.pointer (some ⟨eb, 0, none⟩), .nilIface]) ∧ Hid (∃ fp x, EL w' eb g c me fp x ∧ x.abs = ⟨1, 0, 0, c.ep, addB now c.ep 1099511627776, [], []⟩ ∧ Below w.heap.size w w' ∧ w.heap.size ≤ eb ∧ ∀ b, fp b → w.heap.size ≤ b) := by
  obtain ⟨W1, hW1⟩ : ∃ W1, w.alloc (.cells c.cells 25) = W1 := ⟨_, rfl⟩
  have B1 : Hid (Below w.heap.size w W1) := by rw [← hW1]; exact (Below.refl _ w).alloc (Nat.le_refl _) _
  have C1 : Hid (W1.heap[w.heap.size]? = some (.cells c.cells 25 (0, 0))) := by rw [← hW1]; exact alloc_atK _ _
  obtain ⟨z0, z1, z2, z3, z4, z5, z6, z7, z8, z9⟩ := cfg_cells C1.out
  have HR : Hid (Calls Try.prog 12 #[.agg c.cells, .int .i64 (me : Nat), .int .u64 (now : Nat), .slice none 0 0] W1 fun e w' => ∃ eb g, e = .returned (.tuple #[.pointer (some ⟨eb, 0, none⟩), .nilIface]) ∧ Hid (∃ fp x, EL w' eb g c me fp x ∧ x.abs = ⟨1, 0, 0, c.ep, addB now c.ep 1099511627776, [], []⟩ ∧ Below w.heap.size w w' ∧ w.heap.size ≤ eb ∧ ∀ b, fp b → w.heap.size ≤ b)) := by
    refine (recoverE c hin hk hok me hme hem hep hpe now hnow W1).mono ?_
    rintro e w' ⟨eb, g, rfl, D⟩
    obtain ⟨fp, x, d1, d2, d3, d4, d5⟩ := D.out
    have := B1.out.size
    exact ⟨eb, g, rfl, fp, x, d1, d2, B1.out.trans (d3.mono B1.out.size), by omega, fun b hb => by have := d5 b hb; omega⟩
  clear hin hk hok hme hem hep hpe hnow
  unfold Cf.cells at *
  generalize c.f = f at *
  generalize c.mb = mb at *
  generalize (c.delay : Int) = d at *
  generalize (c.win : Int) = wn at *
  generalize (c.every : Int) = ev at *
  generalize (c.beat : Int) = bt at *
  generalize hepi : (c.ep : Int) = ep at *
  generalize (c.em : Int) = em at *
  generalize (c.mn : Int) = mn at *
  generalize (c.ms : Int) = ms at *
  clear hepi
  generalize (me : Int) = mi at *
  generalize (now : Int) = nw at *
  have HW1 := hide hW1
  clear hW1
  go_enter Try.func5, Try.ntmps5
  go_upto_region 1 with fail
  rw [HW1.out]
  clear HW1
  go_wp2_with fail
  refine HR.out.mono ?_
  rintro e w2 ⟨eb, g, rfl, D⟩
  go_wp2
  go_ret2
  exact ⟨_, g, rfl, D.out⟩
end Go.Proofs.Ythfbimbadkmhhaa
