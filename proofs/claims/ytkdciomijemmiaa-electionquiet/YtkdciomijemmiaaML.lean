import Derived.Test.YtkdciomijemmiaaMB
import Derived.Test.YtkdciomijemmiaaBPf
import Derived.Test.YtkdciomijemmiaaBGs
import Derived.Test.YtkdciomijemmiaaBPh
namespace Go.Proofs.Ytkdciomijemmiaa
open Go.RowKit Crc

set_option maxRecDepth 10000 in
set_option maxHeartbeats 3200000 in
theorem recoverE (c : Cf) (hin : c.In) (hk : badOf c.oks = -1) (hok : c.Ok) (me : Nat) (hme : (me : Int) < 2 * c.f + 1) (hem : c.em ≤ 100000) (hep : 1 ≤ c.ep) (hpe : c.ep ≤ c.em) (now : Nat) (hnow : now ≤ 1099511627776) (w : World) :
    Calls Try.prog 24 #[.agg c.cells, .int .i64 (me : Nat), .int .u64 (now : Nat), .slice none 0 0] w fun e w' => ∃ eb g, e = .returned (.tuple #[.pointer (some ⟨eb, 0, none⟩), .nilIface]) ∧ Hid (∃ fp x, EL w' eb g c me fp x ∧ x.abs = ⟨1, 0, 0, c.ep, addB now c.ep 1099511627776, [], []⟩ ∧ Below w.heap.size w w' ∧ w.heap.size ≤ eb ∧ ∀ b, fp b → w.heap.size ≤ b) := by
  obtain ⟨W1, hW1⟩ : ∃ W1, w.alloc (.cells c.cells 26) = W1 := ⟨_, rfl⟩
  have B1 : Hid (Below w.heap.size w W1) := by rw [← hW1]; exact (Below.refl _ w).alloc (Nat.le_refl _) _
  have C1 : Hid (W1.heap[w.heap.size]? = some (.cells c.cells 26 (0, 0))) := by rw [← hW1]; exact alloc_atK _ _
  obtain ⟨z0, z1, z2, z3, z4, z5, z6, z7, z8, z9⟩ := cfg_cells C1.out
  have HNW : Hid (Calls Try.prog 42 #[.agg c.cells] W1 fun e w' => ∃ g, e = .returned (.tuple #[.pointer (some ⟨g, 0, none⟩), .nilIface]) ∧ Hid (Below W1.heap.size W1 w' ∧ w'.heap[g]? = some (.cells c.cells 105 (0, 0)))) := (newP_ok c hin hk W1).mono fun e w' ⟨a, ⟨ev, h1, h2⟩, h3⟩ => by
    obtain ⟨g, rfl, hg⟩ := h3.out
    rcases h2.out.1 with ⟨rfl, _⟩ | ⟨_, h, _⟩
    · exact ⟨g, h1, h2.out.2, hg⟩
    · simp at h
  have HND : Hid (∀ (w2 : World) (g : Nat), w2.heap[g]? = some (.cells c.cells 105 (0, 0)) → Calls Try.prog 44 #[.pointer (some ⟨g, 0, none⟩), .int .i64 (me : Nat)] w2 fun e w' => e = .returned (.bool true) ∧ w' = w2) := fun w2 g hg => by
    have h := node_live (me : Int) (⟨g, rfl, hg⟩ : PG w2 (some ⟨g, 0, none⟩) c) hok
    have e : c.node (me : Int) = true := by unfold Cf.node; exact decide_eq_true ⟨by omega, hme⟩
    rw [e] at h
    exact h
  have HBG : Hid (∀ (w2 : World) (g : Nat), Below W1.heap.size W1 w2 → w2.heap[g]? = some (.cells c.cells 105 (0, 0)) → Calls Try.prog 34 #[.pointer (some ⟨w2.heap.size, 0, none⟩), .int .u64 (now : Nat)] (w2.alloc (.cells #[.pointer (some ⟨g, 0, none⟩), .int .i64 (me : Nat), .int .u64 1, .int .i64 0, .int .u32 0, .int .u64 (c.ep : Nat), .int .u64 0, .slice none 0 0, .slice none 0 0] 81)) fun e w' => e = .returned (.tuple #[]) ∧ Hid (∃ fp x, EL w' w2.heap.size g c me fp x ∧ x.abs = ⟨1, 0, 0, c.ep, addB now c.ep 1099511627776, [], []⟩ ∧ Below w.heap.size w w' ∧ w.heap.size ≤ w2.heap.size ∧ ∀ b, fp b → w.heap.size ≤ b)) := fun w2 g hb hg => by
    have hb1 := B1.out.trans (hb.mono B1.out.size)
    have hg1 := World.grownBy_alloc w2 (.cells #[.pointer (some ⟨g, 0, none⟩), .int .i64 (me : Nat), .int .u64 1, .int .i64 0, .int .u32 0, .int .u64 (c.ep : Nat), .int .u64 0, .slice none 0 0, .slice none 0 0] 81) none
    have hE : EL (w2.alloc (.cells #[.pointer (some ⟨g, 0, none⟩), .int .i64 (me : Nat), .int .u64 1, .int .i64 0, .int .u32 0, .int .u64 (c.ep : Nat), .int .u64 0, .slice none 0 0, .slice none 0 0] 81)) w2.heap.size g c me (fun _ => False) ⟨1, 0, 0, c.ep, 0, none, 0, [], none, 0, []⟩ := by
      refine ⟨alloc_atK _ _, (hg1.block _ (block_lt hg) (by simp)).trans hg, Qs.nil _ _, Qs.nil _ _, fun b e => (by cases e), fun b e => e.elim, fun e => e, fun e => e, Nat.le_refl _, ?_, by show 0 < _; decide, hep, hpe, by show 0 ≤ _; decide⟩
      show c.valid 1 0 = true
      unfold Cf.valid Cf.node
      rw [if_neg (by decide)]
      have := hok.mn1
      have := hok.f1
      simp
      omega
    refine (beginE hE hem now (by omega)).mono ?_
    rintro e w' ⟨rfl, d⟩
    obtain ⟨fp', x, d1, d2, d3, d4⟩ := d.out
    have hbA := hb1.alloc hb1.size (.cells #[.pointer (some ⟨g, 0, none⟩), .int .i64 (me : Nat), .int .u64 1, .int .i64 0, .int .u32 0, .int .u64 (c.ep : Nat), .int .u64 0, .slice none 0 0, .slice none 0 0] 81)
    refine ⟨rfl, fp', x, d1, d2, hbA.trans (d3.toBelow _ (by simp; have := hb1.size; omega) ?_), hb1.size, fun b hb' => ?_⟩
    · rintro j (e | e)
      · rw [e]; exact hb1.size
      · exact e.elim
    · rcases d4 b hb' with e | e
      · exact e.elim
      · have := hb1.size; simp at e; omega
  have hlo : decide ((1099511627776 : Int) < (now : Int)) = false := decide_eq_false (by omega)
  clear hin hk hok hme hem hep hpe hnow
  unfold Cf.cells at *
  generalize c.f = f at *
  generalize c.mb = mb at *
  generalize (c.delay : Int) = d at *
  generalize (c.win : Int) = wn at *
  generalize (c.every : Int) = ev at *
  generalize (c.beat : Int) = bt at *
  generalize hepi : (c.ep : Int) = ep at *
  generalize (c.em : Int) = em at *
  generalize (c.mn : Int) = mn at *
  generalize (c.ms : Int) = ms at *
  clear hepi
  generalize (me : Int) = mi at *
  generalize (now : Int) = nw at *
  have HW1 := hide hW1
  clear hW1
  go_enter Try.func24, Try.ntmps24
  go_upto_region 1 with fail
  rw [HW1.out]
  clear HW1
  go_wp2_with fail
  refine HNW.out.mono ?_
  rintro e w2 ⟨g, rfl, G2⟩
  have CB := hide ((G2.out.1.block _ (block_lt C1.out)).trans C1.out)
  have HN2 := hide (HND.out w2 g G2.out.2)
  have HB2 := hide (HBG.out w2 g G2.out.1 G2.out.2)
  clear z0 z1 z2 z3 z4 z5 z6 z7 z8 z9 HNW G2 C1 B1 HND HBG
  have z6 : w2.cell? ⟨w.heap.size, 6, none⟩ = some (.int .u64 ep) := block_cell CB.out 6
  have zl := block_lt CB.out
  go_wp2_with (go_at_call 44; refine HN2.out.mono ?_; rintro e w3 ⟨rfl, hVV⟩; have hVW := hVV.symm; clear hVV; subst hVW)
  refine wp_loop_rounds 1 ?_
  unfold Code.rounds
  go_wp2_with (go_at_call 34; refine HB2.out.mono ?_; rintro e w4 ⟨rfl, D⟩)
  go_ret2
  exact ⟨_, g, rfl, D.out⟩
set_option maxRecDepth 10000 in
set_option maxHeartbeats 1600000 in
theorem newE (c : Cf) (hin : c.In) (hk : badOf c.oks = -1) (hok : c.Ok) (me : Nat) (hme : (me : Int) < 2 * c.f + 1) (hem : c.em ≤ 100000) (hep : 1 ≤ c.ep) (hpe : c.ep ≤ c.em) (now : Nat) (hnow : now ≤ 1099511627776) (w : World) :
    Calls Try.prog 7 #[.agg c.cells, .int .i64 (me : Nat), .int .u64 (now : Nat)] w fun e w' => ∃ eb g, e = .returned (.tuple #[.pointer (some ⟨eb, 0, none⟩), .nilIface]) ∧ Hid (∃ fp x, EL w' eb g c me fp x ∧ x.abs = ⟨1, 0, 0, c.ep, addB now c.ep 1099511627776, [], []⟩ ∧ Below w.heap.size w w' ∧ w.heap.size ≤ eb ∧ ∀ b, fp b → w.heap.size ≤ b) := by
  obtain ⟨W1, hW1⟩ : ∃ W1, w.alloc (.cells c.cells 26) = W1 := ⟨_, rfl⟩
  have B1 : Hid (Below w.heap.size w W1) := by rw [← hW1]; exact (Below.refl _ w).alloc (Nat.le_refl _) _
  have C1 : Hid (W1.heap[w.heap.size]? = some (.cells c.cells 26 (0, 0))) := by rw [← hW1]; exact alloc_atK _ _
  obtain ⟨z0, z1, z2, z3, z4, z5, z6, z7, z8, z9⟩ := cfg_cells C1.out
  have HR : Hid (Calls Try.prog 24 #[.agg c.cells, .int .i64 (me : Nat), .int .u64 (now : Nat), .slice none 0 0] W1 fun e w' => ∃ eb g, e = .returned (.tuple #[.pointer (some ⟨eb, 0, none⟩), .nilIface]) ∧ Hid (∃ fp x, EL w' eb g c me fp x ∧ x.abs = ⟨1, 0, 0, c.ep, addB now c.ep 1099511627776, [], []⟩ ∧ Below w.heap.size w w' ∧ w.heap.size ≤ eb ∧ ∀ b, fp b → w.heap.size ≤ b)) := by
    refine (recoverE c hin hk hok me hme hem hep hpe now hnow W1).mono ?_
    rintro e w' ⟨eb, g, rfl, D⟩
    obtain ⟨fp, x, d1, d2, d3, d4, d5⟩ := D.out
    have := B1.out.size
    exact ⟨eb, g, rfl, fp, x, d1, d2, B1.out.trans (d3.mono B1.out.size), by omega, fun b hb => by have := d5 b hb; omega⟩
  clear hin hk hok hme hem hep hpe hnow
  unfold Cf.cells at *
  generalize c.f = f at *
  generalize c.mb = mb at *
  generalize (c.delay : Int) = d at *
  generalize (c.win : Int) = wn at *
  generalize (c.every : Int) = ev at *
  generalize (c.beat : Int) = bt at *
  generalize hepi : (c.ep : Int) = ep at *
  generalize (c.em : Int) = em at *
  generalize (c.mn : Int) = mn at *
  generalize (c.ms : Int) = ms at *
  clear hepi
  generalize (me : Int) = mi at *
  generalize (now : Int) = nw at *
  have HW1 := hide hW1
  clear hW1
  go_enter Try.func7, Try.ntmps7
  go_upto_region 1 with fail
  rw [HW1.out]
  clear HW1
  go_wp2_with fail
  refine HR.out.mono ?_
  rintro e w2 ⟨eb, g, rfl, D⟩
  go_wp2
  go_ret2
  exact ⟨_, g, rfl, D.out⟩
end Go.Proofs.Ytkdciomijemmiaa
