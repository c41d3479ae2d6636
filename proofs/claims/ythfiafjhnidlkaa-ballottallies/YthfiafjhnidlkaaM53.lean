import Derived.Test.YthfiafjhnidlkaaBYg
import Derived.Test.YthfiafjhnidlkaaBPf
import Derived.Deep.DeepCutAuto
namespace Go.Proofs.Ythfiafjhnidlkaa
open Go.RowKit

/-- groups, with the reference's group as it lies. -/
theorem groups_blk (c : Cf) (hin : c.In) (hk : badOf c.oks = -1) (W : World) : Calls Try.prog 20 #[.agg c.cells] W fun e w' => ∃ a b, e = .returned (.tuple #[.pointer a, .pointer b, .bool true]) ∧ Hid (PG w' a c ∧ (∃ h, b = some ⟨h, 0, none⟩ ∧ w'.heap[h]? = some (.cells c.cells 131 (0, 0))) ∧ Below W.heap.size W w') :=
  groups_any c W [] 0 (fun w a => PG w a c) (fun w b => ∃ h, b = some ⟨h, 0, none⟩ ∧ w.heap[h]? = some (.cells c.cells 131 (0, 0))) (by simp) (fun W => newP_ok c hin hk W) (fun W => (refNew_ok c hk W).mono fun _ _ ⟨g, h1, h2⟩ => ⟨some ⟨g, 0, none⟩, h1, g, rfl, h2.out.1⟩) (fun _ _ _ h hb => h.kept hb) (fun _ _ _ h hb => by obtain ⟨g, h1, h2⟩ := h; exact ⟨g, h1, (hb.block _ (block_lt h2)).trans h2⟩) (fun _ _ a b h h' => by obtain ⟨p, rfl, _⟩ := h; obtain ⟨q, rfl, _⟩ := h'; rfl)
/-- All that the law holds. -/
structure TT (w V : World) (pt b pr pu b2 ps h : Nat) (c : Cf) (n : Nat) (m : Nat → Nat) (p : Nat → Bool) (v : Value) (L : List Kr) (n2 : Nat) (m2 : Nat × Int → Nat) (p2 : Nat × Int → Bool) (v2 : Value) (L2 : List Kr) : Prop where
  one : P1 V pt b pr h w.heap.size c n m p v L
  two : P2 V pu b2 ps h w.heap.size c n2 m2 p2 v2 L2
  bel : Below w.heap.size w V
  far : w.heap.size ≤ b ∧ w.heap.size ≤ pr ∧ w.heap.size ≤ b2 ∧ w.heap.size ≤ ps
  ap : b ≠ b2 ∧ pr ≠ ps ∧ ∀ j, v.ownBlock = some j → v2.ownBlock ≠ some j
section
variable {w V V' : World} {pt b pr pu b2 ps h : Nat} {c : Cf} {n : Nat} {m : Nat → Nat} {p : Nat → Bool} {v : Value} {L : List Kr} {n2 : Nat} {m2 : Nat × Int → Nat} {p2 : Nat × Int → Bool} {v2 : Value} {L2 : List Kr}
theorem TT.kept (t : TT w V pt b pr pu b2 ps h c n m p v L n2 m2 p2 v2 L2) (hb : Below V.heap.size V V') : TT w V' pt b pr pu b2 ps h c n m p v L n2 m2 p2 v2 L2 :=
  ⟨t.one.kept hb, t.two.kept hb, t.bel.trans (hb.mono t.bel.size), t.far, t.ap⟩
theorem below_fr {T : Nat → Prop} (h : Below w.heap.size w V) (f : Fr V V' T) (hT : ∀ j, T j → w.heap.size ≤ j) : Below w.heap.size w V' := by
  refine ⟨f.os.trans h.os, f.tape.trans h.tape, f.output.trans h.output, Nat.le_trans h.size f.size, fun j hj => (f.block j (Nat.lt_of_lt_of_le hj h.size) (fun e => ?_)).trans (h.block j hj)⟩
  have := hT j e
  omega
theorem cells_ne {i j : Nat} {X Y : Array Value} {s t : TypeId} (hi : V.heap[i]? = some (.cells X s (0, 0))) (hj : V.heap[j]? = some (.cells Y t (0, 0))) (hst : s ≠ t) : i ≠ j := fun e => by
  rw [e, hj] at hi
  injection hi with hi
  injection hi with h1 h2 h3
  exact hst h2.symm
theorem cells_map {i j : Nat} {X : Array Value} {s : TypeId} {es : Array MapEntry} {clock : Nat} (hi : V.heap[i]? = some (.cells X s (0, 0))) (hj : V.heap[j]? = some (.map es clock)) : i ≠ j := fun e => by
  rw [e, hj] at hi
  cases hi
theorem row_ne {B k : Nat} {xs : List Value} {j : Nat} {X : Array Value} {t : TypeId} (h : V.ownsRow B 124 4 v k xs) (hX : V.heap[j]? = some (.cells X t (0, 0))) (ht : 124 ≠ t) : v.ownBlock ≠ some j := fun e => by
  rcases h.2 with ⟨h0, _⟩ | ⟨g', cap, cur, h0, _, hb, _⟩
  · rw [h0] at e; cases e
  · rw [h0] at e
    cases e
    exact cells_ne hb hX ht rfl
theorem row_at {B k : Nat} {xs : List Value} (h : V.ownsRow B 124 4 v k xs) {j : Nat} (e : v.ownBlock = some j) : ∃ X, V.heap[j]? = some (.cells X 124 (0, 0)) := by
  rcases h.2 with ⟨h0, _⟩ | ⟨g', cap, cur, h0, _, hb, _⟩
  · rw [h0] at e; cases e
  · rw [h0] at e
    cases e
    exact ⟨cur, hb⟩
/-- A step of the first tally. -/
theorem TT.first (t : TT w V pt b pr pu b2 ps h c n m p v L n2 m2 p2 v2 L2) (x : Nx1 V V' pt b pr h w.heap.size c v) : ∃ n' m' p' v' L', TT w V' pt b pr pu b2 ps h c n' m' p' v' L' n2 m2 p2 v2 L2 := by
  obtain ⟨n', m', p', v', L', P, f, own⟩ := x
  obtain ⟨es, clock, hb⟩ := t.one.ty.tm.map
  obtain ⟨es2, clock2, hb2⟩ := t.two.ty.tm.map
  have r1 := t.one.rt
  have r2 := t.two.rt
  have n1 : ¬ tch b pr v pu := fun e => by
    rcases e with e | e | e
    · exact cells_map t.two.ty.blk hb e
    · exact cells_ne t.two.ty.blk r1.blk (by decide) e
    · exact row_ne r1.row t.two.ty.blk (by decide) e
  have n2' : ¬ tch b pr v b2 := fun e => by
    rcases e with e | e | e
    · exact t.ap.1 e.symm
    · exact cells_map r1.blk hb2 e.symm
    · exact (r1.not_map hb2).2.2 e
  have n3 : ¬ tch b pr v ps := fun e => by
    rcases e with e | e | e
    · exact cells_map r2.blk hb e
    · exact t.ap.2.1 e.symm
    · exact row_tally r1.row r2.blk e
  have n4 : ¬ tch b pr v h := fun e => by
    rcases e with e | e | e
    · exact cells_map r1.gb hb e
    · exact cells_ne r1.gb r1.blk (by decide) e
    · exact row_group r1.row r1.gb e
  have n5 : ∀ j, v2.ownBlock = some j → ¬ tch b pr v j := fun j hj e => by
    rcases e with e | e | e
    · exact (r2.not_map hb).2.2 (by rw [← e]; exact hj)
    · exact row_tally r2.row r1.blk (by rw [← e]; exact hj)
    · exact t.ap.2.2 j e hj
  have hT : ∀ j, tch b pr v j → w.heap.size ≤ j := fun j e => by
    rcases e with e | e | e
    · rw [e]; exact t.far.1
    · rw [e]; exact t.far.2.1
    · exact (r1.row.lt j e).1
  refine ⟨n', m', p', v', L', P, ⟨t.two.ty.fr f n1 n2', r2.fr f n3 n4 n5, t.two.mt⟩, below_fr t.bel f hT, t.far, t.ap.1, t.ap.2.1, fun j hj hj2 => ?_⟩
  rcases own j hj with e | e
  · obtain ⟨X, hX⟩ := row_at r2.row hj2
    have := block_lt hX
    omega
  · exact t.ap.2.2 j e hj2
/-- A step of the second tally. -/
theorem TT.second (t : TT w V pt b pr pu b2 ps h c n m p v L n2 m2 p2 v2 L2) (x : Nx2 V V' pu b2 ps h w.heap.size c v2) : ∃ n' m' p' v' L', TT w V' pt b pr pu b2 ps h c n m p v L n' m' p' v' L' := by
  obtain ⟨n', m', p', v', L', P, f, own⟩ := x
  obtain ⟨es, clock, hb⟩ := t.one.ty.tm.map
  obtain ⟨es2, clock2, hb2⟩ := t.two.ty.tm.map
  have r1 := t.one.rt
  have r2 := t.two.rt
  have n1 : ¬ tch b2 ps v2 pt := fun e => by
    rcases e with e | e | e
    · exact cells_map t.one.ty.blk hb2 e
    · exact cells_ne t.one.ty.blk r2.blk (by decide) e
    · exact row_ne r2.row t.one.ty.blk (by decide) e
  have n2' : ¬ tch b2 ps v2 b := fun e => by
    rcases e with e | e | e
    · exact t.ap.1 e
    · exact cells_map r2.blk hb e.symm
    · exact (r2.not_map hb).2.2 e
  have n3 : ¬ tch b2 ps v2 pr := fun e => by
    rcases e with e | e | e
    · exact cells_map r1.blk hb2 e
    · exact t.ap.2.1 e
    · exact row_tally r2.row r1.blk e
  have n4 : ¬ tch b2 ps v2 h := fun e => by
    rcases e with e | e | e
    · exact cells_map r2.gb hb2 e
    · exact cells_ne r2.gb r2.blk (by decide) e
    · exact row_group r2.row r2.gb e
  have n5 : ∀ j, v.ownBlock = some j → ¬ tch b2 ps v2 j := fun j hj e => by
    rcases e with e | e | e
    · exact (r1.not_map hb2).2.2 (by rw [← e]; exact hj)
    · exact row_tally r1.row r2.blk (by rw [← e]; exact hj)
    · exact t.ap.2.2 j hj e
  have hT : ∀ j, tch b2 ps v2 j → w.heap.size ≤ j := fun j e => by
    rcases e with e | e | e
    · rw [e]; exact t.far.2.2.1
    · rw [e]; exact t.far.2.2.2
    · exact (r2.row.lt j e).1
  refine ⟨n', m', p', v', L', ⟨t.one.ty.fr f n1 n2', r1.fr f n3 n4 n5, t.one.mt⟩, P, below_fr t.bel f hT, t.far, t.ap.1, t.ap.2.1, fun j hj hj2 => ?_⟩
  rcases own j hj2 with e | e
  · obtain ⟨X, hX⟩ := row_at r1.row hj
    have := block_lt hX
    omega
  · exact t.ap.2.2 j hj e
end
end Go.Proofs.Ythfiafjhnidlkaa
namespace Go.Proofs.Ythfiafjhnidlkaa
open Go.RowKit

set_option maxRecDepth 100000 in
set_option maxHeartbeats 1600000 in
theorem tallies_bad (c : Cf) (ao : Option Addr) (len cap : Nat) (w : World)
    (hG : ∀ W, Calls Try.prog 20 #[.agg c.cells] W fun e w' => ∃ a b, e = .returned (.tuple #[.pointer a, .pointer b, .bool true]) ∧ Hid (a = none ∧ b = none ∧ Below W.heap.size W w')) :
    Calls Try.prog 7 #[.agg c.cells, .slice ao len cap] w fun e w' => e = .returned (.bool true) ∧ Below w.heap.size w w' := by
  have HG := hide hG
  clear hG
  obtain ⟨W1, hW1⟩ : ∃ W1, w.alloc (.cells c.cells 24) = W1 := ⟨_, rfl⟩
  have B1 : Hid (Below w.heap.size w W1) := by rw [← hW1]; exact (Below.refl _ w).alloc (Nat.le_refl _) _
  obtain ⟨pc, hpc⟩ : ∃ p, w.heap.size = p := ⟨_, rfl⟩
  have t1 : W1.heap[pc]? = some (.cells c.cells 24 (0, 0)) := by rw [← hW1, ← hpc]; exact alloc_atK _ _
  obtain ⟨z0, z1, z2, z3, z4, z5, z6, z7, z8, z9⟩ := cfg_cells t1
  have hlt1 := block_lt t1
  have HW1 := hide hW1
  have HPC := hide hpc
  clear hW1 hpc t1
  unfold Cf.cells at HG HW1 ⊢
  generalize c.f = f at *
  generalize c.mb = mb at *
  generalize (c.delay : Int) = d at *
  generalize (c.win : Int) = wn at *
  generalize (c.every : Int) = ev at *
  generalize (c.beat : Int) = bt at *
  generalize (c.ep : Int) = ep at *
  generalize (c.em : Int) = em at *
  generalize (c.mn : Int) = mn at *
  generalize (c.ms : Int) = ms at *
  go_enter Try.func7, Try.ntmps7
  go_upto_region 1 with fail
  rw [HW1.out, HPC.out]
  clear HW1
  go_wp2_with fail
  refine (HG.out W1).mono ?_
  rintro e w2 ⟨ga, ha, rfl, G2⟩
  obtain ⟨rfl, rfl, b2⟩ := G2.out
  have B4 := hide (B1.out.trans (b2.mono B1.out.size))
  clear G2 b2 z0 z1 z2 z3 z4 z5 z6 z7 z8 z9 hlt1
  go_wp2_with fail
  refine (newTally_dead (.inl rfl)).mono ?_
  rintro e w3 ⟨rfl, rfl⟩
  go_wp2_with fail
  refine (newTally_deadB (.inl rfl)).mono ?_
  rintro e w4 ⟨rfl, rfl⟩
  go_wp2_with fail
  refine (noTally_ok (.inl rfl)).mono ?_
  rintro e w5 ⟨rfl, b5⟩
  have B5 := hide (B4.out.trans (b5.mono B4.out.size))
  clear b5
  go_wp2_with fail
  refine (noTally_ok (.inr ⟨w5.heap.size, rfl, by simp, (World.cell?_alloc_new _ _ _ 10).trans rfl⟩)).mono ?_
  rintro e w7 ⟨rfl, b7⟩
  have a7 := Below.trans ((Below.refl w5.heap.size w5).alloc (Nat.le_refl _) _) (b7.mono (by simp))
  have B7 := hide (B5.out.trans (a7.mono B5.out.size))
  clear b7 a7
  go_wp2_with fail
  refine (newTally_dead (.inr ⟨w7.heap.size, rfl, by simp, (World.cell?_alloc_new _ _ _ 0).trans rfl⟩)).mono ?_
  rintro e w8 ⟨rfl, h8⟩
  have a8 : Below w7.heap.size w7 w8 := by rw [h8]; exact (Below.refl w7.heap.size w7).alloc (Nat.le_refl _) _
  have B8 := hide (B7.out.trans (a8.mono B7.out.size))
  clear h8 a8
  go_wp2
  go_ret
  exact ⟨rfl, B8.out⟩
end Go.Proofs.Ythfiafjhnidlkaa
