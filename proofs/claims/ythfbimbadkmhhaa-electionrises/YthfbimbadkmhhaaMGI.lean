import Derived.Test.YthfbimbadkmhhaaMGD
import Derived.Test.YthfbimbadkmhhaaMGH
import Derived.Test.YthfbimbadkmhhaaMBAs
import Derived.Test.YthfbimbadkmhhaaMBSb
import Derived.Maps.AppendAt
import Derived.Deep.RegionHeld3
import Derived.Deep.RegionWith
namespace Go.Proofs.Ythfbimbadkmhhaa
open Go.RowKit

theorem add64_run (x y : Nat) (w : World) : (callFunc 55 #[.int .u64 (x : Nat), .int .u64 (y : Nat), .int .u64 0]).run Try.prog w =
    .ok (.value (.tuple #[.int .u64 (((x + y) % 18446744073709551616 : Nat) : Int), .int .u64 (((x + y) / 18446744073709551616 : Nat) : Int)])) w := by
  rw [run_callFunc_extern (fn := Try.f55) Try.func55 (by kernel_rfl) (by kernel_rfl) (by kernel_rfl) (e := add64Entry) (by kernel_rfl), run_add64 x y 0 (by omega) (by omega) (by omega) (by omega)]
  simp only [Result.andThen]
  congr 5 <;> omega
set_option maxRecDepth 10000 in
set_option maxHeartbeats 400000 in
theorem add_any (a b most : Nat) (w : World) (h1 : a < 18446744073709551616) (h2 : b < 18446744073709551616) (h3 : most < 18446744073709551616) :
    Calls Try.prog 47 #[.int .u64 (a : Nat), .int .u64 (b : Nat), .int .u64 (most : Nat)] w fun e w' => e = .returned (.int .u64 ((addB a b most : Nat) : Int)) ∧ w' = w := by
  have hr := add64_run a b
  by_cases g : a + b < 18446744073709551616
  · have e1 : (a + b) % 18446744073709551616 = a + b := Nat.mod_eq_of_lt g
    have e2 : (a + b) / 18446744073709551616 = 0 := Nat.div_eq_of_lt g
    simp only [e1, e2] at hr
    clear e1 e2
    have hv : Hid ((most < a + b → addB a b most = most) ∧ (¬ most < a + b → addB a b most = a + b)) := by show _ ∧ _; unfold addB; split <;> omega
    generalize addB a b most = v at *
    generalize a + b = s at *
    go_enter Try.func47, Try.ntmps47
    go_wp2
    · go_ret
      exact ⟨by rw [hv.out.1 (by assumption)]; rfl, rfl⟩
    · go_ret
      exact ⟨by rw [hv.out.2 (by assumption)]; rfl, rfl⟩
  · have e2 : (a + b) / 18446744073709551616 = 1 := by omega
    simp only [e2] at hr
    clear e2
    have hv : Hid (addB a b most = most) := by show _ = _; unfold addB; rw [if_pos (by omega)]
    generalize addB a b most = v at *
    generalize (a + b) % 18446744073709551616 = s at *
    go_enter Try.func47, Try.ntmps47
    go_wp2
    go_ret
    exact ⟨by rw [hv.out]; rfl, rfl⟩
end Go.Proofs.Ythfbimbadkmhhaa
namespace Go.Proofs.Ythfbimbadkmhhaa
open Go.RowKit Crc

/-- What a call may turn: blocks of T, and new ones. -/
structure Fe (w w' : World) (T : Nat → Prop) : Prop where
  os : w'.os = w.os
  tape : w'.tape = w.tape
  output : w'.output = w.output
  size : w.heap.size ≤ w'.heap.size
  block : ∀ j, j < w.heap.size → ¬ T j → w'.heap[j]? = w.heap[j]?
theorem Fe.refl (w : World) (T : Nat → Prop) : Fe w w T := ⟨rfl, rfl, rfl, Nat.le_refl _, fun _ _ _ => rfl⟩
theorem Fe.trans {a b c : World} {T S : Nat → Prop} (h : Fe a b T) (k : Fe b c S) (hs : ∀ j, j < a.heap.size → S j → T j) : Fe a c T :=
  ⟨k.os.trans h.os, k.tape.trans h.tape, k.output.trans h.output, Nat.le_trans h.size k.size, fun j hj hn => (k.block j (Nat.lt_of_lt_of_le hj h.size) (fun e => hn (hs j hj e))).trans (h.block j hj hn)⟩
theorem Fe.below {a b : World} (h : Below a.heap.size a b) (T : Nat → Prop) : Fe a b T := ⟨h.os, h.tape, h.output, h.size, fun j hj _ => h.block j hj⟩
theorem Fe.toBelow {a b : World} {T : Nat → Prop} (h : Fe a b T) (n : Nat) (hn : n ≤ a.heap.size) (ht : ∀ j, T j → n ≤ j) : Below n a b := ⟨h.os, h.tape, h.output, h.size, fun j hj => h.block j (by omega) (fun e => by have := ht j e; omega)⟩
theorem Fe.grown {a b : World} {row : Option Nat} (h : a.grownBy b row) {T : Nat → Prop} (ht : ∀ x, row = some x → T x) : Fe a b T := ⟨h.os, h.tape, h.output, h.size, fun j hj hn => h.block j hj (fun e => hn (ht j e.symm))⟩
theorem Fe.wide {a b : World} {T S : Nat → Prop} (h : Fe a b T) (hs : ∀ j, T j → S j) : Fe a b S := ⟨h.os, h.tape, h.output, h.size, fun j hj hn => h.block j hj (fun e => hn (hs j e))⟩
theorem Fe.cell {a b : World} {T : Nat → Prop} (h : Fe a b T) {q j : Nat} {v : Value} (hq : q < a.heap.size) (hn : ¬ T q) (hc : a.cell? ⟨q, j, none⟩ = some v) : b.cell? ⟨q, j, none⟩ = some v :=
  (World.cell?_of_block (a := ⟨q, j, none⟩) (h.block q hq hn)).trans hc
theorem row_fe {base size k : Nat} {e : TypeId} {w w' : World} {v : Value} {xs : List Value} {T : Nat → Prop} (h : w.ownsRow base e size v k xs) (f : Fe w w' T) (hn : ∀ b, v.ownBlock = some b → ¬ T b) : w'.ownsRow base e size v k xs := by
  refine ⟨h.1, ?_⟩
  rcases h.2 with h0 | ⟨g, cap, cur, rfl, hb, hg, h4⟩
  · exact .inl h0
  · exact .inr ⟨g, cap, cur, rfl, hb, (f.block _ (block_lt hg) (hn g rfl)).trans hg, h4⟩
theorem Owns.fe {base : Nat} {w w' : World} {v : Value} {B : List Nat} {T : Nat → Prop} (h : Owns base w v B) (f : Fe w w' T) (hn : ∀ b, v.ownBlock = some b → ¬ T b) : Owns base w' v B := ⟨row_fe h.1 f hn, h.2⟩
theorem Cq.fe {base : Nat} {w w' : World} {r : Rq} {T : Nat → Prop} (h : Cq base w r) (f : Fe w w' T) (hn : ∀ b, (Value.slice r.co r.cn r.cc).ownBlock = some b → ¬ T b) : Cq base w' r := ⟨h.hc, h.hs, h.ow.fe f hn, h.hl⟩
theorem Cq.lower {base base' : Nat} {w : World} {r : Rq} (h : Cq base w r) (hb : base' ≤ base) : Cq base' w r := ⟨h.hc, h.hs, h.ow.lower hb, h.hl⟩

/-- A queue as it lies: its row and the commands, all in blocks of fp. -/
structure Qs (W : World) (fp : Nat → Prop) (v : Value) (rs : List Rq) : Prop where
  row : W.ownsRow 0 37 3 v rs.length (rcells rs)
  blk : ∀ b, v.ownBlock = some b → fp b
  cq : ∀ r ∈ rs, Cq 0 W r
  cb : ∀ r ∈ rs, ∀ b, (Value.slice r.co r.cn r.cc).ownBlock = some b → fp b
  le : rs.length ≤ 32
theorem Qs.fe {W W' : World} {fp T : Nat → Prop} {v : Value} {rs : List Rq} (h : Qs W fp v rs) (f : Fe W W' T) (hn : ∀ b, fp b → ¬ T b) : Qs W' fp v rs :=
  ⟨row_fe h.row f (fun b e => hn b (h.blk b e)), h.blk, fun r hr => (h.cq r hr).fe f (fun b e => hn b (h.cb r hr b e)), h.cb, h.le⟩
theorem Qs.kept {W W' : World} {fp : Nat → Prop} {v : Value} {rs : List Rq} (h : Qs W fp v rs) (hb : Below W.heap.size W W') : Qs W' fp v rs := h.fe (Fe.below hb (fun _ => False)) (fun _ _ e => e)
theorem Qs.wide {W : World} {fp fq : Nat → Prop} {v : Value} {rs : List Rq} (h : Qs W fp v rs) (hf : ∀ b, fp b → fq b) : Qs W fq v rs := ⟨h.row, fun b e => hf b (h.blk b e), h.cq, fun r hr b e => hf b (h.cb r hr b e), h.le⟩
theorem Qs.nil (W : World) (fp : Nat → Prop) : Qs W fp (.slice none 0 0) [] := ⟨World.ownsRow_nil _ _ _ _, fun b e => (by cases e), fun r hr => (by simp at hr), fun r hr => (by simp at hr), by simp⟩
theorem Qs.form {W : World} {fp : Nat → Prop} {v : Value} {rs : List Rq} (h : Qs W fp v rs) : ∃ ao cap b, v = .slice ao rs.length cap ∧ rs.length ≤ cap ∧ Rqs W.heap.size W ao rs b 0 := by
  have hle := h.le
  rcases h.row.2 with ⟨rfl, h0⟩ | ⟨g, cap, cur, rfl, hbg, hg, hnc, hcm, hcs, htake⟩
  · have : rs = [] := List.eq_nil_of_length_eq_zero (by omega)
    subst this
    exact ⟨none, 0, 0, rfl, Nat.le_refl _, Rqs.nil _ _ _⟩
  · refine ⟨some ⟨g, 0, none⟩, cap, g, rfl, hnc, fun _ => rfl, fun _ => block_lt hg, by omega, fun i r hr j v hv => ?_, fun r hr => (h.cq r hr).ok⟩
    have h1 := rcells_at rs i r hr j v hv
    have hlt : i * 3 + j < rs.length * 3 := by rw [← rcells_len]; exact (List.getElem?_eq_some_iff.1 h1).1
    rw [← htake, List.getElem?_take, if_pos hlt] at h1
    have h2 := cell_of_row W g (0 + i * 3 + j) cur _ (0, 0) hg
    rw [h2, Nat.zero_add]
    simpa using h1

/-- What a request says. -/
abbrev Rv := Nat × Nat × List Nat
/-- An election as it is told. -/
structure Ev where
  (num : Nat) (node : Int) (sus len fin : Nat) (pv th : List Rv)
/-- An election as it lies. -/
structure Ex where
  (num : Nat) (node : Int) (sus len fin : Nat) (po : Option Addr) (pc : Nat) (ps : List Rq) (qo : Option Addr) (tc : Nat) (ts : List Rq)
def Ex.abs (x : Ex) : Ev := ⟨x.num, x.node, x.sus, x.len, x.fin, x.ps.map Rq.val, x.ts.map Rq.val⟩
def Ex.cells (x : Ex) (g me : Nat) : Array Value := #[.pointer (some ⟨g, 0, none⟩), .int .i64 (me : Nat), .int .u64 (x.num : Nat), .int .i64 x.node, .int .u32 (x.sus : Nat), .int .u64 (x.len : Nat), .int .u64 (x.fin : Nat), .slice x.po x.ps.length x.pc, .slice x.qo x.ts.length x.tc]
structure EL (W : World) (eb g : Nat) (c : Cf) (me : Nat) (fp : Nat → Prop) (x : Ex) : Prop where
  blk : W.heap[eb]? = some (.cells (x.cells g me) 69 (0, 0))
  grp : W.heap[g]? = some (.cells c.cells 101 (0, 0))
  qp : Qs W fp (.slice x.po x.ps.length x.pc) x.ps
  qt : Qs W fp (.slice x.qo x.ts.length x.tc) x.ts
  ap : ∀ b, (Value.slice x.po x.ps.length x.pc).ownBlock = some b → (Value.slice x.qo x.ts.length x.tc).ownBlock ≠ some b
  flt : ∀ b, fp b → b < W.heap.size
  feb : ¬ fp eb
  fg : ¬ fp g
  n1 : 1 ≤ x.num
  va : c.valid x.num x.node = true
  su : x.sus < 4294967296
  l1 : 1 ≤ x.len
  l2 : x.len ≤ c.em
  f2 : x.fin ≤ 1099511627776
theorem EL.neg {W : World} {eb g : Nat} {c : Cf} {me : Nat} {fp : Nat → Prop} {x : Ex} (h : EL W eb g c me fp x) : eb ≠ g := fun e => by
  have h1 := h.blk
  rw [e, h.grp] at h1
  cases h1
theorem EL.fe {W W' : World} {eb g : Nat} {c : Cf} {me : Nat} {fp T : Nat → Prop} {x : Ex} (h : EL W eb g c me fp x) (f : Fe W W' T) (hn : ∀ b, fp b → ¬ T b) (h1 : ¬ T eb) (h2 : ¬ T g) : EL W' eb g c me fp x :=
  ⟨(f.block _ (block_lt h.blk) h1).trans h.blk, (f.block _ (block_lt h.grp) h2).trans h.grp, h.qp.fe f hn, h.qt.fe f hn, h.ap, fun b hb => Nat.lt_of_lt_of_le (h.flt b hb) f.size, h.feb, h.fg, h.n1, h.va, h.su, h.l1, h.l2, h.f2⟩
theorem EL.kept {W W' : World} {eb g : Nat} {c : Cf} {me : Nat} {fp : Nat → Prop} {x : Ex} (h : EL W eb g c me fp x) (hb : Below W.heap.size W W') : EL W' eb g c me fp x := h.fe (Fe.below hb (fun _ => False)) (fun _ _ e => e) (fun e => e) (fun e => e)
theorem EL.pg {W : World} {eb g : Nat} {c : Cf} {me : Nat} {fp : Nat → Prop} {x : Ex} (h : EL W eb g c me fp x) : PG W (some ⟨g, 0, none⟩) c := ⟨g, rfl, h.grp⟩
theorem EL.c {W : World} {eb g : Nat} {c : Cf} {me : Nat} {fp : Nat → Prop} {x : Ex} (h : EL W eb g c me fp x) (j : Nat) : W.cell? ⟨eb, j, none⟩ = (x.cells g me)[j]? := block_cell h.blk j
theorem EL.free {W : World} {eb g : Nat} {c : Cf} {me : Nat} {fp : Nat → Prop} {x : Ex} (h : EL W eb g c me fp x) (j : Nat) : W.frozen? ⟨eb, j, none⟩ = false := block_free h.blk j
theorem EL.lt {W : World} {eb g : Nat} {c : Cf} {me : Nat} {fp : Nat → Prop} {x : Ex} (h : EL W eb g c me fp x) : eb < W.heap.size := block_lt h.blk
/-- The blocks of an election. -/
def Mine (eb : Nat) (fp : Nat → Prop) : Nat → Prop := fun b => b = eb ∨ fp b
/-- A call has been made: the election says s now; nothing else but new memory has turned. -/
def Did (W : World) (eb g : Nat) (c : Cf) (me : Nat) (fp : Nat → Prop) (s : Ev) (W' : World) : Prop :=
  ∃ fp' x, EL W' eb g c me fp' x ∧ x.abs = s ∧ Fe W W' (Mine eb fp) ∧ ∀ b, fp' b → fp b ∨ W.heap.size ≤ b
end Go.Proofs.Ythfbimbadkmhhaa
namespace Go.Proofs.Ythfbimbadkmhhaa
open Go.RowKit Crc

set_option maxRecDepth 10000 in
set_option maxHeartbeats 800000 in
theorem madeE {W : World} {eb g : Nat} {c : Cf} {me : Nat} {fp : Nat → Prop} {x : Ex} (h : EL W eb g c me fp x) : Calls Try.prog 13 #[.pointer (some ⟨eb, 0, none⟩)] W fun e w' => e = .returned (.bool true) ∧ w' = W := by
  have q2 : W.cell? ⟨eb, 2, none⟩ = some (.int .u64 (x.num : Nat)) := h.c 2
  have ql : eb < W.heap.size := block_lt h.blk
  have hd : decide ((0 : Int) < (x.num : Int)) = true := by have := h.n1; simp; omega
  clear h
  generalize (x.num : Int) = n at *
  go_enter Try.func13, Try.ntmps13
  go_wp2
  go_ret
  exact ⟨rfl, rfl⟩

set_option maxRecDepth 10000 in
set_option maxHeartbeats 1600000 in
theorem twinE {w : World} (cl sq : Nat) (co : Option Addr) (cn cc : Nat) (C : List Nat) (h : (Rq.mk cl sq co cn cc C).Ok w.heap.size w) : Calls Try.prog 30 #[.agg #[.int .u64 (cl : Int), .int .u64 (sq : Int), .slice co cn cc]] w fun e w' => ∃ ao cap, e = .returned (.agg #[.int .u64 (cl : Int), .int .u64 (sq : Int), .slice ao cn cap]) ∧ Hid (Cq w.heap.size w' ⟨cl, sq, ao, cn, cap, C⟩ ∧ Below w.heap.size w w') := by
  obtain ⟨j0, hj, hy0, hy1, hy2⟩ := info_parts Try.info5
  have HOK := hide h
  obtain ⟨W2, hW2⟩ : ∃ W2, (w.alloc (.cells #[.int .u64 (cl : Int), .int .u64 (sq : Int), .slice co cn cc] 37)).alloc (.cells #[.int .u64 0, .int .u64 0, .slice none 0 0] 37) = W2 := ⟨_, rfl⟩
  have s2 : W2.heap.size = w.heap.size + 2 := by rw [← hW2]; simp
  have HB2 : Hid (Below w.heap.size w W2) := by rw [← hW2]; exact (below_alloc1 w _).alloc (by simp) _
  have HA : Hid (W2.heap[w.heap.size]? = some (.cells #[.int .u64 (cl : Int), .int .u64 (sq : Int), .slice co cn cc] 37 (0, 0)) ∧ W2.heap[w.heap.size + 1]? = some (.cells #[.int .u64 0, .int .u64 0, .slice none 0 0] 37 (0, 0))) := by
    have e1 : (w.alloc (.cells #[.int .u64 (cl : Int), .int .u64 (sq : Int), .slice co cn cc] 37)).heap.size = w.heap.size + 1 := by simp
    refine ⟨?_, ?_⟩
    · rw [← hW2]; exact ((World.grownBy_alloc _ _ none).block _ (by simp) (by simp)).trans (alloc_atK w _)
    · rw [← hW2, ← e1]; exact alloc_atK _ _
  have HW2 := hide hW2
  clear hW2 h
  have FIN : Hid (∀ (w1 : World) (ao : Option Addr) (cap : Nat), Below W2.heap.size W2 w1 → Cq W2.heap.size w1 ⟨cl, sq, ao, cn, cap, C⟩ → ∀ u a b d, Cq w.heap.size ((((w1.setCell ⟨w.heap.size, 2, none⟩ u).setCell ⟨w.heap.size + 1, 0, none⟩ a).setCell ⟨w.heap.size + 1, 1, none⟩ b).setCell ⟨w.heap.size + 1, 2, none⟩ d) ⟨cl, sq, ao, cn, cap, C⟩ ∧ Below w.heap.size w ((((w1.setCell ⟨w.heap.size, 2, none⟩ u).setCell ⟨w.heap.size + 1, 0, none⟩ a).setCell ⟨w.heap.size + 1, 1, none⟩ b).setCell ⟨w.heap.size + 1, 2, none⟩ d)) := by
    intro w1 ao cap hb hq u a b d
    have hbl : ∀ g, (Value.slice ao cn cap).ownBlock = some g → W2.heap.size ≤ g := fun g hg => (hq.ow.1.lt g hg).1
    have n0 : (Value.slice ao cn cap).ownBlock ≠ some w.heap.size := fun e => by have := hbl _ e; omega
    have n1 : (Value.slice ao cn cap).ownBlock ≠ some (w.heap.size + 1) := fun e => by have := hbl _ e; omega
    refine ⟨((((hq.next (grown_set _ _ _ _) (.inr n0)).next (grown_set _ _ _ _) (.inr n1)).next (grown_set _ _ _ _) (.inr n1)).next (grown_set _ _ _ _) (.inr n1)).lower (by omega), ?_⟩
    have B1 := HB2.out.trans (hb.mono (by omega))
    exact (((B1.setCell (p := ⟨w.heap.size, 2, none⟩) (by simp) _).setCell (p := ⟨w.heap.size + 1, 0, none⟩) (by simp) _).setCell (p := ⟨w.heap.size + 1, 1, none⟩) (by simp) _).setCell (p := ⟨w.heap.size + 1, 2, none⟩) (by simp) _
  have BX : Hid (∀ (w1 : World), Below W2.heap.size W2 w1 → w1.heap[w.heap.size]? = some (.cells #[.int .u64 (cl : Int), .int .u64 (sq : Int), .slice co cn cc] 37 (0, 0)) ∧ w1.heap[w.heap.size + 1]? = some (.cells #[.int .u64 0, .int .u64 0, .slice none 0 0] 37 (0, 0))) := fun w1 hb => ⟨(hb.block _ (by omega)).trans HA.out.1, (hb.block _ (by omega)).trans HA.out.2⟩
  by_cases hcn : cn = 0
  · subst hcn
    have HC0 : Hid (C = []) := List.eq_nil_of_length_eq_zero HOK.out.hC.1.symm
    have HAN := hide (fun wx => append_none_run none co 0 0 cc (Nat.le_refl _) wx)
    have HCQ : Hid (Cq W2.heap.size W2 ⟨cl, sq, none, 0, 0, C⟩) := ⟨HOK.out.hc, HOK.out.hs, by rw [HC0.out]; exact Owns.nil _ _, by rw [HC0.out]; rfl⟩
    have F2 := hide (FIN.out W2 none 0 (Below.refl _ _) HCQ.out)
    have q2 := block_cell HA.out.1 2
    have q0 := block_cell HA.out.1 0
    have q1 := block_cell HA.out.1 1
    have z0 := block_cell HA.out.2 0
    have z1 := block_cell HA.out.2 1
    have z2 := block_cell HA.out.2 2
    have f2 := block_free HA.out.1 2
    have g0 := block_free HA.out.2 0
    have g1 := block_free HA.out.2 1
    have g2 := block_free HA.out.2 2
    simp at q0 q1 q2 z0 z1 z2
    have hl0 : w.heap.size < W2.heap.size := by omega
    have hl1 : w.heap.size + 1 < W2.heap.size := by omega
    have hne1 : ¬ w.heap.size = w.heap.size + 1 := by omega
    clear s2 HC0 FIN BX HOK HA
    go_enter Try.func30, Try.ntmps30
    go_upto_region 1 with fail
    rw [HW2.out]
    clear HW2
    go_wp2_with (at_builtin; refine wpList_append_nothing rfl _ _ 35 rfl _ _ rfl rfl (HAN.out _) ?_)
    refine bodyPost_ret (v := .agg #[.int .u64 (cl : Int), .int .u64 (sq : Int), .slice none 0 0]) (by simp [results, Try.results30, go_sem, z0, z1, z2]) rfl ?_
    exact ⟨_, _, rfl, F2.out _ _ _ _⟩
  · have hpos : 0 < cn := by omega
    obtain ⟨s1, s2', s3, s4, cb, coff, s5, s6, s7⟩ := HOK.out.hC
    obtain rfl := s5 hpos
    have HS7 : Hid (∀ j u, (vals C)[j]? = some u → W2.cell? ((⟨cb, coff, none⟩ : Addr).add j) = some u) := fun j u hj => (below_none HB2.out).cell (vals_cell (fun i hi => s7 i (by rw [s1]; exact hi)) j u hj) (by simp)
    have HCL : Hid (cn = C.length) := s1
    have HC256 : Hid (∀ x ∈ C, x < 256) := s4
    have s3' : cn ≤ 140737488355328 := s3
    have hlv : (vals C).length = cn := by rw [vals_len]; exact HCL.out.symm
    clear s1 s2' s3 s4 s5 s6 s7
    have HMK : Hid (∀ v5 w1, w1.ownsRow W2.heap.size 5 1 v5 (0 + cn) ([] ++ vals C) → Ext W2 w1 (.slice none 0 0) v5 → ∃ g5 cap5, v5 = .slice (some ⟨g5, 0, none⟩) cn cap5 ∧ Hid (Below W2.heap.size W2 w1 ∧ Cq W2.heap.size w1 ⟨cl, sq, some ⟨g5, 0, none⟩, cn, cap5, C⟩)) := by
      intro v5 w1 ho5 hx5
      rw [List.nil_append, Nat.zero_add] at ho5
      obtain ⟨g5, cap5, hv5, _⟩ := own_shape ho5 hpos
      subst hv5
      refine ⟨g5, cap5, rfl, ⟨hx5.1.os, hx5.1.tape, hx5.1.output, hx5.1.size, fun k hk => hx5.1.block k hk (by simp [Value.ownBlock])⟩, HOK.out.hc, HOK.out.hs, ⟨?_, HC256.out, by have := HCL.out; show C.length ≤ _; omega⟩, HCL.out⟩
      rw [← HCL.out]
      exact ho5
    have q2 := block_cell HA.out.1 2
    simp at q2
    have hl0 : w.heap.size < W2.heap.size := by omega
    have hl1 : w.heap.size + 1 < W2.heap.size := by omega
    have hne1 : ¬ w.heap.size = w.heap.size + 1 := by omega
    have HBASE : Hid (W2.heap.size ≤ W2.heap.size) := Nat.le_refl _
    clear s2 HA HOK
    go_enter Try.func30, Try.ntmps30
    go_upto_region 1 with fail
    rw [HW2.out]
    clear HW2
    go_wp2_with (at_builtin; refine wpList_append_ext _ rfl _ _ 35 rfl W2.heap.size 5 j0 (.int .u8 0) Try.underlying35 hj hy0 hy1 hy2 rfl (.slice none 0 0) 0 [] rfl (World.ownsRow_nil _ _ _ _) ⟨cb, coff, none⟩ cn cc (vals C) rfl hlv HS7.out (vals_one' C) hpos (by omega) HBASE.out ?_; intro v5 w1 ho5 hx5; obtain ⟨g5, cap5, hv5, G5⟩ := HMK.out v5 w1 ho5 hx5; clear ho5 hx5 q2; subst hv5; obtain ⟨a1, a2⟩ := BX.out w1 G5.out.1; have q0 := block_cell a1 0; have q1 := block_cell a1 1; have q2 := block_cell a1 2; have z0 := block_cell a2 0; have z1 := block_cell a2 1; have z2 := block_cell a2 2; have f2 := block_free a1 2; have g0 := block_free a2 0; have g1 := block_free a2 1; have g2 := block_free a2 2; have hs0 := block_lt a1; have hs1 := block_lt a2; simp at q0 q1 q2 z0 z1 z2; have F2 := hide (FIN.out w1 _ _ G5.out.1 G5.out.2); clear a1 a2)
    refine bodyPost_ret (v := .agg #[.int .u64 (cl : Int), .int .u64 (sq : Int), .slice (some ⟨g5, 0, none⟩) cn cap5]) (by simp [results, Try.results30, go_sem, z0, z1, z2]) rfl ?_
    exact ⟨_, _, rfl, F2.out _ _ _ _⟩
end Go.Proofs.Ythfbimbadkmhhaa
namespace Go.Proofs.Ythfbimbadkmhhaa
open Go.RowKit Crc

theorem append_none_q (a b : Option Addr) (n c m : Nat) (hn : n ≤ c) (w : World) : (Builtin.append_ #[67, 67] 67 #[.slice a n c, .slice b 0 m]).run Try.prog w = .ok (.slice a n c) w := by
  obtain ⟨i0, hi, hz0, hz1, hz2⟩ := info_parts infoReq
  cases a <;> cases b <;> simp [Builtin.append_, run_underlying Try.underlying67, sizeOf, typeInfo, hi, storeCells, go_sem, hn]
theorem rcells_append (a b : List Rq) : rcells (a ++ b) = rcells a ++ rcells b := by simp [rcells]
theorem rcells_one (rs : List Rq) : ∀ u ∈ rcells rs, u.oneCell' = true := by
  intro u hu
  simp only [rcells, List.mem_flatten, List.mem_map] at hu
  obtain ⟨l, ⟨r, _, rfl⟩, hu⟩ := hu
  simp [Rq.cells] at hu
  rcases hu with rfl | rfl | rfl <;> rfl
/-- What comes out where two queues are joined. -/
def JoinR (W : World) (fp : Nat → Prop) (po : Option Addr) (n pc : Nat) (vals : List Rv) (ao : Option Addr) (m cap : Nat) (W' : World) : Prop :=
  ∃ fp' rs, m = rs.length ∧ Qs W' fp' (.slice ao m cap) rs ∧ rs.map Rq.val = vals ∧ Fe W W' (fun b => (Value.slice po n pc).ownBlock = some b) ∧ (∀ b, fp' b → fp b ∨ (W.heap.size ≤ b ∧ b < W'.heap.size)) ∧ (∀ b, fp b → fp' b)
theorem src_cells {W : World} {ao : Option Addr} {rs : List Rq} {b : Nat} (h : Rqs W.heap.size W ao rs b 0) (k : Nat) (hk : k ≤ rs.length) : ∀ j u, (rcells (rs.take k))[j]? = some u → W.cell? ((⟨b, 0, none⟩ : Addr).add j) = some u := by
  intro j u hu
  have hj : j < k * 3 := by
    have := (List.getElem?_eq_some_iff.1 hu).1
    rw [rcells_len, List.length_take] at this
    have e : min k rs.length = k := by omega
    rw [e] at this
    exact this
  have hi : j / 3 < rs.length := by omega
  have hr : rs[j / 3]? = some rs[j / 3] := List.getElem?_eq_getElem hi
  have hr' : (rs.take k)[j / 3]? = some rs[j / 3] := by rw [List.getElem?_take, if_pos (by omega)]; exact hr
  have h3 : j % 3 < 3 := Nat.mod_lt _ (by omega)
  have hc : rs[j / 3].cells[j % 3]? = some (rs[j / 3].cells[j % 3]'(by simpa [Rq.cells] using h3)) := Array.getElem?_eq_getElem _
  have e1 := rcells_at (rs.take k) (j / 3) _ hr' (j % 3) _ hc
  have e3 : j / 3 * 3 + j % 3 = j := by omega
  rw [e3, hu] at e1
  cases e1
  have := h.at_ (j / 3) _ hr (j % 3) _ hc
  rw [add_at]
  rw [show 0 + j / 3 * 3 + j % 3 = 0 + j by omega] at this
  exact this
set_option maxRecDepth 10000 in
set_option maxHeartbeats 1600000 in
theorem joined_a {W : World} {fp : Nat → Prop} {po qo : Option Addr} {pc tc : Nat} {ps ts : List Rq} (n m R : Nat) (hn : ps.length = n) (hm : ts.length = m) (hR : (32 : Int) - (n : Int) = (R : Int)) (h : m < R) (hp : Qs W fp (.slice po n pc) ps) (ht : Qs W fp (.slice qo m tc) ts) :
    Calls Try.prog 48 #[.slice po n pc, .slice qo m tc] W fun e W' => ∃ ao mm cap, e = .returned (.slice ao mm cap) ∧ Hid (JoinR W fp po n pc (ps.map Rq.val ++ (ts.take m).map Rq.val) ao mm cap W') := by
  obtain ⟨i0, hi, hz0, hz1, hz2⟩ := info_parts infoReq
  obtain ⟨ao, cap, pb, e1, hpc, hP⟩ := hp.form
  obtain ⟨ao2, cap2, tb, e2, htc, hT⟩ := ht.form
  simp only [Value.slice.injEq] at e1 e2
  obtain ⟨rfl, -, rfl⟩ := e1
  obtain ⟨rfl, -, rfl⟩ := e2
  have hpl := hp.le
  have htl := ht.le
  have HP := hide hp
  have HT := hide ht
  have HTR := hide hT
  have HN := hide hn
  have HM := hide hm
  rw [hn] at hpc hpl
  rw [hm] at htc htl
  have HKM : Hid (m ≤ m ∧ n + m ≤ 32) := by show _ ∧ _; omega
  have hkm : (m : Int) ≤ tc := by omega
  have hx : (m : Int) < (R : Int) := by omega
  clear hp ht hP hT hn hm h
  by_cases hk0 : m = 0
  · have HR : Hid (JoinR W fp po n pc (ps.map Rq.val ++ (ts.take m).map Rq.val) po n pc W) := by
      refine ⟨fp, ps, HN.out.symm, HP.out, by rw [hk0]; simp, Fe.refl _ _, fun b hb => .inl hb, fun b hb => hb⟩
    have HAN := hide (fun wx => append_none_q po qo n pc tc (by omega) wx)
    have HZ := hide hk0
    clear hk0
    go_enter Try.func48, Try.ntmps48
    go_wp2_with (at_builtin; refine wpList_append_nothing rfl _ _ 67 rfl _ _ rfl rfl (by rw [HZ.out]; exact HAN.out _) ?_)
    go_ret
    exact ⟨_, _, _, rfl, HR.out⟩
  · obtain rfl := HTR.out.ad (by have := HM.out; have := HKM.out; omega)
    have HNX : Hid (∀ v' w2, w2.ownsRow 0 37 3 v' (n + m) (rcells ps ++ rcells (ts.take m)) → W.grownBy w2 (Value.slice po n pc).ownBlock → (v'.ownBlock = (Value.slice po n pc).ownBlock ∨ v'.ownBlock = some W.heap.size) → ∃ ao cap, v' = .slice ao (n + m) cap ∧ Hid (JoinR W fp po n pc (ps.map Rq.val ++ (ts.take m).map Rq.val) ao (n + m) cap w2)) := by
      intro v' w2 ho hg hv
      have hkt : m ≤ ts.length := by have := HM.out; have := HKM.out; omega
      have hlen : (ps ++ ts.take m).length = n + m := by rw [List.length_append, List.length_take, HN.out]; omega
      obtain ⟨g, cp, rfl⟩ : ∃ g cp, v' = .slice (some ⟨g, 0, none⟩) (n + m) cp := by
        rcases ho.2 with ⟨_, h0⟩ | ⟨g, cp, _, rfl, _⟩
        · omega
        · exact ⟨g, cp, rfl⟩
      have hgl : g < w2.heap.size := (ho.lt g rfl).2
      have hf : Fe W w2 (fun b => (Value.slice po n pc).ownBlock = some b) := Fe.grown hg (fun x e => e)
      refine ⟨_, cp, rfl, fun b => fp b ∨ (W.heap.size ≤ b ∧ b < w2.heap.size), ps ++ ts.take m, hlen.symm, ⟨?_, ?_, ?_, ?_, by have := HKM.out; omega⟩, by simp, hf, fun b hb => hb, fun b hb => .inl hb⟩
      · rw [hlen, rcells_append]; exact ho
      · intro b hb
        rcases hv with hv | hv
        · exact .inl (HP.out.blk b (hv.symm.trans hb))
        · rw [hv] at hb
          cases hb
          refine .inr ⟨Nat.le_refl _, ?_⟩
          have : g = W.heap.size := by simpa [Value.ownBlock] using hv
          omega
      · intro r hr
        have hne : ∀ r, Cq 0 W r → ∀ b, (Value.slice r.co r.cn r.cc).ownBlock = some b → ¬ (Value.slice po n pc).ownBlock = some b := fun r hq b hb hc => by
          rcases rows_ne hq.ow.1 HP.out.row (by decide) with h0 | h0
          · rw [h0] at hb; cases hb
          · exact h0 (hb.trans hc.symm)
        rcases List.mem_append.1 hr with hr | hr
        · exact (HP.out.cq r hr).fe hf (hne r (HP.out.cq r hr))
        · exact (HT.out.cq r (List.mem_of_mem_take hr)).fe hf (hne r (HT.out.cq r (List.mem_of_mem_take hr)))
      · intro r hr b hb
        rcases List.mem_append.1 hr with hr | hr
        · exact .inl (HP.out.cb r hr b hb)
        · exact .inl (HT.out.cb r (List.mem_of_mem_take hr) b hb)
    have HSC := hide (src_cells HTR.out m (by have := HM.out; have := HKM.out; omega))
    have HSL : Hid ((rcells (ts.take m)).length = m * 3) := by show _ = _; rw [rcells_len, List.length_take, HM.out]; have := HKM.out; congr 1; omega
    have HRW : Hid (W.ownsRow 0 37 3 (.slice po n pc) n (rcells ps)) := by have := HP.out.row; rw [HN.out] at this; exact this
    have HB1 : Hid (n + m ≤ maxLen ∧ (n + m) * 40 ≤ 140737488355328) := by have := HKM.out; unfold maxLen; exact ⟨by omega, by omega⟩
    go_enter Try.func48, Try.ntmps48
    go_wp2_with (at_builtin; refine wpList_append_own_at _ rfl (.tmp 9) (.tmp 15) 67 rfl 0 37 i0 (.agg #[.int .u64 0, .int .u64 0, .slice none 0 0]) 3 40 Try.underlying67 hi hz0 hz1 hz2 rfl (by decide) (.slice po n pc) n (rcells ps) rfl HRW.out ⟨tb, 0, none⟩ m tc (rcells (ts.take m)) rfl HSL.out HSC.out (rcells_one _) HB1.out.1 HB1.out.2 (Nat.zero_le _) ?_; intro v' w2 ho hg _ hv; obtain ⟨ao, cp, hv', G⟩ := HNX.out v' w2 ho hg hv; clear ho hg hv; subst hv')
    go_ret
    exact ⟨_, _, _, rfl, G.out⟩
set_option maxRecDepth 10000 in
set_option maxHeartbeats 1600000 in
theorem joined_b {W : World} {fp : Nat → Prop} {po qo : Option Addr} {pc tc : Nat} {ps ts : List Rq} (n m R : Nat) (hn : ps.length = n) (hm : ts.length = m) (hR : (32 : Int) - (n : Int) = (R : Int)) (h : R ≤ m) (hp : Qs W fp (.slice po n pc) ps) (ht : Qs W fp (.slice qo m tc) ts) :
    Calls Try.prog 48 #[.slice po n pc, .slice qo m tc] W fun e W' => ∃ ao mm cap, e = .returned (.slice ao mm cap) ∧ Hid (JoinR W fp po n pc (ps.map Rq.val ++ (ts.take R).map Rq.val) ao mm cap W') := by
  obtain ⟨i0, hi, hz0, hz1, hz2⟩ := info_parts infoReq
  obtain ⟨ao, cap, pb, e1, hpc, hP⟩ := hp.form
  obtain ⟨ao2, cap2, tb, e2, htc, hT⟩ := ht.form
  simp only [Value.slice.injEq] at e1 e2
  obtain ⟨rfl, -, rfl⟩ := e1
  obtain ⟨rfl, -, rfl⟩ := e2
  have hpl := hp.le
  have htl := ht.le
  have HP := hide hp
  have HT := hide ht
  have HTR := hide hT
  have HN := hide hn
  have HM := hide hm
  rw [hn] at hpc hpl
  rw [hm] at htc htl
  have HKM : Hid (R ≤ m ∧ n + R ≤ 32) := by show _ ∧ _; omega
  have hkm : (R : Int) ≤ tc := by omega
  have hx : ((m : Int) < (R : Int)) = False := by simp; omega
  clear hp ht hP hT hn hm h
  by_cases hk0 : R = 0
  · have HR : Hid (JoinR W fp po n pc (ps.map Rq.val ++ (ts.take R).map Rq.val) po n pc W) := by
      refine ⟨fp, ps, HN.out.symm, HP.out, by rw [hk0]; simp, Fe.refl _ _, fun b hb => .inl hb, fun b hb => hb⟩
    have HAN := hide (fun wx => append_none_q po qo n pc tc (by omega) wx)
    have HZ := hide hk0
    clear hk0
    go_enter Try.func48, Try.ntmps48
    go_wp2_with (at_builtin; refine wpList_append_nothing rfl _ _ 67 rfl _ _ rfl rfl (by rw [HZ.out]; exact HAN.out _) ?_)
    go_ret
    exact ⟨_, _, _, rfl, HR.out⟩
  · obtain rfl := HTR.out.ad (by have := HM.out; have := HKM.out; omega)
    have HNX : Hid (∀ v' w2, w2.ownsRow 0 37 3 v' (n + R) (rcells ps ++ rcells (ts.take R)) → W.grownBy w2 (Value.slice po n pc).ownBlock → (v'.ownBlock = (Value.slice po n pc).ownBlock ∨ v'.ownBlock = some W.heap.size) → ∃ ao cap, v' = .slice ao (n + R) cap ∧ Hid (JoinR W fp po n pc (ps.map Rq.val ++ (ts.take R).map Rq.val) ao (n + R) cap w2)) := by
      intro v' w2 ho hg hv
      have hkt : R ≤ ts.length := by have := HM.out; have := HKM.out; omega
      have hlen : (ps ++ ts.take R).length = n + R := by rw [List.length_append, List.length_take, HN.out]; omega
      obtain ⟨g, cp, rfl⟩ : ∃ g cp, v' = .slice (some ⟨g, 0, none⟩) (n + R) cp := by
        rcases ho.2 with ⟨_, h0⟩ | ⟨g, cp, _, rfl, _⟩
        · omega
        · exact ⟨g, cp, rfl⟩
      have hgl : g < w2.heap.size := (ho.lt g rfl).2
      have hf : Fe W w2 (fun b => (Value.slice po n pc).ownBlock = some b) := Fe.grown hg (fun x e => e)
      refine ⟨_, cp, rfl, fun b => fp b ∨ (W.heap.size ≤ b ∧ b < w2.heap.size), ps ++ ts.take R, hlen.symm, ⟨?_, ?_, ?_, ?_, by have := HKM.out; omega⟩, by simp, hf, fun b hb => hb, fun b hb => .inl hb⟩
      · rw [hlen, rcells_append]; exact ho
      · intro b hb
        rcases hv with hv | hv
        · exact .inl (HP.out.blk b (hv.symm.trans hb))
        · rw [hv] at hb
          cases hb
          refine .inr ⟨Nat.le_refl _, ?_⟩
          have : g = W.heap.size := by simpa [Value.ownBlock] using hv
          omega
      · intro r hr
        have hne : ∀ r, Cq 0 W r → ∀ b, (Value.slice r.co r.cn r.cc).ownBlock = some b → ¬ (Value.slice po n pc).ownBlock = some b := fun r hq b hb hc => by
          rcases rows_ne hq.ow.1 HP.out.row (by decide) with h0 | h0
          · rw [h0] at hb; cases hb
          · exact h0 (hb.trans hc.symm)
        rcases List.mem_append.1 hr with hr | hr
        · exact (HP.out.cq r hr).fe hf (hne r (HP.out.cq r hr))
        · exact (HT.out.cq r (List.mem_of_mem_take hr)).fe hf (hne r (HT.out.cq r (List.mem_of_mem_take hr)))
      · intro r hr b hb
        rcases List.mem_append.1 hr with hr | hr
        · exact .inl (HP.out.cb r hr b hb)
        · exact .inl (HT.out.cb r (List.mem_of_mem_take hr) b hb)
    have HSC := hide (src_cells HTR.out R (by have := HM.out; have := HKM.out; omega))
    have HSL : Hid ((rcells (ts.take R)).length = R * 3) := by show _ = _; rw [rcells_len, List.length_take, HM.out]; have := HKM.out; congr 1; omega
    have HRW : Hid (W.ownsRow 0 37 3 (.slice po n pc) n (rcells ps)) := by have := HP.out.row; rw [HN.out] at this; exact this
    have HB1 : Hid (n + R ≤ maxLen ∧ (n + R) * 40 ≤ 140737488355328) := by have := HKM.out; unfold maxLen; exact ⟨by omega, by omega⟩
    go_enter Try.func48, Try.ntmps48
    go_wp2_with (at_builtin; refine wpList_append_own_at _ rfl (.tmp 9) (.tmp 15) 67 rfl 0 37 i0 (.agg #[.int .u64 0, .int .u64 0, .slice none 0 0]) 3 40 Try.underlying67 hi hz0 hz1 hz2 rfl (by decide) (.slice po n pc) n (rcells ps) rfl HRW.out ⟨tb, 0, none⟩ R tc (rcells (ts.take R)) rfl HSL.out HSC.out (rcells_one _) HB1.out.1 HB1.out.2 (Nat.zero_le _) ?_; intro v' w2 ho hg _ hv; obtain ⟨ao, cp, hv', G⟩ := HNX.out v' w2 ho hg hv; clear ho hg hv; subst hv')
    go_ret
    exact ⟨_, _, _, rfl, G.out⟩
theorem joinedE {W : World} {fp : Nat → Prop} {po qo : Option Addr} {pc tc : Nat} {ps ts : List Rq} (hp : Qs W fp (.slice po ps.length pc) ps) (ht : Qs W fp (.slice qo ts.length tc) ts) :
    Calls Try.prog 48 #[.slice po ps.length pc, .slice qo ts.length tc] W fun e W' => ∃ ao m cap, e = .returned (.slice ao m cap) ∧ Hid (JoinR W fp po ps.length pc (ps.map Rq.val ++ (ts.map Rq.val).take (32 - ps.length)) ao m cap W') := by
  have hpl := hp.le
  rw [← List.map_take]
  by_cases h : ts.length < 32 - ps.length
  · have := joined_a ps.length ts.length (32 - ps.length) rfl rfl (by omega) h hp ht
    rw [List.take_of_length_le (Nat.le_refl _)] at this
    rw [List.take_of_length_le (Nat.le_of_lt h)]
    exact this
  · exact joined_b ps.length ts.length (32 - ps.length) rfl rfl (by omega) (by omega) hp ht
end Go.Proofs.Ythfbimbadkmhhaa
namespace Go.Proofs.Ythfbimbadkmhhaa
open Go.RowKit Crc

theorem EL.upd {W : World} {eb g : Nat} {c : Cf} {me : Nat} {fp : Nat → Prop} {x : Ex} (h : EL W eb g c me fp x) (j : Nat) (v : Value) (n : Nat) (m : Int) (s l f : Nat)
    (hx : (x.cells g me).setIfInBounds j v = (Ex.mk n m s l f x.po x.pc x.ps x.qo x.tc x.ts).cells g me)
    (n1 : 1 ≤ n) (va : c.valid n m = true) (su : s < 4294967296) (l1 : 1 ≤ l) (l2 : l ≤ c.em) (f2 : f ≤ 1099511627776) :
    EL (W.setCell ⟨eb, j, none⟩ v) eb g c me fp ⟨n, m, s, l, f, x.po, x.pc, x.ps, x.qo, x.tc, x.ts⟩ ∧ Fe W (W.setCell ⟨eb, j, none⟩ v) (Mine eb fp) := by
  have hf : Fe W (W.setCell ⟨eb, j, none⟩ v) (fun b => b = eb) := Fe.grown (grown_set W eb j v) (fun y e => by cases e; rfl)
  refine ⟨⟨?_, (hf.block _ (block_lt h.grp) (fun e => h.neg e.symm)).trans h.grp, h.qp.fe hf (fun b hb e => h.feb (e ▸ hb)), h.qt.fe hf (fun b hb e => h.feb (e ▸ hb)), h.ap, fun b hb => by simpa using h.flt b hb, h.feb, h.fg, n1, va, su, l1, l2, f2⟩, hf.wide (fun b e => .inl e)⟩
  rw [heap_setCell_same W eb j _ _ v h.blk, hx]
def Ev.begin (s : Ev) (now : Nat) : Ev := ⟨s.num, s.node, s.sus, s.len, addB now s.len 1099511627776, s.pv ++ s.th.take (32 - s.pv.length), []⟩
theorem drewN_below (W : World) (q : Nat) : Below W.heap.size W (W.drewN q) := ⟨rfl, rfl, rfl, Nat.le_refl _, fun _ _ => rfl⟩
theorem begin_fin {W W1 w3 : World} {eb g : Nat} {c : Cf} {me : Nat} {fp : Nat → Prop} {x1 : Ex} (h1 : EL W1 eb g c me fp x1) (F1 : Fe W W1 (Mine eb fp)) (hbs : W1.heap.size = W.heap.size) (q : Nat) {vs : List Rv} {ao : Option Addr} {m cap : Nat} (J : JoinR (W1.drewN q) fp x1.po x1.ps.length x1.pc vs ao m cap w3) :
    (w3.heap[eb]? = some (.cells (x1.cells g me) 69 (0, 0))) ∧ Did W eb g c me fp ⟨x1.num, x1.node, x1.sus, x1.len, x1.fin, vs, []⟩ ((w3.setCell ⟨eb, 7, none⟩ (.slice ao m cap)).setCell ⟨eb, 8, none⟩ (.slice none 0 0)) := by
  obtain ⟨fp', rs, rfl, hq, hv, hf, hn, hsub⟩ := J
  have hd := h1.kept (drewN_below W1 q)
  have tn : ∀ b, (Value.slice x1.po x1.ps.length x1.pc).ownBlock = some b → fp b := h1.qp.blk
  have hf' : Fe W1 w3 (fun b => (Value.slice x1.po x1.ps.length x1.pc).ownBlock = some b) := ⟨hf.os, hf.tape, hf.output, hf.size, hf.block⟩
  have heb : w3.heap[eb]? = some (.cells (x1.cells g me) 69 (0, 0)) := (hf'.block _ h1.lt (fun e => h1.feb (tn _ e))).trans h1.blk
  have hg : w3.heap[g]? = some (.cells c.cells 101 (0, 0)) := (hf'.block _ (block_lt h1.grp) (fun e => h1.fg (tn _ e))).trans h1.grp
  refine ⟨heb, fp', ⟨x1.num, x1.node, x1.sus, x1.len, x1.fin, ao, cap, rs, none, 0, []⟩, ?_, ?_, ?_, ?_⟩
  · have s1 : ∀ b, fp' b → b ≠ eb := fun b hb e => by
      subst e
      rcases hn b hb with hb | hb
      · exact h1.feb hb
      · have := h1.lt; have := hb.1; simp at this; omega
    have s2 : ¬ fp' g := fun hb => by
      rcases hn g hb with hb | hb
      · exact h1.fg hb
      · have := block_lt h1.grp; have := hb.1; simp at this; omega
    have f1 : Fe w3 (w3.setCell ⟨eb, 7, none⟩ (.slice ao rs.length cap)) (fun b => b = eb) := Fe.grown (grown_set _ eb 7 _) (fun y e => by cases e; rfl)
    have f2 : Fe (w3.setCell ⟨eb, 7, none⟩ (.slice ao rs.length cap)) ((w3.setCell ⟨eb, 7, none⟩ (.slice ao rs.length cap)).setCell ⟨eb, 8, none⟩ (.slice none 0 0)) (fun b => b = eb) := Fe.grown (grown_set _ eb 8 _) (fun y e => by cases e; rfl)
    have f12 := f1.trans f2 (fun _ _ e => e)
    have hne := h1.neg
    refine ⟨?_, (f12.block _ (block_lt hg) (fun e => hne e.symm)).trans hg, (hq.fe f12 (fun b hb e => s1 b hb e)), Qs.nil _ _, fun b _ e => (by cases e), fun b hb => ?_, fun hb => s1 eb hb rfl, s2, h1.n1, h1.va, h1.su, h1.l1, h1.l2, h1.f2⟩
    · rw [heap_setCell_same _ eb 8 _ _ _ (heap_setCell_same w3 eb 7 _ _ _ heb)]
      rfl
    · rcases hn b hb with hb | hb
      · have := h1.flt b hb; have := hf'.size; simp; omega
      · simp; exact hb.2
  · simp only [Ex.abs, hv, List.map_nil]
  · have f3 : Fe W1 ((w3.setCell ⟨eb, 7, none⟩ (.slice ao rs.length cap)).setCell ⟨eb, 8, none⟩ (.slice none 0 0)) (Mine eb fp) := by
      refine ((hf'.wide (fun b e => .inr (tn b e))).trans (Fe.grown (row := some eb) (grown_set _ eb 7 _) (T := Mine eb fp) (fun y e => by cases e; exact .inl rfl)) (fun _ _ e => e)).trans (Fe.grown (row := some eb) (grown_set _ eb 8 _) (T := Mine eb fp) (fun y e => by cases e; exact .inl rfl)) (fun _ _ e => e)
    exact F1.trans f3 (fun _ _ e => e)
  · intro b hb
    rcases hn b hb with hb | hb
    · exact .inl hb
    · right; have := hb.1; simp at this; omega

set_option maxRecDepth 10000 in
set_option maxHeartbeats 1600000 in
theorem beginE {W : World} {eb g : Nat} {c : Cf} {me : Nat} {fp : Nat → Prop} {x : Ex} (h : EL W eb g c me fp x) (hem : c.em ≤ 100000) (now : Nat) (hnow : now < 18446744073709551616) :
    Calls Try.prog 29 #[.pointer (some ⟨eb, 0, none⟩), .int .u64 (now : Nat)] W fun e W' => e = .returned (.tuple #[]) ∧ Hid (Did W eb g c me fp (x.abs.begin now) W') := by
  have q5 : W.cell? ⟨eb, 5, none⟩ = some (.int .u64 (x.len : Nat)) := h.c 5
  have q6 : W.cell? ⟨eb, 6, none⟩ = some (.int .u64 (x.fin : Nat)) := h.c 6
  have f6 := h.free 6
  have ql : eb < W.heap.size := block_lt h.blk
  have HAD := hide (add_any now x.len 1099511627776 W hnow (by have := h.l2; omega) (by omega))
  obtain ⟨fin, hfin⟩ : ∃ fin, addB now x.len 1099511627776 = fin := ⟨_, rfl⟩
  have hf2 : fin ≤ 1099511627776 := by rw [← hfin]; unfold addB; split <;> omega
  rw [hfin] at HAD
  have U := h.upd 6 (.int .u64 (fin : Nat)) x.num x.node x.sus x.len fin rfl h.n1 h.va h.su h.l1 h.l2 hf2
  have H1 := hide U.1
  have F1 := hide U.2
  have HEV : Hid (x.abs.begin now = ⟨x.num, x.node, x.sus, x.len, fin, x.ps.map Rq.val ++ (x.ts.map Rq.val).take (32 - x.ps.length), []⟩) := by
    show _ = _
    unfold Ev.begin Ex.abs
    simp only [hfin, List.length_map]
  rw [HEV.out]
  obtain ⟨W1, hW1⟩ : ∃ W1, W.setCell ⟨eb, 6, none⟩ (.int .u64 (fin : Nat)) = W1 := ⟨_, rfl⟩
  rw [hW1] at H1 F1
  have HS : Hid (W1.heap.size = W.heap.size) := by show _ = _; rw [← hW1]; simp
  have HW1 := hide hW1
  clear U HEV h hf2 hfin hnow hem hW1
  have p7 : W1.cell? ⟨eb, 7, none⟩ = some (.slice x.po x.ps.length x.pc) := H1.out.c 7
  have p8 : W1.cell? ⟨eb, 8, none⟩ = some (.slice x.qo x.ts.length x.tc) := H1.out.c 8
  have pl : eb < W1.heap.size := block_lt H1.out.blk
  have HJ : Hid (∀ q, Calls Try.prog 48 #[.slice x.po x.ps.length x.pc, .slice x.qo x.ts.length x.tc] (W1.drewN q) fun e W' => ∃ ao m cap, e = .returned (.slice ao m cap) ∧ Hid (W'.heap[eb]? = some (.cells ((Ex.mk x.num x.node x.sus x.len fin x.po x.pc x.ps x.qo x.tc x.ts).cells g me) 69 (0, 0)) ∧ Did W eb g c me fp ⟨x.num, x.node, x.sus, x.len, fin, x.ps.map Rq.val ++ (x.ts.map Rq.val).take (32 - x.ps.length), []⟩ ((W'.setCell ⟨eb, 7, none⟩ (.slice ao m cap)).setCell ⟨eb, 8, none⟩ (.slice none 0 0)))) := fun q => by
    have hd := H1.out.kept (drewN_below W1 q)
    refine (joinedE hd.qp hd.qt).mono ?_
    rintro e W' ⟨ao, m, cap, rfl, J⟩
    exact ⟨ao, m, cap, rfl, begin_fin H1.out F1.out HS.out q J.out⟩
  clear H1 F1 HS
  generalize (fin : Int) = fi at *
  generalize (now : Int) = nw at *
  generalize (x.len : Int) = ln at *
  generalize (x.fin : Int) = f0 at *
  unfold Ex.cells at HJ
  simp only at HJ
  generalize x.ps.length = pn at *
  generalize x.ts.length = tn at *
  generalize x.po = po at *
  generalize x.pc = pc at *
  generalize x.qo = qo at *
  generalize x.tc = tc at *
  go_enter Try.func29, Try.ntmps29
  go_upto_region 1 with (go_at_call 47; refine HAD.out.mono ?_; rintro e w1 ⟨rfl, rfl⟩)
  rw [HW1.out]
  clear HW1 q5 q6 f6 ql HAD
  go_region_with ((go_at_call 48; refine (HJ.out _).mono ?_; rintro e w3 ⟨ao, m, cap, rfl, G⟩; have z7 := block_cell G.out.1 7; have z8 := block_cell G.out.1 8; have f7 := block_free G.out.1 7; have f8 := block_free G.out.1 8; have zl := block_lt G.out.1; simp at z7 z8))
  all_goals go_wp2
  all_goals go_end0
  all_goals exact ⟨rfl, G.out.2⟩
end Go.Proofs.Ythfbimbadkmhhaa
