import Derived.Test.YthfbimbadkmhhaaMGC
import Derived.Laws.Externs
import Derived.Test.YthfbimbadkmhhaaMBJoin
import Derived.Test.YthfbimbadkmhhaaMGB
namespace Go.Proofs.Ythfbimbadkmhhaa
open Go.RowKit

/-- The program's group, as it lies: c's cells. -/
def PG (W : World) (a : Option Addr) (c : Cf) : Prop := ∃ p, a = some ⟨p, 0, none⟩ ∧ W.heap[p]? = some (.cells c.cells 101 (0, 0))
theorem PG.kept {W W' : World} {a : Option Addr} {c : Cf} (h : PG W a c) (hb : Below W.heap.size W W') : PG W' a c := by
  obtain ⟨p, h1, h2⟩ := h
  exact ⟨p, h1, (hb.block _ (block_lt h2)).trans h2⟩
theorem PG.cells {W : World} {a : Option Addr} {c : Cf} (h : PG W a c) : ∃ p, a = some ⟨p, 0, none⟩ ∧ p < W.heap.size ∧ W.cell? ⟨p, 0, none⟩ = some (.int .i64 c.f) ∧ W.cell? ⟨p, 3, none⟩ = some (.int .u64 (c.win : Nat)) ∧ W.cell? ⟨p, 8, none⟩ = some (.int .u64 (c.mn : Nat)) ∧ W.cell? ⟨p, 9, none⟩ = some (.int .u64 (c.ms : Nat)) := by
  obtain ⟨p, h1, h2⟩ := h
  exact ⟨p, h1, block_lt h2, block_cell h2 0, block_cell h2 3, block_cell h2 8, block_cell h2 9⟩
/-- No group that New made: nil, or one whose F is 0. -/
def Dead (W : World) (a : Option Addr) : Prop := a = none ∨ ∃ p, a = some ⟨p, 0, none⟩ ∧ p < W.heap.size ∧ W.cell? ⟨p, 0, none⟩ = some (.int .i64 0)
theorem Dead.kept {W W' : World} {a : Option Addr} (h : Dead W a) (hb : Below W.heap.size W W') : Dead W' a := by
  rcases h with h | ⟨p, h1, h2, h3⟩
  · exact .inl h
  · exact .inr ⟨p, h1, Nat.lt_of_lt_of_le h2 hb.size, (hb.cell (p := ⟨p, 0, none⟩) h2).trans h3⟩
set_option maxRecDepth 10000 in
set_option maxHeartbeats 400000 in
theorem made_dead {w : World} {a : Option Addr} (h : Dead w a) :
    Calls Try.prog 45 #[.pointer a] w fun e w' => e = .returned (.bool false) ∧ w' = w := by
  rcases h with rfl | ⟨p, rfl, _, hc⟩
  · go_enter Try.func45, Try.ntmps45
    go_wp2
    go_ret
    exact ⟨rfl, rfl⟩
  · go_enter Try.func45, Try.ntmps45
    go_wp2
    go_ret
    exact ⟨rfl, rfl⟩
set_option maxRecDepth 10000 in
set_option maxHeartbeats 400000 in
theorem made_live {w : World} {a : Option Addr} {c : Cf} (h : PG w a c) (hk : c.Ok) :
    Calls Try.prog 45 #[.pointer a] w fun e w' => e = .returned (.bool true) ∧ w' = w := by
  obtain ⟨p, rfl, _, hc, -, -, -⟩ := h.cells
  have h1 := hk.f1
  clear h hk
  generalize c.f = f at *
  go_enter Try.func45, Try.ntmps45
  go_wp2
  go_ret
  exact ⟨by simp; omega, rfl⟩
end Go.Proofs.Ythfbimbadkmhhaa
namespace Go.Proofs.Ythfbimbadkmhhaa
open Go.RowKit

set_option maxRecDepth 10000 in
set_option maxHeartbeats 400000 in
theorem refusalB {w : World} (at_ : Int) (c : Int) : Calls Try.prog 44 #[.int .i64 at_, .iface 44 (.int .i64 c)] w fun e w' => ∃ g, e = .returned (.iface 102 (.pointer (some ⟨g, 0, none⟩))) ∧ Hid (Chain w'.heap.size w' [⟨ballotN, at_⟩] (.iface 102 (.pointer (some ⟨g, 0, none⟩))) c ∧ Below w.heap.size w w') := by
  have HB : Hid (∀ o, Below w.heap.size w (w.alloc o)) := fun o => (Below.refl _ _).alloc (Nat.le_refl _) _
  have HC : Hid (∀ t, (w.alloc (.cells #[.string ballotN, .int .i64 at_, .iface 44 (.int .i64 c)] t)).heap[w.heap.size]? = some (.cells #[.string ballotN, .int .i64 at_, .iface 44 (.int .i64 c)] t (0, 0))) := fun t => alloc_atK _ _
  go_enter Try.func44, Try.ntmps44
  go_wp2
  go_ret
  exact ⟨_, rfl, ⟨_, _, rfl, block_lt (HC.out _), block_cell (HC.out _) 0, block_cell (HC.out _) 1, block_cell (HC.out _) 2, rfl⟩, HB.out _⟩
end Go.Proofs.Ythfbimbadkmhhaa
namespace Go.Proofs.Ythfbimbadkmhhaa
open Go.RowKit

section
variable {P : Program} {ops : Array Oper} {Q : Exit → Act → World → Prop} {a : Act} {w : World}
/-- A region's operations, the first n first. -/
theorem wpList_split (n : Nat) {L : List Oper} (h : ∀ R : Act → World → Prop, Hid (∀ a w, wpList P ops Q (L.drop n) a w → R a w) → wpList P ops (OnlyN R) (L.take n) a w) : wpList P ops Q L a w := by
  have e := wpList_join (P := P) (ops := ops) (Q := Q) (R := wpList P ops Q (L.drop n)) (l2 := L.drop n) (fun _ _ h => h) (L.take n) a w (h _ (fun _ _ h => h))
  rw [List.take_append_drop] at e
  exact e
end
/-- An operation with a known run. -/
theorem op_value {P : Program} {o : Oper} {a : Act} {w w' : World} {K : Act → World → Prop} {Q : Exit → Act → World → Prop} {v : Value} (e : (execOp a.eval o).run P w = .ok (.value v) w') (h : K (a.put o.dst v) w') : Oper.wp P o a w K Q := by
  unfold Oper.wp
  rw [e]
  exact h
theorem op_pure {P : Program} {o : Oper} {a : Act} {w : World} {K : Act → World → Prop} {Q : Exit → Act → World → Prop} {v : Value} (e : (execOp a.eval o).run P w = .ok (.value v) w) (h : K (a.put o.dst v) w) : Oper.wp P o a w K Q := op_value e h
theorem exec_build {P : Program} {o : Oper} {a : Act} {w : World} {t : TypeId} {parts : Array (Nat × Operand)} {V : Value} (ho : o.op = .build t parts) (h : (Instr.build t (parts.map fun x => (x.1, a.eval x.2))).run P w = .ok V w) : (execOp a.eval o).run P w = .ok (.value V) w := by
  unfold execOp
  simp only [ho, Sem.run_bind, h, Result.andThen_ok, Sem.run_pure]
theorem wpList_pure {P : Program} {ops : Array Oper} {rest : List Oper} {op : Oper} {a : Act} {w : World} {Q : Exit → Act → World → Prop} {v : Value} (hgd : op.guard = none) (e : (execOp a.eval op).run P w = .ok (.value v) w) (h : wpList P ops Q rest (a.put op.dst v) w) : wpList P ops Q (op :: rest) a w :=
  wpList_plain hgd fun _ hK => op_pure e (hK _ _ h)
theorem grown_setCells (b : Nat) : ∀ (vs : List Value) (o : Nat) (w : World), w.grownBy (w.setCells b o vs) (some b)
  | [], _, w => ⟨rfl, rfl, rfl, Nat.le_refl _, fun _ _ _ => rfl⟩
  | v :: r, o, w => by
    rw [World.setCells]
    exact grown_trans (row := some b) (grown_set w b o v) (grown_setCells b r (o + 1) _)
theorem there_new {w : World} {Z : Array Value} {t : TypeId} {n : Nat} (h : n ≤ Z.size) : (w.alloc (.cells Z t)).there w.heap.size 0 n := fun j hj => by
  have hb := alloc_atK w (.cells Z t)
  rw [Nat.zero_add, block_cell hb j]
  exact ⟨by rw [Array.getElem?_eq_getElem (by omega)]; rfl, block_free hb j⟩
theorem below_setCells {B b o : Nat} {w W : World} {vs : List Value} (h : Below B w W) (hb : B ≤ b) (hB : B ≤ W.heap.size) : Below B w (W.setCells b o vs) := h.grown (grown_setCells b vs o W) hB (fun k e => by cases e; exact hb)
end Go.Proofs.Ythfbimbadkmhhaa
namespace Go.Proofs.Ythfbimbadkmhhaa
open Go.RowKit

/-- A field's number, and what it may be. -/
def Cf.bnds (c : Cf) : List (Int × Int × Int) := [(IntKind.u64.wrap c.f, 1, 3), (IntKind.u64.wrap c.mb, 1, 8), ((c.delay : Int), 0, 1000), ((c.win : Int), 1, 8), ((c.every : Int), 1, (c.win : Int)), ((c.beat : Int), 1, 1000), ((c.ep : Int), 1, 10000), ((c.em : Int), (c.ep : Int), 100000), ((c.mn : Int), 1, 1099511627776), ((c.ms : Int), 1, 1099511627776)]
def bcells (l : List (Int × Int × Int)) : List Value := l.flatMap fun p => [Value.int .u64 p.1, .int .u64 p.2.1, .int .u64 p.2.2]
theorem bcells_one (l : List (Int × Int × Int)) : ∀ v ∈ bcells l, v.oneCell' = true := by
  intro v hv
  simp only [bcells, List.mem_flatMap, List.mem_cons, List.not_mem_nil, or_false] at hv
  obtain ⟨p, _, rfl | rfl | rfl⟩ := hv <;> rfl
theorem bcells_len (l : List (Int × Int × Int)) : (bcells l).length = l.length * 3 := by
  unfold bcells
  induction l with
  | nil => rfl
  | cons x r ih => simp only [List.flatMap_cons, List.length_append, ih, List.length_cons, List.length_nil]; omega
theorem fields_build (v0 v1 v2 v3 v4 v5 v6 v7 v8 v9 l0 l1 l2 l3 l4 l5 l6 l7 l8 l9 h0 h1 h2 h3 h4 h5 h6 h7 h8 h9 : Int) (w : World) :
    (Instr.build 98 #[(0, .agg #[.int .u64 v0, .int .u64 l0, .int .u64 h0]), (1, .agg #[.int .u64 v1, .int .u64 l1, .int .u64 h1]), (2, .agg #[.int .u64 v2, .int .u64 l2, .int .u64 h2]), (3, .agg #[.int .u64 v3, .int .u64 l3, .int .u64 h3]), (4, .agg #[.int .u64 v4, .int .u64 l4, .int .u64 h4]), (5, .agg #[.int .u64 v5, .int .u64 l5, .int .u64 h5]), (6, .agg #[.int .u64 v6, .int .u64 l6, .int .u64 h6]), (7, .agg #[.int .u64 v7, .int .u64 l7, .int .u64 h7]), (8, .agg #[.int .u64 v8, .int .u64 l8, .int .u64 h8]), (9, .agg #[.int .u64 v9, .int .u64 l9, .int .u64 h9])]).run Try.prog w
      = .ok (.agg (bcells [(v0, l0, h0), (v1, l1, h1), (v2, l2, h2), (v3, l3, h3), (v4, l4, h4), (v5, l5, h5), (v6, l6, h6), (v7, l7, h7), (v8, l8, h8), (v9, l9, h9)]).toArray) w := by kernel_rfl
theorem fields_size : (Try.prog.info? 98).map (·.size) = some 30 := by kernel_rfl
set_option maxRecDepth 10000 in
set_option maxHeartbeats 800000 in
theorem fields_any (c : Cf) (w : World) :
    Calls Try.prog 43 #[.agg c.cells] w fun e w' => e = .returned (.agg (bcells c.bnds).toArray) ∧ Below w.heap.size w w' := by
  have HB : Hid (∀ o1 o2 vs, Below w.heap.size w (((w.alloc o1).alloc o2).setCells (w.heap.size + 1) 0 vs)) := fun o1 o2 vs => below_setCells (((Below.refl _ _).alloc (Nat.le_refl _) _).alloc (by simp) _) (by omega) (by simp; omega)
  have HBD := hide fields_build
  have HT : Hid (∀ (o1 : Obj) (Z : Array Value) t, Z.size = 30 → ((w.alloc o1).alloc (.cells Z t)).there (w.heap.size + 1) 0 30) := fun o1 Z t h => by
    have := there_new (w := w.alloc o1) (Z := Z) (t := t) (n := 30) (by omega)
    rw [show (w.alloc o1).heap.size = w.heap.size + 1 by simp] at this
    exact this
  unfold Cf.bnds
  unfold Cf.cells
  generalize c.f = f at *
  generalize c.mb = mb at *
  generalize (c.delay : Int) = d at *
  generalize (c.win : Int) = wn at *
  generalize (c.every : Int) = ev at *
  generalize (c.beat : Int) = bt at *
  generalize (c.ep : Int) = ep at *
  generalize (c.em : Int) = em at *
  generalize (c.mn : Int) = mn at *
  generalize (c.ms : Int) = ms at *
  have HX : Hid (∀ w, _) := HBD.out (IntKind.u64.wrap f) (IntKind.u64.wrap mb) d wn ev bt ep em mn ms 1 1 0 1 1 1 1 ep 1 1 3 8 1000 8 wn 1000 10000 100000 1099511627776 1099511627776
  have HL : Hid ((bcells [(IntKind.u64.wrap f, 1, 3), (IntKind.u64.wrap mb, 1, 8), (d, 0, 1000), (wn, 1, 8), (ev, 1, wn), (bt, 1, 1000), (ep, 1, 10000), (em, ep, 100000), (mn, 1, 1099511627776), (ms, 1, 1099511627776)]).length = 30) := bcells_len _
  have HO := hide (bcells_one [(IntKind.u64.wrap f, 1, 3), (IntKind.u64.wrap mb, 1, 8), (d, 0, 1000), (wn, 1, 8), (ev, 1, wn), (bt, 1, 1000), (ep, 1, 10000), (em, ep, 100000), (mn, 1, 1099511627776), (ms, 1, 1099511627776)])
  generalize bcells [(IntKind.u64.wrap f, 1, 3), (IntKind.u64.wrap mb, 1, 8), (d, 0, 1000), (wn, 1, 8), (ev, 1, wn), (bt, 1, 1000), (ep, 1, 10000), (em, ep, 100000), (mn, 1, 1099511627776), (ms, 1, 1099511627776)] = cs at *
  clear HBD
  go_enter Try.func43, Try.ntmps43
  go_upto_region 1 with fail
  go_step
  refine wpList_split 36 (fun R HR => ?_)
  simp only [List.take]
  go_wp2
  refine HR.out _ _ ?_
  clear HR
  simp only [List.drop]
  refine wpList_pure rfl (exec_build (t := 98) (parts := #[(0, .tmp 6), (1, .tmp 10), (2, .tmp 13), (3, .tmp 16), (4, .tmp 21), (5, .tmp 24), (6, .tmp 27), (7, .tmp 32), (8, .tmp 35), (9, .tmp 38)]) rfl (by have h := HX.out; simpa [Act.eval] using h _)) ?_
  simp only [Act.put, List.setIfInBounds_toArray, List.set_cons_zero, List.set_cons_succ]
  refine wpList_store_mid rfl 98 _ _ rfl (w.heap.size + 1) 0 cs.toArray rfl rfl (by simpa [HL.out] using HT.out _ _ _ rfl) (by rw [List.size_toArray, HL.out]; exact fields_size) (all_oneCell_toArray HO.out) ?_
  go_wp2
  have hld := fun o1 Z t (h : Z.size = 30) => run_loadVar_mid (P := Try.prog) (((w.alloc o1).alloc (.cells Z t)).setCells (w.heap.size + 1) 0 cs) (w.heap.size + 1) 0 98 cs _ (World.rangeAt_setCells_same _ _ _ _ (by rw [HL.out]; exact HT.out o1 Z t h)) Try.underlying98 rfl (by rw [HL.out]; exact fields_size)
  refine bodyPost_ret (v := .agg cs.toArray) ?_ rfl ⟨rfl, HB.out _ _ _⟩
  simp [results, Try.results43, asAddr, Act.put, hld]
end Go.Proofs.Ythfbimbadkmhhaa
namespace Go.Proofs.Ythfbimbadkmhhaa
open Go.RowKit

/-- May the field be? -/
def bok (p : Int × Int × Int) : Bool := !(decide (p.1 < p.2.1) || decide (p.1 > p.2.2))
theorem wrap_u64 (x : Int) (h1 : -9223372036854775808 ≤ x) (h2 : x < 9223372036854775808) : IntKind.u64.wrap x = if x < 0 then x + 18446744073709551616 else x := by
  have e : IntKind.u64.wrap x = x % 18446744073709551616 := rfl
  rw [e]
  split <;> omega
theorem bok_f (x : Int) (lo hi : Int) (hhi : hi < 9223372036854775808) (hl1 : 1 ≤ lo) (h1 : -9223372036854775808 ≤ x) (h2 : x < 9223372036854775808) : bok (IntKind.u64.wrap x, lo, hi) = (decide (x ≥ lo) && decide (x ≤ hi)) := by
  simp only [bok]
  rw [wrap_u64 x h1 h2, Bool.eq_iff_iff]
  simp only [Bool.not_eq_true', Bool.or_eq_false_iff, decide_eq_false_iff_not, Bool.and_eq_true, decide_eq_true_eq]
  split <;> omega
theorem bok_u (x lo hi : Int) : bok (x, lo, hi) = (decide (x ≥ lo) && decide (x ≤ hi)) := by
  simp only [bok]
  rw [Bool.eq_iff_iff]
  simp only [Bool.not_eq_true', Bool.or_eq_false_iff, decide_eq_false_iff_not, Bool.and_eq_true, decide_eq_true_eq]
  omega
theorem bnds_oks (c : Cf) (h : c.In) : c.bnds.map bok = c.oks := by
  have e2 : bok ((c.delay : Int), 0, 1000) = decide ((c.delay : Int) ≤ 1000) := by rw [bok_u, decide_eq_true (by omega), Bool.true_and]
  simp only [Cf.bnds, Cf.oks, List.map_cons, List.map_nil]
  rw [bok_f c.f 1 3 (by omega) (by omega) h.f1 h.f2, bok_f c.mb 1 8 (by omega) (by omega) h.m1 h.m2, e2]
  simp only [bok_u]
theorem bnds_at (L : List (Int × Int × Int)) (hL : L.length = 10) (k : Nat) (hk : k < 10) (w : World) : ∃ p : Int × Int × Int, L[k]? = some p ∧ (Instr.index 98 (.agg (bcells L).toArray) (.int .i64 (k : Int))).run Try.prog w = .ok (.agg #[.int .u64 p.1, .int .u64 p.2.1, .int .u64 p.2.2]) w := by
  match L, hL with
  | [a0, a1, a2, a3, a4, a5, a6, a7, a8, a9], _ =>
    match k, hk with
    | 0, _ => exact ⟨a0, rfl, by kernel_rfl⟩
    | 1, _ => exact ⟨a1, rfl, by kernel_rfl⟩
    | 2, _ => exact ⟨a2, rfl, by kernel_rfl⟩
    | 3, _ => exact ⟨a3, rfl, by kernel_rfl⟩
    | 4, _ => exact ⟨a4, rfl, by kernel_rfl⟩
    | 5, _ => exact ⟨a5, rfl, by kernel_rfl⟩
    | 6, _ => exact ⟨a6, rfl, by kernel_rfl⟩
    | 7, _ => exact ⟨a7, rfl, by kernel_rfl⟩
    | 8, _ => exact ⟨a8, rfl, by kernel_rfl⟩
    | 9, _ => exact ⟨a9, rfl, by kernel_rfl⟩
end Go.Proofs.Ythfbimbadkmhhaa
namespace Go.Proofs.Ythfbimbadkmhhaa
open Go.RowKit

/-- What New answers. -/
def NewR (w : World) (c : Cf) (e : Ending) (w' : World) : Prop := ∃ a ev, e = .returned (.tuple #[.pointer a, ev]) ∧ Hid (Below w.heap.size w w' ∧ ((badOf c.oks = -1 ∧ ev = .nilIface ∧ PG w' a c) ∨ ∃ k : Nat, badOf c.oks = (k : Int) ∧ a = none ∧ Chain w'.heap.size w' [⟨ballotN, (k : Int)⟩] ev 180))
set_option maxRecDepth 10000 in
set_option maxHeartbeats 800000 in
theorem new_any (c : Cf) (hin : c.In) (w : World) : Calls Try.prog 23 #[.agg c.cells] w (NewR w c) := by
  obtain ⟨W1, hW1⟩ : ∃ W1, w.alloc (.cells c.cells 25) = W1 := ⟨_, rfl⟩
  have B1 : Hid (Below w.heap.size w W1) := by rw [← hW1]; exact (Below.refl _ w).alloc (Nat.le_refl _) _
  have C1 : Hid (W1.heap[w.heap.size]? = some (.cells c.cells 25 (0, 0))) := by rw [← hW1]; exact alloc_atK _ _
  have HC := hide (fun (W : World) (h : W.heap[w.heap.size]? = some (.cells c.cells 25 (0, 0))) => cfg_cells h)
  have HW1 := hide hW1
  have HF := hide (fields_any c W1)
  have HBO := hide (bnds_oks c hin)
  have HBL : Hid (c.bnds.length = 10) := rfl
  have HOL : Hid (c.oks.length = 10) := rfl
  have HRF := hide (fun W k => refusalB (w := W) k 180)
  have HP : Hid (∀ W : World, Below w.heap.size w W → W.heap[w.heap.size]? = some (.cells c.cells 25 (0, 0)) → Below w.heap.size w (W.alloc (.cells c.cells 101)) ∧ PG (W.alloc (.cells c.cells 101)) (some ⟨W.heap.size, 0, none⟩) c) := fun W h _ => ⟨h.alloc h.size _, _, rfl, alloc_atK _ _⟩
  clear hin hW1
  unfold NewR
  generalize c.oks = bs at *
  generalize c.bnds = L at *
  obtain ⟨z0, z1, z2, z3, z4, z5, z6, z7, z8, z9⟩ := HC.out W1 C1.out
  unfold Cf.cells at HW1 HF HP C1 HC ⊢
  generalize c.f = f at *
  generalize c.mb = mb at *
  generalize (c.delay : Int) = d at *
  generalize (c.win : Int) = wn at *
  generalize (c.every : Int) = ev at *
  generalize (c.beat : Int) = bt at *
  generalize (c.ep : Int) = ep at *
  generalize (c.em : Int) = em at *
  generalize (c.mn : Int) = mn at *
  generalize (c.ms : Int) = ms at *
  go_enter Try.func23, Try.ntmps23
  go_upto_region 1 with fail
  rw [HW1.out]
  clear HW1
  go_wp2_with fail
  refine HF.out.mono ?_
  rintro e w2 ⟨rfl, b2⟩
  have I2 : Hid (Below w.heap.size w w2 ∧ w2.heap[w.heap.size]? = some (.cells #[.int .i64 f, .int .i64 mb, .int .u64 d, .int .u64 wn, .int .u64 ev, .int .u64 bt, .int .u64 ep, .int .u64 em, .int .u64 mn, .int .u64 ms] 25 (0, 0))) := ⟨B1.out.trans (b2.mono B1.out.size), (b2.block _ (block_lt C1.out)).trans C1.out⟩
  clear z0 z1 z2 z3 z4 z5 z6 z7 z8 z9 b2 HF B1 C1
  go_wp2_with fail
  go_loopw [8] (fun i wr => ∃ k : Nat, k ≤ 10 ∧ i = .int .i64 k ∧ Hid ((∀ j, j < k → bs.getD j true = true) ∧ Below w.heap.size w wr ∧ wr.heap[w.heap.size]? = some (.cells #[.int .i64 f, .int .i64 mb, .int .u64 d, .int .u64 wn, .int .u64 ev, .int .u64 bt, .int .u64 ep, .int .u64 em, .int .u64 mn, .int .u64 ms] 25 (0, 0)))) (fun i _ => 10 - (intOf i).toNat)
  case atStart => exact ⟨0, by omega, rfl, fun j hj => absurd hj (by omega), I2.out⟩
  case round =>
    clear I2
    obtain ⟨k, hk, rfl, HJ⟩ := hrel
    by_cases hlt : k < 10
    · obtain ⟨⟨v, lo, hi⟩, hLk, hix⟩ : ∃ p : Int × Int × Int, L[k]? = some p ∧ ∀ w, (Instr.index 98 (.agg (bcells L).toArray) (.int .i64 (k : Int))).run Try.prog w = .ok (.agg #[.int .u64 p.1, .int .u64 p.2.1, .int .u64 p.2.2]) w := by
        obtain ⟨p, h1, _⟩ := bnds_at L HBL.out k hlt default
        refine ⟨p, h1, fun w => ?_⟩
        obtain ⟨p', h1', h2⟩ := bnds_at L HBL.out k hlt w
        rw [h1] at h1'
        cases h1'
        exact h2
      have HBK : Hid (bs.getD k true = bok (v, lo, hi)) := by
        show _ = _
        rw [← HBO.out, List.getD_eq_getElem?_getD, List.getElem?_map, hLk]
        rfl
      clear hLk
      have HX : Hid (∀ W : World, Below wr.heap.size wr W → Below w.heap.size w W ∧ W.heap[w.heap.size]? = some (.cells #[.int .i64 f, .int .i64 mb, .int .u64 d, .int .u64 wn, .int .u64 ev, .int .u64 bt, .int .u64 ep, .int .u64 em, .int .u64 mn, .int .u64 ms] 25 (0, 0))) := fun W h => ⟨HJ.out.2.1.trans (h.mono HJ.out.2.1.size), (h.block _ (block_lt HJ.out.2.2)).trans HJ.out.2.2⟩
      have HBX : Hid (∀ o, Below wr.heap.size wr (wr.alloc o)) := fun o => (Below.refl _ _).alloc (Nat.le_refl _) _
      simp only at hix
      by_cases h1 : v < lo
      · go_wp2_with fail
        refine (HRF.out _ _).mono ?_
        rintro e w3 ⟨g, rfl, G3⟩
        have FIN : Hid (Below w.heap.size w w3 ∧ Chain w3.heap.size w3 [⟨ballotN, (k : Int)⟩] (.iface 102 (.pointer (some ⟨g, 0, none⟩))) 180) := by
          have hb := (HX.out _ (HBX.out (.cells #[.int .u64 v, .int .u64 lo, .int .u64 hi] 97))).1
          exact ⟨hb.trans (G3.out.2.mono hb.size), G3.out.1⟩
        clear G3 HX HBX HRF
        go_wp2
        try rw [Exit.noGoto_ret]
        go_ret2
        refine ⟨none, _, rfl, FIN.out.1, .inr ⟨k, badOf_at (by rw [HOL.out]; exact hlt) ?_ HJ.out.1, rfl, FIN.out.2⟩⟩
        rw [HBK.out]
        simp [bok]; omega
      · by_cases h2 : v > hi
        · go_wp2_with fail
          refine (HRF.out _ _).mono ?_
          rintro e w3 ⟨g, rfl, G3⟩
          have FIN : Hid (Below w.heap.size w w3 ∧ Chain w3.heap.size w3 [⟨ballotN, (k : Int)⟩] (.iface 102 (.pointer (some ⟨g, 0, none⟩))) 180) := by
            have hb := (HX.out _ (HBX.out (.cells #[.int .u64 v, .int .u64 lo, .int .u64 hi] 97))).1
            exact ⟨hb.trans (G3.out.2.mono hb.size), G3.out.1⟩
          clear G3 HX HBX HRF
          go_wp2
          try rw [Exit.noGoto_ret]
          go_ret2
          refine ⟨none, _, rfl, FIN.out.1, .inr ⟨k, badOf_at (by rw [HOL.out]; exact hlt) ?_ HJ.out.1, rfl, FIN.out.2⟩⟩
          rw [HBK.out]
          simp [bok]; omega
        · have HOK : Hid (bs.getD k true = true) := by
            show _ = _
            rw [HBK.out]
            simp [bok]; omega
          go_wp2
          go_roundw
          case rel =>
            refine ⟨k + 1, by omega, by go_num, fun j hj => ?_, (HX.out _ (HBX.out _)).1, (HX.out _ (HBX.out _)).2⟩
            by_cases e : j = k
            · rw [e]; exact HOK.out
            · exact HJ.out.1 j (by omega)
          case measure => simp [intOf]; omega
    · have FIN : Hid (badOf bs = -1) := badOf_no (fun j hj => HJ.out.1 j (by rw [HOL.out] at hj; omega))
      obtain ⟨z0, z1, z2, z3, z4, z5, z6, z7, z8, z9⟩ := HC.out wr HJ.out.2.2
      have G := hide (HP.out wr HJ.out.2.1 HJ.out.2.2)
      clear HC HP HJ HRF
      go_wp2
      go_ret2
      exact ⟨_, _, rfl, G.out.1, .inl ⟨FIN.out, rfl, G.out.2⟩⟩
theorem newP_ok (c : Cf) (hin : c.In) (hk : badOf c.oks = -1) (W : World) : Calls Try.prog 23 #[.agg c.cells] W fun e w' => ∃ a, PNewP W (.pointer a) [] 0 e w' ∧ Hid (PG w' a c) :=
  (new_any c hin W).mono fun _ _ ⟨a, ev, h1, h2⟩ => by
    rcases h2.out.2 with ⟨_, h3, h4⟩ | ⟨k, h3, _⟩
    · exact ⟨a, ⟨ev, h1, .inl ⟨h3, rfl, rfl⟩, h2.out.1⟩, h4⟩
    · rw [hk] at h3; omega
theorem newP_bad (c : Cf) (hin : c.In) (k : Nat) (hk : badOf c.oks = (k : Int)) (W : World) : Calls Try.prog 23 #[.agg c.cells] W fun e w' => ∃ a, PNewP W (.pointer a) [⟨ballotN, (k : Int)⟩] 180 e w' ∧ Hid (a = none) :=
  (new_any c hin W).mono fun _ _ ⟨a, ev, h1, h2⟩ => by
    rcases h2.out.2 with ⟨h3, _⟩ | ⟨k', h3, h4, h5⟩
    · rw [hk] at h3; omega
    · have e : k' = k := by omega
      rw [e] at h5
      exact ⟨a, ⟨ev, h1, .inr ⟨h5, by simp, by simp, by omega⟩, h2.out.1⟩, h4⟩
theorem badOf_cases (c : Cf) : badOf c.oks = -1 ∨ ∃ k : Nat, badOf c.oks = (k : Int) := by
  unfold badOf
  split
  · exact .inr ⟨_, rfl⟩
  · exact .inl rfl
end Go.Proofs.Ythfbimbadkmhhaa
namespace Go.Proofs.Ythfbimbadkmhhaa
open Go.RowKit

def Cf.zero : Cf := ⟨0, 0, 0, 0, 0, 0, 0, 0, 0, 0⟩
theorem cells_one (c : Cf) : ∀ v ∈ c.cells.toList, v.oneCell' = true := by
  intro v hv
  simp only [Cf.cells, List.mem_cons, List.not_mem_nil, or_false] at hv
  rcases hv with rfl | rfl | rfl | rfl | rfl | rfl | rfl | rfl | rfl | rfl <;> rfl
theorem config_size : (Try.prog.info? 25).map (·.size) = some 10 := by kernel_rfl
theorem config_build (w : World) : (Instr.build 25 #[]).run Try.prog w = .ok (.agg Cf.zero.cells) w := by kernel_rfl
set_option maxRecDepth 10000 in
set_option maxHeartbeats 800000 in
theorem config_dead {w : World} {a : Option Addr} (h : Dead w a) :
    Calls Try.prog 39 #[.pointer a] w fun e w' => e = .returned (.agg Cf.zero.cells) ∧ Below w.heap.size w w' := by
  have hB : Hid (∀ o, Below w.heap.size w (w.alloc o)) := fun o => (Below.refl _ _).alloc (Nat.le_refl _) _
  have HM := hide (fun o => made_dead (h.kept (hB.out o)))
  have HB : Hid (∀ o vs, Below w.heap.size w ((w.alloc o).setCells w.heap.size 0 vs)) := fun o vs => below_setCells (hB.out o) (Nat.le_refl _) (hB.out o).size
  have HT : Hid (∀ (Z : Array Value) t, Z.size = 10 → (w.alloc (.cells Z t)).there w.heap.size 0 10) := fun Z t h => there_new (by omega)
  have HBD := hide config_build
  have HL : Hid (Cf.zero.cells.toList.length = 10) := rfl
  have HO := hide (cells_one Cf.zero)
  obtain ⟨cs, hcs⟩ : ∃ cs, Cf.zero.cells.toList = cs := ⟨_, rfl⟩
  have hcs' : Cf.zero.cells = cs.toArray := by rw [← hcs]
  rw [hcs'] at HBD ⊢
  rw [hcs] at HL HO
  clear h hB hcs hcs'
  go_enter Try.func39, Try.ntmps39
  go_wp2_with fail
  refine (HM.out _).mono ?_
  rintro e w1 ⟨rfl, rfl⟩
  go_upto_region 2 with fail
  go_step
  refine wpList_pure rfl (exec_build (t := 25) (parts := #[]) rfl (by have h := HBD.out; simpa [Act.eval] using h _)) ?_
  simp only [Act.put, List.setIfInBounds_toArray, List.set_cons_zero, List.set_cons_succ]
  refine wpList_store_mid rfl 25 _ _ rfl w.heap.size 0 cs.toArray rfl rfl (by simpa [HL.out] using HT.out _ _ rfl) (by rw [List.size_toArray, HL.out]; exact config_size) (all_oneCell_toArray HO.out) ?_
  go_wp2
  have hld := fun Z t (h : Z.size = 10) => run_loadVar_mid (P := Try.prog) ((w.alloc (.cells Z t)).setCells w.heap.size 0 cs) w.heap.size 0 25 cs _ (World.rangeAt_setCells_same _ _ _ _ (by rw [HL.out]; exact HT.out Z t h)) Try.underlying25 rfl (by rw [HL.out]; exact config_size)
  refine bodyPost_ret (v := .agg cs.toArray) ?_ rfl ⟨rfl, HB.out _ _⟩
  simp [results, Try.results39, asAddr, Act.put, hld]
set_option maxRecDepth 10000 in
set_option maxHeartbeats 800000 in
theorem config_live {w : World} {a : Option Addr} {c : Cf} (h : PG w a c) (hk : c.Ok) :
    Calls Try.prog 39 #[.pointer a] w fun e w' => e = .returned (.agg c.cells) ∧ Below w.heap.size w w' := by
  have hB : Hid (∀ o, Below w.heap.size w (w.alloc o)) := fun o => (Below.refl _ _).alloc (Nat.le_refl _) _
  have HM := hide (fun o => made_live (h.kept (hB.out o)) hk)
  have HB : Hid (∀ o vs, Below w.heap.size w ((w.alloc o).setCells w.heap.size 0 vs)) := fun o vs => below_setCells (hB.out o) (Nat.le_refl _) (hB.out o).size
  have HT : Hid (∀ (Z : Array Value) t, Z.size = 10 → (w.alloc (.cells Z t)).there w.heap.size 0 10) := fun Z t h => there_new (by omega)
  have HL : Hid (c.cells.toList.length = 10) := rfl
  have HO := hide (cells_one c)
  have hK := fun o => h.kept (hB.out o)
  obtain ⟨p, rfl, _⟩ := h
  have HR : Hid (∀ o, (w.alloc o).rangeAt p 0 c.cells.toList) := fun o j v hj => by
    obtain ⟨p', e, hp⟩ := hK o
    cases e
    rw [Nat.zero_add, block_cell hp j]
    simpa using hj
  obtain ⟨cs, hcs⟩ : ∃ cs, c.cells.toList = cs := ⟨_, rfl⟩
  have hcs' : c.cells = cs.toArray := by rw [← hcs]
  rw [hcs'] at ⊢
  rw [hcs] at HL HO HR
  clear hK hB hcs hcs' hk
  go_enter Try.func39, Try.ntmps39
  go_wp2_with fail
  refine (HM.out _).mono ?_
  rintro e w1 ⟨rfl, rfl⟩
  go_upto_region 3 with fail
  go_step
  refine wpList_split 3 (fun R HRR => ?_)
  simp only [List.take]
  go_wp2
  refine HRR.out _ _ ?_
  clear HRR
  simp only [List.drop]
  refine wpList_load_mid rfl 25 _ rfl p 0 rfl cs _ (HR.out _) Try.underlying25 rfl (by rw [HL.out]; exact config_size) ?_
  simp only [Act.put, List.setIfInBounds_toArray, List.set_cons_zero, List.set_cons_succ]
  refine wpList_store_mid rfl 25 _ _ rfl w.heap.size 0 cs.toArray rfl rfl (by simpa [HL.out] using HT.out _ _ rfl) (by rw [List.size_toArray, HL.out]; exact config_size) (all_oneCell_toArray HO.out) ?_
  go_wp2
  have hld := fun Z t (h : Z.size = 10) => run_loadVar_mid (P := Try.prog) ((w.alloc (.cells Z t)).setCells w.heap.size 0 cs) w.heap.size 0 25 cs _ (World.rangeAt_setCells_same _ _ _ _ (by rw [HL.out]; exact HT.out Z t h)) Try.underlying25 rfl (by rw [HL.out]; exact config_size)
  refine bodyPost_ret (v := .agg cs.toArray) ?_ rfl ⟨rfl, HB.out _ _⟩
  simp [results, Try.results39, asAddr, Act.put, hld]
end Go.Proofs.Ythfbimbadkmhhaa
