import Derived.Test.YthfbimbadkmhhaaMIL
import Derived.Test.YthfbimbadkmhhaaMIJ
import Derived.Test.YthfbimbadkmhhaaMGP
import Derived.Test.YthfbimbadkmhhaaMGG
namespace Go.Proofs.Ythfbimbadkmhhaa
open Go.RowKit Crc

/-- The blocks that an election's lists lie in. -/
def ft (x : Ex) (b : Nat) : Prop := (Value.slice x.po x.ps.length x.pc).ownBlock = some b ∨ (Value.slice x.qo x.ts.length x.tc).ownBlock = some b ∨ (∃ r ∈ x.ps, (Value.slice r.co r.cn r.cc).ownBlock = some b) ∨ ∃ r ∈ x.ts, (Value.slice r.co r.cn r.cc).ownBlock = some b
theorem EL.ft_fp {W : World} {eb g : Nat} {c : Cf} {me : Nat} {fp : Nat → Prop} {x : Ex} (h : EL W eb g c me fp x) {b : Nat} (hb : ft x b) : fp b := by
  rcases hb with e | e | ⟨r, hr, e⟩ | ⟨r, hr, e⟩
  · exact h.qp.blk b e
  · exact h.qt.blk b e
  · exact h.qp.cb r hr b e
  · exact h.qt.cb r hr b e
theorem EL.foot {W : World} {eb g : Nat} {c : Cf} {me : Nat} {fp : Nat → Prop} {x : Ex} (h : EL W eb g c me fp x) : EL W eb g c me (ft x) x :=
  ⟨h.blk, h.grp, ⟨h.qp.row, fun _ e => .inl e, h.qp.cq, fun r hr _ e => .inr (.inr (.inl ⟨r, hr, e⟩)), h.qp.le⟩, ⟨h.qt.row, fun _ e => .inr (.inl e), h.qt.cq, fun r hr _ e => .inr (.inr (.inr ⟨r, hr, e⟩)), h.qt.le⟩, h.ap, fun b hb => h.flt b (h.ft_fp hb), fun e => h.feb (h.ft_fp e), fun e => h.fg (h.ft_fp e), h.n1, h.va, h.su, h.l1, h.l2, h.f2⟩
theorem row_ty {W : World} {base size k : Nat} {e : TypeId} {v : Value} {xs : List Value} (h : W.ownsRow base e size v k xs) {b : Nat} (hb : v.ownBlock = some b) : ∃ cur, W.heap[b]? = some (.cells cur e (0, 0)) := by
  rcases h.2 with ⟨rfl, _⟩ | ⟨g, cap, cur, rfl, _, hg, _⟩
  · cases hb
  · cases hb
    exact ⟨cur, hg⟩
/-- The types of blocks that the calls of an election may turn. -/
def Tt (t : TypeId) : Prop := t = 69 ∨ t = 37 ∨ t = 5
theorem EL.ty {W : World} {eb g : Nat} {c : Cf} {me : Nat} {fp : Nat → Prop} {x : Ex} (h : EL W eb g c me fp x) {b : Nat} (hb : ft x b) : ∃ cur t, W.heap[b]? = some (.cells cur t (0, 0)) ∧ (t = 37 ∨ t = 5) := by
  rcases hb with e | e | ⟨r, hr, e⟩ | ⟨r, hr, e⟩
  · obtain ⟨cur, h1⟩ := row_ty h.qp.row e; exact ⟨cur, _, h1, .inl rfl⟩
  · obtain ⟨cur, h1⟩ := row_ty h.qt.row e; exact ⟨cur, _, h1, .inl rfl⟩
  · obtain ⟨cur, h1⟩ := row_ty (h.qp.cq r hr).ow.1 e; exact ⟨cur, _, h1, .inr rfl⟩
  · obtain ⟨cur, h1⟩ := row_ty (h.qt.cq r hr).ow.1 e; exact ⟨cur, _, h1, .inr rfl⟩
theorem EL.ty_ne {W : World} {eb g : Nat} {c : Cf} {me : Nat} {fp : Nat → Prop} {x : Ex} (h : EL W eb g c me fp x) {b : Nat} (hb : Mine eb (ft x) b) {cs : Array Value} {t : TypeId} (hh : W.heap[b]? = some (.cells cs t (0, 0))) : Tt t := by
  rcases hb with rfl | hb
  · rw [h.blk] at hh; cases hh; exact .inl rfl
  · obtain ⟨cur, u, h1, h2⟩ := h.ty hb
    rw [h1] at hh; cases hh; exact .inr h2


theorem setCells_blockT {t : TypeId} (b : Nat) : ∀ (vs : List Value) (o : Nat) (w : World) (C : Array Value), w.heap[b]? = some (.cells C t (0, 0)) → ∃ C' : Array Value, (w.setCells b o vs).heap[b]? = some (.cells C' t (0, 0)) ∧ C'.size = C.size
  | [], _, w, C, h => ⟨C, h, rfl⟩
  | v :: r, o, w, C, h => by
    rw [World.setCells]
    have h1 := heap_setCell_same w b o _ _ v h
    obtain ⟨C', h2, h3⟩ := setCells_blockT b r (o + 1) _ _ h1
    exact ⟨C', h2, by rw [h3]; simp⟩
theorem block_of_rangeT {W : World} {b : Nat} {C : Array Value} {t : TypeId} {cs : List Value} (hb : W.heap[b]? = some (.cells C t (0, 0))) (hs : C.size = cs.length) (hr : W.rangeAt b 0 cs) : W.heap[b]? = some (.cells cs.toArray t (0, 0)) := by
  have e : C = cs.toArray := by
    refine Array.ext (by simpa using hs) (fun i h1 h2 => ?_)
    have h3 := hr i _ (List.getElem?_eq_getElem (by simpa using h2))
    rw [Nat.zero_add, block_cell hb i, Array.getElem?_eq_getElem h1] at h3
    simpa using h3
  rw [← e]
  exact hb
theorem range_of_block {W : World} {b : Nat} {t : TypeId} {cs : List Value} (hb : W.heap[b]? = some (.cells cs.toArray t (0, 0))) : W.rangeAt b 0 cs := fun j v hv => by
  rw [Nat.zero_add, block_cell hb j]
  simpa using hv
/-- A store of a whole struct into its block. -/
theorem wp_store_boxT {P : Program} {op : Oper} {a : Act} {w : World} {K : Act → World → Prop} {Q : Exit → Act → World → Prop} (ty : TypeId) (x y : Operand) (ho : op.op = .store ty x y)
    (p : Nat) (C : Array Value) (t : TypeId) (hb : w.heap[p]? = some (.cells C t (0, 0))) (cs : List Value) (hx : a.eval x = .pointer (some ⟨p, 0, none⟩)) (hy : a.eval y = .agg cs.toArray)
    (hz : cs.length = C.size) (hi : (P.info? ty).map (·.size) = some cs.length) (h1 : ∀ v ∈ cs, v.oneCell' = true)
    (h : ∀ W, w.grownBy W (some p) → W.heap[p]? = some (.cells cs.toArray t (0, 0)) → K (a.put op.dst undef) W) : op.wp P a w K Q := by
  have ht : w.there p 0 cs.length := fun j hj => by
    rw [Nat.zero_add, block_cell hb j]
    exact ⟨by rw [Array.getElem?_eq_getElem (by omega)]; rfl, block_free hb j⟩
  refine wp_store_mid ty x y ho p 0 cs.toArray hx hy (by simpa using ht) (by simpa using hi) (all_oneCell_toArray h1) ?_
  have g := grown_setCells p cs.toArray.toList 0 w
  obtain ⟨C', h2, h3⟩ := setCells_blockT p cs.toArray.toList 0 w C hb
  exact h _ g (block_of_rangeT h2 (by omega) (World.rangeAt_setCells_same _ _ _ _ ht))
theorem exec_bin {P : Program} {o : Oper} {a : Act} {w : World} {op : BinOp} {t tb : TypeId} {x y : Operand} {X Y V : Value} (ho : o.op = .binOp op t x y tb) (hx : a.eval x = X) (hy : a.eval y = Y) (hg : (eqGuard op t x y X Y).run P w = .ok () w) (h : (binOp op t X Y).run P w = .ok V w) : (execOp a.eval o).run P w = .ok (.value V) w := by
  unfold execOp
  simp only [ho, hx, hy, Sem.run_bind, hg, h, Result.andThen_ok, Sem.run_pure]
theorem wpList_store_boxT {P : Program} {ops : Array Oper} {rest : List Oper} {op : Oper} {a : Act} {w : World} {Q : Exit → Act → World → Prop} (hgd : op.guard = none) (ty : TypeId) (x y : Operand) (ho : op.op = .store ty x y)
    (p : Nat) (C : Array Value) (t : TypeId) (hb : w.heap[p]? = some (.cells C t (0, 0))) (cs : List Value) (hx : a.eval x = .pointer (some ⟨p, 0, none⟩)) (hy : a.eval y = .agg cs.toArray)
    (hz : cs.length = C.size) (hi : (P.info? ty).map (·.size) = some cs.length) (h1 : ∀ v ∈ cs, v.oneCell' = true)
    (h : ∀ W, w.grownBy W (some p) → W.heap[p]? = some (.cells cs.toArray t (0, 0)) → wpList P ops Q rest (a.put op.dst undef) W) : wpList P ops Q (op :: rest) a w :=
  wpList_plain hgd fun _ hK => wp_store_boxT ty x y ho p C t hb cs hx hy hz hi h1 (fun W g hb => hK _ _ (h W g hb))
theorem below_box {w W : World} {o : Obj} (h : (w.alloc o).grownBy W (some w.heap.size)) : Below w.heap.size w W := by
  have hb : Below w.heap.size w (w.alloc o) := (Below.refl _ w).alloc (Nat.le_refl _) o
  exact hb.grown h hb.size (fun k e => by cases e; exact Nat.le_refl _)
theorem rem_run (a b m : Int) (hb : ¬ b = 0) (hm : Int.tmod a b = m) (w : World) : (binOp BinOp.rem 3 (.int .i64 a) (.int .i64 b)).run Try.prog w = .ok (.int .i64 m) w := by
  unfold binOp
  go_simp
theorem and3 (f : Int) : ∃ q : Nat, q < 4 ∧ bits BinOp.and IntKind.i64 f 3 = (q : Int) := by
  refine ⟨(BitVec.ofInt 64 f &&& BitVec.ofInt 64 3).toNat, ?_, ?_⟩
  · rw [BitVec.toNat_and]
    exact Nat.lt_of_le_of_lt Nat.and_le_right (by decide)
  · have h : (BitVec.ofInt 64 f &&& BitVec.ofInt 64 3).toNat < 4 := by
      rw [BitVec.toNat_and]
      exact Nat.lt_of_le_of_lt Nat.and_le_right (by decide)
    show IntKind.i64.wrap (((BitVec.ofInt 64 f &&& BitVec.ofInt 64 3).toNat : Nat) : Int) = _
    exact IntWalk.i64_in _ ⟨by omega, by omega⟩

/-- A call leaves blocks of other types as they were. -/
def KpT (W W' : World) : Prop := ∀ (b : Nat) (cs : Array Value) (t : TypeId), W.heap[b]? = some (.cells cs t (0, 0)) → ¬ Tt t → W'.heap[b]? = some (.cells cs t (0, 0))
theorem KpT.below {W W' : World} (h : Below W.heap.size W W') : KpT W W' := fun b _ _ e _ => (h.block b (block_lt e)).trans e
theorem KpT.trans {a b c : World} (h : KpT a b) (k : KpT b c) : KpT a c := fun x cs t e n => k x cs t (h x cs t e n) n
theorem QE.foot {w : World} {c : Cf} {eb g me : Nat} {s : Ev} {W : World} (h : QE w c eb g me s W) : ∃ x, EL W eb g c me (ft x) x ∧ x.abs = s ∧ ∀ b, Mine eb (ft x) b → w.heap.size ≤ b := by
  obtain ⟨fp, x, h1, h2, h3⟩ := h.ex
  refine ⟨x, h1.foot, h2, ?_⟩
  rintro b (e | e)
  · exact h3 b (.inl e)
  · exact h3 b (.inr (h1.ft_fp e))
theorem callQ {w : World} {c : Cf} {eb g me : Nat} {s : Ev} {W : World} (h : QE w c eb g me s W) (hc : OkC c) {o : Oq} (ho : o.Ok w.heap.size W) :
    Calls Try.prog 11 #[.pointer (some ⟨eb, 0, none⟩), .agg o.oc.toArray] W fun e W' => ∃ z s', e = .returned (.tuple #[.bool z, .bool true]) ∧ Hid (StepR c me s o z s' ∧ QE w c eb g me s' W' ∧ KpT W W') := by
  obtain ⟨x, h1, rfl, h3⟩ := h.foot
  refine (callE h1 hc h.bel.size h3 ho).mono ?_
  rintro e W' ⟨z, s', rfl, G⟩
  refine ⟨z, s', rfl, G.out.1, QE.did h.bel h3 G.out.2, fun b cs t hb ht => ?_⟩
  exact ((Did.out G.out.2).block _ (block_lt hb) (fun e => ht (h1.ty_ne e hb))).trans hb
theorem stateR {w : World} {c : Cf} {eb g me : Nat} {s : Ev} {W : World} (h : QE w c eb g me s W) :
    Calls Try.prog 7 #[.pointer (some ⟨eb, 0, none⟩)] W fun e W' => ∃ ao n cap ao' m cap', e = .returned (.agg #[.int .u64 (s.num : Nat), .int .i64 s.node, .int .u32 (s.sus : Nat), .int .u64 (s.len : Nat), .int .u64 (s.fin : Nat), .slice ao n cap, .slice ao' m cap']) ∧ n ≤ 32 ∧ m ≤ 32 ∧ Hid (QE w c eb g me s W' ∧ Below W.heap.size W W') := by
  obtain ⟨fp, x, h1, rfl, h3⟩ := h.ex
  refine (stateE h1).mono ?_
  rintro e W' ⟨ao, cap, ao', cap', rfl, hb⟩
  exact ⟨ao, _, cap, ao', _, cap', rfl, h1.qp.le, h1.qt.le, h.kept hb.out, hb.out⟩
theorem viewR {w : World} {c : Cf} {eb g me : Nat} {s : Ev} {W : World} (h : QE w c eb g me s W) :
    Calls Try.prog 6 #[.pointer (some ⟨eb, 0, none⟩)] W fun e W' => e = .returned (.agg #[.int .u64 (s.num : Nat), .int .i64 s.node]) ∧ Hid (QE w c eb g me s W' ∧ Below W.heap.size W W') := by
  obtain ⟨fp, x, h1, rfl, h3⟩ := h.ex
  refine (viewE h1).mono ?_
  rintro e W' ⟨rfl, hb⟩
  exact ⟨rfl, h.kept hb.out, hb.out⟩
theorem QE.facts {w : World} {c : Cf} {eb g me : Nat} {s : Ev} {W : World} (h : QE w c eb g me s W) : 1 ≤ s.num ∧ c.valid s.num s.node = true ∧ s.sus < 4294967296 ∧ s.len ≤ c.em := by
  obtain ⟨fp, x, h1, rfl, h3⟩ := h.ex
  exact ⟨h1.n1, h1.va, h1.su, h1.l2⟩

theorem memU_stop (s n : Nat) (hs : s < 2 ^ n) : ∀ d, (memU s (n + d)).length = (memU s n).length
  | 0 => rfl
  | d + 1 => by
    rw [← Nat.add_assoc, memU_succ, Nat.testBit_lt_two_pow (Nat.lt_of_lt_of_le hs (Nat.pow_le_pow_right (by decide) (by omega)))]
    simpa using memU_stop s n hs d
theorem count_eq (s n : Nat) (hs : s < 2 ^ n) (hn : n ≤ 32) : countB s = (memU s n).length := by
  unfold countB
  have := memU_stop s n hs (32 - n)
  rw [show n + (32 - n) = 32 by omega] at this
  exact this
theorem withB_small (s k n : Nat) (hs : s < 2 ^ n) (hk : k < n) (hn : n ≤ 32) : withB s (k : Nat) < 2 ^ n := by
  unfold withB aloneB
  rw [if_pos (by omega), show ((k : Nat) : Int).toNat = k by omega]
  exact Nat.or_lt_two_pow hs (Nat.pow_lt_pow_right (by decide) hk)
theorem withB_zero (k : Nat) (hk : k < 32) : withB 0 (k : Nat) = 2 ^ k := by
  unfold withB aloneB
  rw [if_pos (by omega), show ((k : Nat) : Int).toNat = k by omega, Nat.zero_or]

/-- What the law expects of a call: is it heard, is there a turn, and to which view. -/
def heardB (N : Nat) (o : Oq) : Bool := decide (o.kind = 8) && decide ((o.src : Int) < (N : Int)) && decide (1 ≤ (o.num : Int)) && decide ((o.num : Int) ≤ 1099511627776) && decide (0 ≤ o.node) && decide (o.node < (N : Int))
def belB (n1 m1 n2 m2 : Int) : Bool := decide (n1 < n2) || (decide (n1 = n2) && decide (m1 < m2))
def lastB (N : Nat) (s : Ev) : Bool := decide ((s.num : Int) = 1099511627776) && decide (s.node = (N : Int) - 1)
def turnB (F N : Nat) (s : Ev) (o : Oq) : Bool :=
  if o.kd = 3 then heardB N o && belB s.num s.node o.num o.node
  else if o.kd = 5 then decide (F + 1 ≤ (memU s.sus N).length) && !lastB N s
  else false
def wantV (F N : Nat) (s : Ev) (o : Oq) : Nat × Int :=
  if turnB F N s o = true then (if o.kd = 3 then (o.num, o.node) else if s.node + 1 < (N : Int) then (s.num, s.node + 1) else (s.num + 1, 0)) else (s.num, s.node)
theorem cmp_bel (n1 n2 : Nat) (m1 m2 : Int) : (cmpB n1 m1 n2 m2 < 0) ↔ belB n1 m1 n2 m2 = true := by
  unfold cmpB belB
  by_cases h1 : (n1 : Int) = (n2 : Int)
  · by_cases h2 : m1 = m2
    · simp [h1, h2]
    · by_cases h3 : m1 < m2 <;> simp [h1, h2, h3]
  · by_cases h3 : (n1 : Int) < (n2 : Int)
    · rw [if_neg h1, if_pos h3]
      simp only [decide_eq_true h3, Bool.true_or, iff_true]
      decide
    · rw [if_neg h1, if_neg h3]
      simp only [decide_eq_false h3, decide_eq_false h1, Bool.false_and, Bool.or_self]
      exact ⟨fun k => absurd k (by decide), fun k => by cases k⟩
structure Fix (c : Cf) (F N : Nat) : Prop where
  f : c.f = (F : Int)
  mn : c.mn = 1099511627776
  n : N = 2 * F + 1
  f1 : 1 ≤ F
  f3 : F ≤ 3
theorem heard_ok {c : Cf} {F N : Nat} (hf : Fix c F N) (o : Oq) : Ev.beatOk c o.src o.kind o.num o.node = heardB N o := by
  unfold Ev.beatOk heardB
  have e1 : decide ((o.src : Int) < 2 * c.f + 1) = decide ((o.src : Int) < (N : Int)) := decide_eq_decide.2 (by rw [hf.f, hf.n]; omega)
  rw [e1]
  by_cases h0 : o.num = 0
  · simp [h0]
  · have h1 : 1 ≤ o.num := by omega
    have e2 : c.valid o.num o.node = (decide ((o.num : Int) ≤ 1099511627776) && decide (0 ≤ o.node) && decide (o.node < (N : Int))) := by
      cases e : c.valid o.num o.node with
      | true =>
        obtain ⟨a, b, d⟩ := (valid_node h1).1 e
        rw [hf.mn] at a
        rw [hf.f] at d
        have hn := hf.n
        rw [decide_eq_true (by omega), decide_eq_true b, decide_eq_true (by omega)]
        rfl
      | false =>
        have : ¬ (o.num ≤ c.mn ∧ 0 ≤ o.node ∧ o.node < 2 * c.f + 1) := fun k => by rw [(valid_node h1).2 k] at e; cases e
        rw [hf.mn, hf.f] at this
        have hn := hf.n
        by_cases a : (o.num : Int) ≤ 1099511627776
        · by_cases b : 0 ≤ o.node
          · have d : ¬ o.node < (N : Int) := by omega
            rw [decide_eq_false d]; simp
          · rw [decide_eq_false b]; simp
        · rw [decide_eq_false a]; simp
    rw [e2, decide_eq_true h0, decide_eq_true (show (1 : Int) ≤ (o.num : Int) by omega)]
    simp only [Bool.and_true, Bool.and_assoc]
theorem susp_case (s : Ev) (src n : Nat) (m : Int) (b : Bool) : (s.susp src n m b).num = s.num ∧ (s.susp src n m b).node = s.node ∧ (s.susp src n m b).len = s.len ∧ ((s.susp src n m b).sus = s.sus ∨ (s.susp src n m b).sus = withB s.sus (src : Nat)) := by
  unfold Ev.susp
  split
  · exact ⟨rfl, rfl, rfl, .inr rfl⟩
  · exact ⟨rfl, rfl, rfl, .inl rfl⟩
/-- The law's whole mathematics: what a call does is what it expects. -/
theorem step_math {c : Cf} {F N : Nat} (hf : Fix c F N) {s s' : Ev} {o : Oq} {z : Bool} (h : StepR c 0 s o z s') (hl : s.len ≤ c.em) (hs : s.sus < 2 ^ N) (hn1 : 1 ≤ s.num) (hva : c.valid s.num s.node = true) :
    (s'.num, s'.node) = wantV F N s o ∧ (o.kd = 3 ∨ o.kd = 5 → z = turnB F N s o) ∧ (turnB F N s o = true → s.len ≤ s'.len) ∧ (turnB F N s o = true → s'.sus = if o.kd = 3 ∧ o.susp = true then 2 ^ o.src else 0) ∧ s'.sus < 2 ^ N ∧ (turnB F N s o = true → o.kd = 3 → o.src < N) := by
  have hN := hf.n
  have hF1 := hf.f1
  have hF3 := hf.f3
  have hN32 : N ≤ 32 := by omega
  obtain ⟨v1, v2, v3⟩ := (valid_node hn1).1 hva
  rw [hf.mn] at v1
  rw [hf.f] at v3
  unfold StepR at h
  by_cases h3 : o.kd = 3
  · rw [if_pos h3] at h
    have ht : turnB F N s o = (heardB N o && belB s.num s.node o.num o.node) := by unfold turnB; rw [if_pos h3]
    unfold Ev.beat at h
    rw [heard_ok hf] at h
    cases hh : heardB N o with
    | false =>
      rw [hh, if_pos rfl] at h
      obtain ⟨e1, rfl⟩ := Prod.mk.inj h
      have e2 := e1.symm
      subst e2
      have ht' : turnB F N s o = false := by rw [ht, hh]; rfl
      unfold wantV
      rw [ht']
      exact ⟨rfl, fun _ => rfl, fun e => (by cases e), fun e => (by cases e), hs, fun e => (by cases e)⟩
    | true =>
      rw [hh, if_neg (by decide)] at h
      have hsrc : o.src < N := by
        unfold heardB at hh
        simp only [Bool.and_eq_true, decide_eq_true_eq] at hh
        omega
      cases hb : belB s.num s.node o.num o.node with
      | true =>
        rw [if_pos ((cmp_bel _ _ _ _).2 hb)] at h
        obtain ⟨rfl, rfl⟩ := Prod.mk.inj h
        have ht' : turnB F N s o = true := by rw [ht, hh, hb]; rfl
        obtain ⟨q1, q2, q3, q4⟩ := susp_case (Ev.enter c s o.num o.node o.now) o.src o.num o.node o.susp
        have hsus : ((Ev.enter c s o.num o.node o.now).susp o.src o.num o.node o.susp).sus = if o.kd = 3 ∧ o.susp = true then 2 ^ o.src else 0 := by
          unfold Ev.susp
          cases e : o.susp with
          | true =>
            rw [if_pos ⟨rfl, rfl, rfl⟩, if_pos ⟨h3, rfl⟩]
            exact withB_zero _ (by omega)
          | false => rw [if_neg (by simp), if_neg (by simp)]; rfl
        unfold wantV
        rw [ht', if_pos rfl, if_pos h3]
        refine ⟨by rw [q1, q2]; rfl, fun _ => rfl, fun _ => ?_, fun _ => hsus, ?_, fun _ _ => hsrc⟩
        · rw [q3]
          show s.len ≤ min (2 * s.len) c.em
          omega
        · rw [hsus]
          split
          · exact Nat.pow_lt_pow_right (by decide) hsrc
          · exact Nat.two_pow_pos _
      | false =>
        rw [if_neg (fun k => by rw [(cmp_bel _ _ _ _).1 k] at hb; cases hb)] at h
        obtain ⟨rfl, rfl⟩ := Prod.mk.inj h
        have ht' : turnB F N s o = false := by rw [ht, hh, hb]; rfl
        obtain ⟨q1, q2, q3, q4⟩ := susp_case s o.src o.num o.node o.susp
        unfold wantV
        rw [ht']
        refine ⟨by rw [q1, q2]; rfl, fun _ => rfl, fun e => (by cases e), fun e => (by cases e), ?_, fun e => (by cases e)⟩
        rcases q4 with q4 | q4
        · rw [q4]; exact hs
        · rw [q4]; exact withB_small _ _ _ hs hsrc hN32
  · rw [if_neg h3] at h
    by_cases h4 : o.kd = 4
    · rw [if_pos h4] at h
      have ht : turnB F N s o = false := by unfold turnB; rw [if_neg h3, if_neg (by omega)]
      have hv : wantV F N s o = (s.num, s.node) := by unfold wantV; rw [ht, if_neg (by decide)]
      rw [hv, ht]
      have hs' : s' = (Ev.timeout c 0 s o.now).1 := congrArg Prod.fst h
      have key : (s'.num = s.num ∧ s'.node = s.node) ∧ (s'.sus = s.sus ∨ s'.sus = withB s.sus ((0 : Nat) : Int)) := by
        rw [hs']
        unfold Ev.timeout
        split
        · exact ⟨⟨rfl, rfl⟩, .inl rfl⟩
        · split
          · exact ⟨⟨rfl, rfl⟩, .inl rfl⟩
          · exact ⟨⟨rfl, rfl⟩, .inr rfl⟩
      refine ⟨by rw [key.1.1, key.1.2], fun e => by omega, fun e => (by cases e), fun e => (by cases e), ?_, fun e => (by cases e)⟩
      rcases key.2 with q | q
      · rw [q]; exact hs
      · rw [q]; exact withB_small _ 0 _ hs (by omega) hN32
    · rw [if_neg h4] at h
      by_cases h5 : o.kd = 5
      · rw [if_pos h5] at h
        have ht : turnB F N s o = (decide (F + 1 ≤ (memU s.sus N).length) && !lastB N s) := by unfold turnB; rw [if_neg h3, if_pos h5]
        have hcc := count_eq s.sus N hs hN32
        unfold Ev.quorum at h
        by_cases q1 : ((countB s.sus : Nat) : Int) < c.f + 1
        · rw [if_pos q1] at h
          obtain ⟨e1, rfl⟩ := Prod.mk.inj h
          have e2 := e1.symm
          subst e2
          rw [hf.f, hcc] at q1
          have ht' : turnB F N s o = false := by rw [ht, decide_eq_false (by omega)]; rfl
          unfold wantV
          rw [ht']
          exact ⟨rfl, fun _ => rfl, fun e => (by cases e), fun e => (by cases e), hs, fun e => (by cases e)⟩
        · rw [if_neg q1] at h
          rw [hf.f, hcc] at q1
          by_cases q2 : s.num = c.mn ∧ s.node = 2 * c.f
          · rw [if_pos q2] at h
            obtain ⟨e1, rfl⟩ := Prod.mk.inj h
            have e2 := e1.symm
            subst e2
            rw [hf.mn, hf.f] at q2
            have hlast : lastB N s = true := by unfold lastB; rw [decide_eq_true (by omega), decide_eq_true (by omega)]; rfl
            have ht' : turnB F N s o = false := by rw [ht, hlast]; simp
            unfold wantV
            rw [ht']
            exact ⟨rfl, fun _ => rfl, fun e => (by cases e), fun e => (by cases e), hs, fun e => (by cases e)⟩
          · rw [if_neg q2] at h
            rw [hf.mn, hf.f] at q2
            have hlast : lastB N s = false := by
              unfold lastB
              by_cases a : (s.num : Int) = 1099511627776
              · rw [decide_eq_false (show ¬ s.node = (N : Int) - 1 by omega)]; simp
              · rw [decide_eq_false a]; rfl
            have ht' : turnB F N s o = true := by rw [ht, hlast, decide_eq_true (by omega)]; rfl
            rw [hf.f] at h
            unfold wantV
            rw [ht', if_pos rfl, if_neg h3]
            by_cases q3 : s.node < 2 * (F : Int)
            · rw [if_pos q3] at h
              obtain ⟨rfl, rfl⟩ := Prod.mk.inj h
              rw [if_pos (by omega)]
              refine ⟨rfl, fun _ => rfl, fun _ => ?_, fun _ => ?_, Nat.two_pow_pos _, fun _ e => absurd e h3⟩
              · show s.len ≤ min (2 * s.len) c.em
                omega
              · rw [if_neg (fun e => h3 e.1)]; rfl
            · rw [if_neg q3] at h
              obtain ⟨rfl, rfl⟩ := Prod.mk.inj h
              rw [if_neg (by omega)]
              refine ⟨rfl, fun _ => rfl, fun _ => ?_, fun _ => ?_, Nat.two_pow_pos _, fun _ e => absurd e h3⟩
              · show s.len ≤ min (2 * s.len) c.em
                omega
              · rw [if_neg (fun e => h3 e.1)]; rfl
      · rw [if_neg h5] at h
        have ht : turnB F N s o = false := by unfold turnB; rw [if_neg h3, if_neg h5]
        have hv : wantV F N s o = (s.num, s.node) := by unfold wantV; rw [ht, if_neg (by decide)]
        rw [hv, ht]
        exact ⟨by rw [h.1, h.2.1], fun e => by omega, fun e => (by cases e), fun e => (by cases e), by rw [h.2.2.1]; exact hs, fun e => (by cases e)⟩
end Go.Proofs.Ythfbimbadkmhhaa
