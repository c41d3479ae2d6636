import Derived.Test.YthfbimbadkmhhaaMGA
import Derived.Test.YthfbimbadkmhhaaMBMj
import Derived.Test.YthfbimbadkmhhaaMGF
import Derived.Test.YthfbimbadkmhhaaMGD
import Derived.Maps.RangeWalk
import Derived.Maps.OwnSet
import Derived.Test.YthfbimbadkmhhaaPBase
import Derived.RangeFuncBox
namespace Go.Proofs.Ythfbimbadkmhhaa
open Go.RowKit Crc

/-- What a request says. -/
def Rq.val (r : Rq) : Nat × Nat × List Nat := (r.cl, r.sq, r.C)
theorem Rqs.wide {lim lim' : Nat} {w : World} {ro : Option Addr} {rs : List Rq} {b off : Nat} (h : Rqs lim w ro rs b off) (hl : lim ≤ lim') : Rqs lim' w ro rs b off :=
  ⟨h.ad, fun e => Nat.lt_of_lt_of_le (h.lt e) hl, h.le, h.at_, fun r hr => ⟨(h.ok r hr).hc, (h.ok r hr).hs, (h.ok r hr).hC.wide hl⟩⟩
theorem Rqs.nil (lim : Nat) (w : World) (ro : Option Addr) : Rqs lim w ro [] 0 0 := ⟨fun h => by simp at h, fun h => by simp at h, by simp, fun i r h => by simp at h, fun r h => by simp at h⟩
/-- A block none of whose cells is a byte or a list, is none of a batch's. -/
def Odd (w : World) (q : Nat) : Prop := ∀ j v, w.cell? ⟨q, j, none⟩ = some v → (∀ x, v ≠ .int .u8 x) ∧ ∀ a n k, v ≠ .slice a n k
theorem Shows.odd {lim q : Nat} {w w' : World} {ao : Option Addr} {n cap : Nat} {B : List Nat} (h : Shows lim w ao n cap B) (hg : w.grownBy w' (some q)) (ho : Odd w q) : Shows lim w' ao n cap B := by
  obtain ⟨h1, h2, h3, h4, b, off, h5, h6, h7⟩ := h
  refine ⟨h1, h2, h3, h4, b, off, h5, h6, fun i hi => hg.cell (h7 i hi) (fun e => ?_)⟩
  cases e
  exact (ho _ _ (h7 i hi)).1 _ rfl
theorem Rqs.odd {lim q : Nat} {w w' : World} {ro : Option Addr} {rs : List Rq} {b off : Nat} (h : Rqs lim w ro rs b off) (hg : w.grownBy w' (some q)) (ho : Odd w q) : Rqs lim w' ro rs b off := by
  refine ⟨h.ad, h.lt, h.le, fun i r hr j v hv => hg.cell (h.at_ i r hr j v hv) (fun e => ?_), fun r hr => ⟨(h.ok r hr).hc, (h.ok r hr).hs, (h.ok r hr).hC.odd hg ho⟩⟩
  cases e
  exact (ho _ _ (h.at_ i r hr 2 _ rfl)).2 _ _ _ rfl
theorem odd_map {w : World} {q : Nat} {es : Array MapEntry} {k : Nat} (h : w.heap[q]? = some (.map es k)) : Odd w q := by
  intro j v hv
  simp [World.cell?, h] at hv

/-- A tally as it is told. -/
structure Jv where
  (num : Nat) (node : Int) (fr st : Nat) (rs : List (Nat × Nat × List Nat))
def Jv.zero : Jv := ⟨0, 0, 0, 0, []⟩
/-- A tally as it lies. -/
structure Jt where
  (num : Nat) (node : Int) (fr st : Nat) (ro : Option Addr) (n rc : Nat) (rs : List Rq) (b off : Nat)
def Jt.zero : Jt := ⟨0, 0, 0, 0, none, 0, 0, [], 0, 0⟩
def Jt.cells (t : Jt) : Array Value := #[.int .u64 (t.num : Nat), .int .i64 t.node, .int .u32 (t.fr : Nat), .int .u64 (t.st : Nat), .slice t.ro t.n t.rc]
def Jt.abs (t : Jt) : Jv := ⟨t.num, t.node, t.fr, t.st, t.rs.map Rq.val⟩
structure Jt.Ok (lim : Nat) (w : World) (t : Jt) : Prop where
  hn : t.num < 18446744073709551616
  hf : t.fr < 4294967296
  hs : t.st < 18446744073709551616
  hR : Rqs lim w t.ro t.rs t.b t.off
  hl : t.rs.length = t.n
theorem Jt.Ok.below {lim : Nat} {w w' : World} {t : Jt} (h : t.Ok lim w) (hb : Below lim w w') : t.Ok lim w' := ⟨h.hn, h.hf, h.hs, h.hR.below hb, h.hl⟩
theorem Jt.Ok.wide {lim lim' : Nat} {w : World} {t : Jt} (h : t.Ok lim w) (hl : lim ≤ lim') : t.Ok lim' w := ⟨h.hn, h.hf, h.hs, h.hR.wide hl, h.hl⟩
theorem Jt.Ok.odd {lim q : Nat} {w w' : World} {t : Jt} (h : t.Ok lim w) (hg : w.grownBy w' (some q)) (ho : Odd w q) : t.Ok lim w' := ⟨h.hn, h.hf, h.hs, h.hR.odd hg ho, h.hl⟩
theorem Jt.zero_ok (lim : Nat) (w : World) : Jt.zero.Ok lim w := ⟨by decide, by decide, by decide, Rqs.nil lim w none, rfl⟩
theorem Jt.zero_abs : Jt.zero.abs = Jv.zero := rfl

/-- An element reads as itself. -/
def RV : Value → Option (DataW Value × List MemPlace) := fun v => some (.held v, [])
abbrev kU (x : Nat) : Lit := .int .u64 (x : Int)
theorem KD : Maps.Keyed Try.prog 22 := Maps.int_keyed Try.underlying22
theorem kU_wf {x : Nat} (h : x < 18446744073709551616) : (kU x).wf = true := by simp [Lit.wf, IntKind.min, IntKind.max, IntKind.bits, IntKind.signed]; omega
theorem kU_of {x : Nat} (h : x < 18446744073709551616) : keyOf Try.prog 22 (.int .u64 (x : Int)) = some (kU x) := Maps.keyOf_int_mk Try.underlying22 (kU_wf h)
theorem kU_inj {x y : Nat} (h : kU x = kU y) : x = y := by cases h; rfl
/-- The map's block: under each number that tally. -/
def TLm (W : World) (mb n : Nat) (m : Nat → Jt) : Prop :=
  ∃ D : DataW Value, W.ownsMap Try.prog 22 RV mb n D ∧ ∀ x, x < 18446744073709551616 → D.atKey (kU x) (.held (.agg Jt.zero.cells)) = .held (.agg (m x).cells) ∧ (Maps.has D (kU x) = true → 0 < (m x).fr)
theorem TLm.obj {W : World} {mb n : Nat} {m : Nat → Jt} (h : TLm W mb n m) : ∃ es k, W.heap[mb]? = some (.map es k) := by
  obtain ⟨D, ⟨es, k, h1, _⟩, _⟩ := h
  exact ⟨es, k, h1⟩
theorem TLm.odd {W : World} {mb n : Nat} {m : Nat → Jt} (h : TLm W mb n m) : Odd W mb := by
  obtain ⟨es, k, h⟩ := h.obj
  exact odd_map h
theorem TLm.lt {W : World} {mb n : Nat} {m : Nat → Jt} (h : TLm W mb n m) : mb < W.heap.size := by
  obtain ⟨es, k, h⟩ := h.obj
  exact block_lt h
theorem TLm.kept {W W' : World} {mb n : Nat} {m : Nat → Jt} (h : TLm W mb n m) {row : Option Nat} (hg : W.grownBy W' row) (hne : some mb ≠ row) : TLm W' mb n m := by
  obtain ⟨D, h1, h2⟩ := h
  exact ⟨D, h1.kept hg hne, h2⟩
def updT {β : Type} (m : Nat → β) (k : Nat) (v : β) : Nat → β := fun x => if x = k then v else m x
theorem tlm_made (W : World) : TLm (W.alloc (.map #[] 0)) W.heap.size 0 (fun _ => Jt.zero) := ⟨.map [], World.ownsMap_made W _ _ _, fun _ _ => ⟨rfl, fun h => (by cases h)⟩⟩

theorem below_less {w w' : World} {B : Nat} (h : Below w.heap.size w w') (hB : B ≤ w.heap.size) : Below B w w' := h.mono hB
end Go.Proofs.Ythfbimbadkmhhaa
namespace Go.Proofs.Ythfbimbadkmhhaa
open Go.RowKit Crc

/-- A list that was appended to: nothing but its own row has turned, and what it has now is that row or a new one. -/
def Ext (w w' : World) (v v' : Value) : Prop := w.grownBy w' v.ownBlock ∧ ∀ g, v'.ownBlock = some g → v.ownBlock = some g ∨ w.heap.size ≤ g
theorem Ext.refl (w : World) (v : Value) : Ext w w v v := ⟨⟨rfl, rfl, rfl, Nat.le_refl _, fun _ _ _ => rfl⟩, fun _ h => .inl h⟩
theorem Ext.trans {a b c : World} {u v x : Value} (h : Ext a b u v) (k : Ext b c v x) : Ext a c u x := by
  refine ⟨⟨k.1.os.trans h.1.os, k.1.tape.trans h.1.tape, k.1.output.trans h.1.output, Nat.le_trans h.1.size k.1.size, fun i hi hr => ?_⟩, fun g hg => ?_⟩
  · refine (k.1.block i (Nat.lt_of_lt_of_le hi h.1.size) (fun e => ?_)).trans (h.1.block i hi hr)
    rcases h.2 i e.symm with h1 | h1
    · exact hr h1.symm
    · omega
  · rcases k.2 g hg with h1 | h1
    · exact h.2 g h1
    · exact .inr (Nat.le_trans h.1.size h1)
theorem Ext.alloc {a b : World} {u v : Value} (h : Ext a b u v) (o : Obj) : Ext a (b.alloc o) u v := by
  refine h.trans ⟨World.grownBy_alloc b o _, fun g hg => .inl hg⟩

section
variable {P : Program} {ops : Array Oper} {rest : List Oper} {o : Oper} {a : Act} {Q : Exit → Act → World → Prop}
theorem wpList_append_ext (w : World) (hgd : o.guard = none) (s x : Operand) (t : TypeId)
    (ho : o.op = .call { callee := .builtin .append, args := #[s, x], argTypes := #[t, t] })
    (base : Nat) (e : TypeId) (i : TypeInfo) (z : Value) (ht : P.underlying t = some (.slice e)) (hi : P.info? e = some i) (hz : i.zero = some z)
    (hsize : i.size = 1) (hby : i.bytes = 1) (hzs : z.cells.size = 1)
    (v : Value) (n : Nat) (xs : List Value) (hs : a.eval s = v) (hown : w.ownsRow base e 1 v n xs)
    (ad : Addr) (m c : Nat) (news : List Value) (hx : a.eval x = .slice (some ad) m c) (hl : news.length = m) (hnews : ∀ j u, news[j]? = some u → w.cell? (ad.add j) = some u) (h1 : ∀ u ∈ news, u.oneCell' = true)
    (hm : 0 < m) (hbytes : n + m ≤ 140737488355328) (hbase : base ≤ w.heap.size)
    (h : ∀ v' w', w'.ownsRow base e 1 v' (n + m) (xs ++ news) → Ext w w' v v' → wpList P ops Q rest (a.put o.dst v') w') : wpList P ops Q (o :: rest) a w := by
  rcases hown.2 with ⟨rfl, rfl⟩ | ⟨g, cap, cur, rfl, hbg, hg, hnc, hcm, hcs, htake⟩
  · have hxs : xs = [] := List.eq_nil_of_length_eq_zero (by have := hown.1; omega)
    subst hxs
    refine wpList_append_grows w hgd s x t ho e i z 1 1 ht hi hz hsize hby hzs (by omega) none 0 0 [] hs (fun _ => ⟨rfl, rfl⟩) (by simp) (fun b hb => by cases hb) ad m c news hx (by omega) hnews h1 (by omega) (by unfold maxLen; omega) (by omega) ?_
    intro v' w' hown' hgrow
    refine h v' w' ?_ ⟨⟨hgrow.os, hgrow.tape, hgrow.output, hgrow.size, hgrow.block⟩, fun g hg => .inr (hown'.lt g hg).1⟩
    refine ⟨hown'.1, ?_⟩
    rcases hown'.2 with h0 | ⟨g, cap, cur, hv, hbg, rest⟩
    · exact .inl h0
    · exact .inr ⟨g, cap, cur, hv, by omega, rest⟩
  · by_cases hroom : n + m ≤ cap
    · refine wpList_append_own_spare w hgd s x t ho base e i 1 ht hi hsize g n cap xs hs hown ad m c news hx (by omega) hnews h1 hroom ?_
      intro w' hown' hgrow
      exact h _ w' hown' ⟨hgrow, fun g' hg' => .inl hg'⟩
    · have holds : ∀ b, some (⟨g, 0, none⟩ : Addr) = some b → ∀ j u, xs[j]? = some u → w.cell? (b.add j) = some u := by
        intro b hb j u hj
        cases hb
        exact hown.cells rfl j u hj
      refine wpList_append_grows w hgd s x t ho e i z 1 1 ht hi hz hsize hby hzs (by omega) (some ⟨g, 0, none⟩) n cap xs hs (fun h => by cases h) hown.1 holds ad m c news hx (by omega) hnews h1 (by omega) (by unfold maxLen; omega) (by omega) ?_
      intro v' w' hown' hgrow
      refine h v' w' ?_ ⟨⟨hgrow.os, hgrow.tape, hgrow.output, hgrow.size, fun k hk _ => hgrow.block k hk (by simp)⟩, fun g hg => .inr (hown'.lt g hg).1⟩
      refine ⟨hown'.1, ?_⟩
      rcases hown'.2 with h0 | ⟨g, cap, cur, hv, hbg, rest⟩
      · exact .inl h0
      · exact .inr ⟨g, cap, cur, hv, by omega, rest⟩
end

/-- A number in groups of seven bits, the lowest first. -/
def numTo : Nat → Nat → List Nat
  | 0, v => [v]
  | f + 1, v => if v < 128 then [v] else (v % 128 + 128) :: numTo f (v / 128)
def numB (v : Nat) : List Nat := numTo 9 v
theorem numTo_lt : ∀ f v, v < 128 ^ (f + 1) → ∀ x ∈ numTo f v, x < 256
  | 0, v, h, x, hx => by simp [numTo] at hx; subst hx; simp at h; omega
  | f + 1, v, h, x, hx => by
    unfold numTo at hx
    by_cases hv : v < 128
    · rw [if_pos hv] at hx; simp at hx; omega
    · rw [if_neg hv] at hx
      rcases List.mem_cons.1 hx with rfl | hx
      · omega
      · exact numTo_lt f (v / 128) (by rw [Nat.pow_succ] at h; omega) x hx
theorem numB_lt (v : Nat) (h : v < 18446744073709551616) : ∀ x ∈ numB v, x < 256 := numTo_lt 9 v (by omega)
theorem numTo_len : ∀ f v, (numTo f v).length ≤ f + 1
  | 0, v => by simp [numTo]
  | f + 1, v => by
    unfold numTo
    by_cases hv : v < 128
    · rw [if_pos hv]; simp
    · rw [if_neg hv]; simp; exact numTo_len f (v / 128)
theorem numTo_pos : ∀ f v, 0 < (numTo f v).length
  | 0, v => by simp [numTo]
  | f + 1, v => by unfold numTo; by_cases hv : v < 128 <;> simp [hv]
/-- One step, fuel aside. -/
theorem numTo_more : ∀ f v, v < 128 ^ (f + 1) → numTo (f + 1) v = numTo f v
  | 0, v, h => by simp at h; simp [numTo, h]
  | f + 1, v, h => by
    rw [numTo]
    conv => rhs; rw [numTo]
    by_cases hv : v < 128
    · rw [if_pos hv, if_pos hv]
    · rw [if_neg hv, if_neg hv, numTo_more f (v / 128) (by rw [Nat.pow_succ] at h; omega)]
theorem numB_big (v : Nat) (hv : ¬ v < 128) (h : v < 18446744073709551616) : numB v = (v % 128 + 128) :: numB (v / 128) := by
  unfold numB
  conv => lhs; rw [numTo]
  rw [if_neg hv, numTo_more 8 (v / 128) (by omega)]
theorem numB_small (v : Nat) (hv : v < 128) : numB v = [v] := by simp [numB, numTo, hv]
end Go.Proofs.Ythfbimbadkmhhaa
namespace Go.Proofs.Ythfbimbadkmhhaa
open Go.RowKit Crc

theorem append_none_run (a b : Option Addr) (n c m : Nat) (hn : n ≤ c) (w : World) : (Builtin.append_ #[35, 35] 35 #[.slice a n c, .slice b 0 m]).run Try.prog w = .ok (.slice a n c) w := by
  obtain ⟨i0, hi, hz0, hz1, hz2⟩ := info_parts Try.info5
  cases a <;> cases b <;> simp [Builtin.append_, run_underlying Try.underlying35, sizeOf, typeInfo, hi, storeCells, go_sem, hn]
theorem infoReq : (Try.prog.info? 37).map (fun i => (i.zero, i.size, i.bytes)) = some (some (.agg #[.int .u64 0, .int .u64 0, .slice none 0 0]), 3, 40) := by kernel_rfl
def rcells (rs : List Rq) : List Value := (rs.map fun r => r.cells.toList).flatten
theorem rcells_snoc (rs : List Rq) (r : Rq) : rcells (rs ++ [r]) = rcells rs ++ [.int .u64 (r.cl : Int), .int .u64 (r.sq : Int), .slice r.co r.cn r.cc] := by simp [rcells, Rq.cells]
theorem rcells_len : ∀ rs : List Rq, (rcells rs).length = rs.length * 3
  | [] => rfl
  | r :: t => by
    have := rcells_len t
    simp only [rcells, List.map_cons, List.flatten_cons, List.length_append, List.length_cons] at this ⊢
    rw [this]
    simp [Rq.cells]
    omega
theorem rcells_at : ∀ (rs : List Rq) (i : Nat) (r : Rq), rs[i]? = some r → ∀ j v, r.cells[j]? = some v → (rcells rs)[i * 3 + j]? = some v
  | [], i, r, h, _, _, _ => by simp at h
  | x :: t, 0, r, h, j, v, hv => by
    simp at h
    subst h
    have hj : j < 3 := by
      have := (Array.getElem?_eq_some_iff.1 hv).1
      simpa [Rq.cells] using this
    simp only [rcells, List.map_cons, List.flatten_cons]
    rw [List.getElem?_append_left (by simp [Rq.cells]; omega)]
    rw [Nat.zero_mul, Nat.zero_add, ← Array.getElem?_toList] at *
    exact hv
  | x :: t, i + 1, r, h, j, v, hv => by
    have := rcells_at t i r (by simpa using h) j v hv
    simp only [rcells, List.map_cons, List.flatten_cons] at *
    rw [List.getElem?_append_right (by simp [Rq.cells]; omega)]
    have e : (i + 1) * 3 + j - x.cells.toList.length = i * 3 + j := by simp [Rq.cells]; omega
    rw [e]
    exact this
theorem row_quiet {base size k : Nat} {e : TypeId} {w w' : World} {v : Value} {xs : List Value} (h : w.ownsRow base e size v k xs) (hg : w.grownBy w' none) : w'.ownsRow base e size v k xs := by
  refine h.kept hg ?_
  cases v.ownBlock with
  | none => exact .inl rfl
  | some g => exact .inr (by simp)
/-- Two rows of unlike types. -/
theorem rows_ne {b1 b2 k1 k2 s1 s2 : Nat} {e1 e2 : TypeId} {w : World} {v1 v2 : Value} {x1 x2 : List Value} (h1 : w.ownsRow b1 e1 s1 v1 k1 x1) (h2 : w.ownsRow b2 e2 s2 v2 k2 x2) (he : e1 ≠ e2) : v1.ownBlock = none ∨ v1.ownBlock ≠ v2.ownBlock := by
  rcases h1.2 with ⟨rfl, _⟩ | ⟨g1, c1, u1, rfl, _, g1h, _⟩
  · exact .inl rfl
  · rcases h2.2 with ⟨rfl, _⟩ | ⟨g2, c2, u2, rfl, _, g2h, _⟩
    · right; simp [Value.ownBlock]
    · right
      intro e
      cases e
      rw [g1h] at g2h
      cases g2h
      exact he rfl
/-- A row and a box of another type. -/
theorem row_box {b1 k1 s1 B : Nat} {e1 t : TypeId} {w : World} {v1 : Value} {x1 : List Value} {cs : Array Value} (h1 : w.ownsRow b1 e1 s1 v1 k1 x1) (hb : w.heap[B]? = some (.cells cs t (0, 0))) (he : e1 ≠ t) : v1.ownBlock ≠ some B := by
  rcases h1.2 with ⟨rfl, _⟩ | ⟨g1, c1, u1, rfl, _, g1h, _⟩
  · simp [Value.ownBlock]
  · intro e
    cases e
    rw [g1h] at hb
    cases hb
    exact he rfl

/-- A copied request: its command is its own. -/
structure Cq (base : Nat) (w : World) (r : Rq) : Prop where
  hc : r.cl < 18446744073709551616
  hs : r.sq < 18446744073709551616
  ow : Owns base w (.slice r.co r.cn r.cc) r.C
  hl : r.cn = r.C.length
theorem Cq.ok {base : Nat} {w : World} {r : Rq} (h : Cq base w r) : r.Ok w.heap.size w := by
  obtain ⟨hc, hs, ow, hl⟩ := h
  obtain ⟨cl, sq, co, cn, cc, C⟩ := r
  simp only at hl ow
  subst hl
  obtain ⟨ao, cap, e, hs', _⟩ := ow.form
  cases e
  exact ⟨hc, hs, hs'⟩
theorem Cq.next {base : Nat} {w w' : World} {r : Rq} {row : Option Nat} (h : Cq base w r) (hg : w.grownBy w' row) (hne : (Value.slice r.co r.cn r.cc).ownBlock = none ∨ (Value.slice r.co r.cn r.cc).ownBlock ≠ row) : Cq base w' r := ⟨h.hc, h.hs, h.ow.kept hg hne, h.hl⟩
theorem Cq.quiet {base : Nat} {w w' : World} {r : Rq} (h : Cq base w r) (hg : w.grownBy w' none) : Cq base w' r := ⟨h.hc, h.hs, h.ow.quiet hg, h.hl⟩
/-- Between two rounds. -/
structure Tw (w W2 : World) (rs : List Rq) (k : Nat) (v : Value) (rs1 : List Rq) (wr : World) : Prop where
  bel : Below W2.heap.size W2 wr
  row : wr.ownsRow W2.heap.size 37 3 v k (rcells rs1)
  len : rs1.length = k
  val : rs1.map Rq.val = (rs.take k).map Rq.val
  cq : ∀ r ∈ rs1, Cq W2.heap.size wr r
theorem Tw.next {w W2 : World} {rs : List Rq} {k : Nat} {v v' : Value} {rs1 : List Rq} {wr w1 w2 : World} {r r1 : Rq} {cs : Array Value} {x : Value} {o1 o2 : Obj}
    (h : Tw w W2 rs k v rs1 wr) (hr : rs[k]? = some r) (g1 : (wr.alloc o1).grownBy w1 none) (hq : w1.heap[wr.heap.size]? = some (.cells cs 37 (0, 0)))
    (hc : Cq W2.heap.size w1 r1) (hv : r1.val = r.val)
    (ho : w2.ownsRow W2.heap.size 37 3 v' (k + 1) (rcells (rs1 ++ [r1]))) (hg : ((w1.setCell ⟨wr.heap.size, 2, none⟩ x).alloc o2).grownBy w2 v.ownBlock) :
    Tw w W2 rs (k + 1) v' (rs1 ++ [r1]) w2 := by
  have hs := h.bel.size
  have g01 : wr.grownBy w1 none := grown_trans (World.grownBy_alloc wr o1 none) g1
  have row1 := row_quiet h.row g01
  have hvq : v.ownBlock ≠ some wr.heap.size := fun e => by have := (h.row.lt _ e).2; omega
  have cq1 : ∀ y ∈ rs1 ++ [r1], Cq W2.heap.size w1 y := fun y hy => by
    rcases List.mem_append.1 hy with hy | hy
    · exact (h.cq y hy).quiet g01
    · simp at hy; subst hy; exact hc
  have row2 := row1.kept (grown_set w1 wr.heap.size 2 x) (.inr hvq)
  have cq2 : ∀ y ∈ rs1 ++ [r1], Cq W2.heap.size (w1.setCell ⟨wr.heap.size, 2, none⟩ x) y := fun y hy => (cq1 y hy).next (grown_set w1 wr.heap.size 2 x) (.inr (row_box (cq1 y hy).ow.1 hq (by decide)))
  have hgA := World.grownBy_alloc (w1.setCell ⟨wr.heap.size, 2, none⟩ x) o2 none
  have row3 := row_quiet row2 hgA
  have cq3 : ∀ y ∈ rs1 ++ [r1], Cq W2.heap.size ((w1.setCell ⟨wr.heap.size, 2, none⟩ x).alloc o2) y := fun y hy => (cq2 y hy).quiet hgA
  refine ⟨?_, ho, by simp [h.len], ?_, fun y hy => (cq3 y hy).next hg (rows_ne (cq3 y hy).ow.1 row3 (by decide))⟩
  · have b1 : Below W2.heap.size W2 w1 := h.bel.grown g01 hs (fun k e => by cases e)
    have b2 := b1.setCell (p := ⟨wr.heap.size, 2, none⟩) (by simpa using hs) x
    have b3 := b2.grown hgA b2.size (fun k e => by cases e)
    exact b3.grown hg b3.size (fun k e => (row3.lt k e).1)
  · rw [List.map_append, h.val, List.take_add_one, hr]
    simp [hv]
/-- What is told as a batch. -/
def BtOk (w : World) (st : Nat) (v : Value) (rv : List (Nat × Nat × List Nat)) : Prop := ∃ ro rc rs b off, v = .slice ro rs.length rc ∧ rs.map Rq.val = rv ∧ Rqs w.heap.size w ro rs b off ∧ st < 18446744073709551616
/-- The same, of whatever world keeps the cells of the blocks from lo to hi. -/
def BtOn (lo hi : Nat) (w : World) (st : Nat) (v : Value) (rv : List (Nat × Nat × List Nat)) : Prop := ∀ w', w.heap.size ≤ w'.heap.size → (∀ (q j : Nat) (u : Value), lo ≤ q → q < hi → w.cell? ⟨q, j, none⟩ = some u → w'.cell? ⟨q, j, none⟩ = some u) → BtOk w' st v rv
theorem BtOn.ok {lo hi : Nat} {w : World} {st : Nat} {v : Value} {rv : List (Nat × Nat × List Nat)} (h : BtOn lo hi w st v rv) : BtOk w st v rv := h w (Nat.le_refl _) (fun _ _ _ _ _ e => e)
theorem BtOn.next {lo hi : Nat} {w w2 : World} {st : Nat} {v : Value} {rv : List (Nat × Nat × List Nat)} (h : BtOn lo hi w st v rv) (hs : w.heap.size ≤ w2.heap.size) (hk : ∀ (q j : Nat) (u : Value), lo ≤ q → q < hi → w.cell? ⟨q, j, none⟩ = some u → w2.cell? ⟨q, j, none⟩ = some u) : BtOn lo hi w2 st v rv := fun w' hs' hk' => h w' (Nat.le_trans hs hs') (fun q j u h1 h2 h3 => hk' q j u h1 h2 (hk q j u h1 h2 h3))
theorem BtOk.kept {w w' : World} {st : Nat} {v : Value} {rv : List (Nat × Nat × List Nat)} (h : BtOk w st v rv) (hb : Below w.heap.size w w') : BtOk w' st v rv := by
  obtain ⟨ro, rc, rs, b, off, h1, h2, h3, h4⟩ := h
  exact ⟨ro, rc, rs, b, off, h1, h2, (h3.below hb).wide hb.size, h4⟩
theorem BtOk.odd {w w' : World} {st q : Nat} {v : Value} {rv : List (Nat × Nat × List Nat)} (h : BtOk w st v rv) (hg : w.grownBy w' (some q)) (ho : Odd w q) : BtOk w' st v rv := by
  obtain ⟨ro, rc, rs, b, off, h1, h2, h3, h4⟩ := h
  exact ⟨ro, rc, rs, b, off, h1, h2, (h3.odd hg ho).wide hg.size, h4⟩
theorem Tw.form {w W2 : World} {rs : List Rq} {k : Nat} {v : Value} {rs1 : List Rq} {wr : World} (h : Tw w W2 rs k v rs1 wr) (hle : k ≤ 3518437208883) : ∃ ao cap b, v = .slice ao rs1.length cap ∧ Rqs wr.heap.size wr ao rs1 b 0 := by
  have hl := h.len
  rcases h.row.2 with ⟨rfl, h0⟩ | ⟨g, cap, cur, rfl, hbg, hg, hnc, hcm, hcs, htake⟩
  · have : rs1 = [] := List.eq_nil_of_length_eq_zero (by omega)
    subst this
    exact ⟨none, 0, 0, rfl, Rqs.nil _ _ _⟩
  · refine ⟨some ⟨g, 0, none⟩, cap, g, by rw [hl], fun _ => rfl, fun _ => block_lt hg, by omega, fun i r hr j v hv => ?_, fun r hr => (h.cq r hr).ok⟩
    have h1 := rcells_at rs1 i r hr j v hv
    have hlt : i * 3 + j < k * 3 := by rw [← hl, ← rcells_len]; exact (List.getElem?_eq_some_iff.1 h1).1
    rw [← htake, List.getElem?_take, if_pos hlt] at h1
    have h2 := cell_of_row wr g (0 + i * 3 + j) cur _ (0, 0) hg
    rw [h2, Nat.zero_add]
    simpa using h1
/-- What lies in the new row and in the commands' own blocks is there still. -/
theorem Tw.turned {w W2 : World} {rs : List Rq} {k : Nat} {ao : Option Addr} {cap : Nat} {rs1 : List Rq} {wr w' : World} {b : Nat} (h : Tw w W2 rs k (.slice ao rs1.length cap) rs1 wr) (hR : Rqs wr.heap.size wr ao rs1 b 0) (_ : k ≤ 3518437208883)
    (hc : ∀ (q j : Nat) (v : Value), W2.heap.size ≤ q → wr.cell? ⟨q, j, none⟩ = some v → w'.cell? ⟨q, j, none⟩ = some v) (hs : wr.heap.size ≤ w'.heap.size) : Rqs w'.heap.size w' ao rs1 b 0 := by
  refine ⟨hR.ad, fun e => Nat.lt_of_lt_of_le (hR.lt e) hs, hR.le, fun i r hr j v hv => ?_, fun r hr => ?_⟩
  · refine hc b _ v ?_ (hR.at_ i r hr j v hv)
    have hpos : 0 < rs1.length := by have := (List.getElem?_eq_some_iff.1 hr).1; omega
    have e := hR.ad hpos
    subst e
    exact (h.row.lt b (by simp [Value.ownBlock])).1
  · have q := h.cq r hr
    obtain ⟨cl, sq, co, cn, cc, C⟩ := r
    obtain ⟨s1, s2, s3, s4, cb, coff, s5, s6, s7⟩ := q.ok.hC
    simp only at s1 s2 s3 s4 s5 s6 s7
    refine ⟨q.hc, q.hs, s1, s2, s3, s4, cb, coff, s5, fun e => Nat.lt_of_lt_of_le (s6 e) hs, fun i hi => hc cb _ _ ?_ (s7 i hi)⟩
    have hi' : i < cn := hi
    have e := s5 (by omega)
    subst e
    have hw := q.ow.1
    rcases hw.2 with ⟨h0, _⟩ | ⟨g, cap', cur, h0, hbg, _⟩
    · cases h0
    · have e : cb = g := by simp only [Value.slice.injEq, Option.some.injEq, Addr.mk.injEq] at h0; exact h0.1.1
      rw [e]
      exact hbg
theorem cell_req_new (W : World) (x y z : Value) (t : TypeId) : ∀ (j : Nat) (u : Value), [x, y, z][j]? = some u → (W.alloc (.cells #[x, y, z] t)).cell? (Addr.add ⟨W.heap.size, 0, none⟩ j) = some u := by
  intro j u hu
  have := World.cell?_alloc_new W #[x, y, z] t j
  have he : Addr.add ⟨W.heap.size, 0, none⟩ j = ⟨W.heap.size, j, none⟩ := by
    simp only [Addr.add]
    split <;> simp_all
  rw [he, this]
  simpa using hu
end Go.Proofs.Ythfbimbadkmhhaa
