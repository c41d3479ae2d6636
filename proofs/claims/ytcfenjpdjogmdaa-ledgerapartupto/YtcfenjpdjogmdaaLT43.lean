import Derived.Test.YtcfenjpdjogmdaaLT41
import Derived.Test.YtcfenjpdjogmdaaLT42
import Derived.Test.YtcfenjpdjogmdaaLT39
namespace Go.Proofs.Ytcfenjpdjogmdaa
open Go.RowKit Go.Shelf
attribute [local go_sem] Oper.semAt_some

theorem cntO_le {α : Type} (n : Nat) (o o' : Option α) : cntO n o o' ≤ n + 1 := by unfold cntO; split <;> split <;> omega
theorem Bk.undo_le (M : MS) (d : Bk) : (Bk.undo M d).acn ≤ M.acn + 1 ∧ (Bk.undo M d).hon ≤ M.hon + 1 := by
  cases d with
  | A x old => exact ⟨cntO_le _ _ _, by show M.hon ≤ M.hon + 1; omega⟩
  | H x old => exact ⟨by show M.acn ≤ M.acn + 1; omega, cntO_le _ _ _⟩
  | J k sq old => exact ⟨by show M.acn ≤ M.acn + 1; omega, by show M.hon ≤ M.hon + 1; omega⟩
def bkAt (ds : List Bk) (x : Nat) : Bk := ds.getD x (ds.headD (.A 0 none))
/-- Some are taken back, in the order of pre. -/
def undoL (ds : List Bk) (M : MS) (pre : List Nat) : MS := pre.foldl (fun M x => Bk.undo M (bkAt ds x)) M
theorem undoL_snoc (ds : List Bk) (M : MS) (pre : List Nat) (x : Nat) : undoL ds M (pre ++ [x]) = Bk.undo (undoL ds M pre) (bkAt ds x) := by unfold undoL; rw [List.foldl_append]; rfl
theorem undoL_le (ds : List Bk) : ∀ (pre : List Nat) (M : MS), (undoL ds M pre).acn ≤ M.acn + pre.length ∧ (undoL ds M pre).hon ≤ M.hon + pre.length
  | [], M => ⟨Nat.le_refl _, Nat.le_refl _⟩
  | x :: pre, M => by
    have h := undoL_le ds pre (Bk.undo M (bkAt ds x))
    have k := Bk.undo_le M (bkAt ds x)
    have e : undoL ds M (x :: pre) = undoL ds (Bk.undo M (bkAt ds x)) pre := rfl
    rw [e, List.length_cons]
    omega
theorem undoL_all (ds : List Bk) (M : MS) : undoL ds M (rv ds.length) = undoAll ds M := by
  unfold undoL rv undoAll
  rw [List.foldl_reverse]
  have e : (List.range ds.length).map (bkAt ds) = ds := by
    apply List.ext_getElem
    · simp
    · intro i h1 h2
      rw [List.getElem_map, List.getElem_range]
      unfold bkAt
      rw [List.getD_eq_getElem?_getD, List.getElem?_eq_getElem h2]
      rfl
  conv => rhs; rw [← e]
  rw [List.foldr_map]
theorem bk_at {W : World} {p a b : Nat} {ds : List Bk} {xs : List Value} (hl : xs.length = ds.length) (h0 : 0 < ds.length) (h : ∀ (i : Nat) (d : Bk) (v : Value), ds[i]? = some d → xs[i]? = some v → d.Ok W p a b v) (x : Nat) : (bkAt ds x).Ok W p a b (xs.getD x (xs.headD .nilFunc)) := by
  have hd : ∀ i, i < ds.length → ∃ d v, ds[i]? = some d ∧ xs[i]? = some v := fun i hi => ⟨_, _, List.getElem?_eq_getElem hi, List.getElem?_eq_getElem (by omega)⟩
  obtain ⟨d0, v0, e1, e2⟩ := hd 0 h0
  have f1 : ds.headD (.A 0 none) = d0 := by cases ds with
    | nil => simp at h0
    | cons d t => simpa using e1
  have f2 : xs.headD .nilFunc = v0 := by cases xs with
    | nil => simp at e2
    | cons d t => simpa using e2
  unfold bkAt
  rw [f1, f2]
  by_cases hx : x < ds.length
  · obtain ⟨d, v, g1, g2⟩ := hd x hx
    rw [List.getD_eq_getElem?_getD, List.getD_eq_getElem?_getD, g1, g2]
    exact h x d v g1 g2
  · rw [List.getD_eq_getElem?_getD, List.getD_eq_getElem?_getD, List.getElem?_eq_none (by omega), List.getElem?_eq_none (by omega)]
    exact h 0 d0 v0 e1 e2
theorem enters1 {f : Nat} {ca : Array Value} (h : ∀ args w, (callFunc f args).run Try.prog w = .ok (.enter f args) w) : ∀ w, (callFunc f ca).run Try.prog w = .ok (.enter f ca) w := fun w => h ca w
/-- A closure is called: it takes back. -/
theorem Bk.call {W : World} {p a b : Nat} {mk ch : Value} {M : MS} (h : LGm W p a b mk ch M) (hA : M.acn < 4611686018427387904) (hH : M.hon < 4611686018427387904) {d : Bk} {v : Value} (hd : d.Ok W p a b v) :
    ∃ f ca, v = .func (.func f) #[] ca ∧ (∀ w, (callFunc f ca).run Try.prog w = .ok (.enter f ca) w) ∧ Calls Try.prog f ca W fun e W' => e = .returned (.tuple #[]) ∧ Hid (BkP W W' p a b mk ch (Bk.undo M d)) := by
  cases d with
  | A x old =>
    obtain ⟨h0, q0, q1, h1, h2, ⟨y, q, rfl, h4, rfl | rfl⟩ | ⟨rfl, rfl⟩⟩ := hd
    · exact ⟨_, _, rfl, enters1 (enters_of Try.func74 (by kernel_rfl) rfl), (backPutA h hA h0 h1 h2 h4).1⟩
    · exact ⟨_, _, rfl, enters1 (enters_of Try.func62 (by kernel_rfl) rfl), (backPutA h hA h0 h1 h2 h4).2⟩
    · exact ⟨_, _, rfl, enters1 (enters_of Try.func75 (by kernel_rfl) rfl), backDelA h h0 h1 h2⟩
  | H x old =>
    obtain ⟨h0, q0, q1, h1, h2, ⟨y, q, rfl, h4, rfl | rfl⟩ | ⟨rfl, rfl⟩⟩ := hd
    · exact ⟨_, _, rfl, enters1 (enters_of Try.func78 (by kernel_rfl) rfl), (backPutH h hH h0 h1 h2 h4).1⟩
    · exact ⟨_, _, rfl, enters1 (enters_of Try.func77 (by kernel_rfl) rfl), (backPutH h hH h0 h1 h2 h4).2⟩
    · exact ⟨_, _, rfl, enters1 (enters_of Try.func79 (by kernel_rfl) rfl), backDelH h h0 h1 h2⟩
  | J k sq old =>
    obtain ⟨h0, q13, q11, q12, q5, h1, h2, h3, h4, rfl⟩ := hd
    exact ⟨_, _, rfl, enters1 (enters_of Try.func76 (by kernel_rfl) rfl), backJ h h0 h1 h2 h3 h4⟩
theorem Fr3.flm {W W' : World} {p a b : Nat} {mk ch : Value} {M : MS} (h : Fr3 W W' p a b) (hl : LGm W p a b mk ch M) : Fl W W' := by
  obtain ⟨cs, h1, _⟩ := hl.blk
  obtain ⟨es, k, h2⟩ := hl.acc.obj
  obtain ⟨es', k', h3⟩ := hl.hol.obj
  refine ⟨h.size, fun q cs' t hq t1 t2 t3 => (h.block q (block_lt hq) (fun e => ?_) (fun e => ?_) (fun e => ?_)).trans hq⟩
  · subst e; rw [h1] at hq; cases hq; exact t1 rfl
  · subst e; rw [h2] at hq; cases hq
  · subst e; rw [h3] at hq; cases hq
/-- While changes are taken back. -/
structure TkI (w : World) (p a b : Nat) (mk ch : Value) (M0 : MS) (ds : List Bk) (pre : List Nat) (V : World) : Prop where
  lg : LGm V p a b mk ch (undoL ds M0 pre)
  fr : Fr3 w V p a b
section
variable {w : World} {p a b : Nat} {mk ch : Value} {M0 : MS} {ds : List Bk} {pre : List Nat} {V V' : World}
theorem TkI.grown (h : TkI w p a b mk ch M0 ds pre V) (hp : p < w.heap.size ∧ a < w.heap.size ∧ b < w.heap.size) {row : Option Nat} (hg : V.grownBy V' row) (hr : ∀ r, row = some r → w.heap.size ≤ r) : TkI w p a b mk ch M0 ds pre V' :=
  ⟨h.lg.other hg (fun e => by have := hr p e.symm; omega) (fun e => by have := hr a e.symm; omega) (fun e => by have := hr b e.symm; omega),
   ⟨hg.os.trans h.fr.os, hg.tape.trans h.fr.tape, hg.output.trans h.fr.output, Nat.le_trans h.fr.size hg.size, fun k hk n1 n2 n3 => (hg.block k (Nat.lt_of_lt_of_le hk h.fr.size) (fun e => by have := hr k e.symm; omega)).trans (h.fr.block k hk n1 n2 n3)⟩⟩
/-- A round. -/
theorem TkI.back (h : TkI w p a b mk ch M0 ds pre V) (x : Nat) (hb : BkP V V' p a b mk ch (Bk.undo (undoL ds M0 pre) (bkAt ds x))) : TkI w p a b mk ch M0 ds (pre ++ [x]) V' := by
  obtain ⟨g1, q, g2, g3⟩ := hb
  exact ⟨by rw [undoL_snoc]; exact g1, h.fr.trans (Fr3.of g3 (fun r e => by cases e; exact g2))⟩
end
end Go.Proofs.Ytcfenjpdjogmdaa
namespace Go.Proofs.Ytcfenjpdjogmdaa
open Go.RowKit Go.Shelf
attribute [local go_sem] Oper.semAt_some

/-- Behind the loop: what is cut off, and the slice written. -/
theorem tk_fin {w W W2 : World} {B p a b : Nat} {Z : SZ} {S S' : LS} (h : LM w B p a b Z S) {xs : List Value} (hd : ∀ (i : Nat) (d : Bk) (v : Value), Z.cs[i]? = some d → xs[i]? = some v → d.Ok w p a b v) {n : Nat} (hn : n ≤ Z.cs.length)
    (hl : LGm W p a b Z.mv Z.cv S'.ms) (hr : Fr3 w W p a b) {v' : Value} (h2 : W2.ownsRow B 122 1 v' n (xs.take n)) (hg : W.drew.grownBy W2 Z.cv.ownBlock) (hv : v'.ownBlock = Z.cv.ownBlock) :
    (W2.cell? ⟨p, 325, none⟩ = some Z.cv ∧ W2.frozen? ⟨p, 325, none⟩ = false ∧ p < W2.heap.size) ∧ ∀ (D : Nat) (o : Obj), w.heap.size ≤ D → (W2.setCell ⟨p, 325, none⟩ v').heap[D]? = some o → o.isCells = false → ∀ o', ∃ Z', LM ((W2.setCell ⟨p, 325, none⟩ v').putObj D o') B p a b Z' S' ∧ Tr w ((W2.setCell ⟨p, 325, none⟩ v').putObj D o') p a b Z Z' ∧ Z'.mv = Z.mv ∧ Z'.ms = Z.ms ∧ Z'.cs = Z.cs.take n := by
  have lt := h.lg.lt
  have f1 := hr.flm h.lg.toM
  obtain ⟨hr1, hr2⟩ := h.rows
  obtain ⟨xs0, hc0, _⟩ := h.cr
  have lW : LG W p a b Z.mv Z.cv S' := hl.toG
  have lD : LG W.drew p a b Z.mv Z.cv S' := lW.other (row := none) ⟨rfl, rfl, rfl, Nat.le_refl _, fun _ _ _ => rfl⟩ (by simp) (by simp) (by simp)
  have l2 : LG W2 p a b Z.mv Z.cv S' := lD.other hg (fun e => (hr1 p (.inl rfl)).2 e.symm) (fun e => (hr1 a (.inr (.inl rfl))).2 e.symm) (fun e => (hr1 b (.inr (.inr rfl))).2 e.symm)
  refine ⟨⟨l2.c.2.2.2.2.2, l2.free 325, l2.lt.1⟩, fun D o hD ho hoc o' => ?_⟩
  have hcW : W.drew.ownsRow B 122 1 Z.cv Z.cs.length xs0 := row_same hc0 (fun k e => hr.block k (hc0.lt k e).2 (fun e' => (hr1 k (.inl e')).2 e) (fun e' => (hr1 k (.inr (.inl e'))).2 e) (fun e' => (hr1 k (.inr (.inr e'))).2 e))
  have f0 : Fl W W.drew := ⟨Nat.le_refl _, fun _ _ _ h _ _ _ => h⟩
  have f2 : Fl W.drew W2 := Fl.grown hg (fun q e cs t hq => by
    rcases hcW.2 with ⟨e1, _⟩ | ⟨g, cp, cur, e1, _, hgq, _⟩
    · rw [e1] at e; cases e
    · rw [e1] at e
      cases e
      rw [hgq] at hq
      cases hq
      exact .inr (.inr rfl))
  obtain ⟨cs2, q2, _⟩ := l2.blk
  have gs := grown_set W2 p 325 v'
  have f3 : Fl W2 (W2.setCell ⟨p, 325, none⟩ v') := Fl.bel gs q2 (.inl rfl)
  have gp := grownBy_putObj' (W2.setCell ⟨p, 325, none⟩ v') D o'
  have f4 : Fl (W2.setCell ⟨p, 325, none⟩ v') ((W2.setCell ⟨p, 325, none⟩ v').putObj D o') := Fl.grown gp (fun q e cs t hq => by
    cases e
    rw [ho] at hq
    cases hq
    cases hoc)
  have ff := f1.trans (f0.trans (f2.trans (f3.trans f4)))
  have mW : W.drew.ownsRow B 3 1 Z.mv Z.ms.length (Z.ms.map (fun m => .int .i64 (m : Nat))) := row_same h.mr (fun k e => hr.block k (h.mr.lt k e).2 (fun e' => (hr1 k (.inl e')).1 e) (fun e' => (hr1 k (.inr (.inl e'))).1 e) (fun e' => (hr1 k (.inr (.inr e'))).1 e))
  have hmv : Z.mv.ownBlock = none ∨ Z.mv.ownBlock ≠ Z.cv.ownBlock := by
    rcases hr2 with e | e
    · cases e' : Z.mv.ownBlock with
      | none => exact .inl rfl
      | some k => exact .inr (by rw [e]; simp)
    · exact .inr (fun e' => e e'.symm)
  have m2 := mW.kept hg hmv
  have m3 := m2.kept gs (.inr (rowT_ne m2 q2 (by decide)))
  have c3 := h2.kept gs (.inr (rowT_ne h2 q2 (by decide)))
  have l3 := l2.setCh v'
  have nD : ∀ {t n u ys} {V : World}, w.ownsRow B t 1 u n ys → ∀ V', (V : World).grownBy V' (some D) → ∀ k, u.ownBlock = some k → k ≠ D := fun hrow V' _ k e => by have := (hrow.lt k e).2; omega
  refine ⟨{ Z with cv := v', cs := Z.cs.take n }, ⟨l3.other gp (fun e => by cases e; omega) (fun e => by cases e; omega) (fun e => by cases e; omega), m3.kept gp (.inr (fun e => by have := (h.mr.lt D e).2; omega)), ⟨xs.take n, ?_, fun i d u hi hu => ?_⟩, h.lo⟩, ⟨gp.os.trans (gs.os.trans (hg.os.trans hr.os)), gp.tape.trans (gs.tape.trans (hg.tape.trans hr.tape)), gp.output.trans (gs.output.trans (hg.output.trans hr.output)), ff.size, fun k hk n1 n2 n3 n4 n5 => ?_, ff, fun k e => .inl e, fun k e => .inl (by rw [← hv]; exact e)⟩, rfl, rfl, rfl⟩
  · show ((W2.setCell ⟨p, 325, none⟩ v').putObj D o').ownsRow B _ 1 v' (Z.cs.take n).length _
    rw [List.length_take, Nat.min_eq_left hn]
    exact c3.kept gp (.inr (fun e => by rw [hv] at e; have := (hc0.lt D e).2; omega))
  · have hi' : (Z.cs.take n)[i]? = some d := hi
    rw [List.getElem?_take] at hi' hu
    split at hi'
    · rename_i hlt
      rw [if_pos hlt] at hu
      exact (hd i d u hi' hu).fl ff
    · cases hi'
  · have h1 := hr.size
    have h2 := hg.size
    have h3 := gs.size
    have e0 : W.drew.heap.size = W.heap.size := rfl
    rw [gp.block k (by omega) (fun e => by cases e; omega), gs.block k (by omega) (fun e => n1 (Option.some.inj e)), hg.block k (by omega) (fun e => n5 e.symm)]
    exact hr.block k hk n1 n2 n3
end Go.Proofs.Ytcfenjpdjogmdaa
