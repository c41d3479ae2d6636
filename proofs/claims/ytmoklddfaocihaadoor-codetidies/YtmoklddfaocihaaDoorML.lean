import Derived.Test.YtmoklddfaocihaaDoorCwA
import Derived.Test.YtmoklddfaocihaaDoorMK
import Derived.Test.YtmoklddfaocihaaDoorCwC
import Derived.Test.YtmoklddfaocihaaDoorCards
import Derived.Test.YtmoklddfaocihaaDoorTie
namespace Go.Proofs.YtmoklddfaocihaaDoor
open Go.ChangeShapes Go.WideShapes Go.ChangeAt Go.RowKit Go.Deep

def fD {H : Type} (x : Nat × List Nat × List Nat) : DataW H := .agg [.lit (.int .i64 (x.1 : Nat)), .lit (.string (x.2.1.map (fun y => UInt8.ofNat y))), .lit (.string (x.2.2.map (fun y => UInt8.ofNat y)))]
theorem formsD {H : Type} : (Rows.laid_quorum_code_forms : DataW H) = .agg (formT.map fD) := rfl
theorem txt_of {s : ByteArray} {l : List Nat} (h : s.data.toList = l.map (fun y => UInt8.ofNat y)) : s = txt l := by
  unfold txt
  cases s with
  | mk d => 
    congr 1
    apply Array.toList_inj.1
    simpa using h
theorem list3W {α : Type} {l : List α} (h : l.length = 3) : ∃ a b c, l = [a, b, c] := by
  match l, h with
  | [a, b, c], _ => exact ⟨a, b, c, rfl⟩
theorem form_cells {H : Type} {enc : TypeId × Value → H} {W : World} {base : Nat} {sp : Nat → Bool} {held : Bool} {fuel : Nat} {cs : List Value} {p : List MemPlace}
    (h : DataW.trod enc Tryd.prog W base sp held fuel 149 cs = some (.agg (formT.map fD), p)) (o : Nat) (ho : o ≤ 32) :
    cs[o * 3]? = some (.int .i64 (fArg o : Nat)) ∧ cs[o * 3 + 1]? = some (.string (txt (fTakes o))) ∧ cs[o * 3 + 2]? = some (.string (txt (fLays o))) := by
  obtain ⟨xs, m, _, hx, hl, hlen, hf⟩ := DataW.trod_array Tryd.underlying149 h
  rw [show Tryd.prog.cellsOf 149 = 99 by kernel_rfl] at hl
  simp only [Prod.mk.injEq, DataW.agg.injEq] at hx
  have e := hf o (by omega)
  rw [show Tryd.prog.cellsOf 148 = 3 by kernel_rfl, List.getElem?_eq_getElem (by omega)] at e
  have hxo : (xs[o]'(by omega)).1 = fD (formT[o]'(by show o < 33; omega)) := by
    have h1 : (xs.map (·.1))[o]? = some (xs[o]'(by omega)).1 := by rw [List.getElem?_map, List.getElem?_eq_getElem (by omega)]; rfl
    rw [← hx.1, List.getElem?_map, List.getElem?_eq_getElem (by show o < 33; omega)] at h1
    exact (Option.some.inj h1).symm
  have hfo : formT[o]'(by show o < 33; omega) = (fArg o, fTakes o, fLays o) := by
    unfold fArg fTakes fLays
    rw [List.getD_eq_getElem?_getD, List.getElem?_eq_getElem (by show o < 33; omega)]
    rfl
  rw [hfo] at hxo
  generalize xs[o]'(by omega) = x at e hxo
  obtain ⟨ys, n, _, hy, hl2, hlen2, hf2⟩ := DataW.trod_struct Tryd.underlying148 e
  have hlen2 : ys.length = 3 := hlen2
  obtain ⟨y0, y1, y2, rfl⟩ := list3W hlen2
  rw [hy] at hxo
  simp only [fD, List.map_cons, List.map_nil, DataW.agg.injEq, List.cons.injEq, and_true] at hxo
  obtain ⟨g0, g1, g2⟩ := hxo
  have e0 : DataW.trod enc Tryd.prog W base sp held n 146 ((((cs.drop (o * 3)).take 3).drop 0).take (Tryd.prog.cellsOf 146)) = some y0 := hf2 0 _ rfl
  have e1 : DataW.trod enc Tryd.prog W base sp held n 9 ((((cs.drop (o * 3)).take 3).drop 1).take (Tryd.prog.cellsOf 9)) = some y1 := hf2 1 _ rfl
  have e2 : DataW.trod enc Tryd.prog W base sp held n 9 ((((cs.drop (o * 3)).take 3).drop 2).take (Tryd.prog.cellsOf 9)) = some y2 := hf2 2 _ rfl
  rw [show Tryd.prog.cellsOf 146 = 1 by kernel_rfl] at e0
  rw [show Tryd.prog.cellsOf 9 = 1 by kernel_rfl] at e1 e2
  obtain ⟨z, k0, q0, _⟩ := DataW.trod_int Tryd.underlying146 e0
  obtain ⟨s1, k1, q1, _⟩ := DataW.trod_string Tryd.underlying9 e1
  obtain ⟨s2, k2, q2, _⟩ := DataW.trod_string Tryd.underlying9 e2
  rw [q0] at g0
  rw [q1] at g1
  rw [q2] at g2
  simp only [DataW.lit.injEq, Lit.int.injEq, Lit.string.injEq, true_and] at g0 g1 g2
  have r1 := txt_of g1
  have r2 := txt_of g2
  subst g0
  subst r1
  subst r2
  have key : ∀ (d : Nat) (v : Value), d < 3 → (((cs.drop (o * 3)).take 3).drop d).take 1 = [v] → cs[o * 3 + d]? = some v := fun d v hd hk => by
    have := congrArg (·[0]?) hk
    simpa [List.getElem?_take, List.getElem?_drop, hd] using this
  exact ⟨key 0 _ (by omega) k0, key 1 _ (by omega) k1, key 2 _ (by omega) k2⟩
def inT : List (List Nat × Nat) := [([99, 97, 108, 108, 101, 114], 0), ([97, 109, 111, 117, 110, 116], 0), ([104, 101, 108, 100], 0), ([110, 111, 119], 0), ([111, 112, 101, 110, 101, 100], 0), ([100, 117, 101], 0), ([97, 115, 107, 101, 100], 0), ([100, 105, 115, 112, 117, 116, 101, 100], 1)]
def iD {H : Type} (x : List Nat × Nat) : DataW H := .agg [.lit (.string (x.1.map (fun y => UInt8.ofNat y))), .lit (.int .i64 (x.2 : Nat))]
theorem inputsD {H : Type} : (Rows.laid_quorum_code_inputs : DataW H) = .agg (inT.map iD) := rfl
theorem list2E {α : Type} {l : List α} (h : l.length = 2) : ∃ a b, l = [a, b] := by
  match l, h with
  | [a, b], _ => exact ⟨a, b, rfl⟩
theorem input_cells {H : Type} {enc : TypeId × Value → H} {W : World} {base : Nat} {sp : Nat → Bool} {held : Bool} {fuel : Nat} {cs : List Value} {p : List MemPlace}
    (h : DataW.trod enc Tryd.prog W base sp held fuel 171 cs = some (.agg (inT.map iD), p)) (o : Nat) (ho : o < 8) :
    cs[o * 2 + 1]? = some (.int .i64 (if o = 7 then 1 else 0)) := by
  obtain ⟨xs, m, _, hx, hl, hlen, hf⟩ := DataW.trod_array Tryd.underlying171 h
  simp only [Prod.mk.injEq, DataW.agg.injEq] at hx
  have e := hf o (by omega)
  rw [show Tryd.prog.cellsOf 170 = 2 by kernel_rfl, List.getElem?_eq_getElem (by omega)] at e
  have hxo : (xs[o]'(by omega)).1 = iD (inT[o]'(by show o < 8; omega)) := by
    have h1 : (xs.map (·.1))[o]? = some (xs[o]'(by omega)).1 := by rw [List.getElem?_map, List.getElem?_eq_getElem (by omega)]; rfl
    rw [← hx.1, List.getElem?_map, List.getElem?_eq_getElem (by show o < 8; omega)] at h1
    exact (Option.some.inj h1).symm
  have hio : ∀ o (h : o < 8), (inT[o]'h).2 = if o = 7 then 1 else 0 := by decide
  have hi := hio o ho
  generalize xs[o]'(by omega) = x at e hxo
  obtain ⟨ys, n, _, hy, hl2, hlen2, hf2⟩ := DataW.trod_struct Tryd.underlying170 e
  have hlen2 : ys.length = 2 := hlen2
  obtain ⟨y0, y1, rfl⟩ := list2E hlen2
  rw [hy] at hxo
  simp only [iD, List.map_cons, List.map_nil, DataW.agg.injEq, List.cons.injEq, and_true] at hxo
  obtain ⟨g0, g1⟩ := hxo
  have e1 : DataW.trod enc Tryd.prog W base sp held n 3 ((((cs.drop (o * 2)).take 2).drop 1).take (Tryd.prog.cellsOf 3)) = some y1 := hf2 1 _ rfl
  rw [show Tryd.prog.cellsOf 3 = 1 by kernel_rfl] at e1
  obtain ⟨z, k1, q1, _⟩ := DataW.trod_int Tryd.underlying3 e1
  rw [q1] at g1
  simp only [DataW.lit.injEq, Lit.int.injEq, true_and] at g1
  have g2 : z = (((if o = 7 then 1 else 0 : Nat)) : Int) := g1.trans (congrArg (fun n : Nat => (n : Int)) hi)
  clear g1
  subst g2
  have := congrArg (·[0]?) k1
  have hc : cs[o * 2 + 1]? = some (.int .i64 (((if o = 7 then 1 else 0 : Nat)) : Int)) := by simpa [List.getElem?_take, List.getElem?_drop] using this
  rw [hc]
  by_cases e7 : o = 7 <;> simp [e7]
theorem gF : Tryd.prog.globalNamed "quorum/code.forms" = some 0 := by kernel_rfl
theorem gFt : (Tryd.prog.globals[0]?).map (·.type) = some 149 := by kernel_rfl
theorem gI : Tryd.prog.globalNamed "quorum/code.inputs" = some 1 := by kernel_rfl
theorem gIt : (Tryd.prog.globals[1]?).map (·.type) = some 171 := by kernel_rfl
/-- The tables as they lie when the call begins. -/
theorem tab_ok {W : World} (h : laidMetH Tryd.prog Rows.codeTidiesRow.laid W) (hz : 3 < W.heap.size) : Tab W := by
  have h : laidMet Tryd.prog [("quorum/code.forms", Rows.laid_quorum_code_forms), ("quorum/code.inputs", Rows.laid_quorum_code_inputs)] W := h
  obtain ⟨ps, ⟨g1, t1, c1, f1, p1, q1, hg1, ht1, hv1, hd1, ⟨g2, t2, c2, f2, p2, q2, hg2, ht2, hv2, hd2, _, _⟩, _⟩, _⟩ := h
  obtain rfl := Option.some.inj (gF.symm.trans hg1)
  obtain rfl := Option.some.inj (gFt.symm.trans ht1)
  obtain rfl := Option.some.inj (gI.symm.trans hg2)
  obtain rfl := Option.some.inj (gIt.symm.trans ht2)
  rw [formsD] at hd1
  rw [inputsD] at hd2
  have k1 : ∀ i, W.cell? ⟨0, i, none⟩ = c1[i]? := fun i => World.var?_cell gF hv1 i
  have k2 : ∀ i, W.cell? ⟨1, i, none⟩ = c2[i]? := fun i => World.var?_cell gI hv2 i
  have F := form_cells hd1
  have I := input_cells hd2
  refine ⟨fun o ho => ?_, fun o ho => ?_, fun o ho => ?_, fun o ho => ?_, ?_⟩
  · rw [k1]; simpa using (F o ho).1
  · rw [k1]; simpa using (F o ho).2.1
  · rw [k1]; simpa using (F o ho).2.2
  · rw [k2]; simpa using I o ho
  · exact hz
theorem room_ok {W : World} (h : W.ShapedOpen Tryd.prog) : 3 < W.heap.size := by
  have e : (((begin Tryd.prog (fun _ _ => 0) default).world.heap[3]?).bind Obj.row?).isSome = true := by kernel_rfl
  obtain ⟨⟨z, t⟩, hz⟩ := Option.isSome_iff_exists.1 e
  obtain ⟨cs, hc, _⟩ := h.1 3 z t (by decide) hz
  exact block_lt hc
end Go.Proofs.YtmoklddfaocihaaDoor
namespace Go.Proofs.YtmoklddfaocihaaDoor
open Go.RowKit

/-- A program of nothing. -/
def pv0 : Pv := ⟨0, 0, 0, fun _ => 0, fun _ => 0, fun _ => 0, fun _ => 0, fun _ => 0⟩
def pg0 : Pg := ⟨none, none, none, 0, 0, 0, 0, 0, 0, 0, 0, 0⟩
theorem pg0_cs : (pg0.cs pv0).toArray = zP := rfl
theorem po_nil (B : Nat) (w : World) : Po B pg0 pv0 w :=
  ⟨World.ownsRow_nil _ _ _ _, World.ownsRow_nil _ _ _ _, World.ownsRow_nil _ _ _ _, ⟨fun e => absurd e (by decide), fun e => absurd e (by decide), fun e => absurd e (by decide), fun j hj => absurd hj (Nat.not_lt_zero j), fun j hj => absurd hj (Nat.not_lt_zero j), fun j hj => absurd hj (Nat.not_lt_zero j), fun j hj => absurd hj (Nat.not_lt_zero j), Nat.zero_le _, Nat.zero_le _, Nat.zero_le _⟩⟩
/-- What is tidied, or nothing. -/
def tidA (p : Pv) : Pv := match verF p with
  | .ok k => match verF (shortF (cutF p (kOf k))) with
    | .ok k2 => tidF p k k2
    | .error _ => pv0
  | .error _ => pv0
theorem tidA_ok {p : Pv} {k k2 : Kn} (h : verF p = .ok k) (h2 : verF (shortF (cutF p (kOf k))) = .ok k2) : tidA p = tidF p k k2 := by
  unfold tidA
  rw [h]
  show (match verF (shortF (cutF p (kOf k))) with | .ok k2 => tidF p k k2 | .error _ => pv0) = _
  rw [h2]
theorem tidA_err {p : Pv} {z : Int × Int} (h : verF p = .error z) : tidA p = pv0 := by
  unfold tidA
  rw [h]
theorem tid_small (p : Pv) : (tidA p).nc ≤ 1024 ∧ (tidA p).ns ≤ 1024 ∧ (tidA p).n ≤ 1024 := by
  cases h : verF p with
  | error z => rw [tidA_err h]; exact ⟨Nat.zero_le _, Nat.zero_le _, Nat.zero_le _⟩
  | ok k =>
    obtain ⟨k2, hk2⟩ := short_ver h
    rw [tidA_ok h hk2]
    obtain ⟨cw, _⟩ := cut_ver hk2
    have w := idleF_wf (f := (cutF (shortF (cutF p (kOf k))) (kOf k2)).n) cw
    obtain ⟨a1, a2, a3⟩ := w.sz
    have a0 := cnt_le (usd (idleF (cutF (shortF (cutF p (kOf k))) (kOf k2)).n (cutF (shortF (cutF p (kOf k))) (kOf k2)))) (idleF (cutF (shortF (cutF p (kOf k))) (kOf k2)).n (cutF (shortF (cutF p (kOf k))) (kOf k2))).nc
    refine ⟨?_, ?_, ?_⟩
    · show cnt _ _ ≤ 1024
      exact Nat.le_trans a0 (Nat.le_trans a1 (by decide))
    · show (idleF _ _).ns ≤ 1024
      exact Nat.le_trans a2 (by decide)
    · exact a3
/-- The reference's fault. -/
def Fa (p : Pv) (lim : Nat) (w : World) (f : Value) : Prop := ((∃ k, verF p = .ok k) ∧ f = .agg #[.slice none 0 0, .int .i64 0]) ∨ ∃ a y ao cap b off, verF p = .error (a, y) ∧ f = .agg #[.slice ao 1 cap, .int .i64 y] ∧ y ≠ 0 ∧ FV lim w ao [⟨⟨#[99, 111, 100, 101]⟩, a⟩] b off
theorem Fa.below {p : Pv} {lim : Nat} {w w' : World} {f : Value} (h : Fa p lim w f) (hb : Below lim w w') : Fa p lim w' f := by
  rcases h with h | ⟨a, y, ao, cap, b, off, h1, h2, h3, h4⟩
  · exact .inl h
  · exact .inr ⟨a, y, ao, cap, b, off, h1, h2, h3, h4.below hb⟩
theorem Fa.wide {p : Pv} {lim lim' : Nat} {w : World} {f : Value} (h : Fa p lim w f) (hl : lim ≤ lim') : Fa p lim' w f := by
  rcases h with h | ⟨a, y, ao, cap, b, off, h1, h2, h3, h4⟩
  · exact .inl h
  · exact .inr ⟨a, y, ao, cap, b, off, h1, h2, h3, h4.wide hl⟩
/-- The reference's Tidy, as the law meets it. -/
theorem refTd {W : World} {g : Pg} {p : Pv} (h : g.Ok p W.heap.size W) : Calls Tryd.prog 6 #[.agg (g.cs p).toArray] W fun e w' => ∃ g2 ao n cap y, e = .returned (.tuple #[.agg (g2.cs (tidA p)).toArray, .agg #[.slice ao n cap, .int .i64 y]]) ∧ Hid (Po W.heap.size g2 (tidA p) w' ∧ Fa p w'.heap.size w' (.agg #[.slice ao n cap, .int .i64 y]) ∧ Below W.heap.size W w') := by
  refine (tidyR h).mono ?_
  intro e w' hh
  cases hv : verF p with
  | ok k =>
    rw [hv] at hh
    obtain ⟨k2, g', rfl, G⟩ := hh
    rw [tidA_ok hv G.out.1]
    exact ⟨g', none, 0, 0, 0, rfl, G.out.2.1, .inl ⟨⟨k, hv⟩, rfl⟩, G.out.2.2⟩
  | error z =>
    obtain ⟨a, y⟩ := z
    rw [hv] at hh
    obtain ⟨ao, cap, rfl, G⟩ := hh
    obtain ⟨hy, b, off, hf, hb⟩ := G.out
    rw [tidA_err hv]
    exact ⟨pg0, ao, 1, cap, y, rfl, po_nil _ _, .inr ⟨a, y, ao, cap, b, off, hv, rfl, hy, hf⟩, hb⟩
/-- The world of the law. -/
structure Ltd (W : World) (g g' g2 : Pg) (p : Pv) (ao : Option Addr) (n cap : Nat) (y : Int) (lim qb fb cb : Nat) (w : World) : Prop where
  pb : w.heap[W.heap.size]? = some (.cells (g.cs p).toArray 27 (0, 0))
  qx : w.heap[qb]? = some (.cells (g2.cs (tidA p)).toArray 27 (0, 0))
  fx : w.heap[fb]? = some (.cells #[.slice ao n cap, .int .i64 y] 30 (0, 0))
  cx : w.heap[cb]? = some (.cells (g'.cs p).toArray 27 (0, 0))
  k1 : g.Ok p W.heap.size w
  k2 : g'.Ok p lim w
  sp : Sp g' p lim w
  kq : g2.Ok (tidA p) lim w
  fa : Fa p lim w (.agg #[.slice ao n cap, .int .i64 y])
  tab : Tab w
  l1 : W.heap.size < lim
  l2 : qb < lim
  l3 : fb < lim
  l4 : cb < lim
  le : lim ≤ w.heap.size
  bel : Below W.heap.size W w
  z : 3 < lim
section
variable {W : World} {g g' g2 : Pg} {p : Pv} {ao : Option Addr} {n cap : Nat} {y : Int} {lim qb fb cb : Nat} {w w' : World}
theorem Ltd.next (h : Ltd W g g' g2 p ao n cap y lim qb fb cb w) (hb : Below lim w w') : Ltd W g g' g2 p ao n cap y lim qb fb cb w' :=
  ⟨(hb.block _ h.l1).trans h.pb, (hb.block _ h.l2).trans h.qx, (hb.block _ h.l3).trans h.fx, (hb.block _ h.l4).trans h.cx, h.k1.kept hb (Nat.le_of_lt h.l1), h.k2.kept hb (Nat.le_refl _), h.sp.kept hb (Nat.le_refl _), h.kq.kept hb (Nat.le_refl _), h.fa.below hb, h.tab.below hb h.z, h.l1, h.l2, h.l3, h.l4, Nat.le_trans h.le hb.size, h.bel.trans (hb.mono (Nat.le_of_lt h.l1)), h.z⟩
theorem Ltd.nextW (h : Ltd W g g' g2 p ao n cap y lim qb fb cb w) (hb : Below w.heap.size w w') : Ltd W g g' g2 p ao n cap y lim qb fb cb w' := h.next (hb.mono h.le)
/-- The program's Tidy, as the law meets it. -/
theorem progTd (h : Ltd W g g' g2 p ao n cap y lim qb fb cb w) : Calls Tryd.prog 8 #[.agg (g'.cs p).toArray] w fun e w' => ∃ g1 v, e = .returned (.tuple #[.agg (g1.cs (tidA p)).toArray, v]) ∧ Hid (Ltd W g g' g2 p ao n cap y lim qb fb cb w' ∧ Po w.heap.size g1 (tidA p) w' ∧ Er w' v (.agg #[.slice ao n cap, .int .i64 y]) ∧ w.heap.size ≤ w'.heap.size) := by
  refine (tidyC (h.k2.wide h.le) h.tab).mono ?_
  intro e w' hh
  cases hv : verF p with
  | ok k =>
    rw [hv] at hh
    obtain ⟨k2, g1, rfl, G⟩ := hh
    rw [tidA_ok hv G.out.1]
    refine ⟨g1, _, rfl, h.nextW G.out.2.2, G.out.2.1, ?_, G.out.2.2.size⟩
    rcases h.fa with ⟨_, hf⟩ | ⟨a, y', _, _, _, _, he, _⟩
    · exact .inl ⟨rfl, hf⟩
    · rw [hv] at he; cases he
  | error z =>
    obtain ⟨a, y1⟩ := z
    rw [hv] at hh
    obtain ⟨gf, rfl, G⟩ := hh
    rw [tidA_err hv]
    have hL := h.nextW G.out.2
    refine ⟨pg0, _, rfl, hL, po_nil _ _, ?_, G.out.2.size⟩
    rcases hL.fa with ⟨⟨k, he⟩, _⟩ | ⟨a', y', ao', cap', b, off, he, hf, hy, hfv⟩
    · rw [hv] at he; cases he
    · rw [hv] at he
      cases he
      exact .inr ⟨a, y1, ao', cap', b, off, hf, hy, G.out.1, hfv.wide hL.le⟩
end
end Go.Proofs.YtmoklddfaocihaaDoor
namespace Go.Proofs.YtmoklddfaocihaaDoor
open Go.RowKit

set_option maxRecDepth 10000 in
set_option maxHeartbeats 12800000 in
theorem tidies_walk {W : World} {g : Pg} {p : Pv} (h : g.Ok p W.heap.size W) (hT : Tab W) (hlend : ∀ w, Below W.heap.size W w → Calls Tryd.prog 7 #[.agg (g.cs p).toArray] w (Ln w p)) :
    Calls Tryd.prog 3 #[.agg (g.cs p).toArray] W fun e w' => e = .returned (.bool true) ∧ Below W.heap.size W w' := by
  obtain ⟨W1, hW1⟩ : ∃ W1, W.alloc (.cells (g.cs p).toArray 27) = W1 := ⟨_, rfl⟩
  have B1 : Below W.heap.size W W1 := by rw [← hW1]; exact below_alloc1 W _
  have A1 : W1.heap[W.heap.size]? = some (.cells (g.cs p).toArray 27 (0, 0)) := by rw [← hW1]; exact alloc_atK _ _
  have HRF := hide (refTd ((h.kept B1 (Nat.le_refl _)).wide B1.size))
  have HLE : Hid (∀ w, Below W.heap.size W w → Calls Tryd.prog 7 #[.agg #[.slice g.ca p.nc g.cc, .slice g.sa p.ns g.sc, .int .i64 (p.en 0), .int .i64 (p.en 1), .int .i64 (p.en 2), .int .i64 (p.en 3), .int .i64 (p.en 4), .int .i64 (p.en 5), .slice g.ia p.n g.ic]] w (Ln w p)) := hlend
  have HOK := hide h
  have HTB := hide hT
  have HB1 := hide B1
  have HA1 := hide A1
  have y0 := block_cell A1 0
  have y1 := block_cell A1 1
  have y2 := block_cell A1 2
  have y3 := block_cell A1 3
  have y4 := block_cell A1 4
  have y5 := block_cell A1 5
  have y6 := block_cell A1 6
  have y7 := block_cell A1 7
  have y8 := block_cell A1 8
  have yl := block_lt A1
  simp [Pg.cs] at y0 y1 y2 y3 y4 y5 y6 y7 y8
  have HW1 := hide hW1
  clear h hT hlend B1 A1 hW1
  have HCS : Hid (∀ (g : Pg) (p : Pv), g.cs p = [.slice g.ca p.nc g.cc, .slice g.sa p.ns g.sc, .int .i64 (p.en 0), .int .i64 (p.en 1), .int .i64 (p.en 2), .int .i64 (p.en 3), .int .i64 (p.en 4), .int .i64 (p.en 5), .slice g.ia p.n g.ic]) := fun _ _ => rfl
  rw [HCS.out g p] at HW1 HRF ⊢
  have HSM := hide (tid_small p)
  have HTA : Hid (∃ P, tidA p = P) := ⟨_, rfl⟩
  go_enter Tryd.func3, Tryd.ntmps3
  go_upto_region 1 with fail
  rw [HW1.out]
  clear HW1
  go_wp2_with fail
  refine HRF.out.mono ?_
  rintro e w2 ⟨g2, ao, n, cap, y, rfl, G2⟩
  clear HRF y0 y1 y2 y3 y4 y5 y6 y7 y8 yl
  rw [HCS.out g2 (tidA p)]
  obtain ⟨w3, hw3⟩ : ∃ w3, (w2.alloc (.cells #[.slice g2.ca (tidA p).nc g2.cc, .slice g2.sa (tidA p).ns g2.sc, .int .i64 ((tidA p).en 0), .int .i64 ((tidA p).en 1), .int .i64 ((tidA p).en 2), .int .i64 ((tidA p).en 3), .int .i64 ((tidA p).en 4), .int .i64 ((tidA p).en 5), .slice g2.ia (tidA p).n g2.ic] 27)).alloc (.cells #[.slice ao n cap, .int .i64 y] 30) = w3 := ⟨_, rfl⟩
  have H3 : Hid (Below w2.heap.size w2 w3 ∧ w3.heap[w2.heap.size]? = some (.cells (g2.cs (tidA p)).toArray 27 (0, 0)) ∧ w3.heap[w2.heap.size + 1]? = some (.cells #[.slice ao n cap, .int .i64 y] 30 (0, 0))) := by
    obtain ⟨u, hu⟩ : ∃ u, w2.alloc (.cells #[.slice g2.ca (tidA p).nc g2.cc, .slice g2.sa (tidA p).ns g2.sc, .int .i64 ((tidA p).en 0), .int .i64 ((tidA p).en 1), .int .i64 ((tidA p).en 2), .int .i64 ((tidA p).en 3), .int .i64 ((tidA p).en 4), .int .i64 ((tidA p).en 5), .slice g2.ia (tidA p).n g2.ic] 27) = u := ⟨_, rfl⟩
    rw [hu] at hw3
    have bu : Below w2.heap.size w2 u := by rw [← hu]; exact below_alloc1 _ _
    have au : u.heap[w2.heap.size]? = some (.cells (g2.cs (tidA p)).toArray 27 (0, 0)) := by rw [← hu]; exact alloc_atK _ _
    have su : u.heap.size = w2.heap.size + 1 := by rw [← hu]; simp
    have b3 : Below u.heap.size u w3 := by rw [← hw3]; exact below_alloc1 _ _
    refine ⟨bu.trans (b3.mono bu.size), (b3.block _ (block_lt au)).trans au, ?_⟩
    rw [← hw3, ← su]
    exact alloc_atK _ _
  have B3 := HB1.out.trans (G2.out.2.2.mono HB1.out.size)
  have B33 := B3.trans (H3.out.1.mono B3.size)
  have HLN := hide (HLE.out w3 B33)
  have A3 : w3.heap[W.heap.size]? = some (.cells (g.cs p).toArray 27 (0, 0)) := by
    have q := (G2.out.2.2.block _ (block_lt HA1.out)).trans HA1.out
    exact (H3.out.1.block _ (block_lt q)).trans q
  have HA3 := hide A3
  have HB3 := hide B33
  have HPQ : Hid (g2.Ok (tidA p) w3.heap.size w3 ∧ Fa p w3.heap.size w3 (.agg #[.slice ao n cap, .int .i64 y])) := ⟨(G2.out.1.ok.kept H3.out.1 (Nat.le_refl _)).wide H3.out.1.size, (G2.out.2.1.below H3.out.1).wide H3.out.1.size⟩
  have HQB := hide (And.intro H3.out.2.1 H3.out.2.2)
  have HW3 := hide hw3
  clear hw3 B3 B33 A3 G2 HA1 HB1 HLE H3
  have y0 := block_cell HA3.out 0
  have y1 := block_cell HA3.out 1
  have y2 := block_cell HA3.out 2
  have y3 := block_cell HA3.out 3
  have y4 := block_cell HA3.out 4
  have y5 := block_cell HA3.out 5
  have y6 := block_cell HA3.out 6
  have y7 := block_cell HA3.out 7
  have y8 := block_cell HA3.out 8
  have yl := block_lt HA3.out
  simp [Pg.cs] at y0 y1 y2 y3 y4 y5 y6 y7 y8
  go_upto_region 2 with fail
  rw [HW3.out]
  clear HW3
  go_wp2_with fail
  refine HLN.out.mono ?_
  rintro e w4 ⟨g', rfl, G4⟩
  rw [HCS.out g' p]
  obtain ⟨w5, hw5⟩ : ∃ w5, w4.alloc (.cells #[.slice g'.ca p.nc g'.cc, .slice g'.sa p.ns g'.sc, .int .i64 (p.en 0), .int .i64 (p.en 1), .int .i64 (p.en 2), .int .i64 (p.en 3), .int .i64 (p.en 4), .int .i64 (p.en 5), .slice g'.ia p.n g'.ic] 27) = w5 := ⟨_, rfl⟩
  have HL5 : Hid (Ltd W g g' g2 p ao n cap y w5.heap.size w2.heap.size (w2.heap.size + 1) w4.heap.size w5) := by
    have b5 : Below w4.heap.size w4 w5 := by rw [← hw5]; exact below_alloc1 _ _
    have a5 : w5.heap[w4.heap.size]? = some (.cells (g'.cs p).toArray 27 (0, 0)) := by rw [← hw5]; exact alloc_atK _ _
    have b35 := G4.out.2.2.trans (b5.mono G4.out.2.2.size)
    have bw := HB3.out.trans (b35.mono HB3.out.size)
    have pb := (b35.block _ (block_lt HA3.out)).trans HA3.out
    have qx := (b35.block _ (block_lt HQB.out.1)).trans HQB.out.1
    have fx := (b35.block _ (block_lt HQB.out.2)).trans HQB.out.2
    exact ⟨pb, qx, fx, a5, HOK.out.kept bw (Nat.le_refl _), (G4.out.1.kept b5 (Nat.le_refl _)).wide b5.size, (G4.out.2.1.kept b5 (Nat.le_refl _)).wide b5.size, (HPQ.out.1.kept b35 (Nat.le_refl _)).wide b35.size, (HPQ.out.2.below b35).wide b35.size, HTB.out.below bw HTB.out.z, block_lt pb, block_lt qx, block_lt fx, block_lt a5, Nat.le_refl _, bw, Nat.lt_of_lt_of_le HTB.out.z bw.size⟩
  have HW5 := hide hw5
  clear hw5 G4 HLN HA3 HB3 HQB HPQ HOK HTB y0 y1 y2 y3 y4 y5 y6 y7 y8 yl
  go_upto_region 3 with fail
  rw [HW5.out]
  clear HW5
  generalize w5.heap.size = lim at *
  obtain ⟨fb, hfb⟩ : ∃ fb, w2.heap.size + 1 = fb := ⟨_, rfl⟩
  rw [hfb] at HL5 ⊢
  clear hfb
  generalize w2.heap.size = qb at *
  generalize w4.heap.size = cb at *
  have HPT : Hid (∀ w, Ltd W g g' g2 p ao n cap y lim qb fb cb w → Calls Tryd.prog 8 #[.agg #[.slice g'.ca p.nc g'.cc, .slice g'.sa p.ns g'.sc, .int .i64 (p.en 0), .int .i64 (p.en 1), .int .i64 (p.en 2), .int .i64 (p.en 3), .int .i64 (p.en 4), .int .i64 (p.en 5), .slice g'.ia p.n g'.ic]] w fun e w' => ∃ g1 v, e = .returned (.tuple #[.agg #[.slice g1.ca (tidA p).nc g1.cc, .slice g1.sa (tidA p).ns g1.sc, .int .i64 ((tidA p).en 0), .int .i64 ((tidA p).en 1), .int .i64 ((tidA p).en 2), .int .i64 ((tidA p).en 3), .int .i64 ((tidA p).en 4), .int .i64 ((tidA p).en 5), .slice g1.ia (tidA p).n g1.ic], v]) ∧ Hid (Ltd W g g' g2 p ao n cap y lim qb fb cb w' ∧ Po w.heap.size g1 (tidA p) w' ∧ Er w' v (.agg #[.slice ao n cap, .int .i64 y]) ∧ w.heap.size ≤ w'.heap.size)) := fun w hw => progTd hw
  have HKP : Hid (∀ w, Ltd W g g' g2 p ao n cap y lim qb fb cb w → Calls Tryd.prog 11 #[.agg #[.slice g'.ca p.nc g'.cc, .slice g'.sa p.ns g'.sc, .int .i64 (p.en 0), .int .i64 (p.en 1), .int .i64 (p.en 2), .int .i64 (p.en 3), .int .i64 (p.en 4), .int .i64 (p.en 5), .slice g'.ia p.n g'.ic], .agg #[.slice g.ca p.nc g.cc, .slice g.sa p.ns g.sc, .int .i64 (p.en 0), .int .i64 (p.en 1), .int .i64 (p.en 2), .int .i64 (p.en 3), .int .i64 (p.en 4), .int .i64 (p.en 5), .slice g.ia p.n g.ic]] w fun e w' => e = .returned (.bool true) ∧ Hid (Below w.heap.size w w')) := fun w hw => keptT (hw.k2.wide hw.le) (hw.k1.wide (Nat.le_trans (Nat.le_of_lt hw.l1) hw.le)) (hw.sp.wide hw.le)
  have HSA : Hid (∀ w (g1 : Pg), g1.Ok (tidA p) w.heap.size w → Ltd W g g' g2 p ao n cap y lim qb fb cb w → Calls Tryd.prog 9 #[.agg #[.slice g1.ca (tidA p).nc g1.cc, .slice g1.sa (tidA p).ns g1.sc, .int .i64 ((tidA p).en 0), .int .i64 ((tidA p).en 1), .int .i64 ((tidA p).en 2), .int .i64 ((tidA p).en 3), .int .i64 ((tidA p).en 4), .int .i64 ((tidA p).en 5), .slice g1.ia (tidA p).n g1.ic], .agg #[.slice g2.ca (tidA p).nc g2.cc, .slice g2.sa (tidA p).ns g2.sc, .int .i64 ((tidA p).en 0), .int .i64 ((tidA p).en 1), .int .i64 ((tidA p).en 2), .int .i64 ((tidA p).en 3), .int .i64 ((tidA p).en 4), .int .i64 ((tidA p).en 5), .slice g2.ia (tidA p).n g2.ic]] w fun e w' => e = .returned (.bool true) ∧ Hid (Below w.heap.size w w')) := fun w g1 h1 hw => sameT h1 (hw.kq.wide hw.le)
  have HSP : Hid (∀ w (g1 : Pg) (B : Nat), Po B g1 (tidA p) w → B ≤ w.heap.size → Calls Tryd.prog 12 #[.agg #[.slice g1.ca (tidA p).nc g1.cc, .slice g1.sa (tidA p).ns g1.sc, .int .i64 ((tidA p).en 0), .int .i64 ((tidA p).en 1), .int .i64 ((tidA p).en 2), .int .i64 ((tidA p).en 3), .int .i64 ((tidA p).en 4), .int .i64 ((tidA p).en 5), .slice g1.ia (tidA p).n g1.ic]] w fun e w' => e = .returned (.tuple #[]) ∧ Hid (Below B w w' ∧ w.heap.size ≤ w'.heap.size)) := fun w g1 B hp hb => spoilT hp hb HSM.out.1 HSM.out.2.1 HSM.out.2.2
  obtain ⟨P, hP⟩ := HTA.out
  have HLX : Hid (∀ w, Ltd W g g' g2 p ao n cap y lim qb fb cb w → w.heap[qb]? = some (.cells #[.slice g2.ca P.nc g2.cc, .slice g2.sa P.ns g2.sc, .int .i64 (P.en 0), .int .i64 (P.en 1), .int .i64 (P.en 2), .int .i64 (P.en 3), .int .i64 (P.en 4), .int .i64 (P.en 5), .slice g2.ia P.n g2.ic] 27 (0, 0))) := fun w hw => by rw [← hP]; exact hw.qx
  rw [hP] at HPT HSA HSP ⊢
  clear hP HTA HSM
  have c0 := block_cell HL5.out.cx 0
  have c1 := block_cell HL5.out.cx 1
  have c2 := block_cell HL5.out.cx 2
  have c3 := block_cell HL5.out.cx 3
  have c4 := block_cell HL5.out.cx 4
  have c5 := block_cell HL5.out.cx 5
  have c6 := block_cell HL5.out.cx 6
  have c7 := block_cell HL5.out.cx 7
  have c8 := block_cell HL5.out.cx 8
  have cl := block_lt HL5.out.cx
  simp [Pg.cs] at c0 c1 c2 c3 c4 c5 c6 c7 c8
  go_wp2_with fail
  refine (HPT.out w5 HL5.out).mono ?_
  rintro e w6 ⟨g1, v, rfl, G6⟩
  clear c0 c1 c2 c3 c4 c5 c6 c7 c8 cl
  obtain ⟨w7, hw7⟩ : ∃ w7, w6.alloc (.cells #[.slice g1.ca P.nc g1.cc, .slice g1.sa P.ns g1.sc, .int .i64 (P.en 0), .int .i64 (P.en 1), .int .i64 (P.en 2), .int .i64 (P.en 3), .int .i64 (P.en 4), .int .i64 (P.en 5), .slice g1.ia P.n g1.ic] 27) = w7 := ⟨_, rfl⟩
  have b7 : Below w6.heap.size w6 w7 := by rw [← hw7]; exact below_alloc1 _ _
  have a7 : w7.heap[w6.heap.size]? = some (.cells #[.slice g1.ca P.nc g1.cc, .slice g1.sa P.ns g1.sc, .int .i64 (P.en 0), .int .i64 (P.en 1), .int .i64 (P.en 2), .int .i64 (P.en 3), .int .i64 (P.en 4), .int .i64 (P.en 5), .slice g1.ia P.n g1.ic] 27 (0, 0)) := by rw [← hw7]; exact alloc_atK _ _
  have HL7 := hide (G6.out.1.nextW b7)
  have HPO := hide (G6.out.2.1.next b7)
  have HER := hide (G6.out.2.2.1.next b7)
  have HLB : Hid (lim ≤ w5.heap.size ∧ w5.heap.size ≤ w7.heap.size) := ⟨HL5.out.le, Nat.le_trans G6.out.2.2.2 b7.size⟩
  have HW7 := hide hw7
  have HA7 := hide a7
  clear hw7 b7 a7 G6 HL5
  go_upto_region 4 with fail
  rw [HW7.out]
  clear HW7
  generalize w6.heap.size = gb at *
  have HQX := hide (HLX.out w7 HL7.out)
  have x0 := block_cell HA7.out 0
  have x1 := block_cell HA7.out 1
  have x2 := block_cell HA7.out 2
  have x3 := block_cell HA7.out 3
  have x4 := block_cell HA7.out 4
  have x5 := block_cell HA7.out 5
  have x6 := block_cell HA7.out 6
  have x7 := block_cell HA7.out 7
  have x8 := block_cell HA7.out 8
  have xl := block_lt HA7.out
  simp at x0 x1 x2 x3 x4 x5 x6 x7 x8
  have q0 := block_cell HQX.out 0
  have q1 := block_cell HQX.out 1
  have q2 := block_cell HQX.out 2
  have q3 := block_cell HQX.out 3
  have q4 := block_cell HQX.out 4
  have q5 := block_cell HQX.out 5
  have q6 := block_cell HQX.out 6
  have q7 := block_cell HQX.out 7
  have q8 := block_cell HQX.out 8
  have ql := block_lt HQX.out
  simp at q0 q1 q2 q3 q4 q5 q6 q7 q8
  go_wp2_with fail
  refine (HSA.out w7 g1 HPO.out.ok HL7.out).mono ?_
  rintro e w8 ⟨rfl, G8⟩
  have HL8 := hide (HL7.out.nextW G8.out)
  have HP8 := hide (HPO.out.next G8.out)
  have HE8 := hide (HER.out.next G8.out)
  have HA8 : Hid (w8.heap[gb]? = some (.cells #[.slice g1.ca P.nc g1.cc, .slice g1.sa P.ns g1.sc, .int .i64 (P.en 0), .int .i64 (P.en 1), .int .i64 (P.en 2), .int .i64 (P.en 3), .int .i64 (P.en 4), .int .i64 (P.en 5), .slice g1.ia P.n g1.ic] 27 (0, 0))) := (G8.out.block _ (block_lt HA7.out)).trans HA7.out
  have HB8 : Hid (lim ≤ w5.heap.size ∧ w5.heap.size ≤ w8.heap.size) := ⟨HLB.out.1, Nat.le_trans HLB.out.2 G8.out.size⟩
  clear HL7 HPO HER HA7 HLB G8 HQX x0 x1 x2 x3 x4 x5 x6 x7 x8 xl q0 q1 q2 q3 q4 q5 q6 q7 q8 ql
  have f0 := block_cell HL8.out.fx 0
  have f1 := block_cell HL8.out.fx 1
  have fl := block_lt HL8.out.fx
  simp at f0 f1
  go_wp2_with fail
  refine (isT HE8.out).mono ?_
  rintro e w9 ⟨rfl, G9⟩
  have HL9 := hide (HL8.out.nextW G9.out)
  have HP9 := hide (HP8.out.next G9.out)
  have HA9 : Hid (w9.heap[gb]? = some (.cells #[.slice g1.ca P.nc g1.cc, .slice g1.sa P.ns g1.sc, .int .i64 (P.en 0), .int .i64 (P.en 1), .int .i64 (P.en 2), .int .i64 (P.en 3), .int .i64 (P.en 4), .int .i64 (P.en 5), .slice g1.ia P.n g1.ic] 27 (0, 0))) := (G9.out.block _ (block_lt HA8.out)).trans HA8.out
  have HB9 : Hid (lim ≤ w5.heap.size ∧ w5.heap.size ≤ w9.heap.size) := ⟨HB8.out.1, Nat.le_trans HB8.out.2 G9.out.size⟩
  clear HL8 HP8 HE8 HA8 HB8 G9 f0 f1 fl
  have c0 := block_cell HL9.out.cx 0
  have c1 := block_cell HL9.out.cx 1
  have c2 := block_cell HL9.out.cx 2
  have c3 := block_cell HL9.out.cx 3
  have c4 := block_cell HL9.out.cx 4
  have c5 := block_cell HL9.out.cx 5
  have c6 := block_cell HL9.out.cx 6
  have c7 := block_cell HL9.out.cx 7
  have c8 := block_cell HL9.out.cx 8
  have cl := block_lt HL9.out.cx
  simp [Pg.cs] at c0 c1 c2 c3 c4 c5 c6 c7 c8
  have y0 := block_cell HL9.out.pb 0
  have y1 := block_cell HL9.out.pb 1
  have y2 := block_cell HL9.out.pb 2
  have y3 := block_cell HL9.out.pb 3
  have y4 := block_cell HL9.out.pb 4
  have y5 := block_cell HL9.out.pb 5
  have y6 := block_cell HL9.out.pb 6
  have y7 := block_cell HL9.out.pb 7
  have y8 := block_cell HL9.out.pb 8
  have yl := block_lt HL9.out.pb
  simp [Pg.cs] at y0 y1 y2 y3 y4 y5 y6 y7 y8
  go_wp2_with fail
  refine (HKP.out w9 HL9.out).mono ?_
  rintro e wa ⟨rfl, Ga⟩
  have HLa := hide (HL9.out.nextW Ga.out)
  have HPa := hide (HP9.out.next Ga.out)
  have HAa : Hid (wa.heap[gb]? = some (.cells #[.slice g1.ca P.nc g1.cc, .slice g1.sa P.ns g1.sc, .int .i64 (P.en 0), .int .i64 (P.en 1), .int .i64 (P.en 2), .int .i64 (P.en 3), .int .i64 (P.en 4), .int .i64 (P.en 5), .slice g1.ia P.n g1.ic] 27 (0, 0))) := (Ga.out.block _ (block_lt HA9.out)).trans HA9.out
  have HBa : Hid (lim ≤ w5.heap.size ∧ w5.heap.size ≤ wa.heap.size) := ⟨HB9.out.1, Nat.le_trans HB9.out.2 Ga.out.size⟩
  clear HL9 HP9 HA9 HB9 Ga c0 c1 c2 c3 c4 c5 c6 c7 c8 cl y0 y1 y2 y3 y4 y5 y6 y7 y8 yl
  have x0 := block_cell HAa.out 0
  have x1 := block_cell HAa.out 1
  have x2 := block_cell HAa.out 2
  have x3 := block_cell HAa.out 3
  have x4 := block_cell HAa.out 4
  have x5 := block_cell HAa.out 5
  have x6 := block_cell HAa.out 6
  have x7 := block_cell HAa.out 7
  have x8 := block_cell HAa.out 8
  have xl := block_lt HAa.out
  simp at x0 x1 x2 x3 x4 x5 x6 x7 x8
  go_wp2_with fail
  refine (HSP.out wa g1 _ HPa.out HBa.out.2).mono ?_
  rintro e wb ⟨rfl, Gb⟩
  have HLb := hide (HLa.out.next (Gb.out.1.mono HBa.out.1))
  clear HLa HPa HAa HBa Gb x0 x1 x2 x3 x4 x5 x6 x7 x8 xl
  have c0 := block_cell HLb.out.cx 0
  have c1 := block_cell HLb.out.cx 1
  have c2 := block_cell HLb.out.cx 2
  have c3 := block_cell HLb.out.cx 3
  have c4 := block_cell HLb.out.cx 4
  have c5 := block_cell HLb.out.cx 5
  have c6 := block_cell HLb.out.cx 6
  have c7 := block_cell HLb.out.cx 7
  have c8 := block_cell HLb.out.cx 8
  have cl := block_lt HLb.out.cx
  simp [Pg.cs] at c0 c1 c2 c3 c4 c5 c6 c7 c8
  go_wp2_with fail
  refine (HPT.out wb HLb.out).mono ?_
  rintro e wd ⟨g3, v3, rfl, Gd⟩
  clear c0 c1 c2 c3 c4 c5 c6 c7 c8 cl
  obtain ⟨we, hwe⟩ : ∃ we, wd.alloc (.cells #[.slice g3.ca P.nc g3.cc, .slice g3.sa P.ns g3.sc, .int .i64 (P.en 0), .int .i64 (P.en 1), .int .i64 (P.en 2), .int .i64 (P.en 3), .int .i64 (P.en 4), .int .i64 (P.en 5), .slice g3.ia P.n g3.ic] 27) = we := ⟨_, rfl⟩
  have be : Below wd.heap.size wd we := by rw [← hwe]; exact below_alloc1 _ _
  have ae : we.heap[wd.heap.size]? = some (.cells #[.slice g3.ca P.nc g3.cc, .slice g3.sa P.ns g3.sc, .int .i64 (P.en 0), .int .i64 (P.en 1), .int .i64 (P.en 2), .int .i64 (P.en 3), .int .i64 (P.en 4), .int .i64 (P.en 5), .slice g3.ia P.n g3.ic] 27 (0, 0)) := by rw [← hwe]; exact alloc_atK _ _
  have HLe := hide (Gd.out.1.nextW be)
  have HPe := hide (Gd.out.2.1.next be)
  have HWe := hide hwe
  have HAe := hide ae
  clear hwe be ae Gd HLb
  go_upto_region 8 with fail
  rw [HWe.out]
  clear HWe
  generalize wd.heap.size = ab at *
  have c0 := block_cell HLe.out.cx 0
  have c1 := block_cell HLe.out.cx 1
  have c2 := block_cell HLe.out.cx 2
  have c3 := block_cell HLe.out.cx 3
  have c4 := block_cell HLe.out.cx 4
  have c5 := block_cell HLe.out.cx 5
  have c6 := block_cell HLe.out.cx 6
  have c7 := block_cell HLe.out.cx 7
  have c8 := block_cell HLe.out.cx 8
  have cl := block_lt HLe.out.cx
  simp [Pg.cs] at c0 c1 c2 c3 c4 c5 c6 c7 c8
  have y0 := block_cell HLe.out.pb 0
  have y1 := block_cell HLe.out.pb 1
  have y2 := block_cell HLe.out.pb 2
  have y3 := block_cell HLe.out.pb 3
  have y4 := block_cell HLe.out.pb 4
  have y5 := block_cell HLe.out.pb 5
  have y6 := block_cell HLe.out.pb 6
  have y7 := block_cell HLe.out.pb 7
  have y8 := block_cell HLe.out.pb 8
  have yl := block_lt HLe.out.pb
  simp [Pg.cs] at y0 y1 y2 y3 y4 y5 y6 y7 y8
  go_wp2_with fail
  refine (HKP.out we HLe.out).mono ?_
  rintro e wf ⟨rfl, Gf⟩
  have HLf := hide (HLe.out.nextW Gf.out)
  have HPf := hide (HPe.out.next Gf.out)
  have HAf : Hid (wf.heap[ab]? = some (.cells #[.slice g3.ca P.nc g3.cc, .slice g3.sa P.ns g3.sc, .int .i64 (P.en 0), .int .i64 (P.en 1), .int .i64 (P.en 2), .int .i64 (P.en 3), .int .i64 (P.en 4), .int .i64 (P.en 5), .slice g3.ia P.n g3.ic] 27 (0, 0))) := (Gf.out.block _ (block_lt HAe.out)).trans HAe.out
  clear HLe HPe HAe Gf c0 c1 c2 c3 c4 c5 c6 c7 c8 cl y0 y1 y2 y3 y4 y5 y6 y7 y8 yl
  have HQX := hide (HLX.out wf HLf.out)
  have x0 := block_cell HAf.out 0
  have x1 := block_cell HAf.out 1
  have x2 := block_cell HAf.out 2
  have x3 := block_cell HAf.out 3
  have x4 := block_cell HAf.out 4
  have x5 := block_cell HAf.out 5
  have x6 := block_cell HAf.out 6
  have x7 := block_cell HAf.out 7
  have x8 := block_cell HAf.out 8
  have xl := block_lt HAf.out
  simp at x0 x1 x2 x3 x4 x5 x6 x7 x8
  have q0 := block_cell HQX.out 0
  have q1 := block_cell HQX.out 1
  have q2 := block_cell HQX.out 2
  have q3 := block_cell HQX.out 3
  have q4 := block_cell HQX.out 4
  have q5 := block_cell HQX.out 5
  have q6 := block_cell HQX.out 6
  have q7 := block_cell HQX.out 7
  have q8 := block_cell HQX.out 8
  have ql := block_lt HQX.out
  simp at q0 q1 q2 q3 q4 q5 q6 q7 q8
  go_wp2_with fail
  refine (HSA.out wf g3 HPf.out.ok HLf.out).mono ?_
  rintro e wg ⟨rfl, Gg⟩
  have HD := hide (HLf.out.nextW Gg.out).bel
  go_wp2
  go_ret
  exact ⟨rfl, HD.out⟩
end Go.Proofs.YtmoklddfaocihaaDoor
namespace Go.Proofs.YtmoklddfaocihaaDoor.codeTidies
open Go.ChangeShapes Go.WideShapes Go.ChangeAt Go.RowKit Go.Deep
def leafD : DataW Unit → Value
  | .lit (.int k z) => .int k z
  | .lit (.string b) => .string ⟨b.toArray⟩
  | _ => .nilIface
def row1 : DataW Unit → List Value
  | .agg l => l.map leafD
  | _ => []
def row2 : DataW Unit → List Value
  | .agg l => l.flatMap row1
  | _ => []
def put (w0 : World) (g : Nat) (l : List Value) : World :=
  { w0 with heap := w0.heap.modify g fun
      | .cells _ t frozen => .cells l.toArray t frozen
      | o => o }
def lay (w0 : World) : World :=
  put (put w0 0 (row2 Rows.laid_quorum_code_forms)) 1 (row2 Rows.laid_quorum_code_inputs)
set_option maxRecDepth 100000 in
theorem contract (H : Type) (enc : TypeId × Value → H) (W : World) (base : Nat) (args : Array Value) (ds gs : List (DataW H)) (before : List MemPlace)
    (hval : ∀ (j : Nat) t v, Tryd.f3.params[j]? = some t → args[j]? = some v → Value.okWide Tryd.prog W .any base t v)
    (hW : DataW.Whole enc Tryd.prog Tryd.f3.params.toList Rows.codeTidiesSpec.vars false W args.toList ds gs before) (hL : laidMetH Tryd.prog Rows.codeTidiesRow.laid W) (hSh : W.ShapedOpen Tryd.prog)
    (hsz : (DataW.weightsEach Tryd.prog (Tryd.f3.params.toList ++ Rows.codeTidiesSpec.plain.varTypes Tryd.prog) (ds ++ gs)).all (· ≤ reachBytes) = true) :
    Calls Tryd.prog 3 args W fun e W' => ∃ v, e = .returned v ∧ Rows.codeTidiesSpec.post enc Tryd.prog Tryd.f3 false true false false W args v W' := by
  have hW' := hW
  obtain ⟨p, q, hA0, hV, rfl, hfz, hnd⟩ := hW
  have hA : DataW.TrodAll enc Tryd.prog W 0 (fun _ => true) true Tryd.f3.params.toList args.toList ds p := hA0
  rw [Tryd.params3] at hA hval hsz
  obtain ⟨v0, vs0, d0, ds0, p0, q0, hargs, rfl, rfl, h0, r0⟩ := trodAll_cons hA
  obtain ⟨rfl, rfl, rfl⟩ := trodAll_nil r0
  obtain rfl : args = #[v0] := by cases args; simp_all
  obtain ⟨rfl, rfl⟩ := trodVars_none hV
  have hT := tab_ok hL (room_ok hSh)
  obtain ⟨cs0, rfl, _⟩ := okWide_struct Tryd.underlying27 (hval 0 27 v0 rfl rfl)
  have k0 := h0
  have lt0 : ∀ x ∈ p0, x.block < W.heap.size := by obtain ⟨m, hm⟩ := k0; exact DataW.trod_lt m _ _ _ hm
  obtain ⟨g, pv, hcs, hok, l0, l1, l2⟩ := view_prog h0 (fun n hn => by
    have := List.all_eq_true.1 hsz n (DataW.weights_mem_each (j := 0) (t := 27) (d := d0) rfl rfl n hn)
    simpa using this)
  obtain rfl : cs0 = (g.cs pv).toArray := by
    apply Array.toList_inj.1
    simpa [Value.cells] using hcs
  have walk := tidies_walk hok hT (fun w hb => lendT ((hok.kept hb (Nat.le_refl _)).wide hb.size) l0 l1 l2)
  refine walk.mono fun e W' ⟨he, bel⟩ => ?_
  subst he
  simp only [List.append_nil] at hW'
  exact ⟨_, rfl, _, _, _, [], _, [], hW', trodAll_mk1 (shut_bool Tryd.underlying4 _), (trodAll_cons_mk (Below.trod laidOut (by kernel_rfl) (of_decide_eq_true (by kernel_rfl)) k0 bel lt0) trodAll_mk0), rfl, bel.frame _, fun h => by cases h⟩
theorem laid_met (os : Os) : laidMet Tryd.prog Rows.codeTidiesRow.laid ((lay (World.holding Tryd.prog os ⟨#[], #[], []⟩)).forCall (fun _ _ => 0) ⟨#[], #[.agg #[.slice none 0 0, .slice none 0 0, .int .i64 0, .int .i64 0, .int .i64 0, .int .i64 0, .int .i64 0, .int .i64 0, .slice none 0 0]], []⟩).memory :=
  laidMet_of_run' 8 (by kernel_rfl) (by kernel_rfl)
theorem reads (os : Os) {H : Type} (enc : TypeId × Value → H) : ∃ places, DataW.whole enc Tryd.prog ((lay (World.holding Tryd.prog os ⟨#[], #[], []⟩)).forCall (fun _ _ => 0) ⟨#[], #[.agg #[.slice none 0 0, .slice none 0 0, .int .i64 0, .int .i64 0, .int .i64 0, .int .i64 0, .int .i64 0, .int .i64 0, .slice none 0 0]], []⟩).memory Tryd.f3.params.toList Rows.codeTidiesSpec.vars false #[Value.agg #[.slice none 0 0, .slice none 0 0, .int .i64 0, .int .i64 0, .int .i64 0, .int .i64 0, .int .i64 0, .int .i64 0, .slice none 0 0]].toList 8 = some ([.agg [.nil, .nil, .agg [.lit (.int .i64 0), .lit (.int .i64 0), .lit (.int .i64 0), .lit (.int .i64 0), .lit (.int .i64 0), .lit (.int .i64 0)], .nil]], [], places) :=
  ⟨[], by kernel_rfl⟩
set_option maxRecDepth 100000 in
theorem lifted (os : Os) (started : os.Started) (H : Type) (enc : TypeId × Value → H) (F : Stop.Interp) :
    ReturnsInHanded {} Tryd.checked os 3 .any ((OpenSpec.ofChange Rows.codeTidiesSpec).preRow enc Tryd.prog Tryd.f3 Rows.codeTidiesRow.domain false Rows.codeTidiesRow.laid) (((OpenSpec.ofChange Rows.codeTidiesSpec).at F).post enc Tryd.prog Tryd.f3 false true false false) := by
  obtain ⟨places, hx⟩ := reads os enc
  refine returnsInHanded_of_row (C := Tryd.checked) (s := OpenSpec.ofChange Rows.codeTidiesSpec) own started (by kernel_rfl) Tryd.func3
    (witness_row_at (enc := enc) (C := Tryd.checked) false (lay (World.holding Tryd.prog os ⟨#[], #[], []⟩)) #[.agg #[.slice none 0 0, .slice none 0 0, .int .i64 0, .int .i64 0, .int .i64 0, .int .i64 0, .int .i64 0, .int .i64 0, .slice none 0 0]] rfl (by kernel_rfl) (by kernel_rfl) (by kernel_rfl)
      (OpenSpec.preRow_of_cond 8 hx (by kernel_rfl) (fun k hk => by cases hk) (by kernel_rfl) (laid_met os))) ?_
  intro W base args ds gs before hval hW _ _ hsz hL hSh _
  exact contract H enc W base args ds gs before hval hW hL hSh hsz
theorem said : Rows.CodeTidiesSaid :=
  OpenClaim.holds_of_cond 3 Tryd.f3 rfl rfl rfl rfl rfl rfl rfl ⟨rfl, rfl, rfl, rfl, rfl⟩ rfl rfl rfl rfl rfl (by kernel_rfl) Tryd.func3 (by kernel_rfl)
    (of_decide_eq_true (by kernel_rfl)) (by unfold Func.isWrapper; first | (rw [if_pos (by decide +kernel)]; kernel_rfl) | (rw [if_neg (by decide +kernel)]; exact ⟨rfl, rfl⟩))
    (fun os started H enc _ F => by rw [OpenClaim.pre_eq_preRow]; exact lifted os started H enc F)
theorem plain (f : FuncId) (fn : Func) (hf : Tryd.pinned.checked.prog.funcNamed Rows.codeTidiesRow.func = some f) (hfn : Tryd.pinned.checked.prog.funcs[f]? = some fn) :
    Rows.codeTidiesCard.stood.looks = Tryd.pinned.checked.prog.looks [] ∧ ∀ (j : Nat) t, fn.params[j]? = some t → Tryd.pinned.checked.prog.wantsStandIn t = false := by
  obtain rfl : f = 3 := Option.some.inj ((show Tryd.prog.funcNamed Rows.codeTidiesRow.func = some 3 by kernel_rfl).symm.trans hf) |>.symm
  obtain rfl : fn = Tryd.f3 := (Option.some.inj (Tryd.func3.symm.trans hfn)).symm
  refine ⟨by kernel_rfl, fun j t ht => ?_⟩
  rw [Tryd.params3] at ht
  have hm : t = 27 := by have := Array.mem_of_getElem? ht; simpa using this
  subst hm
  exact (show Tryd.prog.wantsStandIn 27 = false by kernel_rfl)
theorem card : Rows.CodeTidiesCardSaid :=
  Claim7.holds_tied_plain_at .later [] _ _ _ _ said (fun _ h => by cases h) (by kernel_rfl) (fun _ h => by cases h) codeTidies_row_tie rfl ⟨rfl, rfl⟩ (by kernel_rfl) rfl plain (by kernel_rfl)
end Go.Proofs.YtmoklddfaocihaaDoor.codeTidies
namespace Go.Proofs.YtmoklddfaocihaaDoor
theorem codeTidies_card_holds : Rows.CodeTidiesCardSaid := codeTidies.card
#print axioms codeTidies_card_holds
end Go.Proofs.YtmoklddfaocihaaDoor
