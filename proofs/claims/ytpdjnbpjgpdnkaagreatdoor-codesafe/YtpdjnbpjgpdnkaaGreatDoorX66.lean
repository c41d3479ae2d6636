import Derived.Test.YtpdjnbpjgpdnkaaGreatDoorX63
import Derived.Test.YtpdjnbpjgpdnkaaGreatDoorX16
import Derived.Test.YtpdjnbpjgpdnkaaGreatDoorRows
namespace Go.Proofs.YtpdjnbpjgpdnkaaGreatDoor
open Go.ChangeShapes Go.WideShapes Go.ChangeAt Go.RowKit Go.Deep

def fD {H : Type} (x : Nat × List Nat × List Nat) : DataW H := .agg [.lit (.int .i64 (x.1 : Nat)), .lit (.string (x.2.1.map (fun y => UInt8.ofNat y))), .lit (.string (x.2.2.map (fun y => UInt8.ofNat y)))]
theorem formsD {H : Type} : (Rows.laid_quorum_code_forms : DataW H) = .agg (formT.map fD) := rfl
theorem txt_of {s : ByteArray} {l : List Nat} (h : s.data.toList = l.map (fun y => UInt8.ofNat y)) : s = txt l := by
 unfold txt
 cases s with
 | mk d => 
  congr 1
  apply Array.toList_inj.1
  simpa using h
theorem list3W {α : Type} {l : List α} (h : l.length = 3) : ∃ a b c, l = [a, b, c] := by
 match l, h with
 | [a, b, c], _ => exact ⟨a, b, c, rfl⟩
theorem form_cells {H : Type} {enc : TypeId × Value → H} {W : World} {base : Nat} {sp : Nat → Bool} {held : Bool} {fuel : Nat} {cs : List Value} {p : List MemPlace}
  (h : DataW.trod enc Tryz.prog W base sp held fuel 155 cs = some (.agg (formT.map fD), p)) (o : Nat) (ho : o ≤ 32) :
  cs[o * 3]? = some (.int .i64 (fArg o : Nat)) ∧ cs[o * 3 + 1]? = some (.string (txt (fTakes o))) ∧ cs[o * 3 + 2]? = some (.string (txt (fLays o))) := by
 obtain ⟨xs, m, _, hx, hl, hlen, hf⟩ := DataW.trod_array Tryz.underlying155 h
 rw [show Tryz.prog.cellsOf 155 = 99 by kernel_rfl] at hl
 simp only [Prod.mk.injEq, DataW.agg.injEq] at hx
 have e := hf o (by omega)
 rw [show Tryz.prog.cellsOf 154 = 3 by kernel_rfl, List.getElem?_eq_getElem (by omega)] at e
 have hxo : (xs[o]'(by omega)).1 = fD (formT[o]'(by show o < 33; omega)) := by
  have h1 : (xs.map (·.1))[o]? = some (xs[o]'(by omega)).1 := by rw [List.getElem?_map, List.getElem?_eq_getElem (by omega)]; rfl
  rw [← hx.1, List.getElem?_map, List.getElem?_eq_getElem (by show o < 33; omega)] at h1
  exact (Option.some.inj h1).symm
 have hfo : formT[o]'(by show o < 33; omega) = (fArg o, fTakes o, fLays o) := by
  unfold fArg fTakes fLays
  rw [List.getD_eq_getElem?_getD, List.getElem?_eq_getElem (by show o < 33; omega)]
  rfl
 rw [hfo] at hxo
 generalize xs[o]'(by omega) = x at e hxo
 obtain ⟨ys, n, _, hy, hl2, hlen2, hf2⟩ := DataW.trod_struct Tryz.underlying154 e
 have hlen2 : ys.length = 3 := hlen2
 obtain ⟨y0, y1, y2, rfl⟩ := list3W hlen2
 rw [hy] at hxo
 simp only [fD, List.map_cons, List.map_nil, DataW.agg.injEq, List.cons.injEq, and_true] at hxo
 obtain ⟨g0, g1, g2⟩ := hxo
 have e0 : DataW.trod enc Tryz.prog W base sp held n 152 ((((cs.drop (o * 3)).take 3).drop 0).take (Tryz.prog.cellsOf 152)) = some y0 := hf2 0 _ rfl
 have e1 : DataW.trod enc Tryz.prog W base sp held n 9 ((((cs.drop (o * 3)).take 3).drop 1).take (Tryz.prog.cellsOf 9)) = some y1 := hf2 1 _ rfl
 have e2 : DataW.trod enc Tryz.prog W base sp held n 9 ((((cs.drop (o * 3)).take 3).drop 2).take (Tryz.prog.cellsOf 9)) = some y2 := hf2 2 _ rfl
 rw [show Tryz.prog.cellsOf 152 = 1 by kernel_rfl] at e0
 rw [show Tryz.prog.cellsOf 9 = 1 by kernel_rfl] at e1 e2
 obtain ⟨z, k0, q0, _⟩ := DataW.trod_int Tryz.underlying152 e0
 obtain ⟨s1, k1, q1, _⟩ := DataW.trod_string Tryz.underlying9 e1
 obtain ⟨s2, k2, q2, _⟩ := DataW.trod_string Tryz.underlying9 e2
 rw [q0] at g0
 rw [q1] at g1
 rw [q2] at g2
 simp only [DataW.lit.injEq, Lit.int.injEq, Lit.string.injEq, true_and] at g0 g1 g2
 have r1 := txt_of g1
 have r2 := txt_of g2
 subst g0
 subst r1
 subst r2
 have key : ∀ (d : Nat) (v : Value), d < 3 → (((cs.drop (o * 3)).take 3).drop d).take 1 = [v] → cs[o * 3 + d]? = some v := fun d v hd hk => by
  have := congrArg (·[0]?) hk
  simpa [List.getElem?_take, List.getElem?_drop, hd] using this
 exact ⟨key 0 _ (by omega) k0, key 1 _ (by omega) k1, key 2 _ (by omega) k2⟩
def inT : List (List Nat × Nat) := [([99, 97, 108, 108, 101, 114], 0), ([97, 109, 111, 117, 110, 116], 0), ([104, 101, 108, 100], 0), ([110, 111, 119], 0), ([111, 112, 101, 110, 101, 100], 0), ([100, 117, 101], 0), ([97, 115, 107, 101, 100], 0), ([100, 105, 115, 112, 117, 116, 101, 100], 1)]
def iD {H : Type} (x : List Nat × Nat) : DataW H := .agg [.lit (.string (x.1.map (fun y => UInt8.ofNat y))), .lit (.int .i64 (x.2 : Nat))]
theorem inputsD {H : Type} : (Rows.laid_quorum_code_inputs : DataW H) = .agg (inT.map iD) := rfl
theorem list2E {α : Type} {l : List α} (h : l.length = 2) : ∃ a b, l = [a, b] := by
 match l, h with
 | [a, b], _ => exact ⟨a, b, rfl⟩
theorem input_cells {H : Type} {enc : TypeId × Value → H} {W : World} {base : Nat} {sp : Nat → Bool} {held : Bool} {fuel : Nat} {cs : List Value} {p : List MemPlace}
  (h : DataW.trod enc Tryz.prog W base sp held fuel 201 cs = some (.agg (inT.map iD), p)) (o : Nat) (ho : o < 8) :
  cs[o * 2 + 1]? = some (.int .i64 (if o = 7 then 1 else 0)) := by
 obtain ⟨xs, m, _, hx, hl, hlen, hf⟩ := DataW.trod_array Tryz.underlying201 h
 simp only [Prod.mk.injEq, DataW.agg.injEq] at hx
 have e := hf o (by omega)
 rw [show Tryz.prog.cellsOf 200 = 2 by kernel_rfl, List.getElem?_eq_getElem (by omega)] at e
 have hxo : (xs[o]'(by omega)).1 = iD (inT[o]'(by show o < 8; omega)) := by
  have h1 : (xs.map (·.1))[o]? = some (xs[o]'(by omega)).1 := by rw [List.getElem?_map, List.getElem?_eq_getElem (by omega)]; rfl
  rw [← hx.1, List.getElem?_map, List.getElem?_eq_getElem (by show o < 8; omega)] at h1
  exact (Option.some.inj h1).symm
 have hio : ∀ o (h : o < 8), (inT[o]'h).2 = if o = 7 then 1 else 0 := by decide
 have hi := hio o ho
 generalize xs[o]'(by omega) = x at e hxo
 obtain ⟨ys, n, _, hy, hl2, hlen2, hf2⟩ := DataW.trod_struct Tryz.underlying200 e
 have hlen2 : ys.length = 2 := hlen2
 obtain ⟨y0, y1, rfl⟩ := list2E hlen2
 rw [hy] at hxo
 simp only [iD, List.map_cons, List.map_nil, DataW.agg.injEq, List.cons.injEq, and_true] at hxo
 obtain ⟨g0, g1⟩ := hxo
 have e1 : DataW.trod enc Tryz.prog W base sp held n 3 ((((cs.drop (o * 2)).take 2).drop 1).take (Tryz.prog.cellsOf 3)) = some y1 := hf2 1 _ rfl
 rw [show Tryz.prog.cellsOf 3 = 1 by kernel_rfl] at e1
 obtain ⟨z, k1, q1, _⟩ := DataW.trod_int Tryz.underlying3 e1
 rw [q1] at g1
 simp only [DataW.lit.injEq, Lit.int.injEq, true_and] at g1
 have g2 : z = (((if o = 7 then 1 else 0 : Nat)) : Int) := g1.trans (congrArg (fun n : Nat => (n : Int)) hi)
 clear g1
 subst g2
 have := congrArg (·[0]?) k1
 have hc : cs[o * 2 + 1]? = some (.int .i64 (((if o = 7 then 1 else 0 : Nat)) : Int)) := by simpa [List.getElem?_take, List.getElem?_drop] using this
 rw [hc]
 by_cases e7 : o = 7 <;> simp [e7]
theorem gF : Tryz.prog.globalNamed "quorum/code.forms" = some 1 := by kernel_rfl
theorem gFt : (Tryz.prog.globals[1]?).map (·.type) = some 155 := by kernel_rfl
theorem gI : Tryz.prog.globalNamed "quorum/code.inputs" = some 2 := by kernel_rfl
theorem gIt : (Tryz.prog.globals[2]?).map (·.type) = some 201 := by kernel_rfl
/-- The tables as they lie when the call begins. -/
theorem tab_okF {W : World} (h : laidMetH Tryz.prog Rows.codeFuelRow.laid W) (hz : 10 < W.heap.size) : Tab W := by
 have h' : laidMet Tryz.prog [("quorum/terms.keywords", Rows.laid_quorum_terms_keywords), ("quorum/terms.operators", Rows.laid_quorum_terms_operators), ("quorum/terms.inputs", Rows.laid_quorum_terms_inputs), ("quorum/code.forms", Rows.laid_quorum_code_forms), ("quorum/code.inputs", Rows.laid_quorum_code_inputs), ("quorum/code.parties", Rows.laid_quorum_code_parties), ("quorum/code.operators", Rows.laid_quorum_code_operators), ("quorum/code.calls", Rows.laid_quorum_code_calls)] W ∧ handlesMet Tryz.prog [("errors.errorType", Rows.laid_errors_errorType)] W := h
 obtain ⟨ps, ⟨_, _, _, _, _, _, _, _, _, _, ⟨_, _, _, _, _, _, _, _, _, _, ⟨_, _, _, _, _, _, _, _, _, _, ⟨g1, t1, c1, f1, p1, q1, hg1, ht1, hv1, hd1, ⟨g2, t2, c2, f2, p2, q2, hg2, ht2, hv2, hd2, _, _⟩, _⟩, _⟩, _⟩, _⟩, _⟩ := h'.1
 obtain rfl := Option.some.inj (gF.symm.trans hg1)
 obtain rfl := Option.some.inj (gFt.symm.trans ht1)
 obtain rfl := Option.some.inj (gI.symm.trans hg2)
 obtain rfl := Option.some.inj (gIt.symm.trans ht2)
 rw [formsD] at hd1
 rw [inputsD] at hd2
 have k1 : ∀ i, W.cell? ⟨1, i, none⟩ = c1[i]? := fun i => World.var?_cell gF hv1 i
 have k2 : ∀ i, W.cell? ⟨2, i, none⟩ = c2[i]? := fun i => World.var?_cell gI hv2 i
 have F := form_cells hd1
 have I := input_cells hd2
 refine ⟨fun o ho => ?_, fun o ho => ?_, fun o ho => ?_, fun o ho => ?_, ?_⟩
 ·rw [k1]; simpa using (F o ho).1
 ·rw [k1]; simpa using (F o ho).2.1
 ·rw [k1]; simpa using (F o ho).2.2
 ·rw [k2]; simpa using I o ho
 ·exact hz
theorem room_ok {W : World} (h : W.ShapedOpen Tryz.prog) : 10 < W.heap.size := by
 have e : (((begin Tryz.prog (fun _ _ => 0) default).world.heap[10]?).bind Obj.row?).isSome = true := by kernel_rfl
 obtain ⟨⟨z, t⟩, hz⟩ := Option.isSome_iff_exists.1 e
 obtain ⟨cs, hc, _⟩ := h.1 10 z t (by decide) hz
 exact block_lt hc
theorem list8W {α : Type} {l : List α} (h : l.length = 8) : ∃ a b c d e f g k, l = [a, b, c, d, e, f, g, k] := by
 match l, h with
 | [a, b, c, d, e, f, g, k], _ => exact ⟨a, b, c, d, e, f, g, k, rfl⟩
theorem bnd {x : Int} (h : (Lit.int .u64 x).wf = true) : 0 ≤ x ∧ x < two64 := by
 simp [Lit.wf, IntKind.min, IntKind.max, IntKind.bits, IntKind.signed] at h
 unfold two64
 omega
/-- An environment that came in. -/
theorem view_env {H : Type} {enc : TypeId × Value → H} {W : World} {v : Value} {d : DataW H} {pl : List MemPlace}
  (h : DataW.Trod enc Tryz.prog W 0 (fun _ => true) true 30 v d pl) : ∃ e : En, v.cells.toList = e.cs ∧ e.Ok := by
 obtain ⟨fuel, hf0⟩ := h
 generalize v.cells.toList = L at hf0 ⊢
 obtain ⟨xs, n, _, hx, hl, hlen, hf⟩ := DataW.trod_struct Tryz.underlying30 hf0
 clear hf0
 rw [show Tryz.prog.cellsOf 30 = 8 by kernel_rfl] at hl
 have hlen : xs.length = 8 := hlen
 obtain ⟨y0, y1, y2, y3, y4, y5, y6, y7, rfl⟩ := list8W hlen
 have e0 : DataW.trod enc Tryz.prog W 0 (fun _ => true) true n 28 ((L.drop 0).take (Tryz.prog.cellsOf 28)) = some y0 := hf 0 _ rfl
 have e1 : DataW.trod enc Tryz.prog W 0 (fun _ => true) true n 28 ((L.drop 1).take (Tryz.prog.cellsOf 28)) = some y1 := hf 1 _ rfl
 have e2 : DataW.trod enc Tryz.prog W 0 (fun _ => true) true n 28 ((L.drop 2).take (Tryz.prog.cellsOf 28)) = some y2 := hf 2 _ rfl
 have e3 : DataW.trod enc Tryz.prog W 0 (fun _ => true) true n 28 ((L.drop 3).take (Tryz.prog.cellsOf 28)) = some y3 := hf 3 _ rfl
 have e4 : DataW.trod enc Tryz.prog W 0 (fun _ => true) true n 28 ((L.drop 4).take (Tryz.prog.cellsOf 28)) = some y4 := hf 4 _ rfl
 have e5 : DataW.trod enc Tryz.prog W 0 (fun _ => true) true n 28 ((L.drop 5).take (Tryz.prog.cellsOf 28)) = some y5 := hf 5 _ rfl
 have e6 : DataW.trod enc Tryz.prog W 0 (fun _ => true) true n 28 ((L.drop 6).take (Tryz.prog.cellsOf 28)) = some y6 := hf 6 _ rfl
 have e7 : DataW.trod enc Tryz.prog W 0 (fun _ => true) true n 4 ((L.drop 7).take (Tryz.prog.cellsOf 4)) = some y7 := hf 7 _ rfl
 rw [show Tryz.prog.cellsOf 28 = 1 by kernel_rfl] at e0 e1 e2 e3 e4 e5 e6
 rw [show Tryz.prog.cellsOf 4 = 1 by kernel_rfl] at e7
 obtain ⟨x0, k0, _, w0⟩ := DataW.trod_int Tryz.underlying28 e0
 obtain ⟨x1, k1, _, w1⟩ := DataW.trod_int Tryz.underlying28 e1
 obtain ⟨x2, k2, _, w2⟩ := DataW.trod_int Tryz.underlying28 e2
 obtain ⟨x3, k3, _, w3⟩ := DataW.trod_int Tryz.underlying28 e3
 obtain ⟨x4, k4, _, w4⟩ := DataW.trod_int Tryz.underlying28 e4
 obtain ⟨x5, k5, _, w5⟩ := DataW.trod_int Tryz.underlying28 e5
 obtain ⟨x6, k6, _, w6⟩ := DataW.trod_int Tryz.underlying28 e6
 obtain ⟨x7, k7, _⟩ := DataW.trod_bool Tryz.underlying4 e7
 have q0 := peelW L 0 1 k0
 have q1 := peelW L 1 1 k1
 have q2 := peelW L 2 1 k2
 have q3 := peelW L 3 1 k3
 have q4 := peelW L 4 1 k4
 have q5 := peelW L 5 1 k5
 have q6 := peelW L 6 1 k6
 have q7 := peelW L 7 1 k7
 have q8 : L.drop 8 = [] := List.drop_of_length_le (by omega)
 have e : L = L.drop 0 := rfl
 refine ⟨⟨x0, x1, x2, x3, x4, x5, x6, x7⟩, ?_, ⟨fun i hi => ?_⟩⟩
 ·rw [e, q0, q1, q2, q3, q4, q5, q6, q7, q8]
  rfl
 ·have b0 := bnd w0
  have b1 := bnd w1
  have b2 := bnd w2
  have b3 := bnd w3
  have b4 := bnd w4
  have b5 := bnd w5
  have b6 := bnd w6
  match i, hi with
  | 0, _ => exact b0
  | 1, _ => exact b1
  | 2, _ => exact b2
  | 3, _ => exact b3
  | 4, _ => exact b4
  | 5, _ => exact b5
  | 6, _ => exact b6
end Go.Proofs.YtpdjnbpjgpdnkaaGreatDoor
