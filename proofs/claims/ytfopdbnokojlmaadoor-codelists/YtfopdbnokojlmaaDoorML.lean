import Derived.Test.YtfopdbnokojlmaaDoorCwA
import Derived.Test.YtfopdbnokojlmaaDoorMA
import Derived.Lib.LaidU8
namespace Go.Proofs.YtfopdbnokojlmaaDoor
open Go.ChangeShapes Go.WideShapes Go.ChangeAt Go.RowKit Go.Deep

def fD {H : Type} (x : Nat × List Nat × List Nat) : DataW H := .agg [.lit (.int .i64 (x.1 : Nat)), .lit (.string (x.2.1.map (fun y => UInt8.ofNat y))), .lit (.string (x.2.2.map (fun y => UInt8.ofNat y)))]
theorem formsD {H : Type} : (Rows.laid_quorum_code_forms : DataW H) = .agg (formT.map fD) := rfl
theorem txt_of {s : ByteArray} {l : List Nat} (h : s.data.toList = l.map (fun y => UInt8.ofNat y)) : s = txt l := by
  unfold txt
  cases s with
  | mk d => 
    congr 1
    apply Array.toList_inj.1
    simpa using h
theorem list3W {α : Type} {l : List α} (h : l.length = 3) : ∃ a b c, l = [a, b, c] := by
  match l, h with
  | [a, b, c], _ => exact ⟨a, b, c, rfl⟩
theorem form_cells {H : Type} {enc : TypeId × Value → H} {W : World} {base : Nat} {sp : Nat → Bool} {held : Bool} {fuel : Nat} {cs : List Value} {p : List MemPlace}
    (h : DataW.trod enc Tryd.prog W base sp held fuel 80 cs = some (.agg (formT.map fD), p)) (o : Nat) (ho : o ≤ 32) :
    cs[o * 3]? = some (.int .i64 (fArg o : Nat)) ∧ cs[o * 3 + 1]? = some (.string (txt (fTakes o))) ∧ cs[o * 3 + 2]? = some (.string (txt (fLays o))) := by
  obtain ⟨xs, m, _, hx, hl, hlen, hf⟩ := DataW.trod_array Tryd.underlying80 h
  rw [show Tryd.prog.cellsOf 80 = 99 by kernel_rfl] at hl
  simp only [Prod.mk.injEq, DataW.agg.injEq] at hx
  have e := hf o (by omega)
  rw [show Tryd.prog.cellsOf 79 = 3 by kernel_rfl, List.getElem?_eq_getElem (by omega)] at e
  have hxo : (xs[o]'(by omega)).1 = fD (formT[o]'(by show o < 33; omega)) := by
    have h1 : (xs.map (·.1))[o]? = some (xs[o]'(by omega)).1 := by rw [List.getElem?_map, List.getElem?_eq_getElem (by omega)]; rfl
    rw [← hx.1, List.getElem?_map, List.getElem?_eq_getElem (by show o < 33; omega)] at h1
    exact (Option.some.inj h1).symm
  have hfo : formT[o]'(by show o < 33; omega) = (fArg o, fTakes o, fLays o) := by
    unfold fArg fTakes fLays
    rw [List.getD_eq_getElem?_getD, List.getElem?_eq_getElem (by show o < 33; omega)]
    rfl
  rw [hfo] at hxo
  generalize xs[o]'(by omega) = x at e hxo
  obtain ⟨ys, n, _, hy, hl2, hlen2, hf2⟩ := DataW.trod_struct Tryd.underlying79 e
  have hlen2 : ys.length = 3 := hlen2
  obtain ⟨y0, y1, y2, rfl⟩ := list3W hlen2
  rw [hy] at hxo
  simp only [fD, List.map_cons, List.map_nil, DataW.agg.injEq, List.cons.injEq, and_true] at hxo
  obtain ⟨g0, g1, g2⟩ := hxo
  have e0 : DataW.trod enc Tryd.prog W base sp held n 77 ((((cs.drop (o * 3)).take 3).drop 0).take (Tryd.prog.cellsOf 77)) = some y0 := hf2 0 _ rfl
  have e1 : DataW.trod enc Tryd.prog W base sp held n 9 ((((cs.drop (o * 3)).take 3).drop 1).take (Tryd.prog.cellsOf 9)) = some y1 := hf2 1 _ rfl
  have e2 : DataW.trod enc Tryd.prog W base sp held n 9 ((((cs.drop (o * 3)).take 3).drop 2).take (Tryd.prog.cellsOf 9)) = some y2 := hf2 2 _ rfl
  rw [show Tryd.prog.cellsOf 77 = 1 by kernel_rfl] at e0
  rw [show Tryd.prog.cellsOf 9 = 1 by kernel_rfl] at e1 e2
  obtain ⟨z, k0, q0, _⟩ := DataW.trod_int Tryd.underlying77 e0
  obtain ⟨s1, k1, q1, _⟩ := DataW.trod_string Tryd.underlying9 e1
  obtain ⟨s2, k2, q2, _⟩ := DataW.trod_string Tryd.underlying9 e2
  rw [q0] at g0
  rw [q1] at g1
  rw [q2] at g2
  simp only [DataW.lit.injEq, Lit.int.injEq, Lit.string.injEq, true_and] at g0 g1 g2
  have r1 := txt_of g1
  have r2 := txt_of g2
  subst g0
  subst r1
  subst r2
  have key : ∀ (d : Nat) (v : Value), d < 3 → (((cs.drop (o * 3)).take 3).drop d).take 1 = [v] → cs[o * 3 + d]? = some v := fun d v hd hk => by
    have := congrArg (·[0]?) hk
    simpa [List.getElem?_take, List.getElem?_drop, hd] using this
  exact ⟨key 0 _ (by omega) k0, key 1 _ (by omega) k1, key 2 _ (by omega) k2⟩
def inT : List (List Nat × Nat) := [([99, 97, 108, 108, 101, 114], 0), ([97, 109, 111, 117, 110, 116], 0), ([104, 101, 108, 100], 0), ([110, 111, 119], 0), ([111, 112, 101, 110, 101, 100], 0), ([100, 117, 101], 0), ([97, 115, 107, 101, 100], 0), ([100, 105, 115, 112, 117, 116, 101, 100], 1)]
def iD {H : Type} (x : List Nat × Nat) : DataW H := .agg [.lit (.string (x.1.map (fun y => UInt8.ofNat y))), .lit (.int .i64 (x.2 : Nat))]
theorem inputsD {H : Type} : (Rows.laid_quorum_code_inputs : DataW H) = .agg (inT.map iD) := rfl
theorem list2E {α : Type} {l : List α} (h : l.length = 2) : ∃ a b, l = [a, b] := by
  match l, h with
  | [a, b], _ => exact ⟨a, b, rfl⟩
theorem input_cells {H : Type} {enc : TypeId × Value → H} {W : World} {base : Nat} {sp : Nat → Bool} {held : Bool} {fuel : Nat} {cs : List Value} {p : List MemPlace}
    (h : DataW.trod enc Tryd.prog W base sp held fuel 83 cs = some (.agg (inT.map iD), p)) (o : Nat) (ho : o < 8) :
    cs[o * 2]? = some (.string (nmB o)) ∧ cs[o * 2 + 1]? = some (.int .i64 (if o = 7 then 1 else 0)) := by
  obtain ⟨xs, m, _, hx, hl, hlen, hf⟩ := DataW.trod_array Tryd.underlying83 h
  simp only [Prod.mk.injEq, DataW.agg.injEq] at hx
  have e := hf o (by omega)
  rw [show Tryd.prog.cellsOf 82 = 2 by kernel_rfl, List.getElem?_eq_getElem (by omega)] at e
  have hxo : (xs[o]'(by omega)).1 = iD (inT[o]'(by show o < 8; omega)) := by
    have h1 : (xs.map (·.1))[o]? = some (xs[o]'(by omega)).1 := by rw [List.getElem?_map, List.getElem?_eq_getElem (by omega)]; rfl
    rw [← hx.1, List.getElem?_map, List.getElem?_eq_getElem (by show o < 8; omega)] at h1
    exact (Option.some.inj h1).symm
  have hio : ∀ o (h : o < 8), (inT[o]'h).2 = if o = 7 then 1 else 0 := by decide
  have hi := hio o ho
  have hnm : ∀ o (h : o < 8), (inT[o]'h).1 = namT.getD o [] := by decide
  have hn := hnm o ho
  generalize xs[o]'(by omega) = x at e hxo
  obtain ⟨ys, n, _, hy, hl2, hlen2, hf2⟩ := DataW.trod_struct Tryd.underlying82 e
  have hlen2 : ys.length = 2 := hlen2
  obtain ⟨y0, y1, rfl⟩ := list2E hlen2
  rw [hy] at hxo
  simp only [iD, List.map_cons, List.map_nil, DataW.agg.injEq, List.cons.injEq, and_true] at hxo
  obtain ⟨g0, g1⟩ := hxo
  have e1 : DataW.trod enc Tryd.prog W base sp held n 3 ((((cs.drop (o * 2)).take 2).drop 1).take (Tryd.prog.cellsOf 3)) = some y1 := hf2 1 _ rfl
  have e0 : DataW.trod enc Tryd.prog W base sp held n 9 ((((cs.drop (o * 2)).take 2).drop 0).take (Tryd.prog.cellsOf 9)) = some y0 := hf2 0 _ rfl
  rw [show Tryd.prog.cellsOf 9 = 1 by kernel_rfl] at e0
  obtain ⟨s0, k0, q0, _⟩ := DataW.trod_string Tryd.underlying9 e0
  rw [q0] at g0
  simp only [DataW.lit.injEq, Lit.string.injEq] at g0
  have r0 : s0 = nmB o := (txt_of g0).trans (congrArg txt hn)
  subst r0
  have hk0 := congrArg (·[0]?) k0
  have hc0 : cs[o * 2]? = some (.string (nmB o)) := by simpa [List.getElem?_take, List.getElem?_drop] using hk0
  refine ⟨hc0, ?_⟩
  rw [show Tryd.prog.cellsOf 3 = 1 by kernel_rfl] at e1
  obtain ⟨z, k1, q1, _⟩ := DataW.trod_int Tryd.underlying3 e1
  rw [q1] at g1
  simp only [DataW.lit.injEq, Lit.int.injEq, true_and] at g1
  have g2 : z = (((if o = 7 then 1 else 0 : Nat)) : Int) := g1.trans (congrArg (fun n : Nat => (n : Int)) hi)
  clear g1
  subst g2
  have := congrArg (·[0]?) k1
  have hc : cs[o * 2 + 1]? = some (.int .i64 (((if o = 7 then 1 else 0 : Nat)) : Int)) := by simpa [List.getElem?_take, List.getElem?_drop] using this
  rw [hc]
  by_cases e7 : o = 7 <;> simp [e7]
def sD {H : Type} (x : List Nat) : DataW H := .lit (.string (x.map (fun y => UInt8.ofNat y)))
theorem wordsD {H : Type} : (Rows.laid_quorum_code_words : DataW H) = .agg (wordT.map sD) := rfl
theorem eventsD {H : Type} : (Rows.laid_quorum_code_events : DataW H) = .agg (evT.map sD) := rfl
theorem pow10D {H : Type} : (Rows.laid_internal_strconv_uint64pow10 : DataW H) = Lib.tabData .u64 Lib.pow10Tab := rfl
/-- A table of texts. -/
theorem text_cells {H : Type} {enc : TypeId × Value → H} {W : World} {base : Nat} {sp : Nat → Bool} {held : Bool} {fuel : Nat} {cs : List Value} {p : List MemPlace} {t : TypeId} {T : List (List Nat)} {n : Nat} (hn : T.length = n)
    (ht : Tryd.prog.underlying t = some (.array n 9)) (h : DataW.trod enc Tryd.prog W base sp held fuel t cs = some (.agg (T.map sD), p)) (o : Nat) (ho : o < n) : cs[o]? = some (.string (txt (T.getD o []))) := by
  obtain ⟨xs, m, _, hx, hl, hlen, hf⟩ := DataW.trod_array ht h
  simp only [Prod.mk.injEq, DataW.agg.injEq] at hx
  have e := hf o (by omega)
  rw [show Tryd.prog.cellsOf 9 = 1 by kernel_rfl, List.getElem?_eq_getElem (by omega)] at e
  have hxo : (xs[o]'(by omega)).1 = sD (T[o]'(by omega)) := by
    have h1 : (xs.map (·.1))[o]? = some (xs[o]'(by omega)).1 := by rw [List.getElem?_map, List.getElem?_eq_getElem (by omega)]; rfl
    rw [← hx.1, List.getElem?_map, List.getElem?_eq_getElem (by omega)] at h1
    exact (Option.some.inj h1).symm
  generalize xs[o]'(by omega) = x at e hxo
  obtain ⟨s0, k0, q0, _⟩ := DataW.trod_string Tryd.underlying9 e
  rw [q0] at hxo
  simp only [sD, DataW.lit.injEq, Lit.string.injEq] at hxo
  have r0 := txt_of hxo
  subst r0
  have hk0 := congrArg (·[0]?) k0
  rw [List.getD_eq_getElem?_getD, List.getElem?_eq_getElem (l := T) (by omega)]
  simpa [List.getElem?_take, List.getElem?_drop] using hk0
theorem gF : Tryd.prog.globalNamed "quorum/code.forms" = some 2 := by kernel_rfl
theorem gFt : (Tryd.prog.globals[2]?).map (·.type) = some 80 := by kernel_rfl
theorem gI : Tryd.prog.globalNamed "quorum/code.inputs" = some 3 := by kernel_rfl
theorem gIt : (Tryd.prog.globals[3]?).map (·.type) = some 83 := by kernel_rfl
theorem gW : Tryd.prog.globalNamed "quorum/code.words" = some 1 := by kernel_rfl
theorem gWt : (Tryd.prog.globals[1]?).map (·.type) = some 76 := by kernel_rfl
theorem gE : Tryd.prog.globalNamed "quorum/code.events" = some 0 := by kernel_rfl
theorem gEt : (Tryd.prog.globals[0]?).map (·.type) = some 59 := by kernel_rfl
theorem gPt : (Tryd.prog.globals[4]?).map (·.type) = some 111 := by kernel_rfl
/-- The tables as they lie when the call begins. -/
theorem tab2_ok {W : World} (h : laidMetH Tryd.prog Rows.codeListsRow.laid W) (hz : 7 < W.heap.size) : Tab2 W := by
  have h : laidMet Tryd.prog [("math/bits.deBruijn32tab", Rows.laid_math_bits_deBruijn32tab), ("math/bits.deBruijn64tab", Rows.laid_math_bits_deBruijn64tab), ("internal/strconv.uint64pow10", Rows.laid_internal_strconv_uint64pow10), ("quorum/code.words", Rows.laid_quorum_code_words), ("quorum/code.forms", Rows.laid_quorum_code_forms), ("quorum/code.inputs", Rows.laid_quorum_code_inputs), ("quorum/code.events", Rows.laid_quorum_code_events)] W := h
  obtain ⟨gf, tf, cf, ff, pf, hf1, hf2, hf3, hf4⟩ := Lib.laidMet.reads h (n := "quorum/code.forms") (d := Rows.laid_quorum_code_forms) (by simp)
  obtain ⟨gi, ti, ci, fi, pi, hi1, hi2, hi3, hi4⟩ := Lib.laidMet.reads h (n := "quorum/code.inputs") (d := Rows.laid_quorum_code_inputs) (by simp)
  obtain ⟨gw, tw, cw, fw, pw, hw1, hw2, hw3, hw4⟩ := Lib.laidMet.reads h (n := "quorum/code.words") (d := Rows.laid_quorum_code_words) (by simp)
  obtain ⟨ge, te, ce, fe, pe, he1, he2, he3, he4⟩ := Lib.laidMet.reads h (n := "quorum/code.events") (d := Rows.laid_quorum_code_events) (by simp)
  obtain ⟨gp, tp, cp, fp, pp, hp1, hp2, hp3, hp4⟩ := Lib.laidMet.reads h (n := "internal/strconv.uint64pow10") (d := Rows.laid_internal_strconv_uint64pow10) (by simp)
  obtain rfl := Option.some.inj (gF.symm.trans hf1)
  obtain rfl := Option.some.inj (gFt.symm.trans hf2)
  obtain rfl := Option.some.inj (gI.symm.trans hi1)
  obtain rfl := Option.some.inj (gIt.symm.trans hi2)
  obtain rfl := Option.some.inj (gW.symm.trans hw1)
  obtain rfl := Option.some.inj (gWt.symm.trans hw2)
  obtain rfl := Option.some.inj (gE.symm.trans he1)
  obtain rfl := Option.some.inj (gEt.symm.trans he2)
  obtain rfl := Option.some.inj (gPow.symm.trans hp1)
  obtain rfl := Option.some.inj (gPt.symm.trans hp2)
  rw [formsD] at hf4
  rw [inputsD] at hi4
  rw [wordsD] at hw4
  rw [eventsD] at he4
  rw [pow10D] at hp4
  have kf : ∀ i, W.cell? ⟨2, i, none⟩ = cf[i]? := fun i => World.var?_cell gF hf3 i
  have ki : ∀ i, W.cell? ⟨3, i, none⟩ = ci[i]? := fun i => World.var?_cell gI hi3 i
  have kw : ∀ i, W.cell? ⟨1, i, none⟩ = cw[i]? := fun i => World.var?_cell gW hw3 i
  have ke : ∀ i, W.cell? ⟨0, i, none⟩ = ce[i]? := fun i => World.var?_cell gE he3 i
  have F := form_cells hf4
  have I := input_cells hi4
  have Wd := text_cells (n := 33) rfl Tryd.underlying76 hw4
  have Ev := text_cells (n := 6) rfl Tryd.underlying59 he4
  refine ⟨⟨fun o ho => ?_, fun o ho => ?_, fun o ho => ?_, fun o ho => ?_, hz⟩, ?_, fun o ho => ?_, fun o ho => ?_, fun o ho => ?_⟩
  · rw [kf]; simpa using (F o ho).1
  · rw [kf]; simpa using (F o ho).2.1
  · rw [kf]; simpa using (F o ho).2.2
  · rw [ki]; simpa using (I o ho).2
  · unfold TabP Lib.TabIs
    rw [hp3, ← Lib.cells_of_tab Tryd.underlying111 Tryd.underlying45 (by kernel_rfl) (by kernel_rfl) hp4]
  · rw [kw]; unfold wdB; simpa using Wd o (by omega)
  · rw [ke]; unfold evB; simpa using Ev o (by omega)
  · rw [ki]; simpa using (I o ho).1
theorem room_ok {W : World} (h : W.ShapedOpen Tryd.prog) : 7 < W.heap.size := by
  have e : (((begin Tryd.prog (fun _ _ => 0) default).world.heap[7]?).bind Obj.row?).isSome = true := by kernel_rfl
  obtain ⟨⟨z, t⟩, hz⟩ := Option.isSome_iff_exists.1 e
  obtain ⟨cs, hc, _⟩ := h.1 7 z t (by decide) hz
  exact block_lt hc
end Go.Proofs.YtfopdbnokojlmaaDoor
