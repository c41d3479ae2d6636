import Derived.Test.YtggpaljilpbmhaaGreatDoorZ03
import Derived.Test.YtggpaljilpbmhaaGreatDoorZ21
import Derived.LaidLaws
import Derived.LaidHandle
import Derived.Test.YtggpaljilpbmhaaGreatDoorZ32
import Derived.Test.YtggpaljilpbmhaaGreatDoorRows
namespace Go.Proofs.YtggpaljilpbmhaaGreatDoor
open Go.ChangeShapes Go.WideShapes Go.ChangeAt Go.RowKit Go.Deep

def fD {H : Type} (x : Nat × List Nat × List Nat) : DataW H := .agg [.lit (.int .i64 (x.1 : Nat)), .lit (.string (x.2.1.map (fun y => UInt8.ofNat y))), .lit (.string (x.2.2.map (fun y => UInt8.ofNat y)))]
theorem formsD {H : Type} : (Rows.laid_quorum_code_forms : DataW H) = .agg (formT.map fD) := rfl
theorem txt_of {s : ByteArray} {l : List Nat} (h : s.data.toList = l.map (fun y => UInt8.ofNat y)) : s = txt l := by
 unfold txt
 cases s with
 | mk d => 
  congr 1
  apply Array.toList_inj.1
  simpa using h
theorem list3W {α : Type} {l : List α} (h : l.length = 3) : ∃ a b c, l = [a, b, c] := by
 match l, h with
 | [a, b, c], _ => exact ⟨a, b, c, rfl⟩
theorem form_cells {H : Type} {enc : TypeId × Value → H} {W : World} {base : Nat} {sp : Nat → Bool} {held : Bool} {fuel : Nat} {cs : List Value} {p : List MemPlace}
  (h : DataW.trod enc Tryz.prog W base sp held fuel 106 cs = some (.agg (formT.map fD), p)) (o : Nat) (ho : o ≤ 32) :
  cs[o * 3]? = some (.int .i64 (fArg o : Nat)) ∧ cs[o * 3 + 1]? = some (.string (txt (fTakes o))) ∧ cs[o * 3 + 2]? = some (.string (txt (fLays o))) := by
 obtain ⟨xs, m, _, hx, hl, hlen, hf⟩ := DataW.trod_array Tryz.underlying106 h
 rw [show Tryz.prog.cellsOf 106 = 99 by kernel_rfl] at hl
 simp only [Prod.mk.injEq, DataW.agg.injEq] at hx
 have e := hf o (by omega)
 rw [show Tryz.prog.cellsOf 105 = 3 by kernel_rfl, List.getElem?_eq_getElem (by omega)] at e
 have hxo : (xs[o]'(by omega)).1 = fD (formT[o]'(by show o < 33; omega)) := by
  have h1 : (xs.map (·.1))[o]? = some (xs[o]'(by omega)).1 := by rw [List.getElem?_map, List.getElem?_eq_getElem (by omega)]; rfl
  rw [← hx.1, List.getElem?_map, List.getElem?_eq_getElem (by show o < 33; omega)] at h1
  exact (Option.some.inj h1).symm
 have hfo : formT[o]'(by show o < 33; omega) = (fArg o, fTakes o, fLays o) := by
  unfold fArg fTakes fLays
  rw [List.getD_eq_getElem?_getD, List.getElem?_eq_getElem (by show o < 33; omega)]
  rfl
 rw [hfo] at hxo
 generalize xs[o]'(by omega) = x at e hxo
 obtain ⟨ys, n, _, hy, hl2, hlen2, hf2⟩ := DataW.trod_struct Tryz.underlying105 e
 have hlen2 : ys.length = 3 := hlen2
 obtain ⟨y0, y1, y2, rfl⟩ := list3W hlen2
 rw [hy] at hxo
 simp only [fD, List.map_cons, List.map_nil, DataW.agg.injEq, List.cons.injEq, and_true] at hxo
 obtain ⟨g0, g1, g2⟩ := hxo
 have e0 : DataW.trod enc Tryz.prog W base sp held n 103 ((((cs.drop (o * 3)).take 3).drop 0).take (Tryz.prog.cellsOf 103)) = some y0 := hf2 0 _ rfl
 have e1 : DataW.trod enc Tryz.prog W base sp held n 9 ((((cs.drop (o * 3)).take 3).drop 1).take (Tryz.prog.cellsOf 9)) = some y1 := hf2 1 _ rfl
 have e2 : DataW.trod enc Tryz.prog W base sp held n 9 ((((cs.drop (o * 3)).take 3).drop 2).take (Tryz.prog.cellsOf 9)) = some y2 := hf2 2 _ rfl
 rw [show Tryz.prog.cellsOf 103 = 1 by kernel_rfl] at e0
 rw [show Tryz.prog.cellsOf 9 = 1 by kernel_rfl] at e1 e2
 obtain ⟨z, k0, q0, _⟩ := DataW.trod_int Tryz.underlying103 e0
 obtain ⟨s1, k1, q1, _⟩ := DataW.trod_string Tryz.underlying9 e1
 obtain ⟨s2, k2, q2, _⟩ := DataW.trod_string Tryz.underlying9 e2
 rw [q0] at g0
 rw [q1] at g1
 rw [q2] at g2
 simp only [DataW.lit.injEq, Lit.int.injEq, Lit.string.injEq, true_and] at g0 g1 g2
 have r1 := txt_of g1
 have r2 := txt_of g2
 subst g0
 subst r1
 subst r2
 have key : ∀ (d : Nat) (v : Value), d < 3 → (((cs.drop (o * 3)).take 3).drop d).take 1 = [v] → cs[o * 3 + d]? = some v := fun d v hd hk => by
  have := congrArg (·[0]?) hk
  simpa [List.getElem?_take, List.getElem?_drop, hd] using this
 exact ⟨key 0 _ (by omega) k0, key 1 _ (by omega) k1, key 2 _ (by omega) k2⟩
def inT : List (List Nat × Nat) := [([99, 97, 108, 108, 101, 114], 0), ([97, 109, 111, 117, 110, 116], 0), ([104, 101, 108, 100], 0), ([110, 111, 119], 0), ([111, 112, 101, 110, 101, 100], 0), ([100, 117, 101], 0), ([97, 115, 107, 101, 100], 0), ([100, 105, 115, 112, 117, 116, 101, 100], 1)]
def iD {H : Type} (x : List Nat × Nat) : DataW H := .agg [.lit (.string (x.1.map (fun y => UInt8.ofNat y))), .lit (.int .i64 (x.2 : Nat))]
theorem inputsD {H : Type} : (Rows.laid_quorum_code_inputs : DataW H) = .agg (inT.map iD) := rfl
theorem list2E {α : Type} {l : List α} (h : l.length = 2) : ∃ a b, l = [a, b] := by
 match l, h with
 | [a, b], _ => exact ⟨a, b, rfl⟩
theorem input_cells {H : Type} {enc : TypeId × Value → H} {W : World} {base : Nat} {sp : Nat → Bool} {held : Bool} {fuel : Nat} {cs : List Value} {p : List MemPlace}
  (h : DataW.trod enc Tryz.prog W base sp held fuel 291 cs = some (.agg (inT.map iD), p)) (o : Nat) (ho : o < 8) :
  cs[o * 2 + 1]? = some (.int .i64 (if o = 7 then 1 else 0)) := by
 obtain ⟨xs, m, _, hx, hl, hlen, hf⟩ := DataW.trod_array Tryz.underlying291 h
 simp only [Prod.mk.injEq, DataW.agg.injEq] at hx
 have e := hf o (by omega)
 rw [show Tryz.prog.cellsOf 290 = 2 by kernel_rfl, List.getElem?_eq_getElem (by omega)] at e
 have hxo : (xs[o]'(by omega)).1 = iD (inT[o]'(by show o < 8; omega)) := by
  have h1 : (xs.map (·.1))[o]? = some (xs[o]'(by omega)).1 := by rw [List.getElem?_map, List.getElem?_eq_getElem (by omega)]; rfl
  rw [← hx.1, List.getElem?_map, List.getElem?_eq_getElem (by show o < 8; omega)] at h1
  exact (Option.some.inj h1).symm
 have hio : ∀ o (h : o < 8), (inT[o]'h).2 = if o = 7 then 1 else 0 := by decide
 have hi := hio o ho
 generalize xs[o]'(by omega) = x at e hxo
 obtain ⟨ys, n, _, hy, hl2, hlen2, hf2⟩ := DataW.trod_struct Tryz.underlying290 e
 have hlen2 : ys.length = 2 := hlen2
 obtain ⟨y0, y1, rfl⟩ := list2E hlen2
 rw [hy] at hxo
 simp only [iD, List.map_cons, List.map_nil, DataW.agg.injEq, List.cons.injEq, and_true] at hxo
 obtain ⟨g0, g1⟩ := hxo
 have e1 : DataW.trod enc Tryz.prog W base sp held n 3 ((((cs.drop (o * 2)).take 2).drop 1).take (Tryz.prog.cellsOf 3)) = some y1 := hf2 1 _ rfl
 rw [show Tryz.prog.cellsOf 3 = 1 by kernel_rfl] at e1
 obtain ⟨z, k1, q1, _⟩ := DataW.trod_int Tryz.underlying3 e1
 rw [q1] at g1
 simp only [DataW.lit.injEq, Lit.int.injEq, true_and] at g1
 have g2 : z = (((if o = 7 then 1 else 0 : Nat)) : Int) := g1.trans (congrArg (fun n : Nat => (n : Int)) hi)
 clear g1
 subst g2
 have := congrArg (·[0]?) k1
 have hc : cs[o * 2 + 1]? = some (.int .i64 (((if o = 7 then 1 else 0 : Nat)) : Int)) := by simpa [List.getElem?_take, List.getElem?_drop] using this
 rw [hc]
 by_cases e7 : o = 7 <;> simp [e7]
theorem gF : Tryz.prog.globalNamed "quorum/code.forms" = some 0 := by kernel_rfl
theorem gFt : (Tryz.prog.globals[0]?).map (·.type) = some 106 := by kernel_rfl
theorem gI : Tryz.prog.globalNamed "quorum/code.inputs" = some 2 := by kernel_rfl
theorem gIt : (Tryz.prog.globals[2]?).map (·.type) = some 291 := by kernel_rfl
/-- The tables as they lie when the call begins. -/
theorem tab_okP {W : World} (h : laidMetH Tryz.prog Rows.codePacksRow.laid W) (hz : 10 < W.heap.size) : Tab W := by
 have h' : laidMet Tryz.prog [("quorum/code.forms", Rows.laid_quorum_code_forms), ("quorum/code.inputs", Rows.laid_quorum_code_inputs)] W ∧ handlesMet Tryz.prog [("errors.errorType", Rows.laid_errors_errorType)] W := h
 obtain ⟨ps, ⟨g1, t1, c1, f1, p1, q1, hg1, ht1, hv1, hd1, ⟨g2, t2, c2, f2, p2, q2, hg2, ht2, hv2, hd2, _, _⟩, _⟩, _⟩ := h'.1
 obtain rfl := Option.some.inj (gF.symm.trans hg1)
 obtain rfl := Option.some.inj (gFt.symm.trans ht1)
 obtain rfl := Option.some.inj (gI.symm.trans hg2)
 obtain rfl := Option.some.inj (gIt.symm.trans ht2)
 rw [formsD] at hd1
 rw [inputsD] at hd2
 have k1 : ∀ i, W.cell? ⟨0, i, none⟩ = c1[i]? := fun i => World.var?_cell gF hv1 i
 have k2 : ∀ i, W.cell? ⟨2, i, none⟩ = c2[i]? := fun i => World.var?_cell gI hv2 i
 have F := form_cells hd1
 have I := input_cells hd2
 refine ⟨fun o ho => ?_, fun o ho => ?_, fun o ho => ?_, fun o ho => ?_, ?_⟩
 ·rw [k1]; simpa using (F o ho).1
 ·rw [k1]; simpa using (F o ho).2.1
 ·rw [k1]; simpa using (F o ho).2.2
 ·rw [k2]; simpa using I o ho
 ·exact hz
theorem room_ok {W : World} (h : W.ShapedOpen Tryz.prog) : 10 < W.heap.size := by
 have e : (((begin Tryz.prog (fun _ _ => 0) default).world.heap[10]?).bind Obj.row?).isSome = true := by kernel_rfl
 obtain ⟨⟨z, t⟩, hz⟩ := Option.isSome_iff_exists.1 e
 obtain ⟨cs, hc, _⟩ := h.1 10 z t (by decide) hz
 exact block_lt hc
theorem bytesU8 : Tryz.prog.bytesOf 5 = 1 := by kernel_rfl
theorem cellsU8 : Tryz.prog.cellsOf 5 = 1 := by kernel_rfl
/-- The bytes as numbers. -/
theorem bytes_of (zs : List Int) (hwz : ∀ n ∈ zs, (Lit.int .u8 n).wf = true) : ∃ B : List Nat, zs = B.map (fun (x : Nat) => (x : Int)) ∧ ∀ x ∈ B, x < 256 := by
 induction zs with
 | nil => exact ⟨[], rfl, by simp⟩
 | cons z r ih =>
  obtain ⟨B, hB, hl⟩ := ih (fun n hn => hwz n (by simp [hn]))
  have hz := bounds_u8 (hwz z (by simp))
  refine ⟨z.toNat :: B, ?_, ?_⟩
  ·simp [hB]; omega
  ·intro x hx
   rcases List.mem_cons.1 hx with rfl | hx
   ·omega
   ·exact hl x hx
/-- Bytes that came in. -/
theorem view_bytes {H : Type} {enc : TypeId × Value → H} {W : World} {fuel : Nat} {cs : List Value} {x : DataW H × List MemPlace}
  (hf : DataW.trod enc Tryz.prog W 0 (fun _ => true) true fuel 51 cs = some x) (hr : ∀ n ∈ x.1.weights Tryz.prog 51, n ≤ reachBytes) :
  ∃ (ao : Option Addr) (len cap : Nat) (B : List Nat), cs = [.slice ao len cap] ∧ Shows W.heap.size W ao len cap B ∧ len ≤ 140737488351232 := by
 have hlt := DataW.trod_lt fuel _ _ _ hf
 rcases open_ints Tryz.underlying51 Tryz.underlying5 cellsU8 hf with ⟨rfl, _⟩ | ⟨x, len, cap, zs, rfl, _, hl, hm, hz, rfl, hcell, hwz⟩
 ·exact ⟨none, 0, 0, [], rfl, ⟨rfl, by omega, by omega, by simp, 0, 0, fun h => by omega, fun h => by omega, fun i hi => by omega⟩, by omega⟩
 ·obtain ⟨B, rfl, hB⟩ := bytes_of zs hwz
  have hr := hr ((lits .u8 ((B.map (fun (x : Nat) => (x : Int))).take len)).length + (lits (H := H) .u8 ((B.map (fun (x : Nat) => (x : Int))).drop len)).length) (by
   simp only [DataW.weights, Tryz.underlying51, bytesU8, Nat.mul_one]
   exact List.mem_cons_self ..)
  simp only [lits, List.length_map, List.length_take, List.length_drop, reachBytes] at hr
  have hzl : B.length = cap := by simpa using hz
  by_cases hp : 0 < len
  ·obtain ⟨b, off, spot⟩ := x
   have hspot : spot = none := by simpa [Addr.add] using World.cell?_spot (hcell 0 (by simp; omega))
   subst hspot
   have hbW : b < W.heap.size := hlt (.cell b off) (MemPlace.mem_row.2 ⟨0, by simp; omega, by simp⟩)
   refine ⟨_, len, cap, B.take len, rfl, ⟨by simp; omega, hl, by omega, fun x hx => hB x (List.mem_of_mem_take hx), b, off, fun _ => rfl, fun _ => hbW, fun i hi => ?_⟩, by omega⟩
   have hci := hcell i (by simp; omega)
   rw [add_plain] at hci
   rw [hci, List.getD_eq_getElem?_getD, List.getD_eq_getElem?_getD, List.getElem?_map, List.getElem?_take, if_pos hi, List.getElem?_eq_getElem (by omega)]
   rfl
  ·obtain rfl : len = 0 := by omega
   exact ⟨_, 0, cap, [], rfl, ⟨rfl, by omega, by omega, by simp, 0, 0, fun h => by omega, fun h => by omega, fun i hi => by omega⟩, by omega⟩
theorem et : Tryz.prog.globalNamed "errors.errorType" = some 1 := by kernel_rfl
theorem rt : (Tryz.prog.cutTypes.find? (·.1 == "internal/reflectlite.rtype")).map (·.2) = some 267 := by kernel_rfl
theorem size : Tryz.prog.types.size = 353 := by kernel_rfl
theorem oneRow : ((List.range 353).filter fun t => Tryz.prog.rowNamed t [101, 114, 114, 111, 114]) = [33] := by kernel_rfl
theorem handle_of_laid {W : World} (h : laidMetH Tryz.prog Rows.codePacksRow.laid W) : ErrT W := by
 have h' : laidMet Tryz.prog [("quorum/code.forms", Rows.laid_quorum_code_forms), ("quorum/code.inputs", Rows.laid_quorum_code_inputs)] W ∧ handlesMet Tryz.prog [("errors.errorType", Rows.laid_errors_errorType)] W := h
 obtain ⟨name, u, ty, e1, e2, e3, e4, e5⟩ := h'.2 _ (List.mem_singleton.2 rfl)
 have en : name = [101, 114, 114, 111, 114] := (Option.some.inj e1).symm
 subst en
 obtain rfl := Option.some.inj (rt.symm.trans e2)
 have hm : ty ∈ (List.range 353).filter fun t => Tryz.prog.rowNamed t [101, 114, 114, 111, 114] := List.mem_filter.2 ⟨List.mem_range.2 (by rw [← size]; exact e3), e4⟩
 rw [oneRow] at hm
 obtain rfl := List.mem_singleton.1 hm
 have hh : typeHandle Tryz.prog 33 = .pointer (some ⟨11, 33, none⟩) := by kernel_rfl
 rw [hh] at e5
 show W.cell? _ = _
 simpa using World.var?_cell et e5 0
end Go.Proofs.YtggpaljilpbmhaaGreatDoor
