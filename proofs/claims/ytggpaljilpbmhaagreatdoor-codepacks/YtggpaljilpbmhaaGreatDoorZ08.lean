import Derived.Test.YtggpaljilpbmhaaGreatDoorZ07
import Derived.Laws.Strings
namespace Go.Proofs.YtggpaljilpbmhaaGreatDoor
open Go.RowKit

theorem txt_toList (l : List Nat) : (txt l).toList = l.map UInt8.ofNat := by
 unfold txt
 simp
theorem txt_size (l : List Nat) : (txt l).size = l.length := by
 unfold txt
 simp [ByteArray.size]
theorem txt_append (l m : List Nat) : txt l ++ txt m = txt (l ++ m) := by
 unfold txt
 ext1
 simp
theorem txt_extract (l : List Nat) (a b : Nat) : (txt l).extract a b = txt ((l.take b).drop a) := by
 unfold txt
 ext1
 simp [List.drop_take]
theorem ltr_inj : ∀ {l m : List Bool}, (l.map ltr).map UInt8.ofNat = (m.map ltr).map UInt8.ofNat → l = m
 | [], [], _ => rfl
 | [], b :: m, h => by simp at h
 | a :: l, [], h => by simp at h
 | a :: l, b :: m, h => by
  simp only [List.map_cons, List.cons.injEq] at h
  obtain ⟨h1, h2⟩ := h
  have e := ltr_inj h2
  have : a = b := by
   cases a <;> cases b <;> first | rfl | (exfalso; revert h1; decide)
  rw [this, e]
theorem ktx_eq (l m : List Bool) : ((ktx l).toList = (ktx m).toList) = (l = m) := by
 unfold ktx
 rw [txt_toList, txt_toList]
 exact propext ⟨fun h => ltr_inj h, fun h => by rw [h]⟩
theorem ktx_size (l : List Bool) : (ktx l).size = l.length := by unfold ktx; rw [txt_size, List.length_map]
theorem ktx_drop (l : List Bool) (r : Nat) : (ktx l).extract r (ktx l).size = ktx (l.drop r) := by
 rw [ktx_size]
 unfold ktx
 rw [txt_extract, List.map_drop]
 congr 1
 rw [List.take_of_length_le (by simp)]
theorem ktx_take (l : List Bool) (r : Nat) : (ktx l).extract 0 r = ktx (l.take r) := by
 unfold ktx
 rw [txt_extract, List.map_take]
 rfl
theorem ktx_append (l m : List Bool) : ktx l ++ ktx m = ktx (l ++ m) := by
 unfold ktx
 rw [txt_append, List.map_append]
theorem eqSh (a b : Bool) (s t : ByteArray) (w : World) : (binOp .eql 78 (.agg #[.bool a, .string s]) (.agg #[.bool b, .string t])).run Tryz.prog w = .ok (.bool (a == b && s.toList == t.toList)) w := by
 cases a <;> cases b <;> go_simp
 ·by_cases h : s.toList = t.toList
  ·rw [if_pos h]; simp [h]
  ·rw [if_neg h]; simp [h]
 ·by_cases h : s.toList = t.toList
  ·rw [if_pos h]; simp [h]
  ·rw [if_neg h]; simp [h]
def updK (k : Kn) (t : Nat) (l : List Bool) : Kn := fun j => if j = t then some l else k j
def handF (p : Pv) (k : Kn) (frm d : Nat) (l : List Bool) : Except Int Kn :=
 if p.n ≤ d then .error 90 else if d ≤ frm ∧ p.op d ≠ 1 then .error 89 else if k d = some l then .ok k else if d ≤ frm ∨ (k d).isSome = true then .error 88 else .ok (updK k d l)
/-- What becomes of a walk's step. -/
def Hd (lim : Nat) (W : World) (q hb : Nat) (g : Pg) (p : Pv) (frm : Nat) (r : Except Int Kn) (e : Ending) (w' : World) : Prop := match r with
 | .ok k' => e = .returned (.tuple #[]) ∧ Hid (WK lim w' q hb g p k' ∧ W.grownBy w' (some hb))
 | .error y => ∃ g, e = .panicked [{ v := .iface 74 (.pointer (some ⟨g, 0, none⟩)), recovered := false }] ∧ Hid (Ft w'.heap.size w' (.iface 74 (.pointer (some ⟨g, 0, none⟩))) frm y ∧ W.grownBy w' (some hb))
theorem grown_of_below {W W' : World} (h : Below W.heap.size W W') (r : Option Nat) : W.grownBy W' r := ⟨h.os, h.tape, h.output, h.size, fun k hk _ => h.block k hk⟩
theorem below_of_grown {W W' : World} {lim hb : Nat} (h : W.grownBy W' (some hb)) (hl : lim ≤ hb) (hs : lim ≤ W.heap.size) : Below lim W W' := ⟨h.os, h.tape, h.output, h.size, fun k hk => h.block k (by omega) (by simp; omega)⟩
theorem grown_tr {A B C : World} {r : Option Nat} (h1 : A.grownBy B r) (h2 : B.grownBy C r) : A.grownBy C r := ⟨h2.os.trans h1.os, h2.tape.trans h1.tape, h2.output.trans h1.output, Nat.le_trans h1.size h2.size, fun k hk hne => (h2.block k (Nat.lt_of_lt_of_le hk h1.size) hne).trans (h1.block k hk hne)⟩
theorem WK.le {lim : Nat} {W : World} {q hb : Nat} {g : Pg} {p : Pv} {k : Kn} (h : WK lim W q hb g p k) : lim ≤ W.heap.size := by
 have := block_lt h.blk
 have := h.lq
 omega
theorem WK.kept {lim : Nat} {W W' : World} {q hb : Nat} {g : Pg} {p : Pv} {k : Kn} (h : WK lim W q hb g p k) (hB : Below W.heap.size W W') : WK lim W' q hb g p k := by
 obtain ⟨cs, h1, h2⟩ := h.row
 exact ⟨(hB.block _ (block_lt h.blk)).trans h.blk, ⟨cs, (hB.block _ (block_lt h1)).trans h1, h2⟩, h.ok.kept hB h.le, h.lq, h.lh, h.tab.below hB (Nat.lt_of_lt_of_le h.l2 h.le), h.l2⟩
theorem WK.shape {lim : Nat} {W : World} {q hb : Nat} {g : Pg} {p : Pv} {k : Kn} (h : WK lim W q hb g p k) (j : Nat) (hj : j < p.n) : W.cell? ⟨hb, j * 2, none⟩ = some (.bool (k j).isSome) ∧ W.cell? ⟨hb, j * 2 + 1, none⟩ = some (.string (ktx (kin (k j)))) ∧ W.frozen? ⟨hb, j * 2, none⟩ = false ∧ W.frozen? ⟨hb, j * 2 + 1, none⟩ = false ∧ hb < W.heap.size := by
 obtain ⟨cs, h1, h2⟩ := h.row
 exact ⟨(block_cell h1 _).trans (h2 j hj).1, (block_cell h1 _).trans (h2 j hj).2, block_free h1 _, block_free h1 _, block_lt h1⟩
theorem WK.set {lim : Nat} {W : World} {q hb : Nat} {g : Pg} {p : Pv} {k : Kn} (h : WK lim W q hb g p k) (t : Nat) (ht : t < p.n) (l : List Bool) : WK lim ((W.setCell ⟨hb, t * 2, none⟩ (.bool true)).setCell ⟨hb, t * 2 + 1, none⟩ (.string (ktx l))) q hb g p (updK k t l) ∧ W.grownBy ((W.setCell ⟨hb, t * 2, none⟩ (.bool true)).setCell ⟨hb, t * 2 + 1, none⟩ (.string (ktx l))) (some hb) := by
 obtain ⟨cs, h1, h2⟩ := h.row
 have s1 := heap_setCell_same W hb (t * 2) _ _ (.bool true) h1
 have s2 := heap_setCell_same _ hb (t * 2 + 1) _ _ (.string (ktx l)) s1
 have G := grown_tr (grown_set W hb (t * 2) (.bool true)) (grown_set (W.setCell ⟨hb, t * 2, none⟩ (.bool true)) hb (t * 2 + 1) (.string (ktx l)))
 have hne : q ≠ hb := fun e => by have := h.blk; rw [e, h1] at this; simp at this
 have hB := below_of_grown G h.lh h.le
 refine ⟨⟨(G.block _ (block_lt h.blk) (by simpa using hne)).trans h.blk, ⟨_, s2, fun j hj => ?_⟩, h.ok.kept hB (Nat.le_refl _), h.lq, h.lh, h.tab.below hB h.l2, h.l2⟩, G⟩
 obtain ⟨a1, a2⟩ := h2 j hj
 have b1 := (Array.getElem?_eq_some_iff.1 (h2 t ht).1).1
 have b2 := (Array.getElem?_eq_some_iff.1 (h2 t ht).2).1
 unfold updK
 by_cases e : j = t
 ·subst e
  rw [if_pos rfl]
  constructor
  ·rw [Array.getElem?_setIfInBounds_ne (by omega), Array.getElem?_setIfInBounds_self_of_lt b1]; rfl
  ·rw [Array.getElem?_setIfInBounds_self_of_lt (by simpa using b2)]; rfl
 ·rw [if_neg e]
  constructor
  ·rw [Array.getElem?_setIfInBounds_ne (by omega), Array.getElem?_setIfInBounds_ne (by omega)]; exact a1
  ·rw [Array.getElem?_setIfInBounds_ne (by omega), Array.getElem?_setIfInBounds_ne (by omega)]; exact a2
/-- Letters of a column of the table, at an Arg. -/
def colB (p : Pv) (col : List Nat) (a : Int) : List Bool := if col = [115] then [decide (p.S a.toNat = 1)] else if col = [105] then [decide (a = 7)] else col.map (fun x => x == 116)
def Col (col : List Nat) : Prop := col = [] ∨ col = [110] ∨ col = [116] ∨ col = [110, 110] ∨ col = [116, 116] ∨ col = [110, 110, 110] ∨ col = [115] ∨ col = [105]
set_option maxRecDepth 10000 in
set_option maxHeartbeats 1600000 in
theorem kindsC {lim : Nat} {W : World} {q hb : Nat} {g : Pg} {p : Pv} {k : Kn} (h : WK lim W q hb g p k) (col : List Nat) (hc : Col col) (a : Int) (hs : col = [115] → isPl a p.ns = true) (hi : col = [105] → isPl a 8 = true) : Calls Tryz.prog 161 #[.pointer (some ⟨q, 0, none⟩), .string (txt col), .int .i64 a] W fun e w' => e = .returned (.string (ktx (colB p col a))) ∧ w' = W := by
 obtain ⟨c0, c1, c8, c9, ql⟩ := h.cells
 rcases hc with rfl | rfl | rfl | rfl | rfl | rfl | rfl | rfl
 ·clear h hs hi c0 c1 c8 c9
  show Calls _ _ #[_, .string ⟨#[]⟩, _] _ fun e w' => e = .returned (.string ⟨#[]⟩) ∧ _
  go_enter Tryz.func161, Tryz.ntmps161
  go_wp2
  go_ret
  exact ⟨rfl, rfl⟩
 ·clear h hs hi c0 c1 c8 c9
  show Calls _ _ #[_, .string ⟨#[110]⟩, _] _ fun e w' => e = .returned (.string ⟨#[110]⟩) ∧ _
  go_enter Tryz.func161, Tryz.ntmps161
  go_wp2
  go_ret
  exact ⟨rfl, rfl⟩
 ·clear h hs hi c0 c1 c8 c9
  show Calls _ _ #[_, .string ⟨#[116]⟩, _] _ fun e w' => e = .returned (.string ⟨#[116]⟩) ∧ _
  go_enter Tryz.func161, Tryz.ntmps161
  go_wp2
  go_ret
  exact ⟨rfl, rfl⟩
 ·clear h hs hi c0 c1 c8 c9
  show Calls _ _ #[_, .string ⟨#[110, 110]⟩, _] _ fun e w' => e = .returned (.string ⟨#[110, 110]⟩) ∧ _
  go_enter Tryz.func161, Tryz.ntmps161
  go_wp2
  go_ret
  exact ⟨rfl, rfl⟩
 ·clear h hs hi c0 c1 c8 c9
  show Calls _ _ #[_, .string ⟨#[116, 116]⟩, _] _ fun e w' => e = .returned (.string ⟨#[116, 116]⟩) ∧ _
  go_enter Tryz.func161, Tryz.ntmps161
  go_wp2
  go_ret
  exact ⟨rfl, rfl⟩
 ·clear h hs hi c0 c1 c8 c9
  show Calls _ _ #[_, .string ⟨#[110, 110, 110]⟩, _] _ fun e w' => e = .returned (.string ⟨#[110, 110, 110]⟩) ∧ _
  go_enter Tryz.func161, Tryz.ntmps161
  go_wp2
  go_ret
  exact ⟨rfl, rfl⟩
 ·have hp := hs rfl
  simp [isPl] at hp
  obtain ⟨t, rfl⟩ := Int.eq_ofNat_of_zero_le hp.1
  have ht : t < p.ns := by omega
  have hv := h.ok.vs t ht
  obtain ⟨hsa, hsb⟩ := h.ok.hs (by omega)
  have hbl : g.sb < W.heap.size := Nat.lt_of_lt_of_le hsb h.le
  have e : colB p [115] ((t : Nat) : Int) = [decide (p.S t = 1)] := rfl
  rw [e]
  rw [hsa] at c1
  clear h hs hi c0 c8 c9 e hp hsa hsb
  generalize p.S t = s at *
  by_cases h1 : s = 1
  ·subst h1
   show Calls _ _ #[_, .string ⟨#[115]⟩, _] _ fun e w' => e = .returned (.string ⟨#[116]⟩) ∧ _
   go_enter Tryz.func161, Tryz.ntmps161
   go_wp2
   go_ret
   exact ⟨rfl, rfl⟩
  ·rw [decide_eq_false h1]
   have e1 : (s == 1) = false := by simpa using h1
   show Calls _ _ #[_, .string ⟨#[115]⟩, _] _ fun e w' => e = .returned (.string ⟨#[110]⟩) ∧ _
   go_enter Tryz.func161, Tryz.ntmps161
   go_wp2
   go_ret
   exact ⟨rfl, rfl⟩
 ·have hp := hi rfl
  simp [isPl] at hp
  obtain ⟨t, rfl⟩ := Int.eq_ofNat_of_zero_le hp.1
  have ht : t < 8 := by omega
  have hv := h.tab.i t ht
  have hz := h.tab.z
  have e : colB p [105] ((t : Nat) : Int) = [decide ((t : Int) = 7)] := rfl
  rw [e]
  clear h hs hi c0 c1 c8 c9 e hp
  by_cases h1 : t = 7
  ·subst h1
   have hv' : W.cell? ⟨2, 15, none⟩ = some (.int .i64 1) := hv
   clear hv
   show Calls _ _ #[_, .string ⟨#[105]⟩, .int .i64 7] _ fun e w' => e = .returned (.string ⟨#[116]⟩) ∧ _
   go_enter Tryz.func161, Tryz.ntmps161
   go_wp2
   go_ret
   exact ⟨rfl, rfl⟩
  ·rw [if_neg h1] at hv
   rw [decide_eq_false (by omega)]
   show Calls _ _ #[_, .string ⟨#[105]⟩, _] _ fun e w' => e = .returned (.string ⟨#[110]⟩) ∧ _
   go_enter Tryz.func161, Tryz.ntmps161
   go_wp2
   go_ret
   exact ⟨rfl, rfl⟩
end Go.Proofs.YtggpaljilpbmhaaGreatDoor
namespace Go.Proofs.YtggpaljilpbmhaaGreatDoor
open Go.RowKit

theorem Hd.up {lim : Nat} {W W' : World} {q hb : Nat} {g : Pg} {p : Pv} {frm : Nat} {r : Except Int Kn} {e : Ending} {w' : World} (h : Hd lim W' q hb g p frm r e w') (hg : W.grownBy W' (some hb)) : Hd lim W q hb g p frm r e w' := by
 cases r with
 | ok k => exact ⟨h.1, h.2.out.1, grown_tr hg h.2.out.2⟩
 | error y =>
  obtain ⟨g', h1, h2⟩ := h
  exact ⟨g', h1, h2.out.1, grown_tr hg h2.out.2⟩
theorem eqKn (o : Option (List Bool)) (l : List Bool) (w : World) : (binOp .eql 78 (.agg #[.bool o.isSome, .string (ktx (kin o))]) (.agg #[.bool true, .string (ktx l)])).run Tryz.prog w = .ok (.bool (decide (o = some l))) w := by
 rw [eqSh]
 cases o with
 | none => simp
 | some m =>
  by_cases h : m = l
  ·subst h
   simp [kin]
  ·have h2 : ¬ (ktx m).toList = (ktx l).toList := by rw [ktx_eq]; exact h
   simp only [kin, Option.getD_some, Option.isSome_some, Option.some.injEq, decide_eq_false h, beq_eq_false_iff_ne.2 h2, Bool.and_false]
set_option maxRecDepth 10000 in
set_option maxHeartbeats 1600000 in
theorem handC {lim : Nat} {W : World} {q hb : Nat} {g : Pg} {p : Pv} {k : Kn} (h : WK lim W q hb g p k) (frm d : Nat) (l : List Bool) :
  Calls Tryz.prog 162 #[.pointer (some ⟨q, 0, none⟩), .int .i64 (frm : Nat), .int .i64 (d : Nat), .string (ktx l)] W (Hd lim W q hb g p frm (handF p k frm d l)) := by
 obtain ⟨W1, hW1⟩ : ∃ W1, W.alloc (.cells #[.bool true, .string (ktx l)] 78) = W1 := ⟨_, rfl⟩
 have B1 : Below W.heap.size W W1 := by rw [← hW1]; exact below_alloc1 W _
 have A1 : W1.heap[W.heap.size]? = some (.cells #[.bool true, .string (ktx l)] 78 (0, 0)) := by rw [← hW1]; exact alloc_atK _ _
 have h1 := h.kept B1
 have G1 := grown_of_below B1 (some hb)
 obtain ⟨c0, c1, c8, c9, ql⟩ := h1.cells
 have z0 := block_cell A1 0
 have z1 := block_cell A1 1
 have zl := block_lt A1
 simp at z0 z1
 have hli := h.ok.li
 have H1 := hide h1
 have HG1 := hide G1
 have HW1 := hide hW1
 have HGU : Hid (∀ y e w', Gu W1 frm y e w' → Hd lim W q hb g p frm (.error y) e w') := fun y e w' ⟨g', h1, h2⟩ => ⟨g', h1, h2.out.1, grown_tr G1 (grown_of_below h2.out.2 _)⟩
 clear h h1 A1 B1 hW1 G1 c0 c1
 unfold handF
 by_cases hn : p.n ≤ d
 ·rw [if_pos hn]
  go_enter Tryz.func162, Tryz.ntmps162
  go_upto_region 1 with fail
  rw [HW1.out]
  by_cases hfd : d ≤ frm
  ·go_wp2_with fail
   refine (giveUp_any _ _ _).mono ?_
   intro e w1 hgu
   have HD := hide (HGU.out _ _ _ hgu)
   obtain ⟨g', rfl, -⟩ := hgu
   go_wp2
   exact ⟨rfl, HD.out⟩
  ·go_wp2_with fail
   refine (giveUp_any _ _ _).mono ?_
   intro e w1 hgu
   have HD := hide (HGU.out _ _ _ hgu)
   obtain ⟨g', rfl, -⟩ := hgu
   go_wp2
   exact ⟨rfl, HD.out⟩
 ·rw [if_neg hn]
  have hdn : d < p.n := by omega
  have vo := H1.out.ok.vo d hdn
  obtain ⟨hia, hib⟩ := H1.out.ok.hi (by omega)
  have hbl : g.ib < W1.heap.size := Nat.lt_of_lt_of_le hib H1.out.le
  obtain ⟨s0, s1, f0, f1, sl⟩ := H1.out.shape d hdn
  rw [hia] at c8
  by_cases hfd : d ≤ frm
  ·by_cases ho : p.op d = 1
   ·rw [if_neg (by intro h; exact h.2 ho)]
    by_cases hk : k d = some l
    ·rw [if_pos hk]
     have FIN : Hid (∀ n, Hd lim W q hb g p frm (.ok k) (.returned (.tuple #[])) (W1.drewN n)) := fun n => ⟨rfl, H1.out.kept (Go.below_drewN (Below.refl _ _) n), grown_tr HG1.out (grown_of_below (Go.below_drewN (Below.refl _ _) n) _)⟩
     have heq := eqKn (k d) l
     rw [decide_eq_true hk] at heq
     generalize (k d).isSome = kb at *
     generalize ktx (kin (k d)) = ks at *
     clear hk
     go_enter Tryz.func162, Tryz.ntmps162
     go_upto_region 1 with fail
     rw [HW1.out]
     go_upto_region 7 with fail
     go_region
     go_wp2
     go_end0
     exact FIN.out 1
    ·rw [if_neg hk, if_pos (Or.inl hfd)]
     have HGU : Hid (∀ y e w', Gu W1.drew frm y e w' → Hd lim W q hb g p frm (.error y) e w') := fun y e w' ⟨g', h1, h2⟩ => ⟨g', h1, h2.out.1, grown_tr HG1.out (grown_of_below ((Below.refl W1.heap.size W1).drew.trans h2.out.2) _)⟩
     have heq := eqKn (k d) l
     rw [decide_eq_false hk] at heq
     generalize (k d).isSome = kb at *
     generalize ktx (kin (k d)) = ks at *
     clear hk
     go_enter Tryz.func162, Tryz.ntmps162
     go_upto_region 1 with fail
     rw [HW1.out]
     go_upto_region 7 with fail
     go_region
     go_wp2_with fail
     refine (giveUp_any _ _ _).mono ?_
     intro e w1 hgu
     have HD := hide (HGU.out _ _ _ hgu)
     obtain ⟨g', rfl, -⟩ := hgu
     go_wp2
     exact ⟨rfl, HD.out⟩
   ·rw [if_pos ⟨hfd, ho⟩]
    have e1 : (p.op d != 1) = true := by simpa using ho
    clear s0 s1 f0 f1 sl
    generalize p.op d = oo at *
    go_enter Tryz.func162, Tryz.ntmps162
    go_upto_region 1 with fail
    rw [HW1.out]
    go_wp2_with fail
    refine (giveUp_any _ _ _).mono ?_
    intro e w1 hgu
    have HD := hide (HGU.out _ _ _ hgu)
    obtain ⟨g', rfl, -⟩ := hgu
    go_wp2
    exact ⟨rfl, HD.out⟩
  ·rw [if_neg (by intro h; exact hfd h.1)]
   by_cases hk : k d = some l
   ·rw [if_pos hk]
    have FIN : Hid (∀ n, Hd lim W q hb g p frm (.ok k) (.returned (.tuple #[])) (W1.drewN n)) := fun n => ⟨rfl, H1.out.kept (Go.below_drewN (Below.refl _ _) n), grown_tr HG1.out (grown_of_below (Go.below_drewN (Below.refl _ _) n) _)⟩
    have heq := eqKn (k d) l
    rw [decide_eq_true hk] at heq
    generalize (k d).isSome = kb at *
    generalize ktx (kin (k d)) = ks at *
    clear hk
    go_enter Tryz.func162, Tryz.ntmps162
    go_upto_region 1 with fail
    rw [HW1.out]
    go_upto_region 7 with fail
    go_region
    go_wp2
    go_end0
    exact FIN.out 1
   ·rw [if_neg hk]
    by_cases hs : (k d).isSome = true
    ·rw [if_pos (Or.inr hs)]
     have HGU : Hid (∀ y e w', Gu W1.drew frm y e w' → Hd lim W q hb g p frm (.error y) e w') := fun y e w' ⟨g', h1, h2⟩ => ⟨g', h1, h2.out.1, grown_tr HG1.out (grown_of_below ((Below.refl W1.heap.size W1).drew.trans h2.out.2) _)⟩
     have heq := eqKn (k d) l
     rw [decide_eq_false hk] at heq
     rw [hs] at s0 heq
     generalize ktx (kin (k d)) = ks at *
     clear hk
     go_enter Tryz.func162, Tryz.ntmps162
     go_upto_region 1 with fail
     rw [HW1.out]
     go_upto_region 7 with fail
     go_region
     go_wp2_with fail
     refine (giveUp_any _ _ _).mono ?_
     intro e w1 hgu
     have HD := hide (HGU.out _ _ _ hgu)
     obtain ⟨g', rfl, -⟩ := hgu
     go_wp2
     exact ⟨rfl, HD.out⟩
    ·rw [if_neg (fun h => h.elim hfd hs)]
     have hs : (k d).isSome = false := by simpa using hs
     have heq := eqKn (k d) l
     rw [decide_eq_false hk] at heq
     have HST := hide (H1.out.set d hdn l)
     have FIN : Hid (∀ n, Hd lim W q hb g p frm (.ok (updK k d l)) (.returned (.tuple #[])) (((W1.setCell ⟨hb, d * 2, none⟩ (.bool true)).setCell ⟨hb, d * 2 + 1, none⟩ (.string (ktx l))).drewN n)) := fun n => ⟨rfl, HST.out.1.kept (Go.below_drewN (Below.refl _ _) n), grown_tr (grown_tr HG1.out HST.out.2) (grown_of_below (Go.below_drewN (Below.refl _ _) n) _)⟩
     rw [hs] at s0 heq
     generalize ktx (kin (k d)) = ks at *
     clear hk hs
     go_enter Tryz.func162, Tryz.ntmps162
     go_upto_region 1 with fail
     rw [HW1.out]
     go_upto_region 7 with fail
     go_region
     go_upto_region 2 with fail
     go_region
     go_wp2
     go_end0
     exact FIN.out 2
end Go.Proofs.YtggpaljilpbmhaaGreatDoor
