import Derived.Test.YtggpaljilpbmhaaGreatDoorZ04
import Derived.RangeFuncBox
import Derived.Deep.Cut
import Derived.BigQuiet
namespace Go.Proofs.YtggpaljilpbmhaaGreatDoor
open Go.RowKit

theorem cells_newK (W : World) (cs : List Value) (t : TypeId) : ∀ (j : Nat) (u : Value), cs[j]? = some u → (W.alloc (.cells cs.toArray t)).cell? (Addr.add ⟨W.heap.size, 0, none⟩ j) = some u := by
 intro j u hu
 have := World.cell?_alloc_new W cs.toArray t j
 have he : Addr.add ⟨W.heap.size, 0, none⟩ j = ⟨W.heap.size, j, none⟩ := by
  simp only [Addr.add]
  split <;> simp_all
 rw [he, this]
 simpa using hu
theorem cells_newD (W : World) (cs : List Value) (t : TypeId) : ∀ (j : Nat) (u : Value), cs[j]? = some u → (W.alloc (.cells cs.toArray t)).drew.cell? (Addr.add ⟨W.heap.size, 0, none⟩ j) = some u := cells_newK W cs t
theorem alloc_atK (w : World) (o : Obj) : (w.alloc o).heap[w.heap.size]? = some o := by simp [World.alloc, -World.alloc_eq]
theorem asrt_pp (g : Nat) (w : World) : (Instr.typeAssert (.iface 74 (.pointer (some ⟨g, 0, none⟩))) 33 74 true).run Tryz.prog w = .ok (.tuple #[.pointer (some ⟨g, 0, none⟩), .bool true]) w := by kernel_rfl
theorem asrt_np (n : Int) (w : World) : (Instr.typeAssert (.iface 76 (.int .i64 n)) 33 74 true).run Tryz.prog w = .ok (.tuple #[.pointer none, .bool false]) w := by kernel_rfl
theorem asrt_nn (n : Int) (w : World) : (Instr.typeAssert (.iface 76 (.int .i64 n)) 33 76 true).run Tryz.prog w = .ok (.tuple #[.int .i64 n, .bool true]) w := by kernel_rfl
theorem step_append_ownK {P : Program} {ops : Array Oper} {o : Oper} {a : Act} {w : World} {K : Act → World → Prop} {Q : Exit → Act → World → Prop} {E : Prop}
  (hgd : o.guard = none) (s x : Operand) (t : TypeId) (ho : o.op = .call { callee := .builtin .append, args := #[s, x], argTypes := #[t, t] })
  (base : Nat) (e : TypeId) (i : TypeInfo) (z : Value) (size bytes : Nat) (ht : P.underlying t = some (.slice e)) (hi : P.info? e = some i) (hz : i.zero = some z)
  (hsize : i.size = size) (hby : i.bytes = bytes) (hzs : z.cells.size = size) (hsz : 0 < size)
  (v : Value) (n : Nat) (xs : List Value) (hs : a.eval s = v) (hown : w.ownsRow base e size v n xs)
  (ad : Addr) (m c : Nat) (news : List Value) (hx : a.eval x = .slice (some ad) m c) (hl : news.length = m * size) (hnews : ∀ j u, news[j]? = some u → w.cell? (ad.add j) = some u) (h1 : ∀ u ∈ news, u.oneCell' = true)
  (h63 : n + m ≤ maxLen) (hbytes : (n + m) * bytes ≤ 140737488355328) (hbase : base ≤ w.heap.size)
  (h : ∀ v' w', w'.ownsRow base e size v' (n + m) (xs ++ news) → w.grownBy w' v.ownBlock → K (a.put o.dst v') w') :
  if Region.wanted o (yielded ops a.tmps) = true then Oper.wp P o a w K Q else E := by
 have hw : Region.wanted o (yielded ops a.tmps) = true := by simp [Region.wanted, hgd]
 rw [if_pos hw]
 exact wp_append_own w s x t ho base e i z size bytes ht hi hz hsize hby hzs hsz v n xs hs hown ad m c news hx hl hnews h1 h63 hbytes hbase (fun v' w' h2 h3 _ => h v' w' h2 h3)
theorem FV.heapK {lim : Nat} {w w' : World} {ao : Option Addr} {L : List Lk} {b off : Nat} (h : FV lim w ao L b off) (e : w'.heap = w.heap) : FV lim w' ao L b off := ⟨h.ad, h.lt, h.le, fun i l hl => by simp only [World.cell?, e]; exact h.at_ i l hl⟩
theorem drew_grownK (w : World) : w.grownBy w.drew none := ⟨rfl, rfl, rfl, Nat.le_refl _, fun _ _ _ => rfl⟩
theorem tl_new (w : World) {L : List Lk} {v : Value} {c : Int} (h : Chain w.heap.size w L v c) : Tl w L c 0 (.slice none 0 0) v ((w.alloc (.cells #[.slice none 0 0, .int .i64 0] 54)).alloc (.cells #[.slice none 0 0, .int .i64 0] 54)) := by
 have e1 : (w.alloc (.cells #[.slice none 0 0, .int .i64 0] 54)).heap.size = w.heap.size + 1 := by simp
 have bel : Below w.heap.size w ((w.alloc (.cells #[.slice none 0 0, .int .i64 0] 54)).alloc (.cells #[.slice none 0 0, .int .i64 0] 54)) := ((Below.refl _ w).alloc (Nat.le_refl _) _).alloc (by simp) _
 refine ⟨bel, ⟨_, ((World.grownBy_alloc _ _ none).block _ (by rw [e1]; omega) (by simp)).trans (alloc_atK _ _), rfl⟩, ?_, World.ownsRow_nil _ _ _ _, Chain.below bel h⟩
 rw [← e1]
 exact alloc_atK _ _
/-- The answer of Told. -/
def ToldP (w : World) (L : List Lk) (c : Int) (e : Ending) (w' : World) : Prop := ∃ ao cap, e = .returned (.tuple #[.agg #[.slice ao L.length cap, .int .i64 c], .bool true]) ∧ Hid (∃ b, FV w'.heap.size w' ao L b 0 ∧ Below w.heap.size w w')

set_option maxRecDepth 10000 in
set_option maxHeartbeats 1600000 in
theorem told0_chain {w : World} {L : List Lk} {v : Value} {c : Int} (h : Chain w.heap.size w L v c) (h0 : 0 < L.length) (hl : L.length ≤ 11) (hc : c ≠ 0) : Calls Tryz.prog 47 #[v] w (ToldP w L c) := by
 obtain ⟨i0, hi0, hz0, hz1, hz2⟩ := info_parts infoLink
 have HZ0 := hide hz0
 clear hz0
 have HT0 := hide (tl_new w h)
 unfold ToldP
 clear h
 go_enter Tryz.func47, Tryz.ntmps47
 go_wp2
 go_loopw [0, 5] (fun u i wr => ∃ k : Nat, k ≤ L.length ∧ i = .int .i64 k ∧ Hid (∃ v, Tl w L c k v u wr)) (fun _ i _ => 12 - (intOf i).toNat)
 case atStart => exact ⟨0, by omega, rfl, _, HT0.out⟩
 case round =>
  obtain ⟨k, hk, rfl, HS⟩ := hrel
  obtain ⟨vv, htl⟩ := HS.out
  have TL := hide htl
  clear HS HT0
  by_cases hlt : k < L.length
  ·have hch := htl.ch
   have hd := List.drop_eq_getElem_cons hlt
   rw [hd] at hch
   obtain ⟨g, u, rfl, hg, c0, c1, c2, hch2⟩ := hch
   have hg0 := hide hg
   have hgl : L[k]? = some L[k] := List.getElem?_eq_getElem hlt
   obtain ⟨layer, at_, hLk⟩ : ∃ layer at_, L[k] = ⟨layer, at_⟩ := ⟨_, _, rfl⟩
   rw [hLk] at c0 c1 hgl
   simp only at c0 c1
   have b0 := block_cell htl.box 0
   have hbs := block_lt htl.box
   simp at b0
   have hgw : g < wr.heap.size := Nat.lt_of_lt_of_le hg htl.bel.size
   have HOW : Hid (∀ o, (wr.alloc o).drew.ownsRow w.heap.size 165 2 vv k (lkcells (L.take k))) := fun o => row_quietT (row_quietT TL.out.row (World.grownBy_alloc wr o none)) (drew_grownK _)
   have HNX : Hid (∀ (v' : Value) (w2 : World) (o2 : Obj), w2.ownsRow w.heap.size 165 2 v' (k + 1) (lkcells (L.take k) ++ [.string layer, .int .i64 at_]) → (wr.alloc o2).drew.grownBy w2 vv.ownBlock → Tl w L c (k + 1) v' u (w2.setCell ⟨w.heap.size + 1, 0, none⟩ v') ∧ w2.cell? ⟨w.heap.size + 1, 0, none⟩ = some vv ∧ w2.frozen? ⟨w.heap.size + 1, 0, none⟩ = false ∧ w2.cell? ⟨g, 2, none⟩ = some u ∧ g < w2.heap.size) := fun v' w2 o2 ho hg => by
    have hn := TL.out.next (W1 := wr.drew) (o2 := o2) hgl hch2 (drew_grownK wr) ho ⟨hg.os, hg.tape, hg.output, hg.size, hg.block⟩
    have e1 := (hn.1.bel.cell (p := ⟨g, 2, none⟩) hg0.out).trans ((TL.out.bel.cell (p := ⟨g, 2, none⟩) hg0.out).symm.trans c2)
    have e3 := hn.1.bel.size
    have e4 : (w2.setCell ⟨w.heap.size + 1, 0, none⟩ v').heap.size = w2.heap.size := by simp
    have e5 : g < w2.heap.size := by have := hg0.out; omega
    have e2 : (w2.setCell ⟨w.heap.size + 1, 0, none⟩ v').cell? ⟨g, 2, none⟩ = w2.cell? ⟨g, 2, none⟩ := by
     simp only [World.cell?]
     rw [(grown_set w2 (w.heap.size + 1) 0 v').block g e5 (by have := hg0.out; simp; omega)]
    exact ⟨hn.1, hn.2.1, hn.2.2, e2.symm.trans e1, by have := hg0.out; omega⟩
   have HSW : Hid (w.heap.size ≤ wr.heap.size) := TL.out.bel.size
   clear htl hd hLk hgl hch2
   have ha := asrt_pp g
   go_wp2_with fail
   go_region_law (first
    | (refine step_append_ownK rfl (.tmp 30) (.tmp 40) 52 rfl w.heap.size 165 i0 _ 2 24 Tryz.underlying52 hi0 HZ0.out hz1 hz2 rfl (by decide) vv k (lkcells (L.take k)) (by simp [Act.eval]) (HOW.out _) ⟨wr.heap.size, 0, none⟩ 1 1 [.string layer, .int .i64 at_] (by simp [Act.eval]) rfl (cells_newD _ _ _) (by simp [Value.oneCell']) (by unfold maxLen; omega) (by omega) (Nat.le_trans HSW.out (by simp)) ?_; intro v' w2 ho hg2; obtain ⟨g', cap', rfl⟩ := ownsRow_succ ho; have hnx := HNX.out _ _ _ ho hg2; have NX := hide hnx.1; obtain ⟨-, y1, y2, y3, y4⟩ := hnx; clear ho hg2))
   all_goals clear c0 c1 c2 b0
   all_goals go_wp2
   all_goals go_roundw
   all_goals first
    | (case rel => exact ⟨k + 1, by omega, by go_num, _, NX.out⟩)
    | (case measure => simp [intOf]; omega)
    | skip
  ·obtain rfl : k = L.length := by omega
   have hch := htl.ch
   rw [List.drop_length] at hch
   have hch : u0 = .iface 76 (.int .i64 c) := hch
   subst hch
   obtain ⟨ao, cap, b, rfl, hfv⟩ := fv_row (L := L) (by have := htl.row; rw [List.take_length] at this; exact this) (by omega)
   have b0 := block_cell htl.box 0
   have b1 := block_cell htl.box 1
   have f1 := block_free htl.box 1
   have hbs := block_lt htl.box
   simp at b0 b1
   have ha := asrt_np c
   have ha2 := asrt_nn c
   obtain ⟨Z, z1, z2⟩ := htl.res
   have y0 : (wr.cell? ⟨w.heap.size, 0, none⟩).isSome = true := by rw [block_cell z1 0]; simp [z2]
   have y1 : (wr.cell? ⟨w.heap.size, 1, none⟩).isSome = true := by rw [block_cell z1 1]; simp [z2]
   obtain ⟨p0, hp0⟩ := Option.isSome_iff_exists.1 y0
   obtain ⟨p1, hp1⟩ := Option.isSome_iff_exists.1 y1
   have g0 := block_free z1 0
   have g1 := block_free z1 1
   have hbs0 := block_lt z1
   have HFV := hide hfv
   have HBL := hide htl.bel
   have hd1 : decide ((L.length : Int) > 0) = true := by simp; omega
   have hd2 : (c != 0) = true := by simpa using hc
   obtain ⟨W9, hW9⟩ : ∃ W9, wr.setCell ⟨w.heap.size + 1, 1, none⟩ (.int .i64 c) = W9 := ⟨_, rfl⟩
   have hbx : W9.heap[w.heap.size + 1]? = some (.cells #[.slice ao L.length cap, .int .i64 c] 54 (0, 0)) := by rw [← hW9, heap_setCell_same wr (w.heap.size + 1) 1 _ _ _ htl.box]; rfl
   have gs9 : wr.grownBy W9 (some (w.heap.size + 1)) := by rw [← hW9]; exact grown_set _ _ _ _
   have z9 := (gs9.block _ hbs0 (by simp)).trans z1
   have n0 := block_cell hbx 0
   have n1 := block_cell hbx 1
   simp at n0 n1
   have q0 : W9.cell? ⟨w.heap.size, 0, none⟩ = some p0 := (block_cell z9 0).trans ((block_cell z1 0).symm.trans hp0)
   have q1 : W9.cell? ⟨w.heap.size, 1, none⟩ = some p1 := (block_cell z9 1).trans ((block_cell z1 1).symm.trans hp1)
   have r0 := block_free z9 0
   have r1 := block_free z9 1
   have hb9 := block_lt hbx
   have hc9 := block_lt z9
   have HW9 := hide hW9
   have FIN : Hid (∀ x y, FV ((W9.setCell ⟨w.heap.size, 0, none⟩ x).setCell ⟨w.heap.size, 1, none⟩ y).heap.size ((W9.setCell ⟨w.heap.size, 0, none⟩ x).setCell ⟨w.heap.size, 1, none⟩ y) ao L b 0 ∧ Below w.heap.size w ((W9.setCell ⟨w.heap.size, 0, none⟩ x).setCell ⟨w.heap.size, 1, none⟩ y)) := fun x y => by
    have row := htl.row
    rw [List.take_length] at row
    have ne : ∀ (W : World) (j : Nat) (X : Array Value), W.ownsRow w.heap.size 165 2 (.slice ao L.length cap) L.length (lkcells L) → W.heap[j]? = some (.cells X 54 (0, 0)) → (Value.slice ao L.length cap).ownBlock ≠ some j := fun W j X hr hX e => by
     rcases hr.2 with ⟨e0, _⟩ | ⟨g', cap', cur, e0, _, hb, _⟩
     ·rw [e0] at e; cases e
     ·rw [e0] at e; cases e
      rw [hb] at hX
      cases hX
    have r9 := row.kept gs9 (.inr (ne wr _ _ row htl.box))
    have ra := r9.kept (grown_set W9 w.heap.size 0 x) (.inr (ne W9 _ _ r9 z9))
    have za := heap_setCell_same W9 w.heap.size 0 _ _ x z9
    have rb := ra.kept (grown_set _ w.heap.size 1 y) (.inr (ne _ _ _ ra za))
    obtain ⟨ao', cap', b', e, hf⟩ := fv_row rb (by omega)
    cases e
    have bel9 := HBL.out.grown gs9 HBL.out.size (fun k e => by cases e; omega)
    refine ⟨?_, (bel9.setCell (p := ⟨w.heap.size, 0, none⟩) (Nat.le_refl _) x).setCell (p := ⟨w.heap.size, 1, none⟩) (Nat.le_refl _) y⟩
    have hbb : b' = b := by
     have e1 := hf.ad h0
     have e2 := HFV.out.ad h0
     rw [e1] at e2
     cases e2
     rfl
    rw [hbb] at hf
    exact hf
   clear y0 y1 htl z1 z9 hbx gs9 hp0 hp1 g0 g1 hbs0
   clear hW9
   go_upto_region 20 with fail
   rw [HW9.out]
   clear b0 b1 f1 hbs
   go_region_held (fun V => V.cell? ⟨w.heap.size + 1, 0, none⟩ = some (.slice ao L.length cap) ∧ V.cell? ⟨w.heap.size + 1, 1, none⟩ = some (.int .i64 c)) (go_keep) (fail)
   all_goals go_wp2
   all_goals refine bodyPost_ret (v := .tuple #[.agg #[.slice ao L.length cap, .int .i64 c], .bool true]) (by simp [results, Tryz.results47, go_sem, q0, q1]) rfl ⟨ao, cap, rfl, b, ?_⟩
   all_goals
    have fin := FIN.out (.slice ao L.length cap) (.int .i64 c)
    exact ⟨fin.1.heapK rfl, ⟨fin.2.os, fin.2.tape, fin.2.output, fin.2.size, fin.2.block⟩⟩
end Go.Proofs.YtggpaljilpbmhaaGreatDoor
namespace Go.Proofs.YtggpaljilpbmhaaGreatDoor
open Go.RowKit

theorem FV.get {lim : Nat} {w : World} {ao : Option Addr} {L : List Lk} {b off : Nat} (h : FV lim w ao L b off) {k : Nat} (hk : k < L.length) : ∃ layer at_, L[k]? = some ⟨layer, at_⟩ ∧ ao = some ⟨b, off, none⟩ ∧ b < lim ∧ w.cell? ⟨b, off + k * 2, none⟩ = some (.string layer) ∧ w.cell? ⟨b, off + k * 2 + 1, none⟩ = some (.int .i64 at_) := by
 have hg : L[k]? = some L[k] := List.getElem?_eq_getElem hk
 obtain ⟨c0, c1⟩ := h.at_ k _ hg
 exact ⟨L[k].layer, L[k].at_, hg, h.ad (by omega), h.lt (by omega), c0, c1⟩

set_option maxRecDepth 10000 in
set_option maxHeartbeats 800000 in
theorem same0_any {w : World} {L : List Lk} {c : Int} {a1 a2 : Option Addr} {b1 o1 b2 o2 : Nat} (n1 n2 c1 c2 : Nat) (hn1 : L.length = n1) (hn2 : L.length = n2) (h1 : FV w.heap.size w a1 L b1 o1) (h2 : FV w.heap.size w a2 L b2 o2) :
  Calls Tryz.prog 48 #[.agg #[.slice a1 n1 c1, .int .i64 c], .agg #[.slice a2 n2 c2, .int .i64 c]] w fun e w' => e = .returned (.bool true) ∧ Hid (Below w.heap.size w w') := by
 subst hn1
 have hle := h1.le
 have hc : (c != c) = false := by simp
 have H1 := hide h1
 have H2 := hide h2
 have HN2 := hide hn2
 clear h1 h2
 obtain ⟨W0, hW0⟩ : ∃ W0, (w.alloc (.cells #[.slice a1 L.length c1, .int .i64 c] 54)).alloc (.cells #[.slice a2 n2 c2, .int .i64 c] 54) = W0 := ⟨_, rfl⟩
 have e1 : (w.alloc (.cells #[.slice a1 L.length c1, .int .i64 c] 54)).heap.size = w.heap.size + 1 := by simp
 have q1 : W0.heap[w.heap.size + 1]? = some (.cells #[.slice a2 n2 c2, .int .i64 c] 54 (0, 0)) := by rw [← hW0, ← e1]; exact alloc_atK _ _
 have q0 : W0.heap[w.heap.size]? = some (.cells #[.slice a1 L.length c1, .int .i64 c] 54 (0, 0)) := by rw [← hW0]; exact ((World.grownBy_alloc _ _ none).block _ (by rw [e1]; omega) (by simp)).trans (alloc_atK _ _)
 have b0 : Below w.heap.size w W0 := by rw [← hW0]; exact ((Below.refl _ w).alloc (Nat.le_refl _) _).alloc (by simp) _
 have Q0 := hide q0
 have Q1 := hide q1
 have B0 := hide b0
 have HW0 := hide hW0
 clear q0 q1 b0 hW0 e1
 subst hn2
 go_enter Tryz.func48, Tryz.ntmps48
 go_upto_region 1 with fail
 rw [HW0.out]
 have x0 := block_cell Q0.out 0
 have x1 := block_cell Q0.out 1
 have y0 := block_cell Q1.out 0
 have y1 := block_cell Q1.out 1
 have hb1 := block_lt Q1.out
 simp at x0 x1 y0 y1
 go_wp2
 go_loopw [5] (fun i wr => ∃ k : Nat, k ≤ L.length ∧ i = .int .i64 k ∧ Hid (Below W0.heap.size W0 wr)) (fun i _ => L.length - (intOf i).toNat)
 case atStart => exact ⟨0, by omega, rfl, Below.refl _ _⟩
 case round =>
  obtain ⟨k, hk, rfl, HS⟩ := hrel
  have HB : Hid (Below w.heap.size w wr) := B0.out.trans (HS.out.mono B0.out.size)
  have x0 : wr.cell? ⟨w.heap.size, 0, none⟩ = some (.slice a1 L.length c1) := (HS.out.cell (p := ⟨w.heap.size, 0, none⟩) (by simp; omega)).trans x0
  have y0 : wr.cell? ⟨w.heap.size + 1, 0, none⟩ = some (.slice a2 L.length c2) := (HS.out.cell (p := ⟨w.heap.size + 1, 0, none⟩) (by simpa using hb1)).trans y0
  have hbs : w.heap.size + 1 < wr.heap.size := Nat.lt_of_lt_of_le hb1 HS.out.size
  by_cases hlt : k < L.length
  ·obtain ⟨layer, at_, g1, e1, l1, p0, p1⟩ := (H1.out.below HB.out).get hlt
   obtain ⟨layer', at_', g2, e2, l2, r0, r1⟩ := (H2.out.below HB.out).get hlt
   rw [g1] at g2
   cases g2
   rw [e1] at x0
   rw [e2] at y0
   have hs1 : b1 < wr.heap.size := Nat.lt_of_lt_of_le l1 HB.out.size
   have hs2 : b2 < wr.heap.size := Nat.lt_of_lt_of_le l2 HB.out.size
   have ha : (at_ != at_) = false := by simp
   clear g1 e1 e2 l1 l2
   go_wp2_with fail
   go_quiet (fail)
   all_goals go_wp2
   all_goals exact ⟨⟨k + 1, by omega, by go_num, Go.below_drewN HS.out _⟩, by simp [intOf]; omega⟩
  ·obtain rfl : k = L.length := by omega
   go_wp2
   go_ret
   exact ⟨rfl, HB.out⟩
set_option maxRecDepth 10000 in
set_option maxHeartbeats 800000 in
/-- Is: an error against the refusal that it should be. -/
theorem is_any {w : World} {L : List Lk} {v : Value} {c : Int} {a : Option Addr} {b o : Nat} (n cp : Nat) (hn : L.length = n) (hv : (v = .nilIface ∧ L = [] ∧ c = 0) ∨ (Chain w.heap.size w L v c ∧ 0 < L.length ∧ L.length ≤ 11 ∧ c ≠ 0)) (hf : FV w.heap.size w a L b o) :
  Calls Tryz.prog 17 #[v, .agg #[.slice a n cp, .int .i64 c]] w fun e w' => e = .returned (.bool true) ∧ Hid (Below w.heap.size w w') := by
 obtain ⟨W0, hW0⟩ : ∃ W0, w.alloc (.cells #[.slice a n cp, .int .i64 c] 54) = W0 := ⟨_, rfl⟩
 have b0 : Below w.heap.size w W0 := by rw [← hW0]; exact (Below.refl _ w).alloc (Nat.le_refl _) _
 have q0 : W0.heap[w.heap.size]? = some (.cells #[.slice a n cp, .int .i64 c] 54 (0, 0)) := by rw [← hW0]; exact alloc_atK _ _
 have HT : Hid (Calls Tryz.prog 47 #[v] W0 fun e w' => ∃ ao cap, e = .returned (.tuple #[.agg #[.slice ao n cap, .int .i64 c], .bool true]) ∧ Hid (∃ b, FV w'.heap.size w' ao L b 0 ∧ Below W0.heap.size W0 w')) := by
  rw [← hn]
  rcases hv with ⟨rfl, rfl, rfl⟩ | ⟨h1, h2, h3, h4⟩
  ·exact (told0_nil W0).mono (fun _ _ h => ⟨none, 0, h.1, 0, FV.nil _ _ _ _ _, h.2⟩)
  ·exact told0_chain ((Chain.below b0 h1).wide b0.size) h2 h3 h4
 have HF := hide hf
 have B0 := hide b0
 have Q0 := hide q0
 have HW0 := hide hW0
 clear hv hf b0 q0 hW0
 go_enter Tryz.func17, Tryz.ntmps17
 go_wp2_with fail
 rw [HW0.out]
 clear HW0
 refine HT.out.mono ?_
 rintro e w1 ⟨ao, cap, rfl, G⟩
 obtain ⟨b', hf', hb1⟩ := G.out
 have HF1 := hide ((HF.out.below (B0.out.trans (hb1.mono B0.out.size))).wide (Nat.le_trans B0.out.size hb1.size))
 have HF2 := hide hf'
 have B1 := hide (B0.out.trans (hb1.mono B0.out.size))
 have q1 := (hb1.block _ (block_lt Q0.out)).trans Q0.out
 have x0 := block_cell q1 0
 have x1 := block_cell q1 1
 have hl := block_lt q1
 simp at x0 x1
 have HSM : Hid (∀ o, Calls Tryz.prog 48 #[.agg #[.slice a n cp, .int .i64 c], .agg #[.slice ao n cap, .int .i64 c]] (w1.alloc o) fun e w' => e = .returned (.bool true) ∧ Hid (Below w.heap.size w w')) := fun o => by
  have bo : Below w1.heap.size w1 (w1.alloc o) := (Below.refl _ w1).alloc (Nat.le_refl _) o
  refine (same0_any (w := w1.alloc o) (c := c) n n cp cap hn hn ((HF1.out.below bo).wide bo.size) ((HF2.out.below bo).wide bo.size)).mono (fun _ _ h => ⟨h.1, ?_⟩)
  exact B1.out.trans ((bo.trans (h.2.out.mono bo.size)).mono B1.out.size)
 clear q1 hf' hb1 G HT
 go_wp2_with fail
 refine (HSM.out _).mono ?_
 rintro e w2 ⟨rfl, hb2⟩
 go_wp2
 go_ret
 exact ⟨rfl, hb2.out⟩
end Go.Proofs.YtggpaljilpbmhaaGreatDoor
namespace Go.Proofs.YtggpaljilpbmhaaGreatDoor
open Go.RowKit

/-- A refusal that a function hands out. -/
def FvP (w : World) (L : List Lk) (c : Int) (e : Ending) (w' : World) : Prop := ∃ ao cap, e = .returned (.agg #[.slice ao L.length cap, .int .i64 c]) ∧ Hid (∃ b off, FV w'.heap.size w' ao L b off ∧ Below w.heap.size w w')
theorem fv_one {w : World} {g : Nat} {l : Lk} (h0 : w.cell? ⟨g, 0, none⟩ = some (.string l.layer)) (h1 : w.cell? ⟨g, 1, none⟩ = some (.int .i64 l.at_)) : FV w.heap.size w (some ⟨g, 0, none⟩) [l] g 0 := by
 have hlt : g < w.heap.size := by
  rcases Nat.lt_or_ge g w.heap.size with h | h
  ·exact h
  ·simp [World.cell?, Array.getElem?_eq_none h] at h0
 refine ⟨fun _ => rfl, fun _ => hlt, by simp, fun i x hx => ?_⟩
 have hi := (List.getElem?_eq_some_iff.1 hx).1
 obtain rfl : i = 0 := by simpa using hi
 cases hx
 exact ⟨h0, h1⟩
set_option maxRecDepth 10000 in
set_option maxHeartbeats 800000 in
theorem new0 (layer : ByteArray) (at_ c : Int) (w : World) : Calls Tryz.prog 98 #[.string layer, .int .i64 at_, .int .i64 c] w (FvP w [⟨layer, at_⟩] c) := by
 unfold FvP
 go_enter Tryz.func98, Tryz.ntmps98
 go_wp2
 refine bodyPost_ret (v := .agg #[.slice (some ⟨w.heap.size + 1, 0, none⟩) 1 1, .int .i64 c]) (by simp [results, Tryz.results98, go_sem]) rfl ⟨some ⟨w.heap.size + 1, 0, none⟩, 1, rfl, w.heap.size + 1, 0, ?_, ?_⟩
 ·have e1 : (w.alloc (.cells #[.slice (some ⟨w.heap.size + 1, 0, none⟩) 1 1, .int .i64 c] 54)).heap.size = w.heap.size + 1 := by simp
  have q0 := World.cell?_alloc_new (w.alloc (.cells #[.slice (some ⟨w.heap.size + 1, 0, none⟩) 1 1, .int .i64 c] 54)) #[.string layer, .int .i64 at_] 165 0
  have q1 := World.cell?_alloc_new (w.alloc (.cells #[.slice (some ⟨w.heap.size + 1, 0, none⟩) 1 1, .int .i64 c] 54)) #[.string layer, .int .i64 at_] 165 1
  rw [e1] at q0 q1
  exact fv_one q0 q1
 ·exact ((Below.refl _ w).alloc (Nat.le_refl _) _).alloc (by simp) _
end Go.Proofs.YtggpaljilpbmhaaGreatDoor
