import Derived.Test.YtmoklddfaocihaaDoorV04
import Derived.RangeFuncBox
import Derived.Deep.Cut
namespace Go.Proofs.YtmoklddfaocihaaDoor
open Go.RowKit

theorem cells_newK (W : World) (cs : List Value) (t : TypeId) : ∀ (j : Nat) (u : Value), cs[j]? = some u → (W.alloc (.cells cs.toArray t)).cell? (Addr.add ⟨W.heap.size, 0, none⟩ j) = some u := by
 intro j u hu
 have := World.cell?_alloc_new W cs.toArray t j
 have he : Addr.add ⟨W.heap.size, 0, none⟩ j = ⟨W.heap.size, j, none⟩ := by
  simp only [Addr.add]
  split <;> simp_all
 rw [he, this]
 simpa using hu
theorem cells_newD (W : World) (cs : List Value) (t : TypeId) : ∀ (j : Nat) (u : Value), cs[j]? = some u → (W.alloc (.cells cs.toArray t)).drew.cell? (Addr.add ⟨W.heap.size, 0, none⟩ j) = some u := cells_newK W cs t
theorem alloc_atK (w : World) (o : Obj) : (w.alloc o).heap[w.heap.size]? = some o := by simp [World.alloc, -World.alloc_eq]
theorem asrt_pp (g : Nat) (w : World) : (Instr.typeAssert (.iface 96 (.pointer (some ⟨g, 0, none⟩))) 35 96 true).run Tryd.prog w = .ok (.tuple #[.pointer (some ⟨g, 0, none⟩), .bool true]) w := by kernel_rfl
theorem asrt_np (n : Int) (w : World) : (Instr.typeAssert (.iface 98 (.int .i64 n)) 35 96 true).run Tryd.prog w = .ok (.tuple #[.pointer none, .bool false]) w := by kernel_rfl
theorem asrt_nn (n : Int) (w : World) : (Instr.typeAssert (.iface 98 (.int .i64 n)) 35 98 true).run Tryd.prog w = .ok (.tuple #[.int .i64 n, .bool true]) w := by kernel_rfl
theorem step_append_ownK {P : Program} {ops : Array Oper} {o : Oper} {a : Act} {w : World} {K : Act → World → Prop} {Q : Exit → Act → World → Prop} {E : Prop}
  (hgd : o.guard = none) (s x : Operand) (t : TypeId) (ho : o.op = .call { callee := .builtin .append, args := #[s, x], argTypes := #[t, t] })
  (base : Nat) (e : TypeId) (i : TypeInfo) (z : Value) (size bytes : Nat) (ht : P.underlying t = some (.slice e)) (hi : P.info? e = some i) (hz : i.zero = some z)
  (hsize : i.size = size) (hby : i.bytes = bytes) (hzs : z.cells.size = size) (hsz : 0 < size)
  (v : Value) (n : Nat) (xs : List Value) (hs : a.eval s = v) (hown : w.ownsRow base e size v n xs)
  (ad : Addr) (m c : Nat) (news : List Value) (hx : a.eval x = .slice (some ad) m c) (hl : news.length = m * size) (hnews : ∀ j u, news[j]? = some u → w.cell? (ad.add j) = some u) (h1 : ∀ u ∈ news, u.oneCell' = true)
  (h63 : n + m ≤ maxLen) (hbytes : (n + m) * bytes ≤ 140737488355328) (hbase : base ≤ w.heap.size)
  (h : ∀ v' w', w'.ownsRow base e size v' (n + m) (xs ++ news) → w.grownBy w' v.ownBlock → K (a.put o.dst v') w') :
  if Region.wanted o (yielded ops a.tmps) = true then Oper.wp P o a w K Q else E := by
 have hw : Region.wanted o (yielded ops a.tmps) = true := by simp [Region.wanted, hgd]
 rw [if_pos hw]
 exact wp_append_own w s x t ho base e i z size bytes ht hi hz hsize hby hzs hsz v n xs hs hown ad m c news hx hl hnews h1 h63 hbytes hbase (fun v' w' h2 h3 _ => h v' w' h2 h3)
theorem FV.heapK {lim : Nat} {w w' : World} {ao : Option Addr} {L : List Lk} {b off : Nat} (h : FV lim w ao L b off) (e : w'.heap = w.heap) : FV lim w' ao L b off := ⟨h.ad, h.lt, h.le, fun i l hl => by simp only [World.cell?, e]; exact h.at_ i l hl⟩
theorem drew_grownK (w : World) : w.grownBy w.drew none := ⟨rfl, rfl, rfl, Nat.le_refl _, fun _ _ _ => rfl⟩
theorem tl_new (w : World) {L : List Lk} {v : Value} {c : Int} (h : Chain w.heap.size w L v c) : Tl w L c 0 (.slice none 0 0) v ((w.alloc (.cells #[.slice none 0 0, .int .i64 0] 30)).alloc (.cells #[.slice none 0 0, .int .i64 0] 30)) := by
 have e1 : (w.alloc (.cells #[.slice none 0 0, .int .i64 0] 30)).heap.size = w.heap.size + 1 := by simp
 have bel : Below w.heap.size w ((w.alloc (.cells #[.slice none 0 0, .int .i64 0] 30)).alloc (.cells #[.slice none 0 0, .int .i64 0] 30)) := ((Below.refl _ w).alloc (Nat.le_refl _) _).alloc (by simp) _
 refine ⟨bel, ⟨_, ((World.grownBy_alloc _ _ none).block _ (by rw [e1]; omega) (by simp)).trans (alloc_atK _ _), rfl⟩, ?_, World.ownsRow_nil _ _ _ _, Chain.below bel h⟩
 rw [← e1]
 exact alloc_atK _ _
/-- The answer of Told. -/
def ToldP (w : World) (L : List Lk) (c : Int) (e : Ending) (w' : World) : Prop := ∃ ao cap, e = .returned (.tuple #[.agg #[.slice ao L.length cap, .int .i64 c], .bool true]) ∧ Hid (∃ b, FV w'.heap.size w' ao L b 0 ∧ Below w.heap.size w w')

set_option maxRecDepth 10000 in
set_option maxHeartbeats 1600000 in
theorem told0_chain {w : World} {L : List Lk} {v : Value} {c : Int} (h : Chain w.heap.size w L v c) (h0 : 0 < L.length) (hl : L.length ≤ 11) (hc : c ≠ 0) : Calls Tryd.prog 34 #[v] w (ToldP w L c) := by
 obtain ⟨i0, hi0, hz0, hz1, hz2⟩ := info_parts infoLink
 have HZ0 := hide hz0
 clear hz0
 have HT0 := hide (tl_new w h)
 unfold ToldP
 clear h
 go_enter Tryd.func34, Tryd.ntmps34
 go_wp2
 go_loopw [0, 5] (fun u i wr => ∃ k : Nat, k ≤ L.length ∧ i = .int .i64 k ∧ Hid (∃ v, Tl w L c k v u wr)) (fun _ i _ => 12 - (intOf i).toNat)
 case atStart => exact ⟨0, by omega, rfl, _, HT0.out⟩
 case round =>
  obtain ⟨k, hk, rfl, HS⟩ := hrel
  obtain ⟨vv, htl⟩ := HS.out
  have TL := hide htl
  clear HS HT0
  by_cases hlt : k < L.length
  ·have hch := htl.ch
   have hd := List.drop_eq_getElem_cons hlt
   rw [hd] at hch
   obtain ⟨g, u, rfl, hg, c0, c1, c2, hch2⟩ := hch
   have hg0 := hide hg
   have hgl : L[k]? = some L[k] := List.getElem?_eq_getElem hlt
   obtain ⟨layer, at_, hLk⟩ : ∃ layer at_, L[k] = ⟨layer, at_⟩ := ⟨_, _, rfl⟩
   rw [hLk] at c0 c1 hgl
   simp only at c0 c1
   have b0 := block_cell htl.box 0
   have hbs := block_lt htl.box
   simp at b0
   have hgw : g < wr.heap.size := Nat.lt_of_lt_of_le hg htl.bel.size
   have HOW : Hid (∀ o, (wr.alloc o).drew.ownsRow w.heap.size 131 2 vv k (lkcells (L.take k))) := fun o => row_quietT (row_quietT TL.out.row (World.grownBy_alloc wr o none)) (drew_grownK _)
   have HNX : Hid (∀ (v' : Value) (w2 : World) (o2 : Obj), w2.ownsRow w.heap.size 131 2 v' (k + 1) (lkcells (L.take k) ++ [.string layer, .int .i64 at_]) → (wr.alloc o2).drew.grownBy w2 vv.ownBlock → Tl w L c (k + 1) v' u (w2.setCell ⟨w.heap.size + 1, 0, none⟩ v') ∧ w2.cell? ⟨w.heap.size + 1, 0, none⟩ = some vv ∧ w2.frozen? ⟨w.heap.size + 1, 0, none⟩ = false ∧ w2.cell? ⟨g, 2, none⟩ = some u ∧ g < w2.heap.size) := fun v' w2 o2 ho hg => by
    have hn := TL.out.next (W1 := wr.drew) (o2 := o2) hgl hch2 (drew_grownK wr) ho ⟨hg.os, hg.tape, hg.output, hg.size, hg.block⟩
    have e1 := (hn.1.bel.cell (p := ⟨g, 2, none⟩) hg0.out).trans ((TL.out.bel.cell (p := ⟨g, 2, none⟩) hg0.out).symm.trans c2)
    have e3 := hn.1.bel.size
    have e4 : (w2.setCell ⟨w.heap.size + 1, 0, none⟩ v').heap.size = w2.heap.size := by simp
    have e5 : g < w2.heap.size := by have := hg0.out; omega
    have e2 : (w2.setCell ⟨w.heap.size + 1, 0, none⟩ v').cell? ⟨g, 2, none⟩ = w2.cell? ⟨g, 2, none⟩ := by
     simp only [World.cell?]
     rw [(grown_set w2 (w.heap.size + 1) 0 v').block g e5 (by have := hg0.out; simp; omega)]
    exact ⟨hn.1, hn.2.1, hn.2.2, e2.symm.trans e1, by have := hg0.out; omega⟩
   have HSW : Hid (w.heap.size ≤ wr.heap.size) := TL.out.bel.size
   clear htl hd hLk hgl hch2
   have ha := asrt_pp g
   go_wp2_with fail
   go_region_law (first
    | (refine step_append_ownK rfl (.tmp 30) (.tmp 40) 28 rfl w.heap.size 131 i0 _ 2 24 Tryd.underlying28 hi0 HZ0.out hz1 hz2 rfl (by decide) vv k (lkcells (L.take k)) (by simp [Act.eval]) (HOW.out _) ⟨wr.heap.size, 0, none⟩ 1 1 [.string layer, .int .i64 at_] (by simp [Act.eval]) rfl (cells_newD _ _ _) (by simp [Value.oneCell']) (by unfold maxLen; omega) (by omega) (Nat.le_trans HSW.out (by simp)) ?_; intro v' w2 ho hg2; obtain ⟨g', cap', rfl⟩ := ownsRow_succ ho; have hnx := HNX.out _ _ _ ho hg2; have NX := hide hnx.1; obtain ⟨-, y1, y2, y3, y4⟩ := hnx; clear ho hg2))
   all_goals clear c0 c1 c2 b0
   all_goals go_wp2
   all_goals go_roundw
   all_goals first
    | (case rel => exact ⟨k + 1, by omega, by go_num, _, NX.out⟩)
    | (case measure => simp [intOf]; omega)
    | skip
  ·obtain rfl : k = L.length := by omega
   have hch := htl.ch
   rw [List.drop_length] at hch
   have hch : u0 = .iface 98 (.int .i64 c) := hch
   subst hch
   obtain ⟨ao, cap, b, rfl, hfv⟩ := fv_row (L := L) (by have := htl.row; rw [List.take_length] at this; exact this) (by omega)
   have b0 := block_cell htl.box 0
   have b1 := block_cell htl.box 1
   have f1 := block_free htl.box 1
   have hbs := block_lt htl.box
   simp at b0 b1
   have ha := asrt_np c
   have ha2 := asrt_nn c
   obtain ⟨Z, z1, z2⟩ := htl.res
   have y0 : (wr.cell? ⟨w.heap.size, 0, none⟩).isSome = true := by rw [block_cell z1 0]; simp [z2]
   have y1 : (wr.cell? ⟨w.heap.size, 1, none⟩).isSome = true := by rw [block_cell z1 1]; simp [z2]
   obtain ⟨p0, hp0⟩ := Option.isSome_iff_exists.1 y0
   obtain ⟨p1, hp1⟩ := Option.isSome_iff_exists.1 y1
   have g0 := block_free z1 0
   have g1 := block_free z1 1
   have hbs0 := block_lt z1
   have HFV := hide hfv
   have HBL := hide htl.bel
   have hd1 : decide ((L.length : Int) > 0) = true := by simp; omega
   have hd2 : (c != 0) = true := by simpa using hc
   obtain ⟨W9, hW9⟩ : ∃ W9, wr.setCell ⟨w.heap.size + 1, 1, none⟩ (.int .i64 c) = W9 := ⟨_, rfl⟩
   have hbx : W9.heap[w.heap.size + 1]? = some (.cells #[.slice ao L.length cap, .int .i64 c] 30 (0, 0)) := by rw [← hW9, heap_setCell_same wr (w.heap.size + 1) 1 _ _ _ htl.box]; rfl
   have gs9 : wr.grownBy W9 (some (w.heap.size + 1)) := by rw [← hW9]; exact grown_set _ _ _ _
   have z9 := (gs9.block _ hbs0 (by simp)).trans z1
   have n0 := block_cell hbx 0
   have n1 := block_cell hbx 1
   simp at n0 n1
   have q0 : W9.cell? ⟨w.heap.size, 0, none⟩ = some p0 := (block_cell z9 0).trans ((block_cell z1 0).symm.trans hp0)
   have q1 : W9.cell? ⟨w.heap.size, 1, none⟩ = some p1 := (block_cell z9 1).trans ((block_cell z1 1).symm.trans hp1)
   have r0 := block_free z9 0
   have r1 := block_free z9 1
   have hb9 := block_lt hbx
   have hc9 := block_lt z9
   have HW9 := hide hW9
   have FIN : Hid (∀ x y, FV ((W9.setCell ⟨w.heap.size, 0, none⟩ x).setCell ⟨w.heap.size, 1, none⟩ y).heap.size ((W9.setCell ⟨w.heap.size, 0, none⟩ x).setCell ⟨w.heap.size, 1, none⟩ y) ao L b 0 ∧ Below w.heap.size w ((W9.setCell ⟨w.heap.size, 0, none⟩ x).setCell ⟨w.heap.size, 1, none⟩ y)) := fun x y => by
    have row := htl.row
    rw [List.take_length] at row
    have ne : ∀ (W : World) (j : Nat) (X : Array Value), W.ownsRow w.heap.size 131 2 (.slice ao L.length cap) L.length (lkcells L) → W.heap[j]? = some (.cells X 30 (0, 0)) → (Value.slice ao L.length cap).ownBlock ≠ some j := fun W j X hr hX e => by
     rcases hr.2 with ⟨e0, _⟩ | ⟨g', cap', cur, e0, _, hb, _⟩
     ·rw [e0] at e; cases e
     ·rw [e0] at e; cases e
      rw [hb] at hX
      cases hX
    have r9 := row.kept gs9 (.inr (ne wr _ _ row htl.box))
    have ra := r9.kept (grown_set W9 w.heap.size 0 x) (.inr (ne W9 _ _ r9 z9))
    have za := heap_setCell_same W9 w.heap.size 0 _ _ x z9
    have rb := ra.kept (grown_set _ w.heap.size 1 y) (.inr (ne _ _ _ ra za))
    obtain ⟨ao', cap', b', e, hf⟩ := fv_row rb (by omega)
    cases e
    have bel9 := HBL.out.grown gs9 HBL.out.size (fun k e => by cases e; omega)
    refine ⟨?_, (bel9.setCell (p := ⟨w.heap.size, 0, none⟩) (Nat.le_refl _) x).setCell (p := ⟨w.heap.size, 1, none⟩) (Nat.le_refl _) y⟩
    have hbb : b' = b := by
     have e1 := hf.ad h0
     have e2 := HFV.out.ad h0
     rw [e1] at e2
     cases e2
     rfl
    rw [hbb] at hf
    exact hf
   clear y0 y1 htl z1 z9 hbx gs9 hp0 hp1 g0 g1 hbs0
   clear hW9
   go_upto_region 20 with fail
   rw [HW9.out]
   clear b0 b1 f1 hbs
   go_region_held (fun V => V.cell? ⟨w.heap.size + 1, 0, none⟩ = some (.slice ao L.length cap) ∧ V.cell? ⟨w.heap.size + 1, 1, none⟩ = some (.int .i64 c)) (go_keep) (fail)
   all_goals go_wp2
   all_goals refine bodyPost_ret (v := .tuple #[.agg #[.slice ao L.length cap, .int .i64 c], .bool true]) (by simp [results, Tryd.results34, go_sem, q0, q1]) rfl ⟨ao, cap, rfl, b, ?_⟩
   all_goals
    have fin := FIN.out (.slice ao L.length cap) (.int .i64 c)
    exact ⟨fin.1.heapK rfl, ⟨fin.2.os, fin.2.tape, fin.2.output, fin.2.size, fin.2.block⟩⟩
end Go.Proofs.YtmoklddfaocihaaDoor
