import Derived.Test.YtggpaljilpbmhaaGreatDoorZ13
import Derived.BigQuiet
namespace Go.Proofs.YtggpaljilpbmhaaGreatDoor
open Go.RowKit

/-- A list of kinds that lies in a block of ints. -/
def KI (w : World) (v : Value) (l : List Bool) : Prop := ∃ ao cap, v = .slice ao l.length cap ∧ l.length ≤ cap ∧ (0 < l.length → ∃ (b : Nat) (cs : Array Value), ao = some ⟨b, 0, none⟩ ∧ w.heap[b]? = some (.cells cs 3 (0, 0)) ∧ ∀ (j : Nat) (x : Bool), l[j]? = some x → cs[j]? = some (iv x))
theorem KI.nil (w : World) : KI w (.slice none 0 0) [] := ⟨none, 0, rfl, Nat.le_refl _, fun h => by simp at h⟩
theorem KI.kept {w w' : World} {v : Value} {l : List Bool} (h : KI w v l) (hb : ∀ (b : Nat) (cs : Array Value), w.heap[b]? = some (.cells cs 3 (0, 0)) → w'.heap[b]? = w.heap[b]?) : KI w' v l := by
 obtain ⟨ao, cap, h1, h2, h3⟩ := h
 refine ⟨ao, cap, h1, h2, fun e => ?_⟩
 obtain ⟨b, cs, e1, e2, e3⟩ := h3 e
 exact ⟨b, cs, e1, (hb b cs e2).trans e2, e3⟩
theorem KI.below {w w' : World} {v : Value} {l : List Bool} (h : KI w v l) (hb : Below w.heap.size w w') : KI w' v l := h.kept (fun b _ e => hb.block b (block_lt e))
theorem KI.own {base : Nat} {w : World} {v : Value} {l : List Bool} (h : w.ownsRow base 3 1 v l.length (l.map iv)) : KI w v l := by
 rcases h.2 with ⟨h1, h0⟩ | ⟨g, cap, cur, h1, hb, hc, hnc, _, hsz, htk⟩
 ·have : l = [] := List.eq_nil_of_length_eq_zero h0
  subst this
  rw [h1]
  exact KI.nil w
 ·refine ⟨_, cap, h1, hnc, fun _ => ⟨g, _, rfl, hc, fun j x hx => ?_⟩⟩
  have hj := (List.getElem?_eq_some_iff.1 hx).1
  have h2 : (l.map iv)[j]? = some (iv x) := by rw [List.getElem?_map, hx]; rfl
  rw [← htk, List.getElem?_take, if_pos (by omega)] at h2
  simpa using h2
theorem KI.cell {w : World} {ao : Option Addr} {n cap : Nat} {l : List Bool} (h : KI w (.slice ao n cap) l) : n = l.length ∧ l.length ≤ cap ∧ (0 < l.length → ∃ b, ao = some ⟨b, 0, none⟩ ∧ b < w.heap.size ∧ ∀ (j : Nat) (x : Bool), l[j]? = some x → w.cell? ⟨b, j, none⟩ = some (iv x)) := by
 obtain ⟨ao', cap', h1, h2, h3⟩ := h
 cases h1
 refine ⟨rfl, h2, fun e => ?_⟩
 obtain ⟨b, cs, e1, e2, e3⟩ := h3 e
 exact ⟨b, e1, block_lt e2, fun j x hx => (block_cell e2 j).trans (e3 j x hx)⟩
theorem KI.val {w : World} {v : Value} {l : List Bool} (h : KI w v l) : ∃ ao cap, v = .slice ao l.length cap := by
 obtain ⟨ao, cap, h1, _⟩ := h
 exact ⟨ao, cap, h1⟩
theorem KI.take {w : World} {ao : Option Addr} {cap : Nat} {l : List Bool} (h : KI w (.slice ao l.length cap) l) (r : Nat) (hr : r ≤ l.length) : KI w (.slice ao r cap) (l.take r) := by
 obtain ⟨ao', cap', h1, h2, h3⟩ := h
 cases h1
 refine ⟨ao, cap, by rw [List.length_take, Nat.min_eq_left hr], by rw [List.length_take]; omega, fun e => ?_⟩
 rw [List.length_take] at e
 obtain ⟨b, cs, e1, e2, e3⟩ := h3 (by omega)
 refine ⟨b, cs, e1, e2, fun j x hx => e3 j x ?_⟩
 rw [List.getElem?_take] at hx
 split at hx
 ·exact hx
 ·cases hx
set_option maxRecDepth 10000 in
set_option maxHeartbeats 1600000 in
theorem copyR {W : World} {v : Value} {l : List Bool} (h : KI W v l) (hl : l.length ≤ 2048) : Calls Tryz.prog 27 #[v] W fun e w' => ∃ v', e = .returned v' ∧ Hid (w'.ownsRow W.heap.size 3 1 v' l.length (l.map iv) ∧ Below W.heap.size W w') := by
 obtain ⟨i0, hi, hz0, hz1, hz2⟩ := info_parts Tryz.infoI
 obtain ⟨ao, cap, rfl⟩ := h.val
 have hcap := h.cell.2.1
 have HK := hide h.cell.2.2
 clear h
 go_enter Tryz.func27, Tryz.ntmps27
 go_upto_region 3 with fail
 go_loopw [3, 4] (fun v i wr => ∃ j : Nat, j ≤ l.length ∧ i = .int .i64 (j : Nat) ∧ Hid (wr.ownsRow W.heap.size 3 1 v j ((l.take j).map iv) ∧ Below W.heap.size W wr)) (fun _ i _ => l.length - (intOf i).toNat)
 case atStart => exact ⟨0, by omega, rfl, World.ownsRow_nil _ _ _ _, Below.refl _ _⟩
 case round =>
  obtain ⟨j, hj, rfl, HJ⟩ := hrel
  by_cases hlt : j < l.length
  ·obtain ⟨b, hao, hbl, hc⟩ := HK.out (by omega)
   obtain ⟨x, hx⟩ : ∃ x, l[j]? = some x := ⟨_, List.getElem?_eq_getElem hlt⟩
   have hv := hc j x hx
   have hv2 : wr.cell? ⟨b, j, none⟩ = some (iv x) := (HJ.out.2.cell (p := ⟨b, j, none⟩) hbl).trans hv
   have hbl2 : b < wr.heap.size := Nat.lt_of_lt_of_le hbl HJ.out.2.size
   have HOW : Hid (∀ o, (wr.alloc o).ownsRow W.heap.size 3 1 u3 j ((l.take j).map iv)) := fun o => row_quietT HJ.out.1 (World.grownBy_alloc _ _ none)
   have HSZ : Hid (∀ o, W.heap.size ≤ (wr.alloc o).heap.size) := fun o => by
    have := HJ.out.2.size
    simp
    omega
   have HNX : Hid (∀ o v' w', w'.ownsRow W.heap.size 3 1 v' (j + 1) ((l.take j).map iv ++ [iv x]) → (wr.alloc o).grownBy w' u3.ownBlock → w'.ownsRow W.heap.size 3 1 v' (j + 1) ((l.take (j + 1)).map iv) ∧ Below W.heap.size W w') := fun o v' w' h1 h2 => by
    refine ⟨?_, ?_⟩
    ·rw [List.take_add_one, hx, List.map_append]; exact h1
    ·exact (HJ.out.2.alloc HJ.out.2.size o).grown h2 (HSZ.out o) (fun g e => (HJ.out.1.lt g e).1)
   subst hao
   clear HJ HK hc hv
   unfold iv at hv2
   go_wp2_with (at_builtin; refine wpList_append_own _ rfl (.tmp 11) (.tmp 16) 23 rfl W.heap.size 3 i0 (.int .i64 0) 1 8 Tryz.underlying23 hi hz0 hz1 hz2 rfl (by decide) u3 j _ rfl (HOW.out _) ⟨wr.heap.size, 0, none⟩ 1 1 [iv x] rfl rfl (cell_one_new _ _ _) (by simp [Value.oneCell', iv]) (by unfold maxLen; omega) (by omega) (HSZ.out _) ?_; intro v' w5 ho hg _)
   have HN := hide (HNX.out _ _ _ ho hg)
   clear ho hg
   go_roundw
   case rel => exact ⟨j + 1, by omega, by go_num, HN.out⟩
   case measure => simp [intOf]; omega
  ·obtain rfl : j = l.length := by omega
   have hrow := HJ.out
   rw [List.take_length] at hrow
   have HD := hide hrow
   clear hrow HJ HK
   go_wp2
   go_ret
   exact ⟨_, rfl, HD⟩
theorem iv_ne (a b : Bool) : ((if a then (1 : Int) else 0) != (if b then 1 else 0)) = (a != b) := by cases a <;> cases b <;> rfl
set_option maxRecDepth 10000 in
set_option maxHeartbeats 1600000 in
theorem sameR {W : World} {v u : Value} {l m : List Bool} (h : KI W v l) (h2 : KI W u m) (hl : l.length ≤ 2048) (hm : m.length ≤ 2048) : Calls Tryz.prog 212 #[v, u] W fun e w' => e = .returned (.bool (decide (l = m))) ∧ Hid (Below W.heap.size W w') := by
 obtain ⟨ao, cap, rfl⟩ := h.val
 obtain ⟨bo, cap2, rfl⟩ := h2.val
 have hcap := h.cell.2.1
 have HK := hide h.cell.2.2
 have hcap2 := h2.cell.2.1
 have HK2 := hide h2.cell.2.2
 clear h h2
 obtain ⟨r, hr⟩ : ∃ r, decide (l = m) = r := ⟨_, rfl⟩
 rw [hr]
 have HR := hide hr
 clear hr
 go_enter Tryz.func212, Tryz.ntmps212
 by_cases hle : l.length = m.length
 ·have HLE := hide hle
  have e1 : ((l.length : Int) != (m.length : Int)) = false := by simp [hle]
  clear hle
  go_upto_region 4 with fail
  go_loopw [5] (fun i wr => ∃ j : Nat, j ≤ l.length ∧ i = .int .i64 (j : Nat) ∧ Hid (l.take j = m.take j ∧ Below W.heap.size W wr)) (fun i _ => l.length - (intOf i).toNat)
  case atStart => exact ⟨0, by omega, rfl, rfl, Below.refl _ _⟩
  case round =>
   obtain ⟨j, hj, rfl, HJ⟩ := hrel
   by_cases hlt : j < l.length
   ·obtain ⟨b, hao, hbl, hc⟩ := HK.out (by omega)
    have hlm : j < m.length := HLE.out ▸ hlt
    obtain ⟨b2, hbo, hbl2, hc2⟩ := HK2.out (by omega)
    obtain ⟨x, hx⟩ : ∃ x, l[j]? = some x := ⟨_, List.getElem?_eq_getElem hlt⟩
    obtain ⟨y, hy⟩ : ∃ y, m[j]? = some y := ⟨_, List.getElem?_eq_getElem hlm⟩
    have hv : wr.cell? ⟨b, j, none⟩ = some (iv x) := (HJ.out.2.cell (p := ⟨b, j, none⟩) hbl).trans (hc j x hx)
    have hv2 : wr.cell? ⟨b2, j, none⟩ = some (iv y) := (HJ.out.2.cell (p := ⟨b2, j, none⟩) hbl2).trans (hc2 j y hy)
    have hbw : b < wr.heap.size := Nat.lt_of_lt_of_le hbl HJ.out.2.size
    have hbw2 : b2 < wr.heap.size := Nat.lt_of_lt_of_le hbl2 HJ.out.2.size
    have HB := hide HJ.out.2
    have HT := hide HJ.out.1
    have HX := hide hx
    have HY := hide hy
    subst hao
    subst hbo
    clear HJ HK HK2 hc hc2 hbl hbl2 hx hy
    unfold iv at hv hv2
    have hne := iv_ne x y
    generalize (if x = true then (1 : Int) else 0) = xi at *
    generalize (if y = true then (1 : Int) else 0) = yi at *
    by_cases hxy : x = y
    ·have HD : Hid (l.take (j + 1) = m.take (j + 1) ∧ Below W.heap.size W wr.drew) := ⟨by rw [List.take_add_one, List.take_add_one, HX.out, HY.out, HT.out, hxy], HB.out.drew⟩
     have e2 : (xi != yi) = false := by rw [hne]; simpa using hxy
     clear hne
     go_upto_region 6 with fail
     go_region
     go_wp2
     go_roundw
     case rel => exact ⟨j + 1, by omega, by go_num, HD.out⟩
     case measure => simp [intOf]; omega
    ·have hr : r = false := by
      rw [← HR.out]
      refine decide_eq_false (fun e => hxy ?_)
      have := HX.out
      rw [e, HY.out] at this
      cases this
      rfl
     subst hr
     have e2 : (xi != yi) = true := by rw [hne]; simpa using hxy
     clear hne
     go_upto_region 6 with fail
     go_region
     go_wp2
     go_ret
     exact ⟨rfl, HB.out.drew⟩
   ·obtain rfl : j = l.length := by omega
    have hr : r = true := by
     rw [← HR.out]
     refine decide_eq_true ?_
     have := HJ.out.1
     rwa [List.take_length, HLE.out, List.take_length] at this
    subst hr
    have HB := hide HJ.out.2
    clear HJ HK HK2
    go_wp2
    go_ret
    exact ⟨rfl, HB⟩
 ·have e1 : ((l.length : Int) != (m.length : Int)) = true := by simp; omega
  have hr : r = false := by rw [← HR.out]; exact decide_eq_false (fun e => hle (by rw [e]))
  subst hr
  clear hle
  go_wp2
  go_ret
  exact ⟨rfl, Below.refl _ _⟩
end Go.Proofs.YtggpaljilpbmhaaGreatDoor
namespace Go.Proofs.YtggpaljilpbmhaaGreatDoor
open Go.RowKit

/-- Memory grows, and only two blocks of the old ones may change. -/
structure G2w (W w : World) (a b : Nat) : Prop where
 os : w.os = W.os
 tape : w.tape = W.tape
 output : w.output = W.output
 size : W.heap.size ≤ w.heap.size
 block : ∀ k, k < W.heap.size → k ≠ a → k ≠ b → w.heap[k]? = W.heap[k]?
theorem G2w.of {W w : World} {a b : Nat} (h : Below W.heap.size W w) : G2w W w a b := ⟨h.os, h.tape, h.output, h.size, fun k hk _ _ => h.block k hk⟩
theorem G2w.trans {W w w' : World} {a b : Nat} (h : G2w W w a b) (h' : G2w w w' a b) : G2w W w' a b := ⟨h'.os.trans h.os, h'.tape.trans h.tape, h'.output.trans h.output, Nat.le_trans h.size h'.size, fun k hk n1 n2 => (h'.block k (Nat.lt_of_lt_of_le hk h.size) n1 n2).trans (h.block k hk n1 n2)⟩
theorem G2w.below {W w : World} {a b lim : Nat} (h : G2w W w a b) (ha : lim ≤ a) (hb : lim ≤ b) (hl : lim ≤ W.heap.size) : Below lim W w := ⟨h.os, h.tape, h.output, h.size, fun k hk => h.block k (by omega) (by omega) (by omega)⟩
/-- The reference's Walk as it lies, where there are instructions. -/
structure RW (lim : Nat) (w : World) (q ba bs ca cc : Nat) (g : Pg) (p : Pv) (k : Kn) : Prop where
 blk : w.heap[q]? = some (.cells #[.slice (some ⟨ba, 0, none⟩) p.n ca, .slice (some ⟨bs, 0, none⟩) p.n cc] 211 (0, 0))
 rowA : ∃ cs : Array Value, w.heap[ba]? = some (.cells cs 4 (0, 0)) ∧ ∀ j : Nat, j < p.n → cs[j]? = some (.bool (k j).isSome)
 rowB : ∃ cs : Array Value, w.heap[bs]? = some (.cells cs 23 (0, 0)) ∧ ∀ j : Nat, j < p.n → ∃ v, cs[j]? = some v ∧ KI w v (kin (k j))
 ok : g.Ok p lim w
 lq : lim ≤ q
 la : lim ≤ ba
 lb : lim ≤ bs
 hca : p.n ≤ ca
 hcc : p.n ≤ cc
section
variable {lim : Nat} {W W' : World} {q ba bs ca cc : Nat} {g : Pg} {p : Pv} {k : Kn}
theorem RW.le (h : RW lim W q ba bs ca cc g p k) : lim ≤ W.heap.size := by
 have := block_lt h.blk
 have := h.lq
 omega
theorem RW.kept (h : RW lim W q ba bs ca cc g p k) (hB : Below W.heap.size W W') : RW lim W' q ba bs ca cc g p k := by
 obtain ⟨c1, a1, a2⟩ := h.rowA
 obtain ⟨c2, b1, b2⟩ := h.rowB
 refine ⟨(hB.block _ (block_lt h.blk)).trans h.blk, ⟨c1, (hB.block _ (block_lt a1)).trans a1, a2⟩, ⟨c2, (hB.block _ (block_lt b1)).trans b1, fun j hj => ?_⟩, h.ok.kept hB h.le, h.lq, h.la, h.lb, h.hca, h.hcc⟩
 obtain ⟨v, e1, e2⟩ := b2 j hj
 exact ⟨v, e1, e2.below hB⟩
theorem RW.neqb (h : RW lim W q ba bs ca cc g p k) : q ≠ bs := fun e => by
 obtain ⟨c2, b1, b2⟩ := h.rowB
 have := h.blk
 rw [e, b1] at this
 simp at this
theorem RW.neqa (h : RW lim W q ba bs ca cc g p k) : q ≠ ba := fun e => by
 obtain ⟨c2, b1, b2⟩ := h.rowA
 have := h.blk
 rw [e, b1] at this
 simp at this
theorem RW.neab (h : RW lim W q ba bs ca cc g p k) : ba ≠ bs := fun e => by
 obtain ⟨c1, a1, a2⟩ := h.rowA
 obtain ⟨c2, b1, b2⟩ := h.rowB
 rw [e, b1] at a1
 simp at a1
theorem RW.int (h : RW lim W q ba bs ca cc g p k) {b : Nat} {cs : Array Value} (e : W.heap[b]? = some (.cells cs 3 (0, 0))) : b ≠ ba ∧ b ≠ bs := by
 obtain ⟨c1, a1, a2⟩ := h.rowA
 obtain ⟨c2, b1, b2⟩ := h.rowB
 constructor
 ·intro x
  rw [x, a1] at e
  simp at e
 ·intro x
  rw [x, b1] at e
  simp at e
theorem G2w.int (hg : G2w W W' ba bs) (h : RW lim W q ba bs ca cc g p k) {b : Nat} {cs : Array Value} (e : W.heap[b]? = some (.cells cs 3 (0, 0))) : W'.heap[b]? = W.heap[b]? :=
 hg.block b (block_lt e) (h.int e).1 (h.int e).2
theorem updK_twice (k : Kn) (d : Nat) (l m : List Bool) : updK (updK k d l) d m = updK k d m := by
 funext j
 unfold updK
 by_cases e : j = d
 ·simp [e]
 ·simp [e]
theorem RW.setA (h : RW lim W q ba bs ca cc g p k) (d : Nat) (hd : d < p.n) : RW lim (W.setCell ⟨ba, d, none⟩ (.bool true)) q ba bs ca cc g p (updK k d (kin (k d))) ∧ G2w W (W.setCell ⟨ba, d, none⟩ (.bool true)) ba bs := by
 obtain ⟨c1, a1, a2⟩ := h.rowA
 obtain ⟨c2, b1, b2⟩ := h.rowB
 have G0 := grown_set W ba d (.bool true)
 have G : G2w W (W.setCell ⟨ba, d, none⟩ (.bool true)) ba bs := ⟨G0.os, G0.tape, G0.output, G0.size, fun j hj n1 _ => G0.block j hj (by simpa using n1)⟩
 have s1 := heap_setCell_same W ba d _ _ (.bool true) a1
 refine ⟨⟨(G0.block _ (block_lt h.blk) (by simpa using h.neqa)).trans h.blk, ⟨_, s1, fun j hj => ?_⟩, ⟨c2, (G0.block _ (block_lt b1) (by simpa using fun e => h.neab e.symm)).trans b1, fun j hj => ?_⟩, h.ok.kept (G.below h.la h.lb h.le) (Nat.le_refl _), h.lq, h.la, h.lb, h.hca, h.hcc⟩, G⟩
 ·have hb1 := (Array.getElem?_eq_some_iff.1 (a2 d hd)).1
  unfold updK
  by_cases e : j = d
  ·subst e
   rw [if_pos rfl, Array.getElem?_setIfInBounds_self_of_lt hb1]; rfl
  ·rw [if_neg e, Array.getElem?_setIfInBounds_ne (fun x => e x.symm)]; exact a2 j hj
 ·obtain ⟨v, e1, e2⟩ := b2 j hj
  refine ⟨v, e1, ?_⟩
  have e3 := e2.kept (w' := W.setCell ⟨ba, d, none⟩ (.bool true)) (fun b cs e => G.int h e)
  unfold updK
  by_cases e : j = d
  ·subst e
   rw [if_pos rfl]; exact e3
  ·rw [if_neg e]; exact e3
theorem RW.setB (h : RW lim W q ba bs ca cc g p k) (d : Nat) (hd : d < p.n) (hs : (k d).isSome = true) {v : Value} {l : List Bool} (hv : KI W v l) : RW lim (W.setCell ⟨bs, d, none⟩ v) q ba bs ca cc g p (updK k d l) ∧ G2w W (W.setCell ⟨bs, d, none⟩ v) ba bs := by
 obtain ⟨c1, a1, a2⟩ := h.rowA
 obtain ⟨c2, b1, b2⟩ := h.rowB
 have G0 := grown_set W bs d v
 have G : G2w W (W.setCell ⟨bs, d, none⟩ v) ba bs := ⟨G0.os, G0.tape, G0.output, G0.size, fun j hj _ n1 => G0.block j hj (by simpa using n1)⟩
 have s1 := heap_setCell_same W bs d _ _ v b1
 refine ⟨⟨(G0.block _ (block_lt h.blk) (by simpa using h.neqb)).trans h.blk, ⟨c1, (G0.block _ (block_lt a1) (by simpa using h.neab)).trans a1, fun j hj => ?_⟩, ⟨_, s1, fun j hj => ?_⟩, h.ok.kept (G.below h.la h.lb h.le) (Nat.le_refl _), h.lq, h.la, h.lb, h.hca, h.hcc⟩, G⟩
 ·unfold updK
  by_cases e : j = d
  ·subst e
   rw [if_pos rfl, a2 j hj, hs]; rfl
  ·rw [if_neg e]; exact a2 j hj
 ·obtain ⟨u, e1, e2⟩ := b2 j hj
  have hb1 := (Array.getElem?_eq_some_iff.1 e1).1
  have e3 := e2.kept (w' := W.setCell ⟨bs, d, none⟩ v) (fun b cs e => G.int h e)
  have e4 := hv.kept (w' := W.setCell ⟨bs, d, none⟩ v) (fun b cs e => G.int h e)
  unfold updK
  by_cases e : j = d
  ·subst e
   rw [if_pos rfl, Array.getElem?_setIfInBounds_self_of_lt hb1]
   exact ⟨v, rfl, e4⟩
  ·rw [if_neg e, Array.getElem?_setIfInBounds_ne (fun x => e x.symm)]
   exact ⟨u, e1, e3⟩
theorem RW.at_ (h : RW lim W q ba bs ca cc g p k) (d : Nat) (hd : d < p.n) : W.cell? ⟨q, 0, none⟩ = some (.slice (some ⟨ba, 0, none⟩) p.n ca) ∧ W.cell? ⟨q, 1, none⟩ = some (.slice (some ⟨bs, 0, none⟩) p.n cc) ∧ q < W.heap.size ∧ W.cell? ⟨ba, d, none⟩ = some (.bool (k d).isSome) ∧ W.frozen? ⟨ba, d, none⟩ = false ∧ ba < W.heap.size ∧ bs < W.heap.size ∧ ∃ v, W.cell? ⟨bs, d, none⟩ = some v ∧ KI W v (kin (k d)) := by
 obtain ⟨c1, a1, a2⟩ := h.rowA
 obtain ⟨c2, b1, b2⟩ := h.rowB
 obtain ⟨v, e1, e2⟩ := b2 d hd
 exact ⟨block_cell h.blk 0, block_cell h.blk 1, block_lt h.blk, (block_cell a1 d).trans (a2 d hd), block_free a1 d, block_lt a1, block_lt b1, v, (block_cell b1 d).trans e1, e2⟩
end
/-- What becomes of a step of the reference's walk. -/
def HdR (lim : Nat) (W : World) (q ba bs ca cc : Nat) (g : Pg) (p : Pv) (r : Except Int Kn) (e : Ending) (w' : World) : Prop := match r with
 | .ok k' => e = .returned (.int .i64 0) ∧ Hid (RW lim w' q ba bs ca cc g p k' ∧ G2w W w' ba bs)
 | .error y => e = .returned (.int .i64 y) ∧ y ≠ 0 ∧ Hid (G2w W w' ba bs)
set_option maxRecDepth 10000 in
set_option maxHeartbeats 6400000 in
theorem handR {lim : Nat} {W : World} {q ba bs ca cc : Nat} {g : Pg} {p : Pv} {k : Kn} (h : RW lim W q ba bs ca cc g p k) (hkb : KB k) (i d : Nat) (hd : d ≤ 2048) (hn : p.n ≤ 2048) {v : Value} {l : List Bool} (hv : KI W v l) (hl : l.length ≤ 64) :
  Calls Tryz.prog 197 #[.pointer (some ⟨q, 0, none⟩), .agg (g.cs p).toArray, .int .i64 (i : Nat), .int .i64 (d : Nat), v] W (HdR lim W q ba bs ca cc g p (handF p k i d l)) := by
 obtain ⟨W1, hW1⟩ : ∃ W1, W.alloc (.cells (g.cs p).toArray 27) = W1 := ⟨_, rfl⟩
 have B1 : Below W.heap.size W W1 := by rw [← hW1]; exact below_alloc1 W _
 have A1 : W1.heap[W.heap.size]? = some (.cells (g.cs p).toArray 27 (0, 0)) := by rw [← hW1]; exact alloc_atK _ _
 have HRW := hide (h.kept B1)
 have HG1 : Hid (G2w W W1 ba bs) := G2w.of B1
 have HKV := hide (hv.below B1)
 have y8 := block_cell A1 8
 have yl := block_lt A1
 simp [Pg.cs] at y8
 have HW1 := hide hW1
 have HCS : Hid (g.cs p = [.slice g.ca p.nc g.cc, .slice g.sa p.ns g.sc, .int .i64 (p.en 0), .int .i64 (p.en 1), .int .i64 (p.en 2), .int .i64 (p.en 3), .int .i64 (p.en 4), .int .i64 (p.en 5), .slice g.ia p.n g.ic]) := rfl
 rw [HCS.out] at HW1 ⊢
 obtain ⟨r, hr⟩ : ∃ r, handF p k i d l = r := ⟨_, rfl⟩
 rw [hr]
 have HR := hide hr
 clear h hv B1 A1 hW1 hr
 by_cases hnd : p.n ≤ d
 ·have hr : r = .error 90 := by rw [← HR.out]; unfold handF; rw [if_pos hnd]
  subst hr
  go_enter Tryz.func197, Tryz.ntmps197
  go_upto_region 1 with fail
  rw [HW1.out]
  clear HW1
  go_wp2
  go_ret
  exact ⟨rfl, by decide, HG1⟩
 ·have hlt : d < p.n := by omega
  obtain ⟨hia, hib⟩ := HRW.out.ok.hi (by omega)
  have vo := HRW.out.ok.vo d hlt
  have hbl : g.ib < W1.heap.size := Nat.lt_of_lt_of_le hib HRW.out.le
  obtain ⟨q0, q1, ql, a0, af, al, bl, sv, b0, hki⟩ := HRW.out.at_ d hlt
  have HKI := hide hki
  have hca := HRW.out.hca
  have hcc := HRW.out.hcc
  rw [hia] at y8
  have HSMK : Hid True := trivial
  clear hia hki
  by_cases hdi : d ≤ i
  ·have d1 : decide ((d : Int) ≤ (i : Int)) = true := decide_eq_true (by omega)
   by_cases ho : p.op d = 1
   ·rw [ho] at vo
    have HDI : Hid (¬ (d ≤ i ∧ p.op d ≠ 1)) := fun e => e.2 ho
    have HLE := hide hdi
    clear ho hdi
    cases hk : k d with
    | some m =>
     rw [hk] at a0 HKI
     have HKm := hide hk
     have hml := hkb d
     rw [hk] at hml
     have HSM := hide (sameR (show KI W1 sv m from HKI.out) HKV.out (show m.length ≤ 2048 by have : m.length ≤ 64 := hml; omega) (by omega))
     clear hml
     by_cases hm : m = l
     ·have hr : r = .ok k := by rw [← HR.out]; unfold handF; rw [if_neg hnd, if_neg (HDI.out), if_pos (by rw [hk, hm])]
      subst hr
      rw [decide_eq_true hm] at HSM
      clear hk hm hnd
      simp only [Option.isSome_some] at a0
      go_enter Tryz.func197, Tryz.ntmps197
      go_upto_region 1 with fail
      rw [HW1.out]
      clear HW1
      go_wp2_with fail
      refine HSM.out.mono ?_
      rintro e w2 ⟨rfl, G2⟩
      have HD : Hid (RW lim w2 q ba bs ca cc g p k ∧ G2w W w2 ba bs) := ⟨HRW.out.kept G2.out, HG1.out.trans (G2w.of G2.out)⟩
      go_wp2
      go_ret
      exact ⟨rfl, HD⟩
     ·have hr : r = .error 88 := by
       rw [← HR.out]; unfold handF; rw [if_neg hnd, if_neg (HDI.out), if_neg (by rw [hk]; simpa using hm), if_pos (by right; rw [hk]; rfl)]
      subst hr
      rw [decide_eq_false hm] at HSM
      clear hk hm hnd
      simp only [Option.isSome_some] at a0
      go_enter Tryz.func197, Tryz.ntmps197
      go_upto_region 1 with fail
      rw [HW1.out]
      clear HW1
      go_wp2_with fail
      refine HSM.out.mono ?_
      rintro e w2 ⟨rfl, G2⟩
      have HD : Hid (G2w W w2 ba bs) := HG1.out.trans (G2w.of G2.out)
      go_wp2
      go_ret
      exact ⟨rfl, by decide, HD⟩
    | none =>
     rw [hk] at a0
     have hr : r = .error 88 := by
      rw [← HR.out]; unfold handF; rw [if_neg hnd, if_neg (HDI.out), if_neg (by rw [hk]; simp), if_pos (.inl HLE.out)]
     subst hr
     clear hk hnd
     simp only [Option.isSome_none] at a0
     go_enter Tryz.func197, Tryz.ntmps197
     go_upto_region 1 with fail
     rw [HW1.out]
     clear HW1
     go_wp2
     go_ret
     exact ⟨rfl, by decide, HG1⟩
   ·have hr : r = .error 89 := by rw [← HR.out]; unfold handF; rw [if_neg hnd, if_pos ⟨hdi, ho⟩]
    have e1 : (p.op d != 1) = true := by simpa using ho
    subst hr
    clear ho HR HSMK
    generalize p.op d = oo at *
    go_enter Tryz.func197, Tryz.ntmps197
    go_upto_region 1 with fail
    rw [HW1.out]
    clear HW1
    go_wp2
    go_ret
    exact ⟨rfl, by decide, HG1⟩
  ·have d1 : decide ((d : Int) ≤ (i : Int)) = false := decide_eq_false (by omega)
   have HDI : Hid (¬ (d ≤ i ∧ p.op d ≠ 1)) := fun e => hdi e.1
   have hdi2 : i < d := by omega
   clear hdi
   cases hk : k d with
   | some m =>
    rw [hk] at a0 HKI
    have HKm := hide hk
    have hml := hkb d
    rw [hk] at hml
    have HSM := hide (sameR (show KI W1 sv m from HKI.out) HKV.out (show m.length ≤ 2048 by have : m.length ≤ 64 := hml; omega) (by omega))
    clear hml
    by_cases hm : m = l
    ·have hr : r = .ok k := by rw [← HR.out]; unfold handF; rw [if_neg hnd, if_neg (HDI.out), if_pos (by rw [hk, hm])]
     subst hr
     rw [decide_eq_true hm] at HSM
     clear hk hm hnd
     simp only [Option.isSome_some] at a0
     go_enter Tryz.func197, Tryz.ntmps197
     go_upto_region 1 with fail
     rw [HW1.out]
     clear HW1
     go_wp2_with fail
     refine HSM.out.mono ?_
     rintro e w2 ⟨rfl, G2⟩
     have HD : Hid (RW lim w2 q ba bs ca cc g p k ∧ G2w W w2 ba bs) := ⟨HRW.out.kept G2.out, HG1.out.trans (G2w.of G2.out)⟩
     go_wp2
     go_ret
     exact ⟨rfl, HD⟩
    ·have hr : r = .error 88 := by
      rw [← HR.out]; unfold handF; rw [if_neg hnd, if_neg (HDI.out), if_neg (by rw [hk]; simpa using hm), if_pos (by right; rw [hk]; rfl)]
     subst hr
     rw [decide_eq_false hm] at HSM
     clear hk hm hnd
     simp only [Option.isSome_some] at a0
     go_enter Tryz.func197, Tryz.ntmps197
     go_upto_region 1 with fail
     rw [HW1.out]
     clear HW1
     go_wp2_with fail
     refine HSM.out.mono ?_
     rintro e w2 ⟨rfl, G2⟩
     have HD : Hid (G2w W w2 ba bs) := HG1.out.trans (G2w.of G2.out)
     go_wp2
     go_ret
     exact ⟨rfl, by decide, HD⟩
   | none =>
    rw [hk] at a0
    have hr : r = .ok (updK k d l) := by
     rw [← HR.out]; unfold handF; rw [if_neg hnd, if_neg (HDI.out), if_neg (by rw [hk]; simp), if_neg (by rw [hk]; simp; omega)]
    subst hr
    have HS2 := hide (HRW.out.setA d hlt)
    have HKV2 : Hid (KI (W1.setCell ⟨ba, d, none⟩ (.bool true)) v l) := HKV.out.kept (fun b cs e => HS2.out.2.int HRW.out e)
    clear hk hnd HSMK
    simp only [Option.isSome_none] at a0
    obtain ⟨W2, hW2⟩ : ∃ W2, W1.setCell ⟨ba, d, none⟩ (.bool true) = W2 := ⟨_, rfl⟩
    have HW2 := hide hW2
    rw [hW2] at HS2 HKV2
    clear hW2
    have HKVd : Hid (KI W2.drew v l) := HKV2.out.below (Below.refl _ _).drew
    have HCP := hide (copyR HKVd.out (by omega))
    have HS5 : Hid (∀ w5, Below W2.drew.heap.size W2.drew w5 → w5.cell? ⟨q, 1, none⟩ = some (.slice (some ⟨bs, 0, none⟩) p.n cc) ∧ q < w5.heap.size) := fun w5 hb => by
     have := (HS2.out.1.kept (Below.refl _ _).drew).kept hb
     exact ⟨block_cell this.blk 1, block_lt this.blk⟩
    have HZ : Hid (∀ w5, Below W2.drew.heap.size W2.drew w5 → (∃ x, w5.cell? ⟨bs, d, none⟩ = some x) ∧ w5.frozen? ⟨bs, d, none⟩ = false ∧ bs < w5.heap.size) := fun w5 hb => by
     have := (HS2.out.1.kept (Below.refl _ _).drew).kept hb
     obtain ⟨cs, r1, r2⟩ := this.rowB
     obtain ⟨x, hx, _⟩ := r2 d hlt
     exact ⟨⟨x, (block_cell r1 d).trans hx⟩, block_free r1 d, block_lt r1⟩
    have HE : Hid (∀ (w5 : World) (v' : Value), w5.ownsRow W2.drew.heap.size 3 1 v' l.length (l.map iv) → Below W2.drew.heap.size W2.drew w5 → RW lim (w5.setCell ⟨bs, d, none⟩ v') q ba bs ca cc g p (updK k d l) ∧ G2w W (w5.setCell ⟨bs, d, none⟩ v') ba bs) := fun w5 v' ho hb => by
     have h5 := (HS2.out.1.kept (Below.refl _ _).drew).kept hb
     have h6 := h5.setB d hlt (by simp [updK]) (KI.own ho)
     rw [updK_twice] at h6
     exact ⟨h6.1, HG1.out.trans (HS2.out.2.trans ((G2w.of (Below.refl _ _).drew).trans ((G2w.of hb).trans h6.2)))⟩
    have HS6 : Hid (∀ (w5 : World) (v' : Value), (w5.cell? ⟨q, 1, none⟩ = some (.slice (some ⟨bs, 0, none⟩) p.n cc) ∧ q < w5.heap.size) → (w5.setCell ⟨bs, d, none⟩ v').cell? ⟨q, 1, none⟩ = some (.slice (some ⟨bs, 0, none⟩) p.n cc) ∧ q < (w5.setCell ⟨bs, d, none⟩ v').heap.size) := fun w5 v' hh => by
     refine ⟨?_, by simpa using hh.2⟩
     rw [World.cell?_setCell_far _ _ _ _ (by simpa using fun e => HRW.out.neqb e.symm)]
     exact hh.1
    go_enter Tryz.func197, Tryz.ntmps197
    go_upto_region 1 with fail
    rw [HW1.out]
    clear HW1
    go_upto_region 12 with fail
    rw [HW2.out]
    clear HW2
    refine wp_region_held_drew (S := fun w => w.cell? ⟨q, 1, none⟩ = some (.slice (some ⟨bs, 0, none⟩) p.n cc) ∧ q < w.heap.size) (by kernel_rfl) (HS5.out _ (Below.refl _ _)) (fun hH => ?_)
    refine wpAnyH_take (i := 0) (oi := ⟨some 54, .move (.tmp 0), 147, "verify.go:156", #[], none⟩) (v := .pointer (some ⟨q, 0, none⟩)) rfl (by kernel_rfl) (by kernel_rfl) (by kernel_rfl) (fun _ _ _ h => h) (Or.inl ⟨by rfl, fun w' hSw => ?_⟩) hH ?_
    ·go_simp
    simp only [Act.put, lsA, lsB, lsC]
    refine wpAnyH_take (i := 1) (oi := ⟨some 55, .nilCheck (.tmp 54), 0, "verify.go:156", #[⟨0, .data⟩], none⟩) (v := .pointer (some ⟨q, 0, none⟩)) rfl (by kernel_rfl) (by kernel_rfl) (by kernel_rfl) (fun _ _ _ h => h) (Or.inl ⟨by rfl, fun w' hSw => ?_⟩) hH ?_
    ·go_simp
    simp only [Act.put, lsA, lsB, lsC]
    refine wpAnyH_take (i := 2) (oi := ⟨some 56, .fieldAddr 211 (.tmp 55) 1, 0, "verify.go:156", #[⟨1, .data⟩], none⟩) (v := .pointer (some ⟨q, 1, none⟩)) rfl (by kernel_rfl) (by kernel_rfl) (by kernel_rfl) (fun _ _ _ h => h) (Or.inl ⟨by rfl, fun w' hSw => ?_⟩) hH ?_
    ·go_simp
    simp only [Act.put, lsA, lsB, lsC]
    refine wpAnyH_take (i := 3) (oi := ⟨some 57, .load 209 (.tmp 56), 209, "verify.go:156", #[⟨2, .data⟩], none⟩) (v := .slice (some ⟨bs, 0, none⟩) p.n cc) rfl (by kernel_rfl) (by kernel_rfl) (by kernel_rfl) (fun _ _ _ h => h) (Or.inl ⟨by rfl, fun w' hSw => ?_⟩) hH ?_
    ·have y1 := hSw.1
     have yl := hSw.2
     go_simp
    simp only [Act.put, lsA, lsB, lsC]
    refine wpAnyH_take (i := 4) (oi := ⟨some 58, .move (.tmp 3), 3, "verify.go:156", #[], none⟩) (v := .int .i64 (d : Nat)) rfl (by kernel_rfl) (by kernel_rfl) (by kernel_rfl) (fun _ _ _ h => h) (Or.inl ⟨by rfl, fun w' hSw => ?_⟩) hH ?_
    ·go_simp
    simp only [Act.put, lsA, lsB, lsC]
    refine wpAnyH_take (i := 5) (oi := ⟨some 59, .move (.tmp 4), 23, "verify.go:156", #[], none⟩) (v := v) rfl (by kernel_rfl) (by kernel_rfl) (by kernel_rfl) (fun _ _ _ h => h) (Or.inl ⟨by rfl, fun w' hSw => ?_⟩) hH ?_
    ·go_simp
    simp only [Act.put, lsA, lsB, lsC]
    refine wpAnyH_ready (rs := [6]) (by kernel_rfl) (by simp) ?_
    refine AllReadyH.cons rfl (fun K hK => ?_) AllReadyH.nil
    go_simp
    go_wp2_with fail
    refine (HCP.out).mono ?_
    rintro e w5 ⟨v', rfl, G5⟩
    obtain ⟨ao5, cap5, hv5⟩ := (KI.own G5.out.1).val
    subst hv5
    go_wp2_with fail
    refine hK.out _ _ (HS5.out _ G5.out.2) (fun hG5 => ?_)
    clear hK K
    refine wpAnyH_take (i := 7) (oi := ⟨some 61, .indexAddr 209 (.tmp 57) (.tmp 58), 0, "verify.go:156", #[⟨3, .data⟩, ⟨4, .data⟩, ⟨0, .phase⟩, ⟨1, .phase⟩, ⟨2, .phase⟩, ⟨3, .phase⟩, ⟨4, .phase⟩, ⟨5, .phase⟩, ⟨6, .phase⟩], none⟩) (v := .pointer (some ⟨bs, d, none⟩)) rfl (by kernel_rfl) (by kernel_rfl) (by kernel_rfl) (fun _ _ _ h => h) (Or.inl ⟨by rfl, fun w' hSw => ?_⟩) hG5 ?_
    ·go_simp
    simp only [Act.put, lsA, lsB, lsC]
    obtain ⟨⟨x5, z0⟩, z1, zl⟩ := HZ.out _ G5.out.2
    have HEND := hide (HE.out _ _ G5.out.1 G5.out.2)
    refine wpAnyH_ready (rs := [8]) (by kernel_rfl) (by simp) ?_
    refine AllReadyH.cons rfl (fun K hK => ?_) AllReadyH.nil
    go_simp
    go_wp2_with fail
    refine hK.out _ _ (HS6.out _ _ hG5) (fun hG6 => ?_)
    clear hK K
    refine wpAnyH_done (by kernel_rfl) ?_ _
    go_wp2
    go_ret
    exact ⟨rfl, HEND⟩
end Go.Proofs.YtggpaljilpbmhaaGreatDoor
