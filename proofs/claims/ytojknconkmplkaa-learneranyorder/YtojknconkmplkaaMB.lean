import Derived.Test.YtojknconkmplkaaBKa
import Derived.RangeFuncBox
import Derived.Deep.Cut
import Derived.BigQuiet
import Derived.Deep.DeepAppendWide
namespace Go.Proofs.Ytojknconkmplkaa
open Go.RowKit

theorem cells_newK (W : World) (cs : List Value) (t : TypeId) : ∀ (j : Nat) (u : Value), cs[j]? = some u → (W.alloc (.cells cs.toArray t)).cell? (Addr.add ⟨W.heap.size, 0, none⟩ j) = some u := by
  intro j u hu
  have := World.cell?_alloc_new W cs.toArray t j
  have he : Addr.add ⟨W.heap.size, 0, none⟩ j = ⟨W.heap.size, j, none⟩ := by
    simp only [Addr.add]
    split <;> simp_all
  rw [he, this]
  simpa using hu
theorem cells_newD (W : World) (cs : List Value) (t : TypeId) : ∀ (j : Nat) (u : Value), cs[j]? = some u → (W.alloc (.cells cs.toArray t)).drew.cell? (Addr.add ⟨W.heap.size, 0, none⟩ j) = some u := cells_newK W cs t
theorem alloc_atK (w : World) (o : Obj) : (w.alloc o).heap[w.heap.size]? = some o := by simp [World.alloc, -World.alloc_eq]
theorem asrt_pp (g : Nat) (w : World) : (Instr.typeAssert (.iface 108 (.pointer (some ⟨g, 0, none⟩))) 30 108 true).run Try.prog w = .ok (.tuple #[.pointer (some ⟨g, 0, none⟩), .bool true]) w := by kernel_rfl
theorem asrt_np (n : Int) (w : World) : (Instr.typeAssert (.iface 44 (.int .i64 n)) 30 108 true).run Try.prog w = .ok (.tuple #[.pointer none, .bool false]) w := by kernel_rfl
theorem asrt_nn (n : Int) (w : World) : (Instr.typeAssert (.iface 44 (.int .i64 n)) 30 44 true).run Try.prog w = .ok (.tuple #[.int .i64 n, .bool true]) w := by kernel_rfl
theorem step_append_ownK {P : Program} {ops : Array Oper} {o : Oper} {a : Act} {w : World} {K : Act → World → Prop} {Q : Exit → Act → World → Prop} {E : Prop}
    (hgd : o.guard = none) (s x : Operand) (t : TypeId) (ho : o.op = .call { callee := .builtin .append, args := #[s, x], argTypes := #[t, t] })
    (base : Nat) (e : TypeId) (i : TypeInfo) (z : Value) (size bytes : Nat) (ht : P.underlying t = some (.slice e)) (hi : P.info? e = some i) (hz : i.zero = some z)
    (hsize : i.size = size) (hby : i.bytes = bytes) (hzs : z.cells.size = size) (hsz : 0 < size)
    (v : Value) (n : Nat) (xs : List Value) (hs : a.eval s = v) (hown : w.ownsRow base e size v n xs)
    (ad : Addr) (m c : Nat) (news : List Value) (hx : a.eval x = .slice (some ad) m c) (hl : news.length = m * size) (hnews : ∀ j u, news[j]? = some u → w.cell? (ad.add j) = some u) (h1 : ∀ u ∈ news, u.oneCell' = true)
    (h63 : n + m ≤ maxLen) (hbytes : (n + m) * bytes ≤ 140737488355328) (hbase : base ≤ w.heap.size)
    (h : ∀ v' w', w'.ownsRow base e size v' (n + m) (xs ++ news) → w.grownBy w' v.ownBlock → K (a.put o.dst v') w') :
    if Region.wanted o (yielded ops a.tmps) = true then Oper.wp P o a w K Q else E := by
  have hw : Region.wanted o (yielded ops a.tmps) = true := by simp [Region.wanted, hgd]
  rw [if_pos hw]
  exact wp_append_own w s x t ho base e i z size bytes ht hi hz hsize hby hzs hsz v n xs hs hown ad m c news hx hl hnews h1 h63 hbytes hbase (fun v' w' h2 h3 _ => h v' w' h2 h3)
theorem FV.heapK {lim : Nat} {w w' : World} {ao : Option Addr} {L : List Lk} {b off : Nat} (h : FV lim w ao L b off) (e : w'.heap = w.heap) : FV lim w' ao L b off := ⟨h.ad, h.lt, h.le, fun i l hl => by simp only [World.cell?, e]; exact h.at_ i l hl⟩
theorem drew_grownK (w : World) : w.grownBy w.drew none := ⟨rfl, rfl, rfl, Nat.le_refl _, fun _ _ _ => rfl⟩
theorem tl_new (w : World) {L : List Lk} {v : Value} {c : Int} (h : Chain w.heap.size w L v c) : Tl w L c 0 (.slice none 0 0) v ((w.alloc (.cells #[.slice none 0 0, .int .i64 0] 61)).alloc (.cells #[.slice none 0 0, .int .i64 0] 61)) := by
  have e1 : (w.alloc (.cells #[.slice none 0 0, .int .i64 0] 61)).heap.size = w.heap.size + 1 := by simp
  have bel : Below w.heap.size w ((w.alloc (.cells #[.slice none 0 0, .int .i64 0] 61)).alloc (.cells #[.slice none 0 0, .int .i64 0] 61)) := ((Below.refl _ w).alloc (Nat.le_refl _) _).alloc (by simp) _
  refine ⟨bel, ⟨_, ((World.grownBy_alloc _ _ none).block _ (by rw [e1]; omega) (by simp)).trans (alloc_atK _ _), rfl⟩, ?_, World.ownsRow_nil _ _ _ _, Chain.below bel h⟩
  rw [← e1]
  exact alloc_atK _ _
/-- The answer of Told. -/
def ToldP (w : World) (L : List Lk) (c : Int) (e : Ending) (w' : World) : Prop := ∃ ao cap, e = .returned (.tuple #[.agg #[.slice ao L.length cap, .int .i64 c], .bool true]) ∧ Hid (∃ b, FV w'.heap.size w' ao L b 0 ∧ Below w.heap.size w w')

end Go.Proofs.Ytojknconkmplkaa
namespace Go.Proofs.Ytojknconkmplkaa
open Go.RowKit

theorem FV.get {lim : Nat} {w : World} {ao : Option Addr} {L : List Lk} {b off : Nat} (h : FV lim w ao L b off) {k : Nat} (hk : k < L.length) : ∃ layer at_, L[k]? = some ⟨layer, at_⟩ ∧ ao = some ⟨b, off, none⟩ ∧ b < lim ∧ w.cell? ⟨b, off + k * 2, none⟩ = some (.string layer) ∧ w.cell? ⟨b, off + k * 2 + 1, none⟩ = some (.int .i64 at_) := by
  have hg : L[k]? = some L[k] := List.getElem?_eq_getElem hk
  obtain ⟨c0, c1⟩ := h.at_ k _ hg
  exact ⟨L[k].layer, L[k].at_, hg, h.ad (by omega), h.lt (by omega), c0, c1⟩

end Go.Proofs.Ytojknconkmplkaa
namespace Go.Proofs.Ytojknconkmplkaa
open Go.RowKit

/-- A refusal that a function hands out. -/
def FvP (w : World) (L : List Lk) (c : Int) (e : Ending) (w' : World) : Prop := ∃ ao cap, e = .returned (.agg #[.slice ao L.length cap, .int .i64 c]) ∧ Hid (∃ b off, FV w'.heap.size w' ao L b off ∧ Below w.heap.size w w')
theorem fv_one {w : World} {g : Nat} {l : Lk} (h0 : w.cell? ⟨g, 0, none⟩ = some (.string l.layer)) (h1 : w.cell? ⟨g, 1, none⟩ = some (.int .i64 l.at_)) : FV w.heap.size w (some ⟨g, 0, none⟩) [l] g 0 := by
  have hlt : g < w.heap.size := by
    rcases Nat.lt_or_ge g w.heap.size with h | h
    · exact h
    · simp [World.cell?, Array.getElem?_eq_none h] at h0
  refine ⟨fun _ => rfl, fun _ => hlt, by simp, fun i x hx => ?_⟩
  have hi := (List.getElem?_eq_some_iff.1 hx).1
  obtain rfl : i = 0 := by simpa using hi
  cases hx
  exact ⟨h0, h1⟩
set_option maxRecDepth 10000 in
set_option maxHeartbeats 800000 in
theorem none0 (w : World) : Calls Try.prog 30 #[] w (FvP w [] 0) := by
  unfold FvP
  go_enter Try.func30, Try.ntmps30
  go_wp2
  refine bodyPost_ret (v := .agg #[.slice none 0 0, .int .i64 0]) (by simp [results, Try.results30, go_sem]) rfl ⟨none, 0, rfl, 0, 0, FV.nil _ _ _ _ _, ?_⟩
  have b0 : Below w.heap.size w (w.alloc (.cells #[.slice none 0 0, .int .i64 0] 61)) := (Below.refl _ w).alloc (Nat.le_refl _) _
  first
    | exact b0
    | exact (b0.setCell (p := ⟨w.heap.size, 0, none⟩) (Nat.le_refl _) _).setCell (p := ⟨w.heap.size, 1, none⟩) (Nat.le_refl _) _
set_option maxRecDepth 10000 in
set_option maxHeartbeats 800000 in
theorem new0 (layer : ByteArray) (at_ c : Int) (w : World) : Calls Try.prog 29 #[.string layer, .int .i64 at_, .int .i64 c] w (FvP w [⟨layer, at_⟩] c) := by
  unfold FvP
  go_enter Try.func29, Try.ntmps29
  go_wp2
  refine bodyPost_ret (v := .agg #[.slice (some ⟨w.heap.size + 1, 0, none⟩) 1 1, .int .i64 c]) (by simp [results, Try.results29, go_sem]) rfl ⟨some ⟨w.heap.size + 1, 0, none⟩, 1, rfl, w.heap.size + 1, 0, ?_, ?_⟩
  · have e1 : (w.alloc (.cells #[.slice (some ⟨w.heap.size + 1, 0, none⟩) 1 1, .int .i64 c] 61)).heap.size = w.heap.size + 1 := by simp
    have q0 := World.cell?_alloc_new (w.alloc (.cells #[.slice (some ⟨w.heap.size + 1, 0, none⟩) 1 1, .int .i64 c] 61)) #[.string layer, .int .i64 at_] 126 0
    have q1 := World.cell?_alloc_new (w.alloc (.cells #[.slice (some ⟨w.heap.size + 1, 0, none⟩) 1 1, .int .i64 c] 61)) #[.string layer, .int .i64 at_] 126 1
    rw [e1] at q0 q1
    exact fv_one q0 q1
  · exact ((Below.refl _ w).alloc (Nat.le_refl _) _).alloc (by simp) _
end Go.Proofs.Ytojknconkmplkaa
namespace Go.Proofs.Ytojknconkmplkaa
open Go.RowKit

set_option maxRecDepth 10000 in
set_option maxHeartbeats 800000 in
theorem any0 (ao : Option Addr) (n cap : Nat) (c : Int) (hn : c = 0 → n = 0) (w : World) : Calls Try.prog 27 #[.agg #[.slice ao n cap, .int .i64 c]] w fun e w' => e = .returned (.bool (c != 0)) ∧ Hid (Below w.heap.size w w') := by
  have b1 : Hid (∀ o, Below w.heap.size w (w.alloc o)) := fun o => (Below.refl _ w).alloc (Nat.le_refl _) o
  by_cases hc : c = 0
  · obtain rfl := hn hc
    subst hc
    clear hn
    go_enter Try.func27, Try.ntmps27
    go_wp2
    go_ret
    exact ⟨rfl, b1.out _⟩
  · have hd : (c != 0) = true := by simp [hc]
    clear hn hc
    rw [hd]
    go_enter Try.func27, Try.ntmps27
    go_wp2
    go_ret
    exact ⟨rfl, b1.out _⟩
theorem Chain.otherS {n q : Nat} {W W' : World} (hg : W.grownBy W' (some q)) {o : Option Addr} {k m : Nat} (hq : W.cell? ⟨q, 0, none⟩ = some (.slice o k m)) : ∀ {L : List Lk} {u : Value} {c : Int}, Chain n W L u c → Chain n W' L u c
  | [], _, _, h => h
  | l :: r, u, c, h => by
    obtain ⟨g, v, e, hlt, h0, h1, h2, h3⟩ := h
    have hne : g ≠ q := fun e => by rw [e, hq] at h0; cases h0
    have hne' : some g ≠ some q := fun e => hne (by cases e; rfl)
    exact ⟨g, v, e, hlt, hg.cell h0 hne', hg.cell h1 hne', hg.cell h2 hne', Chain.otherS hg hq h3⟩
structure Wl (w : World) (l : Lk) (L : List Lk) (ao : Option Addr) (n cp : Nat) (c : Int) (k : Nat) (v : Value) (W : World) : Prop where
  bel : Below w.heap.size w W
  box : W.heap[w.heap.size]? = some (.cells #[.slice ao n cp, .int .i64 c] 61 (0, 0))
  res : ∃ Z : Array Value, W.heap[w.heap.size + 1]? = some (.cells Z 61 (0, 0)) ∧ Z.size = 2
  row : W.ownsRow w.heap.size 126 2 v (k + 1) (lkcells (l :: L.take k))
theorem row_fault {base k : Nat} {w : World} {v : Value} {xs : List Value} {j : Nat} {X : Array Value} (h : w.ownsRow base 126 2 v k xs) (hX : w.heap[j]? = some (.cells X 61 (0, 0))) : v.ownBlock ≠ some j := fun e => by
  rcases h.2 with ⟨rfl, _⟩ | ⟨g', cap, cur, rfl, _, hb, _⟩
  · cases e
  · cases e
    rw [hb] at hX
    cases hX
theorem Wl.next {w : World} {l : Lk} {L : List Lk} {ao : Option Addr} {n cp : Nat} {c : Int} {k : Nat} {v v' : Value} {W w2 : World} {o : Obj} (h : Wl w l L ao n cp c k v W) {x : Lk} (hx : L[k]? = some x) (ho : w2.ownsRow w.heap.size 126 2 v' (k + 1 + 1) (lkcells (l :: L.take k) ++ [.string x.layer, .int .i64 x.at_])) (hg : (W.alloc o).grownBy w2 v.ownBlock) : Wl w l L ao n cp c (k + 1) v' w2 := by
  have gA := World.grownBy_alloc W o none
  have row1 := row_quietT h.row gA
  obtain ⟨Z, z1, z2⟩ := h.res
  have b1 := (gA.block _ (block_lt h.box) (by simp)).trans h.box
  have r1 := (gA.block _ (block_lt z1) (by simp)).trans z1
  have bel1 := h.bel.grown gA h.bel.size (fun k e => by cases e)
  refine ⟨bel1.grown hg bel1.size (fun k e => (row1.lt k e).1), (hg.block _ (block_lt b1) (fun e => row_fault row1 b1 e.symm)).trans b1, ⟨Z, (hg.block _ (block_lt r1) (fun e => row_fault row1 r1 e.symm)).trans r1, z2⟩, ?_⟩
  have e : lkcells (l :: L.take (k + 1)) = lkcells (l :: L.take k) ++ [.string x.layer, .int .i64 x.at_] := by
    rw [List.take_add_one, hx]
    exact lkcells_snoc (l :: L.take k) x
  rw [e]
  exact ho
set_option maxRecDepth 10000 in
set_option maxHeartbeats 1600000 in
theorem wrap0 (layer : ByteArray) (at_ c : Int) {L : List Lk} {ao : Option Addr} {b off : Nat} (n cp : Nat) (hn : L.length = n) (hl : n ≤ 100) (w : World) (hf : FV w.heap.size w ao L b off) : Calls Try.prog 28 #[.string layer, .int .i64 at_, .agg #[.slice ao n cp, .int .i64 c]] w (FvP w (⟨layer, at_⟩ :: L) c) := by
  obtain ⟨i0, hi0, hz0, hz1, hz2⟩ := info_parts infoLink
  unfold FvP
  have HF := hide hf
  have HN := hide hn
  clear hf hn
  obtain ⟨W2, hW2⟩ : ∃ W2, (w.alloc (.cells #[.slice ao n cp, .int .i64 c] 61)).alloc (.cells #[.slice none 0 0, .int .i64 0] 61) = W2 := ⟨_, rfl⟩
  have e1 : (w.alloc (.cells #[.slice ao n cp, .int .i64 c] 61)).heap.size = w.heap.size + 1 := by simp
  have s2 : W2.heap.size = w.heap.size + 1 + 1 := by rw [← hW2]; simp
  have WL0 : Hid (Wl w ⟨layer, at_⟩ L ao n cp c 0 (.slice (some ⟨w.heap.size + 1 + 1, 0, none⟩) 1 1) (W2.alloc (.cells #[.string layer, .int .i64 at_] 126))) := by
    have q1 : W2.heap[w.heap.size + 1]? = some (.cells #[.slice none 0 0, .int .i64 0] 61 (0, 0)) := by rw [← hW2, ← e1]; exact alloc_atK _ _
    have q0 : W2.heap[w.heap.size]? = some (.cells #[.slice ao n cp, .int .i64 c] 61 (0, 0)) := by rw [← hW2]; exact ((World.grownBy_alloc _ _ none).block _ (by rw [e1]; omega) (by simp)).trans (alloc_atK _ _)
    have b2 : Below w.heap.size w W2 := by rw [← hW2]; exact ((Below.refl _ w).alloc (Nat.le_refl _) _).alloc (by simp) _
    have gA := World.grownBy_alloc W2 (.cells #[.string layer, .int .i64 at_] 126) none
    refine ⟨b2.grown gA b2.size (fun k e => by cases e), (gA.block _ (block_lt q0) (by simp)).trans q0, ⟨_, (gA.block _ (block_lt q1) (by simp)).trans q1, rfl⟩, rfl, .inr ⟨w.heap.size + 1 + 1, 1, #[.string layer, .int .i64 at_], rfl, by omega, ?_, by omega, by unfold maxLen; omega, rfl, rfl⟩⟩
    rw [← s2]
    exact alloc_atK _ _
  have HW2 := hide hW2
  have HS2 := hide s2
  clear hW2 e1 s2
  go_enter Try.func28, Try.ntmps28
  go_wp2
  rw [HW2.out]
  go_loopw [7, 8] (fun v i wr => ∃ k : Nat, k ≤ n ∧ i = .int .i64 k ∧ Hid (Wl w ⟨layer, at_⟩ L ao n cp c k v wr)) (fun _ i _ => n - (intOf i).toNat)
  case atStart => exact ⟨0, by omega, rfl, WL0.out⟩
  case round =>
    obtain ⟨k, hk, rfl, HR⟩ := hrel
    clear WL0
    have x0 := block_cell HR.out.box 0
    have x1 := block_cell HR.out.box 1
    have hlx := block_lt HR.out.box
    simp at x0 x1
    by_cases hlt : k < n
    · obtain ⟨ly, a1, hg, e1, hbl, p0, p1⟩ := (HF.out.below HR.out.bel).get (k := k) (by rw [HN.out]; exact hlt)
      rw [e1] at x0
      have hbw : b < wr.heap.size := Nat.lt_of_lt_of_le hbl HR.out.bel.size
      have HOW : Hid (∀ o, (wr.alloc o).ownsRow w.heap.size 126 2 u7 (k + 1) (lkcells (⟨layer, at_⟩ :: L.take k))) := fun o => row_quietT HR.out.row (World.grownBy_alloc _ _ none)
      have HNX : Hid (∀ (v' : Value) (w2 : World) (o : Obj), w2.ownsRow w.heap.size 126 2 v' (k + 1 + 1) (lkcells (⟨layer, at_⟩ :: L.take k) ++ [.string ly, .int .i64 a1]) → (wr.alloc o).grownBy w2 u7.ownBlock → Wl w ⟨layer, at_⟩ L ao n cp c (k + 1) v' w2) := fun v' w2 o ho hg2 => HR.out.next hg ho hg2
      have HSW : Hid (w.heap.size ≤ wr.heap.size) := HR.out.bel.size
      clear hg e1 hbl
      go_wp2_with (first
        | (at_builtin; refine wpList_append_own_wide _ rfl (.tmp 20) (.tmp 26) 59 rfl w.heap.size 126 i0 (.agg #[.string ⟨#[]⟩, .int .i64 0]) 2 24 Try.underlying59 hi0 hz0 hz1 hz2 rfl (by decide) u7 (k + 1) (lkcells (⟨layer, at_⟩ :: L.take k)) rfl (HOW.out _) ⟨wr.heap.size, 0, none⟩ 1 1 [.string ly, .int .i64 a1] rfl rfl (cells_newK _ _ _) (by simp [Value.oneCell']) (by unfold maxLen; omega) (by omega) (Nat.le_trans HSW.out (by simp)) ?_; intro v' w2 ho hg _; obtain ⟨g', cap', rfl⟩ := ownsRow_succ ho; have NX := hide (HNX.out _ _ _ ho hg); clear ho hg))
      go_roundw
      case rel => exact ⟨k + 1, by omega, by go_num, NX.out⟩
      case measure => simp [intOf]; omega
    · obtain rfl : k = n := by omega
      have hrow := HR.out.row
      rw [List.take_of_length_le (by rw [HN.out]; omega)] at hrow
      have hlen : (⟨layer, at_⟩ :: L : List Lk).length = k + 1 := by rw [List.length_cons, HN.out]
      rw [← hlen] at hrow
      obtain ⟨ao', cap', b', rfl, hfv⟩ := fv_row hrow (by rw [hlen]; omega)
      obtain ⟨Z, z1, z2⟩ := HR.out.res
      have y0 : (wr.cell? ⟨w.heap.size + 1, 0, none⟩).isSome = true := by rw [block_cell z1 0]; simp [z2]
      have y1 : (wr.cell? ⟨w.heap.size + 1, 1, none⟩).isSome = true := by rw [block_cell z1 1]; simp [z2]
      obtain ⟨p0, hp0⟩ := Option.isSome_iff_exists.1 y0
      obtain ⟨p1, hp1⟩ := Option.isSome_iff_exists.1 y1
      have g0 := block_free z1 0
      have g1 := block_free z1 1
      have hlz := block_lt z1
      have FIN : Hid (∀ x y, FV ((wr.setCell ⟨w.heap.size + 1, 0, none⟩ x).setCell ⟨w.heap.size + 1, 1, none⟩ y).heap.size ((wr.setCell ⟨w.heap.size + 1, 0, none⟩ x).setCell ⟨w.heap.size + 1, 1, none⟩ y) ao' (⟨layer, at_⟩ :: L) b' 0 ∧ Below w.heap.size w ((wr.setCell ⟨w.heap.size + 1, 0, none⟩ x).setCell ⟨w.heap.size + 1, 1, none⟩ y)) := fun x y => by
        have ra := hrow.kept (grown_set wr (w.heap.size + 1) 0 x) (.inr (row_fault hrow z1))
        have za := heap_setCell_same wr (w.heap.size + 1) 0 _ _ x z1
        have rb := ra.kept (grown_set _ (w.heap.size + 1) 1 y) (.inr (row_fault ra za))
        obtain ⟨ao2, cap2, b2, e, hf⟩ := fv_row rb (by rw [hlen]; omega)
        cases e
        refine ⟨?_, (HR.out.bel.setCell (p := ⟨w.heap.size + 1, 0, none⟩) (by simp) x).setCell (p := ⟨w.heap.size + 1, 1, none⟩) (by simp) y⟩
        have hbb : b2 = b' := by
          have e1 := hf.ad (by simp)
          have e2 := hfv.ad (by simp)
          rw [e1] at e2
          cases e2
          rfl
        rw [hbb] at hf
        exact hf
      clear y0 y1 z1 hrow hfv hlen
      go_wp2
      refine bodyPost_ret (v := .agg #[.slice ao' (L.length + 1) cap', .int .i64 c]) (by simp [results, Try.results28, go_sem, hp0, hp1]) rfl ⟨ao', cap', rfl, b', 0, ?_⟩
      exact FIN.out _ _
end Go.Proofs.Ytojknconkmplkaa
