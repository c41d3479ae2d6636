import Derived.Test.YtnpekdkfjjeeeaaM40
import Derived.Test.YtnpekdkfjjeeeaaM44
import Derived.Test.YtnpekdkfjjeeeaaBKd
import Derived.Deep.DeepAppendWide
namespace Go.Proofs.Ytnpekdkfjjeeeaa
open Go.RowKit Crc

/-- What is told of a slot. -/
def decS (c : Cf) (t : Jv) : Nat := if c.maj t.fr = true then t.st else 0
def decR (c : Cf) (t : Jv) : List (Nat × Nat × List Nat) := if c.maj t.fr = true then t.rs else []
/-- A batch's cell at the bottom of what was made. -/
theorem BtOk.set {w : World} {B st : Nat} {v : Value} {rv : List (Nat × Nat × List Nat)} (h : BtOk w st v rv) (hB : w.heap[B]? = some (.cells #[.int .u64 0, .slice none 0 0] 40 (0, 0))) (u0 u1 : Value) :
    BtOk ((w.setCell ⟨B, 0, none⟩ u0).setCell ⟨B, 1, none⟩ u1) st v rv := by
  obtain ⟨ro, rc, rs, b, off, h1, h2, h3, h4⟩ := h
  have g1 := grown_set w B 0 u0
  have g2 := grown_set (w.setCell ⟨B, 0, none⟩ u0) B 1 u1
  have g := grown_trans g1 g2
  have nB : ∀ j v, w.cell? ⟨B, j, none⟩ = some v → v = .int .u64 0 ∨ v = .slice none 0 0 := fun j v hv => by
    rw [block_cell hB j] at hv
    match j, hv with
    | 0, hv => simp at hv; exact .inl hv.symm
    | 1, hv => simp at hv; exact .inr hv.symm
    | j + 2, hv => simp at hv
  refine ⟨ro, rc, rs, b, off, h1, h2, ⟨h3.ad, fun e => Nat.lt_of_lt_of_le (h3.lt e) g.size, h3.le, fun i r hr j v hv => g.cell (h3.at_ i r hr j v hv) (fun e => ?_), fun r hr => ⟨(h3.ok r hr).hc, (h3.ok r hr).hs, ?_⟩⟩, h4⟩
  · cases e
    have x0 := h3.at_ i r hr 0 _ rfl
    have x1 := h3.at_ i r hr 1 _ rfl
    have x2 := h3.at_ i r hr 2 _ rfl
    have l2 : off + i * 3 + 2 < 2 := by
      rw [block_cell hB] at x2
      have := (Array.getElem?_eq_some_iff.1 x2).1
      simpa using this
    omega
  · obtain ⟨s1, s2, s3, s4, cb, coff, s5, s6, s7⟩ := (h3.ok r hr).hC
    refine ⟨s1, s2, s3, s4, cb, coff, s5, fun e => Nat.lt_of_lt_of_le (s6 e) g.size, fun i hi => g.cell (s7 i hi) (fun e => ?_)⟩
    cases e
    rcases nB _ _ (s7 i hi) with h | h <;> cases h

set_option maxRecDepth 10000 in
set_option maxHeartbeats 1600000 in
theorem decidedL {W : World} {lb g mb nn : Nat} {c : Cf} {low : Nat} {u : Nat → Jv} (hk : c.Ok) (h : LL W lb g mb nn c low u) (slot : Nat) (hs : slot < 18446744073709551616) :
    Calls Try.prog 9 #[.pointer (some ⟨lb, 0, none⟩), .int .u64 (slot : Nat)] W fun e w' => ∃ ao m cap, e = .returned (.tuple #[.agg #[.int .u64 (decS c (u slot) : Nat), .slice ao m cap], .bool (c.maj (u slot).fr)]) ∧ Hid (BtOk w' (decS c (u slot)) (.slice ao m cap) (decR c (u slot)) ∧ Below W.heap.size W w') := by
  obtain ⟨W1, hW1⟩ : ∃ W1, W.alloc (.cells #[.int .u64 0, .slice none 0 0] 40) = W1 := ⟨_, rfl⟩
  have B1 : Hid (Below W.heap.size W W1) := by rw [← hW1]; exact below_alloc1 W _
  have C1 : Hid (W1.heap[W.heap.size]? = some (.cells #[.int .u64 0, .slice none 0 0] 40 (0, 0))) := by rw [← hW1]; exact alloc_atK _ _
  have HL := hide (h.kept B1.out)
  have HM := hide (madeL HL.out)
  have q2 : W1.cell? ⟨lb, 2, none⟩ = some (.map (some mb)) := HL.out.c 2
  have ql : lb < W1.heap.size := block_lt HL.out.blk
  obtain ⟨m, t1, t2, t3⟩ := HL.out.tal
  have hlk := t1.look hs
  have HT := hide (t2 slot)
  have HA := hide (t3 slot)
  clear t1 t2 t3 h hs
  generalize m slot = tl at *
  obtain ⟨num, node, fr, st, ro, n, rc, rs, b, off⟩ := tl
  unfold Jt.cells at hlk
  obtain ⟨W2, hW2⟩ : ∃ W2, W1.alloc (.cells #[.int .u64 (num : Nat), .int .i64 node, .int .u32 (fr : Nat), .int .u64 (st : Nat), .slice ro n rc] 78) = W2 := ⟨_, rfl⟩
  have B2 : Hid (Below W1.heap.size W1 W2) := by rw [← hW2]; exact below_alloc1 W1 _
  have C2 : Hid (W2.heap[W1.heap.size]? = some (.cells #[.int .u64 (num : Nat), .int .i64 node, .int .u32 (fr : Nat), .int .u64 (st : Nat), .slice ro n rc] 78 (0, 0))) := by rw [← hW2]; exact alloc_atK _ _
  have HDN : Hid (Calls Try.prog 19 #[.pointer (some ⟨lb, 0, none⟩), .agg #[.int .u64 (num : Nat), .int .i64 node, .int .u32 (fr : Nat), .int .u64 (st : Nat), .slice ro n rc]] W2 fun e w' => e = .returned (.bool (c.maj fr)) ∧ Hid (Below W2.heap.size W2 w')) := doneL hk (HL.out.kept B2.out) ⟨num, node, fr, st, ro, n, rc, rs, b, off⟩ HT.out.hf
  have HTW : Hid (∀ V, Below W2.heap.size W2 V → Calls Try.prog 21 #[.agg #[.int .u64 (st : Nat), .slice ro n rc]] V fun e w' => ∃ ao m cap, e = .returned (.agg #[.int .u64 (st : Nat), .slice ao m cap]) ∧ Hid (BtOk w' st (.slice ao m cap) (rs.map Rq.val) ∧ Below V.heap.size V w')) := fun V hb => by
    have hb1 := B2.out.trans (hb.mono B2.out.size)
    exact twin_any st HT.out.hs n rc HT.out.hl ((HT.out.hR.below hb1).wide hb1.size)
  have HU : Hid (u slot = ⟨num, node, fr, st, rs.map Rq.val⟩) := HA.out.symm
  have e1 : (u slot).fr = fr := by rw [HU.out]
  have e2 : (u slot).st = st := by rw [HU.out]
  have e3 : (u slot).rs = rs.map Rq.val := by rw [HU.out]
  unfold decS decR
  rw [e1, e2, e3]
  have HW1 := hide hW1
  have HW2 := hide hW2
  clear e1 e2 e3 HU HA HT hW1 hW2 hk HL
  generalize rs.map Rq.val = rv at *
  generalize c.maj fr = z at *
  go_enter Try.func9, Try.ntmps9
  go_upto_region 1 with fail
  rw [HW1.out]
  clear HW1
  go_wp2_with fail
  refine HM.out.mono ?_
  rintro e w1 ⟨rfl, hw⟩
  rw [hw]
  clear hw HM
  go_upto_region 4 with fail
  rw [HW2.out]
  clear HW2 hlk q2 ql
  have t0 := block_cell C2.out 0
  have t1 := block_cell C2.out 1
  have t2 := block_cell C2.out 2
  have t3 := block_cell C2.out 3
  have t4 := block_cell C2.out 4
  simp at t0 t1 t2 t3 t4
  go_wp2_with fail
  refine HDN.out.mono ?_
  rintro e w3 ⟨rfl, G3⟩
  clear t0 t1 t2 t3 t4 HDN
  have D1 : Hid (w3.heap[W.heap.size]? = some (.cells #[.int .u64 0, .slice none 0 0] 40 (0, 0))) := (G3.out.block _ (Nat.lt_of_lt_of_le (block_lt C1.out) B2.out.size)).trans ((B2.out.block _ (block_lt C1.out)).trans C1.out)
  have D2 : Hid (w3.heap[W1.heap.size]? = some (.cells #[.int .u64 (num : Nat), .int .i64 node, .int .u32 (fr : Nat), .int .u64 (st : Nat), .slice ro n rc] 78 (0, 0))) := (G3.out.block _ (block_lt C2.out)).trans C2.out
  have B3 : Hid (Below W.heap.size W w3) := B1.out.trans ((B2.out.trans (G3.out.mono B2.out.size)).mono B1.out.size)
  cases z with
  | false =>
    have x0 := block_cell D1.out 0
    have x1 := block_cell D1.out 1
    have f0 := block_free D1.out 0
    have f1 := block_free D1.out 1
    simp at x0 x1
    have hlt := block_lt D1.out
    have FIN : Hid (∀ u0 u1, Below W.heap.size W ((w3.setCell ⟨W.heap.size, 0, none⟩ u0).setCell ⟨W.heap.size, 1, none⟩ u1)) := fun u0 u1 => (B3.out.setCell (p := ⟨W.heap.size, 0, none⟩) (Nat.le_refl _) _).setCell (p := ⟨W.heap.size, 1, none⟩) (Nat.le_refl _) _
    go_wp2
    refine bodyPost_ret (v := .tuple #[.agg #[.int .u64 0, .slice none 0 0], .bool false]) (by simp [results, Try.results9, go_sem, x0, x1]) rfl ⟨none, 0, 0, rfl, ⟨none, 0, [], 0, 0, rfl, rfl, Rqs.nil _ _ _, by decide⟩, FIN.out _ _⟩
  | true =>
    have t3 := block_cell D2.out 3
    have t4 := block_cell D2.out 4
    simp at t3 t4
    go_wp2_with fail
    refine (HTW.out w3 G3.out).mono ?_
    rintro e w4 ⟨ao, m', cap, rfl, G4⟩
    clear t3 t4 HTW
    have E1 : Hid (w4.heap[W.heap.size]? = some (.cells #[.int .u64 0, .slice none 0 0] 40 (0, 0))) := (G4.out.2.block _ (block_lt D1.out)).trans D1.out
    have x0 := block_cell E1.out 0
    have x1 := block_cell E1.out 1
    have f0 := block_free E1.out 0
    have f1 := block_free E1.out 1
    simp at x0 x1
    have hlt := block_lt E1.out
    have B4 : Hid (Below W.heap.size W w4) := B3.out.trans (G4.out.2.mono B3.out.size)
    have FIN : Hid (∀ u0 u1, BtOk ((w4.setCell ⟨W.heap.size, 0, none⟩ u0).setCell ⟨W.heap.size, 1, none⟩ u1) st (.slice ao m' cap) rv ∧ Below W.heap.size W ((w4.setCell ⟨W.heap.size, 0, none⟩ u0).setCell ⟨W.heap.size, 1, none⟩ u1)) := fun u0 u1 => ⟨BtOk.set G4.out.1 E1.out u0 u1, (B4.out.setCell (p := ⟨W.heap.size, 0, none⟩) (Nat.le_refl _) _).setCell (p := ⟨W.heap.size, 1, none⟩) (Nat.le_refl _) _⟩
    go_wp2
    refine bodyPost_ret (v := .tuple #[.agg #[.int .u64 (st : Nat), .slice ao m' cap], .bool true]) (by simp [results, Try.results9, go_sem, x0, x1]) rfl ⟨ao, m', cap, rfl, FIN.out _ _⟩
end Go.Proofs.Ytnpekdkfjjeeeaa
namespace Go.Proofs.Ytnpekdkfjjeeeaa
open Go.RowKit

set_option maxRecDepth 10000 in
set_option maxHeartbeats 800000 in
theorem any0 (ao : Option Addr) (n cap : Nat) (c : Int) (hn : c = 0 → n = 0) (w : World) : Calls Try.prog 29 #[.agg #[.slice ao n cap, .int .i64 c]] w fun e w' => e = .returned (.bool (c != 0)) ∧ Hid (Below w.heap.size w w') := by
  have b1 : Hid (∀ o, Below w.heap.size w (w.alloc o)) := fun o => (Below.refl _ w).alloc (Nat.le_refl _) o
  by_cases hc : c = 0
  · obtain rfl := hn hc
    subst hc
    clear hn
    go_enter Try.func29, Try.ntmps29
    go_wp2
    go_ret
    exact ⟨rfl, b1.out _⟩
  · have hd : (c != 0) = true := by simp [hc]
    clear hn hc
    rw [hd]
    go_enter Try.func29, Try.ntmps29
    go_wp2
    go_ret
    exact ⟨rfl, b1.out _⟩
theorem Chain.otherS {n q : Nat} {W W' : World} (hg : W.grownBy W' (some q)) {o : Option Addr} {k m : Nat} (hq : W.cell? ⟨q, 0, none⟩ = some (.slice o k m)) : ∀ {L : List Lk} {u : Value} {c : Int}, Chain n W L u c → Chain n W' L u c
  | [], _, _, h => h
  | l :: r, u, c, h => by
    obtain ⟨g, v, e, hlt, h0, h1, h2, h3⟩ := h
    have hne : g ≠ q := fun e => by rw [e, hq] at h0; cases h0
    have hne' : some g ≠ some q := fun e => hne (by cases e; rfl)
    exact ⟨g, v, e, hlt, hg.cell h0 hne', hg.cell h1 hne', hg.cell h2 hne', Chain.otherS hg hq h3⟩
structure Wl (w : World) (l : Lk) (L : List Lk) (ao : Option Addr) (n cp : Nat) (c : Int) (k : Nat) (v : Value) (W : World) : Prop where
  bel : Below w.heap.size w W
  box : W.heap[w.heap.size]? = some (.cells #[.slice ao n cp, .int .i64 c] 62 (0, 0))
  res : ∃ Z : Array Value, W.heap[w.heap.size + 1]? = some (.cells Z 62 (0, 0)) ∧ Z.size = 2
  row : W.ownsRow w.heap.size 118 2 v (k + 1) (lkcells (l :: L.take k))
theorem row_fault {base k : Nat} {w : World} {v : Value} {xs : List Value} {j : Nat} {X : Array Value} (h : w.ownsRow base 118 2 v k xs) (hX : w.heap[j]? = some (.cells X 62 (0, 0))) : v.ownBlock ≠ some j := fun e => by
  rcases h.2 with ⟨rfl, _⟩ | ⟨g', cap, cur, rfl, _, hb, _⟩
  · cases e
  · cases e
    rw [hb] at hX
    cases hX
theorem Wl.next {w : World} {l : Lk} {L : List Lk} {ao : Option Addr} {n cp : Nat} {c : Int} {k : Nat} {v v' : Value} {W w2 : World} {o : Obj} (h : Wl w l L ao n cp c k v W) {x : Lk} (hx : L[k]? = some x) (ho : w2.ownsRow w.heap.size 118 2 v' (k + 1 + 1) (lkcells (l :: L.take k) ++ [.string x.layer, .int .i64 x.at_])) (hg : (W.alloc o).grownBy w2 v.ownBlock) : Wl w l L ao n cp c (k + 1) v' w2 := by
  have gA := World.grownBy_alloc W o none
  have row1 := row_quietT h.row gA
  obtain ⟨Z, z1, z2⟩ := h.res
  have b1 := (gA.block _ (block_lt h.box) (by simp)).trans h.box
  have r1 := (gA.block _ (block_lt z1) (by simp)).trans z1
  have bel1 := h.bel.grown gA h.bel.size (fun k e => by cases e)
  refine ⟨bel1.grown hg bel1.size (fun k e => (row1.lt k e).1), (hg.block _ (block_lt b1) (fun e => row_fault row1 b1 e.symm)).trans b1, ⟨Z, (hg.block _ (block_lt r1) (fun e => row_fault row1 r1 e.symm)).trans r1, z2⟩, ?_⟩
  have e : lkcells (l :: L.take (k + 1)) = lkcells (l :: L.take k) ++ [.string x.layer, .int .i64 x.at_] := by
    rw [List.take_add_one, hx]
    exact lkcells_snoc (l :: L.take k) x
  rw [e]
  exact ho
set_option maxRecDepth 10000 in
set_option maxHeartbeats 1600000 in
theorem wrap0 (layer : ByteArray) (at_ c : Int) {L : List Lk} {ao : Option Addr} {b off : Nat} (n cp : Nat) (hn : L.length = n) (hl : n ≤ 100) (w : World) (hf : FV w.heap.size w ao L b off) : Calls Try.prog 30 #[.string layer, .int .i64 at_, .agg #[.slice ao n cp, .int .i64 c]] w (FvP w (⟨layer, at_⟩ :: L) c) := by
  obtain ⟨i0, hi0, hz0, hz1, hz2⟩ := info_parts infoLink
  unfold FvP
  have HF := hide hf
  have HN := hide hn
  clear hf hn
  obtain ⟨W2, hW2⟩ : ∃ W2, (w.alloc (.cells #[.slice ao n cp, .int .i64 c] 62)).alloc (.cells #[.slice none 0 0, .int .i64 0] 62) = W2 := ⟨_, rfl⟩
  have e1 : (w.alloc (.cells #[.slice ao n cp, .int .i64 c] 62)).heap.size = w.heap.size + 1 := by simp
  have s2 : W2.heap.size = w.heap.size + 1 + 1 := by rw [← hW2]; simp
  have WL0 : Hid (Wl w ⟨layer, at_⟩ L ao n cp c 0 (.slice (some ⟨w.heap.size + 1 + 1, 0, none⟩) 1 1) (W2.alloc (.cells #[.string layer, .int .i64 at_] 118))) := by
    have q1 : W2.heap[w.heap.size + 1]? = some (.cells #[.slice none 0 0, .int .i64 0] 62 (0, 0)) := by rw [← hW2, ← e1]; exact alloc_atK _ _
    have q0 : W2.heap[w.heap.size]? = some (.cells #[.slice ao n cp, .int .i64 c] 62 (0, 0)) := by rw [← hW2]; exact ((World.grownBy_alloc _ _ none).block _ (by rw [e1]; omega) (by simp)).trans (alloc_atK _ _)
    have b2 : Below w.heap.size w W2 := by rw [← hW2]; exact ((Below.refl _ w).alloc (Nat.le_refl _) _).alloc (by simp) _
    have gA := World.grownBy_alloc W2 (.cells #[.string layer, .int .i64 at_] 118) none
    refine ⟨b2.grown gA b2.size (fun k e => by cases e), (gA.block _ (block_lt q0) (by simp)).trans q0, ⟨_, (gA.block _ (block_lt q1) (by simp)).trans q1, rfl⟩, rfl, .inr ⟨w.heap.size + 1 + 1, 1, #[.string layer, .int .i64 at_], rfl, by omega, ?_, by omega, by unfold maxLen; omega, rfl, rfl⟩⟩
    rw [← s2]
    exact alloc_atK _ _
  have HW2 := hide hW2
  have HS2 := hide s2
  clear hW2 e1 s2
  go_enter Try.func30, Try.ntmps30
  go_wp2
  rw [HW2.out]
  go_loopw [7, 8] (fun v i wr => ∃ k : Nat, k ≤ n ∧ i = .int .i64 k ∧ Hid (Wl w ⟨layer, at_⟩ L ao n cp c k v wr)) (fun _ i _ => n - (intOf i).toNat)
  case atStart => exact ⟨0, by omega, rfl, WL0.out⟩
  case round =>
    obtain ⟨k, hk, rfl, HR⟩ := hrel
    clear WL0
    have x0 := block_cell HR.out.box 0
    have x1 := block_cell HR.out.box 1
    have hlx := block_lt HR.out.box
    simp at x0 x1
    by_cases hlt : k < n
    · obtain ⟨ly, a1, hg, e1, hbl, p0, p1⟩ := (HF.out.below HR.out.bel).get (k := k) (by rw [HN.out]; exact hlt)
      rw [e1] at x0
      have hbw : b < wr.heap.size := Nat.lt_of_lt_of_le hbl HR.out.bel.size
      have HOW : Hid (∀ o, (wr.alloc o).ownsRow w.heap.size 118 2 u7 (k + 1) (lkcells (⟨layer, at_⟩ :: L.take k))) := fun o => row_quietT HR.out.row (World.grownBy_alloc _ _ none)
      have HNX : Hid (∀ (v' : Value) (w2 : World) (o : Obj), w2.ownsRow w.heap.size 118 2 v' (k + 1 + 1) (lkcells (⟨layer, at_⟩ :: L.take k) ++ [.string ly, .int .i64 a1]) → (wr.alloc o).grownBy w2 u7.ownBlock → Wl w ⟨layer, at_⟩ L ao n cp c (k + 1) v' w2) := fun v' w2 o ho hg2 => HR.out.next hg ho hg2
      have HSW : Hid (w.heap.size ≤ wr.heap.size) := HR.out.bel.size
      clear hg e1 hbl
      go_wp2_with (first
        | (at_builtin; refine wpList_append_own_wide _ rfl (.tmp 20) (.tmp 26) 60 rfl w.heap.size 118 i0 (.agg #[.string ⟨#[]⟩, .int .i64 0]) 2 24 Try.underlying60 hi0 hz0 hz1 hz2 rfl (by decide) u7 (k + 1) (lkcells (⟨layer, at_⟩ :: L.take k)) rfl (HOW.out _) ⟨wr.heap.size, 0, none⟩ 1 1 [.string ly, .int .i64 a1] rfl rfl (cells_newK _ _ _) (by simp [Value.oneCell']) (by unfold maxLen; omega) (by omega) (Nat.le_trans HSW.out (by simp)) ?_; intro v' w2 ho hg _; obtain ⟨g', cap', rfl⟩ := ownsRow_succ ho; have NX := hide (HNX.out _ _ _ ho hg); clear ho hg))
      go_roundw
      case rel => exact ⟨k + 1, by omega, by go_num, NX.out⟩
      case measure => simp [intOf]; omega
    · obtain rfl : k = n := by omega
      have hrow := HR.out.row
      rw [List.take_of_length_le (by rw [HN.out]; omega)] at hrow
      have hlen : (⟨layer, at_⟩ :: L : List Lk).length = k + 1 := by rw [List.length_cons, HN.out]
      rw [← hlen] at hrow
      obtain ⟨ao', cap', b', rfl, hfv⟩ := fv_row hrow (by rw [hlen]; omega)
      obtain ⟨Z, z1, z2⟩ := HR.out.res
      have y0 : (wr.cell? ⟨w.heap.size + 1, 0, none⟩).isSome = true := by rw [block_cell z1 0]; simp [z2]
      have y1 : (wr.cell? ⟨w.heap.size + 1, 1, none⟩).isSome = true := by rw [block_cell z1 1]; simp [z2]
      obtain ⟨p0, hp0⟩ := Option.isSome_iff_exists.1 y0
      obtain ⟨p1, hp1⟩ := Option.isSome_iff_exists.1 y1
      have g0 := block_free z1 0
      have g1 := block_free z1 1
      have hlz := block_lt z1
      have FIN : Hid (∀ x y, FV ((wr.setCell ⟨w.heap.size + 1, 0, none⟩ x).setCell ⟨w.heap.size + 1, 1, none⟩ y).heap.size ((wr.setCell ⟨w.heap.size + 1, 0, none⟩ x).setCell ⟨w.heap.size + 1, 1, none⟩ y) ao' (⟨layer, at_⟩ :: L) b' 0 ∧ Below w.heap.size w ((wr.setCell ⟨w.heap.size + 1, 0, none⟩ x).setCell ⟨w.heap.size + 1, 1, none⟩ y)) := fun x y => by
        have ra := hrow.kept (grown_set wr (w.heap.size + 1) 0 x) (.inr (row_fault hrow z1))
        have za := heap_setCell_same wr (w.heap.size + 1) 0 _ _ x z1
        have rb := ra.kept (grown_set _ (w.heap.size + 1) 1 y) (.inr (row_fault ra za))
        obtain ⟨ao2, cap2, b2, e, hf⟩ := fv_row rb (by rw [hlen]; omega)
        cases e
        refine ⟨?_, (HR.out.bel.setCell (p := ⟨w.heap.size + 1, 0, none⟩) (by simp) x).setCell (p := ⟨w.heap.size + 1, 1, none⟩) (by simp) y⟩
        have hbb : b2 = b' := by
          have e1 := hf.ad (by simp)
          have e2 := hfv.ad (by simp)
          rw [e1] at e2
          cases e2
          rfl
        rw [hbb] at hf
        exact hf
      clear y0 y1 z1 hrow hfv hlen
      go_wp2
      refine bodyPost_ret (v := .agg #[.slice ao' (L.length + 1) cap', .int .i64 c]) (by simp [results, Try.results30, go_sem, hp0, hp1]) rfl ⟨ao', cap', rfl, b', 0, ?_⟩
      exact FIN.out _ _
end Go.Proofs.Ytnpekdkfjjeeeaa
