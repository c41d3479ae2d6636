import Derived.Test.YtiijbboigebhcaaGreatDoorM0
import Derived.Test.YtiijbboigebhcaaGreatDoorM30
import Derived.Test.YtiijbboigebhcaaGreatDoorNRd
import Derived.Test.YtiijbboigebhcaaGreatDoorNUn
import Derived.Test.YtiijbboigebhcaaGreatDoorM19
namespace Go.Proofs.YtiijbboigebhcaaGreatDoor
open Go.RowKit Crc

set_option maxRecDepth 10000 in
set_option maxHeartbeats 400000 in
theorem same_walk (b1 o1 b2 o2 : Nat) (a1 a2 : Option Addr) (B : List Nat) (n c1 c2 : Nat) (w : World) (hl : n ≤ 140737488355328) (h1 : 0 < n → a1 = some ⟨b1, o1, none⟩) (h2 : 0 < n → a2 = some ⟨b2, o2, none⟩)
  (k1 : ∀ i, i < n → w.cell? ⟨b1, o1 + i, none⟩ = some (.int .u8 ((B.getD i 0 : Nat) : Int))) (k2 : ∀ i, i < n → w.cell? ⟨b2, o2 + i, none⟩ = some (.int .u8 ((B.getD i 0 : Nat) : Int))) :
    Calls Tryz.prog 10 #[.slice a1 n c1, .slice a2 n c2] w fun e w' => e = .returned (.bool true) ∧ ∃ q, w' = w.drewN q := by
  have H1 : Hid (0 < n → a1 = some ⟨b1, o1, none⟩) := h1
  have H2 : Hid (0 < n → a2 = some ⟨b2, o2, none⟩) := h2
  have K1 : Hid (∀ i, i < n → w.cell? ⟨b1, o1 + i, none⟩ = some (.int .u8 ((B.getD i 0 : Nat) : Int))) := k1
  have K2 : Hid (∀ i, i < n → w.cell? ⟨b2, o2 + i, none⟩ = some (.int .u8 ((B.getD i 0 : Nat) : Int))) := k2
  clear h1 h2 k1 k2
  go_enter Tryz.func10, Tryz.ntmps10
  go_wp2
  go_loopw [5] (fun i wr => ∃ k q : Nat, k ≤ n ∧ i = .int .i64 k ∧ wr = w.drewN q) (fun i _ => n - (intOf i).toNat)
  case atStart => exact ⟨0, 0, by omega, rfl, rfl⟩
  case round =>
    obtain ⟨k, q, hk, rfl, rfl⟩ := hrel
    by_cases hlt : k < n
    · obtain rfl := H1.out (by omega)
      obtain rfl := H2.out (by omega)
      have g1 := K1.out k hlt
      have g2 := K2.out k hlt
      generalize B.getD k 0 = c at *
      go_wp2
      go_quiet (fail)
      go_wp2
      go_roundw
      case rel => exact ⟨k + 1, _, by omega, by go_num, rfl⟩
      case measure => simp [intOf]; omega
    · go_wp2
      go_ret
      exact ⟨rfl, q, rfl⟩
theorem same_any {l1 l2 : Nat} {a1 a2 : Option Addr} {B : List Nat} {n1 n2 c1 c2 : Nat} {w : World} (h1 : Shows l1 w a1 n1 c1 B) (h2 : Shows l2 w a2 n2 c2 B) :
    Calls Tryz.prog 10 #[.slice a1 n1 c1, .slice a2 n2 c2] w fun e w' => e = .returned (.bool true) ∧ ∃ q, w' = w.drewN q := by
  obtain ⟨p1, _, p3, _, b, off, p5, _, p7⟩ := h1
  obtain ⟨q1, _, _, _, b', off', q5, _, q7⟩ := h2
  obtain rfl : n1 = n2 := by omega
  exact same_walk b off b' off' a1 a2 B n1 c1 c2 w p3 p5 q5 p7 q7
end Go.Proofs.YtiijbboigebhcaaGreatDoor
namespace Go.Proofs.YtiijbboigebhcaaGreatDoor
open Go.RowKit Crc

theorem owns_shows {base : Nat} {w : World} {ao : Option Addr} {n cap : Nat} {B : List Nat} (h : Owns base w (.slice ao n cap) B) : Shows w.heap.size w ao n cap B := by
  obtain ⟨a, c, e, hs, -⟩ := h.form
  cases e
  exact hs
set_option maxRecDepth 10000 in
set_option maxHeartbeats 3200000 in
theorem sameImg (s t x y u : Nat) {base1 base2 : Nat} {w : World} {a1 a2 b1 b2 c1 c2 d1 d2 f1 f2 : Option Addr} {na ac1 ac2 nb bc1 bc2 nc cc1 cc2 nd dc1 dc2 nf fc1 fc2 : Nat} {A : List Ac} {H : List Ho} {J : List En} {D : List De} {S1 S2 : List Sn} (h1 : OwnBk base1 w (.slice a1 na ac1) (.slice b1 nb bc1) (.slice c1 nc cc1) A H J) (h2 : OwnBk base2 w (.slice a2 na ac2) (.slice b2 nb bc2) (.slice c2 nc cc2) A H J) (r1 : Rw base1 w 58 13 De.cells (.slice d1 nd dc1) D) (r2 : Rw base2 w 58 13 De.cells (.slice d2 nd dc2) D) (s1 : OwnSs base1 w (.slice f1 nf fc1) S1) (s2 : OwnSs base2 w (.slice f2 nf fc2) S2) (hs : S1.map Sn.val = S2.map Sn.val) (hna : na ≤ 1000) (hnb : nb ≤ 1000) (hnc : nc ≤ 1000) (hnd : nd ≤ 1000) (hnf : nf ≤ 1000) :
    Calls Tryz.prog 15 #[.agg #[.int .u64 (s : Int), .int .u64 (t : Int), .int .u64 (x : Int), .int .u64 (y : Int), .slice a1 na ac1, .slice b1 nb bc1, .slice c1 nc cc1, .slice d1 nd dc1, .int .u64 (u : Int), .slice f1 nf fc1], .agg #[.int .u64 (s : Int), .int .u64 (t : Int), .int .u64 (x : Int), .int .u64 (y : Int), .slice a2 na ac2, .slice b2 nb bc2, .slice c2 nc cc2, .slice d2 nd dc2, .int .u64 (u : Int), .slice f2 nf fc2]] w fun e w' => e = .returned (.bool true) ∧ Hid (Below w.heap.size w w') := by
  obtain ⟨W2, hW2⟩ : ∃ W2, (w.alloc (.cells #[.int .u64 (s : Int), .int .u64 (t : Int), .int .u64 (x : Int), .int .u64 (y : Int), .slice a1 na ac1, .slice b1 nb bc1, .slice c1 nc cc1, .slice d1 nd dc1, .int .u64 (u : Int), .slice f1 nf fc1] 33)).alloc (.cells #[.int .u64 (s : Int), .int .u64 (t : Int), .int .u64 (x : Int), .int .u64 (y : Int), .slice a2 na ac2, .slice b2 nb bc2, .slice c2 nc cc2, .slice d2 nd dc2, .int .u64 (u : Int), .slice f2 nf fc2] 33) = W2 := ⟨_, rfl⟩
  have e1 : (w.alloc (.cells #[.int .u64 (s : Int), .int .u64 (t : Int), .int .u64 (x : Int), .int .u64 (y : Int), .slice a1 na ac1, .slice b1 nb bc1, .slice c1 nc cc1, .slice d1 nd dc1, .int .u64 (u : Int), .slice f1 nf fc1] 33)).heap.size = w.heap.size + 1 := by simp
  have b0 : Below w.heap.size w W2 := by rw [← hW2]; exact ((Below.refl _ w).alloc (Nat.le_refl _) _).alloc (by simp) _
  have q1 : W2.heap[w.heap.size]? = some (.cells #[.int .u64 (s : Int), .int .u64 (t : Int), .int .u64 (x : Int), .int .u64 (y : Int), .slice a1 na ac1, .slice b1 nb bc1, .slice c1 nc cc1, .slice d1 nd dc1, .int .u64 (u : Int), .slice f1 nf fc1] 33 (0, 0)) := by rw [← hW2]; exact ((World.grownBy_alloc _ _ none).block _ (by rw [e1]; omega) (by simp)).trans (alloc_atN _ _)
  have q2 : W2.heap[w.heap.size + 1]? = some (.cells #[.int .u64 (s : Int), .int .u64 (t : Int), .int .u64 (x : Int), .int .u64 (y : Int), .slice a2 na ac2, .slice b2 nb bc2, .slice c2 nc cc2, .slice d2 nd dc2, .int .u64 (u : Int), .slice f2 nf fc2] 33 (0, 0)) := by rw [← hW2, ← e1]; exact alloc_atN _ _
  have SH := hide (sameHouse_any x y u (h1.past (below_none b0) (fun g e => by cases e)) (h2.past (below_none b0) (fun g e => by cases e)) (r1.below b0) (r2.below b0) hna hnb hnc hnd)
  have Z1 := hide (s1.quiet (below_none b0))
  have Z2 := hide (s2.quiet (below_none b0))
  have HL := hide s1.row.num'
  have HVV := hide hs
  have QQ := hide (And.intro q1 q2)
  have BB := hide b0
  have y0 := block_cell q1 0
  have z0 := block_cell q2 0
  have y1 := block_cell q1 1
  have z1 := block_cell q2 1
  have y2 := block_cell q1 2
  have z2 := block_cell q2 2
  have y3 := block_cell q1 3
  have z3 := block_cell q2 3
  have y4 := block_cell q1 4
  have z4 := block_cell q2 4
  have y5 := block_cell q1 5
  have z5 := block_cell q2 5
  have y6 := block_cell q1 6
  have z6 := block_cell q2 6
  have y7 := block_cell q1 7
  have z7 := block_cell q2 7
  have y8 := block_cell q1 8
  have z8 := block_cell q2 8
  have y9 := block_cell q1 9
  have z9 := block_cell q2 9
  simp at y0 z0 y1 z1 y2 z2 y3 z3 y4 z4 y5 z5 y6 z6 y7 z7 y8 z8 y9 z9
  have hszz := block_lt q2
  have hszy := block_lt q1
  clear h1 h2 r1 r2 s1 s2 hs b0 q1 q2 e1
  go_enter Tryz.func15, Tryz.ntmps15
  go_wp2_with fail
  refine SH.out.mono ?_
  rintro e W3 ⟨rfl, G3⟩
  have P1 := hide ((G3.out.block _ hszy).trans QQ.out.1)
  have P2 := hide ((G3.out.block _ hszz).trans QQ.out.2)
  have Z1 := hide (Z1.out.quiet (below_none G3.out))
  have Z2 := hide (Z2.out.quiet (below_none G3.out))
  have BB := hide (below_trans1 BB.out G3.out)
  clear y0 z0 y1 z1 y2 z2 y3 z3 y4 z4 y5 z5 y6 z6 y7 z7 y8 z8 y9 z9 hszz hszy SH hW2 QQ G3
  have y9 := block_cell P1.out 9
  have z9 := block_cell P2.out 9
  simp at y9 z9
  have hszy := block_lt P1.out
  have hszz := block_lt P2.out
  have R3 := hide (Below.refl W3.heap.size W3)
  go_wp2
  clear y9 z9 hszy hszz
  go_loopw [5] (fun i wr => ∃ k : Nat, k ≤ nf ∧ i = .int .i64 k ∧ Hid (Below W3.heap.size W3 wr)) (fun i _ => nf - (intOf i).toNat)
  case atStart => exact ⟨0, by omega, rfl, R3.out⟩
  case round =>
    obtain ⟨k, hk, rfl, HS⟩ := hrel
    have q1 := (HS.out.block _ (block_lt P1.out)).trans P1.out
    have q2 := (HS.out.block _ (block_lt P2.out)).trans P2.out
    have y9 := block_cell q1 9
    have z9 := block_cell q2 9
    simp at y9 z9
    have hszy := block_lt q1
    have hszz := block_lt q2
    clear q1 q2
    by_cases hlt : k < nf
    · obtain ⟨e1, hx1⟩ : ∃ e, S1[k]? = some e := ⟨_, List.getElem?_eq_getElem (by rw [HL.out]; exact hlt)⟩
      obtain ⟨e2, hx2, hev⟩ : ∃ e, S2[k]? = some e ∧ e1.val = e.val := by
        have h := congrArg (fun l => l[k]?) HVV.out
        simp only [List.getElem?_map, hx1] at h
        cases h2 : S2[k]? with
        | none => rw [h2] at h; cases h
        | some e => rw [h2] at h; cases h' : e1.val; exact ⟨e, rfl, by simpa [h'] using h⟩
      have O1 := hide ((Z1.out.quiet (below_none HS.out)).own e1 (List.mem_of_getElem? hx1))
      have O2 := hide ((Z2.out.quiet (below_none HS.out)).own e2 (List.mem_of_getElem? hx2))
      have hn1 := Z1.out.cn e1 (List.mem_of_getElem? hx1)
      have hn2 := Z2.out.cn e2 (List.mem_of_getElem? hx2)
      obtain ⟨v1, v2, v3, v4, v5⟩ : e1.cl = e2.cl ∧ e1.sq = e2.sq ∧ e1.st = e2.st ∧ e1.cd = e2.cd ∧ e1.D = e2.D := by
        have h : (e1.cl, e1.sq, e1.st, e1.cd, e1.D) = (e2.cl, e2.sq, e2.st, e2.cd, e2.D) := hev
        simpa using h
      have v6 : e1.cn = e2.cn := by rw [hn1, hn2, v5]
      obtain ⟨g1, hg1, hgl1, -, -, hc1⟩ := Z1.out.row.at_ len_Sn hx1
      obtain ⟨g2, hg2, hgl2, -, -, hc2⟩ := Z2.out.row.at_ len_Sn hx2
      have c0 := (HS.out.cell (p := ⟨g1, k * 5 + 0, none⟩) hgl1).trans (hc1 0 _ rfl)
      have w0 := (HS.out.cell (p := ⟨g2, k * 5 + 0, none⟩) hgl2).trans (hc2 0 _ rfl)
      have c1 := (HS.out.cell (p := ⟨g1, k * 5 + 1, none⟩) hgl1).trans (hc1 1 _ rfl)
      have w1 := (HS.out.cell (p := ⟨g2, k * 5 + 1, none⟩) hgl2).trans (hc2 1 _ rfl)
      have c2 := (HS.out.cell (p := ⟨g1, k * 5 + 2, none⟩) hgl1).trans (hc1 2 _ rfl)
      have w2 := (HS.out.cell (p := ⟨g2, k * 5 + 2, none⟩) hgl2).trans (hc2 2 _ rfl)
      have c3 := (HS.out.cell (p := ⟨g1, k * 5 + 3, none⟩) hgl1).trans (hc1 3 _ rfl)
      have w3 := (HS.out.cell (p := ⟨g2, k * 5 + 3, none⟩) hgl2).trans (hc2 3 _ rfl)
      have c4 := (HS.out.cell (p := ⟨g1, k * 5 + 4, none⟩) hgl1).trans (hc1 4 _ rfl)
      have w4 := (HS.out.cell (p := ⟨g2, k * 5 + 4, none⟩) hgl2).trans (hc2 4 _ rfl)
      simp only [Nat.add_zero] at c0 w0
      rw [v1] at c0
      rw [v2] at c1
      rw [v3] at c2
      rw [v4] at c3
      rw [v6] at c4
      have SBY : Hid (∀ W, Below wr.heap.size wr W → Calls Tryz.prog 10 #[.slice e1.co e2.cn e1.cc, .slice e2.co e2.cn e2.cc] W fun e w' => e = .returned (.bool true) ∧ ∃ q, w' = W.drewN q) := fun W hb => by
        have o1 := O1.out.quiet (below_none hb)
        have o2 := O2.out.quiet (below_none hb)
        have o1 : Owns base1 W (.slice e1.co e1.cn e1.cc) e1.D := o1
        have o2 : Owns base2 W (.slice e2.co e2.cn e2.cc) e2.D := o2
        rw [v6, v5] at o1
        exact same_any (owns_shows o1) (owns_shows o2)
      have hw1 : g1 < wr.heap.size := Nat.lt_of_lt_of_le hgl1 HS.out.size
      have hw2 : g2 < wr.heap.size := Nat.lt_of_lt_of_le hgl2 HS.out.size
      subst hg1
      subst hg2
      clear hc1 hc2 hx1 hx2 hev hn1 hn2 v1 v2 v3 v4 v5 v6 O1 O2
      obtain ⟨V1, hV1⟩ : ∃ V1, wr.alloc (.cells #[.int .u64 (e2.cl : Int), .int .u64 (e2.sq : Int), .int .u64 (e2.st : Int), .int .i64 e2.cd, .slice e1.co e2.cn e1.cc] 61) = V1 := ⟨_, rfl⟩
      have bV1 : Below wr.heap.size wr V1 := by rw [← hV1]; exact (Below.refl _ wr).alloc (Nat.le_refl _) _
      have sV1 : V1.heap.size = wr.heap.size + 1 := by rw [← hV1]; simp
      have qV1 : V1.heap[wr.heap.size]? = some (.cells #[.int .u64 (e2.cl : Int), .int .u64 (e2.sq : Int), .int .u64 (e2.st : Int), .int .i64 e2.cd, .slice e1.co e2.cn e1.cc] 61 (0, 0)) := by rw [← hV1]; exact alloc_atN _ _
      obtain ⟨V2, hV2⟩ : ∃ V2, V1.alloc (.cells #[.int .u64 (e2.cl : Int), .int .u64 (e2.sq : Int), .int .u64 (e2.st : Int), .int .i64 e2.cd, .slice e2.co e2.cn e2.cc] 61) = V2 := ⟨_, rfl⟩
      have bV2 : Below V1.heap.size V1 V2 := by rw [← hV2]; exact (Below.refl _ V1).alloc (Nat.le_refl _) _
      have qV2 : V2.heap[V1.heap.size]? = some (.cells #[.int .u64 (e2.cl : Int), .int .u64 (e2.sq : Int), .int .u64 (e2.st : Int), .int .i64 e2.cd, .slice e2.co e2.cn e2.cc] 61 (0, 0)) := by rw [← hV2]; exact alloc_atN _ _
      have qV3 := (bV2.block _ (block_lt qV1)).trans qV1
      have z9' := (bV1.cell (p := ⟨w.heap.size + 1, 9, none⟩) hszz).trans z9
      have m0 := (bV1.cell (p := ⟨g2, _, none⟩) hw2).trans w0
      have i0 := block_cell qV3 0
      have j0 := block_cell qV2 0
      have m1 := (bV1.cell (p := ⟨g2, _, none⟩) hw2).trans w1
      have i1 := block_cell qV3 1
      have j1 := block_cell qV2 1
      have m2 := (bV1.cell (p := ⟨g2, _, none⟩) hw2).trans w2
      have i2 := block_cell qV3 2
      have j2 := block_cell qV2 2
      have m3 := (bV1.cell (p := ⟨g2, _, none⟩) hw2).trans w3
      have i3 := block_cell qV3 3
      have j3 := block_cell qV2 3
      have m4 := (bV1.cell (p := ⟨g2, _, none⟩) hw2).trans w4
      have i4 := block_cell qV3 4
      have j4 := block_cell qV2 4
      simp at i0 j0 i1 j1 i2 j2 i3 j3 i4 j4
      have BV := hide (below_trans1 bV1 bV2)
      have hl1 := block_lt qV1
      have hl2 := block_lt qV2
      have hl3 := block_lt qV3
      have hw2V : g2 < V1.heap.size := by omega
      have hszV : w.heap.size + 1 < V1.heap.size := by omega
      have SB2 := hide (SBY.out V2 BV.out)
      clear qV1 qV2 qV3 bV1 bV2 sV1 SBY
      go_wp2_with fail
      refine SB2.out.mono ?_
      rintro e w6 ⟨rfl, q6, hw6⟩
      have B6 : Hid (Below W3.heap.size W3 w6) := by rw [hw6]; exact Go.below_drewN (below_trans1 HS.out BV.out) q6
      clear hw6
      go_wp2
      go_roundw
      case rel => exact ⟨k + 1, by omega, by go_num, B6.out⟩
      case measure => simp [intOf]; omega
    · have BF := hide (below_trans1 BB.out HS.out)
      go_wp2
      go_ret
      exact ⟨rfl, BF.out⟩
/-- Two images of the same values. -/
theorem sameImage_any {m1 m2 : Mi} {base1 base2 : Nat} {w : World} (h1 : m1.Own base1 w) (h2 : m2.Own base2 w) (hv : m1.val = m2.val) (hs : m1.small) : Calls Tryz.prog 15 #[.agg m1.cells, .agg m2.cells] w fun e w' => e = .returned (.bool true) ∧ Hid (Below w.heap.size w w') := by
  obtain ⟨s, t, x, y, A, H, J, D, u, S, a1, na, ac1, b1, nb, bc1, c1, nc, cc1, d1, nd, dc1, f1, nf, fc1⟩ := m1
  obtain ⟨s', t', x', y', A', H', J', D', u', S', a2, na', ac2, b2, nb', bc2, c2, nc', cc2, d2, nd', dc2, f2, nf', fc2⟩ := m2
  have hv : Vm.mk s t x y A H J D u (S.map Sn.val) = Vm.mk s' t' x' y' A' H' J' D' u' (S'.map Sn.val) := hv
  injection hv with e1 e2 e3 e4 e5 e6 e7 e8 e9 e10
  subst e1 e2 e3 e4 e5 e6 e7 e8 e9
  have l1 : na = na' := h1.bk.a.num'.symm.trans h2.bk.a.num'
  have l2 : nb = nb' := h1.bk.h.num'.symm.trans h2.bk.h.num'
  have l3 : nc = nc' := h1.bk.j.num'.symm.trans h2.bk.j.num'
  have l4 : nd = nd' := h1.d.num'.symm.trans h2.d.num'
  have l5 : nf = nf' := by
    have a := h1.s.row.num'
    have b := h2.s.row.num'
    have c := congrArg List.length e10
    simp at c
    have a : S.length = nf := a
    have b : S'.length = nf' := b
    omega
  subst l1 l2 l3 l4 l5
  exact sameImg s t x y u h1.bk h2.bk h1.d h2.d h1.s h2.s e10 hs.1 hs.2.1 hs.2.2.1 hs.2.2.2.1 hs.2.2.2.2
end Go.Proofs.YtiijbboigebhcaaGreatDoor
namespace Go.Proofs.YtiijbboigebhcaaGreatDoor
open Go.RowKit Crc

section
variable {P : Program} {ops : Array Oper} {rest : List Oper} {o : Oper} {a : Act} {Q : Exit → Act → World → Prop}
/-- As wpList_append_ext, and what lay there before stays where the list moved. -/
theorem wpList_append_moved (w : World) (hgd : o.guard = none) (s x : Operand) (t : TypeId)
    (ho : o.op = .call { callee := .builtin .append, args := #[s, x], argTypes := #[t, t] })
    (base : Nat) (e : TypeId) (i : TypeInfo) (z : Value) (size bytes : Nat) (ht : P.underlying t = some (.slice e)) (hi : P.info? e = some i) (hz : i.zero = some z)
    (hsize : i.size = size) (hby : i.bytes = bytes) (hzs : z.cells.size = size) (hsz : 0 < size)
    (v : Value) (n : Nat) (xs : List Value) (hs : a.eval s = v) (hown : w.ownsRow base e size v n xs)
    (ad : Addr) (m c : Nat) (news : List Value) (hx : a.eval x = .slice (some ad) m c) (hl : news.length = m * size) (hnews : ∀ j u, news[j]? = some u → w.cell? (ad.add j) = some u) (h1 : ∀ u ∈ news, u.oneCell' = true)
    (hm : 0 < m) (h63 : n + m ≤ maxLen) (hbytes : (n + m) * bytes ≤ 140737488355328) (hbase : base ≤ w.heap.size)
    (h : ∀ v' w', w'.ownsRow base e size v' (n + m) (xs ++ news) → Ext w w' v v' → (v'.ownBlock = v.ownBlock ∨ w.grownBy w' none) → wpList P ops Q rest (a.put o.dst v') w') : wpList P ops Q (o :: rest) a w := by
  rcases hown.2 with ⟨rfl, rfl⟩ | ⟨g, cap, cur, rfl, hbg, hg, hnc, hcm, hcs, htake⟩
  · have hxs : xs = [] := List.eq_nil_of_length_eq_zero (by have := hown.1; omega)
    subst hxs
    refine wpList_append_grows w hgd s x t ho e i z size bytes ht hi hz hsize hby hzs hsz none 0 0 [] hs (fun _ => ⟨rfl, rfl⟩) (by simp) (fun b hb => by cases hb) ad m c news hx hl hnews h1 (by omega) h63 hbytes ?_
    intro v' w' hown' hgrow
    refine h v' w' ?_ ⟨⟨hgrow.os, hgrow.tape, hgrow.output, hgrow.size, hgrow.block⟩, fun g hg => .inr (hown'.lt g hg).1⟩ (.inr hgrow)
    refine ⟨hown'.1, ?_⟩
    rcases hown'.2 with h0 | ⟨g, cap, cur, hv, hbg, rest⟩
    · exact .inl h0
    · exact .inr ⟨g, cap, cur, hv, by omega, rest⟩
  · by_cases hroom : n + m ≤ cap
    · refine wpList_append_own_spare w hgd s x t ho base e i size ht hi hsize g n cap xs hs hown ad m c news hx hl hnews h1 hroom ?_
      intro w' hown' hgrow
      exact h _ w' hown' ⟨hgrow, fun g' hg' => .inl hg'⟩ (.inl rfl)
    · have holds : ∀ b, some (⟨g, 0, none⟩ : Addr) = some b → ∀ j u, xs[j]? = some u → w.cell? (b.add j) = some u := by
        intro b hb j u hj
        cases hb
        exact hown.cells rfl j u hj
      refine wpList_append_grows w hgd s x t ho e i z size bytes ht hi hz hsize hby hzs hsz (some ⟨g, 0, none⟩) n cap xs hs (fun h => by cases h) hown.1 holds ad m c news hx hl hnews h1 (by omega) h63 hbytes ?_
      intro v' w' hown' hgrow
      refine h v' w' ?_ ⟨⟨hgrow.os, hgrow.tape, hgrow.output, hgrow.size, fun k hk _ => hgrow.block k hk (by simp)⟩, fun g hg => .inr (hown'.lt g hg).1⟩ (.inr hgrow)
      refine ⟨hown'.1, ?_⟩
      rcases hown'.2 with h0 | ⟨g, cap, cur, hv, hbg, rest⟩
      · exact .inl h0
      · exact .inr ⟨g, cap, cur, hv, by omega, rest⟩
end


/-- Cells at the head of a block. -/
def Hr (W : World) (e : TypeId) (z : Nat) (v : Value) (n : Nat) (xs : List Value) : Prop := xs.length = n * z ∧ ((v = .slice none 0 0 ∧ n = 0) ∨ ∃ g cap cur, v = .slice (some ⟨g, 0, none⟩) n cap ∧ n ≤ cap ∧ W.heap[g]? = some (.cells cur e (0, 0)) ∧ cur.toList.take (n * z) = xs)
theorem hr_of {W : World} {base z n : Nat} {e : TypeId} {v : Value} {xs : List Value} (h : W.ownsRow base e z v n xs) : Hr W e z v n xs := by
  refine ⟨h.1, ?_⟩
  rcases h.2 with h0 | ⟨g, cap, cur, h1, _, h3, h4, _, _, h7⟩
  · exact .inl h0
  · exact .inr ⟨g, cap, cur, h1, h4, h3, h7⟩
theorem Hr.kept {W W' : World} {z n : Nat} {e : TypeId} {v : Value} {xs : List Value} {row : Option Nat} (h : Hr W e z v n xs) (hg : W.grownBy W' row) (hne : v.ownBlock = none ∨ v.ownBlock ≠ row) : Hr W' e z v n xs := by
  refine ⟨h.1, ?_⟩
  rcases h.2 with h0 | ⟨g, cap, cur, rfl, h4, h3, h7⟩
  · exact .inl h0
  · refine .inr ⟨g, cap, cur, rfl, h4, (hg.block g (block_lt h3) ?_).trans h3, h7⟩
    rcases hne with hne | hne
    · cases hne
    · exact fun e => hne e
theorem Hr.quiet {W W' : World} {z n : Nat} {e : TypeId} {v : Value} {xs : List Value} (h : Hr W e z v n xs) (hg : W.grownBy W' none) : Hr W' e z v n xs := h.kept hg (by cases v.ownBlock <;> simp)
theorem Hr.block {W : World} {z n : Nat} {e : TypeId} {v : Value} {xs : List Value} (h : Hr W e z v n xs) : v.ownBlock = none ∨ ∃ g cur, v.ownBlock = some g ∧ W.heap[g]? = some (.cells cur e (0, 0)) := by
  rcases h.2 with ⟨rfl, _⟩ | ⟨g, cap, cur, rfl, _, h3, _⟩
  · exact .inl rfl
  · exact .inr ⟨g, cur, rfl, h3⟩
theorem Hr.lt {W : World} {z n : Nat} {e : TypeId} {v : Value} {xs : List Value} (h : Hr W e z v n xs) (g : Nat) (hg : v.ownBlock = some g) : g < W.heap.size := by
  rcases h.block with e | ⟨g', cur, e, h3⟩
  · rw [e] at hg; cases hg
  · rw [e] at hg; cases hg; exact block_lt h3
/-- A block of that type was turned: heads of other types stay. -/
theorem Hr.other {W W' : World} {z n : Nat} {e t : TypeId} {v : Value} {xs : List Value} {row : Option Nat} (h : Hr W e z v n xs) (hg : W.grownBy W' row) (hr : row = none ∨ ∃ g cur, row = some g ∧ W.heap[g]? = some (.cells cur t (0, 0))) (hne : e ≠ t) : Hr W' e z v n xs := by
  rcases hr with rfl | ⟨g, cur, rfl, hgc⟩
  · exact h.quiet hg
  · refine h.kept hg ?_
    rcases h.block with e1 | ⟨g', cur', e1, h3⟩
    · exact .inl e1
    · refine .inr (fun e2 => ?_)
      rw [e1] at e2
      cases e2
      rw [hgc] at h3
      cases h3
      exact hne rfl
theorem Hr.head {W0 W : World} {base z n m : Nat} {e : TypeId} {v v' : Value} {xs ys : List Value} (h : Hr W0 e z v n xs) (hx : W.ownsRow base e z v' (n + m) (xs ++ ys)) (he : v'.ownBlock = v.ownBlock) : Hr W e z v n xs := by
  refine ⟨h.1, ?_⟩
  rcases h.2 with h0 | ⟨g, cap, cur, rfl, h4, h3, h7⟩
  · exact .inl h0
  · rcases hx.2 with ⟨rfl, _⟩ | ⟨g', cap', cur', rfl, _, hg', _, _, _, ht⟩
    · cases he
    · cases he
      refine .inr ⟨g, cap, cur', rfl, h4, hg', ?_⟩
      have h5 := congrArg (List.take (n * z)) ht
      have e5 : List.take (n * z) (xs ++ ys) = xs := by rw [← h.1, List.take_left]
      rw [List.take_take, Nat.add_mul, Nat.min_eq_left (by omega), e5] at h5
      exact h5
/-- Behind an append the old list reads as it did. -/
theorem Hr.grown {W W' : World} {base z n m : Nat} {e : TypeId} {v v' : Value} {xs ys : List Value} (h : Hr W e z v n xs) (hx : W'.ownsRow base e z v' (n + m) (xs ++ ys)) (hm : v'.ownBlock = v.ownBlock ∨ W.grownBy W' none) : Hr W' e z v n xs := by
  rcases hm with hm | hm
  · exact h.head hx hm
  · exact h.quiet hm
theorem Hr.form {W : World} {z n : Nat} {e : TypeId} {v : Value} {xs : List Value} (h : Hr W e z v n xs) : ∃ ao cap, v = .slice ao n cap := by
  rcases h.2 with ⟨rfl, h0⟩ | ⟨g, cap, cur, rfl, _⟩
  · exact ⟨none, 0, by rw [h0]⟩
  · exact ⟨_, _, rfl⟩
theorem Hr.at_ {W : World} {z n : Nat} {e : TypeId} {ao : Option Addr} {cap : Nat} {xs : List Value} (h : Hr W e z (.slice ao n cap) n xs) {i : Nat} {u : Value} (hu : xs[i]? = some u) : ∃ g, ao = some ⟨g, 0, none⟩ ∧ g < W.heap.size ∧ W.cell? ⟨g, i, none⟩ = some u ∧ W.frozen? ⟨g, i, none⟩ = false := by
  have hi := (List.getElem?_eq_some_iff.1 hu).1
  rcases h.2 with ⟨h0, h1⟩ | ⟨g, c, cur, he, hn, hg, ht⟩
  · rw [h.1, h1] at hi; omega
  · cases he
    refine ⟨g, rfl, block_lt hg, ?_, block_free hg i⟩
    rw [← ht, List.getElem?_take] at hu
    rw [block_cell hg]
    split at hu
    · simpa using hu
    · cases hu
/-- Only these blocks, and new ones, have turned. -/
structure OutR (lo hi : Nat) (w W : World) : Prop where
  os : W.os = w.os
  tape : W.tape = w.tape
  output : W.output = w.output
  size : w.heap.size ≤ W.heap.size
  block : ∀ k, k < w.heap.size → ¬ (lo ≤ k ∧ k < hi) → W.heap[k]? = w.heap[k]?
theorem OutR.refl (lo hi : Nat) (w : World) : OutR lo hi w w := ⟨rfl, rfl, rfl, Nat.le_refl _, fun _ _ _ => rfl⟩
theorem OutR.grown {lo hi : Nat} {w W W' : World} {row : Option Nat} (h : OutR lo hi w W) (hg : W.grownBy W' row) (hr : ∀ g, row = some g → (lo ≤ g ∧ g < hi) ∨ w.heap.size ≤ g) : OutR lo hi w W' :=
  ⟨hg.os.trans h.os, hg.tape.trans h.tape, hg.output.trans h.output, Nat.le_trans h.size hg.size, fun k hk hn => (hg.block k (Nat.lt_of_lt_of_le hk h.size) (fun e => by
    rcases hr k e.symm with h1 | h1
    · exact hn h1
    · omega)).trans (h.block k hk hn)⟩
theorem OutR.quiet {lo hi : Nat} {w W W' : World} (h : OutR lo hi w W) (hg : W.grownBy W' none) : OutR lo hi w W' := h.grown hg (fun g e => by cases e)
end Go.Proofs.YtiijbboigebhcaaGreatDoor
namespace Go.Proofs.YtiijbboigebhcaaGreatDoor
open Go.RowKit Crc

def rep (n c : Nat) : List Value := List.replicate n (.int .u8 (c : Int))
/-- The rows of an image that hold no lists. -/
structure Flats (lo : Nat) (w : World) (m : Mi) : Prop where
  a : ∃ xs, w.ownsRow lo 63 4 (.slice m.ao m.an m.ac) m.an xs ∧ ∀ i, i < m.an → ∃ c : Int, xs[i * 4 + 2]? = some (.int .u64 c)
  h : ∃ xs, w.ownsRow lo 65 3 (.slice m.ho m.hn m.hc) m.hn xs ∧ ∀ i, i < m.hn → ∃ c : Int, xs[i * 3 + 2]? = some (.int .u64 c)
  d : ∃ xs, w.ownsRow lo 58 13 (.slice m.dO m.dn m.dc) m.dn xs ∧ ∀ i, i < m.dn → ∃ c : Int, xs[i * 13 + 4]? = some (.int .u64 c)
  j : ∃ xs, w.ownsRow lo 67 5 (.slice m.jo m.jn m.jc) m.jn xs
/-- Other types stay. -/
theorem own_other {lo z n : Nat} {e t : TypeId} {v : Value} {xs : List Value} {W W' : World} {row : Option Nat} (h : W.ownsRow lo e z v n xs) (hg : W.grownBy W' row) (hr : row = none ∨ ∃ g cur, row = some g ∧ W.heap[g]? = some (.cells cur t (0, 0))) (hne : e ≠ t) : W'.ownsRow lo e z v n xs := by
  refine h.kept hg ?_
  rcases hr with rfl | ⟨g, cur, rfl, hgc⟩
  · cases v.ownBlock <;> simp
  · rcases (hr_of h).block with e1 | ⟨g', cur', e1, h3⟩
    · exact .inl e1
    · refine .inr (fun e2 => ?_)
      rw [e1] at e2
      cases e2
      rw [hgc] at h3
      cases h3
      exact hne rfl
theorem Flats.other {lo : Nat} {W W' : World} {m : Mi} {t : TypeId} {row : Option Nat} (h : Flats lo W m) (hg : W.grownBy W' row) (hr : row = none ∨ ∃ g cur, row = some g ∧ W.heap[g]? = some (.cells cur t (0, 0))) (h1 : 63 ≠ t) (h2 : 65 ≠ t) (h3 : 58 ≠ t) (h4 : 67 ≠ t) : Flats lo W' m := by
  obtain ⟨⟨x1, a1, a2⟩, ⟨x2, b1, b2⟩, ⟨x3, c1, c2⟩, ⟨x4, d1⟩⟩ := h
  exact ⟨⟨x1, own_other a1 hg hr h1, a2⟩, ⟨x2, own_other b1 hg hr h2, b2⟩, ⟨x3, own_other c1 hg hr h3, c2⟩, ⟨x4, own_other d1 hg hr h4⟩⟩
/-- Between two sessions of the first loop. -/
structure Ph (m : Mi) (lo hi : Nat) (w : World) (i : Nat) (mv : Value) (ys : List Value) (W : World) : Prop where
  out : OutR lo hi w W
  box : W.heap[w.heap.size]? = some (.cells m.cells 33 (0, 0))
  ses : W.ownsRow lo 61 5 (.slice m.so m.sn m.sc) m.sn (flat Sn.cells m.S)
  mor : W.ownsRow (w.heap.size + 1) 36 1 mv i ys
  done : ∀ j x y, j < i → m.S[j]? = some x → ys[j]? = some y → Hr W 5 1 x.sl x.cn (rep x.cn (100 + j)) ∧ Hr W 5 1 y (x.cn + 1) (rep x.cn (100 + j) ++ rep 1 (200 + j)) ∧ (y.ownBlock = x.sl.ownBlock ∨ ∀ g, y.ownBlock = some g → w.heap.size < g)
  todo : ∀ j x, i ≤ j → m.S[j]? = some x → Owns lo W x.sl x.D
  flt : Flats lo W m
/-- What a session's bytes are. -/
structure Bd (m : Mi) (lo hi : Nat) : Prop where
  lt : ∀ x ∈ m.S, ∀ g, x.sl.ownBlock = some g → lo ≤ g ∧ g < hi
  ap : m.S.Pairwise fun a b => a.sl.ownBlock = none ∨ a.sl.ownBlock ≠ b.sl.ownBlock
  cn : ∀ x ∈ m.S, x.cn = x.D.length
  small : ∀ x ∈ m.S, x.cn ≤ 140737488355000
theorem pair_ne {α : Type} {R : α → α → Prop} {L : List α} (h : L.Pairwise R) {i j : Nat} {a b : α} (hij : i < j) (ha : L[i]? = some a) (hb : L[j]? = some b) : R a b := by
  obtain ⟨hi, rfl⟩ := List.getElem?_eq_some_iff.1 ha
  obtain ⟨hj, rfl⟩ := List.getElem?_eq_some_iff.1 hb
  exact List.pairwise_iff_getElem.1 h i j hi hj hij
theorem Ph.next {m : Mi} {lo hi : Nat} {w : World} {i : Nat} {mv : Value} {ys : List Value} {W : World} (h : Ph m lo hi w i mv ys W) (hb : Bd m lo hi) (hhi : hi ≤ w.heap.size) {x : Sn} (hx : m.S[i]? = some x)
    {W1 W2 W3 : World} {o1 o2 : Obj} {y mv' : Value} (h1 : W.grownBy W1 x.sl.ownBlock) (h1r : W1.ownsRow lo 5 1 x.sl x.cn (rep x.cn (100 + i)))
    (h2 : W2.ownsRow lo 5 1 y (x.cn + 1) (rep x.cn (100 + i) ++ rep 1 (200 + i))) (h2e : Ext (W1.alloc o1) W2 x.sl y) (h2m : y.ownBlock = x.sl.ownBlock ∨ (W1.alloc o1).grownBy W2 none)
    (h3 : W3.ownsRow (w.heap.size + 1) 36 1 mv' (i + 1) (ys ++ [y])) (h3g : (W2.alloc o2).grownBy W3 mv.ownBlock) :
    Ph m lo hi w (i + 1) mv' (ys ++ [y]) W3 := by
  have hxm := List.mem_of_getElem? hx
  have gA := World.grownBy_alloc W1 o1 none
  have gB := World.grownBy_alloc W2 o2 none
  have g2 : (W1.alloc o1).grownBy W2 x.sl.ownBlock := h2e.1
  -- a block of bytes, or none, is what the first three steps turn
  have r1 : x.sl.ownBlock = none ∨ ∃ g cur, x.sl.ownBlock = some g ∧ W.heap[g]? = some (.cells cur 5 (0, 0)) := (hr_of (h.todo i x (Nat.le_refl _) hx).1).block
  have r2 : x.sl.ownBlock = none ∨ ∃ g cur, x.sl.ownBlock = some g ∧ (W1.alloc o1).heap[g]? = some (.cells cur 5 (0, 0)) := ((hr_of h1r).quiet gA).block
  have r3 : mv.ownBlock = none ∨ ∃ g cur, mv.ownBlock = some g ∧ (W2.alloc o2).heap[g]? = some (.cells cur 36 (0, 0)) := by
    have q := own_other (own_other (own_other (own_other h.mor h1 r1 (by decide)) gA (.inl rfl) (t := 5) (by decide)) g2 r2 (by decide)) gB (.inl rfl) (t := 5) (by decide)
    exact (hr_of q).block
  have step : ∀ {e : TypeId} {z n : Nat} {v : Value} {xs : List Value}, e ≠ 5 → e ≠ 36 → W.ownsRow lo e z v n xs → W3.ownsRow lo e z v n xs := fun {e z n v xs} e1 e2 r =>
    own_other (own_other (own_other (own_other (own_other r h1 r1 e1) gA (.inl rfl) e1) g2 r2 e1) gB (.inl rfl) e1) h3g r3 e2
  have hne3 : ∀ {u : Value} {n : Nat} {xs : List Value}, Hr W2 5 1 u n xs → Hr W3 5 1 u n xs := fun q => (q.quiet gB).other h3g r3 (by decide)
  have far : ∀ {u : Value} {n : Nat} {xs : List Value}, Hr W 5 1 u n xs → (u.ownBlock = none ∨ u.ownBlock ≠ x.sl.ownBlock) → Hr W3 5 1 u n xs := fun q hn => hne3 (((q.kept h1 hn).quiet gA).kept g2 hn)
  have xlt : ∀ g, x.sl.ownBlock = some g → lo ≤ g ∧ g < hi := hb.lt x hxm
  have hsz0 := h.out.size
  have hbx : w.heap.size < W.heap.size := block_lt h.box
  have o1' : OutR lo hi w W1 := h.out.grown h1 (fun g e => .inl (xlt g e))
  have o2' : OutR lo hi w W2 := (o1'.quiet gA).grown g2 (fun g e => .inl (xlt g e))
  have o3' : OutR lo hi w W3 := (o2'.quiet gB).grown h3g (fun g e => .inr (by
    have q := own_other (own_other (own_other h.mor h1 r1 (by decide)) gA (.inl rfl) (t := 5) (by decide)) g2 r2 (by decide)
    have := (World.ownsRow.lt q g e).1
    omega))
  have bne : ∀ g, x.sl.ownBlock = some g → g ≠ w.heap.size := fun g e => by have := xlt g e; omega
  have b1 : W1.heap[w.heap.size]? = _ := (h1.block _ hbx (fun e => bne _ e.symm rfl)).trans h.box
  have b1a : (W1.alloc o1).heap[w.heap.size]? = _ := (gA.block _ (block_lt b1) (by simp)).trans b1
  have b2 : W2.heap[w.heap.size]? = _ := (g2.block _ (block_lt b1a) (fun e => bne _ e.symm rfl)).trans b1a
  have b2a : (W2.alloc o2).heap[w.heap.size]? = _ := (gB.block _ (block_lt b2) (by simp)).trans b2
  have b3 : W3.heap[w.heap.size]? = _ := (h3g.block _ (block_lt b2a) (fun e => by
    rcases r3 with q | ⟨g, cur, q, qg⟩
    · rw [q] at e; cases e
    · rw [q] at e; cases e
      rw [b2a] at qg
      injection qg with qg
      injection qg with _ qt _
      exact absurd qt (by decide))).trans b2a
  refine ⟨o3', b3, step (by decide) (by decide) h.ses, h3, ?_, ?_, ?_⟩
  · intro j x' y' hj hx' hy'
    by_cases hji : j < i
    · have hyl : j < ys.length := by have := h.mor.1; omega
      rw [List.getElem?_append_left hyl] at hy'
      obtain ⟨q1, q2, q3⟩ := h.done j x' y' hji hx' hy'
      have hne := pair_ne hb.ap hji hx' hx
      refine ⟨far q1 hne, far q2 ?_, q3⟩
      rcases q3 with q3 | q3
      · rw [q3]; exact hne
      · cases e : y'.ownBlock with
        | none => exact .inl rfl
        | some g => exact .inr (fun e2 => by have := q3 g e; have := xlt g e2.symm; omega)
    · obtain rfl : j = i := by omega
      rw [hx] at hx'
      cases hx'
      have hyl : ys.length = j := by have := h.mor.1; omega
      rw [List.getElem?_append_right (by omega), hyl, Nat.sub_self] at hy'
      cases hy'
      refine ⟨hne3 (((hr_of h1r).quiet gA).grown h2 h2m), hne3 (hr_of h2), ?_⟩
      rcases h2m with q | q
      · exact .inl q
      · by_cases q2 : y.ownBlock = x.sl.ownBlock
        · exact .inl q2
        · refine .inr (fun g e => ?_)
          rcases h2e.2 g e with q3 | q3
          · exact absurd (e.trans q3.symm) q2
          · have := block_lt b1
            simp at q3
            omega
  · intro j x' hj hx'
    have hne := pair_ne hb.ap (show i < j by omega) hx hx'
    have ow := h.todo j x' (by omega) hx'
    have hne' : x'.sl.ownBlock = none ∨ x'.sl.ownBlock ≠ x.sl.ownBlock := by
      rcases hne with q | q
      · cases e : x'.sl.ownBlock with
        | none => exact .inl rfl
        | some g => exact .inr (fun e2 => by rw [q] at e2; cases e2)
      · exact .inr (fun e => q e.symm)
    have k1 : W2.ownsRow lo 5 1 x'.sl x'.D.length (vals x'.D) := ((ow.1.kept h1 hne').kept gA (by cases x'.sl.ownBlock <;> simp)).kept g2 hne'
    exact ⟨own_other (own_other k1 gB (.inl rfl) (t := 36) (by decide)) h3g r3 (by decide), ow.2⟩
  · exact ((((h.flt.other h1 r1 (by decide) (by decide) (by decide) (by decide)).other gA (.inl rfl) (t := 5) (by decide) (by decide) (by decide) (by decide)).other g2 r2 (by decide) (by decide) (by decide) (by decide)).other gB (.inl rfl) (t := 5) (by decide) (by decide) (by decide) (by decide)).other h3g r3 (by decide) (by decide) (by decide) (by decide)
end Go.Proofs.YtiijbboigebhcaaGreatDoor
namespace Go.Proofs.YtiijbboigebhcaaGreatDoor
open Go.RowKit Crc

set_option maxRecDepth 10000 in
set_option maxHeartbeats 800000 in
theorem twin_any (b off : Nat) (ao : Option Addr) (B : List Nat) (n cap : Nat) (w : World) (hao : 0 < n → ao = some ⟨b, off, none⟩) (hn : n = B.length) (hl : n ≤ 140737488355328)
  (hbw : 0 < n → b < w.heap.size) (hc : ∀ i, i < n → w.cell? ⟨b, off + i, none⟩ = some (.int .u8 ((B.getD i 0 : Nat) : Int))) :
    Calls Tryz.prog 12 #[.slice ao n cap] w fun e w' => e = .returned (.slice (some ⟨w.heap.size, 0, none⟩) n (n + 72)) ∧
      w'.ownsRow w.heap.size 5 1 (.slice (some ⟨w.heap.size, 0, none⟩) (n + 72) (n + 72)) (n + 72) (vals (B ++ marksTo 72)) ∧ Below w.heap.size w w' := by
  obtain ⟨i0, hi, hz0, hz1, hz2⟩ := info_parts Tryz.info5
  have HA : Hid (0 < n → ao = some ⟨b, off, none⟩) := hao
  have HN : Hid (n = B.length) := hn
  have HC : Hid (∀ i, i < n → w.cell? ⟨b, off + i, none⟩ = some (.int .u8 ((B.getD i 0 : Nat) : Int))) := hc
  have HB : Hid (0 < n → b < w.heap.size) := hbw
  clear hn hc hao hbw
  go_enter Tryz.func12, Tryz.ntmps12
  go_wp2_with (first
    | (at_make; refine wpList_make_own _ rfl _ _ 36 rfl w.heap.size 5 i0 (.int .u8 0) 1 Tryz.underlying36 hi hz0 hz1 .i64 .i64 _ (n + 72) rfl rfl (by omega) (by rw [hz2]; omega) (by unfold maxLen; omega) (Nat.le_refl _) ?_; intro w0 hown0 hgrow0))
  go_loopw [3, 4] (fun v i wr => ∃ k : Nat, k ≤ n ∧ i = .int .i64 k ∧ v = .slice (some ⟨w.heap.size, 0, none⟩) k (n + 72) ∧ wr.ownsRow w.heap.size 5 1 v k (vals (B.take k)) ∧ Below w.heap.size w wr)
    (fun _ i _ => n - (intOf i).toNat)
  case atStart => exact ⟨0, by omega, rfl, rfl, hown0, (Below.refl _ _).grown hgrow0 (Nat.le_refl _) (fun k h => by cases h)⟩
  case round =>
    obtain ⟨k, hk, rfl, rfl, hown, hnx⟩ := hrel
    clear hgrow0 hown0
    have hsize := hnx.size
    by_cases hlt : k < n
    · have hck := (hnx.cell (p := ⟨b, off + k, none⟩) (HB.out (by omega))).trans (HC.out k hlt)
      have HT : Hid (vals (B.take (k + 1)) = vals (B.take k) ++ [.int .u8 ((B.getD k 0 : Nat) : Int)]) := by
        show _ = _; rw [take_snoc B k (by have := HN.out; omega), vals_append, vals_one]
      obtain ⟨c, hcd⟩ : ∃ c, c = B.getD k 0 := ⟨_, rfl⟩
      rw [← hcd] at hck HT
      clear hcd
      obtain rfl := HA.out (by omega)
      go_wp2_with (first
        | (at_builtin; refine wpList_append_own_spare _ rfl (.tmp 16) (.tmp 21) 36 rfl w.heap.size 5 i0 1 Tryz.underlying36 hi hz1 w.heap.size k (n + 72) _ rfl (hown.alloc _) ⟨wr.heap.size, 0, none⟩ 1 1 [.int .u8 (c : Int)] rfl rfl (cell_one_new _ _ _) (Shade.one _ rfl) (by omega) ?_; intro w1 hown1 hgrow1))
      go_roundw
      case rel =>
        exact ⟨k + 1, by omega, by go_num, rfl, by rw [HT.out]; exact hown1, (hnx.alloc (by omega) _).grown hgrow1 (by simp; omega) (fun j hj => by cases hj; exact Nat.le_refl _)⟩
      case measure => simp [intOf]; omega
    · obtain rfl : k = n := by omega
      have hBk : B.take k = B := List.take_of_length_le (by have := HN.out; omega)
      rw [hBk] at hown
      clear hBk
      go_wp2
      go_loopw [3, 5] (fun v i wr => ∃ j : Nat, j ≤ 72 ∧ i = .int .i64 j ∧ v = .slice (some ⟨w.heap.size, 0, none⟩) (k + j) (k + 72) ∧ wr.ownsRow w.heap.size 5 1 v (k + j) (vals (B ++ marksTo j)) ∧ Below w.heap.size w wr)
        (fun _ i _ => 72 - (intOf i).toNat)
      case atStart => exact ⟨0, by omega, rfl, rfl, by simpa [marksTo] using hown, hnx⟩
      case round =>
        clear hown hnx hsize
        obtain ⟨j, hj, rfl, rfl, hown, hnx⟩ := hrel
        have hsize := hnx.size
        by_cases hj4 : j < 72
        · have HT : Hid (vals (B ++ marksTo (j + 1)) = vals (B ++ marksTo j) ++ [.int .u8 ((160 : Int) + (j : Int))]) := by
            show _ = _; rw [marksTo_succ, ← List.append_assoc, vals_append, vals_one]; simp
          go_wp2_with (first
            | (at_builtin; refine wpList_append_own_spare _ rfl (.tmp 27) (.tmp 31) 36 rfl w.heap.size 5 i0 1 Tryz.underlying36 hi hz1 w.heap.size (k + j) (k + 72) _ rfl (hown.alloc _) ⟨wr.heap.size, 0, none⟩ 1 1 [.int .u8 ((160 : Int) + (j : Int))] rfl rfl (cell_one_new _ _ _) (Shade.one _ rfl) (by omega) ?_; intro w1 hown1 hgrow1))
          go_roundw
          case rel =>
            exact ⟨j + 1, by omega, by go_num, by rw [Nat.add_assoc], by rw [HT.out, ← Nat.add_assoc]; exact hown1, (hnx.alloc (by omega) _).grown hgrow1 (by simp; omega) (fun j hj => by cases hj; exact Nat.le_refl _)⟩
          case measure => simp [intOf]; omega
        · obtain rfl : j = 72 := by omega
          go_wp2
          go_ret
          exact ⟨rfl, hown, hnx⟩
/-- The lent copy, as it lies. -/
def Tw (wi : World) (gc n : Nat) (B : List Nat) : Prop := n = B.length ∧ wi.ownsRow gc 5 1 (.slice (some ⟨gc, 0, none⟩) (n + 72) (n + 72)) (n + 72) (vals (B ++ marksTo 72))
theorem Tw.next {wi w' : World} {gc n : Nat} {B : List Nat} {row : Option Nat} (h : Tw wi gc n B) (hg : wi.grownBy w' row) (hr : row ≠ some gc) : Tw w' gc n B :=
  ⟨h.1, h.2.kept hg (.inr (by simpa [Value.ownBlock] using fun e => hr e.symm))⟩
theorem Tw.shows {wi : World} {gc n : Nat} {B : List Nat} (h : Tw wi gc n B) (hB : ∀ x ∈ B, x < 256) (hl : n ≤ 140737488355328) : Shows wi.heap.size wi (some ⟨gc, 0, none⟩) n (n + 72) B := by
  refine ⟨h.1, by omega, hl, hB, gc, 0, fun _ => rfl, fun _ => owned_lt2 h.2, fun i hi => ?_⟩
  have := owned_cells h.2 i (by omega)
  rw [List.getD_eq_getElem?_getD, List.getElem?_append_left (by have := h.1; omega)] at this
  rw [Nat.zero_add, this, List.getD_eq_getElem?_getD]
theorem twin_sh {lim : Nat} {ao : Option Addr} {B : List Nat} {n cap : Nat} {w : World} (h : Shows lim w ao n cap B) (hl : lim ≤ w.heap.size) :
    Calls Tryz.prog 12 #[.slice ao n cap] w fun e w' => e = .returned (.slice (some ⟨w.heap.size, 0, none⟩) n (n + 72)) ∧ Tw w' w.heap.size n B ∧ Below w.heap.size w w' := by
  obtain ⟨h1, h2, h3, h4, b, off, h5, h6, h7⟩ := h
  exact (twin_any b off ao B n cap w h5 h1 h3 (fun h => Nat.lt_of_lt_of_le (h6 h) hl) h7).mono fun e w' ⟨p, q, r⟩ => ⟨p, ⟨h1, q⟩, r⟩
set_option maxRecDepth 10000 in
set_option maxHeartbeats 800000 in
theorem kept6 {lim : Nat} {ao : Option Addr} {B : List Nat} {n cap gc : Nat} {w : World} (h : Tw w gc n B) (hs : Shows lim w ao n cap B) :
    Calls Tryz.prog 16 #[.slice (some ⟨gc, 0, none⟩) n (n + 72), .slice ao n cap] w fun e w' => e = .returned (.bool true) ∧ ∃ q, w' = w.drewN q := by
  have hl := hs.2.2.1
  have HS := hide (same_any (h.shows hs.2.2.2.1 hl) hs)
  have HG : Hid (∀ j, j < 72 → w.cell? ⟨gc, n + j, none⟩ = some (.int .u8 ((160 : Int) + (j : Int)))) := fun j hj => by
    have q := owned_cells h.2 (n + j) (by omega)
    have e : (B ++ marksTo 72).getD (n + j) 0 = 160 + j := by
      rw [List.getD_eq_getElem?_getD, List.getElem?_append_right (by have := h.1; omega), show n + j - B.length = j by have := h.1; omega]
      simp [marksTo, hj]
    rw [e] at q
    rw [q]
    simp
  clear h hs
  go_enter Tryz.func16, Tryz.ntmps16
  go_wp2_with fail
  refine HS.out.mono ?_
  rintro e w1 ⟨rfl, q, hw1⟩
  have hh : w1.heap = w.heap := by rw [hw1]; rfl
  have HG : Hid (∀ j, j < 72 → w1.cell? ⟨gc, n + j, none⟩ = some (.int .u8 ((160 : Int) + (j : Int)))) := fun j hj => by simp only [World.cell?, hh]; exact HG.out j hj
  have HW := hide hw1
  clear hw1 hh HS
  go_wp2
  go_loopw [6] (fun i wr => ∃ k : Nat, k ≤ 72 ∧ i = .int .i64 k ∧ Hid (∃ q, wr = w1.drewN q)) (fun i _ => 72 - (intOf i).toNat)
  case atStart => exact ⟨0, by omega, rfl, 0, rfl⟩
  case round =>
    obtain ⟨k, hk, rfl, HS⟩ := hrel
    obtain ⟨r, hr⟩ := HS.out
    have hh : wr.heap = w1.heap := by rw [hr]; rfl
    by_cases hlt : k < 72
    · have c0 : wr.cell? ⟨gc, n + k, none⟩ = some (.int .u8 ((160 : Int) + (k : Int))) := by simp only [World.cell?, hh]; exact HG.out k hlt
      have DN : Hid (∀ q, ∃ r, wr.drewN q = w1.drewN r) := fun q => ⟨r + q, by rw [hr]; simp [World.drewN, Nat.add_assoc]⟩
      clear hr hh HS
      go_wp2
      go_roundw
      case rel => exact ⟨k + 1, by omega, by go_num, by first | exact DN.out 0 | exact DN.out _⟩
      case measure => simp [intOf]; omega
    · go_wp2
      go_ret
      exact ⟨rfl, q + r, by first | (rw [hr, HW.out]; simp [World.drewN, Nat.add_assoc]) | (rw [HW.out]; simp [World.drewN, Nat.add_assoc])⟩
end Go.Proofs.YtiijbboigebhcaaGreatDoor
namespace Go.Proofs.YtiijbboigebhcaaGreatDoor
open Go.RowKit Crc

/-- A row of elements as it lies, wherever. -/
structure Rt {α : Type} (w : World) (z : Nat) (f : α → List Value) (ao : Option Addr) (n : Nat) (L : List α) : Prop where
  len : L.length = n
  at0 : ∃ b off, (0 < n → ao = some ⟨b, off, none⟩ ∧ b < w.heap.size) ∧ ∀ i x, L[i]? = some x → ∀ j u, (f x)[j]? = some u → w.cell? ⟨b, off + i * z + j, none⟩ = some u
theorem Rt.num {α : Type} {w : World} {z : Nat} {f : α → List Value} {ao : Option Addr} {n : Nat} {L : List α} (h : Rt w z f ao n L) : L.length = n := h.len
theorem Rt.num' {α : Type} {w : World} {z : Nat} {f : α → List Value} {ao : Option Addr} {n : Nat} {L : List α} (h : Rt w z f ao n L) : L.length = n := h.len
theorem Rt.at_ {α : Type} {w : World} {z : Nat} {f : α → List Value} {ao : Option Addr} {n : Nat} {L : List α} (h : Rt w z f ao n L) (_ : ∀ x, (f x).length = z) {i : Nat} {x : α} (hx : L[i]? = some x) : ∃ g of, ao = some ⟨g, of, none⟩ ∧ g < w.heap.size ∧ ∀ j u, (f x)[j]? = some u → w.cell? ⟨g, of + i * z + j, none⟩ = some u := by
  obtain ⟨b, off, h1, h2⟩ := h.at0
  have hi := (List.getElem?_eq_some_iff.1 hx).1
  have h3 := h1 (by have := h.len; omega)
  exact ⟨b, off, h3.1, h3.2, h2 i x hx⟩
theorem Rt.below {α : Type} {w w' : World} {z : Nat} {f : α → List Value} {ao : Option Addr} {n : Nat} {L : List α} (h : Rt w z f ao n L) (hb : Below w.heap.size w w') : Rt w' z f ao n L := by
  obtain ⟨b, off, h1, h2⟩ := h.at0
  refine ⟨h.len, b, off, fun h0 => ⟨(h1 h0).1, Nat.lt_of_lt_of_le (h1 h0).2 hb.size⟩, fun i x hx j u hu => ?_⟩
  have hi := (List.getElem?_eq_some_iff.1 hx).1
  exact (hb.cell (p := ⟨b, off + i * z + j, none⟩) (h1 (by have := h.len; omega)).2).trans (h2 i x hx j u hu)
theorem Rw.rt {α : Type} {base : Nat} {w : World} {e : TypeId} {z : Nat} {f : α → List Value} {ao : Option Addr} {n cap : Nat} {L : List α} (h : Rw base w e z f (.slice ao n cap) L) (hz : ∀ x, (f x).length = z) : Rt w z f ao n L := by
  have hl : L.length = n := h.num'
  by_cases h0 : 0 < n
  · obtain ⟨x, hx⟩ : ∃ x, L[0]? = some x := ⟨_, List.getElem?_eq_getElem (by omega)⟩
    obtain ⟨g, e1, e2, -, -, -⟩ := h.at_ hz hx
    refine ⟨hl, g, 0, fun _ => ⟨e1, e2⟩, fun i y hy j u hu => ?_⟩
    obtain ⟨g', e1', -, -, -, e3'⟩ := h.at_ hz hy
    rw [e1] at e1'
    cases e1'
    rw [Nat.zero_add]
    exact e3' j u hu
  · refine ⟨hl, 0, 0, fun h => absurd h h0, fun i y hy => ?_⟩
    have := (List.getElem?_eq_some_iff.1 hy).1
    omega
theorem Shows.grows {w w' : World} {ao : Option Addr} {n cap : Nat} {B : List Nat} (h : Shows w.heap.size w ao n cap B) (hb : Below w.heap.size w w') : Shows w'.heap.size w' ao n cap B := by
  obtain ⟨h1, h2, h3, h4, b, off, h5, h6, h7⟩ := h
  exact ⟨h1, h2, h3, h4, b, off, h5, fun h0 => Nat.lt_of_lt_of_le (h6 h0) hb.size, fun i hi => (hb.cell (p := ⟨b, off + i, none⟩) (h6 (by omega))).trans (h7 i hi)⟩
/-- An image as it lies, wherever. -/
structure VBk (w : World) (a b c : Option Addr) (na nb nc : Nat) (A : List Ac) (H : List Ho) (J : List En) : Prop where
  a : Rt w 4 Ac.cells a na A
  h : Rt w 3 Ho.cells b nb H
  j : Rt w 5 En.cells c nc J
structure VSs (w : World) (f : Option Addr) (nf : Nat) (S : List Sn) : Prop where
  row : Rt w 5 Sn.cells f nf S
  own : ∀ x ∈ S, Shows w.heap.size w x.co x.cn x.cc x.D
theorem VBk.below {w w' : World} {a b c : Option Addr} {na nb nc : Nat} {A : List Ac} {H : List Ho} {J : List En} (h : VBk w a b c na nb nc A H J) (hb : Below w.heap.size w w') : VBk w' a b c na nb nc A H J := ⟨h.a.below hb, h.h.below hb, h.j.below hb⟩
theorem VSs.below {w w' : World} {f : Option Addr} {nf : Nat} {S : List Sn} (h : VSs w f nf S) (hb : Below w.heap.size w w') : VSs w' f nf S := ⟨h.row.below hb, fun x hx => (h.own x hx).grows hb⟩
theorem VSs.cn {w : World} {f : Option Addr} {nf : Nat} {S : List Sn} (h : VSs w f nf S) (x : Sn) (hx : x ∈ S) : x.cn = x.D.length := (h.own x hx).1
structure Mi.Vw (w : World) (m : Mi) : Prop where
  bk : VBk w m.ao m.ho m.jo m.an m.hn m.jn m.A m.H m.J
  d : Rt w 13 De.cells m.dO m.dn m.D
  s : VSs w m.so m.sn m.S
theorem Mi.Vw.below {w w' : World} {m : Mi} (h : m.Vw w) (hb : Below w.heap.size w w') : m.Vw w' := ⟨h.bk.below hb, h.d.below hb, h.s.below hb⟩
end Go.Proofs.YtiijbboigebhcaaGreatDoor
