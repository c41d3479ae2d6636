import Derived.Test.YtiijbboigebhcaaGreatDoorOSm
import Derived.Test.YtiijbboigebhcaaGreatDoorM30
import Derived.Test.YtiijbboigebhcaaGreatDoorM31
namespace Go.Proofs.YtiijbboigebhcaaGreatDoor
open Go.RowKit Crc

set_option maxRecDepth 10000 in
set_option maxHeartbeats 3200000 in
theorem sameHouse_v (x y u : Nat) {base2 : Nat} {w : World} {a1 a2 b1 b2 c1 c2 d1 d2 : Option Addr} {na ac1 ac2 nb bc1 bc2 nc cc1 cc2 nd dc1 dc2 : Nat} {A : List Ac} {H : List Ho} {J : List En} {D : List De} (h1 : VBk w a1 b1 c1 na nb nc A H J) (h2 : OwnBk base2 w (.slice a2 na ac2) (.slice b2 nb bc2) (.slice c2 nc cc2) A H J) (r1 : Rt w 13 De.cells d1 nd D) (r2 : Rw base2 w 58 13 De.cells (.slice d2 nd dc2) D) (hna : na ≤ 1000) (hnb : nb ≤ 1000) (hnc : nc ≤ 1000) (hnd : nd ≤ 1000) :
    Calls Tryz.prog 49 #[.agg #[.int .u64 (x : Int), .int .u64 (y : Int), .slice a1 na ac1, .slice b1 nb bc1, .slice c1 nc cc1, .slice d1 nd dc1, .int .u64 (u : Int)], .agg #[.int .u64 (x : Int), .int .u64 (y : Int), .slice a2 na ac2, .slice b2 nb bc2, .slice c2 nc cc2, .slice d2 nd dc2, .int .u64 (u : Int)]] w fun e w' => e = .returned (.bool true) ∧ Hid (Below w.heap.size w w') := by
  obtain ⟨W2, hW2⟩ : ∃ W2, (w.alloc (.cells #[.int .u64 (x : Int), .int .u64 (y : Int), .slice a1 na ac1, .slice b1 nb bc1, .slice c1 nc cc1, .slice d1 nd dc1, .int .u64 (u : Int)] 30)).alloc (.cells #[.int .u64 (x : Int), .int .u64 (y : Int), .slice a2 na ac2, .slice b2 nb bc2, .slice c2 nc cc2, .slice d2 nd dc2, .int .u64 (u : Int)] 30) = W2 := ⟨_, rfl⟩
  have e1 : (w.alloc (.cells #[.int .u64 (x : Int), .int .u64 (y : Int), .slice a1 na ac1, .slice b1 nb bc1, .slice c1 nc cc1, .slice d1 nd dc1, .int .u64 (u : Int)] 30)).heap.size = w.heap.size + 1 := by simp
  have s2 : W2.heap.size = w.heap.size + 1 + 1 := by rw [← hW2]; simp
  have b0 : Below w.heap.size w W2 := by rw [← hW2]; exact ((Below.refl _ w).alloc (Nat.le_refl _) _).alloc (by simp) _
  have q1 : W2.heap[w.heap.size]? = some (.cells #[.int .u64 (x : Int), .int .u64 (y : Int), .slice a1 na ac1, .slice b1 nb bc1, .slice c1 nc cc1, .slice d1 nd dc1, .int .u64 (u : Int)] 30 (0, 0)) := by rw [← hW2]; exact ((World.grownBy_alloc _ _ none).block _ (by rw [e1]; omega) (by simp)).trans (alloc_atN _ _)
  have q2 : W2.heap[w.heap.size + 1]? = some (.cells #[.int .u64 (x : Int), .int .u64 (y : Int), .slice a2 na ac2, .slice b2 nb bc2, .slice c2 nc cc2, .slice d2 nd dc2, .int .u64 (u : Int)] 30 (0, 0)) := by rw [← hW2, ← e1]; exact alloc_atN _ _
  have SBK := hide (sameBook_v (ac1 := ac1) (bc1 := bc1) (cc1 := cc1) x y (h1.below b0) (h2.past (below_none b0) (fun g e => by cases e)) hna hnb hnc)
  have R1 := hide (r1.below b0)
  have R2 := hide (r2.below b0)
  have HLD := hide r1.num'
  have QQ := hide (And.intro q1 q2)
  have BB := hide b0
  have y0 := block_cell q1 0
  have z0 := block_cell q2 0
  have y1 := block_cell q1 1
  have z1 := block_cell q2 1
  have y2 := block_cell q1 2
  have z2 := block_cell q2 2
  have y3 := block_cell q1 3
  have z3 := block_cell q2 3
  have y4 := block_cell q1 4
  have z4 := block_cell q2 4
  have y5 := block_cell q1 5
  have z5 := block_cell q2 5
  have y6 := block_cell q1 6
  have z6 := block_cell q2 6
  simp at y0 z0 y1 z1 y2 z2 y3 z3 y4 z4 y5 z5 y6 z6
  have hszz := block_lt q2
  have hszy := block_lt q1
  clear h1 h2 r1 r2 b0 q1 q2 e1 s2
  go_enter Tryz.func49, Tryz.ntmps49
  go_wp2_with fail
  refine SBK.out.mono ?_
  rintro e W3 ⟨rfl, G3⟩
  have P1 := hide ((G3.out.block _ hszy).trans QQ.out.1)
  have P2 := hide ((G3.out.block _ hszz).trans QQ.out.2)
  have R1 := hide (R1.out.below G3.out)
  have R2 := hide (R2.out.below G3.out)
  have BB := hide (below_trans1 BB.out G3.out)
  clear y0 z0 y1 z1 y2 z2 y3 z3 y4 z4 y5 z5 y6 z6 hszz hszy SBK
  have y5 := block_cell P1.out 5
  have z5 := block_cell P2.out 5
  have y6 := block_cell P1.out 6
  have z6 := block_cell P2.out 6
  simp at y5 z5 y6 z6
  have hszy := block_lt P1.out
  have hszz := block_lt P2.out
  clear G3 hW2
  go_wp2
  go_loopw [5] (fun i wr => ∃ k : Nat, k ≤ nd ∧ i = .int .i64 k ∧ Hid (∃ r, wr = W3.drewN r)) (fun i _ => nd - (intOf i).toNat)
  case atStart => exact ⟨0, by omega, rfl, 0, rfl⟩
  case round =>
    obtain ⟨k, hk, rfl, HS⟩ := hrel
    obtain ⟨r, hr⟩ := HS.out
    have hh : wr.heap = W3.heap := by rw [hr]; rfl
    have DN : Hid (∀ q, ∃ r, wr.drewN q = W3.drewN r) := fun q => ⟨r + q, by rw [hr]; simp [World.drewN, Nat.add_assoc]⟩
    have p1 := cell_heap hh y5
    have p2 := cell_heap hh z5
    have hl1 : w.heap.size + 1 < wr.heap.size := by rw [hh]; exact hszz
    have hl0 : w.heap.size < wr.heap.size := by rw [hh]; exact hszy
    by_cases hlt : k < nd
    · obtain ⟨e, hx⟩ : ∃ e, D[k]? = some e := ⟨_, List.getElem?_eq_getElem (by rw [HLD.out]; exact hlt)⟩
      obtain ⟨g1, of1, hg1, hgl1, hc1⟩ := R1.out.at_ len_De hx
      obtain ⟨g2, hg2, hgl2, -, -, hc2⟩ := R2.out.at_ len_De hx
      have c0 := cell_heap hh (hc1 0 _ rfl)
      have v0 := cell_heap hh (hc2 0 _ rfl)
      have c1 := cell_heap hh (hc1 1 _ rfl)
      have v1 := cell_heap hh (hc2 1 _ rfl)
      have c2 := cell_heap hh (hc1 2 _ rfl)
      have v2 := cell_heap hh (hc2 2 _ rfl)
      have c3 := cell_heap hh (hc1 3 _ rfl)
      have v3 := cell_heap hh (hc2 3 _ rfl)
      have c4 := cell_heap hh (hc1 4 _ rfl)
      have v4 := cell_heap hh (hc2 4 _ rfl)
      have c5 := cell_heap hh (hc1 5 _ rfl)
      have v5 := cell_heap hh (hc2 5 _ rfl)
      have c6 := cell_heap hh (hc1 6 _ rfl)
      have v6 := cell_heap hh (hc2 6 _ rfl)
      have c7 := cell_heap hh (hc1 7 _ rfl)
      have v7 := cell_heap hh (hc2 7 _ rfl)
      have c8 := cell_heap hh (hc1 8 _ rfl)
      have v8 := cell_heap hh (hc2 8 _ rfl)
      have c9 := cell_heap hh (hc1 9 _ rfl)
      have v9 := cell_heap hh (hc2 9 _ rfl)
      have c10 := cell_heap hh (hc1 10 _ rfl)
      have v10 := cell_heap hh (hc2 10 _ rfl)
      have c11 := cell_heap hh (hc1 11 _ rfl)
      have v11 := cell_heap hh (hc2 11 _ rfl)
      have c12 := cell_heap hh (hc1 12 _ rfl)
      have v12 := cell_heap hh (hc2 12 _ rfl)
      simp only [Nat.add_zero] at c0 v0
      have hw1 : g1 < wr.heap.size := by rw [hh]; exact hgl1
      have hw2 : g2 < wr.heap.size := by rw [hh]; exact hgl2
      subst hg1
      subst hg2
      have hcmp := fun w' => deal_ncmp (e.a : Int) (e.b : Int) (e.c : Int) (e.d : Int) (e.e : Int) (e.f : Int) (e.g : Int) e.ph (e.p : Int) (e.q : Int) (e.r : Int) (e.z : Int) e.t w'
      clear hr hh HS hc1 hc2 hx y5 z5
      go_wp2_with fail
      go_quiet (fail)
      go_wp2
      go_roundw
      case rel => exact ⟨k + 1, by omega, by go_num, DN.out _⟩
      case measure => simp [intOf]; omega
    · have BF : Hid (Below w.heap.size w wr) := by rw [hr]; exact Go.below_drewN BB.out r
      clear hr hh HS DN
      go_wp2
      go_ret
      exact ⟨rfl, BF.out⟩
end Go.Proofs.YtiijbboigebhcaaGreatDoor
namespace Go.Proofs.YtiijbboigebhcaaGreatDoor
open Go.RowKit Crc

set_option maxRecDepth 10000 in
set_option maxHeartbeats 3200000 in
theorem sameImgV (s t x y u : Nat) {base2 : Nat} {w : World} {a1 a2 b1 b2 c1 c2 d1 d2 f1 f2 : Option Addr} {na ac1 ac2 nb bc1 bc2 nc cc1 cc2 nd dc1 dc2 nf fc1 fc2 : Nat} {A : List Ac} {H : List Ho} {J : List En} {D : List De} {S1 S2 : List Sn} (h1 : VBk w a1 b1 c1 na nb nc A H J) (h2 : OwnBk base2 w (.slice a2 na ac2) (.slice b2 nb bc2) (.slice c2 nc cc2) A H J) (r1 : Rt w 13 De.cells d1 nd D) (r2 : Rw base2 w 58 13 De.cells (.slice d2 nd dc2) D) (s1 : VSs w f1 nf S1) (s2 : OwnSs base2 w (.slice f2 nf fc2) S2) (hs : S1.map Sn.val = S2.map Sn.val) (hna : na ≤ 1000) (hnb : nb ≤ 1000) (hnc : nc ≤ 1000) (hnd : nd ≤ 1000) (hnf : nf ≤ 1000) :
    Calls Tryz.prog 15 #[.agg #[.int .u64 (s : Int), .int .u64 (t : Int), .int .u64 (x : Int), .int .u64 (y : Int), .slice a1 na ac1, .slice b1 nb bc1, .slice c1 nc cc1, .slice d1 nd dc1, .int .u64 (u : Int), .slice f1 nf fc1], .agg #[.int .u64 (s : Int), .int .u64 (t : Int), .int .u64 (x : Int), .int .u64 (y : Int), .slice a2 na ac2, .slice b2 nb bc2, .slice c2 nc cc2, .slice d2 nd dc2, .int .u64 (u : Int), .slice f2 nf fc2]] w fun e w' => e = .returned (.bool true) ∧ Hid (Below w.heap.size w w') := by
  obtain ⟨W2, hW2⟩ : ∃ W2, (w.alloc (.cells #[.int .u64 (s : Int), .int .u64 (t : Int), .int .u64 (x : Int), .int .u64 (y : Int), .slice a1 na ac1, .slice b1 nb bc1, .slice c1 nc cc1, .slice d1 nd dc1, .int .u64 (u : Int), .slice f1 nf fc1] 33)).alloc (.cells #[.int .u64 (s : Int), .int .u64 (t : Int), .int .u64 (x : Int), .int .u64 (y : Int), .slice a2 na ac2, .slice b2 nb bc2, .slice c2 nc cc2, .slice d2 nd dc2, .int .u64 (u : Int), .slice f2 nf fc2] 33) = W2 := ⟨_, rfl⟩
  have e1 : (w.alloc (.cells #[.int .u64 (s : Int), .int .u64 (t : Int), .int .u64 (x : Int), .int .u64 (y : Int), .slice a1 na ac1, .slice b1 nb bc1, .slice c1 nc cc1, .slice d1 nd dc1, .int .u64 (u : Int), .slice f1 nf fc1] 33)).heap.size = w.heap.size + 1 := by simp
  have b0 : Below w.heap.size w W2 := by rw [← hW2]; exact ((Below.refl _ w).alloc (Nat.le_refl _) _).alloc (by simp) _
  have q1 : W2.heap[w.heap.size]? = some (.cells #[.int .u64 (s : Int), .int .u64 (t : Int), .int .u64 (x : Int), .int .u64 (y : Int), .slice a1 na ac1, .slice b1 nb bc1, .slice c1 nc cc1, .slice d1 nd dc1, .int .u64 (u : Int), .slice f1 nf fc1] 33 (0, 0)) := by rw [← hW2]; exact ((World.grownBy_alloc _ _ none).block _ (by rw [e1]; omega) (by simp)).trans (alloc_atN _ _)
  have q2 : W2.heap[w.heap.size + 1]? = some (.cells #[.int .u64 (s : Int), .int .u64 (t : Int), .int .u64 (x : Int), .int .u64 (y : Int), .slice a2 na ac2, .slice b2 nb bc2, .slice c2 nc cc2, .slice d2 nd dc2, .int .u64 (u : Int), .slice f2 nf fc2] 33 (0, 0)) := by rw [← hW2, ← e1]; exact alloc_atN _ _
  have SH := hide (sameHouse_v (ac1 := ac1) (bc1 := bc1) (cc1 := cc1) (dc1 := dc1) x y u (h1.below b0) (h2.past (below_none b0) (fun g e => by cases e)) (r1.below b0) (r2.below b0) hna hnb hnc hnd)
  have Z1 := hide (s1.below b0)
  have Z2 := hide (s2.quiet (below_none b0))
  have HL := hide s1.row.num'
  have HVV := hide hs
  have QQ := hide (And.intro q1 q2)
  have BB := hide b0
  have y0 := block_cell q1 0
  have z0 := block_cell q2 0
  have y1 := block_cell q1 1
  have z1 := block_cell q2 1
  have y2 := block_cell q1 2
  have z2 := block_cell q2 2
  have y3 := block_cell q1 3
  have z3 := block_cell q2 3
  have y4 := block_cell q1 4
  have z4 := block_cell q2 4
  have y5 := block_cell q1 5
  have z5 := block_cell q2 5
  have y6 := block_cell q1 6
  have z6 := block_cell q2 6
  have y7 := block_cell q1 7
  have z7 := block_cell q2 7
  have y8 := block_cell q1 8
  have z8 := block_cell q2 8
  have y9 := block_cell q1 9
  have z9 := block_cell q2 9
  simp at y0 z0 y1 z1 y2 z2 y3 z3 y4 z4 y5 z5 y6 z6 y7 z7 y8 z8 y9 z9
  have hszz := block_lt q2
  have hszy := block_lt q1
  clear h1 h2 r1 r2 s1 s2 hs b0 q1 q2 e1
  go_enter Tryz.func15, Tryz.ntmps15
  go_wp2_with fail
  refine SH.out.mono ?_
  rintro e W3 ⟨rfl, G3⟩
  have P1 := hide ((G3.out.block _ hszy).trans QQ.out.1)
  have P2 := hide ((G3.out.block _ hszz).trans QQ.out.2)
  have Z1 := hide (Z1.out.below G3.out)
  have Z2 := hide (Z2.out.quiet (below_none G3.out))
  have BB := hide (below_trans1 BB.out G3.out)
  clear y0 z0 y1 z1 y2 z2 y3 z3 y4 z4 y5 z5 y6 z6 y7 z7 y8 z8 y9 z9 hszz hszy SH hW2 QQ G3
  have y9 := block_cell P1.out 9
  have z9 := block_cell P2.out 9
  simp at y9 z9
  have hszy := block_lt P1.out
  have hszz := block_lt P2.out
  have R3 := hide (Below.refl W3.heap.size W3)
  go_wp2
  clear y9 z9 hszy hszz
  go_loopw [5] (fun i wr => ∃ k : Nat, k ≤ nf ∧ i = .int .i64 k ∧ Hid (Below W3.heap.size W3 wr)) (fun i _ => nf - (intOf i).toNat)
  case atStart => exact ⟨0, by omega, rfl, R3.out⟩
  case round =>
    obtain ⟨k, hk, rfl, HS⟩ := hrel
    have q1 := (HS.out.block _ (block_lt P1.out)).trans P1.out
    have q2 := (HS.out.block _ (block_lt P2.out)).trans P2.out
    have y9 := block_cell q1 9
    have z9 := block_cell q2 9
    simp at y9 z9
    have hszy := block_lt q1
    have hszz := block_lt q2
    clear q1 q2
    by_cases hlt : k < nf
    · obtain ⟨e1, hx1⟩ : ∃ e, S1[k]? = some e := ⟨_, List.getElem?_eq_getElem (by rw [HL.out]; exact hlt)⟩
      obtain ⟨e2, hx2, hev⟩ : ∃ e, S2[k]? = some e ∧ e1.val = e.val := by
        have h := congrArg (fun l => l[k]?) HVV.out
        simp only [List.getElem?_map, hx1] at h
        cases h2 : S2[k]? with
        | none => rw [h2] at h; cases h
        | some e => rw [h2] at h; cases h' : e1.val; exact ⟨e, rfl, by simpa [h'] using h⟩
      have O1 := hide ((Z1.out.below HS.out).own e1 (List.mem_of_getElem? hx1))
      have O2 := hide ((Z2.out.quiet (below_none HS.out)).own e2 (List.mem_of_getElem? hx2))
      have hn1 := Z1.out.cn e1 (List.mem_of_getElem? hx1)
      have hn2 := Z2.out.cn e2 (List.mem_of_getElem? hx2)
      obtain ⟨v1, v2, v3, v4, v5⟩ : e1.cl = e2.cl ∧ e1.sq = e2.sq ∧ e1.st = e2.st ∧ e1.cd = e2.cd ∧ e1.D = e2.D := by
        have h : (e1.cl, e1.sq, e1.st, e1.cd, e1.D) = (e2.cl, e2.sq, e2.st, e2.cd, e2.D) := hev
        simpa using h
      have v6 : e1.cn = e2.cn := by rw [hn1, hn2, v5]
      obtain ⟨g1, of1, hg1, hgl1, hc1⟩ := Z1.out.row.at_ len_Sn hx1
      obtain ⟨g2, hg2, hgl2, -, -, hc2⟩ := Z2.out.row.at_ len_Sn hx2
      have c0 := (HS.out.cell (p := ⟨g1, of1 + k * 5 + 0, none⟩) hgl1).trans (hc1 0 _ rfl)
      have w0 := (HS.out.cell (p := ⟨g2, k * 5 + 0, none⟩) hgl2).trans (hc2 0 _ rfl)
      have c1 := (HS.out.cell (p := ⟨g1, of1 + k * 5 + 1, none⟩) hgl1).trans (hc1 1 _ rfl)
      have w1 := (HS.out.cell (p := ⟨g2, k * 5 + 1, none⟩) hgl2).trans (hc2 1 _ rfl)
      have c2 := (HS.out.cell (p := ⟨g1, of1 + k * 5 + 2, none⟩) hgl1).trans (hc1 2 _ rfl)
      have w2 := (HS.out.cell (p := ⟨g2, k * 5 + 2, none⟩) hgl2).trans (hc2 2 _ rfl)
      have c3 := (HS.out.cell (p := ⟨g1, of1 + k * 5 + 3, none⟩) hgl1).trans (hc1 3 _ rfl)
      have w3 := (HS.out.cell (p := ⟨g2, k * 5 + 3, none⟩) hgl2).trans (hc2 3 _ rfl)
      have c4 := (HS.out.cell (p := ⟨g1, of1 + k * 5 + 4, none⟩) hgl1).trans (hc1 4 _ rfl)
      have w4 := (HS.out.cell (p := ⟨g2, k * 5 + 4, none⟩) hgl2).trans (hc2 4 _ rfl)
      simp only [Nat.add_zero] at c0 w0
      rw [v1] at c0
      rw [v2] at c1
      rw [v3] at c2
      rw [v4] at c3
      rw [v6] at c4
      have SBY : Hid (∀ W, Below wr.heap.size wr W → Calls Tryz.prog 10 #[.slice e1.co e2.cn e1.cc, .slice e2.co e2.cn e2.cc] W fun e w' => e = .returned (.bool true) ∧ ∃ q, w' = W.drewN q) := fun W hb => by
        have o1 := O1.out.grows hb
        have o2 := O2.out.quiet (below_none hb)
        have o2 : Owns base2 W (.slice e2.co e2.cn e2.cc) e2.D := o2
        rw [v6, v5] at o1
        exact same_any o1 (owns_shows o2)
      have hw1 : g1 < wr.heap.size := Nat.lt_of_lt_of_le hgl1 HS.out.size
      have hw2 : g2 < wr.heap.size := Nat.lt_of_lt_of_le hgl2 HS.out.size
      subst hg1
      subst hg2
      clear hc1 hc2 hx1 hx2 hev hn1 hn2 v1 v2 v3 v4 v5 v6 O1 O2
      obtain ⟨V1, hV1⟩ : ∃ V1, wr.alloc (.cells #[.int .u64 (e2.cl : Int), .int .u64 (e2.sq : Int), .int .u64 (e2.st : Int), .int .i64 e2.cd, .slice e1.co e2.cn e1.cc] 61) = V1 := ⟨_, rfl⟩
      have bV1 : Below wr.heap.size wr V1 := by rw [← hV1]; exact (Below.refl _ wr).alloc (Nat.le_refl _) _
      have sV1 : V1.heap.size = wr.heap.size + 1 := by rw [← hV1]; simp
      have qV1 : V1.heap[wr.heap.size]? = some (.cells #[.int .u64 (e2.cl : Int), .int .u64 (e2.sq : Int), .int .u64 (e2.st : Int), .int .i64 e2.cd, .slice e1.co e2.cn e1.cc] 61 (0, 0)) := by rw [← hV1]; exact alloc_atN _ _
      obtain ⟨V2, hV2⟩ : ∃ V2, V1.alloc (.cells #[.int .u64 (e2.cl : Int), .int .u64 (e2.sq : Int), .int .u64 (e2.st : Int), .int .i64 e2.cd, .slice e2.co e2.cn e2.cc] 61) = V2 := ⟨_, rfl⟩
      have bV2 : Below V1.heap.size V1 V2 := by rw [← hV2]; exact (Below.refl _ V1).alloc (Nat.le_refl _) _
      have qV2 : V2.heap[V1.heap.size]? = some (.cells #[.int .u64 (e2.cl : Int), .int .u64 (e2.sq : Int), .int .u64 (e2.st : Int), .int .i64 e2.cd, .slice e2.co e2.cn e2.cc] 61 (0, 0)) := by rw [← hV2]; exact alloc_atN _ _
      have qV3 := (bV2.block _ (block_lt qV1)).trans qV1
      have z9' := (bV1.cell (p := ⟨w.heap.size + 1, 9, none⟩) hszz).trans z9
      have m0 := (bV1.cell (p := ⟨g2, _, none⟩) hw2).trans w0
      have i0 := block_cell qV3 0
      have j0 := block_cell qV2 0
      have m1 := (bV1.cell (p := ⟨g2, _, none⟩) hw2).trans w1
      have i1 := block_cell qV3 1
      have j1 := block_cell qV2 1
      have m2 := (bV1.cell (p := ⟨g2, _, none⟩) hw2).trans w2
      have i2 := block_cell qV3 2
      have j2 := block_cell qV2 2
      have m3 := (bV1.cell (p := ⟨g2, _, none⟩) hw2).trans w3
      have i3 := block_cell qV3 3
      have j3 := block_cell qV2 3
      have m4 := (bV1.cell (p := ⟨g2, _, none⟩) hw2).trans w4
      have i4 := block_cell qV3 4
      have j4 := block_cell qV2 4
      simp at i0 j0 i1 j1 i2 j2 i3 j3 i4 j4
      have BV := hide (below_trans1 bV1 bV2)
      have hl1 := block_lt qV1
      have hl2 := block_lt qV2
      have hl3 := block_lt qV3
      have hw2V : g2 < V1.heap.size := by omega
      have hszV : w.heap.size + 1 < V1.heap.size := by omega
      have SB2 := hide (SBY.out V2 BV.out)
      clear qV1 qV2 qV3 bV1 bV2 sV1 SBY
      go_wp2_with fail
      refine SB2.out.mono ?_
      rintro e w6 ⟨rfl, q6, hw6⟩
      have B6 : Hid (Below W3.heap.size W3 w6) := by rw [hw6]; exact Go.below_drewN (below_trans1 HS.out BV.out) q6
      clear hw6
      go_wp2
      go_roundw
      case rel => exact ⟨k + 1, by omega, by go_num, B6.out⟩
      case measure => simp [intOf]; omega
    · have BF := hide (below_trans1 BB.out HS.out)
      go_wp2
      go_ret
      exact ⟨rfl, BF.out⟩
/-- Two images of the same values. -/
theorem sameImage_v {m1 m2 : Mi} {base2 : Nat} {w : World} (h1 : m1.Vw w) (h2 : m2.Own base2 w) (hv : m1.val = m2.val) (hs : m1.small) : Calls Tryz.prog 15 #[.agg m1.cells, .agg m2.cells] w fun e w' => e = .returned (.bool true) ∧ Hid (Below w.heap.size w w') := by
  obtain ⟨s, t, x, y, A, H, J, D, u, S, a1, na, ac1, b1, nb, bc1, c1, nc, cc1, d1, nd, dc1, f1, nf, fc1⟩ := m1
  obtain ⟨s', t', x', y', A', H', J', D', u', S', a2, na', ac2, b2, nb', bc2, c2, nc', cc2, d2, nd', dc2, f2, nf', fc2⟩ := m2
  have hv : Vm.mk s t x y A H J D u (S.map Sn.val) = Vm.mk s' t' x' y' A' H' J' D' u' (S'.map Sn.val) := hv
  injection hv with e1 e2 e3 e4 e5 e6 e7 e8 e9 e10
  subst e1 e2 e3 e4 e5 e6 e7 e8 e9
  have l1 : na = na' := h1.bk.a.num'.symm.trans h2.bk.a.num'
  have l2 : nb = nb' := h1.bk.h.num'.symm.trans h2.bk.h.num'
  have l3 : nc = nc' := h1.bk.j.num'.symm.trans h2.bk.j.num'
  have l4 : nd = nd' := h1.d.num'.symm.trans h2.d.num'
  have l5 : nf = nf' := by
    have a := h1.s.row.num'
    have b := h2.s.row.num'
    have c := congrArg List.length e10
    simp at c
    have a : S.length = nf := a
    have b : S'.length = nf' := b
    omega
  subst l1 l2 l3 l4 l5
  exact sameImgV (ac1 := ac1) (bc1 := bc1) (cc1 := cc1) (dc1 := dc1) (fc1 := fc1) s t x y u h1.bk h2.bk h1.d h2.d h1.s h2.s e10 hs.1 hs.2.1 hs.2.2.1 hs.2.2.2.1 hs.2.2.2.2
end Go.Proofs.YtiijbboigebhcaaGreatDoor
