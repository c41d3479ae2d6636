import Derived.Test.YtiijbboigebhcaaGreatDoorNSm
import Derived.ChangeKeysEq
namespace Go.Proofs.YtiijbboigebhcaaGreatDoor
open Go.RowKit Crc

theorem infoU64 : (Tryz.prog.info? 22).map (fun i => (i.zero, i.size, i.bytes)) = some (some (.int .u64 0), 1, 8) := by kernel_rfl
theorem paid_eq (p q r : Int) (w : World) : (Op.equalIn 9999 56 (.agg #[.int .u64 p, .int .u64 q, .int .u64 r]) (.agg #[.int .u64 p, .int .u64 q, .int .u64 r])).run Tryz.prog w = .ok true w := by
  have hu : Tryz.prog.underlying 56 = some (.array 3 22) := by kernel_rfl
  obtain ⟨i0, hi, hz0, hz1, hz2⟩ := info_parts infoU64
  have hc : Tryz.prog.cellsOf 22 = 1 := by kernel_rfl
  have hp : Tryz.prog.plainKey 22 = true := by kernel_rfl
  have hui : Tryz.prog.underlying 22 = some (.int .u64) := by kernel_rfl
  rw [run_equalIn_array w 9998 _ _ hu hi, hc]
  have k0 : (part 22 #[.int .u64 p, .int .u64 q, .int .u64 r] 0).run Tryz.prog w = .ok (.int .u64 p) w := run_part_plain w hp rfl
  have k1 : (part 22 #[.int .u64 p, .int .u64 q, .int .u64 r] 1).run Tryz.prog w = .ok (.int .u64 q) w := run_part_plain w hp rfl
  have k2 : (part 22 #[.int .u64 p, .int .u64 q, .int .u64 r] 2).run Tryz.prog w = .ok (.int .u64 r) w := run_part_plain w hp rfl
  have m0 : (Op.equalIn 9998 22 (.int .u64 p) (.int .u64 p)).run Tryz.prog w = .ok (p == p) w := run_equalIn_int w 9997 22 .u64 .u64 p p hui
  have m1 : (Op.equalIn 9998 22 (.int .u64 q) (.int .u64 q)).run Tryz.prog w = .ok (q == q) w := run_equalIn_int w 9997 22 .u64 .u64 q q hui
  have m2 : (Op.equalIn 9998 22 (.int .u64 r) (.int .u64 r)).run Tryz.prog w = .ok (r == r) w := run_equalIn_int w 9997 22 .u64 .u64 r r hui
  have hr : List.range 3 = [0, 1, 2] := by decide
  rw [hr]
  simp [Op.eqItems, Sem.run_bind, k0, k1, k2, m0, m1, m2]
set_option maxRecDepth 10000 in
theorem deal_ncmp (a b c d e f g : Int) (ph : Int) (p q r z : Int) (t : ByteArray) (w : World) : (binOp BinOp.neq 58 (.agg #[.int .u64 a, .int .u64 b, .int .u64 c, .int .u64 d, .int .u64 e, .int .u64 f, .int .u64 g, .int .i64 ph, .int .u64 p, .int .u64 q, .int .u64 r, .int .u64 z, .string t]) (.agg #[.int .u64 a, .int .u64 b, .int .u64 c, .int .u64 d, .int .u64 e, .int .u64 f, .int .u64 g, .int .i64 ph, .int .u64 p, .int .u64 q, .int .u64 r, .int .u64 z, .string t])).run Tryz.prog w = .ok (.bool false) w := by
  have h := paid_eq p q r w
  go_simp
end Go.Proofs.YtiijbboigebhcaaGreatDoor
namespace Go.Proofs.YtiijbboigebhcaaGreatDoor
open Go.RowKit Crc

set_option maxRecDepth 10000 in
set_option maxHeartbeats 3200000 in
theorem sameHouse_any (x y u : Nat) {base1 base2 : Nat} {w : World} {a1 a2 b1 b2 c1 c2 d1 d2 : Option Addr} {na ac1 ac2 nb bc1 bc2 nc cc1 cc2 nd dc1 dc2 : Nat} {A : List Ac} {H : List Ho} {J : List En} {D : List De} (h1 : OwnBk base1 w (.slice a1 na ac1) (.slice b1 nb bc1) (.slice c1 nc cc1) A H J) (h2 : OwnBk base2 w (.slice a2 na ac2) (.slice b2 nb bc2) (.slice c2 nc cc2) A H J) (r1 : Rw base1 w 58 13 De.cells (.slice d1 nd dc1) D) (r2 : Rw base2 w 58 13 De.cells (.slice d2 nd dc2) D) (hna : na ≤ 1000) (hnb : nb ≤ 1000) (hnc : nc ≤ 1000) (hnd : nd ≤ 1000) :
    Calls Tryz.prog 49 #[.agg #[.int .u64 (x : Int), .int .u64 (y : Int), .slice a1 na ac1, .slice b1 nb bc1, .slice c1 nc cc1, .slice d1 nd dc1, .int .u64 (u : Int)], .agg #[.int .u64 (x : Int), .int .u64 (y : Int), .slice a2 na ac2, .slice b2 nb bc2, .slice c2 nc cc2, .slice d2 nd dc2, .int .u64 (u : Int)]] w fun e w' => e = .returned (.bool true) ∧ Hid (Below w.heap.size w w') := by
  obtain ⟨W2, hW2⟩ : ∃ W2, (w.alloc (.cells #[.int .u64 (x : Int), .int .u64 (y : Int), .slice a1 na ac1, .slice b1 nb bc1, .slice c1 nc cc1, .slice d1 nd dc1, .int .u64 (u : Int)] 30)).alloc (.cells #[.int .u64 (x : Int), .int .u64 (y : Int), .slice a2 na ac2, .slice b2 nb bc2, .slice c2 nc cc2, .slice d2 nd dc2, .int .u64 (u : Int)] 30) = W2 := ⟨_, rfl⟩
  have e1 : (w.alloc (.cells #[.int .u64 (x : Int), .int .u64 (y : Int), .slice a1 na ac1, .slice b1 nb bc1, .slice c1 nc cc1, .slice d1 nd dc1, .int .u64 (u : Int)] 30)).heap.size = w.heap.size + 1 := by simp
  have s2 : W2.heap.size = w.heap.size + 1 + 1 := by rw [← hW2]; simp
  have b0 : Below w.heap.size w W2 := by rw [← hW2]; exact ((Below.refl _ w).alloc (Nat.le_refl _) _).alloc (by simp) _
  have q1 : W2.heap[w.heap.size]? = some (.cells #[.int .u64 (x : Int), .int .u64 (y : Int), .slice a1 na ac1, .slice b1 nb bc1, .slice c1 nc cc1, .slice d1 nd dc1, .int .u64 (u : Int)] 30 (0, 0)) := by rw [← hW2]; exact ((World.grownBy_alloc _ _ none).block _ (by rw [e1]; omega) (by simp)).trans (alloc_atN _ _)
  have q2 : W2.heap[w.heap.size + 1]? = some (.cells #[.int .u64 (x : Int), .int .u64 (y : Int), .slice a2 na ac2, .slice b2 nb bc2, .slice c2 nc cc2, .slice d2 nd dc2, .int .u64 (u : Int)] 30 (0, 0)) := by rw [← hW2, ← e1]; exact alloc_atN _ _
  have SBK := hide (sameBook_any x y (h1.past (below_none b0) (fun g e => by cases e)) (h2.past (below_none b0) (fun g e => by cases e)) hna hnb hnc)
  have R1 := hide (r1.below b0)
  have R2 := hide (r2.below b0)
  have HLD := hide r1.num'
  have QQ := hide (And.intro q1 q2)
  have BB := hide b0
  have y0 := block_cell q1 0
  have z0 := block_cell q2 0
  have y1 := block_cell q1 1
  have z1 := block_cell q2 1
  have y2 := block_cell q1 2
  have z2 := block_cell q2 2
  have y3 := block_cell q1 3
  have z3 := block_cell q2 3
  have y4 := block_cell q1 4
  have z4 := block_cell q2 4
  have y5 := block_cell q1 5
  have z5 := block_cell q2 5
  have y6 := block_cell q1 6
  have z6 := block_cell q2 6
  simp at y0 z0 y1 z1 y2 z2 y3 z3 y4 z4 y5 z5 y6 z6
  have hszz := block_lt q2
  have hszy := block_lt q1
  clear h1 h2 r1 r2 b0 q1 q2 e1 s2
  go_enter Tryz.func49, Tryz.ntmps49
  go_wp2_with fail
  refine SBK.out.mono ?_
  rintro e W3 ⟨rfl, G3⟩
  have P1 := hide ((G3.out.block _ hszy).trans QQ.out.1)
  have P2 := hide ((G3.out.block _ hszz).trans QQ.out.2)
  have R1 := hide (R1.out.below G3.out)
  have R2 := hide (R2.out.below G3.out)
  have BB := hide (below_trans1 BB.out G3.out)
  clear y0 z0 y1 z1 y2 z2 y3 z3 y4 z4 y5 z5 y6 z6 hszz hszy SBK
  have y5 := block_cell P1.out 5
  have z5 := block_cell P2.out 5
  have y6 := block_cell P1.out 6
  have z6 := block_cell P2.out 6
  simp at y5 z5 y6 z6
  have hszy := block_lt P1.out
  have hszz := block_lt P2.out
  clear G3 hW2
  go_wp2
  go_loopw [5] (fun i wr => ∃ k : Nat, k ≤ nd ∧ i = .int .i64 k ∧ Hid (∃ r, wr = W3.drewN r)) (fun i _ => nd - (intOf i).toNat)
  case atStart => exact ⟨0, by omega, rfl, 0, rfl⟩
  case round =>
    obtain ⟨k, hk, rfl, HS⟩ := hrel
    obtain ⟨r, hr⟩ := HS.out
    have hh : wr.heap = W3.heap := by rw [hr]; rfl
    have DN : Hid (∀ q, ∃ r, wr.drewN q = W3.drewN r) := fun q => ⟨r + q, by rw [hr]; simp [World.drewN, Nat.add_assoc]⟩
    have p1 := cell_heap hh y5
    have p2 := cell_heap hh z5
    have hl1 : w.heap.size + 1 < wr.heap.size := by rw [hh]; exact hszz
    have hl0 : w.heap.size < wr.heap.size := by rw [hh]; exact hszy
    by_cases hlt : k < nd
    · obtain ⟨e, hx⟩ : ∃ e, D[k]? = some e := ⟨_, List.getElem?_eq_getElem (by rw [HLD.out]; exact hlt)⟩
      obtain ⟨g1, hg1, hgl1, -, -, hc1⟩ := R1.out.at_ len_De hx
      obtain ⟨g2, hg2, hgl2, -, -, hc2⟩ := R2.out.at_ len_De hx
      have c0 := cell_heap hh (hc1 0 _ rfl)
      have v0 := cell_heap hh (hc2 0 _ rfl)
      have c1 := cell_heap hh (hc1 1 _ rfl)
      have v1 := cell_heap hh (hc2 1 _ rfl)
      have c2 := cell_heap hh (hc1 2 _ rfl)
      have v2 := cell_heap hh (hc2 2 _ rfl)
      have c3 := cell_heap hh (hc1 3 _ rfl)
      have v3 := cell_heap hh (hc2 3 _ rfl)
      have c4 := cell_heap hh (hc1 4 _ rfl)
      have v4 := cell_heap hh (hc2 4 _ rfl)
      have c5 := cell_heap hh (hc1 5 _ rfl)
      have v5 := cell_heap hh (hc2 5 _ rfl)
      have c6 := cell_heap hh (hc1 6 _ rfl)
      have v6 := cell_heap hh (hc2 6 _ rfl)
      have c7 := cell_heap hh (hc1 7 _ rfl)
      have v7 := cell_heap hh (hc2 7 _ rfl)
      have c8 := cell_heap hh (hc1 8 _ rfl)
      have v8 := cell_heap hh (hc2 8 _ rfl)
      have c9 := cell_heap hh (hc1 9 _ rfl)
      have v9 := cell_heap hh (hc2 9 _ rfl)
      have c10 := cell_heap hh (hc1 10 _ rfl)
      have v10 := cell_heap hh (hc2 10 _ rfl)
      have c11 := cell_heap hh (hc1 11 _ rfl)
      have v11 := cell_heap hh (hc2 11 _ rfl)
      have c12 := cell_heap hh (hc1 12 _ rfl)
      have v12 := cell_heap hh (hc2 12 _ rfl)
      simp only [Nat.add_zero] at c0 v0
      have hw1 : g1 < wr.heap.size := by rw [hh]; exact hgl1
      have hw2 : g2 < wr.heap.size := by rw [hh]; exact hgl2
      subst hg1
      subst hg2
      have hcmp := fun w' => deal_ncmp (e.a : Int) (e.b : Int) (e.c : Int) (e.d : Int) (e.e : Int) (e.f : Int) (e.g : Int) e.ph (e.p : Int) (e.q : Int) (e.r : Int) (e.z : Int) e.t w'
      clear hr hh HS hc1 hc2 hx y5 z5
      go_wp2_with fail
      go_quiet (fail)
      go_wp2
      go_roundw
      case rel => exact ⟨k + 1, by omega, by go_num, DN.out _⟩
      case measure => simp [intOf]; omega
    · have BF : Hid (Below w.heap.size w wr) := by rw [hr]; exact Go.below_drewN BB.out r
      clear hr hh HS DN
      go_wp2
      go_ret
      exact ⟨rfl, BF.out⟩
end Go.Proofs.YtiijbboigebhcaaGreatDoor
