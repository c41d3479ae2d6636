import Derived.Test.YtggpaljilpbmhaaGreatDoorY57
namespace Go.Proofs.YtggpaljilpbmhaaGreatDoor
open Go.RowKit

section
variable {B kb : Nat} {v : Gv} {ev kk : Int} {w : World}
set_option maxRecDepth 10000 in
set_option maxHeartbeats 3200000 in
theorem fault0 (h : Tx B kb v ev kk w) : Calls Tryz.prog 109 #[.pointer (some ⟨kb, 0, none⟩), .int .i64 0] w fun e w' => e = .returned (.int .i64 0) ∧ Hid (Below w.heap.size w w') := by
 obtain ⟨bn, en, ln, kn, cn, _⟩ := own_at h.t.n (by decide)
 have c0 := block_cell h.blk 0
 have cl := block_lt h.blk
 simp at c0
 rw [en] at c0
 have n0 := cn 0 _ rfl
 have n1 := cn 1 _ rfl
 have n2 := cn 2 _ rfl
 obtain ⟨W1, hW1⟩ : ∃ W1, w.alloc (.cells #[.int .i64 1, .int .u64 1, .string ⟨#[]⟩] 121) = W1 := ⟨_, rfl⟩
 have B1 : Below w.heap.size w W1 := by rw [← hW1]; exact below_alloc1 w _
 have A1 : W1.heap[w.heap.size]? = some (.cells #[.int .i64 1, .int .u64 1, .string ⟨#[]⟩] 121 (0, 0)) := by rw [← hW1]; exact alloc_atK w _
 have HRU := hide (rule_any (h.next B1))
 have HSH : Hid (∀ w, Calls Tryz.prog 154 #[.int .i64 1] w fun e w' => e = .returned (.agg (shA 1)) ∧ Hid (Below w.heap.size w w')) := fun w => shapeOf4 1 (by decide) w
 simp [shA] at HSH
 have hfd := field_place
 have HB1 := hide B1
 have HA1 := hide A1
 have HW1 := hide hW1
 clear h cn en hW1 B1 A1
 go_enter Tryz.func109, Tryz.ntmps109
 go_upto_region 2 with fail
 rw [HW1.out]
 clear HW1 c0 cl n0 n1 n2
 have x0 := block_cell HA1.out 0
 have xl := block_lt HA1.out
 simp at x0
 have HB2 := HB1
 clear HRU HA1 HB1
 go_wp2_with fail
 refine (HSH.out _).mono ?_
 rintro e w3 ⟨rfl, G3⟩
 have HB3 := hide (HB2.out.trans (G3.out.mono HB2.out.size))
 clear HSH HB2 G3 x0 xl
 go_wp2
 go_ret
 exact ⟨rfl, HB3⟩
set_option maxRecDepth 10000 in
set_option maxHeartbeats 3200000 in
theorem fault1 (h : Tx B kb v ev kk w) : Calls Tryz.prog 109 #[.pointer (some ⟨kb, 0, none⟩), .int .i64 1] w fun e w' => e = .returned (.int .i64 0) ∧ Hid (Below w.heap.size w w') := by
 obtain ⟨bn, en, ln, kn, cn, _⟩ := own_at h.t.n (by decide)
 have c0 := block_cell h.blk 0
 have cl := block_lt h.blk
 simp at c0
 rw [en] at c0
 have n0 := cn 3 _ rfl
 have n1 := cn 4 _ rfl
 have n2 := cn 5 _ rfl
 obtain ⟨W1, hW1⟩ : ∃ W1, w.alloc (.cells #[.int .i64 2, .int .u64 ev, .string ⟨#[]⟩] 121) = W1 := ⟨_, rfl⟩
 have B1 : Below w.heap.size w W1 := by rw [← hW1]; exact below_alloc1 w _
 have A1 : W1.heap[w.heap.size]? = some (.cells #[.int .i64 2, .int .u64 ev, .string ⟨#[]⟩] 121 (0, 0)) := by rw [← hW1]; exact alloc_atK w _
 have HRU := hide (rule_any (h.next B1))
 have HSH : Hid (∀ w, Calls Tryz.prog 154 #[.int .i64 2] w fun e w' => e = .returned (.agg (shA 2)) ∧ Hid (Below w.heap.size w w')) := fun w => shapeOf4 2 (by decide) w
 simp [shA] at HSH
 have hfd := field_place
 have HB1 := hide B1
 have HA1 := hide A1
 have HW1 := hide hW1
 clear h cn en hW1 B1 A1
 go_enter Tryz.func109, Tryz.ntmps109
 go_upto_region 2 with fail
 rw [HW1.out]
 clear HW1 c0 cl n0 n1 n2
 have x0 := block_cell HA1.out 0
 have x1 := block_cell HA1.out 1
 have xl := block_lt HA1.out
 simp at x0 x1
 go_wp2_with fail
 refine HRU.out.mono ?_
 rintro e w2 ⟨rfl, G2⟩
 have a2 := (G2.block _ (block_lt HA1.out)).trans HA1.out
 have HB2 := hide (HB1.out.trans (G2.mono HB1.out.size))
 clear HRU x0 x1 xl HA1 HB1 G2
 have x0 := block_cell a2 0
 have xl := block_lt a2
 simp at x0
 clear a2
 go_wp2_with fail
 refine (HSH.out _).mono ?_
 rintro e w3 ⟨rfl, G3⟩
 have HB3 := hide (HB2.out.trans (G3.out.mono HB2.out.size))
 clear HSH HB2 G3 x0 xl
 go_wp2
 go_ret
 exact ⟨rfl, HB3⟩
set_option maxRecDepth 10000 in
set_option maxHeartbeats 3200000 in
theorem fault2 (h : Tx B kb v ev kk w) : Calls Tryz.prog 109 #[.pointer (some ⟨kb, 0, none⟩), .int .i64 2] w fun e w' => e = .returned (.int .i64 0) ∧ Hid (Below w.heap.size w w') := by
 obtain ⟨bn, en, ln, kn, cn, _⟩ := own_at h.t.n (by decide)
 have c0 := block_cell h.blk 0
 have cl := block_lt h.blk
 simp at c0
 rw [en] at c0
 have n0 := cn 6 _ rfl
 have n1 := cn 7 _ rfl
 have n2 := cn 8 _ rfl
 obtain ⟨W1, hW1⟩ : ∃ W1, w.alloc (.cells #[.int .i64 3, .int .u64 1, .string ⟨#[]⟩] 121) = W1 := ⟨_, rfl⟩
 have B1 : Below w.heap.size w W1 := by rw [← hW1]; exact below_alloc1 w _
 have A1 : W1.heap[w.heap.size]? = some (.cells #[.int .i64 3, .int .u64 1, .string ⟨#[]⟩] 121 (0, 0)) := by rw [← hW1]; exact alloc_atK w _
 have HRU := hide (rule_any (h.next B1))
 have HSH : Hid (∀ w, Calls Tryz.prog 154 #[.int .i64 3] w fun e w' => e = .returned (.agg (shA 3)) ∧ Hid (Below w.heap.size w w')) := fun w => shapeOf4 3 (by decide) w
 simp [shA] at HSH
 have hfd := field_place
 have HB1 := hide B1
 have HA1 := hide A1
 have HW1 := hide hW1
 clear h cn en hW1 B1 A1
 go_enter Tryz.func109, Tryz.ntmps109
 go_upto_region 2 with fail
 rw [HW1.out]
 clear HW1 c0 cl n0 n1 n2
 have x0 := block_cell HA1.out 0
 have xl := block_lt HA1.out
 simp at x0
 have HB2 := HB1
 clear HRU HA1 HB1
 go_wp2_with fail
 refine (HSH.out _).mono ?_
 rintro e w3 ⟨rfl, G3⟩
 have HB3 := hide (HB2.out.trans (G3.out.mono HB2.out.size))
 clear HSH HB2 G3 x0 xl
 go_wp2
 go_ret
 exact ⟨rfl, HB3⟩
set_option maxRecDepth 10000 in
set_option maxHeartbeats 3200000 in
theorem fault3 (h : Tx B kb v ev kk w) : Calls Tryz.prog 109 #[.pointer (some ⟨kb, 0, none⟩), .int .i64 3] w fun e w' => e = .returned (.int .i64 0) ∧ Hid (Below w.heap.size w w') := by
 obtain ⟨bn, en, ln, kn, cn, _⟩ := own_at h.t.n (by decide)
 have c0 := block_cell h.blk 0
 have cl := block_lt h.blk
 simp at c0
 rw [en] at c0
 have n0 := cn 9 _ rfl
 have n1 := cn 10 _ rfl
 have n2 := cn 11 _ rfl
 obtain ⟨W1, hW1⟩ : ∃ W1, w.alloc (.cells #[.int .i64 12, .int .u64 kk, .string ⟨#[]⟩] 121) = W1 := ⟨_, rfl⟩
 have B1 : Below w.heap.size w W1 := by rw [← hW1]; exact below_alloc1 w _
 have A1 : W1.heap[w.heap.size]? = some (.cells #[.int .i64 12, .int .u64 kk, .string ⟨#[]⟩] 121 (0, 0)) := by rw [← hW1]; exact alloc_atK w _
 have HRU := hide (rule_any (h.next B1))
 have HSH : Hid (∀ w, Calls Tryz.prog 154 #[.int .i64 12] w fun e w' => e = .returned (.agg (shA 12)) ∧ Hid (Below w.heap.size w w')) := fun w => shapeOf4 12 (by decide) w
 simp [shA] at HSH
 have hfd := field_place
 have HB1 := hide B1
 have HA1 := hide A1
 have HW1 := hide hW1
 clear h cn en hW1 B1 A1
 go_enter Tryz.func109, Tryz.ntmps109
 go_upto_region 2 with fail
 rw [HW1.out]
 clear HW1 c0 cl n0 n1 n2
 have x0 := block_cell HA1.out 0
 have xl := block_lt HA1.out
 simp at x0
 have HB2 := HB1
 clear HRU HA1 HB1
 go_wp2_with fail
 refine (HSH.out _).mono ?_
 rintro e w3 ⟨rfl, G3⟩
 have HB3 := hide (HB2.out.trans (G3.out.mono HB2.out.size))
 clear HSH HB2 G3 x0 xl
 go_wp2
 go_ret
 exact ⟨rfl, HB3⟩
end
set_option maxRecDepth 10000 in
set_option maxHeartbeats 3200000 in
theorem checkC {tb : Nat} {ev kk : Int} {W : World} (h : Pn tb ev kk W) (h0 : 0 ≤ ev) (h1 : ev ≤ 5) (h2 : 1 ≤ kk) (h3 : kk ≤ 999) : Calls Tryz.prog 51 #[.slice (some ⟨tb, 0, none⟩) 4 4] W fun e w' => e = .returned .nilIface ∧ Hid (Below W.heap.size W w') := by
 have HTR := hide (treeOfC h h0 h1 h2 h3)
 clear h h0 h1 h2 h3
 go_enter Tryz.func51, Tryz.ntmps51
 go_wp2_with fail
 refine HTR.out.mono ?_
 rintro e w1 ⟨v, rfl, G1⟩
 clear HTR
 obtain ⟨W2, hW2⟩ : ∃ W2, w1.alloc (.cells #[.slice v.aN 4 v.cN, .slice v.aE 4 v.cE, .slice v.aA 4 v.cA] 191) = W2 := ⟨_, rfl⟩
 have B2 : Below w1.heap.size w1 W2 := by rw [← hW2]; exact below_alloc1 _ _
 have A2 : W2.heap[w1.heap.size]? = some (.cells #[.slice v.aN 4 v.cN, .slice v.aE 4 v.cE, .slice v.aA 4 v.cA] 191 (0, 0)) := by rw [← hW2]; exact alloc_atK _ _
 have HJ0 : Hid (Tx W.heap.size w1.heap.size v ev kk W2 ∧ Below W.heap.size W W2) := ⟨⟨A2, G1.out.1.next B2⟩, G1.out.2.trans (B2.mono G1.out.2.size)⟩
 have c0 := block_cell A2 0
 have cl := block_lt A2
 simp at c0
 have HW2 := hide hW2
 clear hW2 B2 A2 G1
 go_upto_region 2 with fail
 rw [HW2.out]
 clear HW2
 generalize w1.heap.size = kb at *
 go_upto_block 0 with fail
 clear c0 cl
 go_cut [18] from 19 (fun _ V => Hid (Below W.heap.size W V))
 case first =>
  go_wp2
  go_loopw [18] (fun i wr => ∃ j : Nat, j ≤ 4 ∧ i = .int .i64 (j : Nat) ∧ Hid (Tx W.heap.size kb v ev kk wr ∧ Below W.heap.size W wr)) (fun i _ => 4 - (intOf i).toNat)
  case atStart => exact ⟨0, by omega, rfl, HJ0.out⟩
  case round =>
   obtain ⟨j, hj, rfl, HJ⟩ := hrel
   clear HJ0
   by_cases hlt : j < 4
   ·rcases (show j = 0 ∨ j = 1 ∨ j = 2 ∨ j = 3 by omega) with rfl | rfl | rfl | rfl
    ·have HFA := hide (fault0 HJ.out.1)
     clear hj hlt
     go_wp2_with fail
     refine HFA.out.mono ?_
     rintro e w3 ⟨rfl, G3⟩
     have HN : Hid (Tx W.heap.size kb v ev kk w3 ∧ Below W.heap.size W w3) := ⟨HJ.out.1.next G3.out, HJ.out.2.trans (G3.out.mono HJ.out.2.size)⟩
     clear HFA G3 HJ
     go_wp2
     go_roundw
     case rel => exact ⟨1, by omega, by go_num, HN.out⟩
     case measure => simp [intOf]
    ·have HFA := hide (fault1 HJ.out.1)
     clear hj hlt
     go_wp2_with fail
     refine HFA.out.mono ?_
     rintro e w3 ⟨rfl, G3⟩
     have HN : Hid (Tx W.heap.size kb v ev kk w3 ∧ Below W.heap.size W w3) := ⟨HJ.out.1.next G3.out, HJ.out.2.trans (G3.out.mono HJ.out.2.size)⟩
     clear HFA G3 HJ
     go_wp2
     go_roundw
     case rel => exact ⟨2, by omega, by go_num, HN.out⟩
     case measure => simp [intOf]
    ·have HFA := hide (fault2 HJ.out.1)
     clear hj hlt
     go_wp2_with fail
     refine HFA.out.mono ?_
     rintro e w3 ⟨rfl, G3⟩
     have HN : Hid (Tx W.heap.size kb v ev kk w3 ∧ Below W.heap.size W w3) := ⟨HJ.out.1.next G3.out, HJ.out.2.trans (G3.out.mono HJ.out.2.size)⟩
     clear HFA G3 HJ
     go_wp2
     go_roundw
     case rel => exact ⟨3, by omega, by go_num, HN.out⟩
     case measure => simp [intOf]
    ·have HFA := hide (fault3 HJ.out.1)
     clear hj hlt
     go_wp2_with fail
     refine HFA.out.mono ?_
     rintro e w3 ⟨rfl, G3⟩
     have HN : Hid (Tx W.heap.size kb v ev kk w3 ∧ Below W.heap.size W w3) := ⟨HJ.out.1.next G3.out, HJ.out.2.trans (G3.out.mono HJ.out.2.size)⟩
     clear HFA G3 HJ
     go_wp2
     go_roundw
     case rel => exact ⟨4, by omega, by go_num, HN.out⟩
     case measure => simp [intOf]
   ·obtain rfl : j = 4 := by omega
    have HN := hide HJ.out.2
    clear HJ hj hlt
    go_wp2
    go_meet
    case rel => exact HN.out
 case rest =>
 have HD := hide hcut.out
 clear hcut HJ0
 go_wp2
 go_ret
 exact ⟨rfl, HD⟩
end Go.Proofs.YtggpaljilpbmhaaGreatDoor
