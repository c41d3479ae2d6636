import Derived.Test.YtlnfkooimpmahaaGreatM47
namespace Go.Proofs.YtlnfkooimpmahaaGreat
open Go.RowKit Crc

set_option maxRecDepth 10000 in
set_option maxHeartbeats 3200000 in
theorem decRecR_4 {lim : Nat} {w : World} {ao : Option Addr} {n cap : Nat} {B : List Nat} (h : Shows lim w ao n cap B) (hl : lim ≤ w.heap.size) (hs : (rs1 B).sound) (hk : rk B = 4) :
    Calls Tryz.prog 30 #[.slice ao n cap] w fun e w' => ∃ c : Mc, e = .returned (.tuple #[recAgg (recK B) c, .agg #[.int .i64 (recC B), .int .i64 (recA B)]]) ∧ Hid (Below w.heap.size w w' ∧ OwnRs w.heap.size w' c.bv c.rs ∧ FreeRs w.heap.size w' c.rs ∧ Owns w.heap.size w' c.dv c.D ∧ c.rv = recV B) := by
  have HF : Hid (fsOf (rk B) = [.slot]) := by show _ = _; rw [hk]; rfl
  have HS := hide hs
  have HC := hide (rec_ref hs (by rw [HF.out]; simp))
  have HN := hide (fun h : recC B ≠ 0 => rv_refused h)
  rw [HF.out, hk] at HC
  clear hs HF
  generalize recC B = ec at *
  generalize recA B = ea at *
  generalize recK B = kk at *
  generalize recV B = vv at *
  obtain ⟨W0, hW0⟩ : ∃ W0, (w.alloc (.cells #[.int .i64 0, .int .u64 0, .int .i64 0, .int .u64 0, .int .u64 0, .slice none 0 0, .slice none 0 0] 31)).alloc (.cells #[.int .i64 0, .int .i64 0] 33) = W0 := ⟨_, rfl⟩
  have HB0 := hide (bx2 hW0)
  have HWW := hide hW0
  have H1 := hide (newR h hl HB0.out)
  clear h hW0 hl
  go_enter Tryz.func30, Tryz.ntmps30
  go_wp2_with fail
  rw [HWW.out]
  refine H1.out.mono ?_
  rintro e w1 ⟨p, rfl, G1⟩
  obtain ⟨d, r1, b1, p1, d1⟩ := G1.out
  have R1 := hide r1
  have B1 := hide b1
  have P1 := hide (And.intro p1 d1)
  clear r1 b1 p1 d1 G1 H1 HWW
  go_wp2_with fail
  refine (kindR R1.out B1.out P1.out.1).mono ?_
  rintro e w2 ⟨rfl, hk2, G2⟩
  rw [hk]
  clear hk2 hk
  have R3 := hide (rf_new (k := 4) G2.out.1 G2.out.2 P1.out.1 P1.out.2)
  obtain ⟨W3, hW3⟩ : ∃ W3, w2.alloc (.cells #[.int .i64 4, .int .u64 0, .int .i64 0, .int .u64 0, .int .u64 0, .slice none 0 0, .slice none 0 0] 31) = W3 := ⟨_, rfl⟩
  rw [show ((4 : Nat) : Int) = 4 from rfl, hW3] at R3
  have HW3 := hide hW3
  have HDD := hide (dead_sound d p _ w2 G2.out.1 HS.out)
  clear hW3 G2 B1 R1
  go_wp2_with fail
  refine HDD.out.mono ?_
  rintro e w2' ⟨rfl, rfl⟩
  clear HDD
  go_wp2_with fail
  refine Calls.world HW3.out ?_
  clear HW3
  generalize w2'.heap.size = V at *
  refine (cSlot R3.out).mono ?_
  rintro e W4 ⟨rfl, R4⟩
  have y3 := block_cell R4.out.box 3
  have z3 := block_free R4.out.box 3
  simp at y3
  have N4 := hide (R4.out.slot (upV (rs1 B) 1099511627776))
  obtain ⟨X4, hX4⟩ : ∃ X4, (W4.setCell ⟨V, 3, none⟩ (.int .u64 ((upV (rs1 B) 1099511627776 : Nat) : Int))) = X4 := ⟨_, rfl⟩
  rw [hX4] at N4
  have HX4 := hide hX4
  clear hX4
  go_wp2_with fail
  refine Calls.world HX4.out ?_
  clear HX4 y3 z3
  have EE : Hid ((upS (rs1 B) 1099511627776).endC = ec ∧ (upS (rs1 B) 1099511627776).endA = ea) := ⟨HC.out.1, HC.out.2.1⟩
  refine (cEndR N4.out EE.out.1 EE.out.2).mono ?_
  rintro e W9 ⟨rfl, R9⟩
  have R9a := hide (R9.out.still (World.grownBy_alloc W9 (.cells #[.int .i64 ec, .int .i64 ea] 33) none))
  by_cases hz : ec = 0
  · have HV : Hid (kk = 4 ∧ (frunR [.slot] (rs1 B) rv0).2 = vv) := ⟨(HC.out.2.2 hz).2.1, (HC.out.2.2 hz).1⟩
    have hea := (HC.out.2.2 hz).2.2
    subst hz
    subst hea
    obtain ⟨f1, f2, f3, f4, f5⟩ := fin_ryes HB0.out R9.out
    have HV9 := hide f5
    have y0 := block_cell f3 0
    have y1 := block_cell f3 1
    have y2 := block_cell f3 2
    have y3 := block_cell f3 3
    have y4 := block_cell f3 4
    have y5 := block_cell f3 5
    have y6 := block_cell f3 6
    have z0 := block_free f3 0
    have z1 := block_free f3 1
    have z2 := block_free f3 2
    have z3 := block_free f3 3
    have z4 := block_free f3 4
    have z5 := block_free f3 5
    have z6 := block_free f3 6
    have u0 := block_cell f4 0
    have u1 := block_cell f4 1
    have v0 := block_free f4 0
    have v1 := block_free f4 1
    simp at y0 y1 y2 y3 y4 y5 y6 u0 u1
    have hl0 := block_lt f3
    have hl1 := block_lt f4
    have x0 := block_cell R9.out.box 0
    have x1 := block_cell R9.out.box 1
    have x2 := block_cell R9.out.box 2
    have x3 := block_cell R9.out.box 3
    have x4 := block_cell R9.out.box 4
    have x5 := block_cell R9.out.box 5
    have x6 := block_cell R9.out.box 6
    simp [mc0] at x0 x1 x2 x3 x4 x5 x6
    have hlV := block_lt R9.out.box
    have hnV : ¬ V = w.heap.size := by have := HV9.out; omega
    have hnV1 : ¬ V = w.heap.size + 1 := by have := HV9.out; omega
    clear f1 f2 f3 f4 f5
    go_wp2
    refine bodyPost_ret (v := .tuple #[.agg #[.int .i64 4, .int .u64 0, .int .i64 0, .int .u64 ((upV (rs1 B) 1099511627776 : Nat) : Int), .int .u64 0, .slice none 0 0, .slice none 0 0], .agg #[.int .i64 0, .int .i64 0]]) (by simp [results, Tryz.results30, go_sem, y0, y1, y2, y3, y4, y5, y6, u0, u1, hl0, hl1]) rfl ⟨⟨0, 0, upV (rs1 B) 1099511627776, 0, .slice none 0 0, [], .slice none 0 0, []⟩, by rw [HV.out.1]; rfl, ?_⟩
    exact fin_yes9 HB0.out R9.out _ _ _ _ _ _ _ _ _ _ (HV.out.2)
  · have hzb : (ec != 0) = true := by simp [hz]
    obtain ⟨e1, e2⟩ := HN.out hz
    have HE := hide (And.intro e1 e2)
    obtain ⟨f1, f2, f3, f4, f5⟩ := fin_ryes HB0.out R9a.out
    obtain ⟨W, hW, t0, t1⟩ : ∃ W, W9.alloc (.cells #[.int .i64 ec, .int .i64 ea] 33) = W ∧ W.cell? ⟨W9.heap.size, 0, none⟩ = some (.int .i64 ec) ∧ W.cell? ⟨W9.heap.size, 1, none⟩ = some (.int .i64 ea) := ⟨_, rfl, World.cell?_alloc_new _ _ _ _, World.cell?_alloc_new _ _ _ _⟩
    rw [hW] at f1 f2 f3 f4 R9a
    have HW := hide hW
    have F9 := hide f1
    have hlq : w.heap.size + 1 + 1 ≤ W9.heap.size := R9.out.lt
    have y0 := block_cell f3 0
    have y1 := block_cell f3 1
    have y2 := block_cell f3 2
    have y3 := block_cell f3 3
    have y4 := block_cell f3 4
    have y5 := block_cell f3 5
    have y6 := block_cell f3 6
    have z0 := block_free f3 0
    have z1 := block_free f3 1
    have z2 := block_free f3 2
    have z3 := block_free f3 3
    have z4 := block_free f3 4
    have z5 := block_free f3 5
    have z6 := block_free f3 6
    have u0 := block_cell f4 0
    have u1 := block_cell f4 1
    have v0 := block_free f4 0
    have v1 := block_free f4 1
    simp at y0 y1 y2 y3 y4 y5 y6 u0 u1
    have hl0 := block_lt f3
    have hl1 := block_lt f4
    have hn1 : ¬ w.heap.size = W9.heap.size := by omega
    have hn2 : ¬ w.heap.size + 1 = W9.heap.size := by omega
    clear f1 f2 f3 f4 f5 hW e1 e2 hlq R9
    go_wp2_with fail
    rw [HW.out]
    clear HW
    generalize W9.heap.size = q at *
    go_region_held (fun w' => w'.cell? ⟨q, 0, none⟩ = some (.int .i64 ec) ∧ w'.cell? ⟨q, 1, none⟩ = some (.int .i64 ea)) (go_keep) (fail)
    go_wp2
    refine bodyPost_ret (v := .tuple #[.agg #[.int .i64 0, .int .u64 0, .int .i64 0, .int .u64 0, .int .u64 0, .slice none 0 0, .slice none 0 0], .agg #[.int .i64 ec, .int .i64 ea]]) (by simp [results, Tryz.results30, go_sem, y0, y1, y2, y3, y4, y5, y6, u0, u1]) rfl ⟨mc0, by rw [HE.out.2]; rfl, ?_⟩
    exact fin_no9 F9.out _ _ _ _ _ _ _ _ _ HE.out.1

set_option maxRecDepth 10000 in
set_option maxHeartbeats 3200000 in
theorem decRecR_5 {lim : Nat} {w : World} {ao : Option Addr} {n cap : Nat} {B : List Nat} (h : Shows lim w ao n cap B) (hl : lim ≤ w.heap.size) (hs : (rs1 B).sound) (hk : rk B = 5) :
    Calls Tryz.prog 30 #[.slice ao n cap] w fun e w' => ∃ c : Mc, e = .returned (.tuple #[recAgg (recK B) c, .agg #[.int .i64 (recC B), .int .i64 (recA B)]]) ∧ Hid (Below w.heap.size w w' ∧ OwnRs w.heap.size w' c.bv c.rs ∧ FreeRs w.heap.size w' c.rs ∧ Owns w.heap.size w' c.dv c.D ∧ c.rv = recV B) := by
  have HF : Hid (fsOf (rk B) = [.slot, .snap]) := by show _ = _; rw [hk]; rfl
  have HS := hide hs
  have HC := hide (rec_ref hs (by rw [HF.out]; simp))
  have HN := hide (fun h : recC B ≠ 0 => rv_refused h)
  rw [HF.out, hk] at HC
  clear hs HF
  generalize recC B = ec at *
  generalize recA B = ea at *
  generalize recK B = kk at *
  generalize recV B = vv at *
  obtain ⟨W0, hW0⟩ : ∃ W0, (w.alloc (.cells #[.int .i64 0, .int .u64 0, .int .i64 0, .int .u64 0, .int .u64 0, .slice none 0 0, .slice none 0 0] 31)).alloc (.cells #[.int .i64 0, .int .i64 0] 33) = W0 := ⟨_, rfl⟩
  have HB0 := hide (bx2 hW0)
  have HWW := hide hW0
  have H1 := hide (newR h hl HB0.out)
  clear h hW0 hl
  go_enter Tryz.func30, Tryz.ntmps30
  go_wp2_with fail
  rw [HWW.out]
  refine H1.out.mono ?_
  rintro e w1 ⟨p, rfl, G1⟩
  obtain ⟨d, r1, b1, p1, d1⟩ := G1.out
  have R1 := hide r1
  have B1 := hide b1
  have P1 := hide (And.intro p1 d1)
  clear r1 b1 p1 d1 G1 H1 HWW
  go_wp2_with fail
  refine (kindR R1.out B1.out P1.out.1).mono ?_
  rintro e w2 ⟨rfl, hk2, G2⟩
  rw [hk]
  clear hk2 hk
  have R3 := hide (rf_new (k := 5) G2.out.1 G2.out.2 P1.out.1 P1.out.2)
  obtain ⟨W3, hW3⟩ : ∃ W3, w2.alloc (.cells #[.int .i64 5, .int .u64 0, .int .i64 0, .int .u64 0, .int .u64 0, .slice none 0 0, .slice none 0 0] 31) = W3 := ⟨_, rfl⟩
  rw [show ((5 : Nat) : Int) = 5 from rfl, hW3] at R3
  have HW3 := hide hW3
  have HDD := hide (dead_sound d p _ w2 G2.out.1 HS.out)
  clear hW3 G2 B1 R1
  go_wp2_with fail
  refine HDD.out.mono ?_
  rintro e w2' ⟨rfl, rfl⟩
  clear HDD
  go_wp2_with fail
  refine Calls.world HW3.out ?_
  clear HW3
  generalize w2'.heap.size = V at *
  refine (cSlot R3.out).mono ?_
  rintro e W4 ⟨rfl, R4⟩
  have y3 := block_cell R4.out.box 3
  have z3 := block_free R4.out.box 3
  simp at y3
  have N4 := hide (R4.out.slot (upV (rs1 B) 1099511627776))
  obtain ⟨X4, hX4⟩ : ∃ X4, (W4.setCell ⟨V, 3, none⟩ (.int .u64 ((upV (rs1 B) 1099511627776 : Nat) : Int))) = X4 := ⟨_, rfl⟩
  rw [hX4] at N4
  have HX4 := hide hX4
  clear hX4
  go_wp2_with fail
  refine Calls.world HX4.out ?_
  clear HX4 y3 z3
  refine (cSnap N4.out).mono ?_
  rintro e W5 ⟨vo, vn, vc, rfl, G5⟩
  have R5 := hide G5.out.1
  have O5 := hide G5.out.2
  clear G5
  have y6 := block_cell R5.out.box 6
  have z6 := block_free R5.out.box 6
  simp at y6
  have N5 := hide (R5.out.snap O5.out)
  obtain ⟨X5, hX5⟩ : ∃ X5, (W5.setCell ⟨V, 6, none⟩ (.slice vo vn vc)) = X5 := ⟨_, rfl⟩
  rw [hX5] at N5
  have HX5 := hide hX5
  clear hX5
  go_wp2_with fail
  refine Calls.world HX5.out ?_
  clear HX5 y6 z6
  have EE : Hid (((upS (rs1 B) 1099511627776).step (blobAt (upS (rs1 B) 1099511627776).rest 40000).2.1 (blobAt (upS (rs1 B) 1099511627776).rest 40000).2.2).endC = ec ∧ ((upS (rs1 B) 1099511627776).step (blobAt (upS (rs1 B) 1099511627776).rest 40000).2.1 (blobAt (upS (rs1 B) 1099511627776).rest 40000).2.2).endA = ea) := ⟨HC.out.1, HC.out.2.1⟩
  refine (cEndR N5.out EE.out.1 EE.out.2).mono ?_
  rintro e W9 ⟨rfl, R9⟩
  have R9a := hide (R9.out.still (World.grownBy_alloc W9 (.cells #[.int .i64 ec, .int .i64 ea] 33) none))
  by_cases hz : ec = 0
  · have HV : Hid (kk = 5 ∧ (frunR [.slot, .snap] (rs1 B) rv0).2 = vv) := ⟨(HC.out.2.2 hz).2.1, (HC.out.2.2 hz).1⟩
    have hea := (HC.out.2.2 hz).2.2
    subst hz
    subst hea
    obtain ⟨f1, f2, f3, f4, f5⟩ := fin_ryes HB0.out R9.out
    have HV9 := hide f5
    have y0 := block_cell f3 0
    have y1 := block_cell f3 1
    have y2 := block_cell f3 2
    have y3 := block_cell f3 3
    have y4 := block_cell f3 4
    have y5 := block_cell f3 5
    have y6 := block_cell f3 6
    have z0 := block_free f3 0
    have z1 := block_free f3 1
    have z2 := block_free f3 2
    have z3 := block_free f3 3
    have z4 := block_free f3 4
    have z5 := block_free f3 5
    have z6 := block_free f3 6
    have u0 := block_cell f4 0
    have u1 := block_cell f4 1
    have v0 := block_free f4 0
    have v1 := block_free f4 1
    simp at y0 y1 y2 y3 y4 y5 y6 u0 u1
    have hl0 := block_lt f3
    have hl1 := block_lt f4
    have x0 := block_cell R9.out.box 0
    have x1 := block_cell R9.out.box 1
    have x2 := block_cell R9.out.box 2
    have x3 := block_cell R9.out.box 3
    have x4 := block_cell R9.out.box 4
    have x5 := block_cell R9.out.box 5
    have x6 := block_cell R9.out.box 6
    simp [mc0] at x0 x1 x2 x3 x4 x5 x6
    have hlV := block_lt R9.out.box
    have hnV : ¬ V = w.heap.size := by have := HV9.out; omega
    have hnV1 : ¬ V = w.heap.size + 1 := by have := HV9.out; omega
    clear f1 f2 f3 f4 f5
    go_wp2
    refine bodyPost_ret (v := .tuple #[.agg #[.int .i64 5, .int .u64 0, .int .i64 0, .int .u64 ((upV (rs1 B) 1099511627776 : Nat) : Int), .int .u64 0, .slice none 0 0, .slice vo vn vc], .agg #[.int .i64 0, .int .i64 0]]) (by simp [results, Tryz.results30, go_sem, y0, y1, y2, y3, y4, y5, y6, u0, u1, hl0, hl1]) rfl ⟨⟨0, 0, upV (rs1 B) 1099511627776, 0, .slice none 0 0, [], .slice vo vn vc, (blobAt (upS (rs1 B) 1099511627776).rest 40000).1⟩, by rw [HV.out.1]; rfl, ?_⟩
    exact fin_yes9 HB0.out R9.out _ _ _ _ _ _ _ _ _ _ (HV.out.2)
  · have hzb : (ec != 0) = true := by simp [hz]
    obtain ⟨e1, e2⟩ := HN.out hz
    have HE := hide (And.intro e1 e2)
    obtain ⟨f1, f2, f3, f4, f5⟩ := fin_ryes HB0.out R9a.out
    obtain ⟨W, hW, t0, t1⟩ : ∃ W, W9.alloc (.cells #[.int .i64 ec, .int .i64 ea] 33) = W ∧ W.cell? ⟨W9.heap.size, 0, none⟩ = some (.int .i64 ec) ∧ W.cell? ⟨W9.heap.size, 1, none⟩ = some (.int .i64 ea) := ⟨_, rfl, World.cell?_alloc_new _ _ _ _, World.cell?_alloc_new _ _ _ _⟩
    rw [hW] at f1 f2 f3 f4 R9a
    have HW := hide hW
    have F9 := hide f1
    have hlq : w.heap.size + 1 + 1 ≤ W9.heap.size := R9.out.lt
    have y0 := block_cell f3 0
    have y1 := block_cell f3 1
    have y2 := block_cell f3 2
    have y3 := block_cell f3 3
    have y4 := block_cell f3 4
    have y5 := block_cell f3 5
    have y6 := block_cell f3 6
    have z0 := block_free f3 0
    have z1 := block_free f3 1
    have z2 := block_free f3 2
    have z3 := block_free f3 3
    have z4 := block_free f3 4
    have z5 := block_free f3 5
    have z6 := block_free f3 6
    have u0 := block_cell f4 0
    have u1 := block_cell f4 1
    have v0 := block_free f4 0
    have v1 := block_free f4 1
    simp at y0 y1 y2 y3 y4 y5 y6 u0 u1
    have hl0 := block_lt f3
    have hl1 := block_lt f4
    have hn1 : ¬ w.heap.size = W9.heap.size := by omega
    have hn2 : ¬ w.heap.size + 1 = W9.heap.size := by omega
    clear f1 f2 f3 f4 f5 hW e1 e2 hlq R9
    go_wp2_with fail
    rw [HW.out]
    clear HW
    generalize W9.heap.size = q at *
    go_region_held (fun w' => w'.cell? ⟨q, 0, none⟩ = some (.int .i64 ec) ∧ w'.cell? ⟨q, 1, none⟩ = some (.int .i64 ea)) (go_keep) (fail)
    go_wp2
    refine bodyPost_ret (v := .tuple #[.agg #[.int .i64 0, .int .u64 0, .int .i64 0, .int .u64 0, .int .u64 0, .slice none 0 0, .slice none 0 0], .agg #[.int .i64 ec, .int .i64 ea]]) (by simp [results, Tryz.results30, go_sem, y0, y1, y2, y3, y4, y5, y6, u0, u1]) rfl ⟨mc0, by rw [HE.out.2]; rfl, ?_⟩
    exact fin_no9 F9.out _ _ _ _ _ _ _ _ _ HE.out.1
end Go.Proofs.YtlnfkooimpmahaaGreat
