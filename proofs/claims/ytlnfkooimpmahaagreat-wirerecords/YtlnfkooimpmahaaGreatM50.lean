import Derived.Test.YtlnfkooimpmahaaGreatM47
import Derived.Test.YtlnfkooimpmahaaGreatM48
import Derived.Test.YtlnfkooimpmahaaGreatRRefRc
import Derived.Test.YtlnfkooimpmahaaGreatM37
import Derived.Deep.RegionHeldLaw
namespace Go.Proofs.YtlnfkooimpmahaaGreat
open Go.RowKit Crc

set_option maxRecDepth 10000 in
set_option maxHeartbeats 3200000 in
theorem decRecR_dead {lim : Nat} {w : World} {ao : Option Addr} {n cap : Nat} {B : List Nat} (h : Shows lim w ao n cap B) (hl : lim ≤ w.heap.size) (hs : ¬ (rs1 B).sound) :
    Calls Tryz.prog 30 #[.slice ao n cap] w fun e w' => ∃ c : Mc, e = .returned (.tuple #[recAgg (recK B) c, .agg #[.int .i64 (recC B), .int .i64 (recA B)]]) ∧ Hid (Below w.heap.size w w' ∧ OwnRs w.heap.size w' c.bv c.rs ∧ FreeRs w.heap.size w' c.rs ∧ Owns w.heap.size w' c.dv c.D ∧ c.rv = recV B) := by
  obtain ⟨x1, x2, x3, hk⟩ := rec_ref_short hs
  have HC := hide (And.intro x1 (And.intro x2 x3))
  have HN := hide (fun h : recC B ≠ 0 => rv_refused h)
  have HS := hide hs
  clear x1 x2 x3 hs
  generalize recC B = ec at *
  generalize recA B = ea at *
  generalize recK B = kk at *
  generalize recV B = vv at *
  obtain ⟨W0, hW0⟩ : ∃ W0, (w.alloc (.cells #[.int .i64 0, .int .u64 0, .int .i64 0, .int .u64 0, .int .u64 0, .slice none 0 0, .slice none 0 0] 31)).alloc (.cells #[.int .i64 0, .int .i64 0] 33) = W0 := ⟨_, rfl⟩
  have HB0 := hide (bx2 hW0)
  have HWW := hide hW0
  have H1 := hide (newR h hl HB0.out)
  clear h hW0 hl
  go_enter Tryz.func30, Tryz.ntmps30
  go_wp2_with fail
  rw [HWW.out]
  refine H1.out.mono ?_
  rintro e w1 ⟨p, rfl, G1⟩
  obtain ⟨d, r1, b1, p1, d1⟩ := G1.out
  have R1 := hide r1
  have B1 := hide b1
  have P1 := hide (And.intro p1 d1)
  clear r1 b1 p1 d1 G1 H1 HWW
  go_wp2_with fail
  refine (kindR R1.out B1.out P1.out.1).mono ?_
  rintro e w2 ⟨rfl, hk2, G2⟩
  rw [hk]
  clear hk2 hk
  have R3 := hide (rf_new (k := 0) G2.out.1 G2.out.2 P1.out.1 P1.out.2)
  obtain ⟨W3, hW3⟩ : ∃ W3, w2.alloc (.cells #[.int .i64 0, .int .u64 0, .int .i64 0, .int .u64 0, .int .u64 0, .slice none 0 0, .slice none 0 0] 31) = W3 := ⟨_, rfl⟩
  rw [show ((0 : Nat) : Int) = 0 from rfl, hW3] at R3
  have HW3 := hide hW3
  have HDD := hide (dead_not d p _ w2 G2.out.1 HS.out)
  clear hW3 G2 B1 R1
  go_wp2_with fail
  refine HDD.out.mono ?_
  rintro e w2' ⟨rfl, rfl⟩
  clear HDD
  go_wp2_with fail
  refine Calls.world HW3.out ?_
  clear HW3
  generalize w2'.heap.size = V at *
  refine (cBallot R3.out).mono ?_
  rintro e W4 ⟨rfl, R4⟩
  have y1 := block_cell R4.out.box 1
  have z1 := block_free R4.out.box 1
  have y2 := block_cell R4.out.box 2
  have z2 := block_free R4.out.box 2
  simp at y1 y2
  have N4 := hide (R4.out.ballot (upV (rs1 B) 1099511627776) (rbN (rs1 B)))
  obtain ⟨X4, hX4⟩ : ∃ X4, ((W4.setCell ⟨V, 1, none⟩ (.int .u64 ((upV (rs1 B) 1099511627776 : Nat) : Int))).setCell ⟨V, 2, none⟩ (.int .i64 ((rbN (rs1 B) : Nat) : Int))) = X4 := ⟨_, rfl⟩
  rw [hX4] at N4
  have HX4 := hide hX4
  clear hX4
  go_wp2_with fail
  refine Calls.world HX4.out ?_
  clear HX4 y1 z1 y2 z2
  refine (cSlot N4.out).mono ?_
  rintro e W5 ⟨rfl, R5⟩
  have y3 := block_cell R5.out.box 3
  have z3 := block_free R5.out.box 3
  simp at y3
  have N5 := hide (R5.out.slot (upV (rbS (rs1 B)) 1099511627776))
  obtain ⟨X5, hX5⟩ : ∃ X5, (W5.setCell ⟨V, 3, none⟩ (.int .u64 ((upV (rbS (rs1 B)) 1099511627776 : Nat) : Int))) = X5 := ⟨_, rfl⟩
  rw [hX5] at N5
  have HX5 := hide hX5
  clear hX5
  go_wp2_with fail
  refine Calls.world HX5.out ?_
  clear HX5 y3 z3
  have EE : Hid ((upS (rbS (rs1 B)) 1099511627776).endC = ec ∧ (upS (rbS (rs1 B)) 1099511627776).endA = ea) := by
    have e1 : rbS (rs1 B) = rs1 B := rbS_dead HS.out
    have e2 : upS (rs1 B) 1099511627776 = rs1 B := upS_dead HS.out _
    show _ ∧ _
    rw [e1, e2]
    exact ⟨HC.out.1, HC.out.2.1⟩
  refine (cEndR N5.out EE.out.1 EE.out.2).mono ?_
  rintro e W9 ⟨rfl, R9⟩
  have R9a := hide (R9.out.still (World.grownBy_alloc W9 (.cells #[.int .i64 ec, .int .i64 ea] 33) none))
  have hz := HC.out.2.2
  have hzb : (ec != 0) = true := by simp [hz]
  obtain ⟨e1, e2⟩ := HN.out hz
  have HE := hide (And.intro e1 e2)
  obtain ⟨f1, f2, f3, f4, f5⟩ := fin_ryes HB0.out R9a.out
  obtain ⟨W, hW, t0, t1⟩ : ∃ W, W9.alloc (.cells #[.int .i64 ec, .int .i64 ea] 33) = W ∧ W.cell? ⟨W9.heap.size, 0, none⟩ = some (.int .i64 ec) ∧ W.cell? ⟨W9.heap.size, 1, none⟩ = some (.int .i64 ea) := ⟨_, rfl, World.cell?_alloc_new _ _ _ _, World.cell?_alloc_new _ _ _ _⟩
  rw [hW] at f1 f2 f3 f4 R9a
  have HW := hide hW
  have F9 := hide f1
  have hlq : w.heap.size + 1 + 1 ≤ W9.heap.size := R9.out.lt
  have y0 := block_cell f3 0
  have y1 := block_cell f3 1
  have y2 := block_cell f3 2
  have y3 := block_cell f3 3
  have y4 := block_cell f3 4
  have y5 := block_cell f3 5
  have y6 := block_cell f3 6
  have z0 := block_free f3 0
  have z1 := block_free f3 1
  have z2 := block_free f3 2
  have z3 := block_free f3 3
  have z4 := block_free f3 4
  have z5 := block_free f3 5
  have z6 := block_free f3 6
  have u0 := block_cell f4 0
  have u1 := block_cell f4 1
  have v0 := block_free f4 0
  have v1 := block_free f4 1
  simp at y0 y1 y2 y3 y4 y5 y6 u0 u1
  have hl0 := block_lt f3
  have hl1 := block_lt f4
  have hn1 : ¬ w.heap.size = W9.heap.size := by omega
  have hn2 : ¬ w.heap.size + 1 = W9.heap.size := by omega
  clear f1 f2 f3 f4 f5 hW e1 e2 hlq R9
  go_wp2_with fail
  rw [HW.out]
  clear HW
  generalize W9.heap.size = q at *
  go_region_held (fun w' => w'.cell? ⟨q, 0, none⟩ = some (.int .i64 ec) ∧ w'.cell? ⟨q, 1, none⟩ = some (.int .i64 ea)) (go_keep) (fail)
  go_wp2
  refine bodyPost_ret (v := .tuple #[.agg #[.int .i64 0, .int .u64 0, .int .i64 0, .int .u64 0, .int .u64 0, .slice none 0 0, .slice none 0 0], .agg #[.int .i64 ec, .int .i64 ea]]) (by simp [results, Tryz.results30, go_sem, y0, y1, y2, y3, y4, y5, y6, u0, u1]) rfl ⟨mc0, by rw [HE.out.2]; rfl, ?_⟩
  exact fin_no9 F9.out _ _ _ _ _ _ _ _ _ HE.out.1
end Go.Proofs.YtlnfkooimpmahaaGreat
namespace Go.Proofs.YtlnfkooimpmahaaGreat
open Go.RowKit Crc

theorem fin_k9 {w W : World} (hb : Below w.heap.size w W) (a b c d e f g x y : Value) {vv : Rv} (hv : vv = rv0) :
    Below w.heap.size w (((((((((W.setCell ⟨w.heap.size, 0, none⟩ a).setCell ⟨w.heap.size, 1, none⟩ b).setCell ⟨w.heap.size, 2, none⟩ c).setCell ⟨w.heap.size, 3, none⟩ d).setCell ⟨w.heap.size, 4, none⟩ e).setCell ⟨w.heap.size, 5, none⟩ f).setCell ⟨w.heap.size, 6, none⟩ g).setCell ⟨w.heap.size + 1, 0, none⟩ x).setCell ⟨w.heap.size + 1, 1, none⟩ y) ∧ OwnRs w.heap.size (((((((((W.setCell ⟨w.heap.size, 0, none⟩ a).setCell ⟨w.heap.size, 1, none⟩ b).setCell ⟨w.heap.size, 2, none⟩ c).setCell ⟨w.heap.size, 3, none⟩ d).setCell ⟨w.heap.size, 4, none⟩ e).setCell ⟨w.heap.size, 5, none⟩ f).setCell ⟨w.heap.size, 6, none⟩ g).setCell ⟨w.heap.size + 1, 0, none⟩ x).setCell ⟨w.heap.size + 1, 1, none⟩ y) mc0.bv mc0.rs ∧ FreeRs w.heap.size (((((((((W.setCell ⟨w.heap.size, 0, none⟩ a).setCell ⟨w.heap.size, 1, none⟩ b).setCell ⟨w.heap.size, 2, none⟩ c).setCell ⟨w.heap.size, 3, none⟩ d).setCell ⟨w.heap.size, 4, none⟩ e).setCell ⟨w.heap.size, 5, none⟩ f).setCell ⟨w.heap.size, 6, none⟩ g).setCell ⟨w.heap.size + 1, 0, none⟩ x).setCell ⟨w.heap.size + 1, 1, none⟩ y) mc0.rs ∧ Owns w.heap.size (((((((((W.setCell ⟨w.heap.size, 0, none⟩ a).setCell ⟨w.heap.size, 1, none⟩ b).setCell ⟨w.heap.size, 2, none⟩ c).setCell ⟨w.heap.size, 3, none⟩ d).setCell ⟨w.heap.size, 4, none⟩ e).setCell ⟨w.heap.size, 5, none⟩ f).setCell ⟨w.heap.size, 6, none⟩ g).setCell ⟨w.heap.size + 1, 0, none⟩ x).setCell ⟨w.heap.size + 1, 1, none⟩ y) mc0.dv mc0.D ∧ mc0.rv = vv := by
  have k := (fin9 hb a b c d e f g x y).1
  revert k
  generalize (((((((((W.setCell ⟨w.heap.size, 0, none⟩ a).setCell ⟨w.heap.size, 1, none⟩ b).setCell ⟨w.heap.size, 2, none⟩ c).setCell ⟨w.heap.size, 3, none⟩ d).setCell ⟨w.heap.size, 4, none⟩ e).setCell ⟨w.heap.size, 5, none⟩ f).setCell ⟨w.heap.size, 6, none⟩ g).setCell ⟨w.heap.size + 1, 0, none⟩ x).setCell ⟨w.heap.size + 1, 1, none⟩ y) = Z
  intro k
  have n := OwnRs.nil w.heap.size Z
  exact ⟨k, n.1, n.2, Owns.nil _ _, hv.symm⟩

set_option maxRecDepth 10000 in
set_option maxHeartbeats 800000 in
theorem decRecR_kz {lim : Nat} {w : World} {ao : Option Addr} {n cap : Nat} {B : List Nat} (h : Shows lim w ao n cap B) (hl : lim ≤ w.heap.size) (hs : (rs1 B).sound) (hf : fsOf (rk B) = []) (hk : rk B = 0) :
    Calls Tryz.prog 30 #[.slice ao n cap] w fun e w' => ∃ c : Mc, e = .returned (.tuple #[recAgg (recK B) c, .agg #[.int .i64 (recC B), .int .i64 (recA B)]]) ∧ Hid (Below w.heap.size w w' ∧ OwnRs w.heap.size w' c.bv c.rs ∧ FreeRs w.heap.size w' c.rs ∧ Owns w.heap.size w' c.dv c.D ∧ c.rv = recV B) := by
  obtain ⟨c1, c2⟩ := rec_kind hs hf
  have HE := hide (rv_refused (B := B) (by rw [c1]; decide))
  have HS := hide hs
  rw [c1, c2]
  clear hs hf c1 c2
  generalize recK B = kk at *
  generalize recV B = vv at *
  obtain ⟨W0, hW0⟩ : ∃ W0, (w.alloc (.cells #[.int .i64 0, .int .u64 0, .int .i64 0, .int .u64 0, .int .u64 0, .slice none 0 0, .slice none 0 0] 31)).alloc (.cells #[.int .i64 0, .int .i64 0] 33) = W0 := ⟨_, rfl⟩
  have HB0 := hide (bx2 hW0)
  have HWW := hide hW0
  have H1 := hide (newR h hl HB0.out)
  clear h hW0 hl
  go_enter Tryz.func30, Tryz.ntmps30
  go_wp2_with fail
  rw [HWW.out]
  refine H1.out.mono ?_
  rintro e w1 ⟨p, rfl, G1⟩
  obtain ⟨d, r1, b1, p1, d1⟩ := G1.out
  have R1 := hide r1
  have B1 := hide b1
  have P1 := hide (And.intro p1 d1)
  clear r1 b1 p1 d1 G1 H1 HWW
  go_wp2_with fail
  refine (kindR R1.out B1.out P1.out.1).mono ?_
  rintro e w2 ⟨rfl, hk2, G2⟩
  rw [hk]
  clear hk2 hk
  have HDD := hide (dead_sound d p _ w2 G2.out.1 HS.out)
  have B2 := hide (HB0.out.1.trans (G2.out.2.mono (by omega)))
  have q0 := hide ((G2.out.2.block _ (by omega)).trans HB0.out.2.1)
  have q1 := hide ((G2.out.2.block _ (by omega)).trans HB0.out.2.2.1)
  clear G2 B1 R1
  go_wp2_with fail
  refine HDD.out.mono ?_
  rintro e w2' ⟨rfl, rfl⟩
  clear HDD
  have f3 := q0.out
  have f4 := q1.out
  have y0 := block_cell f3 0
  have y1 := block_cell f3 1
  have y2 := block_cell f3 2
  have y3 := block_cell f3 3
  have y4 := block_cell f3 4
  have y5 := block_cell f3 5
  have y6 := block_cell f3 6
  have z0 := block_free f3 0
  have z1 := block_free f3 1
  have z2 := block_free f3 2
  have z3 := block_free f3 3
  have z4 := block_free f3 4
  have z5 := block_free f3 5
  have z6 := block_free f3 6
  have u0 := block_cell f4 0
  have u1 := block_cell f4 1
  have v0 := block_free f4 0
  have v1 := block_free f4 1
  simp at y0 y1 y2 y3 y4 y5 y6 u0 u1
  have hl0 := block_lt f3
  have hl1 := block_lt f4
  clear f3 f4
  go_wp2
  refine bodyPost_ret (v := .tuple #[.agg #[.int .i64 0, .int .u64 0, .int .i64 0, .int .u64 0, .int .u64 0, .slice none 0 0, .slice none 0 0], .agg #[.int .i64 25, .int .i64 0]]) (by simp [results, Tryz.results30, go_sem, y0, y1, y2, y3, y4, y5, y6, u0, u1]) rfl ⟨mc0, by rw [HE.out.2]; rfl, ?_⟩
  exact fin_k9 B2.out _ _ _ _ _ _ _ _ _ HE.out.1

set_option maxRecDepth 10000 in
set_option maxHeartbeats 800000 in
theorem decRecR_kb {lim : Nat} {w : World} {ao : Option Addr} {n cap : Nat} {B : List Nat} (h : Shows lim w ao n cap B) (hl : lim ≤ w.heap.size) (hs : (rs1 B).sound) (hf : fsOf (rk B) = []) (hk : 5 < rk B) :
    Calls Tryz.prog 30 #[.slice ao n cap] w fun e w' => ∃ c : Mc, e = .returned (.tuple #[recAgg (recK B) c, .agg #[.int .i64 (recC B), .int .i64 (recA B)]]) ∧ Hid (Below w.heap.size w w' ∧ OwnRs w.heap.size w' c.bv c.rs ∧ FreeRs w.heap.size w' c.rs ∧ Owns w.heap.size w' c.dv c.D ∧ c.rv = recV B) := by
  obtain ⟨c1, c2⟩ := rec_kind hs hf
  have HE := hide (rv_refused (B := B) (by rw [c1]; decide))
  have HS := hide hs
  rw [c1, c2]
  clear hs hf c1 c2
  generalize recK B = kk at *
  generalize recV B = vv at *
  obtain ⟨W0, hW0⟩ : ∃ W0, (w.alloc (.cells #[.int .i64 0, .int .u64 0, .int .i64 0, .int .u64 0, .int .u64 0, .slice none 0 0, .slice none 0 0] 31)).alloc (.cells #[.int .i64 0, .int .i64 0] 33) = W0 := ⟨_, rfl⟩
  have HB0 := hide (bx2 hW0)
  have HWW := hide hW0
  have H1 := hide (newR h hl HB0.out)
  clear h hW0 hl
  go_enter Tryz.func30, Tryz.ntmps30
  go_wp2_with fail
  rw [HWW.out]
  refine H1.out.mono ?_
  rintro e w1 ⟨p, rfl, G1⟩
  obtain ⟨d, r1, b1, p1, d1⟩ := G1.out
  have R1 := hide r1
  have B1 := hide b1
  have P1 := hide (And.intro p1 d1)
  clear r1 b1 p1 d1 G1 H1 HWW
  go_wp2_with fail
  refine (kindR R1.out B1.out P1.out.1).mono ?_
  rintro e w2 ⟨rfl, hk2, G2⟩
  generalize rk B = r at *
  have hd1 : decide ((r : Int) < 1) = false := by simp; omega
  have hd5 : decide ((r : Int) > 5) = true := by simp; omega
  have HDD := hide (dead_sound d p _ w2 G2.out.1 HS.out)
  have B2 := hide (HB0.out.1.trans (G2.out.2.mono (by omega)))
  have q0 := hide ((G2.out.2.block _ (by omega)).trans HB0.out.2.1)
  have q1 := hide ((G2.out.2.block _ (by omega)).trans HB0.out.2.2.1)
  clear G2 B1 R1
  go_wp2_with fail
  refine HDD.out.mono ?_
  rintro e w2' ⟨rfl, rfl⟩
  clear HDD
  have f3 := q0.out
  have f4 := q1.out
  have y0 := block_cell f3 0
  have y1 := block_cell f3 1
  have y2 := block_cell f3 2
  have y3 := block_cell f3 3
  have y4 := block_cell f3 4
  have y5 := block_cell f3 5
  have y6 := block_cell f3 6
  have z0 := block_free f3 0
  have z1 := block_free f3 1
  have z2 := block_free f3 2
  have z3 := block_free f3 3
  have z4 := block_free f3 4
  have z5 := block_free f3 5
  have z6 := block_free f3 6
  have u0 := block_cell f4 0
  have u1 := block_cell f4 1
  have v0 := block_free f4 0
  have v1 := block_free f4 1
  simp at y0 y1 y2 y3 y4 y5 y6 u0 u1
  have hl0 := block_lt f3
  have hl1 := block_lt f4
  clear f3 f4
  go_wp2
  refine bodyPost_ret (v := .tuple #[.agg #[.int .i64 0, .int .u64 0, .int .i64 0, .int .u64 0, .int .u64 0, .slice none 0 0, .slice none 0 0], .agg #[.int .i64 25, .int .i64 0]]) (by simp [results, Tryz.results30, go_sem, y0, y1, y2, y3, y4, y5, y6, u0, u1]) rfl ⟨mc0, by rw [HE.out.2]; rfl, ?_⟩
  exact fin_k9 B2.out _ _ _ _ _ _ _ _ _ HE.out.1

theorem decRec_ref {lim : Nat} {w : World} {ao : Option Addr} {n cap : Nat} {B : List Nat} (h : Shows lim w ao n cap B) (hl : lim ≤ w.heap.size) :
    Calls Tryz.prog 30 #[.slice ao n cap] w fun e w' => ∃ c : Mc, e = .returned (.tuple #[recAgg (recK B) c, .agg #[.int .i64 (recC B), .int .i64 (recA B)]]) ∧ Hid (Below w.heap.size w w' ∧ OwnRs w.heap.size w' c.bv c.rs ∧ FreeRs w.heap.size w' c.rs ∧ Owns w.heap.size w' c.dv c.D ∧ c.rv = recV B) := by
  by_cases hs : (rs1 B).sound
  · by_cases h1 : rk B = 1
    · exact decRecR_1 h hl hs h1
    · by_cases h2 : rk B = 2
      · exact decRecR_2 h hl hs h2
      · by_cases h3 : rk B = 3
        · exact decRecR_3 h hl hs h3
        · by_cases h4 : rk B = 4
          · exact decRecR_4 h hl hs h4
          · by_cases h5 : rk B = 5
            · exact decRecR_5 h hl hs h5
            · have hf : fsOf (rk B) = [] := by unfold fsOf; rw [if_neg (by omega), if_neg (by omega), if_neg (by omega), if_neg (by omega)]
              by_cases h0 : rk B = 0
              · exact decRecR_kz h hl hs hf h0
              · exact decRecR_kb h hl hs hf (by omega)
  · exact decRecR_dead h hl hs
end Go.Proofs.YtlnfkooimpmahaaGreat
namespace Go.Proofs.YtlnfkooimpmahaaGreat
open Go.RowKit Crc

/-- A record in a box, its lists between lo and the box. -/
structure Rx (lo p K num node slot st N M : Nat) (vo : Option Addr) (vc : Nat) (do_ : Option Addr) (dc : Nat) (V : List (Nat × Nat × List Nat)) (D : List Nat) (rs : List Rq) (W : World) : Prop where
  box : W.heap[p]? = some (.cells #[.int .i64 (K : Int), .int .u64 (num : Int), .int .i64 (node : Int), .int .u64 (slot : Int), .int .u64 (st : Int), .slice vo N vc, .slice do_ M dc] 31 (0, 0))
  bt : Bt lo W (.slice vo N vc) rs
  val : rs.map Rq.val = V
  dat : Owns lo W (.slice do_ M dc) D
  top : ∀ g, (Value.slice vo N vc).ownBlock = some g → g < p
  topB : ∀ g, inB rs g → g < p
  topD : ∀ g, (Value.slice do_ M dc).ownBlock = some g → g < p
  hlo : lo ≤ p
theorem Rx.out {S : Nat → Prop} {lo p K num node slot st N M : Nat} {vo : Option Addr} {vc : Nat} {do_ : Option Addr} {dc : Nat} {V : List (Nat × Nat × List Nat)} {D : List Nat} {rs : List Rq} {W W' : World} (h : Rx lo p K num node slot st N M vo vc do_ dc V D rs W) (ho : Out S W W') (hS : ∀ g, S g → ¬ (lo ≤ g ∧ g ≤ p)) : Rx lo p K num node slot st N M vo vc do_ dc V D rs W' :=
  ⟨(ho.block p (block_lt h.box) (fun e => hS p e ⟨h.hlo, Nat.le_refl _⟩)).trans h.box,
   h.bt.out ho (fun g e hs => hS g hs ⟨(h.bt.lt g e).1, Nat.le_of_lt (h.top g e)⟩) (fun g e hs => hS g hs ⟨(h.bt.ltB g e).1, Nat.le_of_lt (h.topB g e)⟩), h.val,
   Has.out h.dat ho (fun g e hs => hS g hs ⟨(h.dat.1.lt g e).1, Nat.le_of_lt (h.topD g e)⟩), h.top, h.topB, h.topD, h.hlo⟩
theorem Rx.quiet {lo p K num node slot st N M : Nat} {vo : Option Addr} {vc : Nat} {do_ : Option Addr} {dc : Nat} {V : List (Nat × Nat × List Nat)} {D : List Nat} {rs : List Rq} {W W' : World} (h : Rx lo p K num node slot st N M vo vc do_ dc V D rs W) (hg : W.grownBy W' none) : Rx lo p K num node slot st N M vo vc do_ dc V D rs W' := h.out (out_grown hg) (fun g e => by cases e)
theorem Rx.new {lo K num node slot st N M : Nat} {vo : Option Addr} {vc : Nat} {do_ : Option Addr} {dc : Nat} {V : List (Nat × Nat × List Nat)} {D : List Nat} {rs : List Rq} {W : World} (h : Bt lo W (.slice vo N vc) rs) (hv : rs.map Rq.val = V) (hd : Owns lo W (.slice do_ M dc) D) (hl : lo ≤ W.heap.size) : Rx lo W.heap.size K num node slot st N M vo vc do_ dc V D rs (W.alloc (.cells #[.int .i64 (K : Int), .int .u64 (num : Int), .int .i64 (node : Int), .int .u64 (slot : Int), .int .u64 (st : Int), .slice vo N vc, .slice do_ M dc] 31)) :=
  ⟨alloc_at _ _, h.quiet (World.grownBy_alloc _ _ none), hv, hd.quiet (World.grownBy_alloc _ _ none), fun g e => (h.lt g e).2, fun g e => (h.ltB g e).2, fun g e => (hd.1.lt g e).2, hl⟩
theorem Rx.cells {lo p K num node slot st N M : Nat} {vo : Option Addr} {vc : Nat} {do_ : Option Addr} {dc : Nat} {V : List (Nat × Nat × List Nat)} {D : List Nat} {rs : List Rq} {W : World} (h : Rx lo p K num node slot st N M vo vc do_ dc V D rs W) : W.cell? ⟨p, 0, none⟩ = some (.int .i64 (K : Int)) ∧ W.cell? ⟨p, 1, none⟩ = some (.int .u64 (num : Int)) ∧ W.cell? ⟨p, 2, none⟩ = some (.int .i64 (node : Int)) ∧ W.cell? ⟨p, 3, none⟩ = some (.int .u64 (slot : Int)) ∧ W.cell? ⟨p, 4, none⟩ = some (.int .u64 (st : Int)) ∧ W.cell? ⟨p, 5, none⟩ = some (.slice vo N vc) ∧ W.cell? ⟨p, 6, none⟩ = some (.slice do_ M dc) := cells7 h.box
theorem Rx.form {lo p K num node slot st N M : Nat} {vo : Option Addr} {vc : Nat} {do_ : Option Addr} {dc : Nat} {V : List (Nat × Nat × List Nat)} {D : List Nat} {rs : List Rq} {W : World} (h : Rx lo p K num node slot st N M vo vc do_ dc V D rs W) : M = D.length ∧ Shows W.heap.size W do_ M dc D := by
  obtain ⟨ao, cap, e, hs, _⟩ := h.dat.form
  cases e
  exact ⟨rfl, hs⟩
theorem sameX {lo' p' : Nat} {vo' : Option Addr} {vc' : Nat} {do' : Option Addr} {dc' : Nat} {rs' : List Rq} {lo p K num node slot st N M : Nat} {vo : Option Addr} {vc : Nat} {do_ : Option Addr} {dc : Nat} {V : List (Nat × Nat × List Nat)} {D : List Nat} {rs : List Rq} {W : World} (h1 : Rx lo p K num node slot st N M vo vc do_ dc V D rs W) (h2 : Rx lo' p' K num node slot st N M vo' vc' do' dc' V D rs' W) : SameR W K num node slot st vo N vc do_ M dc vo' N vc' do' M dc' := by
  refine sameRec_any (fun W' hb => ?_) (fun W' hb => ?_)
  · exact sameB st (h1.bt.below hb) (h2.bt.below hb) h1.val h2.val
  · have s1 := (h1.quiet (below_none hb)).form.2
    have s2 := (h2.quiet (below_none hb)).form.2
    exact (same_any s1 s2).mono (fun _ _ h => ⟨h.1, by obtain ⟨q, hq⟩ := h.2; rw [hq]; exact below_dN (Below.refl _ _) q⟩)

/-- What a record's values are bound by. -/
def OkV (v : Rv) : Prop := v.V.length ≤ 8 ∧ (∀ x ∈ v.V, x.2.2.length ≤ 700) ∧ v.D.length ≤ 40000
theorem blobAt_le (B : List Nat) : (blobAt B 40000).1.length ≤ 40000 := by
  unfold blobAt
  split
  · simp
  · split
    · simp
    · simp only [List.length_take, List.length_drop]
      have := countAt_ok B 40000
      omega
theorem upd_ok (f : Fd) (s : RS) {v : Rv} (h : OkV v) : OkV (f.upd s v) := by
  cases f with
  | ballot => exact h
  | slot => exact h
  | batch =>
    refine ⟨?_, ?_, h.2.2⟩
    · show (bVals s).length ≤ 8
      unfold bVals; rw [(rdGo_len _ _).1]; exact bN_le _
    · show ∀ x ∈ bVals s, x.2.2.length ≤ 700
      unfold bVals; exact (rdGo_len _ _).2
  | snap => exact ⟨h.1, h.2.1, blobAt_le _⟩
theorem frun_ok : ∀ (fs : List Fd) (s : RS) {v : Rv}, OkV v → OkV (frun fs s v).2
  | [], _, _, h => h
  | f :: t, s, v, h => by rw [frun]; exact frun_ok t _ (upd_ok f s h)
theorem recV_ok (B : List Nat) : OkV (recV B) := by
  have h0 : OkV rv0 := ⟨by simp [rv0], by simp [rv0], by simp [rv0]⟩
  unfold recV
  split
  · exact frun_ok _ _ h0
  · exact h0

theorem decRP {lim : Nat} {w : World} {ao : Option Addr} {n cap : Nat} {B : List Nat} (h : Shows lim w ao n cap B) (hl : lim ≤ w.heap.size) {K num node slot st N M : Nat} {V : List (Nat × Nat × List Nat)} {D : List Nat} (e0 : recK B = K) (e1 : recV B = ⟨num, node, slot, st, V, D⟩) (e2 : V.length = N) (e3 : D.length = M) :
    Calls Tryz.prog 31 #[.slice ao n cap] w fun e w' => ∃ (vo : Option Addr) (vc : Nat) (do_ : Option Addr) (dc : Nat) (x : Value), e = .returned (.tuple #[.agg #[.int .i64 (K : Int), .int .u64 (num : Int), .int .i64 (node : Int), .int .u64 (slot : Int), .int .u64 (st : Int), .slice vo N vc, .slice do_ M dc], x]) ∧ Hid (ErrV w' x (recC B) (recA B) ∧ Below w.heap.size w w' ∧ ∃ rs, Bt w.heap.size w' (.slice vo N vc) rs ∧ rs.map Rq.val = V ∧ Owns w.heap.size w' (.slice do_ M dc) D ∧ ∀ r ∈ rs, r.sl.ownBlock = none ∨ r.sl.ownBlock ≠ (Value.slice do_ M dc).ownBlock) := by
  refine (decRec_prog h hl).mono ?_
  rintro e w' ⟨c, x, rfl, H⟩
  obtain ⟨h1, h2, h3, h4, h5, h6, h7⟩ := H.out
  rw [e1] at h7
  obtain ⟨cn, cd, cs, ct, bv, rs, dv, D'⟩ := c
  simp only [Mc.rv, Rv.mk.injEq] at h7
  obtain ⟨rfl, rfl, rfl, rfl, h8, rfl⟩ := h7
  simp only at h3 h4 h5 h6
  have b : Bt w.heap.size w' bv rs := ⟨h3, h4⟩
  obtain ⟨vo, vc, rfl, _⟩ := b.form
  obtain ⟨do_, dc, rfl, _, _⟩ := h5.form
  have hn : rs.length = N := (val_len h8).trans e2
  rw [hn] at b
  rw [e3] at h5 h6
  exact ⟨vo, vc, do_, dc, x, by rw [recAgg, e0, hn, e3], h1, h2, rs, b, h8, h5, h6⟩
theorem decRR {lim : Nat} {w : World} {ao : Option Addr} {n cap : Nat} {B : List Nat} (h : Shows lim w ao n cap B) (hl : lim ≤ w.heap.size) {K num node slot st N M : Nat} {V : List (Nat × Nat × List Nat)} {D : List Nat} (e0 : recK B = K) (e1 : recV B = ⟨num, node, slot, st, V, D⟩) (e2 : V.length = N) (e3 : D.length = M) :
    Calls Tryz.prog 30 #[.slice ao n cap] w fun e w' => ∃ (vo : Option Addr) (vc : Nat) (do_ : Option Addr) (dc : Nat), e = .returned (.tuple #[.agg #[.int .i64 (K : Int), .int .u64 (num : Int), .int .i64 (node : Int), .int .u64 (slot : Int), .int .u64 (st : Int), .slice vo N vc, .slice do_ M dc], .agg #[.int .i64 (recC B), .int .i64 (recA B)]]) ∧ Hid (Below w.heap.size w w' ∧ ∃ rs, Bt w.heap.size w' (.slice vo N vc) rs ∧ rs.map Rq.val = V ∧ Owns w.heap.size w' (.slice do_ M dc) D) := by
  refine (decRec_ref h hl).mono ?_
  rintro e w' ⟨c, rfl, H⟩
  obtain ⟨h2, h3, h4, h5, h7⟩ := H.out
  rw [e1] at h7
  obtain ⟨cn, cd, cs, ct, bv, rs, dv, D'⟩ := c
  simp only [Mc.rv, Rv.mk.injEq] at h7
  obtain ⟨rfl, rfl, rfl, rfl, h8, rfl⟩ := h7
  simp only at h3 h4 h5
  have b : Bt w.heap.size w' bv rs := ⟨h3, h4⟩
  obtain ⟨vo, vc, rfl, _⟩ := b.form
  obtain ⟨do_, dc, rfl, _, _⟩ := h5.form
  have hn : rs.length = N := (val_len h8).trans e2
  rw [hn] at b
  rw [e3] at h5
  exact ⟨vo, vc, do_, dc, by rw [recAgg, e0, hn, e3], h2, rs, b, h8, h5⟩
/-- The commands and the data, as one list of lists. -/
def rqD (do_ : Option Addr) (M dc : Nat) (D : List Nat) : Rq := ⟨0, 0, do_, M, dc, D⟩
theorem Rx.f0 {base : Nat} {lv : Value} {lo p K num node slot st N M : Nat} {vo : Option Addr} {vc : Nat} {do_ : Option Addr} {dc : Nat} {V : List (Nat × Nat × List Nat)} {D : List Nat} {rs : List Rq} {W : World} (h : Rx lo p K num node slot st N M vo vc do_ dc V D rs W) (ha : ∀ r ∈ rs, r.sl.ownBlock = none ∨ r.sl.ownBlock ≠ (Value.slice do_ M dc).ownBlock) (hl : Sls base W lv (rs.length + 1) (rs.map Rq.sl ++ [.slice do_ M dc])) (hv : OkV ⟨num, node, slot, st, V, D⟩) : F0 W lv (rs ++ [rqD do_ M dc D]) := by
  obtain ⟨v1, v2, v3⟩ := hv
  simp only at v1 v2 v3
  have hrl : rs.length = V.length := val_len h.val
  have hown : ∀ r ∈ rs ++ [rqD do_ M dc D], Owns 0 W r.sl r.C := fun r hr => by
    rcases List.mem_append.1 hr with hr | hr
    · exact (h.bt.free.own r hr).lower (by omega)
    · simp at hr; subst hr; exact h.dat.lower (by omega)
  have hpw : (rs ++ [rqD do_ M dc D]).Pairwise (fun a b => a.sl.ownBlock = none ∨ a.sl.ownBlock ≠ b.sl.ownBlock) := by
    rw [List.pairwise_append]
    refine ⟨h.bt.free.apart, by simp, fun a hx b hb => ?_⟩
    simp at hb
    subst hb
    exact ha a hx
  refine ⟨?_, fun j r hr => hown r (List.mem_of_getElem? hr), fun i j a b hij hx hb => ?_, by simp; omega, fun j r hr => ?_⟩
  · have := row_lower hl (Nat.zero_le _)
    simpa [rqD, Rq.sl] using this
  · have hp := List.pairwise_iff_getElem.1 hpw
    obtain ⟨hi, rfl⟩ := List.getElem?_eq_some_iff.1 hx
    obtain ⟨hj, rfl⟩ := List.getElem?_eq_some_iff.1 hb
    rcases Nat.lt_or_gt_of_ne hij with e | e
    · exact hp i j hi hj e
    · rcases hp j i hj hi e with h1 | h1
      · cases e2 : ((rs ++ [rqD do_ M dc D])[i]).sl.ownBlock with
        | none => exact .inl rfl
        | some g => exact .inr (by rw [h1]; simp)
      · exact .inr (fun e2 => h1 e2.symm)
  · rcases List.mem_append.1 (List.mem_of_getElem? hr) with hr | hr
    · have := v2 (Rq.val r) (by rw [← h.val]; exact List.mem_map_of_mem hr)
      have : r.C.length ≤ 700 := this
      omega
    · simp at hr; subst hr; show D.length ≤ 1000000; omega
theorem Rx.inD {lo p K num node slot st N M : Nat} {vo : Option Addr} {vc : Nat} {do_ : Option Addr} {dc : Nat} {V : List (Nat × Nat × List Nat)} {D : List Nat} {rs : List Rq} {W : World} (h : Rx lo p K num node slot st N M vo vc do_ dc V D rs W) {g : Nat} (hg : inB (rs ++ [rqD do_ M dc D]) g) : lo ≤ g ∧ g < p := by
  obtain ⟨r, hr, e⟩ := hg
  rcases List.mem_append.1 hr with hr | hr
  · exact ⟨(h.bt.ltB g ⟨r, hr, e⟩).1, h.topB g ⟨r, hr, e⟩⟩
  · simp at hr; subst hr; exact ⟨(h.dat.1.lt g e).1, h.topD g e⟩
theorem Rx.row {lo p K num node slot st N M : Nat} {vo : Option Addr} {vc : Nat} {do_ : Option Addr} {dc : Nat} {V : List (Nat × Nat × List Nat)} {D : List Nat} {rs : List Rq} {W W' : World} (h : Rx lo p K num node slot st N M vo vc do_ dc V D rs W) (ho : Out (inB (rs ++ [rqD do_ M dc D])) W W') : W'.heap[p]? = some (.cells #[.int .i64 (K : Int), .int .u64 (num : Int), .int .i64 (node : Int), .int .u64 (slot : Int), .int .u64 (st : Int), .slice vo N vc, .slice do_ M dc] 31 (0, 0)) ∧ W'.ownsRow lo 93 3 (.slice vo N vc) rs.length (rcells rs) ∧ ∀ g, (Value.slice vo N vc).ownBlock = some g → lo ≤ g ∧ g < p := by
  refine ⟨(ho.block p (block_lt h.box) (fun e => by have := (h.inD e).2; omega)).trans h.box, ho.row h.bt.own.row (fun g e hs => ?_), fun g e => ⟨(h.bt.lt g e).1, h.top g e⟩⟩
  obtain ⟨r, hr, e2⟩ := hs
  rcases List.mem_append.1 hr with hr | hr
  · exact h.bt.ne h.bt.own.row g e ⟨r, hr, e2⟩
  · simp at hr
    subst hr
    rcases owns_ne_row h.dat h.bt.own.row with h1 | h1
    · rw [show (rqD do_ M dc D).sl.ownBlock = none from h1] at e2; cases e2
    · exact h1 (e2.trans e.symm)
/-- All that stands when both have read. -/
structure Ar (w : World) (p gc lo2 p2 K num node slot st N M : Nat) (vo : Option Addr) (vc : Nat) (do_ : Option Addr) (dc : Nat) (go : Option Addr) (gv : Nat) (ho : Option Addr) (hc : Nat) (V : List (Nat × Nat × List Nat)) (D : List Nat) (rsv rsg : List Rq) (c a : Int) (n : Nat) (B : List Nat) (W : World) : Prop where
  v : Rx w.heap.size p K num node slot st N M vo vc do_ dc V D rsv W
  g : Rx lo2 p2 K num node slot st N M go gv ho hc V D rsg W
  no : NoB (p + 1) c a W
  l : Lent W gc n B
  bel : Below w.heap.size w W
theorem Ar.quiet {w : World} {p gc lo2 p2 K num node slot st N M : Nat} {vo : Option Addr} {vc : Nat} {do_ : Option Addr} {dc : Nat} {go : Option Addr} {gv : Nat} {ho : Option Addr} {hc : Nat} {V : List (Nat × Nat × List Nat)} {D : List Nat} {rsv rsg : List Rq} {c a : Int} {n : Nat} {B : List Nat} {W W' : World} (h : Ar w p gc lo2 p2 K num node slot st N M vo vc do_ dc go gv ho hc V D rsv rsg c a n B W) (hg : W.grownBy W' none) : Ar w p gc lo2 p2 K num node slot st N M vo vc do_ dc go gv ho hc V D rsv rsg c a n B W' :=
  ⟨h.v.quiet hg, h.g.quiet hg, h.no.quiet hg, h.l.next hg (by simp), h.bel.grown hg h.bel.size (fun k e => by cases e)⟩
end Go.Proofs.YtlnfkooimpmahaaGreat
namespace Go.Proofs.YtlnfkooimpmahaaGreat
open Go.RowKit Crc

theorem step_append_ownG {P : Program} {ops : Array Oper} {o : Oper} {a : Act} {w : World} {K : Act → World → Prop} {Q : Exit → Act → World → Prop} {E : Prop}
    (hw : Region.wanted o (yielded ops a.tmps) = true) (s x : Operand) (t : TypeId) (ho : o.op = .call { callee := .builtin .append, args := #[s, x], argTypes := #[t, t] })
    (base : Nat) (e : TypeId) (i : TypeInfo) (z : Value) (size bytes : Nat) (ht : P.underlying t = some (.slice e)) (hi : P.info? e = some i) (hz : i.zero = some z)
    (hsize : i.size = size) (hby : i.bytes = bytes) (hzs : z.cells.size = size) (hsz : 0 < size)
    (v : Value) (n : Nat) (xs : List Value) (hs : a.eval s = v) (hown : w.ownsRow base e size v n xs)
    (ad : Addr) (m c : Nat) (news : List Value) (hx : a.eval x = .slice (some ad) m c) (hl : news.length = m * size) (hnews : ∀ j u, news[j]? = some u → w.cell? (ad.add j) = some u) (h1 : ∀ u ∈ news, u.oneCell' = true)
    (h63 : n + m ≤ maxLen) (hbytes : (n + m) * bytes ≤ 140737488355328) (hbase : base ≤ w.heap.size)
    (h : ∀ v' w', w'.ownsRow base e size v' (n + m) (xs ++ news) → w.grownBy w' v.ownBlock → K (a.put o.dst v') w') :
    if Region.wanted o (yielded ops a.tmps) = true then Oper.wp P o a w K Q else E := by
  rw [if_pos hw]
  exact wp_append_own w s x t ho base e i z size bytes ht hi hz hsize hby hzs hsz v n xs hs hown ad m c news hx hl hnews h1 h63 hbytes hbase (fun v' w' h2 h3 _ => h v' w' h2 h3)
theorem drew1 (w : World) : w.grownBy w.drew none := ⟨rfl, rfl, rfl, Nat.le_refl _, fun _ _ _ => rfl⟩
/-- The cells of three records in their boxes. -/
def C3 (p2 p p3 K num node slot st N M : Nat) (go' : Option Addr) (gv : Nat) (eo : Option Addr) (ec : Nat) (vo : Option Addr) (vc : Nat) (do_ : Option Addr) (dc : Nat) (io : Option Addr) (iv : Nat) (fo : Option Addr) (fc : Nat) (w' : World) : Prop :=
  (w'.cell? ⟨p2, 0, none⟩ = some (.int .i64 (K : Int)) ∧ w'.cell? ⟨p2, 1, none⟩ = some (.int .u64 (num : Int)) ∧ w'.cell? ⟨p2, 2, none⟩ = some (.int .i64 (node : Int)) ∧ w'.cell? ⟨p2, 3, none⟩ = some (.int .u64 (slot : Int)) ∧ w'.cell? ⟨p2, 4, none⟩ = some (.int .u64 (st : Int)) ∧ w'.cell? ⟨p2, 5, none⟩ = some (.slice go' N gv) ∧ w'.cell? ⟨p2, 6, none⟩ = some (.slice eo M ec)) ∧ (w'.cell? ⟨p, 0, none⟩ = some (.int .i64 (K : Int)) ∧ w'.cell? ⟨p, 1, none⟩ = some (.int .u64 (num : Int)) ∧ w'.cell? ⟨p, 2, none⟩ = some (.int .i64 (node : Int)) ∧ w'.cell? ⟨p, 3, none⟩ = some (.int .u64 (slot : Int)) ∧ w'.cell? ⟨p, 4, none⟩ = some (.int .u64 (st : Int)) ∧ w'.cell? ⟨p, 5, none⟩ = some (.slice vo N vc) ∧ w'.cell? ⟨p, 6, none⟩ = some (.slice do_ M dc)) ∧ (w'.cell? ⟨p3, 0, none⟩ = some (.int .i64 (K : Int)) ∧ w'.cell? ⟨p3, 1, none⟩ = some (.int .u64 (num : Int)) ∧ w'.cell? ⟨p3, 2, none⟩ = some (.int .i64 (node : Int)) ∧ w'.cell? ⟨p3, 3, none⟩ = some (.int .u64 (slot : Int)) ∧ w'.cell? ⟨p3, 4, none⟩ = some (.int .u64 (st : Int)) ∧ w'.cell? ⟨p3, 5, none⟩ = some (.slice io N iv) ∧ w'.cell? ⟨p3, 6, none⟩ = some (.slice fo M fc))
theorem C3.quiet {p2 p p3 K num node slot st N M : Nat} {go' : Option Addr} {gv : Nat} {eo : Option Addr} {ec : Nat} {vo : Option Addr} {vc : Nat} {do_ : Option Addr} {dc : Nat} {io : Option Addr} {iv : Nat} {fo : Option Addr} {fc : Nat} {W W' : World} (h : C3 p2 p p3 K num node slot st N M go' gv eo ec vo vc do_ dc io iv fo fc W) (hg : W.grownBy W' none) : C3 p2 p p3 K num node slot st N M go' gv eo ec vo vc do_ dc io iv fo fc W' := by
  obtain ⟨⟨a0, a1, a2, a3, a4, a5, a6⟩, ⟨b0, b1, b2, b3, b4, b5, b6⟩, c0, c1, c2, c3, c4, c5, c6⟩ := h
  have k := fun {x : Addr} {u : Value} (hx : W.cell? x = some u) => hg.cell hx (by simp)
  exact ⟨⟨k a0, k a1, k a2, k a3, k a4, k a5, k a6⟩, ⟨k b0, k b1, k b2, k b3, k b4, k b5, k b6⟩, k c0, k c1, k c2, k c3, k c4, k c5, k c6⟩
theorem aft13 {w : World} {p lo2 p2 lo3 p3 : Nat} {K num node slot st N M : Nat} {vo : Option Addr} {vc : Nat} {do_ : Option Addr} {dc : Nat} {go' : Option Addr} {gv : Nat} {eo : Option Addr} {ec : Nat} {io : Option Addr} {iv : Nat} {fo : Option Addr} {fc : Nat} {V : List (Nat × Nat × List Nat)} {D : List Nat} {rsv rsg rsh : List Rq} {W w13 : World} (hv' : Rx w.heap.size p K num node slot st N M vo vc do_ dc V D rsv W) (hg' : Rx lo2 p2 K num node slot st N M go' gv eo ec V D rsg W) (hh' : Rx lo3 p3 K num node slot st N M io iv fo fc V D rsh W) (hb : Below w.heap.size w W) (b : Below W.drew.heap.size W.drew w13) : Hid (Rx w.heap.size p K num node slot st N M vo vc do_ dc V D rsv w13) ∧ Hid (Rx lo2 p2 K num node slot st N M go' gv eo ec V D rsg w13) ∧ Hid (Rx lo3 p3 K num node slot st N M io iv fo fc V D rsh w13) ∧ Hid (Below w.heap.size w w13) ∧ Hid (p < w13.heap.size ∧ p2 < w13.heap.size ∧ p3 < w13.heap.size) ∧ Hid (C3 p2 p p3 K num node slot st N M go' gv eo ec vo vc do_ dc io iv fo fc w13) := by
  have g := grown_quiet (drew1 W) (below_none b)
  have x := hv'.quiet g
  have y := hg'.quiet g
  have z := hh'.quiet g
  exact ⟨x, y, z, hb.grown g hb.size (fun k e => by cases e), ⟨block_lt x.box, block_lt y.box, block_lt z.box⟩, y.cells, x.cells, z.cells⟩
theorem aft14 {w : World} {p lo2 p2 lo3 p3 : Nat} {K num node slot st N M : Nat} {vo : Option Addr} {vc : Nat} {do_ : Option Addr} {dc : Nat} {go' : Option Addr} {gv : Nat} {eo : Option Addr} {ec : Nat} {io : Option Addr} {iv : Nat} {fo : Option Addr} {fc : Nat} {V : List (Nat × Nat × List Nat)} {D : List Nat} {rsv rsg rsh : List Rq} {W w14 : World} {lv : Value} (hv' : Rx w.heap.size p K num node slot st N M vo vc do_ dc V D rsv W) (hg' : Rx lo2 p2 K num node slot st N M go' gv eo ec V D rsg W) (hh' : Rx lo3 p3 K num node slot st N M io iv fo fc V D rsh W) (hb : Below w.heap.size w W) (hs : Sls W.heap.size w14 lv rsg.length (rsg.map Rq.sl)) (b : Below W.heap.size W w14) : Hid (Rx w.heap.size p K num node slot st N M vo vc do_ dc V D rsv w14) ∧ Hid (Rx lo2 p2 K num node slot st N M go' gv eo ec V D rsg w14) ∧ Hid (Rx lo3 p3 K num node slot st N M io iv fo fc V D rsh w14) ∧ Hid (Below w.heap.size w w14) ∧ Hid (Sls W.heap.size w14 lv rsg.length (rsg.map Rq.sl) ∧ W.heap.size ≤ w14.heap.size) ∧ Hid (C3 p2 p p3 K num node slot st N M go' gv eo ec vo vc do_ dc io iv fo fc w14) := by
  have g := below_none b
  have x := hv'.quiet g
  have y := hg'.quiet g
  have z := hh'.quiet g
  exact ⟨x, y, z, hb.grown g hb.size (fun k e => by cases e), ⟨hs, b.size⟩, y.cells, x.cells, z.cells⟩
theorem aft14b {w : World} {p lo2 p2 lo3 p3 : Nat} {K num node slot st N M : Nat} {vo : Option Addr} {vc : Nat} {do_ : Option Addr} {dc : Nat} {go' : Option Addr} {gv : Nat} {eo : Option Addr} {ec : Nat} {io : Option Addr} {iv : Nat} {fo : Option Addr} {fc : Nat} {V : List (Nat × Nat × List Nat)} {D : List Nat} {rsv rsg rsh : List Rq} {W w14 : World} {lv u : Value} {t : TypeId} (hv' : Rx w.heap.size p K num node slot st N M vo vc do_ dc V D rsv W) (hg' : Rx lo2 p2 K num node slot st N M go' gv eo ec V D rsg W) (hh' : Rx lo3 p3 K num node slot st N M io iv fo fc V D rsh W) (hb : Below w.heap.size w W) (hs : Sls (W.alloc (.cells #[u] t)).heap.size w14 lv rsg.length (rsg.map Rq.sl)) (b : Below (W.alloc (.cells #[u] t)).heap.size (W.alloc (.cells #[u] t)) w14) : Hid (Rx w.heap.size p K num node slot st N M vo vc do_ dc V D rsv w14) ∧ Hid (Rx lo2 p2 K num node slot st N M go' gv eo ec V D rsg w14) ∧ Hid (Rx lo3 p3 K num node slot st N M io iv fo fc V D rsh w14) ∧ Hid (Below w.heap.size w w14) ∧ Hid (Sls W.heap.size w14 lv rsg.length (rsg.map Rq.sl) ∧ W.heap.size ≤ w14.heap.size) ∧ Hid (C3 p2 p p3 K num node slot st N M go' gv eo ec vo vc do_ dc io iv fo fc w14) ∧ Hid (∀ (j : Nat) (x : Value), [u][j]? = some x → w14.cell? (Addr.add ⟨W.heap.size, 0, none⟩ j) = some x) := by
  have gA := World.grownBy_alloc W (.cells #[u] t) none
  have g := grown_quiet gA (below_none b)
  have x := hv'.quiet g
  have y := hg'.quiet g
  have z := hh'.quiet g
  have hn := cell_one_new W u t
  exact ⟨x, y, z, hb.grown g hb.size (fun k e => by cases e), ⟨row_lower hs gA.size, g.size⟩, ⟨y.cells, x.cells, z.cells⟩, fun j x hx => (below_none b).cell (hn j x hx) (by simp)⟩
theorem aft15b {w : World} {p lo2 p2 lo3 p3 : Nat} {K num node slot st N M : Nat} {vo : Option Addr} {vc : Nat} {do_ : Option Addr} {dc : Nat} {go' : Option Addr} {gv : Nat} {eo : Option Addr} {ec : Nat} {io : Option Addr} {iv : Nat} {fo : Option Addr} {fc : Nat} {V : List (Nat × Nat × List Nat)} {D : List Nat} {rsv rsg rsh : List Rq} {L : Nat} {W w15 : World} {lv v' : Value} (hv' : Rx w.heap.size p K num node slot st N M vo vc do_ dc V D rsv W) (hg' : Rx lo2 p2 K num node slot st N M go' gv eo ec V D rsg W) (hh' : Rx lo3 p3 K num node slot st N M io iv fo fc V D rsh W) (hb : Below w.heap.size w W) (hs : Sls L W lv rsg.length (rsg.map Rq.sl)) (hp : p < L ∧ p2 < L ∧ p3 < L) (ha : ∀ r ∈ rsg, r.sl.ownBlock = none ∨ r.sl.ownBlock ≠ (Value.slice eo M ec).ownBlock) (hok : OkV ⟨num, node, slot, st, V, D⟩) (ho : Sls L w15 v' (rsg.length + 1) (rsg.map Rq.sl ++ [.slice eo M ec])) (hg : W.grownBy w15 lv.ownBlock) : Hid (Rx w.heap.size p K num node slot st N M vo vc do_ dc V D rsv w15) ∧ Hid (Rx lo2 p2 K num node slot st N M go' gv eo ec V D rsg w15) ∧ Hid (Rx lo3 p3 K num node slot st N M io iv fo fc V D rsh w15) ∧ Hid (Below w.heap.size w w15) ∧ Hid (F0 w15 v' (rsg ++ [rqD eo M ec D])) ∧ Hid (C3 p2 p p3 K num node slot st N M go' gv eo ec vo vc do_ dc io iv fo fc w15) := by
  have o := out_grown hg
  have hl := hv'.hlo
  have x := hv'.out o (fun g e => by have := (hs.lt g e).1; omega)
  have y := hg'.out o (fun g e => by have := (hs.lt g e).1; omega)
  have z := hh'.out o (fun g e => by have := (hs.lt g e).1; omega)
  exact ⟨x, y, z, hb.trans (o.toBelow (fun g e => by have := (hs.lt g e).1; omega) hb.size), y.f0 ha ho hok, y.cells, x.cells, z.cells⟩
theorem aft15 {w : World} {p lo2 p2 lo3 p3 : Nat} {K num node slot st N M : Nat} {vo : Option Addr} {vc : Nat} {do_ : Option Addr} {dc : Nat} {go' : Option Addr} {gv : Nat} {eo : Option Addr} {ec : Nat} {io : Option Addr} {iv : Nat} {fo : Option Addr} {fc : Nat} {V : List (Nat × Nat × List Nat)} {D : List Nat} {rsv rsg rsh : List Rq} {L : Nat} {W w15 : World} {ob : Obj} {lv v' : Value} (hv' : Rx w.heap.size p K num node slot st N M vo vc do_ dc V D rsv W) (hg' : Rx lo2 p2 K num node slot st N M go' gv eo ec V D rsg W) (hh' : Rx lo3 p3 K num node slot st N M io iv fo fc V D rsh W) (hb : Below w.heap.size w W) (hs : Sls L W lv rsg.length (rsg.map Rq.sl)) (hp : p < L ∧ p2 < L ∧ p3 < L) (ha : ∀ r ∈ rsg, r.sl.ownBlock = none ∨ r.sl.ownBlock ≠ (Value.slice eo M ec).ownBlock) (hok : OkV ⟨num, node, slot, st, V, D⟩) (ho : Sls L w15 v' (rsg.length + 1) (rsg.map Rq.sl ++ [.slice eo M ec])) (hg : (W.alloc ob).grownBy w15 lv.ownBlock) : Hid (Rx w.heap.size p K num node slot st N M vo vc do_ dc V D rsv w15) ∧ Hid (Rx lo2 p2 K num node slot st N M go' gv eo ec V D rsg w15) ∧ Hid (Rx lo3 p3 K num node slot st N M io iv fo fc V D rsh w15) ∧ Hid (Below w.heap.size w w15) ∧ Hid (F0 w15 v' (rsg ++ [rqD eo M ec D])) ∧ Hid (C3 p2 p p3 K num node slot st N M go' gv eo ec vo vc do_ dc io iv fo fc w15) := by
  have gA := World.grownBy_alloc W ob none
  exact aft15b (hv'.quiet gA) (hg'.quiet gA) (hh'.quiet gA) (hb.grown gA hb.size (fun k e => by cases e)) (row_quiet hs gA) hp ha hok ho hg
theorem aft16 {w : World} {p lo2 p2 lo3 p3 : Nat} {K num node slot st N M : Nat} {vo : Option Addr} {vc : Nat} {do_ : Option Addr} {dc : Nat} {go' : Option Addr} {gv : Nat} {eo : Option Addr} {ec : Nat} {io : Option Addr} {iv : Nat} {fo : Option Addr} {fc : Nat} {V : List (Nat × Nat × List Nat)} {D : List Nat} {rsv rsg rsh : List Rq} {W w16 : World} (hv' : Rx w.heap.size p K num node slot st N M vo vc do_ dc V D rsv W) (hg' : Rx lo2 p2 K num node slot st N M go' gv eo ec V D rsg W) (hh' : Rx lo3 p3 K num node slot st N M io iv fo fc V D rsh W) (hb : Below w.heap.size w W) (ho : Out (inB (rsg ++ [rqD eo M ec D])) W w16) (hp : p < lo2 ∧ p2 < lo3) (hn : rsg.length = N) (h8 : N ≤ 8) : Hid (Rx w.heap.size p K num node slot st N M vo vc do_ dc V D rsv w16) ∧ Hid (Rx lo3 p3 K num node slot st N M io iv fo fc V D rsh w16) ∧ Hid (Below w.heap.size w w16) ∧ Hid (w16.heap[p2]? = some (.cells #[.int .i64 (K : Int), .int .u64 (num : Int), .int .i64 (node : Int), .int .u64 (slot : Int), .int .u64 (st : Int), .slice go' N gv, .slice eo M ec] 31 (0, 0)) ∧ ∀ g, (Value.slice go' N gv).ownBlock = some g → lo2 ≤ g ∧ g < p2) ∧ Hid (Calls Tryz.prog 35 #[.slice (some ⟨w16.heap.size, 0, none⟩) 1 1] (w16.alloc (.cells #[.int .u64 (st : Int), .slice go' N gv] 28)) fun e w' => e = .returned (.bool true) ∧ Hid (Out (fun q => (Value.slice go' N gv).ownBlock = some q) (w16.alloc (.cells #[.int .u64 (st : Int), .slice go' N gv] 28)) w')) ∧ Hid (C3 p2 p p3 K num node slot st N M go' gv eo ec vo vc do_ dc io iv fo fc w16) := by
  obtain ⟨r1, r2, r3⟩ := hg'.row ho
  have hl := hv'.hlo
  have x := hv'.out ho (fun g e => by have := hg'.inD e; omega)
  have z := hh'.out ho (fun g e => by have := hg'.inD e; omega)
  have hq := Q1.ofRow (row_quiet r2 (World.grownBy_alloc w16 (.cells #[.int .u64 (st : Int), .slice go' N gv] 28) none))
  rw [hn] at hq
  exact ⟨x, z, hb.trans (ho.toBelow (fun g e => by have := hg'.inD e; omega) hb.size), ⟨r1, r3⟩, freeReqs_one (alloc_at _ _) hq (by omega), cells7 r1, x.cells, z.cells⟩
theorem aft17 {w : World} {p lo2 p2 lo3 p3 : Nat} {K num node slot st N M : Nat} {vo : Option Addr} {vc : Nat} {do_ : Option Addr} {dc : Nat} {go' : Option Addr} {gv : Nat} {eo : Option Addr} {ec : Nat} {io : Option Addr} {iv : Nat} {fo : Option Addr} {fc : Nat} {V : List (Nat × Nat × List Nat)} {D : List Nat} {rsv rsh : List Rq} {W w17 : World} (hv' : Rx w.heap.size p K num node slot st N M vo vc do_ dc V D rsv W) (hh' : Rx lo3 p3 K num node slot st N M io iv fo fc V D rsh W) (hb : Below w.heap.size w W) (hs : W.heap[p2]? = some (.cells #[.int .i64 (K : Int), .int .u64 (num : Int), .int .i64 (node : Int), .int .u64 (slot : Int), .int .u64 (st : Int), .slice go' N gv, .slice eo M ec] 31 (0, 0)) ∧ ∀ g, (Value.slice go' N gv).ownBlock = some g → lo2 ≤ g ∧ g < p2) (ho : Out (fun q => (Value.slice go' N gv).ownBlock = some q) (W.alloc (.cells #[.int .u64 (st : Int), .slice go' N gv] 28)) w17) (hp : p < lo2 ∧ p2 < lo3) : Hid (Rx w.heap.size p K num node slot st N M vo vc do_ dc V D rsv w17) ∧ Hid (Rx lo3 p3 K num node slot st N M io iv fo fc V D rsh w17) ∧ Hid (Below w.heap.size w w17) ∧ Hid (Calls Tryz.prog 9 #[.agg #[.int .i64 (K : Int), .int .u64 (num : Int), .int .i64 (node : Int), .int .u64 (slot : Int), .int .u64 (st : Int), .slice io N iv, .slice fo M fc], .agg #[.int .i64 (K : Int), .int .u64 (num : Int), .int .i64 (node : Int), .int .u64 (slot : Int), .int .u64 (st : Int), .slice vo N vc, .slice do_ M dc]] w17 fun e w' => e = .returned (.bool true) ∧ Hid (Below w17.heap.size w17 w')) ∧ Hid (C3 p2 p p3 K num node slot st N M go' gv eo ec vo vc do_ dc io iv fo fc w17) := by
  have gA := World.grownBy_alloc W (.cells #[.int .u64 (st : Int), .slice go' N gv] 28) none
  have hl := hv'.hlo
  obtain ⟨r1, r3⟩ := hs
  have x := (hv'.quiet gA).out ho (fun g e => by have := r3 g e; omega)
  have z := (hh'.quiet gA).out ho (fun g e => by have := r3 g e; omega)
  have bA := hb.grown gA hb.size (fun k e => by cases e)
  have r4 := (gA.block _ (block_lt r1) (by simp)).trans r1
  have r5 := (ho.block p2 (block_lt r4) (fun e => by have := r3 p2 e; omega)).trans r4
  exact ⟨x, z, bA.trans (ho.toBelow (fun g e => by have := r3 g e; omega) bA.size), sameX z x, cells7 r5, x.cells, z.cells⟩
theorem aft18 {w : World} {p p2 p3 : Nat} {K num node slot st N M : Nat} {vo : Option Addr} {vc : Nat} {do_ : Option Addr} {dc : Nat} {go' : Option Addr} {gv : Nat} {eo : Option Addr} {ec : Nat} {io : Option Addr} {iv : Nat} {fo : Option Addr} {fc : Nat} {W w18 : World} (hb : Below w.heap.size w W) (hc : C3 p2 p p3 K num node slot st N M go' gv eo ec vo vc do_ dc io iv fo fc W) (b : Below W.heap.size W w18) : Hid (Below w.heap.size w w18) ∧ Hid (C3 p2 p p3 K num node slot st N M go' gv eo ec vo vc do_ dc io iv fo fc w18) :=
  ⟨hb.trans (b.mono hb.size), hc.quiet (below_none b)⟩
end Go.Proofs.YtlnfkooimpmahaaGreat
