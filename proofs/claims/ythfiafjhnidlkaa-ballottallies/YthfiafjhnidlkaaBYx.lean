import Derived.Test.YthfiafjhnidlkaaM53
import Derived.Deep.DeepCutAuto
namespace Go.Proofs.Ythfiafjhnidlkaa
open Go.RowKit

set_option maxRecDepth 100000 in
set_option maxHeartbeats 3200000 in
theorem tallies_ok (c : Cf) (hok : c.Ok) (sb off : Nat) (ao : Option Addr) (len cap : Nat) (ws : List Wd) (w : World)
    (hn : len = ws.length) (hn47 : len ≤ 140737488355328) (hF : Wds w sb off ws) (hao : 0 < len → ao = some ⟨sb, off, none⟩) (hbw : 0 < len → sb < w.heap.size)
    (hG : ∀ W, Calls Try.prog 20 #[.agg c.cells] W fun e w' => ∃ a b, e = .returned (.tuple #[.pointer a, .pointer b, .bool true]) ∧ Hid (PG w' a c ∧ (∃ h, b = some ⟨h, 0, none⟩ ∧ w'.heap[h]? = some (.cells c.cells 131 (0, 0))) ∧ Below W.heap.size W w')) :
    Calls Try.prog 7 #[.agg c.cells, .slice ao len cap] w fun e w' => e = .returned (.bool true) ∧ Below w.heap.size w w' := by
  have HF := hide hF
  have HN := hide hn
  have HAO := hide hao
  have HBW := hide hbw
  have HOK := hide hok
  have KT := hide (fun W a (h : PG W a c) => newTally_ok h hok)
  have KU := hide (fun W a (h : PG W a c) => newTally_okB h hok)
  obtain ⟨GB, hGB⟩ : ∃ GB : World → Nat → Prop, ∀ W h, GB W h ↔ W.heap[h]? = some (Obj.cells c.cells 131 (0, 0)) := ⟨fun W h => W.heap[h]? = some (Obj.cells c.cells 131 (0, 0)), fun _ _ => Iff.rfl⟩
  have hG : ∀ W, Calls Try.prog 20 #[.agg c.cells] W fun e w' => ∃ a h, e = .returned (.tuple #[.pointer a, .pointer (some ⟨h, 0, none⟩), .bool true]) ∧ Hid (PG w' a c ∧ GB w' h ∧ Below W.heap.size W w') := fun W => (hG W).mono fun e w' ⟨a, b, h1, h2⟩ => by
    obtain ⟨g1, ⟨h, rfl, g2⟩, g3⟩ := h2.out
    exact ⟨a, h, h1, g1, (hGB _ _).2 g2, g3⟩
  have HGB := hide hGB
  clear hGB
  clear hF hn hao hbw hok
  have HG := hide hG
  clear hG
  obtain ⟨W1, hW1⟩ : ∃ W1, w.alloc (.cells c.cells 24) = W1 := ⟨_, rfl⟩
  have B1 : Hid (Below w.heap.size w W1) := by rw [← hW1]; exact (Below.refl _ w).alloc (Nat.le_refl _) _
  obtain ⟨pc, hpc⟩ : ∃ p, w.heap.size = p := ⟨_, rfl⟩
  have t1 : W1.heap[pc]? = some (.cells c.cells 24 (0, 0)) := by rw [← hW1, ← hpc]; exact alloc_atK _ _
  obtain ⟨z0, z1, z2, z3, z4, z5, z6, z7, z8, z9⟩ := cfg_cells t1
  have hlt1 := block_lt t1
  have HW1 := hide hW1
  have HPC := hide hpc
  clear hW1 hpc t1
  unfold Cf.cells at HG HW1 ⊢
  generalize c.f = f at *
  generalize c.mb = mb at *
  generalize (c.delay : Int) = d at *
  generalize (c.win : Int) = wn at *
  generalize (c.every : Int) = ev at *
  generalize (c.beat : Int) = bt at *
  generalize (c.ep : Int) = ep at *
  generalize (c.em : Int) = em at *
  generalize (c.mn : Int) = mn at *
  generalize (c.ms : Int) = ms at *
  go_enter Try.func7, Try.ntmps7
  go_upto_region 1 with fail
  rw [HW1.out, HPC.out]
  clear HW1
  go_wp2_with fail
  refine (HG.out W1).mono ?_
  rintro e w2 ⟨ga, h, rfl, G2⟩
  obtain ⟨p2, hh0, b2⟩ := G2.out
  have hh := (HGB.out _ _).1 hh0
  have B2 := hide (B1.out.trans (b2.mono B1.out.size))
  have HP2 := hide p2
  have HH2 := hide hh
  clear G2 b2 z0 z1 z2 z3 z4 z5 z6 z7 z8 z9 hlt1 p2 hh hh0
  go_wp2_with fail
  refine (KT.out _ _ HP2.out).mono ?_
  rintro e w3 ⟨pt, b, rfl, G3⟩
  obtain ⟨ty3, hb3, b3⟩ := G3.out
  have B3 := hide (B2.out.trans (b3.mono B2.out.size))
  have HP3 := hide (HP2.out.kept b3)
  have HH3 := hide ((b3.block _ (block_lt HH2.out)).trans HH2.out)
  have TA3 := hide ty3
  have FB : Hid (w.heap.size ≤ b) := Nat.le_trans B2.out.size hb3
  clear G3 ty3 hb3 b3
  go_wp2_with fail
  refine (KU.out _ _ HP3.out).mono ?_
  rintro e w4 ⟨pu, bb, rfl, G4⟩
  obtain ⟨tz4, hb4, b4⟩ := G4.out
  have B4 := hide (B3.out.trans (b4.mono B3.out.size))
  have HH4 := hide ((b4.block _ (block_lt HH3.out)).trans HH3.out)
  have TA4 := hide (TA3.out.kept b4)
  have TB4 := hide tz4
  have FBB : Hid (w.heap.size ≤ bb ∧ b ≠ bb) := ⟨Nat.le_trans B3.out.size hb4, by have := TA3.out.tm.lt; omega⟩
  clear G4 tz4 hb4 b4 HP2 HP3 KT KU
  go_wp2_with fail
  refine (noTally_ok (.inl rfl)).mono ?_
  rintro e w5 ⟨rfl, b5⟩
  have B5 := hide (B4.out.trans (b5.mono B4.out.size))
  have TA5 := hide (TA4.out.kept b5)
  have TB5 := hide (TB4.out.kept b5)
  have HH5 := hide ((b5.block _ (block_lt HH4.out)).trans HH4.out)
  clear b5
  go_wp2_with fail
  refine (noTally_ok (.inr ⟨w5.heap.size, rfl, by simp, (World.cell?_alloc_new _ _ _ 10).trans rfl⟩)).mono ?_
  rintro e w7 ⟨rfl, b7⟩
  have a7 := Below.trans ((Below.refl w5.heap.size w5).alloc (Nat.le_refl _) _) (b7.mono (by simp))
  have B7 := hide (B5.out.trans (a7.mono B5.out.size))
  have TA7 := hide (TA5.out.kept a7)
  have TB7 := hide (TB5.out.kept a7)
  have HH7 := hide ((a7.block _ (block_lt HH5.out)).trans HH5.out)
  clear b7 a7
  go_wp2_with fail
  refine (newTally_dead (.inr ⟨w7.heap.size, rfl, by simp, (World.cell?_alloc_new _ _ _ 0).trans rfl⟩)).mono ?_
  rintro e w8 ⟨rfl, h8⟩
  have a8 : Below w7.heap.size w7 w8 := by rw [h8]; exact (Below.refl w7.heap.size w7).alloc (Nat.le_refl _) _
  have B8 := hide (B7.out.trans (a8.mono B7.out.size))
  have TA8 := hide (TA7.out.kept a8)
  have TB8 := hide (TB7.out.kept a8)
  have HH8 := hide ((a8.block _ (block_lt HH7.out)).trans HH7.out)
  clear h8 a8
  clear HH4 HH5 HH7 TA3 TA4 TA5 TA7 TB4 TB5 TB7 B1 B2 B3 B4 B5 B7 HH2 HH3 HGB
  obtain ⟨W9, hW9⟩ : ∃ U, (w8.alloc (.cells #[.pointer (some ⟨h, 0, none⟩), .slice none 0 0] 85)).alloc (.cells #[.pointer (some ⟨h, 0, none⟩), .slice none 0 0] 85) = U := ⟨_, rfl⟩
  obtain ⟨pr, hpr⟩ : ∃ q, w8.heap.size = q := ⟨_, rfl⟩
  obtain ⟨ps, hps⟩ : ∃ q, pr + 1 = q := ⟨_, rfl⟩
  have TT9 : Hid (∃ n m p v L n2 m2 p2 v2 L2, TT w W9 pt b pr pu bb ps h c n m p v L n2 m2 p2 v2 L2) := by
    have a9 : Below w8.heap.size w8 W9 := by rw [← hW9]; exact ((Below.refl _ w8).alloc (Nat.le_refl _) _).alloc (by simp) _
    have e1 : W9.heap[pr]? = some (.cells #[.pointer (some ⟨h, 0, none⟩), .slice none 0 0] 85 (0, 0)) := by
      rw [← hW9]
      exact ((World.grownBy_alloc _ _ none).block _ (by rw [World.size_alloc]; omega) (by simp)).trans (by rw [← hpr]; exact alloc_atK _ _)
    have e2 : W9.heap[ps]? = some (.cells #[.pointer (some ⟨h, 0, none⟩), .slice none 0 0] 85 (0, 0)) := by
      have h1 := alloc_atK (w8.alloc (.cells #[.pointer (some ⟨h, 0, none⟩), .slice none 0 0] 85)) (.cells #[.pointer (some ⟨h, 0, none⟩), .slice none 0 0] 85)
      rw [hW9, World.size_alloc, hpr, hps] at h1
      exact h1
    have hg := (a9.block _ (block_lt HH8.out)).trans HH8.out
    have hs := B8.out.size
    exact ⟨0, _, _, .slice none 0 0, [], 0, _, _, .slice none 0 0, [], ⟨TA8.out.kept a9, ⟨e1, World.ownsRow_nil _ _ _ _, hg, HOK.out⟩, mat_nil _⟩, ⟨TB8.out.kept a9, ⟨e2, World.ownsRow_nil _ _ _ _, hg, HOK.out⟩, mat_nil _⟩, B8.out.trans (a9.mono B8.out.size), ⟨FB.out, by omega, FBB.out.1, by omega⟩, FBB.out.2, by omega, fun j hj => by cases hj⟩
  have HW9 := hide hW9
  have HPR := hide hpr
  have HPS := hide hps
  clear hW9 hpr hps
  go_upto_region 14 with fail
  rw [HW9.out, HPR.out, HPS.out]
  clear HW9 HPR HPS TA8 TB8 HH8 B8 HG GB hG HPC FB FBB
  go_wp2_with fail
  go_loopw [12] (fun i wr => ∃ k : Nat, k ≤ 2000 ∧ k ≤ len ∧ i = .int .i64 (k : Nat) ∧ Hid (∃ n m p v L n2 m2 p2 v2 L2, TT w wr pt b pr pu bb ps h c n m p v L n2 m2 p2 v2 L2)) (fun i _ => 2000 - (intOf i).toNat)
  case atStart => exact ⟨0, by omega, by omega, rfl, TT9⟩
  case round =>
    obtain ⟨k, hk60, hkl, rfl, HR⟩ := hrel
    clear TT9
    by_cases hin : k < len ∧ k < 2000
    · obtain ⟨h1, h2⟩ := hin
      obtain rfl := HAO.out (by omega)
      obtain ⟨x, hx⟩ : ∃ x, ws[k]? = some x := ⟨_, List.getElem?_eq_getElem (by have := HN.out; omega)⟩
      obtain ⟨n, m, p, v, L, n2, m2, p2, v2, L2, tt⟩ := HR.out
      have KW : Hid (∀ V, Below w.heap.size w V → V.cell? ⟨sb, off + k * 5, none⟩ = some (.int .i64 x.k) ∧ V.cell? ⟨sb, off + k * 5 + 1, none⟩ = some (.int .u64 (x.n : Nat)) ∧ V.cell? ⟨sb, off + k * 5 + 2, none⟩ = some (.int .u64 (x.bn : Nat)) ∧ V.cell? ⟨sb, off + k * 5 + 3, none⟩ = some (.int .i64 x.bm) ∧ V.cell? ⟨sb, off + k * 5 + 4, none⟩ = some (.int .i64 x.nd) ∧ sb < V.heap.size) := fun V hV => by
        have hF := HF.out.kept (HBW.out (by omega)) hV
        exact ⟨hF.at_ k x hx 0 _ rfl, hF.at_ k x hx 1 _ rfl, hF.at_ k x hx 2 _ rfl, hF.at_ k x hx 3 _ rfl, hF.at_ k x hx 4 _ rfl, Nat.lt_of_lt_of_le (HBW.out (by omega)) hV.size⟩
      have HX := hide (HF.out.ok x (List.mem_of_getElem? hx))
      obtain ⟨c0, c1, c2, c3, c4, c5⟩ := KW.out _ tt.bel
      have TT1 := hide tt
      clear hx tt HR
      go_wp2_with fail
      refine (first_ok TT1.out.one TT1.out.bel.size x HX.out).mono ?_
      rintro e V ⟨rfl, N1⟩
      obtain ⟨n', m', p', v', L', t2⟩ := TT1.out.first N1.out
      obtain ⟨d0, d1, d2, d3, d4, d5⟩ := KW.out _ t2.bel
      have TT2 := hide t2
      clear t2 N1 c0 c1 c2 c3 c4 c5
      go_wp2_with fail
      refine (second_ok TT2.out.two TT2.out.bel.size x HX.out).mono ?_
      rintro e V2 ⟨rfl, N2⟩
      obtain ⟨n3, m3, p3, v3, L3, t3⟩ := TT2.out.second N2.out
      have TT3 := hide t3
      clear t3 N2 d0 d1 d2 d3 d4 d5
      go_wp2
      go_roundw
      case rel => exact ⟨k + 1, by omega, by omega, by go_num, _, _, _, _, _, _, _, _, _, _, TT3.out⟩
      case measure => simp [intOf]; omega
    · obtain ⟨n, m, p, v, L, n2, m2, p2, v2, L2, tt⟩ := HR.out
      have TT0 := hide tt
      clear HR tt
      have hdone : k < len → ¬ k < 2000 := fun h1 h2 => hin ⟨h1, h2⟩
      by_cases hl : k < len
      all_goals
        clear hin hkl hk60
        first
          | (have hI : ¬ ((k : Int) < 2000) := by (have := hdone hl; omega))
          | (have hI : ¬ ((k : Int) < (len : Int)) := by omega)
        go_wp2_with fail
        clear hdone hl hI
        go_loopw [13] (fun i wr => ∃ k : Nat, k ≤ 2000 ∧ k ≤ len ∧ i = .int .i64 (k : Nat) ∧ Hid (∃ n m p v L n2 m2 p2 v2 L2, TT w wr pt b pr pu bb ps h c n m p v L n2 m2 p2 v2 L2)) (fun i _ => 2000 - (intOf i).toNat)
        case atStart => exact ⟨0, by omega, by omega, rfl, _, _, _, _, _, _, _, _, _, _, TT0.out⟩
        case round =>
          obtain ⟨k, hk60, hkl, rfl, HR⟩ := hrel
          clear TT0
          by_cases hin : k < len ∧ k < 2000
          · obtain ⟨h1, h2⟩ := hin
            obtain rfl := HAO.out (by omega)
            obtain ⟨x, hx⟩ : ∃ x, ws[k]? = some x := ⟨_, List.getElem?_eq_getElem (by have := HN.out; omega)⟩
            obtain ⟨n, m, p, v, L, n2, m2, p2, v2, L2, tt⟩ := HR.out
            have KW : Hid (∀ V, Below w.heap.size w V → V.cell? ⟨sb, off + k * 5, none⟩ = some (.int .i64 x.k) ∧ V.cell? ⟨sb, off + k * 5 + 1, none⟩ = some (.int .u64 (x.n : Nat)) ∧ V.cell? ⟨sb, off + k * 5 + 2, none⟩ = some (.int .u64 (x.bn : Nat)) ∧ V.cell? ⟨sb, off + k * 5 + 3, none⟩ = some (.int .i64 x.bm) ∧ V.cell? ⟨sb, off + k * 5 + 4, none⟩ = some (.int .i64 x.nd) ∧ sb < V.heap.size) := fun V hV => by
              have hF := HF.out.kept (HBW.out (by omega)) hV
              exact ⟨hF.at_ k x hx 0 _ rfl, hF.at_ k x hx 1 _ rfl, hF.at_ k x hx 2 _ rfl, hF.at_ k x hx 3 _ rfl, hF.at_ k x hx 4 _ rfl, Nat.lt_of_lt_of_le (HBW.out (by omega)) hV.size⟩
            have HX := hide (HF.out.ok x (List.mem_of_getElem? hx))
            obtain ⟨c0, c1, c2, c3, c4, c5⟩ := KW.out _ tt.bel
            have TT1 := hide tt
            clear hx tt HR
            have i1 : (k : Int) < (len : Int) := by omega
            have i2 : (k : Int) < 2000 := by omega
            go_upto_region 23 with fail
            have I1 := hide (And.intro h1 h2)
            clear i1 i2 h1 h2
            obtain ⟨W5, hW5⟩ : ∃ U, wr.alloc (.cells #[.int .i64 x.k, .int .u64 (x.n : Nat), .int .u64 (x.bn : Nat), .int .i64 x.bm, .int .i64 x.nd] 38) = U := ⟨_, rfl⟩
            obtain ⟨pw, hpw⟩ : ∃ q, wr.heap.size = q := ⟨_, rfl⟩
            have t5 : W5.heap[pw]? = some (.cells x.cells 38 (0, 0)) := by rw [← hW5, ← hpw]; exact alloc_atK _ _
            have TT5 := hide (TT1.out.kept (V' := W5) (by rw [← hW5]; exact (Below.refl _ _).alloc (Nat.le_refl _) _))
            have KX : Hid (∀ V, Hid (Below W5.heap.size W5 V) → V.cell? ⟨pw, 1, none⟩ = some (.int .u64 (x.n : Nat)) ∧ V.cell? ⟨pw, 2, none⟩ = some (.int .u64 (x.bn : Nat)) ∧ V.cell? ⟨pw, 3, none⟩ = some (.int .i64 x.bm) ∧ pw < V.heap.size) := fun V hV => by
              have h5 := (hV.out.block _ (block_lt t5)).trans t5
              exact ⟨block_cell h5 1, block_cell h5 2, block_cell h5 3, block_lt h5⟩
            have KB : Hid (∀ V V', Hid (Below W5.heap.size W5 V) → Below V.heap.size V V' → Hid (Below W5.heap.size W5 V')) := fun V V' h h' => h.out.trans (h'.mono h.out.size)
            have hL : L.length ≤ 64 := by have := TT5.out.one.mt.len; have := TT5.out.one.mt.le; omega
            have hL2 : L2.length ≤ 64 := by have := TT5.out.two.mt.len; have := TT5.out.two.mt.le; omega
            have K1 : Hid (∀ V, Hid (Below W5.heap.size W5 V) → Calls Try.prog 16 #[.pointer (some ⟨pt, 0, none⟩), .int .u64 (x.n : Nat)] V fun e V' => e = .returned (.int .u32 ((m x.n : Nat) : Int)) ∧ Hid (Below W5.heap.size W5 V')) := fun V hV => by
              refine (tnodes (TT5.out.kept hV.out).one.ty x.n HX.out.n).mono ?_
              rintro e V' ⟨rfl, rfl⟩
              exact ⟨rfl, hV⟩
            have K2 : Hid (∀ V, Hid (Below W5.heap.size W5 V) → Calls Try.prog 38 #[.pointer (some ⟨pr, 0, none⟩), .int .u64 (x.n : Nat), .agg #[.int .u64 0, .int .i64 0]] V fun e V' => e = .returned (.int .u32 ((m x.n : Nat) : Int)) ∧ Hid (Below W5.heap.size W5 V')) := fun V hV => by
              have h1 := rnodes (TT5.out.kept hV.out).one.rt hL TT5.out.one.mt.apart (KR.one.n x.n) (KR.one.num x.n) (KR.one.node x.n)
              rw [TT5.out.one.mt.fr x.n] at h1
              refine h1.mono ?_
              rintro e V' ⟨rfl, h2⟩
              exact ⟨rfl, KB.out _ _ hV h2⟩
            have K3 : Hid (∀ V, Hid (Below W5.heap.size W5 V) → Calls Try.prog 39 #[.pointer (some ⟨pu, 0, none⟩), .agg #[.int .u64 (x.bn : Nat), .int .i64 x.bm]] V fun e V' => e = .returned (.int .u32 ((m2 (x.bn, x.bm) : Nat) : Int)) ∧ Hid (Below W5.heap.size W5 V')) := fun V hV => by
              refine (znodes (TT5.out.kept hV.out).two.ty (x.bn, x.bm) ⟨HX.out.bn, HX.out.b1, HX.out.b2⟩).mono ?_
              rintro e V' ⟨rfl, h2⟩
              exact ⟨rfl, KB.out _ _ hV h2⟩
            have K4 : Hid (∀ V, Hid (Below W5.heap.size W5 V) → Calls Try.prog 38 #[.pointer (some ⟨ps, 0, none⟩), .int .u64 0, .agg #[.int .u64 (x.bn : Nat), .int .i64 x.bm]] V fun e V' => e = .returned (.int .u32 ((m2 (x.bn, x.bm) : Nat) : Int)) ∧ Hid (Below W5.heap.size W5 V')) := fun V hV => by
              have h1 := rnodes (TT5.out.kept hV.out).two.rt hL2 TT5.out.two.mt.apart (KR.two.n (x.bn, x.bm)) (KR.two.num (x.bn, x.bm)) (KR.two.node (x.bn, x.bm))
              rw [TT5.out.two.mt.fr (x.bn, x.bm)] at h1
              refine h1.mono ?_
              rintro e V' ⟨rfl, h2⟩
              exact ⟨rfl, KB.out _ _ hV h2⟩
            have HD : Hid (Below W5.heap.size W5 W5.drew) := (Below.refl _ W5).drew
            rw [hW5, hpw]
            clear hW5 hpw t5 c0 c1 c2 c3 c4 c5 TT1 hL hL2
            generalize ((m x.n : Nat) : Int) = mk at *
            generalize ((m2 (x.bn, x.bm) : Nat) : Int) = mk2 at *
            refine region_assign (fun V => Hid (Below W5.heap.size W5 V)) [(103, .pointer (some ⟨pt, 0, none⟩)), (104, .pointer (some ⟨pw, 1, none⟩)), (105, .int .u64 (x.n : Nat)), (106, .int .u32 mk), (107, .pointer (some ⟨pr, 0, none⟩)), (108, .pointer (some ⟨pw, 1, none⟩)), (109, .int .u64 (x.n : Nat)), (110, .agg #[.int .u64 0, .int .i64 0]), (111, .int .u32 mk), (112, .bool false), (113, .bool false), (114, .pointer (some ⟨pu, 0, none⟩)), (115, .pointer (some ⟨pw, 2, none⟩)), (116, .agg #[.int .u64 (x.bn : Nat), .int .i64 x.bm]), (117, .int .u32 mk2), (118, .pointer (some ⟨ps, 0, none⟩)), (119, .pointer (some ⟨pw, 2, none⟩)), (120, .agg #[.int .u64 (x.bn : Nat), .int .i64 x.bm]), (121, .int .u32 mk2), (122, .bool false), (123, .bool false)] _ (by kernel_rfl) (by kernel_rfl) (by kernel_rfl) (by kernel_rfl) rfl HD ?_ (fun V1 HV1 => ?_)
            · simp only [putAll, Act.put, List.setIfInBounds_toArray, List.set_cons_zero, List.set_cons_succ]
              repeat' (first | exact AllTo.nil | refine AllTo.cons ?_ ?_)
              all_goals first
                | exact stepTo_no (by rfl) rfl
                | (refine stepTo_yes (by rfl) (fun V hV K hK => ?_)
                   obtain ⟨y1, y2, y3, y4⟩ := KX.out V hV
                   go_simp
                   exact hK.out _ hV)
                | skip
              · refine stepTo_yes (by rfl) (fun V hV K hK => ?_)
                go_simp
                go_at_call 16; refine (K1.out V hV).mono ?_; rintro e V' ⟨rfl, hV'⟩; exact hK.out _ hV'
              · refine stepTo_yes (by rfl) (fun V hV K hK => ?_)
                go_simp
                go_at_call 38; refine (K2.out V hV).mono ?_; rintro e V' ⟨rfl, hV'⟩; exact hK.out _ hV'
              · refine stepTo_yes (by rfl) (fun V hV K hK => ?_)
                go_simp
                go_at_call 39; refine (K3.out V hV).mono ?_; rintro e V' ⟨rfl, hV'⟩; exact hK.out _ hV'
              · refine stepTo_yes (by rfl) (fun V hV K hK => ?_)
                go_simp
                go_at_call 38; refine (K4.out V hV).mono ?_; rintro e V' ⟨rfl, hV'⟩; exact hK.out _ hV'
            simp only [putAll, Act.put, List.setIfInBounds_toArray, List.set_cons_zero, List.set_cons_succ]
            obtain ⟨h1, h2⟩ := I1.out
            go_wp2
            go_roundw
            case rel => exact ⟨k + 1, by omega, by omega, by go_num, _, _, _, _, _, _, _, _, _, _, TT5.out.kept HV1.out⟩
            case measure => simp [intOf]; omega
          · obtain ⟨n, m, p, v, L, n2, m2, p2, v2, L2, tt⟩ := HR.out
            have J1 := hide (tlen tt.one.ty)
            have J2 := hide (rlen tt.one.rt)
            have J3 := hide (zlen tt.two.ty)
            have J4 := hide (rlen tt.two.rt)
            rw [tt.one.mt.len] at J2
            rw [tt.two.mt.len] at J4
            have HB := hide tt.bel
            clear HR tt
            have hdone : k < len → ¬ k < 2000 := fun h1 h2 => hin ⟨h1, h2⟩
            by_cases hl : k < len
            all_goals
              clear hin hkl hk60
              go_wp2_with fail
              refine J1.out.mono ?_
              rintro e w11 ⟨rfl, rfl⟩
              go_wp2_with fail
              refine J2.out.mono ?_
              rintro e w12 ⟨rfl, rfl⟩
              go_wp2_with fail
              refine J3.out.mono ?_
              rintro e w13 ⟨rfl, rfl⟩
              go_wp2_with fail
              refine J4.out.mono ?_
              rintro e w14 ⟨rfl, rfl⟩
              go_wp2
              go_ret
              exact ⟨rfl, HB.out⟩
end Go.Proofs.Ythfiafjhnidlkaa
