import Derived.Test.YtfopdbnokojlmaaDoorMI
import Derived.Test.YtfopdbnokojlmaaDoorCvY
namespace Go.Proofs.YtfopdbnokojlmaaDoor
open Go.RowKit

set_option maxRecDepth 10000 in
set_option maxHeartbeats 12800000 in
theorem listR {W : World} {g : Pg} {p : Pv} (h : g.Ok p W.heap.size W) (hT : TabP W) (hcb : ∀ j, j < p.nc → 0 ≤ p.C j ∧ p.C j < 18446744073709551616) : Calls Tryd.prog 4 #[.agg (g.cs p).toArray] W (LsR W p (verF p)) := by
  obtain ⟨W2, hW2⟩ : ∃ W2, (W.alloc (.cells (g.cs p).toArray 27)).alloc (.cells #[.slice none 0 0, .int .i64 0] 30) = W2 := ⟨_, rfl⟩
  have HS := hide (fm_new h hW2)
  have HTP : Hid (TabP W2) := hT.next HS.out.bel
  have HW2 := hide hW2
  have HF := hide (verifyR (HS.out.ok.wide HS.out.bel.size))
  have HCS : Hid (g.cs p = [.slice g.ca p.nc g.cc, .slice g.sa p.ns g.sc, .int .i64 (p.en 0), .int .i64 (p.en 1), .int .i64 (p.en 2), .int .i64 (p.en 3), .int .i64 (p.en 4), .int .i64 (p.en 5), .slice g.ia p.n g.ic]) := rfl
  rw [HCS.out] at HW2 HF ⊢
  obtain ⟨r, hr⟩ : ∃ r, verF p = r := ⟨_, rfl⟩
  rw [hr] at HF ⊢
  have HGD : Hid (∀ k, r = .ok k → Gd p) := hide (fun k e => Gd.of (hr.trans e) hcb)
  have HNE : Hid (∀ a y, r = .error (a, y) → y ≠ 0) := hide (fun a y e => ver_ne (hr.trans e))
  clear h hW2 hr hcb hT
  obtain ⟨y0, y1, y2, y3, y4, y5, y6, y7, y8⟩ := HS.out.cells
  have yl := block_lt HS.out.prg
  go_enter Tryd.func4, Tryd.ntmps4
  go_upto_region 1 with fail
  rw [HW2.out]
  clear HW2
  go_wp2_with fail
  refine HF.out.mono ?_
  intro e w3 hh
  clear y0 y1 y2 y3 y4 y5 y6 y7 y8 yl
  cases r with
  | error z =>
    obtain ⟨a, y⟩ := z
    obtain ⟨ao, cap, rfl, G⟩ := hh
    obtain ⟨b, off, hf, hb⟩ := G.out
    have hne := HNE.out a y rfl
    obtain ⟨w4, hw4⟩ : ∃ w4, w3.alloc (.cells #[.slice ao 1 cap, .int .i64 y] 30) = w4 := ⟨_, rfl⟩
    have B4 : Below w3.heap.size w3 w4 := by rw [← hw4]; exact below_alloc1 _ _
    have A4 : w4.heap[w3.heap.size]? = some (.cells #[.slice ao 1 cap, .int .i64 y] 30 (0, 0)) := by rw [← hw4]; exact alloc_atK _ _
    have HS4 := hide ((HS.out.next hb).next B4)
    have HF4 := hide (hf.next B4)
    have t0 := block_cell A4 0
    have t1 := block_cell A4 1
    have tl := block_lt A4
    simp at t0 t1
    have HA4 := hide A4
    have HW4 := hide hw4
    clear hw4 G A4 B4 HF HS hf hb
    go_upto_region 2 with fail
    rw [HW4.out]
    clear HW4
    go_wp2_with fail
    refine (anyYes ao 1 cap y hne w4).mono ?_
    rintro e w5 ⟨rfl, G5⟩
    have A5 := (G5.out.block _ (block_lt HA4.out)).trans HA4.out
    have u0 := block_cell A5 0
    have u1 := block_cell A5 1
    have ul := block_lt A5
    simp at u0 u1
    have HS3 := hide (HS4.out.next G5.out)
    have z0 := block_cell HS3.out.res 0
    have z1 := block_cell HS3.out.res 1
    have f0 := block_free HS3.out.res 0
    have f1 := block_free HS3.out.res 1
    have zl := block_lt HS3.out.res
    simp at z0 z1
    have HD : Hid (FV ((w5.setCell ⟨W.heap.size + 1, 0, none⟩ (.slice ao 1 cap)).setCell ⟨W.heap.size + 1, 1, none⟩ (.int .i64 y)).drew.heap.size ((w5.setCell ⟨W.heap.size + 1, 0, none⟩ (.slice ao 1 cap)).setCell ⟨W.heap.size + 1, 1, none⟩ (.int .i64 y)).drew ao [⟨⟨#[99, 111, 100, 101]⟩, a⟩] b off ∧ Below W.heap.size W ((w5.setCell ⟨W.heap.size + 1, 0, none⟩ (.slice ao 1 cap)).setCell ⟨W.heap.size + 1, 1, none⟩ (.int .i64 y)).drew) := by
      have h1 := rf_end HS3.out.res (by simp) HS3.out.bel (HF4.out.next G5.out) cap y
      exact ⟨h1.1.next (Below.refl _ _).drew, h1.2.drew⟩
    clear A5 t0 t1 tl HS4 HS3 HF4 HA4 G5
    go_upto_region 3 with fail
    go_region
    go_wp2
    refine bodyPost_ret (v := .tuple #[.string ⟨#[]⟩, .agg #[.slice ao 1 cap, .int .i64 y]]) (by simp [results, Tryd.results4, go_sem, z0, z1]) rfl ?_
    exact ⟨ao, cap, rfl, b, off, HD.out⟩
  | ok k =>
    obtain ⟨rfl, G⟩ := hh
    have HG := hide (HGD.out k rfl)
    obtain ⟨w4, hw4⟩ : ∃ w4, w3.alloc (.cells #[.slice none 0 0, .int .i64 0] 30) = w4 := ⟨_, rfl⟩
    have B4 : Below w3.heap.size w3 w4 := by rw [← hw4]; exact below_alloc1 _ _
    have A4 : w4.heap[w3.heap.size]? = some (.cells #[.slice none 0 0, .int .i64 0] 30 (0, 0)) := by rw [← hw4]; exact alloc_atK _ _
    have HS4 : Hid (Fn W g p w4) := ⟨(HS.out.next G.out).next B4, (HTP.out.next G.out).next B4⟩
    have t0 := block_cell A4 0
    have t1 := block_cell A4 1
    have tl := block_lt A4
    simp at t0 t1
    have HW4 := hide hw4
    clear hw4 G A4 B4 HF HS HTP HGD HNE
    go_upto_region 2 with fail
    rw [HW4.out]
    clear HW4
    go_wp2_with fail
    refine (anyNo w4).mono ?_
    rintro e w5 ⟨rfl, G5⟩
    have HL := hide (HS4.out.next G5.out)
    clear t0 t1 tl HS4 G5
    have HSZ := hide (lst_size HG.out)
    obtain ⟨ca, sa, ia, cc, sc, ic, cb, co, sb, so, ib, io⟩ := g
    simp only
    go_upto_block 0 with fail
    go_cut [5, 6] from 16 (fun v _ V => v = .string (lst1 p) ∧ Hid (Fn W ⟨ca, sa, ia, cc, sc, ic, cb, co, sb, so, ib, io⟩ p V))
    case first =>
      have hncb := HG.out.nc
      go_wp2
      go_loopw [5, 6] (fun v i wr => ∃ j : Nat, j ≤ p.nc ∧ i = .int .i64 (j : Nat) ∧ v = .string (cat (conL p) j) ∧ Hid (Fn W ⟨ca, sa, ia, cc, sc, ic, cb, co, sb, so, ib, io⟩ p wr)) (fun _ i _ => p.nc - (intOf i).toNat)
      case atStart => exact ⟨0, by omega, rfl, rfl, HL.out⟩
      case round =>
        obtain ⟨j, hj, rfl, rfl, HJ⟩ := hrel
        clear HL
        have y0 : wr.cell? ⟨W.heap.size, 0, none⟩ = some (.slice ca p.nc cc) := HJ.out.fm.cells.1
        have yl := block_lt HJ.out.fm.prg
        by_cases hlt : j < p.nc
        · obtain ⟨hca, hcl⟩ := HJ.out.fm.ok.hc (by show 0 < p.nc; omega)
          have hca : ca = some ⟨cb, co, none⟩ := hca
          have hcl : cb < W.heap.size := hcl
          obtain ⟨c, hc⟩ : ∃ c : Nat, p.C j = c := ⟨(p.C j).toNat, by have := HG.out.c j hlt; omega⟩
          have hcb2 : c < 18446744073709551616 := by have := HG.out.c j hlt; omega
          have hv : wr.cell? ⟨cb, co + j, none⟩ = some (.int .u64 (c : Nat)) := by rw [← hc]; exact HJ.out.fm.ok.vc j hlt
          have hl2 : cb < wr.heap.size := Nat.lt_of_lt_of_le hcl HJ.out.fm.bel.size
          have c1 := reg_of (w := wr) (fun w1 hb => itoaC (w := w1) (j : Int) (by omega) (by omega) (HJ.out.tp.next hb))
          have c2 := reg_of (w := wr) (fun w1 hb => fmtUC (w := w1) c hcb2 (HJ.out.tp.next hb))
          have hsz := HSZ.out.1 j (by omega)
          have s1 := iB_size j (by omega) (by omega)
          have s2 := iB_size c (by omega) (by omega)
          have HEQ : Hid (cat (conL p) j ++ ⟨#[99, 111, 110, 115, 116, 32]⟩ ++ iB j ++ ⟨#[32]⟩ ++ iB c ++ ⟨#[10]⟩ = cat (conL p) (j + 1)) := by
            have := con_eq p j (cat (conL p) j)
            rw [hc] at this
            exact this
          clear hc
          subst hca
          generalize cat (conL p) j = t at *
          generalize iB (j : Int) = i1 at *
          generalize iB (c : Int) = i2 at *
          have n1 : ¬ 9223372036854775807 < t.size + 6 := by omega
          have n2 : ¬ 9223372036854775807 < t.size + 6 + i1.size := by omega
          have n3 : ¬ 9223372036854775807 < t.size + 6 + i1.size + 1 := by omega
          have n4 : ¬ 9223372036854775807 < t.size + 6 + i1.size + 1 + i2.size := by omega
          have n5 : ¬ 9223372036854775807 < t.size + 6 + i1.size + 1 + i2.size + 1 := by omega
          have k0 := cell_regrown y0
          have k1 := cell_regrown hv
          clear hsz s1 s2
          go_upto_region 8 with fail
          refine wp_region_quiet_below (by kernel_rfl) (by kernel_rfl) ?_
          repeat (quiet_step (first | exact c1 _ _ | exact c2 _ _))
          refine wpQuiet_nil ?_
          intro w8 hw'
          obtain ⟨⟨dq, osq⟩, hw''⟩ := hw'
          have HB8 : Hid (Below wr.heap.size wr w8) := by rw [hw'']; exact below_regrown wr dq osq
          clear hw''
          have HN := hide (HJ.out.next HB8.out)
          clear c1 c2 k0 k1 n1 n2 n3 n4 n5 y0 yl hv hl2 HJ HB8
          rw [HEQ.out]
          go_wp2
          go_roundw
          case rel => exact ⟨j + 1, by omega, by go_num, rfl, HN.out⟩
          case measure => simp [intOf]; omega
        · obtain rfl : j = p.nc := by omega
          go_wp2
          go_meet
          case rel => exact ⟨rfl, HJ.out⟩
    case rest =>
    clear HL
    obtain ⟨hs5, hcut2⟩ := hcut
    subst hs5
    have HL := hide hcut2.out
    clear hcut2
    go_upto_block 2 with fail
    go_cut [5, 7] from 37 (fun v _ V => v = .string (lst2 p) ∧ Hid (Fn W ⟨ca, sa, ia, cc, sc, ic, cb, co, sb, so, ib, io⟩ p V))
    case first =>
      have hnsb := HG.out.ns
      go_wp2
      go_loopw [5, 7] (fun v i wr => ∃ j : Nat, j ≤ p.ns ∧ i = .int .i64 (j : Nat) ∧ v = .string (lst1 p ++ cat (sltL p) j) ∧ Hid (Fn W ⟨ca, sa, ia, cc, sc, ic, cb, co, sb, so, ib, io⟩ p wr)) (fun _ i _ => p.ns - (intOf i).toNat)
      case atStart => exact ⟨0, by omega, rfl, by rw [cat_none], HL.out⟩
      case round =>
        obtain ⟨j, hj, rfl, rfl, HJ⟩ := hrel
        clear HL
        have y1 : wr.cell? ⟨W.heap.size, 1, none⟩ = some (.slice sa p.ns sc) := HJ.out.fm.cells.2.1
        have yl := block_lt HJ.out.fm.prg
        by_cases hlt : j < p.ns
        · obtain ⟨hsa, hsl⟩ := HJ.out.fm.ok.hs (by show 0 < p.ns; omega)
          have hsa : sa = some ⟨sb, so, none⟩ := hsa
          have hsl : sb < W.heap.size := hsl
          have hS := HG.out.s j hlt
          have hv : wr.cell? ⟨sb, so + j, none⟩ = some (.int .i64 (p.S j)) := HJ.out.fm.ok.vs j hlt
          have hl2 : sb < wr.heap.size := Nat.lt_of_lt_of_le hsl HJ.out.fm.bel.size
          have c1 := reg_of (w := wr) (fun w1 hb => itoaC (w := w1) (j : Int) (by omega) (by omega) (HJ.out.tp.next hb))
          have c2 : ∀ d os, Calls Tryd.prog 13 #[.string ⟨#[110, 117, 109, 32, 98, 111, 111, 108, 32]⟩, .int .i64 (p.S j)] (Sort.grow (redrawn wr d) os) fun e w'' => e = .returned (.string (kdB (p.S j))) ∧ ∃ q : Regrown, w'' = Sort.grow (redrawn wr q.d) q.os := reg_of (w := wr) (fun w1 hb => same_of (by
            have q := wordC kAll (by decide) (by decide) (p.S j).toNat (by omega) w1
            rw [kAll_at _ hS] at q
            have e : (((p.S j).toNat : Nat) : Int) = p.S j := by omega
            rw [e] at q
            exact q))
          have hsz := HSZ.out.2.1 j (by omega)
          have s1 := iB_size j (by omega) (by omega)
          have s2 : (kdB (p.S j)).size ≤ 4 := by unfold kdB; split <;> decide
          have HEQ : Hid (lst1 p ++ cat (sltL p) j ++ ⟨#[115, 108, 111, 116, 32]⟩ ++ iB j ++ ⟨#[32]⟩ ++ kdB (p.S j) ++ ⟨#[10]⟩ = lst1 p ++ cat (sltL p) (j + 1)) := (slt_eq p j (lst1 p ++ cat (sltL p) j)).trans ByteArray.append_assoc
          subst hsa
          generalize lst1 p ++ cat (sltL p) j = t at *
          generalize iB (j : Int) = i1 at *
          generalize kdB (p.S j) = i2 at *
          generalize p.S j = sj at *
          have n1 : ¬ 9223372036854775807 < t.size + 5 := by omega
          have n2 : ¬ 9223372036854775807 < t.size + 5 + i1.size := by omega
          have n3 : ¬ 9223372036854775807 < t.size + 5 + i1.size + 1 := by omega
          have n4 : ¬ 9223372036854775807 < t.size + 5 + i1.size + 1 + i2.size := by omega
          have n5 : ¬ 9223372036854775807 < t.size + 5 + i1.size + 1 + i2.size + 1 := by omega
          have k0 := cell_regrown y1
          have k1 := cell_regrown hv
          clear hsz s1 s2 hS
          go_upto_region 12 with fail
          refine wp_region_quiet_below (by kernel_rfl) (by kernel_rfl) ?_
          repeat (quiet_step (first | exact c1 _ _ | exact c2 _ _))
          refine wpQuiet_nil ?_
          intro w8 hw'
          obtain ⟨⟨dq, osq⟩, hw''⟩ := hw'
          have HB8 : Hid (Below wr.heap.size wr w8) := by rw [hw'']; exact below_regrown wr dq osq
          clear hw''
          have HN := hide (HJ.out.next HB8.out)
          clear c1 c2 k0 k1 n1 n2 n3 n4 n5 y1 yl hv hl2 HJ HB8
          rw [HEQ.out]
          go_wp2
          go_roundw
          case rel => exact ⟨j + 1, by omega, by go_num, rfl, HN.out⟩
          case measure => simp [intOf]; omega
        · obtain rfl : j = p.ns := by omega
          go_wp2
          go_meet
          case rel => exact ⟨rfl, HJ.out⟩
    case rest =>
    clear HL
    obtain ⟨hs5, hcut2⟩ := hcut
    subst hs5
    have HL := hide hcut2.out
    clear hcut2
    go_upto_block 4 with fail
    go_cut [5, 8] from 58 (fun v _ V => v = .string (lst3 p) ∧ Hid (Fn W ⟨ca, sa, ia, cc, sc, ic, cb, co, sb, so, ib, io⟩ p V))
    case first =>
      go_wp2
      go_loopw [5, 8] (fun v i wr => ∃ j : Nat, j ≤ 6 ∧ i = .int .i64 (j : Nat) ∧ v = .string (lst2 p ++ cat (entL p) j) ∧ Hid (Fn W ⟨ca, sa, ia, cc, sc, ic, cb, co, sb, so, ib, io⟩ p wr)) (fun _ i _ => 6 - (intOf i).toNat)
      case atStart => exact ⟨0, by omega, rfl, by rw [cat_none], HL.out⟩
      case round =>
        obtain ⟨j, hj, rfl, rfl, HJ⟩ := hrel
        clear HL
        have yl := block_lt HJ.out.fm.prg
        by_cases hlt : j < 6
        · have hv : wr.cell? ⟨W.heap.size, 2 + j, none⟩ = some (.int .i64 (p.en j)) := by
            have hc := HJ.out.fm.cells
            match j, hlt with
            | 0, _ => exact hc.2.2.1
            | 1, _ => exact hc.2.2.2.1
            | 2, _ => exact hc.2.2.2.2.1
            | 3, _ => exact hc.2.2.2.2.2.1
            | 4, _ => exact hc.2.2.2.2.2.2.1
            | 5, _ => exact hc.2.2.2.2.2.2.2.1
          by_cases he : 0 ≤ p.en j
          · have hE := HG.out.e j hlt
            have c1 := reg_of (w := wr) (fun w1 hb => itoaC (w := w1) (p.en j) (by omega) (by omega) (HJ.out.tp.next hb))
            have c2 : ∀ d os, Calls Tryd.prog 13 #[.string (txt eAll), .int .i64 (j : Nat)] (Sort.grow (redrawn wr d) os) fun e w'' => e = .returned (.string (evB j)) ∧ ∃ q : Regrown, w'' = Sort.grow (redrawn wr q.d) q.os := reg_of (w := wr) (fun w1 hb => same_of (by
              have q := wordC eAll (by decide) (by decide) j (by omega) w1
              rw [eAll_at j hlt] at q
              exact q))
            have hsz := HSZ.out.2.2.1 j (by omega)
            have s1 := evB_size j
            have s2 := iB_size (p.en j) (by omega) (by omega)
            have HEQ : Hid (lst2 p ++ cat (entL p) j ++ ⟨#[111, 110, 32]⟩ ++ evB j ++ ⟨#[32]⟩ ++ iB (p.en j) ++ ⟨#[10]⟩ = lst2 p ++ cat (entL p) (j + 1)) := (ent_eq p j (lst2 p ++ cat (entL p) j) he).trans ByteArray.append_assoc
            generalize lst2 p ++ cat (entL p) j = t at *
            generalize evB j = i1 at *
            generalize iB (p.en j) = i2 at *
            generalize p.en j = x at *
            have n1 : ¬ 9223372036854775807 < t.size + 3 := by omega
            have n2 : ¬ 9223372036854775807 < t.size + 3 + i1.size := by omega
            have n3 : ¬ 9223372036854775807 < t.size + 3 + i1.size + 1 := by omega
            have n4 : ¬ 9223372036854775807 < t.size + 3 + i1.size + 1 + i2.size := by omega
            have n5 : ¬ 9223372036854775807 < t.size + 3 + i1.size + 1 + i2.size + 1 := by omega
            have k0 := cell_regrown hv
            clear hsz s1 s2 hE
            go_upto_region 17 with fail
            refine wp_region_quiet_below (by kernel_rfl) (by kernel_rfl) ?_
            repeat (quiet_step (first | exact c1 _ _ | exact c2 _ _))
            refine wpQuiet_nil ?_
            intro w8 hw'
            obtain ⟨⟨dq, osq⟩, hw''⟩ := hw'
            have HB8 : Hid (Below wr.heap.size wr w8) := by rw [hw'']; exact below_regrown wr dq osq
            clear hw''
            have HN := hide (HJ.out.next HB8.out)
            clear c1 c2 k0 n1 n2 n3 n4 n5 yl hv HJ HB8
            rw [HEQ.out]
            go_wp2
            go_roundw
            case rel => exact ⟨j + 1, by omega, by go_num, rfl, HN.out⟩
            case measure => simp [intOf]; omega
          · have q : lst2 p ++ cat (entL p) (j + 1) = lst2 p ++ cat (entL p) j := by
              show lst2 p ++ (cat (entL p) j ++ entL p j) = _
              unfold entL
              rw [if_neg he]
              exact congrArg _ ByteArray.append_empty
            have HQ := hide q
            clear q
            generalize p.en j = x at *
            go_wp2
            go_roundw
            case rel => exact ⟨j + 1, by omega, by go_num, by rw [HQ.out], HJ.out⟩
            case measure => simp [intOf]; omega
        · obtain rfl : j = 6 := by omega
          go_wp2
          go_meet
          case rel => exact ⟨rfl, HJ.out⟩
    case rest =>
    clear HL
    obtain ⟨hs5, hcut2⟩ := hcut
    subst hs5
    have HL := hide hcut2.out
    clear hcut2
    go_upto_block 6 with fail
    go_cut [5, 9, 10] from 80 (fun v _ _ V => v = .string (lst4 p) ∧ Hid (Fn W ⟨ca, sa, ia, cc, sc, ic, cb, co, sb, so, ib, io⟩ p V))
    case first =>
      have hnnb := HG.out.n
      go_wp2
      go_loopw [5, 9, 10] (fun v i _ wr => ∃ j : Nat, j ≤ p.n ∧ i = .int .i64 (j : Nat) ∧ v = .string (lst3 p ++ cat (inL p) j) ∧ Hid (Fn W ⟨ca, sa, ia, cc, sc, ic, cb, co, sb, so, ib, io⟩ p wr)) (fun _ i _ _ => p.n - (intOf i).toNat)
      case atStart => exact ⟨0, by omega, rfl, by rw [cat_none], HL.out⟩
      case round =>
        obtain ⟨j, hj, rfl, rfl, HJ⟩ := hrel
        clear HL
        have y8 : wr.cell? ⟨W.heap.size, 8, none⟩ = some (.slice ia p.n ic) := HJ.out.fm.cells.2.2.2.2.2.2.2.2
        have yl := block_lt HJ.out.fm.prg
        by_cases hlt : j < p.n
        · obtain ⟨hia, hil⟩ := HJ.out.fm.ok.hi (by show 0 < p.n; omega)
          have hia : ia = some ⟨ib, io, none⟩ := hia
          have hil : ib < W.heap.size := hil
          obtain ⟨o, ho⟩ : ∃ o : Nat, p.op j = o := ⟨(p.op j).toNat, by have := HG.out.o j hlt; omega⟩
          have hot : (p.op j).toNat = o := by omega
          have ho1 : 1 ≤ o := by have := HG.out.o j hlt; omega
          have ho2 : o ≤ 32 := by have := HG.out.o j hlt; omega
          have ha0 := (HG.out.a j hlt).1
          have ha1 := (HG.out.a j hlt).2
          have ha2 := HG.out.i j hlt
          rw [hot] at ha2
          have HV : Hid (∀ w1, Fn W ⟨ca, sa, ia, cc, sc, ic, cb, co, sb, so, ib, io⟩ p w1 → w1.cell? ⟨W.heap.size, 8, none⟩ = some (.slice ia p.n ic) ∧ W.heap.size < w1.heap.size ∧ w1.cell? ⟨ib, io + j * 2, none⟩ = some (.int .i64 (o : Nat)) ∧ w1.cell? ⟨ib, io + j * 2 + 1, none⟩ = some (.int .i64 (p.arg j)) ∧ ib < w1.heap.size) := hide (fun w1 h1 => ⟨h1.fm.cells.2.2.2.2.2.2.2.2, block_lt h1.fm.prg, by rw [← ho]; exact h1.fm.ok.vo j hlt, h1.fm.ok.va j hlt, Nat.lt_of_lt_of_le hil h1.fm.bel.size⟩)
          have hin : inL p j = insL j o (p.arg j) ++ nlB := by unfold inL; rw [hot]
          have HE0 : Hid (fArg o = 0 → lst3 p ++ cat (inL p) j ++ iB j ++ ⟨#[32]⟩ ++ wdB o ++ ⟨#[10]⟩ = lst3 p ++ cat (inL p) (j + 1)) := hide (fun e => ((in0_eq j o (p.arg j) (lst3 p ++ cat (inL p) j) e).trans (by rw [← hin])).trans ByteArray.append_assoc)
          have HE2 : Hid (fArg o = 2 → lst3 p ++ cat (inL p) j ++ iB j ++ ⟨#[32]⟩ ++ wdB o ++ ⟨#[32]⟩ ++ nmB (p.arg j).toNat ++ ⟨#[10]⟩ = lst3 p ++ cat (inL p) (j + 1)) := hide (fun e => ((in2_eq j o (p.arg j) (lst3 p ++ cat (inL p) j) (by omega) e).trans (by rw [← hin])).trans ByteArray.append_assoc)
          have HE1 : Hid (fArg o ≠ 0 → fArg o ≠ 2 → lst3 p ++ cat (inL p) j ++ iB j ++ ⟨#[32]⟩ ++ wdB o ++ ⟨#[32]⟩ ++ iB (p.arg j) ++ ⟨#[10]⟩ = lst3 p ++ cat (inL p) (j + 1)) := hide (fun e e2 => ((in1_eq j o (p.arg j) (lst3 p ++ cat (inL p) j) e e2).trans (by rw [← hin])).trans ByteArray.append_assoc)
          have hsz := HSZ.out.2.2.2 j (by omega)
          have s1 := iB_size j (by omega) (by omega)
          have s2 := wdB_size o
          have s3 := nmB_size (p.arg j).toNat
          have s4 := iB_size (p.arg j) (by omega) (by omega)
          have HI := hide (fun w1 (h1 : Fn W ⟨ca, sa, ia, cc, sc, ic, cb, co, sb, so, ib, io⟩ p w1) => itoaC (w := w1) (j : Int) (by omega) (by omega) h1.tp)
          have HI2 := hide (fun w1 (h1 : Fn W ⟨ca, sa, ia, cc, sc, ic, cb, co, sb, so, ib, io⟩ p w1) => itoaC (w := w1) (p.arg j) (by omega) (by omega) h1.tp)
          have HWD := hide (WordC o ho1 ho2)
          have HHA := hide (HasArgC o ho1 ho2)
          have HNM : Hid (p.arg j < 8 → ∀ w1, Calls Tryd.prog 15 #[.int .i64 (p.arg j)] w1 fun e w' => e = .returned (.string (nmB (p.arg j).toNat)) ∧ w' = w1) := hide (fun h8 w1 => InputsC (p.arg j) ha0 h8 w1)
          have HF5 := hide (f5 o (by omega) ho1)
          clear ho hot hin
          subst hia
          obtain ⟨_, _, hv, hv2, hl2⟩ := HV.out wr HJ.out
          generalize lst3 p ++ cat (inL p) j = t at *
          generalize iB (j : Int) = i1 at *
          generalize iB (p.arg j) = i2 at *
          generalize nmB (p.arg j).toNat = i3 at *
          generalize wdB o = i4 at *
          generalize p.arg j = aj at *
          have n1 : ¬ 9223372036854775807 < t.size + i1.size := by omega
          have n2 : ¬ 9223372036854775807 < t.size + i1.size + 1 := by omega
          have n3 : ¬ 9223372036854775807 < t.size + i1.size + 1 + i4.size := by omega
          have n4 : ¬ 9223372036854775807 < t.size + i1.size + 1 + i4.size + 1 := by omega
          have n5 : ¬ 9223372036854775807 < t.size + i1.size + 1 + i4.size + 1 + i2.size := by omega
          have n6 : ¬ 9223372036854775807 < t.size + i1.size + 1 + i4.size + 1 + i2.size + 1 := by omega
          have n7 : ¬ 9223372036854775807 < t.size + i1.size + 1 + i4.size + 1 + i3.size := by omega
          have n8 : ¬ 9223372036854775807 < t.size + i1.size + 1 + i4.size + 1 + i3.size + 1 := by omega
          clear hsz s1 s2 s3 s4
          go_wp2_with fail
          refine (HI.out wr HJ.out).mono ?_
          rintro e w6 ⟨rfl, G6⟩
          have HJ6 := hide (HJ.out.next G6.out)
          clear HI HJ G6 y8 yl hv hv2 hl2
          go_wp2_with fail
          refine (HWD.out w6).mono ?_
          rintro e w7 ⟨rfl, hw7⟩
          subst hw7
          clear HWD
          obtain ⟨y8, yl, hv, hv2, hl2⟩ := HV.out _ HJ6.out
          by_cases e2 : fArg o = 2
          · have h5 : o = 5 := HF5.out.1 e2
            have HE := hide (HE2.out e2)
            have HNN := hide (HNM.out (ha2 e2))
            clear e2 ha2 HE0 HE1 HE2 HNM HI2 HHA HF5 ho1 ho2
            subst h5
            go_wp2_with fail
            refine (HNN.out _).mono ?_
            rintro e w8 ⟨rfl, hw8⟩
            subst hw8
            go_upto_region 27 with fail
            go_wp2
            rw [HE.out]
            go_roundw
            case rel => exact ⟨j + 1, by omega, by go_num, rfl, HJ6.out⟩
            case measure => simp [intOf]; omega
          · have h5 : ((o : Int) == 5) = false := beq_eq_false_iff_ne.2 (by have := HF5.out; omega)
            by_cases e0 : fArg o = 0
            · have HE := hide (HE0.out e0)
              rw [decide_eq_false (by omega)] at HHA
              clear e0 e2 ha2 HE0 HE1 HE2 HNM HI2 HF5
              go_wp2_with fail
              refine (HHA.out _).mono ?_
              rintro e w8 ⟨rfl, hw8⟩
              subst hw8
              go_wp2
              rw [HE.out]
              go_roundw
              case rel => exact ⟨j + 1, by omega, by go_num, rfl, HJ6.out⟩
              case measure => simp [intOf]; omega
            · have HE := hide (HE1.out e0 e2)
              rw [decide_eq_true e0] at HHA
              clear e0 e2 ha2 HE0 HE1 HE2 HNM HF5
              go_wp2_with fail
              refine (HHA.out _).mono ?_
              rintro e w8 ⟨rfl, hw8⟩
              subst hw8
              go_wp2_with fail
              refine (HI2.out _ HJ6.out).mono ?_
              rintro e w9 ⟨rfl, G9⟩
              have HJ9 := hide (HJ6.out.next G9.out)
              clear y8 yl hv hv2 hl2
              go_wp2
              rw [HE.out]
              go_roundw
              case rel => exact ⟨j + 1, by omega, by go_num, rfl, HJ9.out⟩
              case measure => simp [intOf]; omega
        · obtain rfl : j = p.n := by omega
          go_wp2
          go_meet
          case rel => exact ⟨rfl, HJ.out⟩
    case rest =>
    clear HL
    obtain ⟨hs5, hcut2⟩ := hcut
    subst hs5
    have HL := hide hcut2.out
    clear hcut2
    have z0 := block_cell HL.out.fm.res 0
    have z1 := block_cell HL.out.fm.res 1
    have f0 := block_free HL.out.fm.res 0
    have f1 := block_free HL.out.fm.res 1
    have zl := block_lt HL.out.fm.res
    simp at z0 z1
    have HD : Hid (Below W.heap.size W ((wc.setCell ⟨W.heap.size + 1, 0, none⟩ (.slice none 0 0)).setCell ⟨W.heap.size + 1, 1, none⟩ (.int .i64 0))) := (HL.out.fm.bel.setCell (p := ⟨W.heap.size + 1, 0, none⟩) (by show _ ≤ W.heap.size + 1; omega) _).setCell (p := ⟨W.heap.size + 1, 1, none⟩) (by show _ ≤ W.heap.size + 1; omega) _
    clear HL
    go_wp2
    refine bodyPost_ret (v := .tuple #[.string (lst4 p), .agg #[.slice none 0 0, .int .i64 0]]) (by simp [results, Tryd.results4, go_sem, z0, z1]) rfl ?_
    exact ⟨rfl, HD⟩
end Go.Proofs.YtfopdbnokojlmaaDoor
