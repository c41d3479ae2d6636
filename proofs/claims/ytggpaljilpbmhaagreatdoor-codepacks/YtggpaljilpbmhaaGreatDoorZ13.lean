import Derived.Test.YtggpaljilpbmhaaGreatDoorZ12
import Derived.OrdersHeld
namespace Go.Proofs.YtggpaljilpbmhaaGreatDoor
open Go.RowKit

theorem rf_end {W w3 : World} {q : Nat} (hq : w3.heap[q]? = some (.cells #[.slice none 0 0, .int .i64 0] 54 (0, 0))) (hl : W.heap.size ≤ q) (hB : Below W.heap.size W w3) {ao : Option Addr} {L : List Lk} {b off : Nat} (h : FV w3.heap.size w3 ao L b off) (cap : Nat) (y : Int) :
  FV ((w3.setCell ⟨q, 0, none⟩ (.slice ao 1 cap)).setCell ⟨q, 1, none⟩ (.int .i64 y)).heap.size ((w3.setCell ⟨q, 0, none⟩ (.slice ao 1 cap)).setCell ⟨q, 1, none⟩ (.int .i64 y)) ao L b off ∧ Below W.heap.size W ((w3.setCell ⟨q, 0, none⟩ (.slice ao 1 cap)).setCell ⟨q, 1, none⟩ (.int .i64 y)) :=
 ⟨setFv hq (fun x => by simp) (fun x => by simp) h 1 cap y, (hB.setCell (p := ⟨q, 0, none⟩) hl _).setCell (p := ⟨q, 1, none⟩) hl _⟩
/-- The world of form: the program's box, the result's. -/
structure Fm (W : World) (g : Pg) (p : Pv) (w : World) : Prop where
 prg : w.heap[W.heap.size]? = some (.cells (g.cs p).toArray 27 (0, 0))
 res : w.heap[W.heap.size + 1]? = some (.cells #[.slice none 0 0, .int .i64 0] 54 (0, 0))
 ok : g.Ok p W.heap.size w
 bel : Below W.heap.size W w
theorem Fm.next {W : World} {g : Pg} {p : Pv} {w w' : World} (h : Fm W g p w) (hb : Below w.heap.size w w') : Fm W g p w' :=
 ⟨(hb.block _ (block_lt h.prg)).trans h.prg, (hb.block _ (block_lt h.res)).trans h.res, h.ok.kept hb h.bel.size, h.bel.trans (hb.mono h.bel.size)⟩
theorem Fm.cells {W : World} {g : Pg} {p : Pv} {w : World} (h : Fm W g p w) : w.cell? ⟨W.heap.size, 0, none⟩ = some (.slice g.ca p.nc g.cc) ∧ w.cell? ⟨W.heap.size, 1, none⟩ = some (.slice g.sa p.ns g.sc) ∧ w.cell? ⟨W.heap.size, 2, none⟩ = some (.int .i64 (p.en 0)) ∧ w.cell? ⟨W.heap.size, 3, none⟩ = some (.int .i64 (p.en 1)) ∧ w.cell? ⟨W.heap.size, 4, none⟩ = some (.int .i64 (p.en 2)) ∧ w.cell? ⟨W.heap.size, 5, none⟩ = some (.int .i64 (p.en 3)) ∧ w.cell? ⟨W.heap.size, 6, none⟩ = some (.int .i64 (p.en 4)) ∧ w.cell? ⟨W.heap.size, 7, none⟩ = some (.int .i64 (p.en 5)) ∧ w.cell? ⟨W.heap.size, 8, none⟩ = some (.slice g.ia p.n g.ic) :=
 ⟨block_cell h.prg 0, block_cell h.prg 1, block_cell h.prg 2, block_cell h.prg 3, block_cell h.prg 4, block_cell h.prg 5, block_cell h.prg 6, block_cell h.prg 7, block_cell h.prg 8⟩
theorem fm_new {W W2 : World} {g : Pg} {p : Pv} (h : g.Ok p W.heap.size W) (hW : (W.alloc (.cells (g.cs p).toArray 27)).alloc (.cells #[.slice none 0 0, .int .i64 0] 54) = W2) : Fm W g p W2 := by
 have e1 : (W.alloc (.cells (g.cs p).toArray 27)).heap.size = W.heap.size + 1 := by simp
 have B2 : Below W.heap.size W W2 := by rw [← hW]; exact (below_alloc1 W _).alloc (by simp) _
 refine ⟨?_, ?_, h.kept B2 (Nat.le_refl _), B2⟩
 ·rw [← hW]
  exact ((below_alloc1 _ _).block _ (by rw [e1]; omega)).trans (alloc_atK _ _)
 ·rw [← hW, ← e1]
  exact alloc_atK _ _
def statF (p : Pv) : Option (Int × Int) := (sizeF p).or ((slotF p).or ((entF p).or (insF p)))
theorem ent_cond (s : Int) (n : Nat) : (s ≠ -1 ∧ isPl s n = false) ↔ (s < -1 ∨ (n : Int) ≤ s) := by
 simp [isPl]
 omega
set_option maxRecDepth 10000 in
set_option maxHeartbeats 12800000 in
theorem formR {W : World} {g : Pg} {p : Pv} (h : g.Ok p W.heap.size W) : Calls Tryz.prog 126 #[.agg (g.cs p).toArray] W (RfP W (statF p)) := by
 obtain ⟨W2, hW2⟩ : ∃ W2, (W.alloc (.cells (g.cs p).toArray 27)).alloc (.cells #[.slice none 0 0, .int .i64 0] 54) = W2 := ⟨_, rfl⟩
 have HS := hide (fm_new h hW2)
 have HW2 := hide hW2
 have hlc := h.lc
 have hls := h.ls
 have hli := h.li
 have HAN : Hid (∀ w j, Fm W g p w → isO (p.op j) = true → Calls Tryz.prog 164 #[.agg (g.cs p).toArray, .agg #[.int .i64 (p.op j), .int .i64 (p.arg j)]] w fun e w' => e = .returned (.bool (!argF p (p.op j).toNat (p.arg j))) ∧ Hid (Fm W g p w')) := fun w j hw ho => by
  have e := isO_nat ho
  have := argNoR (W := w) (g := g) (p := p) hlc hls hli (p.op j).toNat e.2.1 e.2.2 (p.arg j)
  rw [← e.1] at this
  exact this.mono (fun _ _ g => ⟨g.1, hw.next g.2.out⟩)
 obtain ⟨r, hr⟩ : ∃ r, statF p = r := ⟨_, rfl⟩
 rw [hr]
 have HR := hide hr
 have HCS : Hid (g.cs p = [.slice g.ca p.nc g.cc, .slice g.sa p.ns g.sc, .int .i64 (p.en 0), .int .i64 (p.en 1), .int .i64 (p.en 2), .int .i64 (p.en 3), .int .i64 (p.en 4), .int .i64 (p.en 5), .slice g.ia p.n g.ic]) := rfl
 rw [HCS.out] at HW2 HAN ⊢
 clear h hW2 hr
 obtain ⟨y0, y1, y2, y3, y4, y5, y6, y7, y8⟩ := HS.out.cells
 have yl := block_lt HS.out.prg
 go_enter Tryz.func126, Tryz.ntmps126
 go_upto_region 1 with fail
 rw [HW2.out]
 clear HW2
 clear y2 y3 y4 y5 y6 y7
 by_cases h1 : 256 < p.nc
 ·have hr : r = some (0, 80) := by rw [← HR.out]; unfold statF sizeF; rw [if_pos h1]; rfl
  subst hr
  go_wp2_with fail
  refine (refuseR _ _ _).mono ?_
  rintro e w3 ⟨ao, cap, rfl, G⟩
  obtain ⟨b, off, hf, hb⟩ := G.out
  have S3 := HS.out.next hb
  have z0 := block_cell S3.res 0
  have z1 := block_cell S3.res 1
  have f0 := block_free S3.res 0
  have f1 := block_free S3.res 1
  have zl := block_lt S3.res
  simp at z0 z1
  have HD := hide (rf_end S3.res (by simp) S3.bel hf cap 80)
  clear hf hb S3 G
  go_wp2
  refine bodyPost_ret (v := .agg #[.slice ao 1 cap, .int .i64 80]) (by simp [results, Tryz.results126, go_sem, z0, z1]) rfl ?_
  exact ⟨ao, cap, rfl, b, off, HD.out⟩
 by_cases h2 : 128 < p.ns
 ·have hr : r = some (1, 80) := by rw [← HR.out]; unfold statF sizeF; rw [if_neg h1, if_pos h2]; rfl
  subst hr
  go_wp2_with fail
  refine (refuseR _ _ _).mono ?_
  rintro e w3 ⟨ao, cap, rfl, G⟩
  obtain ⟨b, off, hf, hb⟩ := G.out
  have S3 := HS.out.next hb
  have z0 := block_cell S3.res 0
  have z1 := block_cell S3.res 1
  have f0 := block_free S3.res 0
  have f1 := block_free S3.res 1
  have zl := block_lt S3.res
  simp at z0 z1
  have HD := hide (rf_end S3.res (by simp) S3.bel hf cap 80)
  clear hf hb S3 G
  go_wp2
  refine bodyPost_ret (v := .agg #[.slice ao 1 cap, .int .i64 80]) (by simp [results, Tryz.results126, go_sem, z0, z1]) rfl ?_
  exact ⟨ao, cap, rfl, b, off, HD.out⟩
 by_cases h3 : 1024 < p.n
 ·have hr : r = some (2, 80) := by rw [← HR.out]; unfold statF sizeF; rw [if_neg h1, if_neg h2, if_pos h3]; rfl
  subst hr
  go_wp2_with fail
  refine (refuseR _ _ _).mono ?_
  rintro e w3 ⟨ao, cap, rfl, G⟩
  obtain ⟨b, off, hf, hb⟩ := G.out
  have S3 := HS.out.next hb
  have z0 := block_cell S3.res 0
  have z1 := block_cell S3.res 1
  have f0 := block_free S3.res 0
  have f1 := block_free S3.res 1
  have zl := block_lt S3.res
  simp at z0 z1
  have HD := hide (rf_end S3.res (by simp) S3.bel hf cap 80)
  clear hf hb S3 G
  go_wp2
  refine bodyPost_ret (v := .agg #[.slice ao 1 cap, .int .i64 80]) (by simp [results, Tryz.results126, go_sem, z0, z1]) rfl ?_
  exact ⟨ao, cap, rfl, b, off, HD.out⟩
 have HR1 : Hid ((slotF p).or ((entF p).or (insF p)) = r) := by
  show _ = _
  rw [← HR.out]; unfold statF sizeF; rw [if_neg h1, if_neg h2, if_neg h3]; rfl
 clear HR
 go_upto_region 7 with fail
 go_wp2
 clear y0 y1 y8 yl
 go_loopw [3] (fun i wr => ∃ j : Nat, j ≤ p.ns ∧ i = .int .i64 (j : Nat) ∧ Hid (firstBad (slotB p) j = none ∧ Fm W g p wr)) (fun i _ => p.ns - (intOf i).toNat)
 case atStart => exact ⟨0, by omega, rfl, rfl, HS.out⟩
 case round =>
  obtain ⟨j, hj, rfl, HJ⟩ := hrel
  have HS := hide HJ.out.2
  obtain ⟨_, y1, _, _, _, _, _, _, _⟩ := HS.out.cells
  have yl := block_lt HS.out.prg
  by_cases hlt : j < p.ns
  ·have hv := HS.out.ok.vs j hlt
   obtain ⟨hsa, hsb⟩ := HS.out.ok.hs (by omega)
   have hbl : g.sb < wr.heap.size := Nat.lt_of_lt_of_le hsb HS.out.bel.size
   have HHit : Hid (∀ x y, slotB p j = some (x, y) → r = some (x, y)) := fun x y hb => by
    rw [← HR1.out, show slotF p = some (x, y) from firstBad_hit hlt HJ.out.1 hb]; rfl
   have HNx : Hid (slotB p j = none → firstBad (slotB p) (j + 1) = none) := fun hb => firstBad_next HJ.out.1 hb
   unfold slotB at HHit HNx
   rw [hsa] at y1
   clear hsa HJ
   generalize p.S j = s at *
   by_cases h0 : s = 0
   ·subst h0
    go_wp2
    go_roundw
    case rel => exact ⟨j + 1, by omega, by go_num, HNx.out (by simp), HS.out⟩
    case measure => simp [intOf]; omega
   ·by_cases h1 : s = 1
    ·subst h1
     go_wp2
     go_roundw
     case rel => exact ⟨j + 1, by omega, by go_num, HNx.out (by simp), HS.out⟩
     case measure => simp [intOf]; omega
    ·have hr := HHit.out j 81 (by rw [if_pos ⟨h0, h1⟩])
     have e0 : (s != 0) = true := by simpa using h0
     have e1 : (s != 1) = true := by simpa using h1
     subst hr
     go_wp2_with fail
     refine (refuseR _ _ _).mono ?_
     rintro e w3 ⟨ao, cap, rfl, G⟩
     obtain ⟨b, off, hf, hb⟩ := G.out
     have S3 := HS.out.next hb
     have z0 := block_cell S3.res 0
     have z1 := block_cell S3.res 1
     have f0 := block_free S3.res 0
     have f1 := block_free S3.res 1
     have zl := block_lt S3.res
     simp at z0 z1
     have HD := hide (rf_end S3.res (by simp) S3.bel hf cap 81)
     clear hf hb S3 G
     go_wp2
     refine bodyPost_ret (v := .agg #[.slice ao 1 cap, .int .i64 81]) (by simp [results, Tryz.results126, go_sem, z0, z1]) rfl ?_
     exact ⟨ao, cap, rfl, b, off, HD.out⟩
  ·obtain rfl : j = p.ns := by omega
   have HR2 : Hid ((entF p).or (insF p) = r) := by
    show _ = _
    rw [← HR1.out, show slotF p = none from HJ.out.1]; rfl
   clear HJ HR1
   go_wp2
   clear y1 yl
   go_loopw [4] (fun i wr => ∃ j : Nat, j ≤ 6 ∧ i = .int .i64 (j : Nat) ∧ Hid (firstBad (entB p) j = none ∧ Fm W g p wr)) (fun i _ => 6 - (intOf i).toNat)
   case atStart => exact ⟨0, by omega, rfl, rfl, HS.out⟩
   case round =>
    obtain ⟨j, hj, rfl, HJ⟩ := hrel
    have HS := hide HJ.out.2
    have HSd : Hid (Fm W g p wr.drew) := HS.out.next (Below.refl _ _).drew
    obtain ⟨_, _, y2, y3, y4, y5, y6, y7, y8⟩ := HS.out.cells
    have yl := block_lt HS.out.prg
    by_cases hlt : j < 6
    ·have HHit : Hid (∀ x y, entB p j = some (x, y) → r = some (x, y)) := fun x y hb => by
      rw [← HR2.out, show entF p = some (x, y) from firstBad_hit hlt HJ.out.1 hb]; rfl
     have HNx : Hid (entB p j = none → firstBad (entB p) (j + 1) = none) := fun hb => firstBad_next HJ.out.1 hb
     unfold entB at HHit HNx
     clear HJ HR2
     have h6 : j = 0 ∨ j = 1 ∨ j = 2 ∨ j = 3 ∨ j = 4 ∨ j = 5 := by omega
     rcases h6 with rfl | rfl | rfl | rfl | rfl | rfl
     ·have hc := ent_cond (p.en 0) p.n
      generalize p.en 0 = s at *
      by_cases l1 : s < -1
      ·have d1 : decide (s < -1) = true := decide_eq_true l1
       have hr := HHit.out _ _ (if_pos (hc.2 (.inl l1)))
       subst hr
       clear l1 hc
       go_upto_region 15 with fail
       go_region
       go_wp2_with fail
       refine (refuseR _ _ _).mono ?_
       rintro e w3 ⟨ao, cap, rfl, G⟩
       obtain ⟨b, off, hf, hb⟩ := G.out
       have S3 := HSd.out.next hb
       have z0 := block_cell S3.res 0
       have z1 := block_cell S3.res 1
       have f0 := block_free S3.res 0
       have f1 := block_free S3.res 1
       have zl := block_lt S3.res
       simp at z0 z1
       have HD := hide (rf_end S3.res (by simp) S3.bel hf cap 82)
       clear hf hb S3 G
       go_wp2
       refine bodyPost_ret (v := .agg #[.slice ao 1 cap, .int .i64 82]) (by simp [results, Tryz.results126, go_sem, z0, z1]) rfl ?_
       exact ⟨ao, cap, rfl, b, off, HD.out⟩
      ·have d1 : decide (s < -1) = false := decide_eq_false l1
       by_cases l2 : (p.n : Int) ≤ s
       ·have d2 : decide ((p.n : Int) ≤ s) = true := decide_eq_true l2
        have hr := HHit.out _ _ (if_pos (hc.2 (.inr l2)))
        subst hr
        clear l1 l2 hc
        go_upto_region 15 with fail
        go_region
        go_wp2_with fail
        refine (refuseR _ _ _).mono ?_
        rintro e w3 ⟨ao, cap, rfl, G⟩
        obtain ⟨b, off, hf, hb⟩ := G.out
        have S3 := HSd.out.next hb
        have z0 := block_cell S3.res 0
        have z1 := block_cell S3.res 1
        have f0 := block_free S3.res 0
        have f1 := block_free S3.res 1
        have zl := block_lt S3.res
        simp at z0 z1
        have HD := hide (rf_end S3.res (by simp) S3.bel hf cap 82)
        clear hf hb S3 G
        go_wp2
        refine bodyPost_ret (v := .agg #[.slice ao 1 cap, .int .i64 82]) (by simp [results, Tryz.results126, go_sem, z0, z1]) rfl ?_
        exact ⟨ao, cap, rfl, b, off, HD.out⟩
       ·have d2 : decide ((p.n : Int) ≤ s) = false := decide_eq_false l2
        have HN2 := hide (HNx.out (if_neg (fun h => (hc.1 h).elim l1 l2)))
        clear l1 l2 hc
        go_upto_region 15 with fail
        go_region
        go_wp2
        go_roundw
        case rel => exact ⟨1, by omega, by go_num, HN2.out, HSd.out⟩
        case measure => simp [intOf]
     ·have hc := ent_cond (p.en 1) p.n
      generalize p.en 1 = s at *
      by_cases l1 : s < -1
      ·have d1 : decide (s < -1) = true := decide_eq_true l1
       have hr := HHit.out _ _ (if_pos (hc.2 (.inl l1)))
       subst hr
       clear l1 hc
       go_upto_region 15 with fail
       go_region
       go_wp2_with fail
       refine (refuseR _ _ _).mono ?_
       rintro e w3 ⟨ao, cap, rfl, G⟩
       obtain ⟨b, off, hf, hb⟩ := G.out
       have S3 := HSd.out.next hb
       have z0 := block_cell S3.res 0
       have z1 := block_cell S3.res 1
       have f0 := block_free S3.res 0
       have f1 := block_free S3.res 1
       have zl := block_lt S3.res
       simp at z0 z1
       have HD := hide (rf_end S3.res (by simp) S3.bel hf cap 82)
       clear hf hb S3 G
       go_wp2
       refine bodyPost_ret (v := .agg #[.slice ao 1 cap, .int .i64 82]) (by simp [results, Tryz.results126, go_sem, z0, z1]) rfl ?_
       exact ⟨ao, cap, rfl, b, off, HD.out⟩
      ·have d1 : decide (s < -1) = false := decide_eq_false l1
       by_cases l2 : (p.n : Int) ≤ s
       ·have d2 : decide ((p.n : Int) ≤ s) = true := decide_eq_true l2
        have hr := HHit.out _ _ (if_pos (hc.2 (.inr l2)))
        subst hr
        clear l1 l2 hc
        go_upto_region 15 with fail
        go_region
        go_wp2_with fail
        refine (refuseR _ _ _).mono ?_
        rintro e w3 ⟨ao, cap, rfl, G⟩
        obtain ⟨b, off, hf, hb⟩ := G.out
        have S3 := HSd.out.next hb
        have z0 := block_cell S3.res 0
        have z1 := block_cell S3.res 1
        have f0 := block_free S3.res 0
        have f1 := block_free S3.res 1
        have zl := block_lt S3.res
        simp at z0 z1
        have HD := hide (rf_end S3.res (by simp) S3.bel hf cap 82)
        clear hf hb S3 G
        go_wp2
        refine bodyPost_ret (v := .agg #[.slice ao 1 cap, .int .i64 82]) (by simp [results, Tryz.results126, go_sem, z0, z1]) rfl ?_
        exact ⟨ao, cap, rfl, b, off, HD.out⟩
       ·have d2 : decide ((p.n : Int) ≤ s) = false := decide_eq_false l2
        have HN2 := hide (HNx.out (if_neg (fun h => (hc.1 h).elim l1 l2)))
        clear l1 l2 hc
        go_upto_region 15 with fail
        go_region
        go_wp2
        go_roundw
        case rel => exact ⟨2, by omega, by go_num, HN2.out, HSd.out⟩
        case measure => simp [intOf]
     ·have hc := ent_cond (p.en 2) p.n
      generalize p.en 2 = s at *
      by_cases l1 : s < -1
      ·have d1 : decide (s < -1) = true := decide_eq_true l1
       have hr := HHit.out _ _ (if_pos (hc.2 (.inl l1)))
       subst hr
       clear l1 hc
       go_upto_region 15 with fail
       go_region
       go_wp2_with fail
       refine (refuseR _ _ _).mono ?_
       rintro e w3 ⟨ao, cap, rfl, G⟩
       obtain ⟨b, off, hf, hb⟩ := G.out
       have S3 := HSd.out.next hb
       have z0 := block_cell S3.res 0
       have z1 := block_cell S3.res 1
       have f0 := block_free S3.res 0
       have f1 := block_free S3.res 1
       have zl := block_lt S3.res
       simp at z0 z1
       have HD := hide (rf_end S3.res (by simp) S3.bel hf cap 82)
       clear hf hb S3 G
       go_wp2
       refine bodyPost_ret (v := .agg #[.slice ao 1 cap, .int .i64 82]) (by simp [results, Tryz.results126, go_sem, z0, z1]) rfl ?_
       exact ⟨ao, cap, rfl, b, off, HD.out⟩
      ·have d1 : decide (s < -1) = false := decide_eq_false l1
       by_cases l2 : (p.n : Int) ≤ s
       ·have d2 : decide ((p.n : Int) ≤ s) = true := decide_eq_true l2
        have hr := HHit.out _ _ (if_pos (hc.2 (.inr l2)))
        subst hr
        clear l1 l2 hc
        go_upto_region 15 with fail
        go_region
        go_wp2_with fail
        refine (refuseR _ _ _).mono ?_
        rintro e w3 ⟨ao, cap, rfl, G⟩
        obtain ⟨b, off, hf, hb⟩ := G.out
        have S3 := HSd.out.next hb
        have z0 := block_cell S3.res 0
        have z1 := block_cell S3.res 1
        have f0 := block_free S3.res 0
        have f1 := block_free S3.res 1
        have zl := block_lt S3.res
        simp at z0 z1
        have HD := hide (rf_end S3.res (by simp) S3.bel hf cap 82)
        clear hf hb S3 G
        go_wp2
        refine bodyPost_ret (v := .agg #[.slice ao 1 cap, .int .i64 82]) (by simp [results, Tryz.results126, go_sem, z0, z1]) rfl ?_
        exact ⟨ao, cap, rfl, b, off, HD.out⟩
       ·have d2 : decide ((p.n : Int) ≤ s) = false := decide_eq_false l2
        have HN2 := hide (HNx.out (if_neg (fun h => (hc.1 h).elim l1 l2)))
        clear l1 l2 hc
        go_upto_region 15 with fail
        go_region
        go_wp2
        go_roundw
        case rel => exact ⟨3, by omega, by go_num, HN2.out, HSd.out⟩
        case measure => simp [intOf]
     ·have hc := ent_cond (p.en 3) p.n
      generalize p.en 3 = s at *
      by_cases l1 : s < -1
      ·have d1 : decide (s < -1) = true := decide_eq_true l1
       have hr := HHit.out _ _ (if_pos (hc.2 (.inl l1)))
       subst hr
       clear l1 hc
       go_upto_region 15 with fail
       go_region
       go_wp2_with fail
       refine (refuseR _ _ _).mono ?_
       rintro e w3 ⟨ao, cap, rfl, G⟩
       obtain ⟨b, off, hf, hb⟩ := G.out
       have S3 := HSd.out.next hb
       have z0 := block_cell S3.res 0
       have z1 := block_cell S3.res 1
       have f0 := block_free S3.res 0
       have f1 := block_free S3.res 1
       have zl := block_lt S3.res
       simp at z0 z1
       have HD := hide (rf_end S3.res (by simp) S3.bel hf cap 82)
       clear hf hb S3 G
       go_wp2
       refine bodyPost_ret (v := .agg #[.slice ao 1 cap, .int .i64 82]) (by simp [results, Tryz.results126, go_sem, z0, z1]) rfl ?_
       exact ⟨ao, cap, rfl, b, off, HD.out⟩
      ·have d1 : decide (s < -1) = false := decide_eq_false l1
       by_cases l2 : (p.n : Int) ≤ s
       ·have d2 : decide ((p.n : Int) ≤ s) = true := decide_eq_true l2
        have hr := HHit.out _ _ (if_pos (hc.2 (.inr l2)))
        subst hr
        clear l1 l2 hc
        go_upto_region 15 with fail
        go_region
        go_wp2_with fail
        refine (refuseR _ _ _).mono ?_
        rintro e w3 ⟨ao, cap, rfl, G⟩
        obtain ⟨b, off, hf, hb⟩ := G.out
        have S3 := HSd.out.next hb
        have z0 := block_cell S3.res 0
        have z1 := block_cell S3.res 1
        have f0 := block_free S3.res 0
        have f1 := block_free S3.res 1
        have zl := block_lt S3.res
        simp at z0 z1
        have HD := hide (rf_end S3.res (by simp) S3.bel hf cap 82)
        clear hf hb S3 G
        go_wp2
        refine bodyPost_ret (v := .agg #[.slice ao 1 cap, .int .i64 82]) (by simp [results, Tryz.results126, go_sem, z0, z1]) rfl ?_
        exact ⟨ao, cap, rfl, b, off, HD.out⟩
       ·have d2 : decide ((p.n : Int) ≤ s) = false := decide_eq_false l2
        have HN2 := hide (HNx.out (if_neg (fun h => (hc.1 h).elim l1 l2)))
        clear l1 l2 hc
        go_upto_region 15 with fail
        go_region
        go_wp2
        go_roundw
        case rel => exact ⟨4, by omega, by go_num, HN2.out, HSd.out⟩
        case measure => simp [intOf]
     ·have hc := ent_cond (p.en 4) p.n
      generalize p.en 4 = s at *
      by_cases l1 : s < -1
      ·have d1 : decide (s < -1) = true := decide_eq_true l1
       have hr := HHit.out _ _ (if_pos (hc.2 (.inl l1)))
       subst hr
       clear l1 hc
       go_upto_region 15 with fail
       go_region
       go_wp2_with fail
       refine (refuseR _ _ _).mono ?_
       rintro e w3 ⟨ao, cap, rfl, G⟩
       obtain ⟨b, off, hf, hb⟩ := G.out
       have S3 := HSd.out.next hb
       have z0 := block_cell S3.res 0
       have z1 := block_cell S3.res 1
       have f0 := block_free S3.res 0
       have f1 := block_free S3.res 1
       have zl := block_lt S3.res
       simp at z0 z1
       have HD := hide (rf_end S3.res (by simp) S3.bel hf cap 82)
       clear hf hb S3 G
       go_wp2
       refine bodyPost_ret (v := .agg #[.slice ao 1 cap, .int .i64 82]) (by simp [results, Tryz.results126, go_sem, z0, z1]) rfl ?_
       exact ⟨ao, cap, rfl, b, off, HD.out⟩
      ·have d1 : decide (s < -1) = false := decide_eq_false l1
       by_cases l2 : (p.n : Int) ≤ s
       ·have d2 : decide ((p.n : Int) ≤ s) = true := decide_eq_true l2
        have hr := HHit.out _ _ (if_pos (hc.2 (.inr l2)))
        subst hr
        clear l1 l2 hc
        go_upto_region 15 with fail
        go_region
        go_wp2_with fail
        refine (refuseR _ _ _).mono ?_
        rintro e w3 ⟨ao, cap, rfl, G⟩
        obtain ⟨b, off, hf, hb⟩ := G.out
        have S3 := HSd.out.next hb
        have z0 := block_cell S3.res 0
        have z1 := block_cell S3.res 1
        have f0 := block_free S3.res 0
        have f1 := block_free S3.res 1
        have zl := block_lt S3.res
        simp at z0 z1
        have HD := hide (rf_end S3.res (by simp) S3.bel hf cap 82)
        clear hf hb S3 G
        go_wp2
        refine bodyPost_ret (v := .agg #[.slice ao 1 cap, .int .i64 82]) (by simp [results, Tryz.results126, go_sem, z0, z1]) rfl ?_
        exact ⟨ao, cap, rfl, b, off, HD.out⟩
       ·have d2 : decide ((p.n : Int) ≤ s) = false := decide_eq_false l2
        have HN2 := hide (HNx.out (if_neg (fun h => (hc.1 h).elim l1 l2)))
        clear l1 l2 hc
        go_upto_region 15 with fail
        go_region
        go_wp2
        go_roundw
        case rel => exact ⟨5, by omega, by go_num, HN2.out, HSd.out⟩
        case measure => simp [intOf]
     ·have hc := ent_cond (p.en 5) p.n
      generalize p.en 5 = s at *
      by_cases l1 : s < -1
      ·have d1 : decide (s < -1) = true := decide_eq_true l1
       have hr := HHit.out _ _ (if_pos (hc.2 (.inl l1)))
       subst hr
       clear l1 hc
       go_upto_region 15 with fail
       go_region
       go_wp2_with fail
       refine (refuseR _ _ _).mono ?_
       rintro e w3 ⟨ao, cap, rfl, G⟩
       obtain ⟨b, off, hf, hb⟩ := G.out
       have S3 := HSd.out.next hb
       have z0 := block_cell S3.res 0
       have z1 := block_cell S3.res 1
       have f0 := block_free S3.res 0
       have f1 := block_free S3.res 1
       have zl := block_lt S3.res
       simp at z0 z1
       have HD := hide (rf_end S3.res (by simp) S3.bel hf cap 82)
       clear hf hb S3 G
       go_wp2
       refine bodyPost_ret (v := .agg #[.slice ao 1 cap, .int .i64 82]) (by simp [results, Tryz.results126, go_sem, z0, z1]) rfl ?_
       exact ⟨ao, cap, rfl, b, off, HD.out⟩
      ·have d1 : decide (s < -1) = false := decide_eq_false l1
       by_cases l2 : (p.n : Int) ≤ s
       ·have d2 : decide ((p.n : Int) ≤ s) = true := decide_eq_true l2
        have hr := HHit.out _ _ (if_pos (hc.2 (.inr l2)))
        subst hr
        clear l1 l2 hc
        go_upto_region 15 with fail
        go_region
        go_wp2_with fail
        refine (refuseR _ _ _).mono ?_
        rintro e w3 ⟨ao, cap, rfl, G⟩
        obtain ⟨b, off, hf, hb⟩ := G.out
        have S3 := HSd.out.next hb
        have z0 := block_cell S3.res 0
        have z1 := block_cell S3.res 1
        have f0 := block_free S3.res 0
        have f1 := block_free S3.res 1
        have zl := block_lt S3.res
        simp at z0 z1
        have HD := hide (rf_end S3.res (by simp) S3.bel hf cap 82)
        clear hf hb S3 G
        go_wp2
        refine bodyPost_ret (v := .agg #[.slice ao 1 cap, .int .i64 82]) (by simp [results, Tryz.results126, go_sem, z0, z1]) rfl ?_
        exact ⟨ao, cap, rfl, b, off, HD.out⟩
       ·have d2 : decide ((p.n : Int) ≤ s) = false := decide_eq_false l2
        have HN2 := hide (HNx.out (if_neg (fun h => (hc.1 h).elim l1 l2)))
        clear l1 l2 hc
        go_upto_region 15 with fail
        go_region
        go_wp2
        go_roundw
        case rel => exact ⟨6, by omega, by go_num, HN2.out, HSd.out⟩
        case measure => simp [intOf]
    ·obtain rfl : j = 6 := by omega
     have HR3 : Hid (insF p = r) := by
      show _ = _
      rw [← HR2.out, show entF p = none from HJ.out.1]; rfl
     clear HJ HR2 HSd
     go_wp2
     clear y2 y3 y4 y5 y6 y7 y8 yl
     go_loopw [5] (fun i wr => ∃ j : Nat, j ≤ p.n ∧ i = .int .i64 (j : Nat) ∧ Hid (firstBad (insB p) j = none ∧ Fm W g p wr)) (fun i _ => p.n - (intOf i).toNat)
     case atStart => exact ⟨0, by omega, rfl, rfl, HS.out⟩
     case round =>
      obtain ⟨j, hj, rfl, HJ⟩ := hrel
      have HS := hide HJ.out.2
      obtain ⟨_, _, _, _, _, _, _, _, y8⟩ := HS.out.cells
      have yl := block_lt HS.out.prg
      by_cases hlt : j < p.n
      ·have vo := HS.out.ok.vo j hlt
       obtain ⟨hia, hib⟩ := HS.out.ok.hi (by omega)
       have hbl : g.ib < wr.heap.size := Nat.lt_of_lt_of_le hib HS.out.bel.size
       have HHit : Hid (∀ x y, insB p j = some (x, y) → r = some (x, y)) := fun x y hb => HR3.out.symm.trans (firstBad_hit hlt HJ.out.1 hb)
       have HNx : Hid (insB p j = none → firstBad (insB p) (j + 1) = none) := fun hb => firstBad_next HJ.out.1 hb
       unfold insB at HHit HNx
       have HIA := hide hia
       rw [hia] at y8
       clear hia HJ
       cases hio : isO (p.op j)
       ·have hr := HHit.out _ _ (if_pos hio)
        subst hr
        clear HHit HNx
        generalize p.op j = oo at *
        by_cases l1 : oo < 1
        ·have d1 : decide (oo < 1) = true := decide_eq_true l1
         clear hio l1
         go_wp2_with fail
         refine (refuseR _ _ _).mono ?_
         rintro e w3 ⟨ao, cap, rfl, G⟩
         obtain ⟨b, off, hf, hb⟩ := G.out
         have S3 := HS.out.next hb
         have z0 := block_cell S3.res 0
         have z1 := block_cell S3.res 1
         have f0 := block_free S3.res 0
         have f1 := block_free S3.res 1
         have zl := block_lt S3.res
         simp at z0 z1
         have HD := hide (rf_end S3.res (by simp) S3.bel hf cap 83)
         clear hf hb S3 G
         go_wp2
         refine bodyPost_ret (v := .agg #[.slice ao 1 cap, .int .i64 83]) (by simp [results, Tryz.results126, go_sem, z0, z1]) rfl ?_
         exact ⟨ao, cap, rfl, b, off, HD.out⟩
        ·have d1 : decide (oo < 1) = false := decide_eq_false l1
         have l2 : decide (32 < oo) = true := decide_eq_true (by simp [isO] at hio; omega)
         clear hio l1
         go_wp2_with fail
         refine (refuseR _ _ _).mono ?_
         rintro e w3 ⟨ao, cap, rfl, G⟩
         obtain ⟨b, off, hf, hb⟩ := G.out
         have S3 := HS.out.next hb
         have z0 := block_cell S3.res 0
         have z1 := block_cell S3.res 1
         have f0 := block_free S3.res 0
         have f1 := block_free S3.res 1
         have zl := block_lt S3.res
         simp at z0 z1
         have HD := hide (rf_end S3.res (by simp) S3.bel hf cap 83)
         clear hf hb S3 G
         go_wp2
         refine bodyPost_ret (v := .agg #[.slice ao 1 cap, .int .i64 83]) (by simp [results, Tryz.results126, go_sem, z0, z1]) rfl ?_
         exact ⟨ao, cap, rfl, b, off, HD.out⟩
       ·have d1 : decide (p.op j < 1) = false := decide_eq_false (by simp [isO] at hio; omega)
        have d2 : decide (32 < p.op j) = false := decide_eq_false (by simp [isO] at hio; omega)
        have HIO := hide hio
        have HA : Hid (insB p j = none ↔ argF p (p.op j).toNat (p.arg j) = true) := by
         show _ ↔ _
         unfold insB
         rw [if_neg (by rw [hio]; simp)]
         cases argF p (p.op j).toNat (p.arg j) <;> simp
        have HB : Hid (argF p (p.op j).toNat (p.arg j) = false → insB p j = some ((j : Int), 84)) := fun hb => by
         unfold insB
         rw [if_neg (by rw [hio]; simp), if_pos hb]
        change Hid (insB p j = none → _) at HNx
        change Hid (∀ x y, insB p j = some (x, y) → _) at HHit
        clear hio
        go_upto_region 22 with fail
        clear d1 d2 y8
        refine wp_region_held_drew (S := fun w => Fm W g p w) (by kernel_rfl) (HS.out.next (Below.refl _ _).drew) (fun hH => ?_)
        refine wpAnyH_take (i := 0) (oi := ⟨some 90, .load 27 (.tmp 1), 27, "verify.go:105", #[], none⟩) (v := .agg #[.slice g.ca p.nc g.cc, .slice g.sa p.ns g.sc, .int .i64 (p.en 0), .int .i64 (p.en 1), .int .i64 (p.en 2), .int .i64 (p.en 3), .int .i64 (p.en 4), .int .i64 (p.en 5), .slice g.ia p.n g.ic]) rfl (by kernel_rfl) (by kernel_rfl) (by kernel_rfl) (fun _ _ _ h => h) (Or.inl ⟨by rfl, fun w' hSw => ?_⟩) hH ?_
        ·obtain ⟨y0, y1, y2, y3, y4, y5, y6, y7, y8⟩ := hSw.cells
         go_simp
        simp only [Act.put, lsA, lsB, lsC]
        refine wpAnyH_take (i := 1) (oi := ⟨some 91, .fieldAddr 27 (.tmp 1) 3, 0, "verify.go:105", #[], none⟩) (v := .pointer (some ⟨W.heap.size, 8, none⟩)) rfl (by kernel_rfl) (by kernel_rfl) (by kernel_rfl) (fun _ _ _ h => h) (Or.inl ⟨by rfl, fun w' hSw => ?_⟩) hH ?_
        ·go_simp
        simp only [Act.put, lsA, lsB, lsC]
        refine wpAnyH_take (i := 2) (oi := ⟨some 92, .load 25 (.tmp 91), 25, "verify.go:105", #[⟨1, .data⟩], none⟩) (v := .slice g.ia p.n g.ic) rfl (by kernel_rfl) (by kernel_rfl) (by kernel_rfl) (fun _ _ _ h => h) (Or.inl ⟨by rfl, fun w' hSw => ?_⟩) hH ?_
        ·obtain ⟨y0, y1, y2, y3, y4, y5, y6, y7, y8⟩ := hSw.cells
         go_simp
        simp only [Act.put, lsA, lsB, lsC]
        refine wpAnyH_take (i := 3) (oi := ⟨some 93, .move (.tmp 5), 3, "verify.go:105", #[], none⟩) (v := .int .i64 (j : Nat)) rfl (by kernel_rfl) (by kernel_rfl) (by kernel_rfl) (fun _ _ _ h => h) (Or.inl ⟨by rfl, fun w' hSw => ?_⟩) hH ?_
        ·go_simp
        simp only [Act.put, lsA, lsB, lsC]
        refine wpAnyH_take (i := 4) (oi := ⟨some 94, .indexAddr 25 (.tmp 92) (.tmp 93), 0, "verify.go:105", #[⟨2, .data⟩, ⟨3, .data⟩], none⟩) (v := .pointer (some ⟨g.ib, g.io + j * 2, none⟩)) rfl (by kernel_rfl) (by kernel_rfl) (by kernel_rfl) (fun _ _ _ h => h) (Or.inl ⟨by rfl, fun w' hSw => ?_⟩) hH ?_
        ·rw [HIA.out]
         go_simp
        simp only [Act.put, lsA, lsB, lsC]
        refine wpAnyH_take (i := 5) (oi := ⟨some 95, .load 42 (.tmp 94), 42, "verify.go:105", #[⟨4, .data⟩], none⟩) (v := .agg #[.int .i64 (p.op j), .int .i64 (p.arg j)]) rfl (by kernel_rfl) (by kernel_rfl) (by kernel_rfl) (fun _ _ _ h => h) (Or.inl ⟨by rfl, fun w' hSw => ?_⟩) hH ?_
        ·have vo := hSw.ok.vo j hlt
         have va := hSw.ok.va j hlt
         go_simp
        simp only [Act.put, lsA, lsB, lsC]
        refine wpAnyH_ready (rs := [6]) (by kernel_rfl) (by simp) ?_
        refine AllReadyH.cons rfl (fun K hK => ?_) AllReadyH.nil
        go_simp
        go_wp2_with fail
        refine (HAN.out _ j hH HIO.out).mono ?_
        rintro e w5 ⟨rfl, G5⟩
        go_wp2_with fail
        refine hK.out _ _ G5.out (fun hG5 => ?_)
        clear hK K
        refine wpAnyH_done (by kernel_rfl) ?_ _
        generalize argF p (p.op j).toNat (p.arg j) = af at HA HB ⊢
        cases af
        ·have hr := HHit.out _ _ (HB.out rfl)
         subst hr
         clear HHit HNx HA HB
         go_wp2_with fail
         refine (refuseR _ _ _).mono ?_
         rintro e w3 ⟨ao, cap, rfl, G⟩
         obtain ⟨b, off, hf, hb⟩ := G.out
         have S3 := G5.out.next hb
         have z0 := block_cell S3.res 0
         have z1 := block_cell S3.res 1
         have f0 := block_free S3.res 0
         have f1 := block_free S3.res 1
         have zl := block_lt S3.res
         simp at z0 z1
         have HD := hide (rf_end S3.res (by simp) S3.bel hf cap 84)
         clear hf hb S3 G
         go_wp2
         refine bodyPost_ret (v := .agg #[.slice ao 1 cap, .int .i64 84]) (by simp [results, Tryz.results126, go_sem, z0, z1]) rfl ?_
         exact ⟨ao, cap, rfl, b, off, HD.out⟩
        ·have HN2 := hide (HNx.out (HA.out.2 rfl))
         clear HHit HNx HA HB
         simp only [Bool.not_true]
         go_wp2
         go_roundw
         case rel =>
          exact ⟨_, _, _, _, _, _, _, _, _, _, _, _, _, _, _, _, _, _, _, _, _, _, _, _, _, _, _, _, _, _, _, _, _, _, _, ⟨j + 1, by omega, by go_num, HN2.out, G5.out⟩, rfl⟩
         case measure => simp [intOf]; omega
      ·obtain rfl : j = p.n := by omega
       have hr : r = none := HR3.out.symm.trans HJ.out.1
       subst hr
       have z0 := block_cell HS.out.res 0
       have z1 := block_cell HS.out.res 1
       have f0 := block_free HS.out.res 0
       have f1 := block_free HS.out.res 1
       have zl := block_lt HS.out.res
       simp at z0 z1
       have HB := hide HS.out.bel
       clear HJ HR3 HS
       have HD : Hid (Below W.heap.size W ((wr.setCell ⟨W.heap.size + 1, 0, none⟩ (.slice none 0 0)).setCell ⟨W.heap.size + 1, 1, none⟩ (.int .i64 0))) := (HB.out.setCell (p := ⟨W.heap.size + 1, 0, none⟩) (by simp) _).setCell (p := ⟨W.heap.size + 1, 1, none⟩) (by simp) _
       clear HB
       go_wp2
       refine bodyPost_ret (v := .agg #[.slice none 0 0, .int .i64 0]) (by simp [results, Tryz.results126, go_sem, z0, z1]) rfl ?_
       exact ⟨rfl, HD.out⟩
end Go.Proofs.YtggpaljilpbmhaaGreatDoor
