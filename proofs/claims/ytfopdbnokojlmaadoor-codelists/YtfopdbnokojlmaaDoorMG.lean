import Derived.Test.YtfopdbnokojlmaaDoorMB
import Derived.Test.YtfopdbnokojlmaaDoorCvK
import Derived.Deep.DeepCutAuto
import Derived.Deep.CutBlock
namespace Go.Proofs.YtfopdbnokojlmaaDoor
open Go.RowKit

/-- The listing under way: the program's box, the listing's block. -/
structure Li (W : World) (g : Pg) (p : Pv) (b : Nat) (t : ByteArray) (w : World) : Prop where
  pb : w.heap[W.heap.size]? = some (.cells (g.cs p).toArray 27 (0, 0))
  ok : g.Ok p W.heap.size w
  bd : Bd W.heap.size b t w
  tab : Tab2 w
  ne : b ≠ W.heap.size
  bel : Below W.heap.size W w
  z : 7 < W.heap.size
theorem Li.step {W : World} {g : Pg} {p : Pv} {b : Nat} {t t' : ByteArray} {w w' : World} (h : Li W g p b t w) (hk : Kb W.heap.size b w w') (hb : Bd W.heap.size b t' w') : Li W g p b t' w' :=
  ⟨hk.2 _ _ h.pb (by have := h.ne; simpa using fun e => this e.symm) (by rintro c fz e; cases e), h.ok.kept hk.1 (Nat.le_refl _), hb, h.tab.below hk.1 h.z, h.ne, h.bel.trans hk.1, h.z⟩
theorem Li.next {W : World} {g : Pg} {p : Pv} {b : Nat} {t : ByteArray} {w w' : World} (h : Li W g p b t w) (hb : Below w.heap.size w w') : Li W g p b t w' :=
  h.step (Kb.below hb h.bel.size) (h.bd.below hb)
theorem Li.cells {W : World} {g : Pg} {p : Pv} {b : Nat} {t : ByteArray} {w : World} (h : Li W g p b t w) : w.cell? ⟨W.heap.size, 0, none⟩ = some (.slice g.ca p.nc g.cc) ∧ w.cell? ⟨W.heap.size, 1, none⟩ = some (.slice g.sa p.ns g.sc) ∧ w.cell? ⟨W.heap.size, 2, none⟩ = some (.int .i64 (p.en 0)) ∧ w.cell? ⟨W.heap.size, 3, none⟩ = some (.int .i64 (p.en 1)) ∧ w.cell? ⟨W.heap.size, 4, none⟩ = some (.int .i64 (p.en 2)) ∧ w.cell? ⟨W.heap.size, 5, none⟩ = some (.int .i64 (p.en 3)) ∧ w.cell? ⟨W.heap.size, 6, none⟩ = some (.int .i64 (p.en 4)) ∧ w.cell? ⟨W.heap.size, 7, none⟩ = some (.int .i64 (p.en 5)) ∧ w.cell? ⟨W.heap.size, 8, none⟩ = some (.slice g.ia p.n g.ic) ∧ W.heap.size < w.heap.size :=
  ⟨block_cell h.pb 0, block_cell h.pb 1, block_cell h.pb 2, block_cell h.pb 3, block_cell h.pb 4, block_cell h.pb 5, block_cell h.pb 6, block_cell h.pb 7, block_cell h.pb 8, block_lt h.pb⟩
theorem bd_new {B : Nat} {w : World} (h : B ≤ w.heap.size) : Bd B w.heap.size ⟨#[]⟩ (w.alloc (.cells #[.pointer none, .slice none 0 0] 57)) :=
  ⟨by simp; omega, .inl ⟨h, .slice none 0 0, alloc_atK _ _, ⟨by decide, .inl ⟨rfl, rfl⟩⟩, by simp [Value.ownBlock]⟩, fun _ => alloc_atK _ _⟩
set_option maxRecDepth 10000 in
theorem kindWordC (s : Int) (h : s = 0 ∨ s = 1) (w : World) : Calls Tryd.prog 19 #[.int .i64 s] w fun e w' => e = .returned (.string (kdB s)) ∧ w' = w := by
  rcases h with rfl | rfl
  · show Calls _ _ _ _ fun e w' => e = .returned (.string ⟨#[110, 117, 109]⟩) ∧ _
    go_enter Tryd.func19, Tryd.ntmps19
    go_wp2
    go_ret
    exact ⟨rfl, rfl⟩
  · show Calls _ _ _ _ fun e w' => e = .returned (.string ⟨#[98, 111, 111, 108]⟩) ∧ _
    go_enter Tryd.func19, Tryd.ntmps19
    go_wp2
    go_ret
    exact ⟨rfl, rfl⟩
/-- What List answers. -/
def Ls (W : World) (p : Pv) (r : Except (Int × Int) Kn) (e : Ending) (w' : World) : Prop := match r with
  | .ok _ => e = .returned (.tuple #[.string (lst4 p), .nilIface]) ∧ Hid (Below W.heap.size W w')
  | .error (a, y) => ∃ g, e = .returned (.tuple #[.string ⟨#[]⟩, .iface 85 (.pointer (some ⟨g, 0, none⟩))]) ∧ Hid (Ft w'.heap.size w' (.iface 85 (.pointer (some ⟨g, 0, none⟩))) a y ∧ Below W.heap.size W w')
set_option maxRecDepth 10000 in
set_option maxHeartbeats 6400000 in
theorem listC {W : World} {g : Pg} {p : Pv} (h : g.Ok p W.heap.size W) (hT : Tab2 W) (hcb : ∀ j, j < p.nc → 0 ≤ p.C j ∧ p.C j < 18446744073709551616) :
    Calls Tryd.prog 6 #[.agg (g.cs p).toArray] W (Ls W p (verF p)) := by
  obtain ⟨W1, hW1⟩ : ∃ W1, W.alloc (.cells (g.cs p).toArray 27) = W1 := ⟨_, rfl⟩
  have B1 : Below W.heap.size W W1 := by rw [← hW1]; exact below_alloc1 W _
  have A1 : W1.heap[W.heap.size]? = some (.cells (g.cs p).toArray 27 (0, 0)) := by rw [← hW1]; exact alloc_atK _ _
  have HV := hide (verifyC ((h.kept B1 (Nat.le_refl _)).wide B1.size) (hT.t.below B1 hT.t.z))
  have y0 := block_cell A1 0
  have y1 := block_cell A1 1
  have y2 := block_cell A1 2
  have y3 := block_cell A1 3
  have y4 := block_cell A1 4
  have y5 := block_cell A1 5
  have y6 := block_cell A1 6
  have y7 := block_cell A1 7
  have y8 := block_cell A1 8
  have yl := block_lt A1
  simp [Pg.cs] at y0 y1 y2 y3 y4 y5 y6 y7 y8
  obtain ⟨r, hr⟩ : ∃ r, verF p = r := ⟨_, rfl⟩
  rw [hr] at HV ⊢
  have HGD : Hid (∀ k, r = .ok k → Gd p) := hide (fun k e => Gd.of (hr.trans e) hcb)
  have HOK := hide h
  have HTB := hide hT
  have HB1 := hide B1
  have HA1 := hide A1
  have HW1 := hide hW1
  clear h hT B1 A1 hW1 hr hcb
  have HCS : Hid (g.cs p = [.slice g.ca p.nc g.cc, .slice g.sa p.ns g.sc, .int .i64 (p.en 0), .int .i64 (p.en 1), .int .i64 (p.en 2), .int .i64 (p.en 3), .int .i64 (p.en 4), .int .i64 (p.en 5), .slice g.ia p.n g.ic]) := rfl
  rw [HCS.out] at HW1 HV ⊢
  go_enter Tryd.func6, Tryd.ntmps6
  go_upto_region 1 with fail
  rw [HW1.out]
  clear HW1
  go_wp2_with fail
  refine HV.out.mono ?_
  intro e w2 hh
  cases r with
  | error y =>
    obtain ⟨a, y⟩ := y
    obtain ⟨g', rfl, G⟩ := hh
    have HD : Hid (Ft w2.heap.size w2 (.iface 85 (.pointer (some ⟨g', 0, none⟩))) a y ∧ Below W.heap.size W w2) := ⟨G.out.1, HB1.out.trans (G.out.2.mono HB1.out.size)⟩
    clear y0 y1 y2 y3 y4 y5 y6 y7 y8 yl
    go_wp2
    go_ret2
    exact ⟨g', rfl, HD⟩
  | ok k =>
    obtain ⟨rfl, G⟩ := hh
    have hgd := HGD.out k rfl
    have HG := hide hgd
    have HB2 := hide (HB1.out.trans (G.out.mono HB1.out.size))
    have HL : Hid (Li W g p w2.heap.size ⟨#[]⟩ (w2.alloc (.cells #[.pointer none, .slice none 0 0] 57))) := by
      have hb3 := below_alloc1 w2 (.cells #[.pointer none, .slice none 0 0] 57)
      have hl : W.heap.size < w2.heap.size := Nat.lt_of_lt_of_le (block_lt HA1.out) G.out.size
      refine ⟨(hb3.block _ hl).trans ((G.out.block _ (block_lt HA1.out)).trans HA1.out), HOK.out.kept (HB2.out.trans (hb3.mono HB2.out.size)) (Nat.le_refl _), bd_new HB2.out.size, HTB.out.below (HB2.out.trans (hb3.mono HB2.out.size)) HTB.out.t.z, by omega, HB2.out.trans (hb3.mono HB2.out.size), HTB.out.t.z⟩
    clear y0 y1 y2 y3 y4 y5 y6 y7 y8 yl HV HGD HB1 HA1 HB2 G hgd HTB HOK
    have HSZ := hide (lst_size HG.out)
    obtain ⟨ca, sa, ia, cc, sc, ic, cb, co, sb, so, ib, io⟩ := g
    simp only
    go_upto_region 5 with fail
    generalize hlb : w2.heap.size = lb at *
    generalize w2.alloc (.cells #[.pointer none, .slice none 0 0] 57) = w3 at *
    clear hlb
    obtain ⟨y0, y1, y2, y3, y4, y5, y6, y7, y8, yl⟩ := HL.out.cells
    go_upto_block 0 with fail
    go_cut [6, 7] from 22 (fun _ _ V => Hid (Li W ⟨ca, sa, ia, cc, sc, ic, cb, co, sb, so, ib, io⟩ p lb (lst1 p) V))
    case first =>
      clear y0 y1 y2 y3 y4 y5 y6 y7 y8 yl
      have hncb := HG.out.nc
      go_wp2
      go_loopw [22] (fun i wr => ∃ j : Nat, j ≤ p.nc ∧ i = .int .i64 (j : Nat) ∧ Hid (Li W ⟨ca, sa, ia, cc, sc, ic, cb, co, sb, so, ib, io⟩ p lb (cat (conL p) j) wr)) (fun i _ => p.nc - (intOf i).toNat)
      case atStart => exact ⟨0, by omega, rfl, HL.out⟩
      case round =>
        obtain ⟨j, hj, rfl, HJ⟩ := hrel
        clear HL
        by_cases hlt : j < p.nc
        · obtain ⟨hca, hcl⟩ := HJ.out.ok.hc (by show 0 < p.nc; omega)
          have hca : ca = some ⟨cb, co, none⟩ := hca
          have hcl : cb < W.heap.size := hcl
          have hv : wr.cell? ⟨cb, co + j, none⟩ = some (.int .u64 (p.C j)) := HJ.out.ok.vc j hlt
          have hl2 : cb < wr.heap.size := Nat.lt_of_lt_of_le hcl HJ.out.bel.size
          obtain ⟨c, hc⟩ : ∃ c : Nat, p.C j = c := ⟨(p.C j).toNat, by have := HG.out.c j hlt; omega⟩
          have hcb2 : c < 18446744073709551616 := by have := HG.out.c j hlt; omega
          rw [hc] at hv
          have HI1 := hide (itoaC (w := wr) (j : Int) (by omega) (by omega) HJ.out.tab.p)
          have HI2 : Hid (∀ w1, Below wr.heap.size wr w1 → Calls Tryd.prog 12 #[.int .u64 (c : Nat), .int .i64 10] w1 fun e w' => e = .returned (.string (iB c)) ∧ Hid (Below w1.heap.size w1 w')) := hide (fun w1 hb => fmtUC c hcb2 (HJ.out.tab.next hb).p)
          have HLN : Hid (∀ w2, Below wr.heap.size wr w2 → Calls Tryd.prog 18 #[.pointer (some ⟨lb, 0, none⟩), .slice (some ⟨w2.heap.size, 0, none⟩) 3 3] (w2.alloc (.cells #[.string ⟨#[99, 111, 110, 115, 116]⟩, .string (iB j), .string (iB c)] 9)) fun e w' => e = .returned (.tuple #[]) ∧ Hid (Li W ⟨ca, sa, ia, cc, sc, ic, cb, co, sb, so, ib, io⟩ p lb (cat (conL p) (j + 1)) w')) := hide (fun w2 hb => by
            have hs := (conL_size HG.out hlt).1
            rw [hc] at hs
            refine (line3 cB (iB j) (iB c) (HJ.out.bd.below hb) (by omega) (by have := HSZ.out.1 j (by omega); omega)).mono fun e w' hh => ⟨hh.1, hide ?_⟩
            have q : cat (conL p) j ++ jn [cB, iB j, iB c] ++ nlB = cat (conL p) (j + 1) := by
              show _ = cat (conL p) j ++ conL p j
              unfold conL
              rw [hc, ByteArray.append_assoc]
            exact (HJ.out.next hb).step hh.2.out.2 (q ▸ hh.2.out.1))
          clear HJ hc
          subst hca
          go_wp2_with fail
          refine HI1.out.mono ?_
          rintro e w5 ⟨rfl, G5⟩
          clear hv hl2 HI1
          go_wp2_with fail
          refine (HI2.out w5 G5.out).mono ?_
          rintro e w6 ⟨rfl, G6⟩
          clear HI2
          have HB6 := hide (G5.out.trans (G6.out.mono G5.out.size))
          go_wp2_with fail
          refine (HLN.out w6 HB6.out).mono ?_
          rintro e w7 ⟨rfl, G7⟩
          clear HLN
          go_wp2
          go_roundw
          case rel => exact ⟨j + 1, by omega, by go_num, G7.out⟩
          case measure => simp [intOf]; omega
        · obtain rfl : j = p.nc := by omega
          go_wp2
          go_meet
          case rel => exact HJ.out
    case rest =>
    clear HL y0 y1 y2 y3 y4 y5 y6 y7 y8 yl
    have HL := hide hcut.out
    clear hcut
    obtain ⟨y0, y1, y2, y3, y4, y5, y6, y7, y8, yl⟩ := HL.out.cells
    go_upto_block 2 with fail
    go_cut [8, 9] from 37 (fun _ _ V => Hid (Li W ⟨ca, sa, ia, cc, sc, ic, cb, co, sb, so, ib, io⟩ p lb (lst2 p) V))
    case first =>
      clear y0 y1 y2 y3 y4 y5 y6 y7 y8 yl
      have hnsb := HG.out.ns
      go_wp2
      go_loopw [37] (fun i wr => ∃ j : Nat, j ≤ p.ns ∧ i = .int .i64 (j : Nat) ∧ Hid (Li W ⟨ca, sa, ia, cc, sc, ic, cb, co, sb, so, ib, io⟩ p lb (lst1 p ++ cat (sltL p) j) wr)) (fun i _ => p.ns - (intOf i).toNat)
      case atStart => exact ⟨0, by omega, rfl, (cat_none (lst1 p) (sltL p)).symm ▸ HL.out⟩
      case round =>
        obtain ⟨j, hj, rfl, HJ⟩ := hrel
        clear HL
        by_cases hlt : j < p.ns
        · obtain ⟨hsa, hsl⟩ := HJ.out.ok.hs (by show 0 < p.ns; omega)
          have hsa : sa = some ⟨sb, so, none⟩ := hsa
          have hsl : sb < W.heap.size := hsl
          have hv : wr.cell? ⟨sb, so + j, none⟩ = some (.int .i64 (p.S j)) := HJ.out.ok.vs j hlt
          have hl2 : sb < wr.heap.size := Nat.lt_of_lt_of_le hsl HJ.out.bel.size
          have HI1 := hide (itoaC (w := wr) (j : Int) (by omega) (by omega) HJ.out.tab.p)
          have HI2 := hide (kindWordC (p.S j) (HG.out.s j hlt))
          have HLN : Hid (∀ w2, Below wr.heap.size wr w2 → Calls Tryd.prog 18 #[.pointer (some ⟨lb, 0, none⟩), .slice (some ⟨w2.heap.size, 0, none⟩) 3 3] (w2.alloc (.cells #[.string ⟨#[115, 108, 111, 116]⟩, .string (iB j), .string (kdB (p.S j))] 9)) fun e w' => e = .returned (.tuple #[]) ∧ Hid (Li W ⟨ca, sa, ia, cc, sc, ic, cb, co, sb, so, ib, io⟩ p lb (lst1 p ++ cat (sltL p) (j + 1)) w')) := hide (fun w2 hb => by
            have hs := (sltL_size HG.out hlt).1
            refine (line3 sB (iB j) (kdB (p.S j)) (HJ.out.bd.below hb) (by omega) (by have := HSZ.out.2.1 j (by omega); omega)).mono fun e w' hh => ⟨hh.1, hide ?_⟩
            exact (HJ.out.next hb).step hh.2.out.2 ((cat_next (lst1 p) (sltL p) j (jn [sB, iB j, kdB (p.S j)]) nlB rfl) ▸ hh.2.out.1))
          clear HJ
          subst hsa
          generalize kdB (p.S j) = kd at *
          generalize p.S j = sj at *
          go_wp2_with fail
          refine HI1.out.mono ?_
          rintro e w5 ⟨rfl, G5⟩
          clear hv hl2 HI1
          go_wp2_with fail
          refine (HI2.out w5).mono ?_
          rintro e w6 ⟨rfl, hw6⟩
          subst hw6
          clear HI2
          go_wp2_with fail
          refine (HLN.out _ G5.out).mono ?_
          rintro e w7 ⟨rfl, G7⟩
          clear HLN
          go_wp2
          go_roundw
          case rel => exact ⟨j + 1, by omega, by go_num, G7.out⟩
          case measure => simp [intOf]; omega
        · obtain rfl : j = p.ns := by omega
          go_wp2
          go_meet
          case rel => exact HJ.out
    case rest =>
    clear HL y0 y1 y2 y3 y4 y5 y6 y7 y8 yl
    have HL := hide hcut.out
    clear hcut
    obtain ⟨y0, y1, y2, y3, y4, y5, y6, y7, y8, yl⟩ := HL.out.cells
    go_upto_block 4 with fail
    go_cut [10, 11] from 51 (fun _ _ V => Hid (Li W ⟨ca, sa, ia, cc, sc, ic, cb, co, sb, so, ib, io⟩ p lb (lst3 p) V))
    case first =>
      clear y0 y1 y2 y3 y4 y5 y6 y7 y8 yl
      have HIX : Hid (∀ (j : Nat) (w0 : World), j < 6 → (Instr.index 24 (.agg #[.int .i64 (p.en 0), .int .i64 (p.en 1), .int .i64 (p.en 2), .int .i64 (p.en 3), .int .i64 (p.en 4), .int .i64 (p.en 5)]) (.int .i64 (j : Nat))).run Tryd.prog w0 = .ok (.int .i64 (p.en j)) w0) := hide (fun j w0 hj => by
        match j, hj with
        | 0, _ => rfl
        | 1, _ => rfl
        | 2, _ => rfl
        | 3, _ => rfl
        | 4, _ => rfl
        | 5, _ => rfl)
      go_wp2
      go_loopw [51] (fun i wr => ∃ j : Nat, j ≤ 6 ∧ i = .int .i64 (j : Nat) ∧ Hid (Li W ⟨ca, sa, ia, cc, sc, ic, cb, co, sb, so, ib, io⟩ p lb (lst2 p ++ cat (entL p) j) wr)) (fun i _ => 6 - (intOf i).toNat)
      case atStart => exact ⟨0, by omega, rfl, (cat_none (lst2 p) (entL p)).symm ▸ HL.out⟩
      case round =>
        obtain ⟨j, hj, rfl, HJ⟩ := hrel
        clear HL
        by_cases hlt : j < 6
        · have hix := fun w0 => HIX.out j w0 hlt
          by_cases he : 0 ≤ p.en j
          · have HI1 : Hid (Calls Tryd.prog 11 #[.int .i64 (p.en j)] wr.drew fun e w' => e = .returned (.string (iB (p.en j))) ∧ Hid (Below wr.heap.size wr w')) := hide ((itoaC (w := wr.drew) (p.en j) (by omega) (by have := HG.out.e j hlt; omega) HJ.out.tab.p).mono fun _ _ hh => ⟨hh.1, hide ((Below.drew (Below.refl _ wr)).trans hh.2.out)⟩)
            have HLN : Hid (∀ w2, Below wr.heap.size wr w2 → Calls Tryd.prog 18 #[.pointer (some ⟨lb, 0, none⟩), .slice (some ⟨w2.heap.size, 0, none⟩) 3 3] (w2.alloc (.cells #[.string ⟨#[111, 110]⟩, .string (evB j), .string (iB (p.en j))] 9)) fun e w' => e = .returned (.tuple #[]) ∧ Hid (Li W ⟨ca, sa, ia, cc, sc, ic, cb, co, sb, so, ib, io⟩ p lb (lst2 p ++ cat (entL p) (j + 1)) w')) := hide (fun w2 hb => by
              have hs := (entL_size HG.out hlt).1 he
              refine (line3 oB (evB j) (iB (p.en j)) (HJ.out.bd.below hb) (by omega) (by have := HSZ.out.2.2.1 j (by omega); omega)).mono fun e w' hh => ⟨hh.1, hide ?_⟩
              exact (HJ.out.next hb).step hh.2.out.2 ((cat_next (lst2 p) (entL p) j (jn [oB, evB j, iB (p.en j)]) nlB (by unfold entL; rw [if_pos he])) ▸ hh.2.out.1))
            have hev := HJ.out.tab.ev j hlt
            have htz := HJ.out.tab.t.z
            have HEV : Hid (∀ w2, Below wr.heap.size wr w2 → w2.cell? ⟨0, j, none⟩ = some (.string (evB j)) ∧ 7 < w2.heap.size) := hide (fun w2 hb => ⟨(HJ.out.tab.next hb).ev j hlt, (HJ.out.tab.next hb).t.z⟩)
            clear HJ
            generalize p.en j = x at *
            go_upto_region 19 with fail
            clear hix
            go_region_with (first
              | (go_at_call 11; refine HI1.out.mono ?_; rintro e w5 ⟨rfl, G5⟩; obtain ⟨zv, zz⟩ := HEV.out w5 G5.out)
              | (go_at_call 18; refine (HLN.out w5 G5.out).mono ?_; rintro e w7 ⟨rfl, G7⟩))
            all_goals
              clear HI1 HLN HEV hev htz
              go_wp2
              go_roundw
              case rel => exact ⟨j + 1, by omega, by go_num, G7.out⟩
              case measure => simp [intOf]; omega
          · have HN : Hid (Li W ⟨ca, sa, ia, cc, sc, ic, cb, co, sb, so, ib, io⟩ p lb (lst2 p ++ cat (entL p) (j + 1)) wr) := by
              have q : cat (entL p) (j + 1) = cat (entL p) j := by
                show cat (entL p) j ++ entL p j = _
                unfold entL
                rw [if_neg he]
                exact ByteArray.append_empty
              rw [q]
              exact HJ.out
            clear HJ
            generalize p.en j = x at *
            go_wp2
            go_roundw
            case rel => exact ⟨j + 1, by omega, by go_num, HN.out⟩
            case measure => simp [intOf]; omega
        · obtain rfl : j = 6 := by omega
          go_wp2
          go_meet
          case rel => exact HJ.out
    case rest =>
    clear HL y0 y1 y2 y3 y4 y5 y6 y7 y8 yl
    have HL := hide hcut.out
    clear hcut
    obtain ⟨y0, y1, y2, y3, y4, y5, y6, y7, y8, yl⟩ := HL.out.cells
    go_upto_block 6 with fail
    go_cut [12, 13] from 68 (fun _ _ V => Hid (Li W ⟨ca, sa, ia, cc, sc, ic, cb, co, sb, so, ib, io⟩ p lb (lst4 p) V))
    case first =>
      clear y0 y1 y2 y3 y4 y5 y6 y7 y8 yl
      have hnnb := HG.out.n
      go_wp2
      go_loopw [68] (fun i wr => ∃ j : Nat, j ≤ p.n ∧ i = .int .i64 (j : Nat) ∧ Hid (Li W ⟨ca, sa, ia, cc, sc, ic, cb, co, sb, so, ib, io⟩ p lb (lst3 p ++ cat (inL p) j) wr)) (fun i _ => p.n - (intOf i).toNat)
      case atStart => exact ⟨0, by omega, rfl, (cat_none (lst3 p) (inL p)).symm ▸ HL.out⟩
      case round =>
        obtain ⟨j, hj, rfl, HJ⟩ := hrel
        clear HL
        by_cases hlt : j < p.n
        · obtain ⟨hia, hil⟩ := HJ.out.ok.hi (by show 0 < p.n; omega)
          have hia : ia = some ⟨ib, io, none⟩ := hia
          have hil : ib < W.heap.size := hil
          have hv : wr.cell? ⟨ib, io + j * 2, none⟩ = some (.int .i64 (p.op j)) := HJ.out.ok.vo j hlt
          have hv2 : wr.cell? ⟨ib, io + j * 2 + 1, none⟩ = some (.int .i64 (p.arg j)) := HJ.out.ok.va j hlt
          have hl2 : ib < wr.heap.size := Nat.lt_of_lt_of_le hil HJ.out.bel.size
          obtain ⟨o, ho⟩ : ∃ o : Nat, p.op j = o := ⟨(p.op j).toNat, by have := HG.out.o j hlt; omega⟩
          have ho2 : o ≤ 32 := by have := HG.out.o j hlt; omega
          rw [ho] at hv
          have HIN : Hid (∀ w2, Below wr.heap.size wr w2 → Calls Tryd.prog 20 #[.pointer (some ⟨lb, 0, none⟩), .int .i64 (j : Nat), .agg #[.int .i64 (o : Nat), .int .i64 (p.arg j)]] w2 fun e w' => e = .returned (.tuple #[]) ∧ Hid (Li W ⟨ca, sa, ia, cc, sc, ic, cb, co, sb, so, ib, io⟩ p lb (lst3 p ++ cat (inL p) (j + 1)) w')) := hide (fun w2 hb => by
            have hin : inL p j = insL j o (p.arg j) ++ nlB := by unfold inL; rw [ho]; rfl
            refine (insC j o (p.arg j) (HJ.out.bd.below hb) (HJ.out.tab.next hb) ho2 (by omega) (HG.out.a j hlt).1 (HG.out.a j hlt).2 (fun e => HG.out.i j hlt (by rw [ho]; exact e)) (by have := HSZ.out.2.2.2 j (by omega); omega)).mono fun e w' hh => ⟨hh.1, hide ?_⟩
            exact (HJ.out.next hb).step hh.2.out.2 ((cat_next (lst3 p) (inL p) j (insL j o (p.arg j)) nlB hin) ▸ hh.2.out.1))
          clear HJ ho
          subst hia
          generalize p.arg j = aj at *
          obtain ⟨wn, hwn⟩ : ∃ wn, wr.alloc (.cells #[.int .i64 (o : Nat), .int .i64 aj] 49) = wn := ⟨_, rfl⟩
          have hbn : Below wr.heap.size wr wn := by rw [← hwn]; exact below_alloc1 _ _
          have han : wn.heap[wr.heap.size]? = some (.cells #[.int .i64 (o : Nat), .int .i64 aj] 49 (0, 0)) := by rw [← hwn]; exact alloc_atK _ _
          have n0 := block_cell han 0
          have n1 := block_cell han 1
          have nl := block_lt han
          simp at n0 n1
          have HWN := hide hwn
          have HIM := hide (HIN.out wn hbn)
          clear hwn hbn han HIN
          go_upto_region 24 with fail
          rw [HWN.out]
          clear hv hv2 hl2 HWN
          go_wp2_with fail
          refine HIM.out.mono ?_
          rintro e w7 ⟨rfl, G7⟩
          clear HIM n0 n1 nl
          go_wp2
          go_roundw
          case rel => exact ⟨j + 1, by omega, by go_num, G7.out⟩
          case measure => simp [intOf]; omega
        · obtain rfl : j = p.n := by omega
          go_wp2
          go_meet
          case rel => exact HJ.out
    case rest =>
    clear HL y0 y1 y2 y3 y4 y5 y6 y7 y8 yl
    have HST := hide (stringC hcut.out.bd)
    have HBL := hide hcut.out.bel
    clear hcut
    go_wp2_with fail
    refine HST.out.mono ?_
    rintro e w9 ⟨rfl, G9⟩
    have HE := hide (HBL.out.trans G9.out)
    clear HST HBL G9
    go_wp2
    go_ret2
    exact ⟨rfl, HE⟩
end Go.Proofs.YtfopdbnokojlmaaDoor
