import Derived.Test.YthbpacilceemlaaPReadsD
import Derived.Test.YthbpacilceemlaaM29
import Derived.Test.YthbpacilceemlaaQRrW
namespace Go.Proofs.Ythbpacilceemlaa
open Go.RowKit Crc

theorem copy_sh {lim : Nat} {w : World} {ao : Option Addr} {n cap : Nat} {B : List Nat} (h : Shows lim w ao n cap B) (hlw : lim ≤ w.heap.size) :
    Calls Try.prog 54 #[.slice ao n cap] w fun e w' => ∃ v, e = .returned v ∧ Owns w.heap.size w' v B ∧ Below w.heap.size w w' := by
  obtain ⟨h1, h2, h3, h4, b, off, h5, h6, h7⟩ := h
  exact copy_walk b off ao B n cap w h5 h1 h3 h4 (fun h => Nat.lt_of_lt_of_le (h6 h) hlw) h7

set_option maxRecDepth 10000 in
set_option maxHeartbeats 800000 in
theorem refNew_any {lim : Nat} {w : World} {ao : Option Addr} {n cap : Nat} {B : List Nat} (h : Shows lim w ao n cap B) (hlw : lim ≤ w.heap.size) :
    Calls Try.prog 13 #[.slice ao n cap] w fun e w' => ∃ p d, e = .returned (.pointer (some ⟨p, 0, none⟩)) ∧ w.heap.size ≤ p ∧ w.heap.size ≤ d ∧ d ≤ p ∧ RefS d w' p ⟨true, 0, 0, B, 0⟩ ∧ Below w.heap.size w w' := by
  have HCP := hide (copy_sh h hlw)
  clear h
  go_enter Try.func13, Try.ntmps13
  go_wp2_with fail
  refine HCP.out.mono ?_
  rintro e w1 ⟨v, rfl, hO, hb1⟩
  obtain ⟨a1, c1, rfl, hs1, ha⟩ := hO.form
  have HO := hide (And.intro hO (And.intro hs1 ha))
  have HB1 := hide hb1
  clear hO hs1 ha hb1
  generalize hbl : B.length = m at *
  go_wp2
  go_ret
  have hsz := HB1.out.size
  obtain ⟨hO, hs1, ha⟩ := HO.out
  have hbel : Below w.heap.size w (w1.alloc (.cells #[.bool true, .slice a1 m c1, .int .i64 0, .int .i64 0, .int .i64 0] 48 (0, 0))) := HB1.out.alloc hsz _
  have hg : w1.grownBy (w1.alloc (.cells #[.bool true, .slice a1 m c1, .int .i64 0, .int .i64 0, .int .i64 0] 48 (0, 0))) none := World.grownBy_alloc w1 _ none
  obtain ⟨h1, h2, h3, h4, b, off, h5, h6, h7⟩ := hs1
  rcases ha with ⟨rfl, rfl⟩ | ⟨g, rfl, hg1, hg2⟩
  · have hm0 : m = 0 := by omega
    refine ⟨w1.heap.size, w1.heap.size, rfl, hsz, hsz, Nat.le_refl _, ⟨none, 0, ?_, ⟨by simp only; omega, .inr ⟨rfl, rfl, by simp only; omega⟩⟩, by simp only; omega, h4, by simp, fun h => by simp only at h; omega, fun h => by simp only at h; omega, fun i hi => by simp only at hi; omega⟩, hbel⟩
    simp only [hbl]
    exact heap_alloc_new w1 _
  · refine ⟨w1.heap.size, g, rfl, hsz, hg1, Nat.le_of_lt hg2, ⟨some ⟨g, 0, none⟩, c1, ?_, ⟨by simp only; omega, .inl rfl⟩, by simp only; omega, h4, by simp, fun _ => rfl, fun _ => by omega, fun i hi => ?_⟩, hbel⟩
    · simp only [hbl]
      exact heap_alloc_new w1 _
    · simp only at hi
      have e := h5 (by omega)
      simp only [Option.some.injEq, Addr.mk.injEq, and_true] at e
      obtain ⟨rfl, rfl⟩ := e
      have h8 := h7 i (by omega)
      rw [Nat.zero_add] at h8
      exact hg.cell h8 (by simp)
end Go.Proofs.Ythbpacilceemlaa
namespace Go.Proofs.Ythbpacilceemlaa
open Go.RowKit Crc

/-- Two boxes laid anew. -/
theorem fin_dr {w w4 : World} {v : Value} {rs1 : List Rq} (hb : Below w.heap.size w w4) (h : OwnRs (w.heap.size + 1 + 1) w4 v rs1) (hf : FreeRs (w.heap.size + 1 + 1) w4 rs1) (a b c e : Value) :
    Below w.heap.size w ((((w4.setCell ⟨w.heap.size, 0, none⟩ a).setCell ⟨w.heap.size, 1, none⟩ b).setCell ⟨w.heap.size + 1, 0, none⟩ c).setCell ⟨w.heap.size + 1, 1, none⟩ e) ∧ OwnRs w.heap.size ((((w4.setCell ⟨w.heap.size, 0, none⟩ a).setCell ⟨w.heap.size, 1, none⟩ b).setCell ⟨w.heap.size + 1, 0, none⟩ c).setCell ⟨w.heap.size + 1, 1, none⟩ e) v rs1 ∧ FreeRs w.heap.size ((((w4.setCell ⟨w.heap.size, 0, none⟩ a).setCell ⟨w.heap.size, 1, none⟩ b).setCell ⟨w.heap.size + 1, 0, none⟩ c).setCell ⟨w.heap.size + 1, 1, none⟩ e) rs1 := by
  obtain ⟨a1, a2⟩ := h.past hf (grown_set w4 w.heap.size 0 a) (by omega)
  obtain ⟨b1, b2⟩ := a1.past a2 (grown_set _ w.heap.size 1 b) (by omega)
  obtain ⟨c1, c2⟩ := b1.past b2 (grown_set _ (w.heap.size + 1) 0 c) (by omega)
  obtain ⟨e1, e2⟩ := c1.past c2 (grown_set _ (w.heap.size + 1) 1 e) (by omega)
  exact ⟨(((hb.setCell (p := ⟨w.heap.size, 0, none⟩) (Nat.le_refl _) _).setCell (p := ⟨w.heap.size, 1, none⟩) (Nat.le_refl _) _).setCell (p := ⟨w.heap.size + 1, 0, none⟩) (by simp) _).setCell (p := ⟨w.heap.size + 1, 1, none⟩) (by simp) _, e1.lower (by omega), e2.lower (by omega)⟩

set_option maxRecDepth 10000 in
set_option maxHeartbeats 1600000 in
theorem decBatch_ref {lim : Nat} {w : World} {ao : Option Addr} {n cap : Nat} {B : List Nat} (h : Shows lim w ao n cap B) (hl : lim ≤ w.heap.size) :
    Calls Try.prog 81 #[.slice ao n cap] w fun e w' => ∃ (st : Nat) (v : Value) (rs1 : List Rq), e = .returned (.tuple #[.agg #[.int .u64 (st : Int), v], .agg #[.int .i64 (cEnd (RS1 B)).endC, .int .i64 (if (cEnd (RS1 B)).endC = 0 then 0 else (cEnd (RS1 B)).endA)]]) ∧ Hid (Below w.heap.size w w' ∧ OwnRs w.heap.size w' v rs1 ∧ FreeRs w.heap.size w' rs1 ∧ (if (cEnd (RS1 B)).endC = 0 then st = upV (RS1 B) 1099511627776 ∧ rs1.map Rq.val = cVals (RS1 B) else st = 0 ∧ rs1 = [])) := by
  obtain ⟨W0, hW0⟩ : ∃ W0, (w.alloc (.cells #[.int .u64 0, .slice none 0 0] 71)).alloc (.cells #[.int .i64 0, .int .i64 0] 34) = W0 := ⟨_, rfl⟩
  have s0 : W0.heap.size = w.heap.size + 1 + 1 := by rw [← hW0]; simp
  have HW0 : Hid (Below w.heap.size w W0 ∧ W0.heap[w.heap.size]? = some (.cells #[.int .u64 0, .slice none 0 0] 71 (0, 0)) ∧ W0.heap[w.heap.size + 1]? = some (.cells #[.int .i64 0, .int .i64 0] 34 (0, 0))) := by
    have e1 : (w.alloc (.cells #[.int .u64 0, .slice none 0 0] 71)).heap.size = w.heap.size + 1 := by simp
    refine ⟨?_, ?_, ?_⟩
    · rw [← hW0]; exact (below_alloc1 w _).alloc (by simp) _
    · rw [← hW0]; exact ((World.grownBy_alloc _ _ none).block _ (by rw [e1]; omega) (by simp)).trans (alloc_at _ _)
    · rw [← hW0, ← e1]; exact alloc_at _ _
  have H1 : Hid (Calls Try.prog 13 #[.slice ao n cap] W0 fun e w1 => ∃ p, e = .returned (.pointer (some ⟨p, 0, none⟩)) ∧ Hid (Calls Try.prog 109 #[.pointer (some ⟨p, 0, none⟩)] w1 fun e w2 => ∃ vo vn vc, e = .returned (.agg #[.int .u64 (upV (RS1 B) 1099511627776 : Nat), .slice vo vn vc]) ∧ Hid (∃ rs1 d, OwnRs (w.heap.size + 1 + 1) w2 (.slice vo vn vc) rs1 ∧ FreeRs (w.heap.size + 1 + 1) w2 rs1 ∧ rs1.map Rq.val = cVals (RS1 B) ∧ RefS d w2 p (cEnd (RS1 B)) ∧ Below (w.heap.size + 1 + 1) W0 w2))) := by
    refine (refNew_any (w := W0) (h.belowL (HW0.out.1.mono hl)) (by omega)).mono ?_
    rintro e w1 ⟨p, d, rfl, hp, hd, hdp, hr, hb⟩
    have hpl := refS_size hr
    refine ⟨p, rfl, (refBatch_any d p (RS1 B) w1 hr (by omega)).mono ?_⟩
    rintro e w2 ⟨v, rs1, rfl, G⟩
    obtain ⟨g1, g2, g3, g4, g5⟩ := G.out
    obtain ⟨vo, vc, _, hv, _⟩ := g1.form
    have hs1 := hb.size
    subst hv
    exact ⟨vo, _, vc, rfl, rs1, d, g1.lower (by omega), g2.lower (by omega), g3, g4, (by rw [s0] at hb; exact hb.grown g5 (by omega) (fun k e => by cases e; omega))⟩
  have H2 : Hid (∀ p d w2 o, RefS d w2 p (cEnd (RS1 B)) → Calls Try.prog 68 #[.pointer (some ⟨p, 0, none⟩)] (w2.alloc o) fun e w3 => e = .returned (.agg #[.int .i64 (cEnd (RS1 B)).endC, .int .i64 (cEnd (RS1 B)).endA]) ∧ Hid (Below (w2.alloc o).heap.size (w2.alloc o) w3)) := fun p d w2 o hr => (refEnd_any d p (cEnd (RS1 B)) (w2.alloc o) (hr.kept (World.grownBy_alloc _ _ none) (by simp) (by simp))).mono (fun _ _ h => ⟨h.1, h.2⟩)
  have HWW := hide hW0
  clear h hW0
  generalize hec : (cEnd (RS1 B)).endC = ec at *
  generalize hea : (cEnd (RS1 B)).endA = ea at *
  clear hec hea
  go_enter Try.func81, Try.ntmps81
  go_wp2_with fail
  rw [HWW.out]
  refine H1.out.mono ?_
  rintro e w1 ⟨p, rfl, G1⟩
  go_wp2_with fail
  refine G1.out.mono ?_
  rintro e w2 ⟨vo, vn, vc, rfl, G2⟩
  obtain ⟨rs1, d, o1, o2, o3, o4, o5⟩ := G2.out
  have HP2 : Hid (OwnRs (w.heap.size + 1 + 1) w2 (.slice vo vn vc) rs1 ∧ FreeRs (w.heap.size + 1 + 1) w2 rs1 ∧ rs1.map Rq.val = cVals (RS1 B) ∧ Below (w.heap.size + 1 + 1) W0 w2) := ⟨o1, o2, o3, o5⟩
  have HR4 := hide o4
  clear o1 o2 o3 o4 o5 G2
  go_wp2_with fail
  refine (H2.out p d w2 _ HR4.out).mono ?_
  rintro e w3 ⟨rfl, G3⟩
  have HB3 : Hid (Below (w.heap.size + 1 + 1) W0 w3 ∧ w3.heap[w2.heap.size]? = some (.cells #[.int .u64 (upV (RS1 B) 1099511627776 : Nat), .slice vo vn vc] 71 (0, 0)) ∧ w3.heap[w.heap.size]? = some (.cells #[.int .u64 0, .slice none 0 0] 71 (0, 0)) ∧ w3.heap[w.heap.size + 1]? = some (.cells #[.int .i64 0, .int .i64 0] 34 (0, 0)) ∧ OwnRs (w.heap.size + 1 + 1) w3 (.slice vo vn vc) rs1 ∧ FreeRs (w.heap.size + 1 + 1) w3 rs1) := by
    obtain ⟨g1, g2, g3, g5⟩ := HP2.out
    have hs3 : w.heap.size + 1 + 1 ≤ w2.heap.size := by have := g5.size; omega
    have hbA := below_alloc1 w2 (.cells #[.int .u64 (upV (RS1 B) 1099511627776 : Nat), .slice vo vn vc] 71)
    have hsA : (w2.alloc (.cells #[.int .u64 (upV (RS1 B) 1099511627776 : Nat), .slice vo vn vc] 71)).heap.size = w2.heap.size + 1 := by simp
    have b4 := (g5.trans (hbA.mono (by omega))).trans (G3.out.mono (by omega))
    obtain ⟨o1, o2⟩ := g1.quiet g2 (below_none hbA)
    obtain ⟨o3, o4⟩ := o1.quiet o2 (below_none G3.out)
    exact ⟨b4, (G3.out.block _ (by omega)).trans (alloc_at _ _), (b4.block _ (by omega)).trans HW0.out.2.1, (b4.block _ (by omega)).trans HW0.out.2.2, o3, o4⟩
  obtain ⟨W, hW, u0, u1, HW⟩ : ∃ W, w3.alloc (.cells #[.int .i64 ec, .int .i64 ea] 34) = W ∧ W.cell? ⟨w3.heap.size, 0, none⟩ = some (.int .i64 ec) ∧ W.cell? ⟨w3.heap.size, 1, none⟩ = some (.int .i64 ea) ∧ Hid (Below w.heap.size w W ∧ W.heap[w2.heap.size]? = some (.cells #[.int .u64 (upV (RS1 B) 1099511627776 : Nat), .slice vo vn vc] 71 (0, 0)) ∧ W.heap[w.heap.size]? = some (.cells #[.int .u64 0, .slice none 0 0] 71 (0, 0)) ∧ W.heap[w.heap.size + 1]? = some (.cells #[.int .i64 0, .int .i64 0] 34 (0, 0)) ∧ OwnRs (w.heap.size + 1 + 1) W (.slice vo vn vc) rs1 ∧ FreeRs (w.heap.size + 1 + 1) W rs1) := by
    obtain ⟨k1, k2, k3, k4, k5, k6⟩ := HB3.out
    have hgA := World.grownBy_alloc w3 (.cells #[.int .i64 ec, .int .i64 ea] 34) none
    obtain ⟨o1, o2⟩ := k5.quiet k6 hgA
    have hbw : Below w.heap.size w w3 := HW0.out.1.trans (k1.mono (by omega))
    exact ⟨_, rfl, World.cell?_alloc_new _ _ _ _, World.cell?_alloc_new _ _ _ _, hbw.alloc hbw.size _, (hgA.block _ (block_lt k2) (by simp)).trans k2, (hgA.block _ (block_lt k3) (by simp)).trans k3, (hgA.block _ (block_lt k4) (by simp)).trans k4, o1, o2⟩
  have HWE := hide hW
  clear hW
  have hq3 : w.heap.size + 1 < w3.heap.size := block_lt HB3.out.2.2.2.1
  have hq4 : w.heap.size < w3.heap.size := by omega
  have hq2 : w2.heap.size < w3.heap.size := block_lt HB3.out.2.1
  have hm1 : ¬ w2.heap.size = w.heap.size := by have := HP2.out.2.2.2.size; omega
  clear G1 G3 H1 H2
  by_cases hz : ec = 0
  · subst hz
    have x0 := block_cell HB3.out.2.1 0
    have x1 := block_cell HB3.out.2.1 1
    have y0 := block_cell HB3.out.2.2.1 0
    have y1 := block_cell HB3.out.2.2.1 1
    have f0 := block_free HB3.out.2.2.1 0
    have f1 := block_free HB3.out.2.2.1 1
    have z0 := block_cell HB3.out.2.2.2.1 0
    have z1 := block_cell HB3.out.2.2.2.1 1
    have g0 := block_free HB3.out.2.2.2.1 0
    have g1 := block_free HB3.out.2.2.2.1 1
    simp at x0 x1 y0 y1 z0 z1
    clear u0 u1
    go_wp2
    refine bodyPost_ret (v := .tuple #[.agg #[.int .u64 (upV (RS1 B) 1099511627776 : Nat), .slice vo vn vc], .agg #[.int .i64 0, .int .i64 0]]) (by simp [results, Try.results81, go_sem, y0, y1, z0, z1, hq3, hq4]) rfl ⟨_, _, rfl, rs1, ?_⟩
    have hbw : Below w.heap.size w w3 := HW0.out.1.trans (HB3.out.1.mono (by omega))
    obtain ⟨k1, k2, k3⟩ := fin_dr hbw HB3.out.2.2.2.2.1 HB3.out.2.2.2.2.2 (.int .u64 (upV (RS1 B) 1099511627776 : Nat)) (.slice vo vn vc) (.int .i64 0) (.int .i64 0)
    obtain ⟨k4, k5⟩ := k2.quiet k3 (World.grownBy_alloc _ (.cells #[.int .i64 0, .int .i64 ea] 34) none)
    exact ⟨k1.alloc k1.size _, k4, k5, rfl, HP2.out.2.2.1⟩
  · have hzb : (ec != 0) = true := by simp [hz]
    go_wp2_with fail
    rw [HWE.out]
    have y0 := block_cell HW.out.2.2.1 0
    have y1 := block_cell HW.out.2.2.1 1
    have f0 := block_free HW.out.2.2.1 0
    have f1 := block_free HW.out.2.2.1 1
    have z0 := block_cell HW.out.2.2.2.1 0
    have z1 := block_cell HW.out.2.2.2.1 1
    have g0 := block_free HW.out.2.2.2.1 0
    have g1 := block_free HW.out.2.2.2.1 1
    simp at y0 y1 z0 z1
    have hn1 : ¬ w.heap.size = w3.heap.size := by omega
    have hn2 : ¬ w.heap.size + 1 = w3.heap.size := by omega
    clear HWE hq3 hq4 hq2 HB3
    generalize w3.heap.size = q at *
    go_region_held (fun w' => w'.cell? ⟨q, 0, none⟩ = some (.int .i64 ec) ∧ w'.cell? ⟨q, 1, none⟩ = some (.int .i64 ea)) (go_keep) (fail)
    go_wp2
    refine bodyPost_ret (v := .tuple #[.agg #[.int .u64 0, .slice none 0 0], .agg #[.int .i64 ec, .int .i64 ea]]) (by simp [results, Try.results81, go_sem, y0, y1, z0, z1]) rfl ⟨0, _, rfl, [], ?_⟩
    obtain ⟨k1, _, _⟩ := fin_dr HW.out.1 HW.out.2.2.2.2.1 HW.out.2.2.2.2.2 (.int .u64 0) (.slice none 0 0) (.int .i64 ec) (.int .i64 ea)
    have nn := OwnRs.nil w.heap.size (((((W.setCell ⟨w.heap.size, 0, none⟩ (.int .u64 0)).setCell ⟨w.heap.size, 1, none⟩ (.slice none 0 0)).setCell ⟨w.heap.size + 1, 0, none⟩ (.int .i64 ec)).setCell ⟨w.heap.size + 1, 1, none⟩ (.int .i64 ea)).drew)
    exact ⟨⟨k1.os, k1.tape, k1.output, k1.size, k1.block⟩, nn.1, nn.2, rfl, rfl⟩
end Go.Proofs.Ythbpacilceemlaa
