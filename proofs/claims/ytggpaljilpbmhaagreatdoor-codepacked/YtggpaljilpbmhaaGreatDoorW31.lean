import Derived.Test.YtggpaljilpbmhaaGreatDoorW30
import Derived.Test.YtggpaljilpbmhaaGreatDoorW44
namespace Go.Proofs.YtggpaljilpbmhaaGreatDoor
open Go.RowKit

theorem nums_same {k : IntKind} {f g : Nat → Int} {n : Nat} (h : ∀ j, j < n → f j = g j) : nums k f n = nums k g n := by
 unfold nums
 refine List.map_congr_left (fun j hj => ?_)
 rw [h j (List.mem_range.1 hj)]
/-- What was read is any program that is packed alike. -/
theorem po_to {B : Nat} {g : Pg} {p q : Pv} {w : World} (h : Po B g q w) (e : p.nc = q.nc ∧ p.ns = q.ns ∧ p.n = q.n ∧ (∀ j, j < q.nc → p.C j = q.C j) ∧ (∀ j, j < q.ns → p.S j = q.S j) ∧ (∀ e, e < 6 → p.en e = q.en e) ∧ (∀ i, i < q.n → p.op i = q.op i ∧ p.arg i = q.arg i)) : Po B g p w ∧ g.cs p = g.cs q := by
 obtain ⟨n1, n2, n3, c, s, en, ins⟩ := e
 refine ⟨⟨?_, ?_, ?_, ?_⟩, ?_⟩
 ·rw [n1, nums_same c]; exact h.c
 ·rw [n2, nums_same s]; exact h.s
 ·rw [n3]
  exact irow_congr h.i (fun j hj => (ins j hj).1.symm) (fun j hj => (ins j hj).2.symm)
 ·have k := h.ok
  refine ⟨by rw [n1]; exact k.hc, by rw [n2]; exact k.hs, by rw [n3]; exact k.hi, fun j hj => ?_, fun j hj => ?_, fun j hj => ?_, fun j hj => ?_, by rw [n1]; exact k.lc, by rw [n2]; exact k.ls, by rw [n3]; exact k.li⟩
  ·rw [n1] at hj; rw [c j hj]; exact k.vc j hj
  ·rw [n2] at hj; rw [s j hj]; exact k.vs j hj
  ·rw [n3] at hj; rw [(ins j hj).1]; exact k.vo j hj
  ·rw [n3] at hj; rw [(ins j hj).2]; exact k.va j hj
 ·unfold Pg.cs
  rw [n1, n2, n3, en 0 (by decide), en 1 (by decide), en 2 (by decide), en 3 (by decide), en 4 (by decide), en 5 (by decide)]
theorem long_no {B : List Nat} (h : 8192 < B.length) {p : Pv} {k : Kn} (hv : verF p = .ok k) : encP p ≠ B := fun e => by
 have := len4 (ver_wf hv) (m := p.n) (Nat.le_refl _)
 have hw := (ver_wf hv)
 rw [← e] at h
 have h : 8192 < (enc4 p p.n).length := h
 have := hw.sz
 omega
/-- What Unpack answers. -/
def Uk (W : World) (B : List Nat) (e : Ending) (w' : World) : Prop :=
 (∃ gf, e = .returned (.tuple #[.agg zP, .iface 74 (.pointer (some ⟨gf, 0, none⟩))]) ∧ Hid (Below W.heap.size W w' ∧ ∀ p k, Pkw p → verF p = .ok k → encP p ≠ B)) ∨
 (∃ (q : Pv) (gq : Pg) (k : Kn), e = .returned (.tuple #[.agg (gq.cs q).toArray, .nilIface]) ∧ Hid (Below W.heap.size W w' ∧ Po W.heap.size gq q w' ∧ Pkw q ∧ encP q = B ∧ verF q = .ok k))
theorem zback {W w wf : World} {b : Nat} {cs : Array Value} (h : w.heap[b]? = some (.cells cs 27 (0, 0))) (hc : cs.size = 9) (hB : Below W.heap.size W w) (hb : W.heap.size ≤ b) (v0 v1 v2 v3 v4 v5 v6 v7 v8 : Value) (e : set9 w b v0 v1 v2 v3 v4 v5 v6 v7 v8 = wf) : wf.heap[b]? = some (.cells #[v0, v1, v2, v3, v4, v5, v6, v7, v8] 27 (0, 0)) ∧ Below W.heap.size W wf := by
 obtain ⟨s, G⟩ := set9_blk h hc v0 v1 v2 v3 v4 v5 v6 v7 v8
 rw [e] at s G
 exact ⟨s, hB.grown G hB.size (fun x e => by cases e; exact hb)⟩
set_option maxRecDepth 10000 in
set_option maxHeartbeats 3200000 in
theorem unpackC {W : World} {l0 : Nat} {ao : Option Addr} {n cap : Nat} {B : List Nat} (h : Shows l0 W ao n cap B) (hl : l0 ≤ W.heap.size) (hg : ErrT W) (hT : Tab W) :
  Calls Tryz.prog 20 #[.slice ao n cap] W (Uk W B) := by
 obtain ⟨W1, hW1⟩ : ∃ W1, W.alloc (.cells zP 27) = W1 := ⟨_, rfl⟩
 have b1 : Below W.heap.size W W1 := by rw [← hW1]; exact below_alloc1 W _
 have A1 : W1.heap[W.heap.size]? = some (.cells zP 27 (0, 0)) := by rw [← hW1]; exact alloc_atK _ _
 have HUP := hide (unpackedC (h.kept (row := none) (grown_belowU b1) (fun g e => by cases e)) (Nat.le_trans hl b1.size) ((b1.cell (p := ⟨1, 0, none⟩) hg.lt).trans hg) (hT.below b1 hT.z))
 have HN := hide h.1
 have HB1 := hide b1
 have HA1 := hide A1
 have HW1 := hide hW1
 have HTZ := hide hT
 clear h hl hg hT b1 A1 hW1
 obtain ⟨pb, hpb⟩ : ∃ pb, W.heap.size = pb := ⟨_, rfl⟩
 have HPB := hide hpb
 unfold zP at HW1
 go_enter Tryz.func20, Tryz.ntmps20
 go_upto_region 1 with fail
 rw [HW1.out]
 clear HW1 hpb
 by_cases h8 : 8192 < n
 ·have HNO : Hid (∀ p k, Pkw p → verF p = .ok k → encP p ≠ B) := hide (fun p k _ hv => long_no (by rw [← HN.out]; exact h8) hv)
  go_wp2_with fail
  refine (refusalU 8192 _ _ W1).mono ?_
  rintro x w2 ⟨rfl, G2⟩
  have A2 : w2.heap[pb]? = some (.cells zP 27 (0, 0)) := by rw [← HPB.out]; exact (G2.out.block _ (block_lt HA1.out)).trans HA1.out
  have HBW := hide (HB1.out.trans (G2.out.mono HB1.out.size))
  clear G2
  have HZB := hide (fun wf => zback (W := W) (wf := wf) A2 rfl HBW.out (by rw [HPB.out]; exact Nat.le_refl _) (.slice none 0 0) (.slice none 0 0) (.int .i64 0) (.int .i64 0) (.int .i64 0) (.int .i64 0) (.int .i64 0) (.int .i64 0) (.slice none 0 0))
  have y0 := block_cell A2 0
  have y1 := block_cell A2 1
  have y2 := block_cell A2 2
  have y3 := block_cell A2 3
  have y4 := block_cell A2 4
  have y5 := block_cell A2 5
  have y6 := block_cell A2 6
  have y7 := block_cell A2 7
  have y8 := block_cell A2 8
  have f0 := block_free A2 0
  have f1 := block_free A2 1
  have f2 := block_free A2 2
  have f3 := block_free A2 3
  have f4 := block_free A2 4
  have f5 := block_free A2 5
  have f6 := block_free A2 6
  have f7 := block_free A2 7
  have f8 := block_free A2 8
  have yl := block_lt A2
  simp [zP] at y0 y1 y2 y3 y4 y5 y6 y7 y8
  clear A2
  go_wp2
  obtain ⟨wf, hwf⟩ : ∃ wf, set9 w2 pb (.slice none 0 0) (.slice none 0 0) (.int .i64 0) (.int .i64 0) (.int .i64 0) (.int .i64 0) (.int .i64 0) (.int .i64 0) (.slice none 0 0) = wf := ⟨_, rfl⟩
  obtain ⟨hblk, hbw⟩ := HZB.out wf hwf
  unfold set9 at hwf
  rw [hwf]
  clear hwf HZB HBW y0 y1 y2 y3 y4 y5 y6 y7 y8 f0 f1 f2 f3 f4 f5 f6 f7 f8 yl
  have c0 := block_cell hblk 0
  have c1 := block_cell hblk 1
  have c2 := block_cell hblk 2
  have c3 := block_cell hblk 3
  have c4 := block_cell hblk 4
  have c5 := block_cell hblk 5
  have c6 := block_cell hblk 6
  have c7 := block_cell hblk 7
  have c8 := block_cell hblk 8
  simp at c0 c1 c2 c3 c4 c5 c6 c7 c8
  have HE : Hid (Below W.heap.size W wf ∧ ∀ p k, Pkw p → verF p = .ok k → encP p ≠ B) := ⟨hbw, HNO.out⟩
  refine bodyPost_ret (v := .tuple #[.agg #[.slice none 0 0, .slice none 0 0, .int .i64 0, .int .i64 0, .int .i64 0, .int .i64 0, .int .i64 0, .int .i64 0, .slice none 0 0], .iface 74 (.pointer (some ⟨W1.heap.size, 0, none⟩))]) (by simp [results, Tryz.results20, go_sem, c0, c1, c2, c3, c4, c5, c6, c7, c8]) rfl ?_
  exact .inl ⟨_, rfl, HE⟩
 ·go_upto_region 3 with fail
  go_wp2_with fail
  refine HUP.out.mono ?_
  intro x w2 hh
  clear HUP
  rcases hh with ⟨gf, rfl, G⟩ | ⟨q, g, rfl, G⟩
  ·have hz : (.agg zP : Value) = .agg #[.slice none 0 0, .slice none 0 0, .int .i64 0, .int .i64 0, .int .i64 0, .int .i64 0, .int .i64 0, .int .i64 0, .slice none 0 0] := rfl
   rw [hz]
   clear hz
   go_upto_region 4 with fail
   obtain ⟨w3, hw3⟩ : ∃ w3, w2.alloc (.cells #[.slice none 0 0, .slice none 0 0, .int .i64 0, .int .i64 0, .int .i64 0, .int .i64 0, .int .i64 0, .int .i64 0, .slice none 0 0] 27) = w3 := ⟨_, rfl⟩
   have b3 : Below w2.heap.size w2 w3 := by rw [← hw3]; exact below_alloc1 _ _
   rw [hw3]
   have b13 := G.out.1.trans (b3.mono G.out.1.size)
   have A3 : w3.heap[pb]? = some (.cells zP 27 (0, 0)) := by rw [← HPB.out]; exact (b13.block _ (block_lt HA1.out)).trans HA1.out
   have HBW := hide (HB1.out.trans (b13.mono HB1.out.size))
   have HNO : Hid (∀ p k, Pkw p → verF p = .ok k → encP p ≠ B) := hide (fun p _ hp _ => G.out.2 p hp)
   clear hw3 b3 b13 G
   have HZB := hide (fun wf => zback (W := W) (wf := wf) A3 rfl HBW.out (by rw [HPB.out]; exact Nat.le_refl _) (.slice none 0 0) (.slice none 0 0) (.int .i64 0) (.int .i64 0) (.int .i64 0) (.int .i64 0) (.int .i64 0) (.int .i64 0) (.slice none 0 0))
   have y0 := block_cell A3 0
   have y1 := block_cell A3 1
   have y2 := block_cell A3 2
   have y3 := block_cell A3 3
   have y4 := block_cell A3 4
   have y5 := block_cell A3 5
   have y6 := block_cell A3 6
   have y7 := block_cell A3 7
   have y8 := block_cell A3 8
   have f0 := block_free A3 0
   have f1 := block_free A3 1
   have f2 := block_free A3 2
   have f3 := block_free A3 3
   have f4 := block_free A3 4
   have f5 := block_free A3 5
   have f6 := block_free A3 6
   have f7 := block_free A3 7
   have f8 := block_free A3 8
   have yl := block_lt A3
   simp [zP] at y0 y1 y2 y3 y4 y5 y6 y7 y8
   clear A3
   go_wp2
   obtain ⟨wf, hwf⟩ : ∃ wf, set9 w3 pb (.slice none 0 0) (.slice none 0 0) (.int .i64 0) (.int .i64 0) (.int .i64 0) (.int .i64 0) (.int .i64 0) (.int .i64 0) (.slice none 0 0) = wf := ⟨_, rfl⟩
   obtain ⟨hblk, hbw⟩ := HZB.out wf hwf
   unfold set9 at hwf
   rw [hwf]
   clear hwf HZB HBW y0 y1 y2 y3 y4 y5 y6 y7 y8 f0 f1 f2 f3 f4 f5 f6 f7 f8 yl
   have c0 := block_cell hblk 0
   have c1 := block_cell hblk 1
   have c2 := block_cell hblk 2
   have c3 := block_cell hblk 3
   have c4 := block_cell hblk 4
   have c5 := block_cell hblk 5
   have c6 := block_cell hblk 6
   have c7 := block_cell hblk 7
   have c8 := block_cell hblk 8
   simp at c0 c1 c2 c3 c4 c5 c6 c7 c8
   have HE : Hid (Below W.heap.size W wf ∧ ∀ p k, Pkw p → verF p = .ok k → encP p ≠ B) := ⟨hbw, HNO.out⟩
   refine bodyPost_ret (v := .tuple #[.agg #[.slice none 0 0, .slice none 0 0, .int .i64 0, .int .i64 0, .int .i64 0, .int .i64 0, .int .i64 0, .int .i64 0, .slice none 0 0], .iface 74 (.pointer (some ⟨gf, 0, none⟩))]) (by simp [results, Tryz.results20, go_sem, c0, c1, c2, c3, c4, c5, c6, c7, c8]) rfl ?_
   exact .inl ⟨_, rfl, HE⟩
  ·obtain ⟨p, HP⟩ : ∃ p, Hid (Below W1.heap.size W1 w2 ∧ Po W1.heap.size g p w2 ∧ g.cs p = g.cs q ∧ Pkw p ∧ encP p = B ∧ ((∃ k, verF p = .ok k) ∨ ∀ p k, Pkw p → verF p = .ok k → encP p ≠ B)) := by
    obtain ⟨g1, g2, g3, g4⟩ := G.out
    by_cases hex : ∃ p k, Pkw p ∧ verF p = .ok k ∧ encP p = B
    ·obtain ⟨p, k, h1, h2, h3⟩ := hex
     obtain ⟨a, b⟩ := po_to g2 (enc_inj h1 g3 (h3.trans g4.symm))
     exact ⟨p, hide ⟨g1, a, b, h1, h3, .inl ⟨k, h2⟩⟩⟩
    ·exact ⟨q, hide ⟨g1, g2, rfl, g3, g4, .inr (fun p k h1 h2 h3 => hex ⟨p, k, h1, h2, h3⟩)⟩⟩
   rw [← HP.out.2.2.1]
   clear G
   have HCS : Hid ((g.cs p).toArray = #[.slice g.ca p.nc g.cc, .slice g.sa p.ns g.sc, .int .i64 (p.en 0), .int .i64 (p.en 1), .int .i64 (p.en 2), .int .i64 (p.en 3), .int .i64 (p.en 4), .int .i64 (p.en 5), .slice g.ia p.n g.ic]) := rfl
   rw [HCS.out]
   obtain ⟨w3, hw3⟩ : ∃ w3, w2.alloc (.cells #[.slice g.ca p.nc g.cc, .slice g.sa p.ns g.sc, .int .i64 (p.en 0), .int .i64 (p.en 1), .int .i64 (p.en 2), .int .i64 (p.en 3), .int .i64 (p.en 4), .int .i64 (p.en 5), .slice g.ia p.n g.ic] 27) = w3 := ⟨_, rfl⟩
   have b3 : Below w2.heap.size w2 w3 := by rw [← hw3]; exact below_alloc1 _ _
   have A4 : w3.heap[w2.heap.size]? = some (.cells #[.slice g.ca p.nc g.cc, .slice g.sa p.ns g.sc, .int .i64 (p.en 0), .int .i64 (p.en 1), .int .i64 (p.en 2), .int .i64 (p.en 3), .int .i64 (p.en 4), .int .i64 (p.en 5), .slice g.ia p.n g.ic] 27 (0, 0)) := by rw [← hw3]; exact alloc_atK _ _
   have b13 := HP.out.1.trans (b3.mono HP.out.1.size)
   have b03 := HB1.out.trans (b13.mono HB1.out.size)
   have A3 : w3.heap[pb]? = some (.cells zP 27 (0, 0)) := by rw [← HPB.out]; exact (b13.block _ (block_lt HA1.out)).trans HA1.out
   have HPO := hide (HP.out.2.1.next b3)
   have HV := hide (verifyC HPO.out.ok (HTZ.out.below b03 HTZ.out.z))
   rw [HCS.out] at HV
   have HA3 := hide A3
   have HA4 := hide A4
   have HB3 := hide b03
   have HL3 := hide (And.intro (block_lt A3) (block_lt A4))
   have HLE := hide HB1.out.size
   have HR := hide HP.out.2.2.2
   have HW3 := hide hw3
   clear hw3 b3 b13 b03 A3 HP HB1 HTZ HA1
   go_upto_region 4 with fail
   rw [HW3.out]
   clear HW3
   have y0 := block_cell A4 0
   have y1 := block_cell A4 1
   have y2 := block_cell A4 2
   have y3 := block_cell A4 3
   have y4 := block_cell A4 4
   have y5 := block_cell A4 5
   have y6 := block_cell A4 6
   have y7 := block_cell A4 7
   have y8 := block_cell A4 8
   have yl := block_lt A4
   simp at y0 y1 y2 y3 y4 y5 y6 y7 y8
   clear A4
   go_wp2_with fail
   refine HV.out.mono ?_
   intro x w4 hh
   clear HV y0 y1 y2 y3 y4 y5 y6 y7 y8 yl
   have HS := HR.out.2.2
   cases hv : verF p with
   | error z =>
    obtain ⟨a, y⟩ := z
    rw [hv] at hh
    obtain ⟨gf, rfl, G⟩ := hh
    have HNO : Hid (∀ p k, Pkw p → verF p = .ok k → encP p ≠ B) := by
     rcases HS with ⟨k, e⟩ | e
     ·rw [hv] at e; cases e
     ·exact hide e
    have A5 := (G.out.2.block _ (block_lt HA3.out)).trans HA3.out
    have HBW := hide (HB3.out.trans (G.out.2.mono HB3.out.size))
    clear HS hv G HR HPO HA3 HA4 HB3 HL3 HLE
    have HZB := hide (fun wf => zback (W := W) (wf := wf) A5 rfl HBW.out (by rw [HPB.out]; exact Nat.le_refl _) (.slice none 0 0) (.slice none 0 0) (.int .i64 0) (.int .i64 0) (.int .i64 0) (.int .i64 0) (.int .i64 0) (.int .i64 0) (.slice none 0 0))
    have y0 := block_cell A5 0
    have y1 := block_cell A5 1
    have y2 := block_cell A5 2
    have y3 := block_cell A5 3
    have y4 := block_cell A5 4
    have y5 := block_cell A5 5
    have y6 := block_cell A5 6
    have y7 := block_cell A5 7
    have y8 := block_cell A5 8
    have f0 := block_free A5 0
    have f1 := block_free A5 1
    have f2 := block_free A5 2
    have f3 := block_free A5 3
    have f4 := block_free A5 4
    have f5 := block_free A5 5
    have f6 := block_free A5 6
    have f7 := block_free A5 7
    have f8 := block_free A5 8
    have yl := block_lt A5
    simp [zP] at y0 y1 y2 y3 y4 y5 y6 y7 y8
    clear A5
    go_wp2
    obtain ⟨wf, hwf⟩ : ∃ wf, set9 w4 pb (.slice none 0 0) (.slice none 0 0) (.int .i64 0) (.int .i64 0) (.int .i64 0) (.int .i64 0) (.int .i64 0) (.int .i64 0) (.slice none 0 0) = wf := ⟨_, rfl⟩
    obtain ⟨hblk, hbw⟩ := HZB.out wf hwf
    unfold set9 at hwf
    rw [hwf]
    clear hwf HZB HBW y0 y1 y2 y3 y4 y5 y6 y7 y8 f0 f1 f2 f3 f4 f5 f6 f7 f8 yl
    have c0 := block_cell hblk 0
    have c1 := block_cell hblk 1
    have c2 := block_cell hblk 2
    have c3 := block_cell hblk 3
    have c4 := block_cell hblk 4
    have c5 := block_cell hblk 5
    have c6 := block_cell hblk 6
    have c7 := block_cell hblk 7
    have c8 := block_cell hblk 8
    simp at c0 c1 c2 c3 c4 c5 c6 c7 c8
    have HE : Hid (Below W.heap.size W wf ∧ ∀ p k, Pkw p → verF p = .ok k → encP p ≠ B) := ⟨hbw, HNO.out⟩
    refine bodyPost_ret (v := .tuple #[.agg #[.slice none 0 0, .slice none 0 0, .int .i64 0, .int .i64 0, .int .i64 0, .int .i64 0, .int .i64 0, .int .i64 0, .slice none 0 0], .iface 74 (.pointer (some ⟨gf, 0, none⟩))]) (by simp [results, Tryz.results20, go_sem, c0, c1, c2, c3, c4, c5, c6, c7, c8]) rfl ?_
    exact .inl ⟨_, rfl, HE⟩
   | ok k =>
    rw [hv] at hh
    obtain ⟨rfl, G⟩ := hh
    have A5 := (G.out.block _ (block_lt HA3.out)).trans HA3.out
    have A6 := (G.out.block _ (block_lt HA4.out)).trans HA4.out
    have HBW := hide (HB3.out.trans (G.out.mono HB3.out.size))
    have HPO5 := hide (HPO.out.next G.out)
    have HZB := hide (fun wf => zback (W := W) (wf := wf) A5 rfl HBW.out (by rw [HPB.out]; exact Nat.le_refl _) (.slice g.ca p.nc g.cc) (.slice g.sa p.ns g.sc) (.int .i64 (p.en 0)) (.int .i64 (p.en 1)) (.int .i64 (p.en 2)) (.int .i64 (p.en 3)) (.int .i64 (p.en 4)) (.int .i64 (p.en 5)) (.slice g.ia p.n g.ic))
    have HZO : Hid (∀ wf, set9 w4 pb (.slice g.ca p.nc g.cc) (.slice g.sa p.ns g.sc) (.int .i64 (p.en 0)) (.int .i64 (p.en 1)) (.int .i64 (p.en 2)) (.int .i64 (p.en 3)) (.int .i64 (p.en 4)) (.int .i64 (p.en 5)) (.slice g.ia p.n g.ic) = wf → Po W.heap.size g p wf) := hide (by
     intro wf e
     subst e
     exact (HPO5.out.off A5 (by decide) (by decide) (by decide) (set9_grown w4 pb _ _ _ _ _ _ _ _ _)).low HLE.out)
    have HVV := hide hv
    clear HS hv G HPO HA3 HA4 HB3 HL3 HLE HPO5
    have y0 := block_cell A5 0
    have y1 := block_cell A5 1
    have y2 := block_cell A5 2
    have y3 := block_cell A5 3
    have y4 := block_cell A5 4
    have y5 := block_cell A5 5
    have y6 := block_cell A5 6
    have y7 := block_cell A5 7
    have y8 := block_cell A5 8
    have f0 := block_free A5 0
    have f1 := block_free A5 1
    have f2 := block_free A5 2
    have f3 := block_free A5 3
    have f4 := block_free A5 4
    have f5 := block_free A5 5
    have f6 := block_free A5 6
    have f7 := block_free A5 7
    have f8 := block_free A5 8
    have yl := block_lt A5
    have t0 := block_cell A6 0
    have t1 := block_cell A6 1
    have t2 := block_cell A6 2
    have t3 := block_cell A6 3
    have t4 := block_cell A6 4
    have t5 := block_cell A6 5
    have t6 := block_cell A6 6
    have t7 := block_cell A6 7
    have t8 := block_cell A6 8
    have tl := block_lt A6
    simp [zP] at y0 y1 y2 y3 y4 y5 y6 y7 y8
    simp at t0 t1 t2 t3 t4 t5 t6 t7 t8
    clear A5 A6
    go_wp2
    obtain ⟨wf, hwf⟩ : ∃ wf, set9 w4 pb (.slice g.ca p.nc g.cc) (.slice g.sa p.ns g.sc) (.int .i64 (p.en 0)) (.int .i64 (p.en 1)) (.int .i64 (p.en 2)) (.int .i64 (p.en 3)) (.int .i64 (p.en 4)) (.int .i64 (p.en 5)) (.slice g.ia p.n g.ic) = wf := ⟨_, rfl⟩
    obtain ⟨hblk, hbw⟩ := HZB.out wf hwf
    have hpo := HZO.out wf hwf
    unfold set9 at hwf
    rw [hwf]
    clear hwf HZB HZO HBW y0 y1 y2 y3 y4 y5 y6 y7 y8 f0 f1 f2 f3 f4 f5 f6 f7 f8 yl t0 t1 t2 t3 t4 t5 t6 t7 t8 tl
    have c0 := block_cell hblk 0
    have c1 := block_cell hblk 1
    have c2 := block_cell hblk 2
    have c3 := block_cell hblk 3
    have c4 := block_cell hblk 4
    have c5 := block_cell hblk 5
    have c6 := block_cell hblk 6
    have c7 := block_cell hblk 7
    have c8 := block_cell hblk 8
    simp at c0 c1 c2 c3 c4 c5 c6 c7 c8
    have HE : Hid (Below W.heap.size W wf ∧ Po W.heap.size g p wf ∧ Pkw p ∧ encP p = B ∧ verF p = .ok k) := ⟨hbw, hpo, HR.out.1, HR.out.2.1, HVV.out⟩
    refine bodyPost_ret (v := .tuple #[.agg (g.cs p).toArray, .nilIface]) (by simp [results, Tryz.results20, go_sem, Pg.cs, c0, c1, c2, c3, c4, c5, c6, c7, c8]) rfl ?_
    exact .inr ⟨p, g, k, rfl, HE⟩
end Go.Proofs.YtggpaljilpbmhaaGreatDoor
namespace Go.Proofs.YtggpaljilpbmhaaGreatDoor
open Go.RowKit Crc

set_option maxRecDepth 10000 in
set_option maxHeartbeats 400000 in
theorem sameB_walk (b1 o1 b2 o2 : Nat) (a1 a2 : Option Addr) (B : List Nat) (n c1 c2 : Nat) (w : World) (hl : n ≤ 140737488355328) (h1 : 0 < n → a1 = some ⟨b1, o1, none⟩) (h2 : 0 < n → a2 = some ⟨b2, o2, none⟩)
 (k1 : ∀ i, i < n → w.cell? ⟨b1, o1 + i, none⟩ = some (.int .u8 ((B.getD i 0 : Nat) : Int))) (k2 : ∀ i, i < n → w.cell? ⟨b2, o2 + i, none⟩ = some (.int .u8 ((B.getD i 0 : Nat) : Int))) :
  Calls Tryz.prog 16 #[.slice a1 n c1, .slice a2 n c2] w fun e w' => e = .returned (.bool true) ∧ ∃ q, w' = w.drewN q := by
 have H1 : Hid (0 < n → a1 = some ⟨b1, o1, none⟩) := h1
 have H2 : Hid (0 < n → a2 = some ⟨b2, o2, none⟩) := h2
 have K1 : Hid (∀ i, i < n → w.cell? ⟨b1, o1 + i, none⟩ = some (.int .u8 ((B.getD i 0 : Nat) : Int))) := k1
 have K2 : Hid (∀ i, i < n → w.cell? ⟨b2, o2 + i, none⟩ = some (.int .u8 ((B.getD i 0 : Nat) : Int))) := k2
 clear h1 h2 k1 k2
 go_enter Tryz.func16, Tryz.ntmps16
 go_wp2
 go_loopw [5] (fun i wr => ∃ k q : Nat, k ≤ n ∧ i = .int .i64 k ∧ wr = w.drewN q) (fun i _ => n - (intOf i).toNat)
 case atStart => exact ⟨0, 0, by omega, rfl, rfl⟩
 case round =>
  obtain ⟨k, q, hk, rfl, rfl⟩ := hrel
  by_cases hlt : k < n
  ·obtain rfl := H1.out (by omega)
   obtain rfl := H2.out (by omega)
   have g1 := K1.out k hlt
   have g2 := K2.out k hlt
   generalize B.getD k 0 = c at *
   go_wp2
   go_quiet (fail)
   go_wp2
   go_roundw
   case rel => exact ⟨k + 1, _, by omega, by go_num, rfl⟩
   case measure => simp [intOf]; omega
  ·go_wp2
   go_ret
   exact ⟨rfl, q, rfl⟩
theorem sameB_any {l1 l2 : Nat} {a1 a2 : Option Addr} {B : List Nat} {n1 n2 c1 c2 : Nat} {w : World} (h1 : Shows l1 w a1 n1 c1 B) (h2 : Shows l2 w a2 n2 c2 B) :
  Calls Tryz.prog 16 #[.slice a1 n1 c1, .slice a2 n2 c2] w fun e w' => e = .returned (.bool true) ∧ ∃ q, w' = w.drewN q := by
 obtain ⟨p1, _, p3, _, b, off, p5, _, p7⟩ := h1
 obtain ⟨q1, _, _, _, b', off', q5, _, q7⟩ := h2
 obtain rfl : n1 = n2 := by omega
 exact sameB_walk b off b' off' a1 a2 B n1 c1 c2 w p3 p5 q5 p7 q7
end Go.Proofs.YtggpaljilpbmhaaGreatDoor
