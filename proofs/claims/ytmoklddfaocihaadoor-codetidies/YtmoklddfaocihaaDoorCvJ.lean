import Derived.Test.YtmoklddfaocihaaDoorCvI
namespace Go.Proofs.YtmoklddfaocihaaDoor
open Go.RowKit

theorem sizeF_n {p : Pv} (h : sizeF p = none) : p.n ≤ 1024 ∧ p.ns ≤ 128 ∧ p.nc ≤ 256 := by
  unfold sizeF at h
  split at h
  · cases h
  · split at h
    · cases h
    · split at h
      · cases h
      · omega
set_option maxRecDepth 10000 in
set_option maxHeartbeats 6400000 in
theorem walkedC {W : World} {g : Pg} {p : Pv} (h : g.Ok p W.heap.size W) (hT : Tab W) :
    Calls Tryd.prog 59 #[.agg (g.cs p).toArray] W (Wd W p (verF p)) := by
  have hmf : ∀ (fn : Fn) (first cap : Array Value) (w : World), (Instr.makeFunc fn first cap).run Tryd.prog w = .ok (.func fn first cap) w := fun _ _ _ _ => rfl
  obtain ⟨W3, hW3⟩ : ∃ W3, ((W.alloc (.cells (g.cs p).toArray 27)).alloc (.cells #[.slice none 0 0] 119)).alloc (.cells #[.nilIface] 35) = W3 := ⟨_, rfl⟩
  have hX := bxW_new hW3
  obtain ⟨W4, hW4⟩ : ∃ W4, W3.alloc (.cells (g.cs p ++ [Value.slice none 0 0]).toArray 145) = W4 := ⟨_, rfl⟩
  have b34 : Below W3.heap.size W3 W4 := by rw [← hW4]; exact below_alloc1 W3 _
  have B4 := hide (hX.2.1.trans (b34.mono hX.2.1.size))
  have Q4 : Hid (W4.heap[W3.heap.size]? = some (.cells (g.cs p ++ [Value.slice none 0 0]).toArray 145 (0, 0))) := by rw [← hW4]; exact alloc_atK _ _
  have C4 : Hid (WC W.heap.size W4 W3.heap.size g p) := ⟨⟨_, Q4.out⟩, h.kept B4.out (Nat.le_refl _), hX.2.1.size, hT.below B4.out hT.z, hT.z, B4.out.size⟩
  have X4 := hide (hX.1.kept b34)
  obtain ⟨r, hr⟩ : ∃ r, verF p = r := ⟨_, rfl⟩
  rw [hr]
  have HR := hide hr
  have z0 := block_cell hX.1.b0 0
  have z1 := block_cell hX.1.b0 1
  have z2 := block_cell hX.1.b0 2
  have z3 := block_cell hX.1.b0 3
  have z4 := block_cell hX.1.b0 4
  have z5 := block_cell hX.1.b0 5
  have z6 := block_cell hX.1.b0 6
  have z7 := block_cell hX.1.b0 7
  have z8 := block_cell hX.1.b0 8
  have zl := block_lt hX.1.b0
  simp [Pg.cs] at z0 z1 z2 z3 z4 z5 z6 z7 z8
  have HS := hide hX.2.2
  have HW3 := hide hW3
  have HW4 := hide hW4
  clear h hT hX b34 hr hW3 hW4
  have HCS : Hid (g.cs p = [.slice g.ca p.nc g.cc, .slice g.sa p.ns g.sc, .int .i64 (p.en 0), .int .i64 (p.en 1), .int .i64 (p.en 2), .int .i64 (p.en 3), .int .i64 (p.en 4), .int .i64 (p.en 5), .slice g.ia p.n g.ic]) := rfl
  rw [HCS.out] at HW3 HW4 ⊢
  simp only [List.cons_append, List.nil_append] at HW4
  go_enter_defers Tryd.func59, Tryd.ntmps59
  go_upto_region 1 with fail
  rw [HW3.out]
  clear HW3
  go_upto_region 3 with fail
  rw [HW4.out]
  clear HW4 z0 z1 z2 z3 z4 z5 z6 z7 z8 zl
  go_wp2_with fail
  refine (checkSizesC C4.out).mono ?_
  intro e w5 hh
  cases h0 : sizeF p with
  | some y =>
    obtain ⟨a, y⟩ := y
    rw [h0] at hh
    obtain ⟨g', rfl, G⟩ := hh
    have hr : r = .error (a, y) := by rw [← HR.out]; unfold verF; rw [h0]; rfl
    subst hr
    have HD := hide (walked_gave (p := p) (X4.out.kept G.out.2) G.out.1 (B4.out.trans (G.out.2.mono B4.out.size)))
    go_wp2
    exact HD.out _ rfl rfl
  | none =>
  rw [h0] at hh
  obtain ⟨rfl, G5⟩ := hh
  have C5 := hide (C4.out.kept G5.out)
  have X5 := hide (X4.out.kept G5.out)
  have B5 := hide (B4.out.trans (G5.out.mono B4.out.size))
  have Q5 := hide ((G5.out.block _ (block_lt Q4.out)).trans Q4.out)
  go_wp2_with fail
  refine (checkSlotsC C5.out).mono ?_
  intro e w6 hh
  cases h1 : slotF p with
  | some y =>
    obtain ⟨a, y⟩ := y
    rw [h1] at hh
    obtain ⟨g', rfl, G⟩ := hh
    have hr : r = .error (a, y) := by rw [← HR.out]; unfold verF; rw [h0, h1]; rfl
    subst hr
    have HD := hide (walked_gave (p := p) (X5.out.kept G.out.2) G.out.1 (B5.out.trans (G.out.2.mono B5.out.size)))
    go_wp2
    exact HD.out _ rfl rfl
  | none =>
  rw [h1] at hh
  obtain ⟨rfl, G6⟩ := hh
  have C6 := hide (C5.out.kept G6.out)
  have X6 := hide (X5.out.kept G6.out)
  have B6 := hide (B5.out.trans (G6.out.mono B5.out.size))
  have Q6 := hide ((G6.out.block _ (block_lt Q5.out)).trans Q5.out)
  go_wp2_with fail
  refine (checkEntriesC C6.out).mono ?_
  intro e w7 hh
  cases h2 : entF p with
  | some y =>
    obtain ⟨a, y⟩ := y
    rw [h2] at hh
    obtain ⟨g', rfl, G⟩ := hh
    have hr : r = .error (a, y) := by rw [← HR.out]; unfold verF; rw [h0, h1, h2]; rfl
    subst hr
    have HD := hide (walked_gave (p := p) (X6.out.kept G.out.2) G.out.1 (B6.out.trans (G.out.2.mono B6.out.size)))
    go_wp2
    exact HD.out _ rfl rfl
  | none =>
  rw [h2] at hh
  obtain ⟨rfl, G7⟩ := hh
  have C7 := hide (C6.out.kept G7.out)
  have X7 := hide (X6.out.kept G7.out)
  have B7 := hide (B6.out.trans (G7.out.mono B6.out.size))
  have Q7 := hide ((G7.out.block _ (block_lt Q6.out)).trans Q6.out)
  go_wp2_with fail
  refine (checkInsC C7.out).mono ?_
  intro e w8 hh
  cases h3 : insF p with
  | some y =>
    obtain ⟨a, y⟩ := y
    rw [h3] at hh
    obtain ⟨g', rfl, G⟩ := hh
    have hr : r = .error (a, y) := by rw [← HR.out]; unfold verF; rw [h0, h1, h2, h3]; rfl
    subst hr
    have HD := hide (walked_gave (p := p) (X7.out.kept G.out.2) G.out.1 (B7.out.trans (G.out.2.mono B7.out.size)))
    go_wp2
    exact HD.out _ rfl rfl
  | none =>
  rw [h3] at hh
  obtain ⟨rfl, G8⟩ := hh
  have C8 := hide (C7.out.kept G8.out)
  have X8 := hide (X7.out.kept G8.out)
  have B8 := hide (B7.out.trans (G8.out.mono B7.out.size))
  have Q8 := hide ((G8.out.block _ (block_lt Q7.out)).trans Q7.out)
  go_wp2_with fail
  have hz := sizeF_n h0
  have HGT := hide (goThroughC C8.out Q8.out hz.1 h2 h3)
  refine HGT.out.mono ?_
  intro e w9 hh
  have hr : r = goF p p.n := by rw [← HR.out]; unfold verF; rw [h0, h1, h2, h3]; rfl
  cases h4 : goF p p.n with
  | error y =>
    obtain ⟨a, y⟩ := y
    rw [h4] at hh hr
    obtain ⟨g', rfl, G⟩ := hh
    subst hr
    have HD := hide (walked_gave (p := p) (X8.out.grown G.out.2 (by rw [HS.out]; omega)) G.out.1 (B8.out.trans (below_of_grown G.out.2 (by rw [HS.out]; omega) B8.out.size)))
    go_wp2
    exact HD.out _ rfl rfl
  | ok k =>
    rw [h4] at hh hr
    obtain ⟨rfl, G⟩ := hh
    subst hr
    obtain ⟨hb, hk, hg, hlt⟩ := G.out
    have hq : W.heap.size + 1 + 1 < W3.heap.size := by rw [HS.out]; omega
    have X9 := X8.out.grown hg hq
    have B9 := B8.out.trans (below_of_grown hg (by omega) B8.out.size)
    have hB8 := B8.out.size
    have hS8 := block_lt X8.out.b2
    obtain ⟨_, _, _, c9, ql⟩ := hk.cells
    have z1 := block_cell X9.b1 0
    have z2 := block_cell X9.b2 0
    have f1 := block_free X9.b1 0
    have f2 := block_free X9.b2 0
    have l1 := block_lt X9.b1
    have l2 := block_lt X9.b2
    simp at z1 z2
    have HD : Hid (∀ W10, (w9.setCell ⟨W.heap.size + 1, 0, none⟩ (.slice (some ⟨hb, 0, none⟩) p.n p.n)).setCell ⟨W.heap.size + 1 + 1, 0, none⟩ .nilIface = W10 → Shp W10 hb p.n k ∧ Below W.heap.size W W10 ∧ W10.cell? ⟨W.heap.size + 1, 0, none⟩ = some (.slice (some ⟨hb, 0, none⟩) p.n p.n) ∧ W10.cell? ⟨W.heap.size + 1 + 1, 0, none⟩ = some .nilIface) := by
      intro W10 hW
      have s1 := heap_setCell_same w9 (W.heap.size + 1) 0 _ _ (.slice (some ⟨hb, 0, none⟩) p.n p.n) X9.b1
      have k2 := ((grown_set w9 (W.heap.size + 1) 0 (.slice (some ⟨hb, 0, none⟩) p.n p.n)).block _ (block_lt X9.b2) (by simp)).trans X9.b2
      have s2 := heap_setCell_same _ (W.heap.size + 1 + 1) 0 _ _ .nilIface k2
      have k1 := ((grown_set (w9.setCell ⟨W.heap.size + 1, 0, none⟩ (.slice (some ⟨hb, 0, none⟩) p.n p.n)) (W.heap.size + 1 + 1) 0 .nilIface).block _ (block_lt s1) (by simp)).trans s1
      obtain ⟨cs, r1, r2⟩ := hk.row
      have n1 : hb ≠ W.heap.size + 1 := by omega
      have n2 : hb ≠ W.heap.size + 1 + 1 := by omega
      have r3 := ((grown_set w9 (W.heap.size + 1) 0 (.slice (some ⟨hb, 0, none⟩) p.n p.n)).block _ (block_lt r1) (by simpa using n1)).trans r1
      have r4 := ((grown_set (w9.setCell ⟨W.heap.size + 1, 0, none⟩ (.slice (some ⟨hb, 0, none⟩) p.n p.n)) (W.heap.size + 1 + 1) 0 .nilIface).block _ (block_lt r3) (by simpa using n2)).trans r3
      rw [hW] at k1 s2 r4
      refine ⟨⟨cs, r4, r2⟩, ?_, ?_, ?_⟩
      · rw [← hW]
        exact (B9.setCell (p := ⟨W.heap.size + 1, 0, none⟩) (by simp) _).setCell (p := ⟨W.heap.size + 1 + 1, 0, none⟩) (by simp; omega) _
      · rw [block_cell k1 0]; rfl
      · rw [block_cell s2 0]; rfl
    clear hk hg X9 B9 G X8 B8
    go_upto_region 8 with fail
    go_wp2
    obtain ⟨W10, hW10⟩ : ∃ W10, (w9.setCell ⟨W.heap.size + 1, 0, none⟩ (.slice (some ⟨hb, 0, none⟩) p.n p.n)).setCell ⟨W.heap.size + 1 + 1, 0, none⟩ .nilIface = W10 := ⟨_, rfl⟩
    obtain ⟨hsh, hB10, d1, d2⟩ := HD.out W10 hW10
    rw [hW10]
    refine leaves_cons (f := 80) (args := #[.pointer (some ⟨W.heap.size + 1, 0, none⟩), .pointer (some ⟨W.heap.size + 1 + 1, 0, none⟩)]) (by simp) (by simp [go_sem]) ?_
    refine (catch_idle _ _ W10).mono ?_
    rintro e u' w11 ⟨rfl, rfl, hw11⟩
    rw [hw11]
    exact ⟨.tuple #[.slice (some ⟨hb, 0, none⟩) p.n p.n, .nilIface], by simp [results, Tryd.results59, go_sem, d1, d2], hb, rfl, hsh, hB10⟩
end Go.Proofs.YtmoklddfaocihaaDoor
