import Derived.Test.YtbokmgfdmpejpaaHSt
namespace Go.Proofs.Ytbokmgfdmpejpaa
open Go.RowKit

noncomputable def stReg11 : Code := ((Try.f14.body.bind (findRegion 11)).getD .skip)
theorem set10 {w V : World} {n : Nat} {m : Int} (h : V.heap[w.heap.size]? = some (.cells #[.int .i64 0, .int .u64 0, .int .i64 0, .int .u64 0, .slice none 0 0, .slice none 0 0, .slice none 0 0, .slice none 0 0, .bool false, .int .u64 0] 70 (0, 0))) (hb : Below w.heap.size w V) :
    ((((((((((V.setCell ⟨w.heap.size, 0, none⟩ (.int .i64 0)).setCell ⟨w.heap.size, 1, none⟩ (.int .u64 (n : Nat))).setCell ⟨w.heap.size, 2, none⟩ (.int .i64 m)).setCell ⟨w.heap.size, 3, none⟩ (.int .u64 0)).setCell ⟨w.heap.size, 4, none⟩ (.slice none 0 0)).setCell ⟨w.heap.size, 5, none⟩ (.slice none 0 0)).setCell ⟨w.heap.size, 6, none⟩ (.slice none 0 0)).setCell ⟨w.heap.size, 7, none⟩ (.slice none 0 0)).setCell ⟨w.heap.size, 8, none⟩ (.bool false)).setCell ⟨w.heap.size, 9, none⟩ (.int .u64 0)).heap[w.heap.size]? = some (.cells (scells n m) 70 (0, 0)) ∧ Below w.heap.size w ((((((((((V.setCell ⟨w.heap.size, 0, none⟩ (.int .i64 0)).setCell ⟨w.heap.size, 1, none⟩ (.int .u64 (n : Nat))).setCell ⟨w.heap.size, 2, none⟩ (.int .i64 m)).setCell ⟨w.heap.size, 3, none⟩ (.int .u64 0)).setCell ⟨w.heap.size, 4, none⟩ (.slice none 0 0)).setCell ⟨w.heap.size, 5, none⟩ (.slice none 0 0)).setCell ⟨w.heap.size, 6, none⟩ (.slice none 0 0)).setCell ⟨w.heap.size, 7, none⟩ (.slice none 0 0)).setCell ⟨w.heap.size, 8, none⟩ (.bool false)).setCell ⟨w.heap.size, 9, none⟩ (.int .u64 0)) := by
  replace h := heap_setCell_same _ w.heap.size 0 _ _ (.int .i64 0) h
  replace hb := hb.setCell (p := ⟨w.heap.size, 0, none⟩) (Nat.le_refl _) (.int .i64 0)
  replace h := heap_setCell_same _ w.heap.size 1 _ _ (.int .u64 (n : Nat)) h
  replace hb := hb.setCell (p := ⟨w.heap.size, 1, none⟩) (Nat.le_refl _) (.int .u64 (n : Nat))
  replace h := heap_setCell_same _ w.heap.size 2 _ _ (.int .i64 m) h
  replace hb := hb.setCell (p := ⟨w.heap.size, 2, none⟩) (Nat.le_refl _) (.int .i64 m)
  replace h := heap_setCell_same _ w.heap.size 3 _ _ (.int .u64 0) h
  replace hb := hb.setCell (p := ⟨w.heap.size, 3, none⟩) (Nat.le_refl _) (.int .u64 0)
  replace h := heap_setCell_same _ w.heap.size 4 _ _ (.slice none 0 0) h
  replace hb := hb.setCell (p := ⟨w.heap.size, 4, none⟩) (Nat.le_refl _) (.slice none 0 0)
  replace h := heap_setCell_same _ w.heap.size 5 _ _ (.slice none 0 0) h
  replace hb := hb.setCell (p := ⟨w.heap.size, 5, none⟩) (Nat.le_refl _) (.slice none 0 0)
  replace h := heap_setCell_same _ w.heap.size 6 _ _ (.slice none 0 0) h
  replace hb := hb.setCell (p := ⟨w.heap.size, 6, none⟩) (Nat.le_refl _) (.slice none 0 0)
  replace h := heap_setCell_same _ w.heap.size 7 _ _ (.slice none 0 0) h
  replace hb := hb.setCell (p := ⟨w.heap.size, 7, none⟩) (Nat.le_refl _) (.slice none 0 0)
  replace h := heap_setCell_same _ w.heap.size 8 _ _ (.bool false) h
  replace hb := hb.setCell (p := ⟨w.heap.size, 8, none⟩) (Nat.le_refl _) (.bool false)
  replace h := heap_setCell_same _ w.heap.size 9 _ _ (.int .u64 0) h
  replace hb := hb.setCell (p := ⟨w.heap.size, 9, none⟩) (Nat.le_refl _) (.int .u64 0)
  simp only [List.setIfInBounds_toArray, List.set_cons_zero, List.set_cons_succ] at h
  exact ⟨h, hb⟩
set_option maxRecDepth 100000 in
set_option maxHeartbeats 8000000 in
theorem st_reg11 {w W : World} {p g : Nat} {c : Cf} {me : Int} {n : Nat} {m : Int} {ps : Nat} (HS : Hid (SS w p g c me n m ps W))
    {c0 c1 c4 c5 c6 c7 c8 c9 c10 c11 c12 c13 c14 c15 c16 c17 c18 c19 c20 c21 c22 c23 c24 c25 c26 c27 c28 c29 c30 c31 c32 c33 c34 c35 c36 c37 c38 c39 c40 c41 c42 c43 c44 c45 c46 c47 c48 c49 c50 c51 c52 c53 c54 c55 c56 c57 c58 c59 c60 c61 c62 c63 c64 c65 c66 c67 c68 c69 c70 c71 c72 c73 c74 c75 c76 c77 c78 c79 c80 : Value} {Q : Exit → Act → World → Prop} (hQ : ∀ V, Hid (V.heap[w.heap.size]? = some (.cells (scells n m) 70 (0, 0)) ∧ Below w.heap.size w V) → Q .normal ⟨#[c0, c1, .pointer (some ⟨w.heap.size, 0, none⟩), .pointer (some ⟨ps, 0, none⟩), c4, c5, c6, c7, c8, c9, c10, c11, c12, c13, c14, c15, c16, c17, c18, c19, c20, c21, c22, c23, c24, c25, c26, c27, c28, c29, c30, c31, c32, c33, c34, c35, c36, c37, c38, c39, c40, c41, c42, c43, c44, c45, c46, c47, c48, c49, c50, c51, c52, c53, c54, c55, c56, c57, c58, c59, c60, c61, c62, c63, c64, c65, c66, c67, c68, c69, c70, c71, c72, c73, c74, c75, c76, c77, c78, c79, .agg #[.int .i64 0, .int .u64 (n : Nat), .int .i64 m, .int .u64 0, .slice none 0 0, .slice none 0 0, .slice none 0 0, .slice none 0 0, .bool false, .int .u64 0]], []⟩ V) :
    Code.wp Try.prog stReg11 Q ⟨#[c0, c1, .pointer (some ⟨w.heap.size, 0, none⟩), .pointer (some ⟨ps, 0, none⟩), c4, c5, c6, c7, c8, c9, c10, c11, c12, c13, c14, c15, c16, c17, c18, c19, c20, c21, c22, c23, c24, c25, c26, c27, c28, c29, c30, c31, c32, c33, c34, c35, c36, c37, c38, c39, c40, c41, c42, c43, c44, c45, c46, c47, c48, c49, c50, c51, c52, c53, c54, c55, c56, c57, c58, c59, c60, c61, c62, c63, c64, c65, c66, c67, c68, c69, c70, c71, c72, c73, c74, c75, c76, c77, c78, c79, c80], []⟩ W := by
  have HQ := hide hQ
  have HF := hide (set10 (n := n) (m := m) HS.out.res HS.out.bel)
  clear hQ
  have x := HS.out.st
  have y := HS.out.res
  unfold scells at x
  have x0 := block_cell x 0
  have y0 := block_cell y 0
  have f0 := block_free y 0
  have x1 := block_cell x 1
  have y1 := block_cell y 1
  have f1 := block_free y 1
  have x2 := block_cell x 2
  have y2 := block_cell y 2
  have f2 := block_free y 2
  have x3 := block_cell x 3
  have y3 := block_cell y 3
  have f3 := block_free y 3
  have x4 := block_cell x 4
  have y4 := block_cell y 4
  have f4 := block_free y 4
  have x5 := block_cell x 5
  have y5 := block_cell y 5
  have f5 := block_free y 5
  have x6 := block_cell x 6
  have y6 := block_cell y 6
  have f6 := block_free y 6
  have x7 := block_cell x 7
  have y7 := block_cell y 7
  have f7 := block_free y 7
  have x8 := block_cell x 8
  have y8 := block_cell y 8
  have f8 := block_free y 8
  have x9 := block_cell x 9
  have y9 := block_cell y 9
  have f9 := block_free y 9
  have hl1 := block_lt x
  have hl2 := block_lt y
  have hne := HS.out.ne
  simp at x0 y0 x1 y1 x2 y2 x3 y3 x4 y4 x5 y5 x6 y6 x7 y7 x8 y8 x9 y9
  clear x y HS
  conv => arg 2; whnf
  go_wp2
  exact HQ.out _ HF
end Go.Proofs.Ytbokmgfdmpejpaa
