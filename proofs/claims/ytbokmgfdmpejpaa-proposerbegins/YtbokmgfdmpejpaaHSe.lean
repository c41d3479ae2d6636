import Derived.Test.YtbokmgfdmpejpaaHSt
import Derived.Deep.MidRow
namespace Go.Proofs.Ytbokmgfdmpejpaa
open Go.RowKit

noncomputable def stReg5 : Code := ((Try.f14.body.bind (findRegion 5)).getD .skip)
/-- No promise is kept. -/
def proms : List Value := [.bool false, .int .u64 0, .slice none 0 0, .bool false, .int .u64 0, .slice none 0 0, .bool false, .int .u64 0, .slice none 0 0, .bool false, .int .u64 0, .slice none 0 0, .bool false, .int .u64 0, .slice none 0 0, .bool false, .int .u64 0, .slice none 0 0, .bool false, .int .u64 0, .slice none 0 0]
theorem proms_size : (Try.prog.info? 93).map (·.size) = some proms.length := by kernel_rfl
theorem proms_at {W : World} {p g : Nat} {c : Cf} {me : Int} {n : Nat} {m : Int} (h : PP W p g c me n m) : W.rangeAt p 6 proms := fun j v hj => by
  have hl : j < 21 := (List.getElem?_eq_some_iff.1 hj).1
  rw [h.cell]
  match j, hl with
  | 0, _ => exact hj
  | 1, _ => exact hj
  | 2, _ => exact hj
  | 3, _ => exact hj
  | 4, _ => exact hj
  | 5, _ => exact hj
  | 6, _ => exact hj
  | 7, _ => exact hj
  | 8, _ => exact hj
  | 9, _ => exact hj
  | 10, _ => exact hj
  | 11, _ => exact hj
  | 12, _ => exact hj
  | 13, _ => exact hj
  | 14, _ => exact hj
  | 15, _ => exact hj
  | 16, _ => exact hj
  | 17, _ => exact hj
  | 18, _ => exact hj
  | 19, _ => exact hj
  | 20, _ => exact hj
set_option maxRecDepth 100000 in
set_option maxHeartbeats 8000000 in
theorem st_reg5 {W : World} {p : Nat} {cs : List Value} (hc : W.rangeAt p 6 cs) (hsz : (Try.prog.info? 93).map (·.size) = some cs.length)
    {c1 c2 c3 c4 c5 c6 c7 c8 c9 c10 c11 c12 c13 c14 c15 c16 c17 c18 c19 c20 c21 c22 c23 c24 c25 c26 c27 c28 c29 c30 c31 c32 c33 c34 c35 c36 c37 c38 c39 c40 c41 c42 c43 c44 c45 c46 c47 c48 c49 c50 c51 c52 c53 c54 c55 c56 c57 c58 c59 c60 c61 c62 c63 c64 c65 c66 c67 c68 c69 c70 c71 c72 c73 c74 c75 c76 c77 c78 c79 c80 : Value} {Q : Exit → Act → World → Prop} (hQ : Q .normal ⟨#[.pointer (some ⟨p, 0, none⟩), c1, c2, c3, c4, c5, c6, c7, c8, c9, c10, c11, c12, c13, c14, c15, c16, c17, c18, c19, c20, c21, c22, c23, c24, c25, c26, c27, c28, c29, c30, c31, c32, c33, c34, c35, c36, c37, c38, c39, c40, c41, c42, c43, c44, c45, c46, c47, c48, c49, c50, c51, c52, c53, c54, c55, .pointer (some ⟨p, 0, none⟩), .pointer (some ⟨p, 0, none⟩), .pointer (some ⟨p, 4, none⟩), .pointer (some ⟨p, 6, none⟩), .agg cs.toArray, .int .i64 0, c62, c63, c64, c65, c66, c67, c68, c69, c70, c71, c72, c73, c74, c75, c76, c77, c78, c79, c80], []⟩ W) :
    Code.wp Try.prog stReg5 Q ⟨#[.pointer (some ⟨p, 0, none⟩), c1, c2, c3, c4, c5, c6, c7, c8, c9, c10, c11, c12, c13, c14, c15, c16, c17, c18, c19, c20, c21, c22, c23, c24, c25, c26, c27, c28, c29, c30, c31, c32, c33, c34, c35, c36, c37, c38, c39, c40, c41, c42, c43, c44, c45, c46, c47, c48, c49, c50, c51, c52, c53, c54, c55, c56, c57, c58, c59, c60, c61, c62, c63, c64, c65, c66, c67, c68, c69, c70, c71, c72, c73, c74, c75, c76, c77, c78, c79, c80], []⟩ W := by
  have HQ := hide hQ
  have HC := hide hc
  have HSZ := hide hsz
  clear hQ hc hsz
  conv => arg 2; whnf
  go_step
  refine wpList_split 4 (fun R HR => ?_)
  simp only [List.take]
  go_wp2
  refine HR.out _ _ ?_
  clear HR
  simp only [List.drop]
  refine wpList_load_mid rfl 93 _ rfl p 6 rfl cs _ HC.out Try.underlying93 rfl HSZ.out ?_
  go_wp2
  exact HQ.out
theorem ix_p0 (w : World) : (Instr.index 93 (.agg proms.toArray) (.int .i64 ((0 : Nat) : Int))).run Try.prog w = .ok (.agg #[.bool false, .int .u64 0, .slice none 0 0]) w := by kernel_rfl
theorem ix_p1 (w : World) : (Instr.index 93 (.agg proms.toArray) (.int .i64 ((1 : Nat) : Int))).run Try.prog w = .ok (.agg #[.bool false, .int .u64 0, .slice none 0 0]) w := by kernel_rfl
theorem ix_p2 (w : World) : (Instr.index 93 (.agg proms.toArray) (.int .i64 ((2 : Nat) : Int))).run Try.prog w = .ok (.agg #[.bool false, .int .u64 0, .slice none 0 0]) w := by kernel_rfl
theorem ix_p3 (w : World) : (Instr.index 93 (.agg proms.toArray) (.int .i64 ((3 : Nat) : Int))).run Try.prog w = .ok (.agg #[.bool false, .int .u64 0, .slice none 0 0]) w := by kernel_rfl
theorem ix_p4 (w : World) : (Instr.index 93 (.agg proms.toArray) (.int .i64 ((4 : Nat) : Int))).run Try.prog w = .ok (.agg #[.bool false, .int .u64 0, .slice none 0 0]) w := by kernel_rfl
theorem ix_p5 (w : World) : (Instr.index 93 (.agg proms.toArray) (.int .i64 ((5 : Nat) : Int))).run Try.prog w = .ok (.agg #[.bool false, .int .u64 0, .slice none 0 0]) w := by kernel_rfl
theorem ix_p6 (w : World) : (Instr.index 93 (.agg proms.toArray) (.int .i64 ((6 : Nat) : Int))).run Try.prog w = .ok (.agg #[.bool false, .int .u64 0, .slice none 0 0]) w := by kernel_rfl
theorem ix_prom : ∀ (k : Nat), k < 7 → ∀ w, (Instr.index 93 (.agg proms.toArray) (.int .i64 (k : Int))).run Try.prog w = .ok (.agg #[.bool false, .int .u64 0, .slice none 0 0]) w
  | 0, _, w => ix_p0 w
  | 1, _, w => ix_p1 w
  | 2, _, w => ix_p2 w
  | 3, _, w => ix_p3 w
  | 4, _, w => ix_p4 w
  | 5, _, w => ix_p5 w
  | 6, _, w => ix_p6 w
noncomputable def stLoop : Code := ((Try.f14.body.bind loopOf).getD .skip)
set_option maxRecDepth 100000 in
set_option maxHeartbeats 8000000 in
theorem st_loop {w W : World} {p g : Nat} {c : Cf} {me : Int} {n : Nat} {m : Int} {ps : Nat} {cs : List Value} (HIX : Hid (∀ (k : Nat), k < 7 → ∀ w, (Instr.index 93 (.agg cs.toArray) (.int .i64 (k : Int))).run Try.prog w = .ok (.agg #[.bool false, .int .u64 0, .slice none 0 0]) w)) (HS : Hid (SS w p g c me n m ps W))
    {c0 c1 c2 c3 c4 c5 c6 c7 c8 c9 c10 c11 c12 c13 c14 c15 c16 c17 c18 c19 c20 c21 c22 c23 c24 c25 c26 c27 c28 c29 c30 c31 c32 c33 c34 c35 c36 c37 c38 c39 c40 c41 c42 c43 c44 c45 c46 c47 c48 c49 c50 c51 c52 c53 c54 c55 c56 c57 c58 c59 c62 c63 c64 c65 c66 c67 c68 c69 c70 c71 c72 c73 c74 c75 c76 c77 c78 c79 c80 : Value} {Q : Exit → Act → World → Prop} (hQ : ∀ (e4 e5 e61 e62 e63 e64 e65 e66 e67 e68 e69 e70 e71 e72 e73 e74 e75 e76 e77 e78 e79 : Value) V, Hid (SS w p g c me n m ps V) → Q (.exit 0) ⟨#[c0, c1, c2, c3, e4, e5, c6, c7, c8, c9, c10, c11, c12, c13, c14, c15, c16, c17, c18, c19, c20, c21, c22, c23, c24, c25, c26, c27, c28, c29, c30, c31, c32, c33, c34, c35, c36, c37, c38, c39, c40, c41, c42, c43, c44, c45, c46, c47, c48, c49, c50, c51, c52, c53, c54, c55, c56, c57, c58, c59, .agg cs.toArray, e61, e62, e63, e64, e65, e66, e67, e68, e69, e70, e71, e72, e73, e74, e75, e76, e77, e78, e79, c80], []⟩ V) :
    Code.wp Try.prog stLoop Q ⟨#[c0, c1, c2, c3, c4, c5, c6, c7, c8, c9, c10, c11, c12, c13, c14, c15, c16, c17, c18, c19, c20, c21, c22, c23, c24, c25, c26, c27, c28, c29, c30, c31, c32, c33, c34, c35, c36, c37, c38, c39, c40, c41, c42, c43, c44, c45, c46, c47, c48, c49, c50, c51, c52, c53, c54, c55, c56, c57, c58, c59, .agg cs.toArray, .int .i64 0, c62, c63, c64, c65, c66, c67, c68, c69, c70, c71, c72, c73, c74, c75, c76, c77, c78, c79, c80], []⟩ W := by
  have HQ := hide hQ
  clear hQ
  conv => arg 2; whnf
  refine wp_loop_rounds 8 ?_
  have hix : ∀ w, (Instr.index 93 (.agg cs.toArray) (.int .i64 0)).run Try.prog w = .ok (.agg #[.bool false, .int .u64 0, .slice none 0 0]) w := HIX.out 0 (by omega)
  have HN : Hid (SS w p g c me n m ps (W.alloc (.cells #[.bool false, .int .u64 0, .slice none 0 0] 92))) := HS.out.kept ((Below.refl _ _).alloc (Nat.le_refl _) _)
  rw [rounds_succ]
  go_wp2
  generalize W.alloc (.cells #[.bool false, .int .u64 0, .slice none 0 0] 92) = V0 at *
  have H0 := HN
  clear HN hix
  have hix : ∀ w, (Instr.index 93 (.agg cs.toArray) (.int .i64 1)).run Try.prog w = .ok (.agg #[.bool false, .int .u64 0, .slice none 0 0]) w := HIX.out 1 (by omega)
  have HN : Hid (SS w p g c me n m ps (V0.alloc (.cells #[.bool false, .int .u64 0, .slice none 0 0] 92))) := H0.out.kept ((Below.refl _ _).alloc (Nat.le_refl _) _)
  rw [rounds_succ]
  go_wp2
  generalize V0.alloc (.cells #[.bool false, .int .u64 0, .slice none 0 0] 92) = V1 at *
  have H1 := HN
  clear HN hix H0
  have hix : ∀ w, (Instr.index 93 (.agg cs.toArray) (.int .i64 2)).run Try.prog w = .ok (.agg #[.bool false, .int .u64 0, .slice none 0 0]) w := HIX.out 2 (by omega)
  have HN : Hid (SS w p g c me n m ps (V1.alloc (.cells #[.bool false, .int .u64 0, .slice none 0 0] 92))) := H1.out.kept ((Below.refl _ _).alloc (Nat.le_refl _) _)
  rw [rounds_succ]
  go_wp2
  generalize V1.alloc (.cells #[.bool false, .int .u64 0, .slice none 0 0] 92) = V2 at *
  have H2 := HN
  clear HN hix H1
  have hix : ∀ w, (Instr.index 93 (.agg cs.toArray) (.int .i64 3)).run Try.prog w = .ok (.agg #[.bool false, .int .u64 0, .slice none 0 0]) w := HIX.out 3 (by omega)
  have HN : Hid (SS w p g c me n m ps (V2.alloc (.cells #[.bool false, .int .u64 0, .slice none 0 0] 92))) := H2.out.kept ((Below.refl _ _).alloc (Nat.le_refl _) _)
  rw [rounds_succ]
  go_wp2
  generalize V2.alloc (.cells #[.bool false, .int .u64 0, .slice none 0 0] 92) = V3 at *
  have H3 := HN
  clear HN hix H2
  have hix : ∀ w, (Instr.index 93 (.agg cs.toArray) (.int .i64 4)).run Try.prog w = .ok (.agg #[.bool false, .int .u64 0, .slice none 0 0]) w := HIX.out 4 (by omega)
  have HN : Hid (SS w p g c me n m ps (V3.alloc (.cells #[.bool false, .int .u64 0, .slice none 0 0] 92))) := H3.out.kept ((Below.refl _ _).alloc (Nat.le_refl _) _)
  rw [rounds_succ]
  go_wp2
  generalize V3.alloc (.cells #[.bool false, .int .u64 0, .slice none 0 0] 92) = V4 at *
  have H4 := HN
  clear HN hix H3
  have hix : ∀ w, (Instr.index 93 (.agg cs.toArray) (.int .i64 5)).run Try.prog w = .ok (.agg #[.bool false, .int .u64 0, .slice none 0 0]) w := HIX.out 5 (by omega)
  have HN : Hid (SS w p g c me n m ps (V4.alloc (.cells #[.bool false, .int .u64 0, .slice none 0 0] 92))) := H4.out.kept ((Below.refl _ _).alloc (Nat.le_refl _) _)
  rw [rounds_succ]
  go_wp2
  generalize V4.alloc (.cells #[.bool false, .int .u64 0, .slice none 0 0] 92) = V5 at *
  have H5 := HN
  clear HN hix H4
  have hix : ∀ w, (Instr.index 93 (.agg cs.toArray) (.int .i64 6)).run Try.prog w = .ok (.agg #[.bool false, .int .u64 0, .slice none 0 0]) w := HIX.out 6 (by omega)
  have HN : Hid (SS w p g c me n m ps (V5.alloc (.cells #[.bool false, .int .u64 0, .slice none 0 0] 92))) := H5.out.kept ((Below.refl _ _).alloc (Nat.le_refl _) _)
  rw [rounds_succ]
  go_wp2
  generalize V5.alloc (.cells #[.bool false, .int .u64 0, .slice none 0 0] 92) = V6 at *
  have H6 := HN
  clear HN hix H5
  rw [rounds_succ]
  go_wp2
  exact HQ.out _ _ _ _ _ _ _ _ _ _ _ _ _ _ _ _ _ _ _ _ _ _ H6
end Go.Proofs.Ytbokmgfdmpejpaa
