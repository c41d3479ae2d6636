import Derived.Test.YtbokmgfdmpejpaaHSt
import Derived.Test.YtbokmgfdmpejpaaBAw
namespace Go.Proofs.Ytbokmgfdmpejpaa
open Go.RowKit

noncomputable def stReg3 : Code := ((Try.f14.body.bind (findRegion 3)).getD .skip)
/-- While the state is laid into new memory. -/
def S3 (W : World) (n : Nat) (m : Int) : Bool → Bool → World → Prop
  | false, false, V => V = W.drew
  | true, false, V => V = W.drew.alloc (.cells #[.int .i64 0, .int .u64 0, .int .i64 0, .int .u64 0, .slice none 0 0, .slice none 0 0, .slice none 0 0, .slice none 0 0, .bool false, .int .u64 0] 70)
  | true, true, V => V = W.drew.alloc (.cells #[.int .i64 0, .int .u64 (n : Nat), .int .i64 m, .int .u64 0, .slice none 0 0, .slice none 0 0, .slice none 0 0, .slice none 0 0, .bool false, .int .u64 0] 70)
  | false, true, _ => False
theorem S3.below {W : World} {n : Nat} {m : Int} {b b2 : Bool} {V : World} (h : S3 W n m b b2 V) : Below W.heap.size W V := by
  cases b <;> cases b2 <;> simp only [S3] at h
  · subst h; exact (Below.refl _ _).drew
  · subst h; exact (Below.refl _ W).drew.alloc (Nat.le_refl _) _
  · subst h; exact (Below.refl _ W).drew.alloc (Nat.le_refl _) _
set_option maxRecDepth 100000 in
set_option maxHeartbeats 8000000 in
theorem st_reg3 {W : World} {p n : Nat} {m : Int} (z2 : W.cell? ⟨p, 2, none⟩ = some (.int .u64 (n : Nat))) (z3 : W.cell? ⟨p, 3, none⟩ = some (.int .i64 m)) (z4 : W.cell? ⟨p, 4, none⟩ = some (.int .i64 0)) (z5 : W.cell? ⟨p, 5, none⟩ = some (.int .u64 0)) (z30 : W.cell? ⟨p, 30, none⟩ = some (.bool false)) (z31 : W.cell? ⟨p, 31, none⟩ = some (.int .u64 0)) (hpl : p < W.heap.size)
    {c1 c2 c3 c4 c5 c6 c7 c8 c9 c10 c11 c12 c13 c14 c15 c16 c17 c18 c19 c20 c21 c22 c23 c24 c25 c26 c27 c28 c29 c30 c31 c32 c33 c34 c35 c36 c37 c38 c39 c40 c41 c42 c43 c44 c45 c46 c47 c48 c49 c50 c51 c52 c53 c54 c55 c56 c57 c58 c59 c60 c61 c62 c63 c64 c65 c66 c67 c68 c69 c70 c71 c72 c73 c74 c75 c76 c77 c78 c79 c80 : Value} {Q : Exit → Act → World → Prop} (hQ : Q .normal ⟨#[.pointer (some ⟨p, 0, none⟩), c1, c2, .pointer (some ⟨W.heap.size, 0, none⟩), c4, c5, c6, c7, c8, c9, .pointer (some ⟨p, 0, none⟩), .pointer (some ⟨p, 0, none⟩), .pointer (some ⟨p, 4, none⟩), .pointer (some ⟨p, 4, none⟩), .int .i64 0, .pointer (some ⟨p, 0, none⟩), .pointer (some ⟨p, 0, none⟩), .pointer (some ⟨p, 2, none⟩), .agg #[.int .u64 (n : Nat), .int .i64 m], .pointer (some ⟨p, 0, none⟩), .pointer (some ⟨p, 0, none⟩), .pointer (some ⟨p, 4, none⟩), .pointer (some ⟨p, 5, none⟩), .int .u64 0, .pointer (some ⟨p, 0, none⟩), .pointer (some ⟨p, 0, none⟩), .pointer (some ⟨p, 4, none⟩), .pointer (some ⟨p, 30, none⟩), .bool false, .pointer (some ⟨p, 0, none⟩), .pointer (some ⟨p, 0, none⟩), .pointer (some ⟨p, 4, none⟩), .pointer (some ⟨p, 31, none⟩), .int .u64 0, .agg #[.int .i64 0, .int .u64 (n : Nat), .int .i64 m, .int .u64 0, .slice none 0 0, .slice none 0 0, .slice none 0 0, .slice none 0 0, .bool false, .int .u64 0], c35, c36, c37, c38, c39, c40, c41, c42, c43, c44, c45, c46, c47, c48, c49, c50, c51, c52, c53, c54, c55, c56, c57, c58, c59, c60, c61, c62, c63, c64, c65, c66, c67, c68, c69, c70, c71, c72, c73, c74, c75, c76, c77, c78, c79, c80], []⟩ (W.drew.alloc (.cells #[.int .i64 0, .int .u64 (n : Nat), .int .i64 m, .int .u64 0, .slice none 0 0, .slice none 0 0, .slice none 0 0, .slice none 0 0, .bool false, .int .u64 0] 70))) :
    Code.wp Try.prog stReg3 Q ⟨#[.pointer (some ⟨p, 0, none⟩), c1, c2, c3, c4, c5, c6, c7, c8, c9, c10, c11, c12, c13, c14, c15, c16, c17, c18, c19, c20, c21, c22, c23, c24, c25, c26, c27, c28, c29, c30, c31, c32, c33, c34, c35, c36, c37, c38, c39, c40, c41, c42, c43, c44, c45, c46, c47, c48, c49, c50, c51, c52, c53, c54, c55, c56, c57, c58, c59, c60, c61, c62, c63, c64, c65, c66, c67, c68, c69, c70, c71, c72, c73, c74, c75, c76, c77, c78, c79, c80], []⟩ W := by
  have HQ := hide hQ
  clear hQ
  have Kz2 : Hid (∀ b b2 V, Hid (S3 W n m b b2 V) → V.cell? ⟨p, 2, none⟩ = some (.int .u64 (n : Nat))) := fun b b2 V h => (h.out.below.cell (p := ⟨p, 2, none⟩) hpl).trans z2
  have Kz3 : Hid (∀ b b2 V, Hid (S3 W n m b b2 V) → V.cell? ⟨p, 3, none⟩ = some (.int .i64 m)) := fun b b2 V h => (h.out.below.cell (p := ⟨p, 3, none⟩) hpl).trans z3
  have Kz4 : Hid (∀ b b2 V, Hid (S3 W n m b b2 V) → V.cell? ⟨p, 4, none⟩ = some (.int .i64 0)) := fun b b2 V h => (h.out.below.cell (p := ⟨p, 4, none⟩) hpl).trans z4
  have Kz5 : Hid (∀ b b2 V, Hid (S3 W n m b b2 V) → V.cell? ⟨p, 5, none⟩ = some (.int .u64 0)) := fun b b2 V h => (h.out.below.cell (p := ⟨p, 5, none⟩) hpl).trans z5
  have Kz30 : Hid (∀ b b2 V, Hid (S3 W n m b b2 V) → V.cell? ⟨p, 30, none⟩ = some (.bool false)) := fun b b2 V h => (h.out.below.cell (p := ⟨p, 30, none⟩) hpl).trans z30
  have Kz31 : Hid (∀ b b2 V, Hid (S3 W n m b b2 V) → V.cell? ⟨p, 31, none⟩ = some (.int .u64 0)) := fun b b2 V h => (h.out.below.cell (p := ⟨p, 31, none⟩) hpl).trans z31
  have KL : Hid (∀ b b2 V, Hid (S3 W n m b b2 V) → p < V.heap.size) := fun b b2 V h => Nat.lt_of_lt_of_le hpl h.out.below.size
  clear z2 z3 z4 z5 z30 z31 hpl
  conv => arg 2; whnf
  refine region_assignW (fun b b2 V => Hid (S3 W n m b b2 V)) 25 26 [(10, .pointer (some ⟨p, 0, none⟩)), (11, .pointer (some ⟨p, 0, none⟩)), (12, .pointer (some ⟨p, 4, none⟩)), (13, .pointer (some ⟨p, 4, none⟩)), (14, .int .i64 0), (15, .pointer (some ⟨p, 0, none⟩)), (16, .pointer (some ⟨p, 0, none⟩)), (17, .pointer (some ⟨p, 2, none⟩)), (18, .agg #[.int .u64 (n : Nat), .int .i64 m]), (19, .pointer (some ⟨p, 0, none⟩)), (20, .pointer (some ⟨p, 0, none⟩)), (21, .pointer (some ⟨p, 4, none⟩)), (22, .pointer (some ⟨p, 5, none⟩)), (23, .int .u64 0), (24, .pointer (some ⟨p, 0, none⟩)), (25, .pointer (some ⟨p, 0, none⟩)), (26, .pointer (some ⟨p, 4, none⟩)), (27, .pointer (some ⟨p, 30, none⟩)), (28, .bool false), (29, .pointer (some ⟨p, 0, none⟩)), (30, .pointer (some ⟨p, 0, none⟩)), (31, .pointer (some ⟨p, 4, none⟩)), (32, .pointer (some ⟨p, 31, none⟩)), (33, .int .u64 0), (34, .agg #[.int .i64 0, .int .u64 (n : Nat), .int .i64 m, .int .u64 0, .slice none 0 0, .slice none 0 0, .slice none 0 0, .slice none 0 0, .bool false, .int .u64 0]), (3, .pointer (some ⟨W.heap.size, 0, none⟩))] _ (by kernel_rfl) (by decide) (by decide) (by decide) (by kernel_rfl) (by kernel_rfl) (by kernel_rfl) (by kernel_rfl) rfl (show S3 W n m false false W.drew from rfl) ?_ (fun V1 HV1 => ?_)
  · simp only [putAll, Act.put, List.setIfInBounds_toArray, List.set_cons_zero, List.set_cons_succ]
    repeat' (first | exact AllFroW.nil | refine AllFroW.at1 rfl ?_ ?_ | refine AllFroW.at2 (by decide) rfl ?_ ?_ | refine AllFroW.off (by decide) (by decide) ?_ ?_)
    all_goals first
      | (intro b b2
         refine stepTo_yes (by rfl) (fun V hV K hK => ?_)
         have q0 := Kz2.out b b2 V hV
         have q1 := Kz3.out b b2 V hV
         have q2 := Kz4.out b b2 V hV
         have q3 := Kz5.out b b2 V hV
         have q4 := Kz30.out b b2 V hV
         have q5 := Kz31.out b b2 V hV
         have ql := KL.out b b2 V hV
         go_simp
         exact hK.out _ hV)
      | (intro b
         refine ⟨by rfl, fun V hV K hK => ?_⟩
         cases b
         · have e := hV.out
           simp only [S3] at e
           subst e
           go_simp
           exact hK.out _ (show S3 W n m true false _ from rfl)
         · exact hV.out.elim)
      | (refine ⟨by rfl, fun V hV K hK => ?_⟩
         have e := hV.out
         simp only [S3] at e
         subst e
         go_simp
         exact hK.out _ (show S3 W n m true true _ from rfl))
  simp only [putAll, Act.put, List.setIfInBounds_toArray, List.set_cons_zero, List.set_cons_succ]
  have e := HV1.out
  simp only [S3] at e
  subst e
  exact HQ.out
end Go.Proofs.Ytbokmgfdmpejpaa
