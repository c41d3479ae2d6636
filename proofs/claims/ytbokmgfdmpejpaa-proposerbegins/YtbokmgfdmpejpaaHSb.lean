import Derived.Test.YtbokmgfdmpejpaaHSt
namespace Go.Proofs.Ytbokmgfdmpejpaa
open Go.RowKit

noncomputable def stReg4 : Code := ((Try.f14.body.bind (findRegion 4)).getD .skip)
set_option maxRecDepth 100000 in
set_option maxHeartbeats 8000000 in
theorem st_reg4 {w W : World} {p g : Nat} {c : Cf} {me : Int} {n : Nat} {m : Int} {ps : Nat} (SS3 : Hid (SS w p g c me n m ps W))
    {c1 c2 c4 c5 c6 c7 c8 c9 c10 c11 c12 c13 c14 c15 c16 c17 c18 c19 c20 c21 c22 c23 c24 c25 c26 c27 c28 c29 c30 c31 c32 c33 c34 c35 c36 c37 c38 c39 c40 c41 c42 c43 c44 c45 c46 c47 c48 c49 c50 c51 c52 c53 c54 c55 c56 c57 c58 c59 c60 c61 c62 c63 c64 c65 c66 c67 c68 c69 c70 c71 c72 c73 c74 c75 c76 c77 c78 c79 c80 : Value} {Q : Exit → Act → World → Prop} (hQ : ∀ V, Hid (SS w p g c me n m ps V) → Q .normal ⟨#[.pointer (some ⟨p, 0, none⟩), c1, c2, .pointer (some ⟨ps, 0, none⟩), c4, c5, c6, c7, c8, c9, c10, c11, c12, c13, c14, c15, c16, c17, c18, c19, c20, c21, c22, c23, c24, c25, c26, c27, c28, c29, c30, c31, c32, c33, c34, .pointer (some ⟨p, 0, none⟩), .pointer (some ⟨p, 0, none⟩), .pointer (some ⟨p, 4, none⟩), .pointer (some ⟨p, 27, none⟩), .slice none 0 0, .slice none 0 0, .pointer (some ⟨p, 0, none⟩), .pointer (some ⟨p, 0, none⟩), .pointer (some ⟨p, 4, none⟩), .pointer (some ⟨p, 28, none⟩), .slice none 0 0, .slice none 0 0, .pointer (some ⟨p, 0, none⟩), .pointer (some ⟨p, 0, none⟩), .pointer (some ⟨p, 4, none⟩), .pointer (some ⟨p, 29, none⟩), .slice none 0 0, .slice none 0 0, .pointer (some ⟨ps, 5, none⟩), .pointer (some ⟨ps, 6, none⟩), .pointer (some ⟨ps, 7, none⟩), c56, c57, c58, c59, c60, c61, c62, c63, c64, c65, c66, c67, c68, c69, c70, c71, c72, c73, c74, c75, c76, c77, c78, c79, c80], []⟩ V) :
    Code.wp Try.prog stReg4 Q ⟨#[.pointer (some ⟨p, 0, none⟩), c1, c2, .pointer (some ⟨ps, 0, none⟩), c4, c5, c6, c7, c8, c9, c10, c11, c12, c13, c14, c15, c16, c17, c18, c19, c20, c21, c22, c23, c24, c25, c26, c27, c28, c29, c30, c31, c32, c33, c34, c35, c36, c37, c38, c39, c40, c41, c42, c43, c44, c45, c46, c47, c48, c49, c50, c51, c52, c53, c54, c55, c56, c57, c58, c59, c60, c61, c62, c63, c64, c65, c66, c67, c68, c69, c70, c71, c72, c73, c74, c75, c76, c77, c78, c79, c80], []⟩ W := by
  have HQ := hide hQ
  clear hQ
  have KT := hide (fun V => twinR_nil V)
  have KU := hide (fun V => twinV_nil V)
  have KP27 : Hid (∀ V, Hid (SS w p g c me n m ps V) → V.cell? ⟨p, 27, none⟩ = some (.slice none 0 0)) := fun V h => h.out.pp.cell 27
  have KP28 : Hid (∀ V, Hid (SS w p g c me n m ps V) → V.cell? ⟨p, 28, none⟩ = some (.slice none 0 0)) := fun V h => h.out.pp.cell 28
  have KP29 : Hid (∀ V, Hid (SS w p g c me n m ps V) → V.cell? ⟨p, 29, none⟩ = some (.slice none 0 0)) := fun V h => h.out.pp.cell 29
  have KPL : Hid (∀ V, Hid (SS w p g c me n m ps V) → p < V.heap.size) := fun V h => block_lt h.out.pp.blk
  have KSL : Hid (∀ V, Hid (SS w p g c me n m ps V) → ps < V.heap.size) := fun V h => block_lt h.out.st
  have KSF : Hid (∀ V, Hid (SS w p g c me n m ps V) → V.frozen? ⟨ps, 5, none⟩ = false ∧ V.frozen? ⟨ps, 6, none⟩ = false ∧ V.frozen? ⟨ps, 7, none⟩ = false) := fun V h => ⟨block_free h.out.st 5, block_free h.out.st 6, block_free h.out.st 7⟩
  have KSC : Hid (∀ V, Hid (SS w p g c me n m ps V) → V.cell? ⟨ps, 5, none⟩ = some (.slice none 0 0) ∧ V.cell? ⟨ps, 6, none⟩ = some (.slice none 0 0) ∧ V.cell? ⟨ps, 7, none⟩ = some (.slice none 0 0)) := fun V h => ⟨block_cell h.out.st 5, block_cell h.out.st 6, block_cell h.out.st 7⟩
  have HD : Hid (∀ V, Hid (SS w p g c me n m ps V) → Hid (SS w p g c me n m ps V.drew)) := fun V h => h.out.drew
  have K5 : Hid (∀ V, Hid (SS w p g c me n m ps V) → Hid (SS w p g c me n m ps (V.setCell ⟨ps, 5, none⟩ (.slice none 0 0)))) := fun V h => h.out.same 5 rfl
  have K6 : Hid (∀ V, Hid (SS w p g c me n m ps V) → Hid (SS w p g c me n m ps (V.setCell ⟨ps, 6, none⟩ (.slice none 0 0)))) := fun V h => h.out.same 6 rfl
  have K7 : Hid (∀ V, Hid (SS w p g c me n m ps V) → Hid (SS w p g c me n m ps (V.setCell ⟨ps, 7, none⟩ (.slice none 0 0)))) := fun V h => h.out.same 7 rfl
  conv => arg 2; whnf
  refine region_assign (fun V => Hid (SS w p g c me n m ps V)) [(35, .pointer (some ⟨p, 0, none⟩)), (36, .pointer (some ⟨p, 0, none⟩)), (37, .pointer (some ⟨p, 4, none⟩)), (38, .pointer (some ⟨p, 27, none⟩)), (39, .slice none 0 0), (40, .slice none 0 0), (41, .pointer (some ⟨p, 0, none⟩)), (42, .pointer (some ⟨p, 0, none⟩)), (43, .pointer (some ⟨p, 4, none⟩)), (44, .pointer (some ⟨p, 28, none⟩)), (45, .slice none 0 0), (46, .slice none 0 0), (47, .pointer (some ⟨p, 0, none⟩)), (48, .pointer (some ⟨p, 0, none⟩)), (49, .pointer (some ⟨p, 4, none⟩)), (50, .pointer (some ⟨p, 29, none⟩)), (51, .slice none 0 0), (52, .slice none 0 0), (53, .pointer (some ⟨ps, 5, none⟩)), (54, .pointer (some ⟨ps, 6, none⟩)), (55, .pointer (some ⟨ps, 7, none⟩))] _ (by kernel_rfl) (by kernel_rfl) (by kernel_rfl) (by kernel_rfl) rfl (HD.out _ SS3) ?_ (fun V4 HV4 => ?_)
  · simp only [putAll, Act.put, List.setIfInBounds_toArray, List.set_cons_zero, List.set_cons_succ]
    repeat' (first | exact AllTo.nil | refine AllTo.cons ?_ ?_)
    all_goals first
      | exact stepTo_no (by rfl) rfl
      | (refine stepTo_yes (by rfl) (fun V hV K hK => ?_)
         have q0 := KP27.out V hV
         have q1 := KP28.out V hV
         have q2 := KP29.out V hV
         have q3 := KPL.out V hV
         have q4 := KSL.out V hV
         have q5 := KSF.out V hV
         have q6 := KSC.out V hV
         go_simp
         first
           | exact hK.out _ hV
           | exact hK.out _ (K5.out _ hV)
           | exact hK.out _ (K6.out _ hV)
           | exact hK.out _ (K7.out _ hV)
           | (go_at_call 42; refine (KT.out V).mono ?_; rintro e V' ⟨rfl, hV'⟩; subst hV'; exact hK.out _ hV)
           | (go_at_call 43; refine (KU.out V).mono ?_; rintro e V' ⟨rfl, hV'⟩; subst hV'; exact hK.out _ hV))
  simp only [putAll, Act.put, List.setIfInBounds_toArray, List.set_cons_zero, List.set_cons_succ]
  exact HQ.out _ HV4
end Go.Proofs.Ytbokmgfdmpejpaa
