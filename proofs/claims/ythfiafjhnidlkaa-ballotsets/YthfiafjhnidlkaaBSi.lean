import Derived.Test.YthfiafjhnidlkaaBSh
namespace Go.Proofs.Ythfiafjhnidlkaa
open Go.RowKit Go.Shelf

/-- The first loop of a body. -/
def loopOf : Code → Option Code
  | .loop c => some (.loop c)
  | .seq a b => match loopOf a with
    | some c => some c
    | none => loopOf b
  | .block _ c => loopOf c
  | .scope c => loopOf c
  | .cond _ a b => match loopOf a with
    | some c => some c
    | none => loopOf b
  | _ => none
noncomputable def setsLoop : Code := ((Try.f4.body.bind loopOf).getD .skip)
set_option maxRecDepth 100000 in
set_option maxHeartbeats 4000000 in
theorem sets_loop (ps pr p13 Bn s : Nat) (hs : s < 4294967296) (W : World)
    (tS : W.heap[ps]? = some (.cells #[.int .u32 (s : Nat)] 32)) (tR : W.heap[pr]? = some (.cells #[.bool false] 4)) (tB : W.heap[Bn]? = some (.cells #[.int .u32 (s : Nat)] 32)) (tT : W.heap[p13]? = some (.cells #[.int .i64 0] 3))
    {c0 c1 c2 c3 c4 c6 c7 c10 c11 c12 c14 c15 c16 c17 c18 c19 c20 c21 c22 c23 c24 c25 c26 c27 c28 c29 c30 c31 c32 c33 c34 c35 c36 c37 c38 c39 c40 c41 c42 c43 c44 c45 c46 c47 c48 c49 c50 c51 c52 c53 c54 c55 c56 c57 c58 c59 c60 c61 c62 c63 c64 c65 c66 c67 c68 c69 c70 c71 c72 c73 c74 c75 c76 c77 c78 c79 c80 c81 c82 c83 c84 c85 c86 c87 c88 c89 c90 c91 c92 c93 c94 c95 c96 c97 c98 c99 c100 c101 c102 c103 c104 c105 c106 c107 c108 c109 c110 c111 c112 c113 c114 c115 c116 c117 c118 : Value} {Q : Exit → Act → World → Prop}
    (hQ : ∀ (e13 e14 e15 e17 e74 e75 e76 e77 e78 e107 e108 e109 e110 e111 e112 e113 e114 e115 e116 e117 e118 : Value) (D1 D2 : Nat) (W' : World), Hid (W.heap.size ≤ D1 ∧ W'.heap[D1]? = some (.deferred (some [])) ∧ W.heap.size ≤ D2 ∧ D1 ≠ D2 ∧ W'.heap[D2]? = some (.deferred (some [])) ∧ Below W.heap.size W W') → Q (.exit 0) ⟨#[c0, c1, c2, c3, c4, .pointer (some ⟨ps, 0, none⟩), c6, c7, .pointer (some ⟨pr, 0, none⟩), .func (.func 48) #[] #[.pointer (some ⟨Bn, 0, none⟩)], c10, c11, c12, e13, e14, e15, c16, e17, c18, c19, c20, c21, c22, c23, c24, c25, c26, c27, c28, c29, c30, c31, c32, c33, c34, c35, c36, c37, c38, c39, c40, c41, c42, c43, c44, c45, c46, c47, c48, c49, c50, c51, c52, c53, c54, c55, c56, c57, c58, c59, c60, c61, c62, c63, c64, c65, c66, c67, c68, c69, c70, c71, c72, c73, e74, e75, e76, e77, e78, c79, c80, c81, c82, c83, c84, c85, c86, c87, c88, c89, c90, c91, c92, c93, c94, c95, c96, c97, c98, c99, c100, c101, c102, c103, c104, c105, c106, e107, e108, e109, e110, e111, e112, e113, e114, e115, e116, e117, e118], [{ target := .collected D2, args := #[] }, { target := .collected D1, args := #[] }]⟩ W') :
    Code.wp Try.prog setsLoop Q ⟨#[c0, c1, c2, c3, c4, .pointer (some ⟨ps, 0, none⟩), c6, c7, .pointer (some ⟨pr, 0, none⟩), .func (.func 48) #[] #[.pointer (some ⟨Bn, 0, none⟩)], c10, c11, c12, .pointer (some ⟨p13, 0, none⟩), c14, c15, c16, c17, c18, c19, c20, c21, c22, c23, c24, c25, c26, c27, c28, c29, c30, c31, c32, c33, c34, c35, c36, c37, c38, c39, c40, c41, c42, c43, c44, c45, c46, c47, c48, c49, c50, c51, c52, c53, c54, c55, c56, c57, c58, c59, c60, c61, c62, c63, c64, c65, c66, c67, c68, c69, c70, c71, c72, c73, c74, c75, c76, c77, c78, c79, c80, c81, c82, c83, c84, c85, c86, c87, c88, c89, c90, c91, c92, c93, c94, c95, c96, c97, c98, c99, c100, c101, c102, c103, c104, c105, c106, c107, c108, c109, c110, c111, c112, c113, c114, c115, c116, c117, c118], []⟩ W := by
  have HQ := hide hQ
  have q13 : W.cell? ⟨p13, 0, none⟩ = some (.int .i64 0) := block_cell tT 0
  have HT := hide (And.intro tS (And.intro tR (And.intro tB tT)))
  clear hQ tS tR tB tT
  conv => arg 2; whnf
  change Code.wp Try.prog (Code.loop (Code.seq (Code.seq _ _) (Code.seq setsRound _))) _ _ _
  refine wp_loop_rounds 3 ?_
  rw [rounds_succ]
  go_wp2
  refine wpIn_wide.1 (sets_round ps pr p13 Bn s hs 0 (.inl rfl) W HT.out.1 HT.out.2.1 HT.out.2.2.1 HT.out.2.2.2 (fun f14 f15 f17 f78 f107 f108 f109 f110 f111 f112 f113 f114 f115 f116 f117 D1 W1 H1 => ?_))
  have q13' : W1.cell? ⟨p13, 0, none⟩ = some (.int .i64 0) := block_cell ((H1.out.2.2.block _ (block_lt HT.out.2.2.2)).trans HT.out.2.2.2) 0
  clear q13
  go_wp2
  rw [rounds_succ]
  go_wp2
  obtain ⟨W2, hW2⟩ : ∃ W2, W1.alloc (.cells #[.int .i64 1] 3) = W2 := ⟨_, rfl⟩
  have b2 : Below W1.heap.size W1 W2 := by rw [← hW2]; exact (Below.refl _ _).alloc (Nat.le_refl _) _
  have t2 := alloc_atK W1 (.cells #[.int .i64 1] 3)
  rw [hW2] at t2
  rw [hW2]
  have B2 : Hid (Below W.heap.size W W2) := H1.out.2.2.trans (b2.mono H1.out.2.2.size)
  have K2 : Hid (W2.heap[D1]? = some (.deferred (some []))) := (b2.block _ (Array.getElem?_eq_some_iff.1 H1.out.2.1).1).trans H1.out.2.1
  have HD : Hid (W.heap.size ≤ D1) := H1.out.1
  have HT2 := hide t2
  clear b2 t2 hW2 H1 q13'
  generalize W1.heap.size = p2 at *
  refine wpIn_wide.1 (sets_round ps pr p2 Bn s hs 1 (.inr rfl) W2 ((B2.out.block _ (block_lt HT.out.1)).trans HT.out.1) ((B2.out.block _ (block_lt HT.out.2.1)).trans HT.out.2.1) ((B2.out.block _ (block_lt HT.out.2.2.1)).trans HT.out.2.2.1) HT2.out (fun g14 g15 g17 g78 g107 g108 g109 g110 g111 g112 g113 g114 g115 g116 g117 D2 W3 H3 => ?_))
  have q13' : W3.cell? ⟨p2, 0, none⟩ = some (.int .i64 1) := block_cell ((H3.out.2.2.block _ (block_lt HT2.out)).trans HT2.out) 0
  have B3 : Hid (Below W.heap.size W W3) := B2.out.trans (H3.out.2.2.mono B2.out.size)
  have L3 : Hid (D1 < W2.heap.size) := (Array.getElem?_eq_some_iff.1 K2.out).1
  have K3 : Hid (W3.heap[D1]? = some (.deferred (some []))) := (H3.out.2.2.block _ L3.out).trans K2.out
  go_wp2
  rw [rounds_succ]
  go_wp2
  refine HQ.out _ _ _ _ _ _ _ _ _ _ _ _ _ _ _ _ _ _ _ _ _ _ _ _ ?_
  have b4 : Below W3.heap.size W3 (W3.alloc (.cells #[.int .i64 2] 3)) := (Below.refl _ _).alloc (Nat.le_refl _) _
  exact ⟨HD.out, (b4.block _ (Array.getElem?_eq_some_iff.1 K3.out).1).trans K3.out, Nat.le_trans B2.out.size H3.out.1, by have := L3.out; have := H3.out.1; omega, (b4.block _ (Array.getElem?_eq_some_iff.1 H3.out.2.1).1).trans H3.out.2.1, B3.out.trans (b4.mono B3.out.size)⟩
end Go.Proofs.Ythfiafjhnidlkaa
