import Derived.Test.YthfiafjhnidlkaaBSg
namespace Go.Proofs.Ythfiafjhnidlkaa
open Go.RowKit Go.Shelf
attribute [local go_sem] Oper.semAt_some

/-- A block of a body, by its number. -/
def blkOf (n : Nat) : Code → Option Code
  | .block i c => if i = n then some (.block i c) else blkOf n c
  | .seq a b => match blkOf n a with
    | some c => some c
    | none => blkOf n b
  | .scope c => blkOf n c
  | .loop c => blkOf n c
  | .cond _ a b => match blkOf n a with
    | some c => some c
    | none => blkOf n b
  | _ => none
noncomputable def setsRound : Code := ((Try.f4.body.bind (blkOf 1)).getD .skip)
theorem cell_pre {ps : Nat} {W W' : World} {v : Value} {t : TypeId} (hb : Below W.heap.size W W') (h : W.heap[ps]? = some (.cells #[v] t (0, 0))) : W'.cell? ⟨ps, 0, none⟩ = some v ∧ W'.frozen? ⟨ps, 0, none⟩ = false :=
  box_cell ((hb.block _ (block_lt h)).trans h)
set_option maxRecDepth 100000 in
set_option maxHeartbeats 4000000 in
theorem sets_round (ps pr p13 Bn s : Nat) (hs : s < 4294967296) (tn : Int) (htn : tn = 0 ∨ tn = 1) (W : World)
    (tS : W.heap[ps]? = some (.cells #[.int .u32 (s : Nat)] 32)) (tR : W.heap[pr]? = some (.cells #[.bool false] 4)) (tB : W.heap[Bn]? = some (.cells #[.int .u32 (s : Nat)] 32)) (tT : W.heap[p13]? = some (.cells #[.int .i64 tn] 3))
    {c0 c1 c2 c3 c4 c6 c7 c10 c11 c12 c14 c15 c16 c17 c18 c19 c20 c21 c22 c23 c24 c25 c26 c27 c28 c29 c30 c31 c32 c33 c34 c35 c36 c37 c38 c39 c40 c41 c42 c43 c44 c45 c46 c47 c48 c49 c50 c51 c52 c53 c54 c55 c56 c57 c58 c59 c60 c61 c62 c63 c64 c65 c66 c67 c68 c69 c70 c71 c72 c73 c74 c75 c76 c77 c78 c79 c80 c81 c82 c83 c84 c85 c86 c87 c88 c89 c90 c91 c92 c93 c94 c95 c96 c97 c98 c99 c100 c101 c102 c103 c104 c105 c106 c107 c108 c109 c110 c111 c112 c113 c114 c115 c116 c117 c118 : Value} {Ds : List Deferred} {Q : Exit → Act → World → Prop}
    (hQ : ∀ (e14 e15 e17 e78 e107 e108 e109 e110 e111 e112 e113 e114 e115 e116 e117 : Value) (DD : Nat) (W' : World), Hid (W.heap.size ≤ DD ∧ W'.heap[DD]? = some (.deferred (some [])) ∧ Below W.heap.size W W') → Q .normal ⟨#[c0, c1, c2, c3, c4, .pointer (some ⟨ps, 0, none⟩), c6, c7, .pointer (some ⟨pr, 0, none⟩), .func (.func 48) #[] #[.pointer (some ⟨Bn, 0, none⟩)], c10, c11, c12, .pointer (some ⟨p13, 0, none⟩), e14, e15, c16, e17, c18, c19, c20, c21, c22, c23, c24, c25, c26, c27, c28, c29, c30, c31, c32, c33, c34, c35, c36, c37, c38, c39, c40, c41, c42, c43, c44, c45, c46, c47, c48, c49, c50, c51, c52, c53, c54, c55, c56, c57, c58, c59, c60, c61, c62, c63, c64, c65, c66, c67, c68, c69, c70, c71, c72, c73, c74, c75, c76, c77, e78, c79, c80, c81, c82, c83, c84, c85, c86, c87, c88, c89, c90, c91, c92, c93, c94, c95, c96, c97, c98, c99, c100, c101, c102, c103, c104, c105, c106, e107, e108, e109, e110, e111, e112, e113, e114, e115, e116, e117, c118], { target := .collected DD, args := #[] } :: Ds⟩ W') :
    Code.wpIn Fence.wide 4 Try.prog setsRound Q ⟨#[c0, c1, c2, c3, c4, .pointer (some ⟨ps, 0, none⟩), c6, c7, .pointer (some ⟨pr, 0, none⟩), .func (.func 48) #[] #[.pointer (some ⟨Bn, 0, none⟩)], c10, c11, c12, .pointer (some ⟨p13, 0, none⟩), c14, c15, c16, c17, c18, c19, c20, c21, c22, c23, c24, c25, c26, c27, c28, c29, c30, c31, c32, c33, c34, c35, c36, c37, c38, c39, c40, c41, c42, c43, c44, c45, c46, c47, c48, c49, c50, c51, c52, c53, c54, c55, c56, c57, c58, c59, c60, c61, c62, c63, c64, c65, c66, c67, c68, c69, c70, c71, c72, c73, c74, c75, c76, c77, c78, c79, c80, c81, c82, c83, c84, c85, c86, c87, c88, c89, c90, c91, c92, c93, c94, c95, c96, c97, c98, c99, c100, c101, c102, c103, c104, c105, c106, c107, c108, c109, c110, c111, c112, c113, c114, c115, c116, c117, c118], Ds⟩ W := by
  have HQ := hide hQ
  have HCR := hide (fun W => refCount s hs W)
  have hlen := memU_len s 32
  obtain ⟨lS, lR, lB, lT⟩ : ps < W.heap.size ∧ pr < W.heap.size ∧ Bn < W.heap.size ∧ p13 < W.heap.size := ⟨block_lt tS, block_lt tR, block_lt tB, block_lt tT⟩
  obtain ⟨W1, hW1⟩ : ∃ W1, (W.alloc (.cells #[.int .i64 0] 3)).alloc (.cells #[.int .i64 0] 3) = W1 := ⟨_, rfl⟩
  have hb1 : Below W.heap.size W W1 := by rw [← hW1]; exact ((Below.refl _ W).alloc (Nat.le_refl _) _).alloc (by simp) _
  have hz1 : W1.heap.size = W.heap.size + 1 + 1 := by rw [← hW1]; simp
  have t14 : W1.heap[W.heap.size]? = some (.cells #[.int .i64 0] 3) := by
    rw [← hW1]; exact (Below.heap_alloc _ _ _ (by simp)).trans (World.alloc_heap_new W _)
  have t15 : W1.heap[W.heap.size + 1]? = some (.cells #[.int .i64 0] 3) := by
    rw [← hW1]; have := World.alloc_heap_new (W.alloc (.cells #[.int .i64 0] 3)) (.cells #[.int .i64 0] 3); rwa [World.size_alloc] at this
  have hJ0 : SJ ps pr p13 W.heap.size (W.heap.size + 1) s tn 0 0 W1 := ⟨(cell_pre hb1 tS).1, (cell_pre hb1 tT).1, (box_cell t14).1, (box_cell t14).2, (box_cell t15).1, (box_cell t15).2, (cell_pre hb1 tR).1, (cell_pre hb1 tR).2⟩
  have HNN : Hid (SN ps pr p13 W.heap.size (W.heap.size + 1) Bn) := ⟨by omega, by omega, by omega, by omega, by omega, by omega, by omega, by omega, by omega⟩
  have hI0 : SI ps pr p13 W.heap.size (W.heap.size + 1) s tn W [] W1 := ⟨⟨0, by omega, hJ0, fun _ => rfl, fun _ => by simp⟩, hb1⟩
  have hcB := (cell_pre hb1 tB).1
  have HI0 := hide hI0
  have HCB := hide hcB
  have HW1 := hide hW1
  have HZ1 := hide hz1
  have HL := hide (And.intro lS (And.intro lR (And.intro lB lT)))
  clear hQ hJ0 hI0 hcB t14 t15 hz1 tS tR tB tT lS lR lB lT hb1 hW1
  conv => arg 4; whnf
  gi_wp2
  rw [HW1.out]
  refine wpIn_rangeFunc_ownF rfl (by omega) (gf := 48) (lb := #[.pointer (some ⟨Bn, 0, none⟩)]) rfl trivial (enters_of Try.func48 (by kernel_rfl) rfl)
    (members_stops (4 - 1) (by omega) Bn s hs W1 (by rw [HZ1.out]; have := HL.out.2.2.1; omega) HCB.out) kpB_t kpB_b (Below.refl _ _) (fun _ => rfl)
    (SI ps pr p13 W.heap.size (W.heap.size + 1) s tn W) (SX ps pr p13 W.heap.size (W.heap.size + 1) s tn W)
    (OwnFrom.and (Own.from (fun pre A B row hs hg hr => by obtain ⟨k, h1, h2, h3⟩ := hs; exact ⟨k, h1, h2.grown hg hr, h3⟩) _) (ownFrom_below (Nat.le_refl _) (by rw [HZ1.out]; omega)))
    (fun c pre A B row hs hg hr => hs.imp id (fun h => ⟨h.1, h.2.1, h.2.2.1, by obtain ⟨k, h2⟩ := h.2.2.2.1; exact ⟨k, h2.grown hg (fun r e => (hr r e).2)⟩, ownFrom_below (w₀ := W) (Nat.le_refl _) (by rw [HZ1.out]; omega) pre A B row h.2.2.2.2 hg hr⟩))
    HI0.out
    (fun x => ⟨#[c0, c1, c2, c3, c4, .pointer (some ⟨ps, 0, none⟩), c6, c7, .pointer (some ⟨pr, 0, none⟩), .func (.func 48) #[] #[.pointer (some ⟨Bn, 0, none⟩)], c10, c11, c12, .pointer (some ⟨p13, 0, none⟩), .pointer (some ⟨W.heap.size, 0, none⟩), .pointer (some ⟨(W.heap.size + 1), 0, none⟩), .int .i64 x, c17, c18, c19, c20, c21, c22, c23, c24, c25, c26, c27, c28, c29, c30, c31, c32, c33, c34, c35, c36, c37, c38, c39, c40, c41, c42, c43, c44, c45, c46, c47, c48, c49, c50, c51, c52, c53, c54, c55, c56, c57, c58, c59, c60, c61, c62, c63, c64, c65, c66, c67, c68, c69, c70, c71, c72, c73, c74, c75, c76, c77, .func (.func 48) #[] #[.pointer (some ⟨Bn, 0, none⟩)], .int .i64 x, c80, c81, c82, c83, c84, c85, c86, c87, c88, c89, c90, c91, c92, c93, c94, c95, c96, c97, c98, c99, c100, c101, c102, c103, c104, c105, c106, c107, c108, c109, c110, c111, c112, c113, c114, c115, c116, c117, c118], []⟩) ?assign ?body ?done ?stop
  case assign =>
    intro l x W K hK
    gi_wp2
    exact hK
  case body =>
    intro l pre x V hI hpl
    exact sets_body l ps pr p13 W.heap.size (W.heap.size + 1) Bn s hs HNN.out tn htn W (Nat.le_refl _) (by omega) pre x V hI (Nat.lt_of_lt_of_le hpl hlen)
  case done =>
    rintro D ys V hD rfl ⟨⟨k, hk, hJ, _, h2⟩, hB⟩ hK
    have hcn : (memU s 32).length = countB s := rfl
    rw [hcn] at hJ h2
    have HE := hide (And.intro (show W.heap.size ≤ D by have := HZ1.out; omega) (And.intro hK hB))
    have cS := hJ.cS
    have cT := hJ.cT
    have cO := hJ.cO
    clear hJ hB hK hcn hD
    rcases htn with rfl | rfl
    · have h3 := h2 rfl
      have d1 : decide (((countB s : Nat) : Int) > 2) = false := decide_eq_false (by omega)
      generalize countB s = cn at *
      clear h2 h3
      gi_wp2_with (refine ⟨trivial, ?_⟩; gi_at_call 23; refine (callsIn_wide.2 (HCR.out _)).mono ?_; rintro e w' ⟨rfl, rfl⟩)
      exact HQ.out _ _ _ _ _ _ _ _ _ _ _ _ _ _ _ _ _ HE
    · generalize countB s = cn at *
      gi_wp2_with (refine ⟨trivial, ?_⟩; gi_at_call 23; refine (callsIn_wide.2 (HCR.out _)).mono ?_; rintro e w' ⟨rfl, rfl⟩)
      exact HQ.out _ _ _ _ _ _ _ _ _ _ _ _ _ _ _ _ _ HE
  case stop =>
    rintro D c pre V hD hpre (⟨rfl, hno⟩ | ⟨rfl, rfl, hl, ⟨k, hJ⟩, hB⟩) hK
    · exact absurd hpre hno
    · have HE := hide (And.intro (show W.heap.size ≤ D by have := HZ1.out; omega) (And.intro hK hB))
      have cS := hJ.cS
      have cT := hJ.cT
      have cO := hJ.cO
      have hge : 2 ≤ countB s := by have := hpre.length_le; unfold countB; omega
      clear hJ hB hK hD
      generalize countB s = cn at *
      by_cases h3 : cn = 2
      · subst h3
        gi_wp2_with (refine ⟨trivial, ?_⟩; gi_at_call 23; refine (callsIn_wide.2 (HCR.out _)).mono ?_; rintro e w' ⟨rfl, rfl⟩)
        exact HQ.out _ _ _ _ _ _ _ _ _ _ _ _ _ _ _ _ _ HE
      · have d1 : decide ((cn : Int) > 2) = true := decide_eq_true (by omega)
        gi_wp2_with (refine ⟨trivial, ?_⟩; gi_at_call 23; refine (callsIn_wide.2 (HCR.out _)).mono ?_; rintro e w' ⟨rfl, rfl⟩)
        exact HQ.out _ _ _ _ _ _ _ _ _ _ _ _ _ _ _ _ _ HE
end Go.Proofs.Ythfiafjhnidlkaa
