import Derived.Test.YthfiafjhnidlkaaBSf
import Derived.RangeFuncFrom
namespace Go.Proofs.Ythfiafjhnidlkaa
open Go.RowKit Go.Shelf
attribute [local go_sem] Oper.semAt_some

/-- The first range over a function in a body. -/
def rfOf : Code → Option Code
  | .rangeFunc g ps a b => some (.rangeFunc g ps a b)
  | .seq a b => match rfOf a with
    | some c => some c
    | none => rfOf b
  | .block _ c => rfOf c
  | .scope c => rfOf c
  | .loop c => rfOf c
  | .cond _ a b => match rfOf a with
    | some c => some c
    | none => rfOf b
  | _ => none
def rfBody : Code → Code
  | .rangeFunc _ _ _ b => b
  | _ => .skip
noncomputable def setsBody : Code := rfBody ((Try.f4.body.bind rfOf).getD .skip)
theorem far' {W : World} {p q : Nat} (v : Value) (h : p ≠ q) : (W.setCell ⟨p, 0, none⟩ v).cell? ⟨q, 0, none⟩ = W.cell? ⟨q, 0, none⟩ := World.cell?_setCell_far _ ⟨p, 0, none⟩ ⟨q, 0, none⟩ _ h
/-- What lies in the boxes of the law while it ranges. -/
structure SJ (ps pr p13 p14 p15 : Nat) (s : Nat) (tn : Int) (k told : Nat) (W : World) : Prop where
  cS : W.cell? ⟨ps, 0, none⟩ = some (.int .u32 (s : Nat))
  cT : W.cell? ⟨p13, 0, none⟩ = some (.int .i64 tn)
  cN : W.cell? ⟨p14, 0, none⟩ = some (.int .i64 (k : Nat))
  fN : W.frozen? ⟨p14, 0, none⟩ = false
  cO : W.cell? ⟨p15, 0, none⟩ = some (.int .i64 (told : Nat))
  fO : W.frozen? ⟨p15, 0, none⟩ = false
  cR : W.cell? ⟨pr, 0, none⟩ = some (.bool false)
  fR : W.frozen? ⟨pr, 0, none⟩ = false
structure SN (ps pr p13 p14 p15 Bn : Nat) : Prop where
  a1 : p14 ≠ p15
  a2 : p14 ≠ ps
  a3 : p14 ≠ pr
  a4 : p14 ≠ p13
  a5 : p14 ≠ Bn
  b2 : p15 ≠ ps
  b3 : p15 ≠ pr
  b4 : p15 ≠ p13
  b5 : p15 ≠ Bn
theorem SJ.next {ps pr p13 p14 p15 Bn s : Nat} {tn : Int} {k told : Nat} {W : World} (n : SN ps pr p13 p14 p15 Bn) (h : SJ ps pr p13 p14 p15 s tn k told W) (k' : Nat) :
    SJ ps pr p13 p14 p15 s tn k' told (W.setCell ⟨p14, 0, none⟩ (.int .i64 (k' : Nat))) := by
  constructor
  · rw [far' _ n.a2]; exact h.cS
  · rw [far' _ n.a4]; exact h.cT
  · exact World.cell?_setCell_same' _ _ _ (by rw [h.cN]; rfl)
  · rw [World.frozen?_setCell]; exact h.fN
  · rw [far' _ n.a1]; exact h.cO
  · rw [World.frozen?_setCell]; exact h.fO
  · rw [far' _ n.a3]; exact h.cR
  · rw [World.frozen?_setCell]; exact h.fR
theorem SJ.tell {ps pr p13 p14 p15 Bn s : Nat} {tn : Int} {k told : Nat} {W : World} (n : SN ps pr p13 p14 p15 Bn) (h : SJ ps pr p13 p14 p15 s tn k told W) (told' : Nat) :
    SJ ps pr p13 p14 p15 s tn k told' (W.setCell ⟨p15, 0, none⟩ (.int .i64 (told' : Nat))) := by
  constructor
  · rw [far' _ n.b2]; exact h.cS
  · rw [far' _ n.b4]; exact h.cT
  · rw [far' _ n.a1.symm]; exact h.cN
  · rw [World.frozen?_setCell]; exact h.fN
  · exact World.cell?_setCell_same' _ _ _ (by rw [h.cO]; rfl)
  · rw [World.frozen?_setCell]; exact h.fO
  · rw [far' _ n.b3]; exact h.cR
  · rw [World.frozen?_setCell]; exact h.fR
theorem SJ.grown {ps pr p13 p14 p15 s : Nat} {tn : Int} {k told : Nat} {W W' : World} {row : Option Nat} (h : SJ ps pr p13 p14 p15 s tn k told W) (hg : W.grownBy W' row)
    (hr : ∀ r, row = some r → ∃ o : Obj, W.heap[r]? = some o ∧ o.isCells = false) : SJ ps pr p13 p14 p15 s tn k told W' :=
  ⟨cell_kept h.cS hg hr, cell_kept h.cT hg hr, cell_kept h.cN hg hr, (frozen_kept h.cN hg hr).trans h.fN, cell_kept h.cO hg hr, (frozen_kept h.cO hg hr).trans h.fO, cell_kept h.cR hg hr, (frozen_kept h.cR hg hr).trans h.fR⟩
theorem kpB_set {Bn p : Nat} (W : World) (v : Value) (h : p ≠ Bn) : KpB Bn W (W.setCell ⟨p, 0, none⟩ v) := fun u hu => by
  rw [far' _ h]; exact hu
/-- What a round of the range keeps. -/
def SI (ps pr p13 p14 p15 s : Nat) (tn : Int) (w : World) (pre : List Int) (W : World) : Prop :=
  (∃ k, k ≤ 32 ∧ SJ ps pr p13 p14 p15 s tn k pre.length W ∧ (pre <+: memU s 32 → pre = memU s k) ∧ (tn = 0 → pre.length < 2)) ∧ Below w.heap.size w W
/-- How the range is left early. -/
def SX (ps pr p13 p14 p15 s : Nat) (tn : Int) (w : World) (c : Code) (pre : List Int) (W : World) : Prop :=
  (c = .ret ∧ ¬ pre <+: memU s 32) ∨ (c = .exit 2 ∧ tn = 0 ∧ pre.length = 2 ∧ (∃ k, SJ ps pr p13 p14 p15 s tn k 2 W) ∧ Below w.heap.size w W)
def cellN (W : World) (p : Nat) : Nat := match W.cell? ⟨p, 0, none⟩ with
  | some v => (intOf v).toNat
  | none => 0
theorem cellN_of {W : World} {p k : Nat} (h : W.cell? ⟨p, 0, none⟩ = some (.int .i64 (k : Nat))) : cellN W p = k := by
  unfold cellN
  rw [h]
  simp [intOf]
/-- The state at the head of the inner loop. -/
def SM (ps pr p13 p14 p15 Bn s : Nat) (tn : Int) (w W : World) (k len m : Nat) (wr : World) : Prop :=
  k ≤ m ∧ m ≤ 32 ∧ (∀ j, k ≤ j → j < m → s.testBit j = false) ∧ SJ ps pr p13 p14 p15 s tn m len wr ∧ Below w.heap.size w wr ∧ KeepsOthers W wr ∧ KpB Bn W wr
theorem SM.next {ps pr p13 p14 p15 Bn s : Nat} {tn : Int} {w W : World} {k len m : Nat} {wr : World} (h : SM ps pr p13 p14 p15 Bn s tn w W k len m wr) (n : SN ps pr p13 p14 p15 Bn) (hw : w.heap.size ≤ p14) (hm : m < 32) (ht : s.testBit m = false) :
    SM ps pr p13 p14 p15 Bn s tn w W k len (m + 1) (wr.setCell ⟨p14, 0, none⟩ (.int .i64 ((m : Int) + 1))) :=
  ⟨by have := h.1; omega, hm, fun j h1 h2 => by
    by_cases e : j = m
    · rw [e]; exact ht
    · exact h.2.2.1 j h1 (by omega), h.2.2.2.1.next n (m + 1), h.2.2.2.2.1.setCell (p := ⟨p14, 0, none⟩) hw _, h.2.2.2.2.2.1.trans (KeepsOthers.setCell _ _ _), kpB_t h.2.2.2.2.2.2 (kpB_set _ _ n.a5)⟩
/-- Behind a member. -/
theorem SM.step {ps pr p13 p14 p15 Bn s : Nat} {tn : Int} {w W : World} {k len m : Nat} {wr : World} (h : SM ps pr p13 p14 p15 Bn s tn w W k len m wr) (n : SN ps pr p13 p14 p15 Bn) (hw : w.heap.size ≤ p14) (hw' : w.heap.size ≤ p15) :
    SJ ps pr p13 p14 p15 s tn (m + 1) (len + 1) ((wr.setCell ⟨p14, 0, none⟩ (.int .i64 ((m : Int) + 1))).setCell ⟨p15, 0, none⟩ (.int .i64 ((len : Int) + 1))) ∧
    Below w.heap.size w ((wr.setCell ⟨p14, 0, none⟩ (.int .i64 ((m : Int) + 1))).setCell ⟨p15, 0, none⟩ (.int .i64 ((len : Int) + 1))) ∧
    KeepsOthers W ((wr.setCell ⟨p14, 0, none⟩ (.int .i64 ((m : Int) + 1))).setCell ⟨p15, 0, none⟩ (.int .i64 ((len : Int) + 1))) ∧
    KpB Bn W ((wr.setCell ⟨p14, 0, none⟩ (.int .i64 ((m : Int) + 1))).setCell ⟨p15, 0, none⟩ (.int .i64 ((len : Int) + 1))) :=
  ⟨(h.2.2.2.1.next n (m + 1)).tell n (len + 1), (h.2.2.2.2.1.setCell (p := ⟨p14, 0, none⟩) hw _).setCell (p := ⟨p15, 0, none⟩) hw' _, (h.2.2.2.2.2.1.trans (KeepsOthers.setCell _ _ _)).trans (KeepsOthers.setCell _ _ _), kpB_t (kpB_t h.2.2.2.2.2.2 (kpB_set _ _ n.a5)) (kpB_set _ _ n.b5)⟩
set_option maxRecDepth 100000 in
set_option maxHeartbeats 4000000 in
theorem sets_body (l ps pr p13 p14 p15 Bn s : Nat) (hs : s < 4294967296) (n : SN ps pr p13 p14 p15 Bn) (tn : Int) (htn : tn = 0 ∨ tn = 1) (w : World) (hw4 : w.heap.size ≤ p14) (hw5 : w.heap.size ≤ p15) (pre : List Int) (x : Int) (W : World)
    (hI : SI ps pr p13 p14 p15 s tn w pre W) (hlen : pre.length < 32) {c0 c1 c2 c3 c4 c6 c7 c9 c10 c11 c12 c17 c18 c19 c20 c21 c22 c23 c24 c25 c26 c27 c28 c29 c30 c31 c32 c33 c34 c35 c36 c37 c38 c39 c40 c41 c42 c43 c44 c45 c46 c47 c48 c49 c50 c51 c52 c53 c54 c55 c56 c57 c58 c59 c60 c61 c62 c63 c64 c65 c66 c67 c68 c69 c70 c71 c72 c73 c74 c75 c76 c77 c78 c80 c81 c82 c83 c84 c85 c86 c87 c88 c89 c90 c91 c92 c93 c94 c95 c96 c97 c98 c99 c100 c101 c102 c103 c104 c105 c106 c107 c108 c109 c110 c111 c112 c113 c114 c115 c116 c117 c118 : Value} :
    Code.wpIn (Fence.wide.inRound l) 2 Try.prog setsBody (ownPostK (KpB Bn) (SI ps pr p13 p14 p15 s tn w) (SX ps pr p13 p14 p15 s tn w) (pre ++ [x]) W) ⟨#[c0, c1, c2, c3, c4, .pointer (some ⟨ps, 0, none⟩), c6, c7, .pointer (some ⟨pr, 0, none⟩), c9, c10, c11, c12, .pointer (some ⟨p13, 0, none⟩), .pointer (some ⟨p14, 0, none⟩), .pointer (some ⟨p15, 0, none⟩), .int .i64 x, c17, c18, c19, c20, c21, c22, c23, c24, c25, c26, c27, c28, c29, c30, c31, c32, c33, c34, c35, c36, c37, c38, c39, c40, c41, c42, c43, c44, c45, c46, c47, c48, c49, c50, c51, c52, c53, c54, c55, c56, c57, c58, c59, c60, c61, c62, c63, c64, c65, c66, c67, c68, c69, c70, c71, c72, c73, c74, c75, c76, c77, c78, .int .i64 x, c80, c81, c82, c83, c84, c85, c86, c87, c88, c89, c90, c91, c92, c93, c94, c95, c96, c97, c98, c99, c100, c101, c102, c103, c104, c105, c106, c107, c108, c109, c110, c111, c112, c113, c114, c115, c116, c117, c118], []⟩ W := by
  have HH := hide (fun k W => refHas s hs k W)
  have HB : Hid (∀ k : Nat, k < 32 → hasB s (k : Int) = s.testBit k) := fun k hk => by unfold hasB; rw [decide_eq_true (by omega), Bool.true_and, Int.toNat_natCast]
  obtain ⟨⟨k, hk, hJ, hpre, ht2⟩, hB⟩ := hI
  have HN := hide n
  have HPR := hide hpre
  have HT2 := hide ht2
  have HW := hide (And.intro hw4 hw5)
  clear n hpre ht2 hw4 hw5
  conv => arg 4; whnf
  gi_wp2
  gi_loopw [] (fun wr => ∃ m : Nat, Hid (SM ps pr p13 p14 p15 Bn s tn w W k pre.length m wr)) (fun wr => 32 - cellN wr p14)
  case atStart => exact ⟨k, Nat.le_refl _, hk, fun j h1 h2 => absurd h1 (by omega), hJ, hB, KeepsOthers.refl _, fun v hv => hv⟩
  case round =>
    obtain ⟨m, HM⟩ := hrel
    clear hJ hB hk
    have cS := HM.out.2.2.2.1.cS
    have cN := HM.out.2.2.2.1.cN
    have fN := HM.out.2.2.2.1.fN
    have cR := HM.out.2.2.2.1.cR
    have fR := HM.out.2.2.2.1.fR
    by_cases hlt : m < 32
    · have HK := hide (HH.out (m : Int))
      have hbk := HB.out m hlt
      cases ht : s.testBit m with
      | false =>
        rw [hbk, ht] at HK
        have HF := hide ht
        clear hbk ht
        gi_wp2_with (refine ⟨trivial, ?_⟩; gi_at_call 22; refine (CallsIn.inRound l (callsIn_wide.2 (HK.out _))).mono ?_; rintro e w' ⟨rfl, rfl⟩)
        refine ⟨⟨m + 1, HM.out.next HN.out HW.out.1 hlt HF.out⟩, ?_⟩
        have e1 := (HM.out.next HN.out HW.out.1 hlt HF.out).2.2.2.1.cN
        rw [cellN_of cN, cellN_of e1]
        omega
      | true =>
        rw [hbk, ht] at HK
        have HT := hide ht
        clear hbk ht
        by_cases hx : x = (m : Int)
        · subst hx
          have cO := HM.out.2.2.2.1.cO
          have cT := HM.out.2.2.2.1.cT
          have q1 : (wr.setCell ⟨p14, 0, none⟩ (.int .i64 ((m : Int) + 1))).cell? ⟨p15, 0, none⟩ = some (.int .i64 (pre.length : Nat)) := (HM.out.2.2.2.1.next HN.out (m + 1)).cO
          have q2 : (wr.setCell ⟨p14, 0, none⟩ (.int .i64 ((m : Int) + 1))).frozen? ⟨p15, 0, none⟩ = false := (HM.out.2.2.2.1.next HN.out (m + 1)).fO
          have HS := hide (HM.out.step HN.out HW.out.1 HW.out.2)
          have q3 : ((wr.setCell ⟨p14, 0, none⟩ (.int .i64 ((m : Int) + 1))).setCell ⟨p15, 0, none⟩ (.int .i64 ((pre.length : Int) + 1))).cell? ⟨p13, 0, none⟩ = some (.int .i64 tn) := HS.out.1.cT
          have q4 : ((wr.setCell ⟨p14, 0, none⟩ (.int .i64 ((m : Int) + 1))).setCell ⟨p15, 0, none⟩ (.int .i64 ((pre.length : Int) + 1))).cell? ⟨p15, 0, none⟩ = some (.int .i64 ((pre.length : Int) + 1)) := HS.out.1.cO
          have HP : Hid (pre ++ [(m : Int)] <+: memU s 32 → pre ++ [(m : Int)] = memU s (m + 1)) := fun hp => (next_mem HM.out.1 HM.out.2.1 HM.out.2.2.1 (.inr HT.out) HPR.out hp).2.2
          have d1 : decide ((m : Int) > 31) = false := decide_eq_false (by omega)
          rcases htn with rfl | rfl
          · have h2 := HT2.out rfl
            by_cases h1 : pre.length = 1
            · have d2 : (((pre.length : Int) + 1) == 2) = true := by rw [h1]; rfl
              have H1 := hide h1
              clear h1 h2
              gi_wp2_with (refine ⟨trivial, ?_⟩; gi_at_call 22; refine (CallsIn.inRound l (callsIn_wide.2 (HK.out _))).mono ?_; rintro e w' ⟨rfl, rfl⟩)
              refine ⟨HS.out.2.2.1, .inr ⟨rfl, rfl, by rw [List.length_append, H1.out]; rfl, ⟨m + 1, ?_⟩, HS.out.2.1⟩⟩
              have hq := HS.out.1
              rw [H1.out] at hq ⊢
              exact hq
            · have d2 : (((pre.length : Int) + 1) == 2) = false := by simp; omega
              have H1 : Hid (pre.length + 1 < 2) := by show pre.length + 1 < 2; omega
              clear h1 h2
              gi_wp2_with (refine ⟨trivial, ?_⟩; gi_at_call 22; refine (CallsIn.inRound l (callsIn_wide.2 (HK.out _))).mono ?_; rintro e w' ⟨rfl, rfl⟩)
              refine ⟨HS.out.2.2.1, HS.out.2.2.2, ⟨m + 1, hlt, ?_, HP.out, fun _ => by rw [List.length_append]; exact H1.out⟩, HS.out.2.1⟩
              rw [List.length_append]
              exact HS.out.1
          · gi_wp2_with (refine ⟨trivial, ?_⟩; gi_at_call 22; refine (CallsIn.inRound l (callsIn_wide.2 (HK.out _))).mono ?_; rintro e w' ⟨rfl, rfl⟩)
            refine ⟨HS.out.2.2.1, HS.out.2.2.2, ⟨m + 1, hlt, ?_, HP.out, fun h => by cases h⟩, HS.out.2.1⟩
            rw [List.length_append]
            exact HS.out.1
        · have d1 : (x != (m : Int)) = true := by simp [hx]
          have HX := hide hx
          clear hx
          gi_wp2_with (refine ⟨trivial, ?_⟩; gi_at_call 22; refine (CallsIn.inRound l (callsIn_wide.2 (HK.out _))).mono ?_; rintro e w' ⟨rfl, rfl⟩)
          refine ⟨HM.out.2.2.2.2.2.1.trans (KeepsOthers.setCell _ _ _), .inl ⟨rfl, fun hp => ?_⟩⟩
          have hh := next_mem HM.out.1 HM.out.2.1 HM.out.2.2.1 (.inr HT.out) HPR.out hp
          exact HX.out hh.2.1
    · have hm : m = 32 := by have := HM.out.2.1; omega
      have d0 : decide ((m : Int) < 32) = false := decide_eq_false (by omega)
      have HL := hide hm
      by_cases hx : x = (m : Int)
      · subst hx
        have d1 : decide ((m : Int) > 31) = true := decide_eq_true (by omega)
        clear hm
        gi_wp2_with (refine ⟨trivial, ?_⟩)
        refine ⟨HM.out.2.2.2.2.2.1.trans (KeepsOthers.setCell _ _ _), .inl ⟨rfl, fun hp => ?_⟩⟩
        have hh := next_mem HM.out.1 HM.out.2.1 HM.out.2.2.1 (.inl HL.out) HPR.out hp
        have := HL.out
        omega
      · have d1 : (x != (m : Int)) = true := by simp [hx]
        clear hx hm
        gi_wp2_with (refine ⟨trivial, ?_⟩)
        refine ⟨HM.out.2.2.2.2.2.1.trans (KeepsOthers.setCell _ _ _), .inl ⟨rfl, fun hp => ?_⟩⟩
        have hh := next_mem HM.out.1 HM.out.2.1 HM.out.2.2.1 (.inl HL.out) HPR.out hp
        have := HL.out
        omega
end Go.Proofs.Ythfiafjhnidlkaa
