import Derived.Test.YtbokmgfdmpejpaaHSm
import Derived.Test.YtbokmgfdmpejpaaHSp
namespace Go.Proofs.Ytbokmgfdmpejpaa
open Go.RowKit

/-- While like holds a state against the other. -/
structure LS (w : World) (q h : Nat) (c : Cf) (me : Int) (n : Nat) (m : Int) (pb : Nat) (V : World) : Prop where
  rp : RP V q h c me n m
  box : V.heap[pb]? = some (.cells (scells n m) 70 (0, 0))
  bel : Below w.heap.size w V
theorem LS.kept {w : World} {q h : Nat} {c : Cf} {me : Int} {n : Nat} {m : Int} {pb : Nat} {V V' : World} (r : LS w q h c me n m pb V) (hb : Below V.heap.size V V') : LS w q h c me n m pb V' := ⟨r.rp.kept hb, (hb.block _ (block_lt r.box)).trans r.box, r.bel.trans (hb.mono r.bel.size)⟩
set_option maxRecDepth 100000 in
set_option maxHeartbeats 4000000 in
theorem like_idle {w : World} {p g q h : Nat} {c c' : Cf} {me me' : Int} {n : Nat} {m : Int} (hp : PP w p g c me n m) (hr : RP w q h c' me' n m) : Calls Try.prog 10 #[.pointer (some ⟨p, 0, none⟩), .pointer (some ⟨q, 0, none⟩)] w fun e w' => e = .returned (.bool true) ∧ Hid (Below w.heap.size w w') := by
  have HS1 := hide (state_pp hp)
  have HR := hide hr
  have HSM := hide (sameS_idle n m)
  have HSP := hide (spoilS_idle n m)
  have HNEW : Hid (∀ W : World, Below w.heap.size w W → LS w q h c' me' n m W.heap.size (W.alloc (.cells (scells n m) 70))) := fun W hb => by
    have b1 : Below W.heap.size W (W.alloc (.cells (scells n m) 70)) := (Below.refl _ W).alloc (Nat.le_refl _) _
    exact ⟨(HR.out.kept hb).kept b1, alloc_atK _ _, hb.trans (b1.mono hb.size)⟩
  have KB0 : Hid (∀ pb V, Hid (LS w q h c' me' n m pb V) → V.cell? ⟨pb, 0, none⟩ = some (.int .i64 0) ∧ V.cell? ⟨pb, 1, none⟩ = some (.int .u64 (n : Nat)) ∧ V.cell? ⟨pb, 2, none⟩ = some (.int .i64 m) ∧ V.cell? ⟨pb, 3, none⟩ = some (.int .u64 0) ∧ V.cell? ⟨pb, 4, none⟩ = some (.slice none 0 0) ∧ V.cell? ⟨pb, 5, none⟩ = some (.slice none 0 0) ∧ V.cell? ⟨pb, 6, none⟩ = some (.slice none 0 0) ∧ V.cell? ⟨pb, 7, none⟩ = some (.slice none 0 0) ∧ V.cell? ⟨pb, 8, none⟩ = some (.bool false) ∧ V.cell? ⟨pb, 9, none⟩ = some (.int .u64 0)) := fun pb V r => ⟨block_cell r.out.box 0, block_cell r.out.box 1, block_cell r.out.box 2, block_cell r.out.box 3, block_cell r.out.box 4, block_cell r.out.box 5, block_cell r.out.box 6, block_cell r.out.box 7, block_cell r.out.box 8, block_cell r.out.box 9⟩
  have KBL : Hid (∀ pb V, Hid (LS w q h c' me' n m pb V) → pb < V.heap.size) := fun pb V r => block_lt r.out.box
  have HD0 : Hid (∀ pb V, Hid (LS w q h c' me' n m pb V) → Hid (LS w q h c' me' n m pb V.drew)) := fun pb V r => r.out.kept (Below.refl _ V).drew
  have KK : Hid (∀ pb V V', Hid (LS w q h c' me' n m pb V) → Hid (Below V.heap.size V V') → Hid (LS w q h c' me' n m pb V')) := fun pb V V' r hb => r.out.kept hb.out
  have KST : Hid (∀ pb V, Hid (LS w q h c' me' n m pb V) → Calls Try.prog 36 #[.pointer (some ⟨q, 0, none⟩)] V fun e w' => e = .returned (.agg (scells n m)) ∧ Hid (Below V.heap.size V w')) := fun pb V r => state_rp r.out.rp
  unfold scells at HS1 HSM HSP HNEW KST
  clear hp hr
  go_enter Try.func10, Try.ntmps10
  go_wp2_with fail
  refine HS1.out.mono ?_
  rintro e w1 ⟨rfl, B1⟩
  have L1 := hide (HNEW.out w1 B1.out)
  clear HS1 HNEW B1
  go_upto_region 2 with fail
  generalize w1.alloc (.cells #[.int .i64 0, .int .u64 (n : Nat), .int .i64 m, .int .u64 0, .slice none 0 0, .slice none 0 0, .slice none 0 0, .slice none 0 0, .bool false, .int .u64 0] 70) = W2 at *
  generalize w1.heap.size = pb at *
  have HD := hide (HD0.out pb)
  have KB := hide (KB0.out pb)
  have KL := hide (KBL.out pb)
  refine region_assign (fun V => Hid (LS w q h c' me' n m pb V)) [(9, .agg #[.int .i64 0, .int .u64 (n : Nat), .int .i64 m, .int .u64 0, .slice none 0 0, .slice none 0 0, .slice none 0 0, .slice none 0 0, .bool false, .int .u64 0]), (10, .pointer (some ⟨q, 0, none⟩)), (11, .agg #[.int .i64 0, .int .u64 (n : Nat), .int .i64 m, .int .u64 0, .slice none 0 0, .slice none 0 0, .slice none 0 0, .slice none 0 0, .bool false, .int .u64 0]), (12, .bool true), (6, .bool true)] _ (by kernel_rfl) (by kernel_rfl) (by kernel_rfl) (by kernel_rfl) rfl (HD.out _ L1) ?_ (fun V2 HV2 => ?_)
  · simp only [putAll, Act.put, List.setIfInBounds_toArray, List.set_cons_zero, List.set_cons_succ]
    repeat' (first | exact AllTo.nil | refine AllTo.cons ?_ ?_)
    all_goals first
      | exact stepTo_no (by rfl) rfl
      | (refine stepTo_yes (by rfl) (fun V hV K hK => ?_)
         have q0 := KB.out V hV
         have q1 := KL.out V hV
         go_simp
         first
           | exact hK.out _ hV
           | (go_at_call 36; refine (KST.out pb V hV).mono ?_; rintro e V' ⟨rfl, hV'⟩; exact hK.out _ (KK.out _ _ _ hV hV'))
           | (go_at_call 27; refine (HSM.out V).mono ?_; rintro e V' ⟨rfl, hV'⟩; exact hK.out _ (KK.out _ _ _ hV hV')))
  simp only [putAll, Act.put, List.setIfInBounds_toArray, List.set_cons_zero, List.set_cons_succ]
  have q0 := KB.out _ HV2
  have ql := KL.out _ HV2
  go_wp2_with fail
  refine (HSP.out _).mono ?_
  rintro e w3 ⟨⟨v3, rfl⟩, B3⟩
  have FIN := hide (KK.out pb _ _ HV2 B3)
  clear q0 ql
  go_wp2
  go_ret
  exact ⟨rfl, FIN.out.out.bel⟩
end Go.Proofs.Ytbokmgfdmpejpaa
