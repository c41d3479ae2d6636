import Derived.Test.YtkdciomijemmiaaMD
import Derived.Test.YtkdciomijemmiaaMB
import Derived.Test.YtkdciomijemmiaaBPf
import Derived.Test.YtkdciomijemmiaaBGs
import Derived.Test.YtkdciomijemmiaaBPh
namespace Go.Proofs.Ytkdciomijemmiaa
open Go.RowKit Crc

/-- A command that is copied byte by byte: the first j. -/
structure Cw (W : World) (C : List Nat) (j : Nat) (v : Value) (wr : World) : Prop where
  bel : Below W.heap.size W wr
  row : wr.ownsRow W.heap.size 5 1 v j (vals (C.take j))
theorem Cw.form {W : World} {C : List Nat} {j : Nat} {v : Value} {wr : World} (h : Cw W C j v wr) : ∃ ao cap, v = .slice ao j cap := by
  rcases h.row.2 with ⟨rfl, h0⟩ | ⟨g, cap, cur, rfl, _⟩
  · exact ⟨none, 0, by rw [h0]⟩
  · exact ⟨_, cap, rfl⟩
theorem Cw.next {W : World} {C : List Nat} {j : Nat} {v v' : Value} {wr w2 : World} {o : Obj} (h : Cw W C j v wr) (hj : j < C.length) (ho : w2.ownsRow W.heap.size 5 1 v' (j + 1) (vals (C.take j) ++ [.int .u8 ((C.getD j 0 : Nat) : Int)])) (hg : (wr.alloc o).grownBy w2 v.ownBlock) : Cw W C (j + 1) v' w2 := by
  refine ⟨?_, by rw [take_snoc C j hj, vals_append, vals_one]; exact ho⟩
  have hA := World.grownBy_alloc wr o none
  have f : Fe W (wr.alloc o) (fun _ => False) := (Fe.below h.bel _).trans (Fe.grown hA (T := fun _ => False) (fun y e => by cases e)) (fun _ _ e => e)
  have f2 : Fe W w2 (fun b => v.ownBlock = some b) := (f.wide (fun _ e => e.elim)).trans (Fe.grown hg (fun y e => e)) (fun _ _ e => e)
  exact f2.toBelow _ (Nat.le_refl _) (fun j e => (h.row.lt j e).1)
/-- What CopyBatch of one request gives. -/
def CopyB (w : World) (cl sq cn : Nat) (C : List Nat) (g cp : Nat) (w' : World) : Prop := Below w.heap.size w w' ∧ g < w'.heap.size ∧ ∃ ao cap, w'.cell? ⟨g, 0, none⟩ = some (.int .u64 (cl : Int)) ∧ w'.cell? ⟨g, 1, none⟩ = some (.int .u64 (sq : Int)) ∧ w'.cell? ⟨g, 2, none⟩ = some (.slice ao cn cap) ∧ Cq w.heap.size w' (Rq.mk cl sq ao cn cap C) ∧ 1 ≤ cp
theorem cp_fin {w W3 W4 wr w2 : World} {cl sq k : Nat} {C : List Nat} {ao : Option Addr} {cp g' cap' : Nat} {o : Obj} {u : Value} (B3 : Below w.heap.size w W3) (B4 : Below W3.heap.size W3 W4) (s3 : W3.heap.size = w.heap.size + 3) (s4 : W4.heap.size = w.heap.size + 4) (hcl : cl < 18446744073709551616) (hsq : sq < 18446744073709551616) (hC : ∀ x ∈ C, x < 256) (hk : k = C.length) (hkl : k ≤ 140737488355328)
    (h : Cw W4 C k (.slice ao k cp) wr) (ho : w2.ownsRow 0 36 3 (.slice (some ⟨g', 0, none⟩) 1 cap') 1 [.int .u64 (cl : Int), .int .u64 (sq : Int), .slice ao k cp]) (hg : ((wr.setCell ⟨W3.heap.size, 2, none⟩ u).alloc o).grownBy w2 none) (hv : g' = ((wr.setCell ⟨W3.heap.size, 2, none⟩ u).alloc o).heap.size) (x1 x2 x3 : Value) :
    CopyB w cl sq k C g' cap' (((w2.setCell ⟨w.heap.size + 1 + 1, 1, none⟩ x1).setCell ⟨w.heap.size + 1, 0, none⟩ x2).setCell ⟨w.heap.size + 1, 1, none⟩ x3) := by
  have sW := h.bel.size
  have sA : ((wr.setCell ⟨W3.heap.size, 2, none⟩ u).alloc o).heap.size = wr.heap.size + 1 := by simp
  have f0 : Fe w wr (fun _ => False) := (Fe.below B3 _).trans ((Fe.below B4 _).trans (Fe.below h.bel _) (fun _ _ e => e)) (fun _ _ e => e)
  have f1 : Fe wr (wr.setCell ⟨W3.heap.size, 2, none⟩ u) (fun b => b = W3.heap.size) := Fe.grown (grown_set _ _ 2 _) (fun y e => by cases e; rfl)
  have f2 : Fe (wr.setCell ⟨W3.heap.size, 2, none⟩ u) w2 (fun _ => False) := (Fe.grown (World.grownBy_alloc _ o none) (T := fun _ => False) (fun y e => by cases e)).trans (Fe.grown hg (T := fun _ => False) (fun y e => by cases e)) (fun _ _ e => e)
  have f3 : Fe w2 (w2.setCell ⟨w.heap.size + 1 + 1, 1, none⟩ x1) (fun b => b = w.heap.size + 1 + 1) := Fe.grown (grown_set _ _ 1 _) (fun y e => by cases e; rfl)
  have f4 : Fe (w2.setCell ⟨w.heap.size + 1 + 1, 1, none⟩ x1) ((w2.setCell ⟨w.heap.size + 1 + 1, 1, none⟩ x1).setCell ⟨w.heap.size + 1, 0, none⟩ x2) (fun b => b = w.heap.size + 1) := Fe.grown (grown_set _ _ 0 _) (fun y e => by cases e; rfl)
  have f5 : Fe ((w2.setCell ⟨w.heap.size + 1 + 1, 1, none⟩ x1).setCell ⟨w.heap.size + 1, 0, none⟩ x2) (((w2.setCell ⟨w.heap.size + 1 + 1, 1, none⟩ x1).setCell ⟨w.heap.size + 1, 0, none⟩ x2).setCell ⟨w.heap.size + 1, 1, none⟩ x3) (fun b => b = w.heap.size + 1) := Fe.grown (grown_set _ _ 1 _) (fun y e => by cases e; rfl)
  have wide : ∀ {a b : World} {T : Nat → Prop}, Fe a b T → (∀ j, T j → w.heap.size ≤ j) → Fe a b (fun j => w.heap.size ≤ j) := fun f ht => f.wide ht
  have fA : Fe w (((w2.setCell ⟨w.heap.size + 1 + 1, 1, none⟩ x1).setCell ⟨w.heap.size + 1, 0, none⟩ x2).setCell ⟨w.heap.size + 1, 1, none⟩ x3) (fun j => w.heap.size ≤ j) :=
    (wide f0 (fun _ e => e.elim)).trans ((wide f1 (fun j e => by omega)).trans ((wide f2 (fun _ e => e.elim)).trans ((wide f3 (fun j e => by omega)).trans ((wide f4 (fun j e => by omega)).trans (wide f5 (fun j e => by omega)) (fun _ _ e => e)) (fun _ _ e => e)) (fun _ _ e => e)) (fun _ _ e => e)) (fun _ _ e => e)
  have ow : Owns W4.heap.size wr (.slice ao k cp) C := by
    refine ⟨?_, hC, by omega⟩
    have := h.row
    rw [List.take_of_length_le (by omega)] at this
    rw [← hk]
    exact this
  have obl : ∀ b, (Value.slice ao k cp).ownBlock = some b → W4.heap.size ≤ b := fun b e => (h.row.lt b e).1
  have ow' := (((((ow.fe f1 (fun b e e2 => by have := obl b e; omega)).fe f2 (fun _ _ e => e)).fe f3 (fun b e e2 => by have := obl b e; omega)).fe f4 (fun b e e2 => by have := obl b e; omega)).fe f5 (fun b e e2 => by have := obl b e; omega))
  have hg2 : g' < w2.heap.size := (ho.lt g' rfl).2
  have ro' := (row_fe (row_fe (row_fe ho f3 (fun b e e2 => by have e3 : b = g' := by simpa [Value.ownBlock] using e.symm
                                                              omega)) f4 (fun b e e2 => by have e3 : b = g' := by simpa [Value.ownBlock] using e.symm
                                                                                           omega)) f5 (fun b e e2 => by have e3 : b = g' := by simpa [Value.ownBlock] using e.symm
                                                                                                                        omega))
  have c0 := ro'.cellAt 0 (by omega)
  have c1 := ro'.cellAt 1 (by omega)
  have c2 := ro'.cellAt 2 (by omega)
  refine ⟨fA.toBelow _ (Nat.le_refl _) (fun j e => e), by simpa using hg2, ao, cp, by simpa using c0, by simpa using c1, by simpa using c2, ⟨hcl, hsq, ow'.lower (by omega), hk⟩, ?_⟩
  · rcases ho.2 with ⟨e, _⟩ | ⟨_, _, _, e, _, _, h4, _⟩
    · cases e
    · cases e; exact h4
set_option maxRecDepth 10000 in
set_option maxHeartbeats 3200000 in
theorem copyBatch1 {w : World} (B cl sq : Nat) (co : Option Addr) (cn cc : Nat) (C : List Nat) (hB : w.heap[B]? = some (.cells #[.int .u64 (cl : Int), .int .u64 (sq : Int), .slice co cn cc] 36 (0, 0))) (hr : (Rq.mk cl sq co cn cc C).Ok w.heap.size w) :
    Calls Try.prog 29 #[.agg #[.int .u64 0, .slice (some ⟨B, 0, none⟩) 1 1]] w fun e w' => ∃ g cp, e = .returned (.agg #[.int .u64 0, .slice (some ⟨g, 0, none⟩) 1 cp]) ∧ Hid (CopyB w cl sq cn C g cp w') := by
  obtain ⟨i0, hi, hz0, hz1, hz2⟩ := info_parts infoReq
  obtain ⟨j0, hj, hy0, hy1, hy2⟩ := info_parts Try.info5
  obtain ⟨W3, hW3⟩ : ∃ W3, ((w.alloc (.cells #[.int .u64 0, .slice (some ⟨B, 0, none⟩) 1 1] 40)).alloc (.cells #[.int .u64 0, .slice none 0 0] 40)).alloc (.cells #[.int .u64 0, .slice none 0 0] 40) = W3 := ⟨_, rfl⟩
  have e1 : (w.alloc (.cells #[.int .u64 0, .slice (some ⟨B, 0, none⟩) 1 1] 40)).heap.size = w.heap.size + 1 := by simp
  have e2 : ((w.alloc (.cells #[.int .u64 0, .slice (some ⟨B, 0, none⟩) 1 1] 40)).alloc (.cells #[.int .u64 0, .slice none 0 0] 40)).heap.size = w.heap.size + 1 + 1 := by simp
  have s3 : W3.heap.size = w.heap.size + 3 := by rw [← hW3]; simp
  have B3 : Hid (Below w.heap.size w W3) := by rw [← hW3]; exact ((below_alloc1 w _).alloc (by simp) _).alloc (by simp; omega) _
  have bA : W3.heap[w.heap.size]? = some (.cells #[.int .u64 0, .slice (some ⟨B, 0, none⟩) 1 1] 40 (0, 0)) := by
    rw [← hW3]
    exact ((World.grownBy_alloc _ _ none).block _ (by rw [e2]; omega) (by simp)).trans (((World.grownBy_alloc _ _ none).block _ (by rw [e1]; omega) (by simp)).trans (alloc_atK w _))
  have bR : W3.heap[w.heap.size + 1]? = some (.cells #[.int .u64 0, .slice none 0 0] 40 (0, 0)) := by
    rw [← hW3]
    refine ((World.grownBy_alloc _ _ none).block _ (by rw [e2]; omega) (by simp)).trans ?_
    rw [← e1]; exact alloc_atK _ _
  have bC : W3.heap[w.heap.size + 1 + 1]? = some (.cells #[.int .u64 0, .slice none 0 0] 40 (0, 0)) := by rw [← hW3, ← e2]; exact alloc_atK _ _
  have bB : W3.heap[B]? = some (.cells #[.int .u64 (cl : Int), .int .u64 (sq : Int), .slice co cn cc] 36 (0, 0)) := (B3.out.block _ (block_lt hB)).trans hB
  obtain ⟨W4, hW4⟩ : ∃ W4, W3.alloc (.cells #[.int .u64 (cl : Int), .int .u64 (sq : Int), .slice co cn cc] 36) = W4 := ⟨_, rfl⟩
  have s4 : W4.heap.size = w.heap.size + 4 := by rw [← hW4]; simp [s3]
  have B4 : Hid (Below W3.heap.size W3 W4) := by rw [← hW4]; exact below_alloc1 W3 _
  have bQ : Hid (W4.heap[W3.heap.size]? = some (.cells #[.int .u64 (cl : Int), .int .u64 (sq : Int), .slice co cn cc] 36 (0, 0))) := by rw [← hW4]; exact alloc_atK _ _
  have HA := hide bA
  have HRb := hide bR
  have HCb := hide bC
  have HOK := hide hr
  have HL : Hid (cn = C.length ∧ (∀ x ∈ C, x < 256) ∧ cn ≤ 140737488355328) := ⟨hr.hC.1, hr.hC.2.2.2.1, hr.hC.2.2.1⟩
  have hcn : cn ≤ 140737488355328 := hr.hC.2.2.1
  have KQ : Hid (∀ V, Below W4.heap.size W4 V → V.heap[W3.heap.size]? = some (.cells #[.int .u64 (cl : Int), .int .u64 (sq : Int), .slice co cn cc] 36 (0, 0))) := fun V hb => (hb.block _ (block_lt bQ.out)).trans bQ.out
  have KD : Hid (∀ V, Below W4.heap.size W4 V → ∀ k, k < cn → ∃ cb coff, co = some ⟨cb, coff, none⟩ ∧ V.cell? ⟨cb, coff + k, none⟩ = some (.int .u8 ((C.getD k 0 : Nat) : Int)) ∧ cb < V.heap.size) := fun V hb k hk => by
    obtain ⟨t1, t2, t3, t4, cb, coff, t5, t6, t7⟩ := HOK.out.hC
    have hb' : Below w.heap.size w V := B3.out.trans ((B4.out.trans (hb.mono B4.out.size)).mono B3.out.size)
    have hk' : k < cn := hk
    have t1' : cn = C.length := t1
    refine ⟨cb, coff, t5 (by show 0 < cn; omega), (hb'.cell (p := ⟨cb, coff + k, none⟩) (t6 (by show 0 < cn; omega))).trans (t7 k hk'), ?_⟩
    have := t6 (by show 0 < cn; omega)
    have := hb'.size
    omega
  have hBl := block_lt bB
  have z0 := block_cell bB 0
  have z1 := block_cell bB 1
  have z2 := block_cell bB 2
  have a1 := block_cell bA 1
  simp at z0 z1 z2 a1
  have al := block_lt bA
  have HW3 := hide hW3
  have HW4 := hide hW4
  have HS3 := hide s3
  have HS4 := hide s4
  have HCW0 : Hid (Cw W4 C 0 (.slice none 0 0) W4) := ⟨Below.refl _ _, World.ownsRow_nil _ _ _ _⟩
  clear hW3 hW4 e1 e2 bA bR bC bB hB hr s3 s4
  go_enter Try.func29, Try.ntmps29
  go_wp2
  rw [HW3.out]
  clear HW3
  refine wp_loop_rounds 2 ?_
  rw [rounds_succ]
  go_wp2
  rw [HW4.out]
  clear HW4 z0 z1 z2 a1 al hBl
  go_loopw [6, 7] (fun v k wr => ∃ j : Nat, j ≤ cn ∧ k = .int .i64 j ∧ Hid (Cw W4 C j v wr)) (fun _ k _ => cn - (intOf k).toNat)
  case atStart => exact ⟨0, by omega, rfl, HCW0.out⟩
  case round =>
    obtain ⟨k, hk, rfl, HS⟩ := hrel
    generalize u6 = v at *
    have bq := KQ.out wr HS.out.bel
    have q0 := block_cell bq 0
    have q1 := block_cell bq 1
    have q2 := block_cell bq 2
    have f2 := block_free bq 2
    have ql := block_lt bq
    simp at q0 q1 q2
    clear bq
    by_cases hlt : k < cn
    · obtain ⟨cb, coff, rfl, hc, hcl⟩ := KD.out wr HS.out.bel k hlt
      have HNX : Hid (∀ v' w2 o, w2.ownsRow W4.heap.size 5 1 v' (k + 1) (vals (C.take k) ++ [.int .u8 ((C.getD k 0 : Nat) : Int)]) → (wr.alloc o).grownBy w2 v.ownBlock → Cw W4 C (k + 1) v' w2) := fun v' w2 o ho hg => HS.out.next (by have := HL.out.1; omega) ho hg
      have HOW : Hid (∀ o, (wr.alloc o).ownsRow W4.heap.size 5 1 v k (vals (C.take k))) := fun o => row_quiet HS.out.row (World.grownBy_alloc _ _ none)
      have HSZ : Hid (∀ o, W4.heap.size ≤ (wr.alloc o).heap.size) := fun o => by have := HS.out.bel.size; simp; omega
      generalize ((C.getD k 0 : Nat) : Int) = ch at *
      generalize vals (C.take k) = vk at *
      go_wp2_with (at_builtin; refine wpList_append_own _ rfl (.tmp 30) (.tmp 36) 34 rfl W4.heap.size 5 j0 (.int .u8 0) 1 1 Try.underlying34 hj hy0 hy1 hy2 rfl (by decide) v k vk rfl (HOW.out _) ⟨wr.heap.size, 0, none⟩ 1 1 [.int .u8 ch] rfl rfl (cell_one_new _ _ _) (by simp [Value.oneCell']) (by unfold maxLen; omega) (by omega) (HSZ.out _) ?_; intro v' w2 ho hg _; have HC2 := hide (HNX.out _ _ _ ho hg); obtain ⟨g', cap', rfl⟩ := ownsRow_succ ho; clear ho hg)
      go_roundw
      case rel => exact ⟨k + 1, by omega, by go_num, HC2.out⟩
      case measure => simp [intOf]; omega
    · obtain rfl : k = cn := by omega
      obtain ⟨ao, cp, hv⟩ := HS.out.form
      subst hv
      have KBx : Hid (∀ V, Fe wr V (fun b => b = W3.heap.size) → V.heap[w.heap.size]? = some (.cells #[.int .u64 0, .slice (some ⟨B, 0, none⟩) 1 1] 40 (0, 0)) ∧ V.heap[w.heap.size + 1]? = some (.cells #[.int .u64 0, .slice none 0 0] 40 (0, 0)) ∧ V.heap[w.heap.size + 1 + 1]? = some (.cells #[.int .u64 0, .slice none 0 0] 40 (0, 0))) := fun V f => by
        have h3 := HS3.out
        have h4 := HS4.out
        have hb := B4.out.trans (HS.out.bel.mono B4.out.size)
        have hw := hb.size
        exact ⟨(f.block _ (by omega) (by omega)).trans ((hb.block _ (by omega)).trans HA.out), (f.block _ (by omega) (by omega)).trans ((hb.block _ (by omega)).trans HRb.out), (f.block _ (by omega) (by omega)).trans ((hb.block _ (by omega)).trans HCb.out)⟩
      obtain ⟨b0, b1, b2⟩ := KBx.out wr (Fe.refl _ _)
      have x1 := block_cell b2 1
      have xl := block_lt b2
      simp at x1
      have n1 : ¬ W3.heap.size = w.heap.size + 1 + 1 := by have := HS3.out; omega
      have n2 : ¬ w.heap.size + 1 + 1 = W3.heap.size := by omega
      have hsw : Hid (W4.heap.size ≤ wr.heap.size) := HS.out.bel.size
      have HNW : Hid (∀ (j : Nat) (u : Value), [Value.int .u64 (cl : Int), .int .u64 (sq : Int), .slice ao k cp][j]? = some u → ((wr.setCell ⟨W3.heap.size, 2, none⟩ (.slice ao k cp)).alloc (.cells #[.int .u64 (cl : Int), .int .u64 (sq : Int), .slice ao k cp] 36)).cell? (Addr.add ⟨wr.heap.size, 0, none⟩ j) = some u) := by
        have h := cell_req_new (wr.setCell ⟨W3.heap.size, 2, none⟩ (.slice ao k cp)) (.int .u64 (cl : Int)) (.int .u64 (sq : Int)) (.slice ao k cp) 36
        rw [show (wr.setCell ⟨W3.heap.size, 2, none⟩ (.slice ao k cp)).heap.size = wr.heap.size by simp] at h
        exact h
      have HNX : Hid (∀ v' w2, w2.ownsRow 0 36 3 v' (0 + 1) ([] ++ [Value.int .u64 (cl : Int), .int .u64 (sq : Int), .slice ao k cp]) → ((wr.setCell ⟨W3.heap.size, 2, none⟩ (.slice ao k cp)).alloc (.cells #[.int .u64 (cl : Int), .int .u64 (sq : Int), .slice ao k cp] 36)).grownBy w2 (Value.slice none 0 0).ownBlock → (v'.ownBlock = (Value.slice none 0 0).ownBlock ∨ v'.ownBlock = some ((wr.setCell ⟨W3.heap.size, 2, none⟩ (.slice ao k cp)).alloc (.cells #[.int .u64 (cl : Int), .int .u64 (sq : Int), .slice ao k cp] 36)).heap.size) → ∃ g' cap', v' = .slice (some ⟨g', 0, none⟩) 1 cap' ∧ Hid ((∀ x1 x2 x3, CopyB w cl sq k C g' cap' (((w2.setCell ⟨w.heap.size + 1 + 1, 1, none⟩ x1).setCell ⟨w.heap.size + 1, 0, none⟩ x2).setCell ⟨w.heap.size + 1, 1, none⟩ x3)) ∧ Fe wr w2 (fun b => b = W3.heap.size))) := fun v' w2 ho hg hv => by
        rw [Nat.zero_add, List.nil_append] at ho
        obtain ⟨g', cap', rfl⟩ := ownsRow_succ (k := 0) ho
        have hv' : g' = ((wr.setCell ⟨W3.heap.size, 2, none⟩ (.slice ao k cp)).alloc (.cells #[.int .u64 (cl : Int), .int .u64 (sq : Int), .slice ao k cp] 36)).heap.size := by
          rcases hv with hv | hv
          · cases hv
          · simpa [Value.ownBlock] using hv
        refine ⟨g', cap', rfl, fun x1 x2 x3 => cp_fin B3.out B4.out HS3.out HS4.out HOK.out.hc HOK.out.hs HL.out.2.1 HL.out.1 HL.out.2.2 HS.out ho hg hv' x1 x2 x3, ?_⟩
        refine (Fe.grown (grown_set _ W3.heap.size 2 _) (T := fun b => b = W3.heap.size) (fun y e => by cases e; rfl)).trans ((Fe.grown (World.grownBy_alloc _ _ none) (T := fun b => b = W3.heap.size) (fun y e => by cases e)).trans (Fe.grown hg (T := fun b => b = W3.heap.size) (fun y e => by cases e)) (fun _ _ e => e)) (fun _ _ e => e)
      clear b0 b1 b2 KQ KD
      go_wp2_with (at_builtin; refine wpList_append_own_at _ rfl (.tmp 41) (.tmp 43) 23 rfl 0 36 i0 (.agg #[.int .u64 0, .int .u64 0, .slice none 0 0]) 3 40 Try.underlying23 hi hz0 hz1 hz2 rfl (by decide) (.slice none 0 0) 0 [] rfl (World.ownsRow_nil _ _ _ _) ⟨wr.heap.size, 0, none⟩ 1 1 [.int .u64 (cl : Int), .int .u64 (sq : Int), .slice ao k cp] rfl rfl HNW.out (by simp [Value.oneCell']) (by decide) (by decide) (Nat.zero_le _) ?_; intro v' w2 ho hg _ hv; obtain ⟨g', cap', hv', G⟩ := HNX.out v' w2 ho hg hv; clear ho hg hv; subst hv'; obtain ⟨b0, b1, b2⟩ := KBx.out w2 G.out.2; have y0 := block_cell b2 0; have y1 := block_cell b2 1; have yf := block_free b2 1; have yl := block_lt b2; have r0 := block_cell b1 0; have r1 := block_cell b1 1; have rf0 := block_free b1 0; have rf1 := block_free b1 1; have rl := block_lt b1; have a1 := block_cell b0 1; have al := block_lt b0; simp at y0 y1 r0 r1 a1; clear b0 b1 b2)
      have m1 : ¬ w.heap.size = w.heap.size + 1 + 1 := by omega
      have m2 : ¬ w.heap.size + 1 = w.heap.size + 1 + 1 := by omega
      have m3 : ¬ w.heap.size + 1 + 1 = w.heap.size + 1 := by omega
      rw [rounds_succ]
      go_wp2
      refine bodyPost_ret (v := .agg #[.int .u64 0, .slice (some ⟨g', 0, none⟩) 1 cap']) (by simp [results, Try.results29, go_sem, r0, r1]) rfl ?_
      exact ⟨g', cap', rfl, G.out.1 _ _ _⟩
set_option maxRecDepth 10000 in
set_option maxHeartbeats 3200000 in
theorem copyRequestE {w : World} (cl sq : Nat) (co : Option Addr) (cn cc : Nat) (C : List Nat) (hr : (Rq.mk cl sq co cn cc C).Ok w.heap.size w) :
    Calls Try.prog 9 #[.agg #[.int .u64 (cl : Int), .int .u64 (sq : Int), .slice co cn cc]] w fun e w' => ∃ ao cap, e = .returned (.agg #[.int .u64 (cl : Int), .int .u64 (sq : Int), .slice ao cn cap]) ∧ Hid (Below w.heap.size w w' ∧ Cq w.heap.size w' (Rq.mk cl sq ao cn cap C)) := by
  obtain ⟨W2, hW2⟩ : ∃ W2, (w.alloc (.cells #[.int .u64 (cl : Int), .int .u64 (sq : Int), .slice co cn cc] 36)).alloc (.cells #[.int .u64 0, .int .u64 0, .slice none 0 0] 36) = W2 := ⟨_, rfl⟩
  have e1 : (w.alloc (.cells #[.int .u64 (cl : Int), .int .u64 (sq : Int), .slice co cn cc] 36)).heap.size = w.heap.size + 1 := by simp
  have s2 : W2.heap.size = w.heap.size + 2 := by rw [← hW2]; simp
  have B2 : Hid (Below w.heap.size w W2) := by rw [← hW2]; exact (below_alloc1 w _).alloc (by simp) _
  have bA : W2.heap[w.heap.size]? = some (.cells #[.int .u64 (cl : Int), .int .u64 (sq : Int), .slice co cn cc] 36 (0, 0)) := by rw [← hW2]; exact ((World.grownBy_alloc _ _ none).block _ (by rw [e1]; omega) (by simp)).trans (alloc_atK w _)
  have bR : W2.heap[w.heap.size + 1]? = some (.cells #[.int .u64 0, .int .u64 0, .slice none 0 0] 36 (0, 0)) := by rw [← hW2, ← e1]; exact alloc_atK _ _
  obtain ⟨W3, hW3⟩ : ∃ W3, W2.alloc (.cells #[.int .u64 (cl : Int), .int .u64 (sq : Int), .slice co cn cc] 36) = W3 := ⟨_, rfl⟩
  have B3 : Below W2.heap.size W2 W3 := by rw [← hW3]; exact below_alloc1 W2 _
  have B3w : Hid (Below w.heap.size w W3) := B2.out.trans (B3.mono B2.out.size)
  have b3 : W3.heap[W2.heap.size]? = some (.cells #[.int .u64 (cl : Int), .int .u64 (sq : Int), .slice co cn cc] 36 (0, 0)) := by rw [← hW3]; exact alloc_atK _ _
  have bR3 : Hid (W3.heap[w.heap.size + 1]? = some (.cells #[.int .u64 0, .int .u64 0, .slice none 0 0] 36 (0, 0))) := (B3.block _ (by omega)).trans bR
  have HCB := hide (copyBatch1 W2.heap.size cl sq co cn cc C b3 ⟨hr.hc, hr.hs, (hr.hC.belowL B3w.out).wide B3w.out.size⟩)
  have HS3 : Hid (W3.heap.size = w.heap.size + 3) := by show _ = _; rw [← hW3]; simp [s2]
  have z0 := block_cell bA 0
  have z1 := block_cell bA 1
  have z2 := block_cell bA 2
  simp at z0 z1 z2
  have zl := block_lt bA
  have FIN : Hid (∀ w4 g cp, CopyB W3 cl sq cn C g cp w4 → ∃ ao cap, (w4.cell? ⟨g, 0, none⟩ = some (.int .u64 (cl : Int)) ∧ w4.cell? ⟨g, 1, none⟩ = some (.int .u64 (sq : Int)) ∧ w4.cell? ⟨g, 2, none⟩ = some (.slice ao cn cap) ∧ g < w4.heap.size ∧ 1 ≤ cp) ∧ w4.heap[w.heap.size + 1]? = some (.cells #[.int .u64 0, .int .u64 0, .slice none 0 0] 36 (0, 0)) ∧ Hid (∀ o u0 u1 u2, Below w.heap.size w ((((w4.setCell ⟨w.heap.size + 1, 0, none⟩ u0).setCell ⟨w.heap.size + 1, 1, none⟩ u1).setCell ⟨w.heap.size + 1, 2, none⟩ u2).alloc o) ∧ Cq w.heap.size ((((w4.setCell ⟨w.heap.size + 1, 0, none⟩ u0).setCell ⟨w.heap.size + 1, 1, none⟩ u1).setCell ⟨w.heap.size + 1, 2, none⟩ u2).alloc o) (Rq.mk cl sq ao cn cap C))) := by
    intro w4 g cp hcb
    obtain ⟨hb, hgl, ao, cap, c0, c1, c2, hok, hcp⟩ := hcb
    have hb4 : Below w.heap.size w w4 := B3w.out.trans (hb.mono B3w.out.size)
    have br := (hb.block _ (block_lt bR3.out)).trans bR3.out
    refine ⟨ao, cap, ⟨c0, c1, c2, hgl, hcp⟩, br, fun o u0 u1 u2 => ⟨?_, ?_⟩⟩
    · have hS := ((hb4.setCell (p := ⟨w.heap.size + 1, 0, none⟩) (by simp) u0).setCell (p := ⟨w.heap.size + 1, 1, none⟩) (by simp) u1).setCell (p := ⟨w.heap.size + 1, 2, none⟩) (by simp) u2
      exact hS.alloc hS.size o
    · have hn : (Value.slice ao cn cap).ownBlock ≠ some (w.heap.size + 1) := fun e => by have := (hok.ow.1.lt _ e).1; have := HS3.out; omega
      exact ((((hok.next (grown_set _ _ 0 _) (.inr hn)).next (grown_set _ _ 1 _) (.inr hn)).next (grown_set _ _ 2 _) (.inr hn)).quiet (World.grownBy_alloc _ o none)).lower B3w.out.size
  have HW2 := hide hW2
  have HW3 := hide hW3
  clear hW2 hW3 e1 s2 bA bR B3 b3 hr
  go_enter Try.func9, Try.ntmps9
  go_upto_region 1 with fail
  rw [HW2.out]
  clear HW2
  go_wp2_with fail
  rw [HW3.out]
  refine HCB.out.mono ?_
  rintro e w4 ⟨g, cp, rfl, G⟩
  obtain ⟨ao, cap, ⟨c0, c1, c2, hgl, hcp⟩, br, FF⟩ := FIN.out w4 g cp G.out
  have r0 := block_cell br 0
  have r1 := block_cell br 1
  have r2 := block_cell br 2
  have f0 := block_free br 0
  have f1 := block_free br 1
  have f2 := block_free br 2
  have rl := block_lt br
  simp at r0 r1 r2
  have BR := hide br
  clear z0 z1 z2 zl br HW3 G
  have k0 := cell_alloc_l' (.cells #[.int .u64 0, .slice (some ⟨g, 0, none⟩) 1 cp] 40) c0
  have k1 := cell_alloc_l' (.cells #[.int .u64 0, .slice (some ⟨g, 0, none⟩) 1 cp] 40) c1
  have k2 := cell_alloc_l' (.cells #[.int .u64 0, .slice (some ⟨g, 0, none⟩) 1 cp] 40) c2
  have hbx : ∀ o, ((((w4.setCell ⟨w.heap.size + 1, 0, none⟩ (.int .u64 (cl : Int))).setCell ⟨w.heap.size + 1, 1, none⟩ (.int .u64 (sq : Int))).setCell ⟨w.heap.size + 1, 2, none⟩ (.slice ao cn cap)).alloc o).heap[w.heap.size + 1]? = some (.cells #[.int .u64 (cl : Int), .int .u64 (sq : Int), .slice ao cn cap] 36 (0, 0)) := fun o => by
    refine ((World.grownBy_alloc _ o none).block _ (by simp; exact rl) (by simp)).trans ?_
    rw [heap_setCell_same _ _ 2 _ _ _ (heap_setCell_same _ _ 1 _ _ _ (heap_setCell_same _ _ 0 _ _ _ BR.out))]
    rfl
  have j0 := block_cell (hbx (.cells #[.int .u64 0, .slice (some ⟨g, 0, none⟩) 1 cp] 40)) 0
  have j1 := block_cell (hbx (.cells #[.int .u64 0, .slice (some ⟨g, 0, none⟩) 1 cp] 40)) 1
  have j2 := block_cell (hbx (.cells #[.int .u64 0, .slice (some ⟨g, 0, none⟩) 1 cp] 40)) 2
  have HJ := hide (And.intro j0 (And.intro j1 j2))
  clear j0 j1 j2 hbx
  have ng : ¬ g = w4.heap.size := by omega
  have nr : ¬ w.heap.size + 1 = w4.heap.size := by omega
  go_wp2
  refine bodyPost_ret (v := .agg #[.int .u64 (cl : Int), .int .u64 (sq : Int), .slice ao cn cap]) (by have h0 := HJ.out.1; have h1 := HJ.out.2.1; have h2 := HJ.out.2.2; simp [results, Try.results9, go_sem, h0, h1, h2]) rfl ?_
  exact ⟨_, _, rfl, FF.out _ _ _ _⟩
end Go.Proofs.Ytkdciomijemmiaa
namespace Go.Proofs.Ytkdciomijemmiaa
open Go.RowKit Crc

set_option maxRecDepth 10000 in
set_option maxHeartbeats 3200000 in
theorem recoverE (c : Cf) (hin : c.In) (hk : badOf c.oks = -1) (hok : c.Ok) (me : Nat) (hme : (me : Int) < 2 * c.f + 1) (hem : c.em ≤ 100000) (hep : 1 ≤ c.ep) (hpe : c.ep ≤ c.em) (now : Nat) (hnow : now ≤ 1099511627776) (w : World) :
    Calls Try.prog 24 #[.agg c.cells, .int .i64 (me : Nat), .int .u64 (now : Nat), .slice none 0 0] w fun e w' => ∃ eb g, e = .returned (.tuple #[.pointer (some ⟨eb, 0, none⟩), .nilIface]) ∧ Hid (∃ fp x, EL w' eb g c me fp x ∧ x.abs = ⟨1, 0, 0, c.ep, addB now c.ep 1099511627776, [], []⟩ ∧ Below w.heap.size w w' ∧ w.heap.size ≤ eb ∧ ∀ b, fp b → w.heap.size ≤ b) := by
  obtain ⟨W1, hW1⟩ : ∃ W1, w.alloc (.cells c.cells 26) = W1 := ⟨_, rfl⟩
  have B1 : Hid (Below w.heap.size w W1) := by rw [← hW1]; exact (Below.refl _ w).alloc (Nat.le_refl _) _
  have C1 : Hid (W1.heap[w.heap.size]? = some (.cells c.cells 26 (0, 0))) := by rw [← hW1]; exact alloc_atK _ _
  obtain ⟨z0, z1, z2, z3, z4, z5, z6, z7, z8, z9⟩ := cfg_cells C1.out
  have HNW : Hid (Calls Try.prog 42 #[.agg c.cells] W1 fun e w' => ∃ g, e = .returned (.tuple #[.pointer (some ⟨g, 0, none⟩), .nilIface]) ∧ Hid (Below W1.heap.size W1 w' ∧ w'.heap[g]? = some (.cells c.cells 105 (0, 0)))) := (newP_ok c hin hk W1).mono fun e w' ⟨a, ⟨ev, h1, h2⟩, h3⟩ => by
    obtain ⟨g, rfl, hg⟩ := h3.out
    rcases h2.out.1 with ⟨rfl, _⟩ | ⟨_, h, _⟩
    · exact ⟨g, h1, h2.out.2, hg⟩
    · simp at h
  have HND : Hid (∀ (w2 : World) (g : Nat), w2.heap[g]? = some (.cells c.cells 105 (0, 0)) → Calls Try.prog 44 #[.pointer (some ⟨g, 0, none⟩), .int .i64 (me : Nat)] w2 fun e w' => e = .returned (.bool true) ∧ w' = w2) := fun w2 g hg => by
    have h := node_live (me : Int) (⟨g, rfl, hg⟩ : PG w2 (some ⟨g, 0, none⟩) c) hok
    have e : c.node (me : Int) = true := by unfold Cf.node; exact decide_eq_true ⟨by omega, hme⟩
    rw [e] at h
    exact h
  have HBG : Hid (∀ (w2 : World) (g : Nat), Below W1.heap.size W1 w2 → w2.heap[g]? = some (.cells c.cells 105 (0, 0)) → Calls Try.prog 34 #[.pointer (some ⟨w2.heap.size, 0, none⟩), .int .u64 (now : Nat)] (w2.alloc (.cells #[.pointer (some ⟨g, 0, none⟩), .int .i64 (me : Nat), .int .u64 1, .int .i64 0, .int .u32 0, .int .u64 (c.ep : Nat), .int .u64 0, .slice none 0 0, .slice none 0 0] 81)) fun e w' => e = .returned (.tuple #[]) ∧ Hid (∃ fp x, EL w' w2.heap.size g c me fp x ∧ x.abs = ⟨1, 0, 0, c.ep, addB now c.ep 1099511627776, [], []⟩ ∧ Below w.heap.size w w' ∧ w.heap.size ≤ w2.heap.size ∧ ∀ b, fp b → w.heap.size ≤ b)) := fun w2 g hb hg => by
    have hb1 := B1.out.trans (hb.mono B1.out.size)
    have hg1 := World.grownBy_alloc w2 (.cells #[.pointer (some ⟨g, 0, none⟩), .int .i64 (me : Nat), .int .u64 1, .int .i64 0, .int .u32 0, .int .u64 (c.ep : Nat), .int .u64 0, .slice none 0 0, .slice none 0 0] 81) none
    have hE : EL (w2.alloc (.cells #[.pointer (some ⟨g, 0, none⟩), .int .i64 (me : Nat), .int .u64 1, .int .i64 0, .int .u32 0, .int .u64 (c.ep : Nat), .int .u64 0, .slice none 0 0, .slice none 0 0] 81)) w2.heap.size g c me (fun _ => False) ⟨1, 0, 0, c.ep, 0, none, 0, [], none, 0, []⟩ := by
      refine ⟨alloc_atK _ _, (hg1.block _ (block_lt hg) (by simp)).trans hg, Qs.nil _ _, Qs.nil _ _, fun b e => (by cases e), fun b e => e.elim, fun e => e, fun e => e, Nat.le_refl _, ?_, by show 0 < _; decide, hep, hpe, by show 0 ≤ _; decide⟩
      show c.valid 1 0 = true
      unfold Cf.valid Cf.node
      rw [if_neg (by decide)]
      have := hok.mn1
      have := hok.f1
      simp
      omega
    refine (beginE hE hem now (by omega)).mono ?_
    rintro e w' ⟨rfl, d⟩
    obtain ⟨fp', x, d1, d2, d3, d4⟩ := d.out
    have hbA := hb1.alloc hb1.size (.cells #[.pointer (some ⟨g, 0, none⟩), .int .i64 (me : Nat), .int .u64 1, .int .i64 0, .int .u32 0, .int .u64 (c.ep : Nat), .int .u64 0, .slice none 0 0, .slice none 0 0] 81)
    refine ⟨rfl, fp', x, d1, d2, hbA.trans (d3.toBelow _ (by simp; have := hb1.size; omega) ?_), hb1.size, fun b hb' => ?_⟩
    · rintro j (e | e)
      · rw [e]; exact hb1.size
      · exact e.elim
    · rcases d4 b hb' with e | e
      · exact e.elim
      · have := hb1.size; simp at e; omega
  have hlo : decide ((1099511627776 : Int) < (now : Int)) = false := decide_eq_false (by omega)
  clear hin hk hok hme hem hep hpe hnow
  unfold Cf.cells at *
  generalize c.f = f at *
  generalize c.mb = mb at *
  generalize (c.delay : Int) = d at *
  generalize (c.win : Int) = wn at *
  generalize (c.every : Int) = ev at *
  generalize (c.beat : Int) = bt at *
  generalize hepi : (c.ep : Int) = ep at *
  generalize (c.em : Int) = em at *
  generalize (c.mn : Int) = mn at *
  generalize (c.ms : Int) = ms at *
  clear hepi
  generalize (me : Int) = mi at *
  generalize (now : Int) = nw at *
  have HW1 := hide hW1
  clear hW1
  go_enter Try.func24, Try.ntmps24
  go_upto_region 1 with fail
  rw [HW1.out]
  clear HW1
  go_wp2_with fail
  refine HNW.out.mono ?_
  rintro e w2 ⟨g, rfl, G2⟩
  have CB := hide ((G2.out.1.block _ (block_lt C1.out)).trans C1.out)
  have HN2 := hide (HND.out w2 g G2.out.2)
  have HB2 := hide (HBG.out w2 g G2.out.1 G2.out.2)
  clear z0 z1 z2 z3 z4 z5 z6 z7 z8 z9 HNW G2 C1 B1 HND HBG
  have z6 : w2.cell? ⟨w.heap.size, 6, none⟩ = some (.int .u64 ep) := block_cell CB.out 6
  have zl := block_lt CB.out
  go_wp2_with (go_at_call 44; refine HN2.out.mono ?_; rintro e w3 ⟨rfl, hVV⟩; have hVW := hVV.symm; clear hVV; subst hVW)
  refine wp_loop_rounds 1 ?_
  unfold Code.rounds
  go_wp2_with (go_at_call 34; refine HB2.out.mono ?_; rintro e w4 ⟨rfl, D⟩)
  go_ret2
  exact ⟨_, g, rfl, D.out⟩
set_option maxRecDepth 10000 in
set_option maxHeartbeats 1600000 in
theorem newE (c : Cf) (hin : c.In) (hk : badOf c.oks = -1) (hok : c.Ok) (me : Nat) (hme : (me : Int) < 2 * c.f + 1) (hem : c.em ≤ 100000) (hep : 1 ≤ c.ep) (hpe : c.ep ≤ c.em) (now : Nat) (hnow : now ≤ 1099511627776) (w : World) :
    Calls Try.prog 7 #[.agg c.cells, .int .i64 (me : Nat), .int .u64 (now : Nat)] w fun e w' => ∃ eb g, e = .returned (.tuple #[.pointer (some ⟨eb, 0, none⟩), .nilIface]) ∧ Hid (∃ fp x, EL w' eb g c me fp x ∧ x.abs = ⟨1, 0, 0, c.ep, addB now c.ep 1099511627776, [], []⟩ ∧ Below w.heap.size w w' ∧ w.heap.size ≤ eb ∧ ∀ b, fp b → w.heap.size ≤ b) := by
  obtain ⟨W1, hW1⟩ : ∃ W1, w.alloc (.cells c.cells 26) = W1 := ⟨_, rfl⟩
  have B1 : Hid (Below w.heap.size w W1) := by rw [← hW1]; exact (Below.refl _ w).alloc (Nat.le_refl _) _
  have C1 : Hid (W1.heap[w.heap.size]? = some (.cells c.cells 26 (0, 0))) := by rw [← hW1]; exact alloc_atK _ _
  obtain ⟨z0, z1, z2, z3, z4, z5, z6, z7, z8, z9⟩ := cfg_cells C1.out
  have HR : Hid (Calls Try.prog 24 #[.agg c.cells, .int .i64 (me : Nat), .int .u64 (now : Nat), .slice none 0 0] W1 fun e w' => ∃ eb g, e = .returned (.tuple #[.pointer (some ⟨eb, 0, none⟩), .nilIface]) ∧ Hid (∃ fp x, EL w' eb g c me fp x ∧ x.abs = ⟨1, 0, 0, c.ep, addB now c.ep 1099511627776, [], []⟩ ∧ Below w.heap.size w w' ∧ w.heap.size ≤ eb ∧ ∀ b, fp b → w.heap.size ≤ b)) := by
    refine (recoverE c hin hk hok me hme hem hep hpe now hnow W1).mono ?_
    rintro e w' ⟨eb, g, rfl, D⟩
    obtain ⟨fp, x, d1, d2, d3, d4, d5⟩ := D.out
    have := B1.out.size
    exact ⟨eb, g, rfl, fp, x, d1, d2, B1.out.trans (d3.mono B1.out.size), by omega, fun b hb => by have := d5 b hb; omega⟩
  clear hin hk hok hme hem hep hpe hnow
  unfold Cf.cells at *
  generalize c.f = f at *
  generalize c.mb = mb at *
  generalize (c.delay : Int) = d at *
  generalize (c.win : Int) = wn at *
  generalize (c.every : Int) = ev at *
  generalize (c.beat : Int) = bt at *
  generalize hepi : (c.ep : Int) = ep at *
  generalize (c.em : Int) = em at *
  generalize (c.mn : Int) = mn at *
  generalize (c.ms : Int) = ms at *
  clear hepi
  generalize (me : Int) = mi at *
  generalize (now : Int) = nw at *
  have HW1 := hide hW1
  clear hW1
  go_enter Try.func7, Try.ntmps7
  go_upto_region 1 with fail
  rw [HW1.out]
  clear HW1
  go_wp2_with fail
  refine HR.out.mono ?_
  rintro e w2 ⟨eb, g, rfl, D⟩
  go_wp2
  go_ret2
  exact ⟨_, g, rfl, D.out⟩
end Go.Proofs.Ytkdciomijemmiaa
