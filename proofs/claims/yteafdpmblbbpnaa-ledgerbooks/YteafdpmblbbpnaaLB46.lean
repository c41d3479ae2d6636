import Derived.Test.YteafdpmblbbpnaaLB45
import Derived.Deep.DeepCutAuto
namespace Go.Proofs.Yteafdpmblbbpnaa
open Go.RowKit

theorem set4b {w w0 : World} {tb B : Nat} {t : TypeId} {cs : Array Value} (hs : cs.size = 4) (h : w.heap[tb]? = some (.cells cs t (0, 0))) (hB : Below B w0 w) (hk : B ≤ tb) (v0 v1 v2 v3 : Value) {wf : World} (he : (((w.setCell ⟨tb, 0, none⟩ v0).setCell ⟨tb, 1, none⟩ v1).setCell ⟨tb, 2, none⟩ v2).setCell ⟨tb, 3, none⟩ v3 = wf) :
    wf.heap[tb]? = some (.cells #[v0, v1, v2, v3] t (0, 0)) ∧ Below B w0 wf ∧ w.grownBy wf (some tb) := by
  subst he
  have gr := grown_two (grown_two (grown_two (grown_set w tb 0 v0) (grown_set _ tb 1 v1)) (grown_set _ tb 2 v2)) (grown_set _ tb 3 v3)
  refine ⟨?_, hB.grown (row := some tb) gr (by have := block_lt h; omega) (fun q e => by cases e; exact hk), gr⟩
  obtain ⟨l⟩ := cs
  simp only [List.size_toArray] at hs
  match l, hs with
  | [a, b, c, d], _ => simp [World.setCell, Array.getElem?_modify, h]
theorem set5b {w w0 : World} {tb B : Nat} {t : TypeId} {cs : Array Value} (hs : cs.size = 5) (h : w.heap[tb]? = some (.cells cs t (0, 0))) (hB : Below B w0 w) (hk : B ≤ tb) (v0 v1 v2 v3 v4 : Value) {wf : World} (he : ((((w.setCell ⟨tb, 0, none⟩ v0).setCell ⟨tb, 1, none⟩ v1).setCell ⟨tb, 2, none⟩ v2).setCell ⟨tb, 3, none⟩ v3).setCell ⟨tb, 4, none⟩ v4 = wf) :
    wf.heap[tb]? = some (.cells #[v0, v1, v2, v3, v4] t (0, 0)) ∧ Below B w0 wf ∧ w.grownBy wf (some tb) := by
  subst he
  have gr := grown_two (grown_two (grown_two (grown_two (grown_set w tb 0 v0) (grown_set _ tb 1 v1)) (grown_set _ tb 2 v2)) (grown_set _ tb 3 v3)) (grown_set _ tb 4 v4)
  refine ⟨?_, hB.grown (row := some tb) gr (by have := block_lt h; omega) (fun q e => by cases e; exact hk), gr⟩
  obtain ⟨l⟩ := cs
  simp only [List.size_toArray] at hs
  match l, hs with
  | [a, b, c, d, e], _ => simp [World.setCell, Array.getElem?_modify, h]
/-- How many of the first k holds have this number. -/
def cntH (H : List Ho) (x k : Nat) : Nat := if (byK Ho.id (H.take k) x).isSome = true then 1 else 0
theorem cntH_step {H : List Ho} (h : NdK Ho.id H) {k : Nat} {y : Ho} (hy : H[k]? = some y) (x : Nat) : cntH H x (k + 1) = cntH H x k + if y.id = x then 1 else 0 := by
  have e : H.take (k + 1) = H.take k ++ [y] := by rw [List.take_add_one, hy]; rfl
  unfold cntH
  rw [e, byK_app, byK_one]
  by_cases e1 : y.id = x
  · have hn : byK Ho.id (H.take k) x = none := byK_far (fun z hz ez => by
      have hk := (List.getElem?_eq_some_iff.1 hy).1
      have e2 : H = H.take k ++ y :: H.drop (k + 1) := by
        have h1 := List.take_append_drop k H
        rw [List.drop_eq_getElem_cons hk, (List.getElem?_eq_some_iff.1 hy).2] at h1
        exact h1.symm
      unfold NdK at h
      rw [e2] at h
      exact (List.pairwise_append.1 h).2.2 z hz y (by simp) (ez.trans e1.symm))
    rw [hn, if_pos e1, if_pos e1]
    simp
  · rw [if_neg e1, if_neg e1]
    cases byK Ho.id (H.take k) x <;> simp
theorem cntH_all {H : List Ho} {x : Ho} (h : byK Ho.id H x.id = some x) : cntH H x.id H.length = 1 := by
  unfold cntH
  rw [List.take_length, h]
  rfl
set_option maxRecDepth 10000 in
set_option maxHeartbeats 8000000 in
/-- asSets: one image is the other, owners and order aside. -/
theorem asSetsI {w : World} {A A' : List Ac} {H H' : List Ho} {ao ho ao' ho' : Option Addr} {ga gh ga' gh' : Nat} (h : Im w A H ao ho ga gh) (h' : Im w A' H' ao' ho' ga' gh') (n m cap hcap cap' hcap' : Nat) (hn : n = A.length) (hn' : n = A'.length) (hm : m = H.length) (hm' : m = H'.length) (hle : n ≤ 64) (hlm : m ≤ 64)
    (hA : ∀ a ∈ A, ∃ b, byK Ac.id A' a.id = some b ∧ b.ba = a.ba ∧ b.cp = a.cp) (hH : ∀ x ∈ H, byK Ho.id H' x.id = some x) (hnd : NdK Ho.id H') (t0 t1 jv s0 s1 jv' : Value) (hj : ∃ a n c, jv' = .slice a n c) (hs0 : ∃ x : Int, s0 = .int .u64 x) (hs1 : ∃ x : Int, s1 = .int .u64 x) :
    Calls Try.prog 10 #[.agg #[t0, t1, .slice ao n cap, .slice ho m hcap, jv], .agg #[s0, s1, .slice ao' n cap', .slice ho' m hcap', jv']] w fun e w' => e = .returned (.bool true) ∧ Hid (Below w.heap.size w w') := by
  obtain ⟨ja, jn, jc, rfl⟩ := hj
  obtain ⟨s0, rfl⟩ := hs0
  obtain ⟨s1, rfl⟩ := hs1
  obtain ⟨W1, hW1⟩ : ∃ W1, (w.alloc (.cells #[t0, t1, .slice ao n cap, .slice ho m hcap, jv] 31)).alloc (.cells #[.int .u64 s0, .int .u64 s1, .slice ao' n cap', .slice ho' m hcap', .slice ja jn jc] 31) = W1 := ⟨_, rfl⟩
  have b1 : Below w.heap.size w W1 := by rw [← hW1]; exact ((Below.refl _ w).alloc (Nat.le_refl _) _).alloc (by simp) _
  have e1 : (w.alloc (.cells #[t0, t1, .slice ao n cap, .slice ho m hcap, jv] 31)).heap.size = w.heap.size + 1 := by simp
  have q2 : W1.heap[w.heap.size + 1]? = some (.cells #[.int .u64 s0, .int .u64 s1, .slice ao' n cap', .slice ho' m hcap', .slice ja jn jc] 31 (0, 0)) := by rw [← hW1, ← e1]; exact alloc_atK _ _
  have q1 : W1.heap[w.heap.size]? = some (.cells #[t0, t1, .slice ao n cap, .slice ho m hcap, jv] 31 (0, 0)) := by rw [← hW1]; exact ((World.grownBy_alloc _ _ none).block _ (by simp) (by simp)).trans (alloc_atK _ _)
  have HQ : Hid (∀ V, Below W1.heap.size W1 V → (V.cell? ⟨w.heap.size, 2, none⟩ = some (.slice ao n cap) ∧ V.cell? ⟨w.heap.size, 3, none⟩ = some (.slice ho m hcap) ∧ w.heap.size < V.heap.size) ∧ V.cell? ⟨w.heap.size + 1, 0, none⟩ = some (.int .u64 s0) ∧ V.cell? ⟨w.heap.size + 1, 1, none⟩ = some (.int .u64 s1) ∧ V.cell? ⟨w.heap.size + 1, 2, none⟩ = some (.slice ao' n cap') ∧ V.cell? ⟨w.heap.size + 1, 3, none⟩ = some (.slice ho' m hcap') ∧ V.cell? ⟨w.heap.size + 1, 4, none⟩ = some (.slice ja jn jc) ∧ w.heap.size + 1 < V.heap.size) := fun V hV => by
    have c1 := (hV.block _ (block_lt q1)).trans q1
    have c2 := (hV.block _ (block_lt q2)).trans q2
    exact ⟨⟨block_cell c1 2, block_cell c1 3, block_lt c1⟩, block_cell c2 0, block_cell c2 1, block_cell c2 2, block_cell c2 3, block_cell c2 4, block_lt c2⟩
  have HI := hide (h.below b1)
  have HI' := hide (h'.below b1)
  have HB1 := hide b1
  have HN := hide (And.intro hn (And.intro hn' (And.intro hm hm')))
  have HMA := hide hA
  have HMH := hide (And.intro hH hnd)
  have HW1 := hide hW1
  have HFD : Hid (∀ V x, Below W1.heap.size W1 V → Calls Try.prog 16 #[.agg #[.int .u64 s0, .int .u64 s1, .slice ao' n cap', .slice ho' m hcap', .slice ja jn jc], .int .u64 (x : Nat)] V fun e w' => e = .returned (.tuple #[.agg ((byK Ac.id A' x).getD Ac.zero).arr, .bool (byK Ac.id A' x).isSome]) ∧ Hid (Below V.heap.size V w')) := fun V x hV => findI (HI'.out.below hV) n cap' HN.out.2.1 hle _ _ _ _ x
  clear h h' b1 e1 q1 q2 hn hn' hm hm' hA hH hnd hW1
  go_enter Try.func10, Try.ntmps10
  go_upto_region 1 with fail
  rw [HW1.out]
  clear HW1
  obtain ⟨⟨x2, x3, xl⟩, y0, y1, y2, y3, y4, yl⟩ := HQ.out W1 (Below.refl _ _)
  go_wp2
  go_loopw [5] (fun i wr => ∃ k : Nat, k ≤ n ∧ i = .int .i64 k ∧ Hid (Below W1.heap.size W1 wr)) (fun i _ => n - (intOf i).toNat)
  case atStart => exact ⟨0, by omega, rfl, Below.refl _ _⟩
  case round =>
    clear x2 x3 xl y0 y1 y2 y3 y4 yl
    obtain ⟨k, hk, rfl, HB⟩ := hrel
    obtain ⟨⟨x2, x3, xl⟩, y0, y1, y2, y3, y4, yl⟩ := HQ.out wr HB.out
    by_cases hlt : k < n
    · obtain ⟨a, ha⟩ : ∃ a, A[k]? = some a := ⟨_, List.getElem?_eq_getElem (by have := HN.out.1; omega)⟩
      obtain ⟨b, hb, hba, hbc⟩ := HMA.out a (List.mem_of_getElem? ha)
      have HFA : Hid (∀ V, Below W1.heap.size W1 V → V.cell? ⟨ga, k * 4, none⟩ = some (.int .u64 (a.id : Int)) ∧ V.cell? ⟨ga, k * 4 + 2, none⟩ = some (.int .u64 (a.ba : Int)) ∧ V.cell? ⟨ga, k * 4 + 3, none⟩ = some (.int .u64 (a.cp : Int)) ∧ ga < V.heap.size) := fun V hV => by
        obtain ⟨d0, d1, d2, d3⟩ := (HI.out.below hV).a.four ha
        simp only [Nat.zero_add] at d0 d1 d2 d3
        exact ⟨d0, d2, d3, Nat.lt_of_lt_of_le (HI.out.ao (by have := HN.out.1; omega)).2 hV.size⟩
      obtain ⟨rfl, _⟩ := HI.out.ao (by have := HN.out.1; omega)
      obtain ⟨d0, d2, d3, dl⟩ := HFA.out wr HB.out
      have HF2 : Hid (∀ V, Below W1.heap.size W1 V → Calls Try.prog 16 #[.agg #[.int .u64 s0, .int .u64 s1, .slice ao' n cap', .slice ho' m hcap', .slice ja jn jc], .int .u64 (a.id : Nat)] V fun e w' => e = .returned (.tuple #[.agg #[.int .u64 (b.id : Int), .int .u64 (b.ow : Int), .int .u64 (a.ba : Int), .int .u64 (a.cp : Int)], .bool true]) ∧ Hid (Below V.heap.size V w')) := fun V hV => by
        refine (HFD.out V a.id hV).mono ?_
        rintro e w' ⟨rfl, G⟩
        rw [hb]
        refine ⟨?_, G⟩
        show Ending.returned (.tuple #[.agg b.arr, .bool true]) = _
        unfold Ac.arr
        rw [hba, hbc]
      have HB3 : Hid (∀ V V2 : World, Below wr.heap.size wr V → Below V.heap.size V V2 → Below W1.heap.size W1 V2 ∧ Below wr.heap.size wr V2) := fun V V2 h1 h2 => by
        have h3 := h1.trans (h2.mono h1.size)
        exact ⟨HB.out.trans (h3.mono HB.out.size), h3⟩
      clear ha hb hba hbc
      generalize (a.id : Int) = X0 at *
      generalize (a.ba : Int) = X2 at *
      generalize (a.cp : Int) = X3 at *
      generalize (b.id : Int) = Y0 at *
      generalize (b.ow : Int) = Y1 at *
      go_upto_region 6 with fail
      go_cut [6, 7] (fun bx f V => ∃ g : Nat, bx = .pointer (some ⟨g, 0, none⟩) ∧ f = .bool true ∧ Hid (Below wr.heap.size wr V ∧ V.heap[g]? = some (.cells #[.int .u64 Y0, .int .u64 Y1, .int .u64 X2, .int .u64 X3] 50 (0, 0))))
      case first =>
        have HW0 : Hid (∀ V, Below wr.heap.size wr V → Below W1.heap.size W1 V) := fun V hV => HB.out.trans (hV.mono HB.out.size)
        have HB0 : Hid (Below wr.heap.size wr wr.drew) := (Below.refl _ _).drew
        have HW0 : Hid (∀ V, Below wr.heap.size wr V → Below W1.heap.size W1 V) := fun V hV => HB.out.trans (hV.mono HB.out.size)
        have HF3 : Hid (∀ V, Below wr.heap.size wr V → Calls Try.prog 16 #[.agg #[.int .u64 s0, .int .u64 s1, .slice ao' n cap', .slice ho' m hcap', .slice ja jn jc], .int .u64 X0] V fun e w' => e = .returned (.tuple #[.agg #[.int .u64 Y0, .int .u64 Y1, .int .u64 X2, .int .u64 X3], .bool true]) ∧ Hid (Below V.heap.size V w')) := fun V hV => HF2.out V (HW0.out V hV)
        clear x2 x3 xl y0 y1 y2 y3 y4 yl d0 d2 d3 dl
        refine wp_region_held_drew (S := fun V : World => Below wr.heap.size wr V) (by kernel_rfl) HB0.out (fun hH => ?_)
        refine wpAnyH_take (i := 0) (oi := { dst := some 35, op := Op.load 31 (Operand.tmp 3), type := 31, pos := "outright.go:172", after := #[], guard := none }) (v := .agg #[.int .u64 s0, .int .u64 s1, .slice ao' n cap', .slice ho' m hcap', .slice ja jn jc]) rfl (by kernel_rfl) (by kernel_rfl) (by kernel_rfl) (fun _ _ _ h => h) (Or.inl ⟨by rfl, fun w' hSw => ?_⟩) hH ?_
        · obtain ⟨⟨x2, x3, xl⟩, y0, y1, y2, y3, y4, yl⟩ := HQ.out _ (HW0.out _ hSw); obtain ⟨d0, d2, d3, dl⟩ := HFA.out _ (HW0.out _ hSw)
          go_simp
        simp only [Act.put, List.setIfInBounds_toArray, List.set_cons_zero, List.set_cons_succ]
        refine wpAnyH_take (i := 1) (oi := { dst := some 36, op := Op.fieldAddr 31 (Operand.tmp 2) 2, type := 0, pos := "outright.go:172", after := #[], guard := none }) (v := .pointer (some ⟨w.heap.size, 2, none⟩)) rfl (by kernel_rfl) (by kernel_rfl) (by kernel_rfl) (fun _ _ _ h => h) (Or.inl ⟨by rfl, fun w' hSw => ?_⟩) hH ?_
        · obtain ⟨⟨x2, x3, xl⟩, y0, y1, y2, y3, y4, yl⟩ := HQ.out _ (HW0.out _ hSw); obtain ⟨d0, d2, d3, dl⟩ := HFA.out _ (HW0.out _ hSw)
          go_simp
        simp only [Act.put, List.setIfInBounds_toArray, List.set_cons_zero, List.set_cons_succ]
        refine wpAnyH_take (i := 2) (oi := { dst := some 37, op := Op.load 22 (Operand.tmp 36), type := 22, pos := "outright.go:172", after := #[{ on := 1, ground := Ground.data }], guard := none }) (v := .slice (some ⟨ga, 0, none⟩) n cap) rfl (by kernel_rfl) (by kernel_rfl) (by kernel_rfl) (fun _ _ _ h => h) (Or.inl ⟨by rfl, fun w' hSw => ?_⟩) hH ?_
        · obtain ⟨⟨x2, x3, xl⟩, y0, y1, y2, y3, y4, yl⟩ := HQ.out _ (HW0.out _ hSw); obtain ⟨d0, d2, d3, dl⟩ := HFA.out _ (HW0.out _ hSw)
          go_simp
        simp only [Act.put, List.setIfInBounds_toArray, List.set_cons_zero, List.set_cons_succ]
        refine wpAnyH_take (i := 3) (oi := { dst := some 38, op := Op.move (Operand.tmp 5), type := 3, pos := "outright.go:172", after := #[], guard := none }) (v := .int .i64 k) rfl (by kernel_rfl) (by kernel_rfl) (by kernel_rfl) (fun _ _ _ h => h) (Or.inl ⟨by rfl, fun w' hSw => ?_⟩) hH ?_
        · obtain ⟨⟨x2, x3, xl⟩, y0, y1, y2, y3, y4, yl⟩ := HQ.out _ (HW0.out _ hSw); obtain ⟨d0, d2, d3, dl⟩ := HFA.out _ (HW0.out _ hSw)
          go_simp
        simp only [Act.put, List.setIfInBounds_toArray, List.set_cons_zero, List.set_cons_succ]
        refine wpAnyH_take (i := 4) (oi := { dst := some 39, op := Op.indexAddr 22 (Operand.tmp 37) (Operand.tmp 38), type := 0, pos := "outright.go:172", after := #[{ on := 2, ground := Ground.data }, { on := 3, ground := Ground.data }], guard := none }) (v := .pointer (some ⟨ga, k * 4, none⟩)) rfl (by kernel_rfl) (by kernel_rfl) (by kernel_rfl) (fun _ _ _ h => h) (Or.inl ⟨by rfl, fun w' hSw => ?_⟩) hH ?_
        · obtain ⟨⟨x2, x3, xl⟩, y0, y1, y2, y3, y4, yl⟩ := HQ.out _ (HW0.out _ hSw); obtain ⟨d0, d2, d3, dl⟩ := HFA.out _ (HW0.out _ hSw)
          go_simp
        simp only [Act.put, List.setIfInBounds_toArray, List.set_cons_zero, List.set_cons_succ]
        refine wpAnyH_take (i := 5) (oi := { dst := some 40, op := Op.fieldAddr 50 (Operand.tmp 39) 0, type := 0, pos := "outright.go:172", after := #[{ on := 4, ground := Ground.data }], guard := none }) (v := .pointer (some ⟨ga, k * 4, none⟩)) rfl (by kernel_rfl) (by kernel_rfl) (by kernel_rfl) (fun _ _ _ h => h) (Or.inl ⟨by rfl, fun w' hSw => ?_⟩) hH ?_
        · obtain ⟨⟨x2, x3, xl⟩, y0, y1, y2, y3, y4, yl⟩ := HQ.out _ (HW0.out _ hSw); obtain ⟨d0, d2, d3, dl⟩ := HFA.out _ (HW0.out _ hSw)
          go_simp
        simp only [Act.put, List.setIfInBounds_toArray, List.set_cons_zero, List.set_cons_succ]
        refine wpAnyH_take (i := 6) (oi := { dst := some 41, op := Op.load 25 (Operand.tmp 40), type := 25, pos := "outright.go:172", after := #[{ on := 5, ground := Ground.data }], guard := none }) (v := .int .u64 X0) rfl (by kernel_rfl) (by kernel_rfl) (by kernel_rfl) (fun _ _ _ h => h) (Or.inl ⟨by rfl, fun w' hSw => ?_⟩) hH ?_
        · obtain ⟨⟨x2, x3, xl⟩, y0, y1, y2, y3, y4, yl⟩ := HQ.out _ (HW0.out _ hSw); obtain ⟨d0, d2, d3, dl⟩ := HFA.out _ (HW0.out _ hSw)
          go_simp
        simp only [Act.put, List.setIfInBounds_toArray, List.set_cons_zero, List.set_cons_succ]
        refine wpAnyH_ready (rs := [7, 11]) (by kernel_rfl) (by simp) ?_
        refine AllReadyH.cons rfl (fun K hK => ?_) (AllReadyH.cons rfl (fun K hK => ?_) AllReadyH.nil)
        · go_simp
          go_wp2_with fail
          refine (HF3.out wr.drew HB0.out).mono ?_
          rintro x wa ⟨rfl, G1⟩
          have HBwa : Hid (Below wr.heap.size wr wa) := HB0.out.trans (G1.out.mono HB0.out.size)
          refine hK.out _ _ HBwa.out (fun _ => ?_)
          clear hK K
          refine wpAnyH_take (i := 8) (oi := { dst := some 34, op := Op.move (Operand.tmp 42), type := 51, pos := "outright.go:172", after := #[{ on := 7, ground := Ground.data }], guard := none }) (v := .tuple #[.agg #[.int .u64 Y0, .int .u64 Y1, .int .u64 X2, .int .u64 X3], .bool true]) rfl (by kernel_rfl) (by kernel_rfl) (by kernel_rfl) (fun _ _ _ h => h) (Or.inl ⟨by rfl, fun w' hSw => ?_⟩) HBwa.out ?_
          · go_simp
          simp only [Act.put, List.setIfInBounds_toArray, List.set_cons_zero, List.set_cons_succ]
          refine wpAnyH_take (i := 9) (oi := { dst := some 43, op := Op.extract (Operand.tmp 34) 0, type := 50, pos := "outright.go:172", after := #[{ on := 8, ground := Ground.data }], guard := none }) (v := .agg #[.int .u64 Y0, .int .u64 Y1, .int .u64 X2, .int .u64 X3]) rfl (by kernel_rfl) (by kernel_rfl) (by kernel_rfl) (fun _ _ _ h => h) (Or.inl ⟨by rfl, fun w' hSw => ?_⟩) HBwa.out ?_
          · go_simp
          simp only [Act.put, List.setIfInBounds_toArray, List.set_cons_zero, List.set_cons_succ]
          refine wpAnyH_take (i := 10) (oi := { dst := some 44, op := Op.extract (Operand.tmp 34) 1, type := 4, pos := "outright.go:172", after := #[{ on := 8, ground := Ground.data }, { on := 12, ground := Ground.gcOnly Departure.lateStores }], guard := none }) (v := .bool true) rfl (by kernel_rfl) (by kernel_rfl) (by kernel_rfl) (fun _ _ _ h => h) (Or.inl ⟨by rfl, fun w' hSw => ?_⟩) HBwa.out ?_
          · go_simp
          simp only [Act.put, List.setIfInBounds_toArray, List.set_cons_zero, List.set_cons_succ]
          refine wpAnyH_ready (rs := [11]) (by kernel_rfl) (by simp) ?_
          refine AllReadyH.cons rfl (fun K hK => ?_) AllReadyH.nil
          go_simp
          go_wp2_with fail
          obtain ⟨wb, hw⟩ : ∃ w', wa.alloc (.cells #[.int .u64 0, .int .u64 0, .int .u64 0, .int .u64 0] 50) = w' := ⟨_, rfl⟩
          have bA : Below wa.heap.size wa wb := by rw [← hw]; exact ((Below.refl _ _).alloc (Nat.le_refl _) _)
          have HXwb : Hid (wb.heap[wa.heap.size]? = some (.cells #[.int .u64 0, .int .u64 0, .int .u64 0, .int .u64 0] 50 (0, 0))) := by rw [← hw]; exact alloc_atK _ _
          rw [hw]
          clear hw
          have HBwb : Hid (Below wr.heap.size wr wb) := HBwa.out.trans (bA.mono HBwa.out.size)
          refine hK.out _ _ HBwb.out (fun _ => ?_)
          clear hK K
          have o0 := block_cell HXwb.out 0
          have o1 := block_cell HXwb.out 1
          have o2 := block_cell HXwb.out 2
          have o3 := block_cell HXwb.out 3
          have p0 := block_free HXwb.out 0
          have p1 := block_free HXwb.out 1
          have p2 := block_free HXwb.out 2
          have p3 := block_free HXwb.out 3
          have ol := block_lt HXwb.out
          simp at o0 o1 o2 o3
          refine wpAnyH_ready (rs := [12]) (by kernel_rfl) (by simp) ?_
          refine AllReadyH.cons rfl (fun K hK => ?_) AllReadyH.nil
          go_simp
          go_wp2_with fail
          generalize hwf : World.setCell _ _ _ = wf
          have hS6 := set4b rfl HXwb.out HBwb.out HBwa.out.size _ _ _ _ hwf
          have HFF : Hid (Below wr.heap.size wr wf ∧ wf.heap[wa.heap.size]? = some (.cells #[.int .u64 Y0, .int .u64 Y1, .int .u64 X2, .int .u64 X3] 50 (0, 0))) := ⟨hS6.2.1, hS6.1⟩
          clear hwf hS6 o0 o1 o2 o3 p0 p1 p2 p3 ol
          refine hK.out _ _ HFF.out.1 (fun _ => ?_)
          clear hK K
          refine wpAnyH_ready (rs := [13]) (by kernel_rfl) (by simp) ?_
          refine AllReadyH.cons rfl (fun K hK => ?_) AllReadyH.nil
          go_simp
          go_wp2_with fail
          refine hK.out _ _ HFF.out.1 (fun _ => ?_)
          clear hK K
          refine wpAnyH_done (by kernel_rfl) ?_ _
          go_wp2
          go_meet
          case rel => exact ⟨_, rfl, rfl, HFF.out⟩
        · go_simp
          go_wp2_with fail
          obtain ⟨wa, hw⟩ : ∃ w', (wr.alloc (.cells #[.int .u64 0, .int .u64 0, .int .u64 0, .int .u64 0] 50)).drew = w' := ⟨_, rfl⟩
          have bA : Below wr.heap.size wr wa := by rw [← hw]; exact ((Below.refl _ _).alloc (Nat.le_refl _) _).drew
          have HXwa : Hid (wa.heap[wr.heap.size]? = some (.cells #[.int .u64 0, .int .u64 0, .int .u64 0, .int .u64 0] 50 (0, 0))) := by rw [← hw]; exact alloc_atK _ _
          rw [hw]
          clear hw
          have HBwa : Hid (Below wr.heap.size wr wa) := bA
          refine hK.out _ _ HBwa.out (fun _ => ?_)
          clear hK K
          refine wpAnyH_ready (rs := [7]) (by kernel_rfl) (by simp) ?_
          refine AllReadyH.cons rfl (fun K hK => ?_) AllReadyH.nil
          go_simp
          go_wp2_with fail
          refine (HF3.out wa HBwa.out).mono ?_
          rintro x wb ⟨rfl, G1⟩
          have HBwb : Hid (Below wr.heap.size wr wb) := HBwa.out.trans (G1.out.mono HBwa.out.size)
          have HXwb := hide ((G1.out.block _ (block_lt HXwa.out)).trans HXwa.out)
          refine hK.out _ _ HBwb.out (fun _ => ?_)
          clear hK K
          refine wpAnyH_take (i := 8) (oi := { dst := some 34, op := Op.move (Operand.tmp 42), type := 51, pos := "outright.go:172", after := #[{ on := 7, ground := Ground.data }], guard := none }) (v := .tuple #[.agg #[.int .u64 Y0, .int .u64 Y1, .int .u64 X2, .int .u64 X3], .bool true]) rfl (by kernel_rfl) (by kernel_rfl) (by kernel_rfl) (fun _ _ _ h => h) (Or.inl ⟨by rfl, fun w' hSw => ?_⟩) HBwb.out ?_
          · go_simp
          simp only [Act.put, List.setIfInBounds_toArray, List.set_cons_zero, List.set_cons_succ]
          refine wpAnyH_take (i := 9) (oi := { dst := some 43, op := Op.extract (Operand.tmp 34) 0, type := 50, pos := "outright.go:172", after := #[{ on := 8, ground := Ground.data }], guard := none }) (v := .agg #[.int .u64 Y0, .int .u64 Y1, .int .u64 X2, .int .u64 X3]) rfl (by kernel_rfl) (by kernel_rfl) (by kernel_rfl) (fun _ _ _ h => h) (Or.inl ⟨by rfl, fun w' hSw => ?_⟩) HBwb.out ?_
          · go_simp
          simp only [Act.put, List.setIfInBounds_toArray, List.set_cons_zero, List.set_cons_succ]
          refine wpAnyH_take (i := 10) (oi := { dst := some 44, op := Op.extract (Operand.tmp 34) 1, type := 4, pos := "outright.go:172", after := #[{ on := 8, ground := Ground.data }, { on := 12, ground := Ground.gcOnly Departure.lateStores }], guard := none }) (v := .bool true) rfl (by kernel_rfl) (by kernel_rfl) (by kernel_rfl) (fun _ _ _ h => h) (Or.inl ⟨by rfl, fun w' hSw => ?_⟩) HBwb.out ?_
          · go_simp
          simp only [Act.put, List.setIfInBounds_toArray, List.set_cons_zero, List.set_cons_succ]
          have o0 := block_cell HXwb.out 0
          have o1 := block_cell HXwb.out 1
          have o2 := block_cell HXwb.out 2
          have o3 := block_cell HXwb.out 3
          have p0 := block_free HXwb.out 0
          have p1 := block_free HXwb.out 1
          have p2 := block_free HXwb.out 2
          have p3 := block_free HXwb.out 3
          have ol := block_lt HXwb.out
          simp at o0 o1 o2 o3
          refine wpAnyH_ready (rs := [12]) (by kernel_rfl) (by simp) ?_
          refine AllReadyH.cons rfl (fun K hK => ?_) AllReadyH.nil
          go_simp
          go_wp2_with fail
          generalize hwf : World.setCell _ _ _ = wf
          have hS6 := set4b rfl HXwb.out HBwb.out (Nat.le_refl _) _ _ _ _ hwf
          have HFF : Hid (Below wr.heap.size wr wf ∧ wf.heap[wr.heap.size]? = some (.cells #[.int .u64 Y0, .int .u64 Y1, .int .u64 X2, .int .u64 X3] 50 (0, 0))) := ⟨hS6.2.1, hS6.1⟩
          clear hwf hS6 o0 o1 o2 o3 p0 p1 p2 p3 ol
          refine hK.out _ _ HFF.out.1 (fun _ => ?_)
          clear hK K
          refine wpAnyH_ready (rs := [13]) (by kernel_rfl) (by simp) ?_
          refine AllReadyH.cons rfl (fun K hK => ?_) AllReadyH.nil
          go_simp
          go_wp2_with fail
          refine hK.out _ _ HFF.out.1 (fun _ => ?_)
          clear hK K
          refine wpAnyH_done (by kernel_rfl) ?_ _
          go_wp2
          go_meet
          case rel => exact ⟨_, rfl, rfl, HFF.out⟩
      case rest =>
      obtain ⟨g, rfl, rfl, HG⟩ := hcut
      have HG1 := hide (HB.out.trans (HG.out.1.mono HB.out.size))
      have z2 := block_cell HG.out.2 2
      have z3 := block_cell HG.out.2 3
      have zl := block_lt HG.out.2
      simp at z2 z3
      clear x2 x3 xl y0 y1 y2 y3 y4 yl d0 d2 d3 dl
      obtain ⟨⟨x2, x3, xl⟩, y0, y1, y2, y3, y4, yl⟩ := HQ.out wc HG1.out
      obtain ⟨d0, d2, d3, dl⟩ := HFA.out wc HG1.out
      clear HFA HF2 HB3 HG
      go_wp2_with fail
      go_quiet (fail)
      have HE := hide (below_dA HG1.out nq)
      clear HG1
      go_wp2
      go_roundw
      case rel => exact ⟨k + 1, by omega, by go_num, HE.out⟩
      case measure => simp [intOf]; omega
    · obtain rfl : k = n := by omega
      have HBK := hide HB.out
      clear HMA HFD HB
      go_wp2
      go_loopw [8] (fun i wr => ∃ j : Nat, j ≤ m ∧ i = .int .i64 j ∧ Hid (Below W1.heap.size W1 wr)) (fun i _ => m - (intOf i).toNat)
      case atStart => exact ⟨0, by omega, rfl, HBK.out⟩
      case round =>
        clear x2 x3 xl y0 y1 y2 y3 y4 yl HBK
        obtain ⟨j, hj, rfl, HB⟩ := hrel
        obtain ⟨⟨x2, x3, xl⟩, y0, y1, y2, y3, y4, yl⟩ := HQ.out wr HB.out
        by_cases hlj : j < m
        · obtain ⟨x, hx⟩ : ∃ x, H[j]? = some x := ⟨_, List.getElem?_eq_getElem (by have := HN.out.2.2.1; omega)⟩
          have hxm := HMH.out.1 x (List.mem_of_getElem? hx)
          have HX := hide (And.intro hx hxm)
          clear hx hxm
          obtain ⟨wo, hwo⟩ : ∃ wo, wo = wr := ⟨_, rfl⟩
          have HBO : Hid (Below W1.heap.size W1 wo) := by rw [hwo]; exact HB.out
          clear hwo
          have HB0 := hide HB.out
          clear HB
          go_wp2
          go_loopw [9, 10] (fun c i wq => ∃ k : Nat, k ≤ m ∧ i = .int .i64 k ∧ (∃ q : Nat, c = .int .i64 q ∧ Hid (q = cntH H' x.id k)) ∧ Hid (Below W1.heap.size W1 wq)) (fun _ i _ => m - (intOf i).toNat)
          case atStart => exact ⟨0, by omega, rfl, ⟨0, rfl, by simp [cntH, byK_nil, Hid]⟩, HB0.out⟩
          case round =>
            clear x2 x3 xl y0 y1 y2 y3 y4 yl HB0
            obtain ⟨i, hi, rfl, ⟨q, rfl, HC⟩, HB⟩ := hrel
            obtain ⟨⟨x2, x3, xl⟩, y0, y1, y2, y3, y4, yl⟩ := HQ.out wr HB.out
            by_cases hli : i < m
            · obtain ⟨y, hy⟩ : ∃ y, H'[i]? = some y := ⟨_, List.getElem?_eq_getElem (by have := HN.out.2.2.2; omega)⟩
              obtain ⟨d0, d1, d2⟩ := (HI.out.below HB.out).h.at_ j x HX.out.1
              obtain ⟨e0, e1, e2⟩ := (HI'.out.below HB.out).h.at_ i y hy
              obtain ⟨rfl, _⟩ := HI.out.ho (by have := HN.out.2.2.1; omega)
              obtain ⟨rfl, _⟩ := HI'.out.ho (by have := HN.out.2.2.2; omega)
              have dl : gh < wr.heap.size := Nat.lt_of_lt_of_le (HI.out.ho (by have := HN.out.2.2.1; omega)).2 HB.out.size
              have el : gh' < wr.heap.size := Nat.lt_of_lt_of_le (HI'.out.ho (by have := HN.out.2.2.2; omega)).2 HB.out.size
              simp only [Nat.zero_add] at d0 d1 d2 e0 e1 e2
              have hcs := cntH_step HMH.out.2 hy x.id
              have hq1 : q ≤ 1 := by
                rw [HC.out]
                unfold cntH
                split <;> omega
              by_cases hid : y.id = x.id
              · have hyx : y = x := by
                  have h1 := HMH.out.2.by (List.mem_of_getElem? hy)
                  rw [hid, HX.out.2] at h1
                  exact (Option.some.inj h1).symm
                rw [hyx] at e0 e1 e2
                rw [if_pos hid, ← HC.out] at hcs
                have HC2 : Hid (q + 1 = cntH H' x.id (i + 1)) := hcs.symm
                clear hy hcs hid hyx HC
                generalize (x.id : Int) = X0 at *
                generalize (x.fr : Int) = X1 at *
                generalize (x.am : Int) = X2 at *
                go_wp2_with fail
                go_quiet (fail)
                have HE := hide (below_dA HB.out nq)
                clear HB d0 d1 d2 e0 e1 e2
                go_wp2
                go_roundw
                case rel => exact ⟨i + 1, by omega, by go_num, ⟨q + 1, by go_num, HC2.out⟩, HE.out⟩
                case measure => simp [intOf]; omega
              · have g : ((x.id : Int) == (y.id : Int)) = false := by simp; omega
                rw [if_neg hid, Nat.add_zero, ← HC.out] at hcs
                have HC2 : Hid (q = cntH H' x.id (i + 1)) := hcs.symm
                clear hy hcs hid HC
                generalize (x.id : Int) = X0 at *
                generalize (x.fr : Int) = X1 at *
                generalize (x.am : Int) = X2 at *
                generalize (y.id : Int) = Y0 at *
                generalize (y.fr : Int) = Y1 at *
                generalize (y.am : Int) = Y2 at *
                go_wp2_with fail
                go_quiet (fail)
                have HE := hide (below_dA HB.out nq)
                clear HB d0 d1 d2 e0 e1 e2
                go_wp2
                go_roundw
                case rel => exact ⟨i + 1, by omega, by go_num, ⟨q, rfl, HC2.out⟩, HE.out⟩
                case measure => simp [intOf]; omega
            · obtain rfl : i = m := by omega
              have hc := cntH_all HX.out.2
              rw [← HN.out.2.2.2, ← HC.out] at hc
              subst hc
              clear HC
              go_wp2
              go_roundw
              case rel => exact ⟨j + 1, by omega, by go_num, HB.out⟩
              case measure => simp [intOf]; omega
        · obtain rfl : j = m := by omega
          have HE := hide (HB1.out.trans (HB.out.mono HB1.out.size))
          clear HB
          go_wp2
          go_ret
          exact ⟨rfl, HE.out⟩
end Go.Proofs.Yteafdpmblbbpnaa
