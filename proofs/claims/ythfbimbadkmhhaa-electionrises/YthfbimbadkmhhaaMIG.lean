import Derived.Test.YthfbimbadkmhhaaMIF
import Derived.Deep.DeepCutAuto
namespace Go.Proofs.Ythfbimbadkmhhaa
open Go.RowKit Crc

set_option maxRecDepth 10000 in
set_option maxHeartbeats 1600000 in
theorem lendE {w : World} (st : Nat) {ro : Option Addr} {rs : List Rq} {b off : Nat} (n rc : Nat) (hl : rs.length = n) (h : Rqs w.heap.size w ro rs b off) :
    Calls Try.prog 15 #[.agg #[.int .u64 (st : Nat), .slice ro n rc]] w fun e w' => ∃ R, e = .returned (.agg #[.int .u64 (st : Nat), .slice (some ⟨R, 0, none⟩) n (n + 1)]) ∧ Hid (∃ rs1, rs1.map Rq.val = rs.map Rq.val ∧ Below w.heap.size w w' ∧ Lb w.heap.size w'.heap.size w' R n rs1) := by
  obtain ⟨i0, hi, hz0, hz1, hz2⟩ := info_parts infoReq
  obtain ⟨j0, hj, hy0, hy1, hy2⟩ := info_parts Try.info5
  have hle := h.le
  rw [hl] at hle
  have HH := hide h
  have HL := hide hl
  obtain ⟨W2, hW2⟩ : ∃ W2, (w.alloc (.cells #[.int .u64 (st : Nat), .slice ro n rc] 40)).alloc (.cells #[.int .u64 0, .slice none 0 0] 40) = W2 := ⟨_, rfl⟩
  have s2 : W2.heap.size = w.heap.size + 2 := by rw [← hW2]; simp
  have HB2 : Hid (Below w.heap.size w W2) := by rw [← hW2]; exact (below_alloc1 w _).alloc (by simp) _
  have HA : Hid (W2.heap[w.heap.size]? = some (.cells #[.int .u64 (st : Nat), .slice ro n rc] 40 (0, 0)) ∧ W2.heap[w.heap.size + 1]? = some (.cells #[.int .u64 0, .slice none 0 0] 40 (0, 0))) := by rw [← hW2]; exact two_box w _ _
  have a0 := block_cell HA.out.1 0
  have a1 := block_cell HA.out.1 1
  have al := block_lt HA.out.1
  simp at a0 a1
  have HW2 := hide hW2
  clear h hl hW2
  go_enter Try.func15, Try.ntmps15
  go_upto_region 1 with fail
  rw [HW2.out]
  clear HW2
  have HS2 := hide s2
  have s2' : w.heap.size ≤ W2.heap.size := by omega
  clear s2
  go_cut [3] from 8 (fun v3 V => ∃ cb R, v3 = .pointer (some ⟨cb, 0, none⟩) ∧ Hid (Ln w st ro n rc rs R cb 0 [] V))
  case first =>
    have hwr : ((n + 1 : Nat) : Int) = (n : Int) + 1 := by omega
    obtain ⟨w0, r0, o0, g0⟩ := run_make_own (P := Try.prog) W2.drew w.heap.size 38 37 i0 (.agg #[.int .u64 0, .int .u64 0, .slice none 0 0]) 3 Try.underlying38 hi hz0 hz1 .i64 .i64 (n + 1) (by rw [hz2]; omega) (by unfold maxLen; omega) (by show _ ≤ W2.heap.size; exact s2')
    obtain ⟨w0', r0', o0', g0'⟩ := run_make_own (P := Try.prog) (W2.alloc (.cells #[.int .u64 0, .slice none 0 0] 40)).drew w.heap.size 38 37 i0 (.agg #[.int .u64 0, .int .u64 0, .slice none 0 0]) 3 Try.underlying38 hi hz0 hz1 .i64 .i64 (n + 1) (by rw [hz2]; omega) (by unfold maxLen; omega) (by show _ ≤ (W2.alloc _).heap.size; simp; omega)
    rw [hwr] at r0 r0'
    have k0 := (g0.block _ (by show _ < W2.heap.size; exact al) (by simp)).trans HA.out.1
    have k0' := (g0'.block _ (by show _ < (W2.alloc _).heap.size; simp; omega) (by simp)).trans ((Below.heap_alloc W2 _ _ al).trans HA.out.1)
    have kc' := (g0'.block _ (by show W2.heap.size < (W2.alloc _).heap.size; simp) (by simp)).trans (alloc_atK W2 (.cells #[.int .u64 0, .slice none 0 0] 40))
    have e00 := block_cell k0 0
    have e01 := block_cell k0 1
    have e10 := block_cell k0' 0
    have e11 := block_cell k0' 1
    have e20 := block_cell kc' 0
    have e21 := block_cell kc' 1
    have f20 := block_free kc' 0
    have f21 := block_free kc' 1
    have fl0 := block_lt k0
    have fl1 := block_lt k0'
    have fl2 := block_lt kc'
    simp at e00 e01 e10 e11 e20 e21
    have HO0 := hide (And.intro o0 g0)
    have HO0' := hide (And.intro o0' g0')
    have HKC := hide kc'
    clear o0 g0 o0' g0' k0 k0' kc'
    go_region
    · have HN : Hid (Ln w st ro n rc rs W2.heap.size w0.heap.size 0 [] (w0.alloc (.cells #[.int .u64 (st : Nat), .slice (some ⟨W2.heap.size, 0, none⟩) 0 (n + 1)] 40))) := by
        obtain ⟨o0, g0⟩ := HO0.out
        have g0s : W2.heap.size ≤ w0.heap.size := g0.size
        have hb0 : Below w.heap.size w w0 := HB2.out.trans (((Below.refl _ W2).drew.grown g0 (Nat.le_refl _) (fun k e => by cases e)).mono HB2.out.size)
        have hA0 := World.grownBy_alloc w0 (.cells #[.int .u64 (st : Nat), .slice (some ⟨W2.heap.size, 0, none⟩) 0 (n + 1)] 40) none
        have kk : ∀ q cs, W2.heap[q]? = some (Obj.cells cs 40 (0, 0)) → (w0.alloc (.cells #[.int .u64 (st : Nat), .slice (some ⟨W2.heap.size, 0, none⟩) 0 (n + 1)] 40)).heap[q]? = some (Obj.cells cs 40 (0, 0)) := fun q cs hq => by
          have h1 := (g0.block q (by exact block_lt hq) (by simp)).trans hq
          exact (hA0.block q (block_lt h1) (by simp)).trans h1
        refine ⟨hb0.alloc hb0.size _, kk _ _ HA.out.1, kk _ _ HA.out.2, alloc_atK _ _, by have := HS2.out; omega, row_quiet o0 hA0, rfl, rfl, fun r hr => by simp at hr⟩
      go_wp2
      go_meet
      case rel => exact ⟨_, _, rfl, HN.out⟩
    · have HN : Hid (Ln w st ro n rc rs (W2.heap.size + 1) W2.heap.size 0 [] ((w0'.setCell ⟨W2.heap.size, 0, none⟩ (.int .u64 (st : Nat))).setCell ⟨W2.heap.size, 1, none⟩ (.slice (some ⟨W2.heap.size + 1, 0, none⟩) 0 (n + 1)))) := by
        obtain ⟨o0, g0⟩ := HO0'.out
        have e1 : (W2.alloc (.cells #[.int .u64 0, .slice none 0 0] 40)).drew.heap.size = W2.heap.size + 1 := by show (W2.alloc _).heap.size = _; simp
        rw [e1] at o0
        have hbA : Below w.heap.size w (W2.alloc (.cells #[.int .u64 0, .slice none 0 0] 40)) := HB2.out.alloc HB2.out.size _
        have hb0 : Below w.heap.size w w0' := hbA.trans (((Below.refl _ (W2.alloc (.cells #[.int .u64 0, .slice none 0 0] 40))).drew.grown g0 (Nat.le_refl _) (fun k e => by cases e)).mono hbA.size)
        have F : Fe w0' ((w0'.setCell ⟨W2.heap.size, 0, none⟩ (.int .u64 (st : Nat))).setCell ⟨W2.heap.size, 1, none⟩ (.slice (some ⟨W2.heap.size + 1, 0, none⟩) 0 (n + 1))) (fun q => q = W2.heap.size) := (Fe.grown (grown_set _ W2.heap.size 0 _) (T := fun q => q = W2.heap.size) (fun y e => by cases e; rfl)).trans (Fe.grown (grown_set _ W2.heap.size 1 _) (T := fun q => q = W2.heap.size) (fun y e => by cases e; rfl)) (fun _ _ e => e)
        have kk : ∀ q cs, q < W2.heap.size → W2.heap[q]? = some (Obj.cells cs 40 (0, 0)) → ((w0'.setCell ⟨W2.heap.size, 0, none⟩ (.int .u64 (st : Nat))).setCell ⟨W2.heap.size, 1, none⟩ (.slice (some ⟨W2.heap.size + 1, 0, none⟩) 0 (n + 1))).heap[q]? = some (Obj.cells cs 40 (0, 0)) := fun q cs hl hq => by
          have h1 := (g0.block q (by rw [e1]; omega) (by simp)).trans ((Below.heap_alloc W2 _ _ hl).trans hq)
          exact (F.block q (block_lt h1) (by omega)).trans h1
        have s2 := HS2.out
        refine ⟨hb0.trans (F.toBelow _ hb0.size (fun j e => by omega)), kk _ _ (by omega) HA.out.1, kk _ _ (by omega) HA.out.2, ?_, by omega, row_fe o0 F (fun q e e2 => by simp [Value.ownBlock] at e; omega), rfl, rfl, fun r hr => by simp at hr⟩
        rw [heap_setCell_same _ _ 1 _ _ _ (heap_setCell_same _ _ 0 _ _ _ HKC.out)]
        rfl
      go_wp2
      go_meet
      case rel => exact ⟨_, _, rfl, HN.out⟩
  case rest =>
  obtain ⟨cb, R, rfl, HN0⟩ := hcut
  clear a0 a1 al HA HB2 HS2 s2'
  have h2 : Hid (∀ (W : World) (j : Nat) (u : Value), [Value.int .u8 160, .int .u8 161][j]? = some u → (W.alloc (.cells #[.int .u8 160, .int .u8 161] 5)).cell? ((⟨W.heap.size, 0, none⟩ : Addr).add j) = some u) := fun W j u h => by
    have e : (⟨W.heap.size, 0, none⟩ : Addr).add j = ⟨W.heap.size, j, none⟩ := by
      rcases j with _ | j <;> simp [Addr.add]
    rw [← h, e]
    exact (World.cell?_alloc_new W #[.int .u8 160, .int .u8 161] 5 j).trans (by simp)
  go_wp2
  go_loopw [4, 5, 6, 7] (fun i _ _ _ wr => ∃ k : Nat, k ≤ n ∧ i = .int .i64 k ∧ ∃ rs1, Hid (Ln w st ro n rc rs R cb k rs1 wr)) (fun i _ _ _ _ => n - (intOf i).toNat)
  case atStart => exact ⟨0, by omega, rfl, [], HN0.out⟩
  case round =>
    obtain ⟨k, hk, rfl, rs1, HQ⟩ := hrel
    clear HN0
    have p1 := block_cell HQ.out.bP 1
    have pl := block_lt HQ.out.bP
    simp at p1
    by_cases hlt : k < n
    · obtain ⟨r, hr, _, hok, hbl, rfl, c0, c1, c2⟩ := (HH.out.below HQ.out.bel).get (k := k) (by have := HL.out; omega)
      obtain ⟨cl, sq, co, cn, cc, C⟩ := r
      have hbl' : b < wr.heap.size := Nat.lt_of_lt_of_le hbl HQ.out.bel.size
      have HRR := hide hr
      have HOK := hide (HH.out.ok _ (List.mem_of_getElem? hr))
      obtain ⟨wo, hwo⟩ : ∃ wo, wo = wr := ⟨_, rfl⟩
      subst hwo
      obtain ⟨V1, hV1⟩ : ∃ V1, wo.alloc (.cells #[.int .u64 (cl : Int), .int .u64 (sq : Int), .slice co cn cc] 37) = V1 := ⟨_, rfl⟩
      have B1 : Hid (Below wo.heap.size wo V1) := by rw [← hV1]; exact below_alloc1 wo _
      have C1 : Hid (V1.heap[wo.heap.size]? = some (.cells #[.int .u64 (cl : Int), .int .u64 (sq : Int), .slice co cn cc] 37 (0, 0))) := by rw [← hV1]; exact alloc_atK _ _
      have HV1 := hide hV1
      obtain ⟨t1, t2, t3, t4, kb, koff, t5, t6, t7⟩ := HOK.out.hC
      have t3' : cn ≤ 140737488355328 := t3
      have KB : Hid (∀ V, Below V1.heap.size V1 V → ∀ i, i < cn → ∃ q o, co = some ⟨q, o, none⟩ ∧ V.cell? ⟨q, o + i, none⟩ = some (.int .u8 ((C.getD i 0 : Nat) : Int)) ∧ q < V.heap.size) := fun V hb i hi => by
        have hbV : Below w.heap.size w V := HQ.out.bel.trans ((B1.out.trans (hb.mono B1.out.size)).mono HQ.out.bel.size)
        refine ⟨kb, koff, t5 (by show 0 < cn; omega), (hbV.cell (p := ⟨kb, koff + i, none⟩) (t6 (by show 0 < cn; omega))).trans (t7 i hi), ?_⟩
        have := t6 (by show 0 < cn; omega)
        have := hbV.size
        omega
      have HCL : Hid (cn = C.length) := t1
      have KX : Hid (∀ V, Below V1.heap.size V1 V → (V.cell? ⟨wo.heap.size, 0, none⟩ = some (.int .u64 (cl : Int)) ∧ V.cell? ⟨wo.heap.size, 1, none⟩ = some (.int .u64 (sq : Int)) ∧ V.cell? ⟨wo.heap.size, 2, none⟩ = some (.slice co cn cc) ∧ V.frozen? ⟨wo.heap.size, 2, none⟩ = false ∧ wo.heap.size < V.heap.size) ∧ (V.cell? ⟨cb, 1, none⟩ = some (.slice (some ⟨R, 0, none⟩) k (n + 1)) ∧ cb < V.heap.size ∧ ¬ cb = wo.heap.size) ∧ ∀ x o, ((V.setCell ⟨wo.heap.size, 2, none⟩ x).alloc o).ownsRow w.heap.size 37 3 (.slice (some ⟨R, 0, none⟩) k (n + 1)) k (rcells rs1)) := fun V hb => by
        have bq := (hb.block _ (block_lt C1.out)).trans C1.out
        have hV := HQ.out.below (B1.out.trans (hb.mono B1.out.size))
        refine ⟨⟨block_cell bq 0, block_cell bq 1, block_cell bq 2, block_free bq 2, block_lt bq⟩, ⟨block_cell hV.bC 1, block_lt hV.bC, ?_⟩, fun x o => ?_⟩
        · have := block_lt HQ.out.bC
          omega
        · obtain ⟨cur, hgR, _⟩ := row_parts HQ.out.row
          have := block_lt hgR
          exact row_quiet (hV.row.kept (grown_set V wo.heap.size 2 x) (.inr (by simp [Value.ownBlock]; omega))) (World.grownBy_alloc _ _ none)
      have KN : Hid (∀ V x o2 w3, Below V1.heap.size V1 V → V.ownsRow V1.heap.size 5 1 (.slice (some ⟨V1.heap.size, 0, none⟩) (cn + 2) (cn + 2)) (cn + 2) (vals (C ++ [160, 161])) → ((V.setCell ⟨wo.heap.size, 2, none⟩ x).alloc o2).grownBy w3 (some R) → w3.ownsRow w.heap.size 37 3 (.slice (some ⟨R, 0, none⟩) (k + 1) (n + 1)) (k + 1) (rcells rs1 ++ [.int .u64 (cl : Int), .int .u64 (sq : Int), .slice (some ⟨V1.heap.size, 0, none⟩) cn (cn + 2)]) → (w3.cell? ⟨cb, 1, none⟩ = some (.slice (some ⟨R, 0, none⟩) k (n + 1)) ∧ w3.frozen? ⟨cb, 1, none⟩ = false ∧ cb < w3.heap.size) ∧ Ln w st (some ⟨b, off, none⟩) n rc rs R cb (k + 1) (rs1 ++ [⟨cl, sq, some ⟨V1.heap.size, 0, none⟩, cn, cn + 2, C⟩]) (w3.setCell ⟨cb, 1, none⟩ (.slice (some ⟨R, 0, none⟩) (k + 1) (n + 1)))) := fun V x o2 w3 hb own hg ho => by
        obtain ⟨c3, hn⟩ := HQ.out.next HRR.out HOK.out HV1.out hb own hg ho
        exact ⟨⟨block_cell c3 1, block_free c3 1, block_lt c3⟩, hn⟩
      clear hr hok hbl t1 t2 t3 t4 t5 t6 t7 hV1
      go_upto_region 6 with fail
      rw [HV1.out]
      clear HV1 c0 c1 c2 p1 pl
      obtain ⟨⟨q0, q1, q2, qf, ql⟩, _, _⟩ := KX.out V1 (Below.refl _ _)
      go_wp2_with (first
        | (at_make; refine wpList_make_own _ rfl _ _ 35 rfl V1.heap.size 5 j0 (.int .u8 0) 1 Try.underlying35 hj hy0 hy1 .i64 .i64 _ (cn + 2) rfl rfl (by omega) (by rw [hy2]; omega) (by unfold maxLen; omega) (Nat.le_refl _) ?_; intro w0 hown0 hgrow0))
      have HI0 : Hid (w0.ownsRow V1.heap.size 5 1 (.slice (some ⟨V1.heap.size, 0, none⟩) 0 (cn + 2)) 0 (vals (C.take 0)) ∧ Below V1.heap.size V1 w0) := ⟨hown0, (Below.refl _ _).grown hgrow0 (Nat.le_refl _) (fun k h => by cases h)⟩
      clear hown0 hgrow0 q0 q1 q2 qf ql
      go_loopw [6, 7] (fun v j wr => ∃ i : Nat, i ≤ cn ∧ j = .int .i64 i ∧ v = .slice (some ⟨V1.heap.size, 0, none⟩) i (cn + 2) ∧ Hid (wr.ownsRow V1.heap.size 5 1 (.slice (some ⟨V1.heap.size, 0, none⟩) i (cn + 2)) i (vals (C.take i)) ∧ Below V1.heap.size V1 wr)) (fun _ j _ => cn - (intOf j).toNat)
      case atStart => exact ⟨0, by omega, rfl, rfl, HI0.out⟩
      case round =>
        obtain ⟨i, hi', rfl, rfl, HI⟩ := hrel
        clear HI0
        obtain ⟨⟨q0, q1, q2, qf, ql⟩, ⟨d1, dl, dn⟩, HROW⟩ := KX.out wr HI.out.2
        have HRW := hide HROW
        clear HROW
        by_cases hlt2 : i < cn
        · obtain ⟨q, o, rfl, hq, hql⟩ := KB.out wr HI.out.2 i hlt2
          have HT : Hid (vals (C.take (i + 1)) = vals (C.take i) ++ [.int .u8 ((C.getD i 0 : Nat) : Int)]) := by
            show _ = _; rw [take_snoc C i (by have := HCL.out; omega), vals_append, vals_one]
          have HNX : Hid (∀ w1 o, w1.ownsRow V1.heap.size 5 1 (.slice (some ⟨V1.heap.size, 0, none⟩) (i + 1) (cn + 2)) (i + 1) (vals (C.take i) ++ [.int .u8 ((C.getD i 0 : Nat) : Int)]) → (wr.alloc o).grownBy w1 (some V1.heap.size) → w1.ownsRow V1.heap.size 5 1 (.slice (some ⟨V1.heap.size, 0, none⟩) (i + 1) (cn + 2)) (i + 1) (vals (C.take (i + 1))) ∧ Below V1.heap.size V1 w1) := fun w1 o h1 h2 => by
            rw [HT.out]
            exact ⟨h1, (HI.out.2.alloc HI.out.2.size o).grown h2 (by have := HI.out.2.size; simp; omega) (fun k h => by cases h; exact Nat.le_refl _)⟩
          have hown := HI.out.1
          clear HT
          generalize ((C.getD i 0 : Nat) : Int) = ch at *
          generalize vals (C.take i) = vk at *
          go_wp2_with (first
            | (at_builtin; refine wpList_append_own_spare _ rfl (.tmp 40) (.tmp 46) 35 rfl V1.heap.size 5 j0 1 Try.underlying35 hj hy1 V1.heap.size i (cn + 2) _ rfl (hown.alloc _) ⟨wr.heap.size, 0, none⟩ 1 1 [.int .u8 ch] rfl rfl (cell_one_new _ _ _) (Shade.one _ rfl) (by omega) ?_; intro w1 hown1 hgrow1))
          go_roundw
          case rel => exact ⟨i + 1, by omega, by go_num, rfl, HNX.out _ _ hown1 hgrow1⟩
          case measure => simp [intOf]; omega
        · obtain rfl : i = cn := by omega
          have hown := HI.out.1
          have hCk : C.take i = C := List.take_of_length_le (by have := HCL.out; omega)
          rw [hCk] at hown
          clear hCk
          have HMK : Hid (∀ w1 o, w1.ownsRow V1.heap.size 5 1 (.slice (some ⟨V1.heap.size, 0, none⟩) (i + 2) (i + 2)) (i + 2) (vals C ++ [.int .u8 160, .int .u8 161]) → (wr.alloc o).grownBy w1 (some V1.heap.size) → w1.ownsRow V1.heap.size 5 1 (.slice (some ⟨V1.heap.size, 0, none⟩) (i + 2) (i + 2)) (i + 2) (vals (C ++ [160, 161])) ∧ Below V1.heap.size V1 w1) := fun w1 o h1 h2 => by
            rw [vals_append]
            exact ⟨h1, (HI.out.2.alloc HI.out.2.size o).grown h2 (by have := HI.out.2.size; simp; omega) (fun k h => by cases h; exact Nat.le_refl _)⟩
          generalize vals C = vC at *
          go_wp2_with (first
            | (at_builtin; refine wpList_append_own_spare _ rfl (.tmp 48) (.tmp 49) 35 rfl V1.heap.size 5 j0 1 Try.underlying35 hj hy1 V1.heap.size i (i + 2) _ rfl (hown.alloc _) ⟨wr.heap.size, 0, none⟩ 2 2 [.int .u8 160, .int .u8 161] rfl rfl (h2.out wr) (by intro u hu; simp at hu; rcases hu with rfl | rfl <;> rfl) (by omega) ?_; intro w1 hown1 hgrow1; have HM := hide (HMK.out _ _ hown1 hgrow1); clear hown1 hgrow1 q0 q1 q2 qf ql d1 dl HRW; obtain ⟨⟨q0, q1, q2, qf, ql⟩, ⟨d1, dl, _⟩, HROW⟩ := KX.out w1 HM.out.2; have HRW := hide HROW; clear HROW)
            | (at_builtin; refine wpList_append_own_spare _ rfl (.tmp 58) (.tmp 60) 38 rfl w.heap.size 37 i0 3 Try.underlying38 hi hz1 R k (n + 1) _ rfl (HRW.out _ _) ⟨w1.heap.size, 0, none⟩ 1 1 [.int .u64 (cl : Int), .int .u64 (sq : Int), .slice (some ⟨V1.heap.size, 0, none⟩) i (i + 2)] rfl rfl (by have h := cell_req_new (w1.setCell ⟨wo.heap.size, 2, none⟩ (.slice (some ⟨V1.heap.size, 0, none⟩) i (i + 2))) (.int .u64 (cl : Int)) (.int .u64 (sq : Int)) (.slice (some ⟨V1.heap.size, 0, none⟩) i (i + 2)) 37; rw [show (w1.setCell ⟨wo.heap.size, 2, none⟩ (.slice (some ⟨V1.heap.size, 0, none⟩) i (i + 2))).heap.size = w1.heap.size by simp] at h; exact h) (by simp [Value.oneCell']) (by omega) ?_; intro w3 ho hg; obtain ⟨⟨x1, xf, xl⟩, HL3⟩ := KN.out _ _ _ _ HM.out.2 HM.out.1 hg ho; have HLL := hide HL3; clear HL3 ho hg))
          go_roundw
          case rel => exact ⟨k + 1, by omega, by go_num, _, HLL.out⟩
          case measure => simp [intOf]; omega
    · obtain rfl : k = n := by omega
      have d1 := block_cell HQ.out.bC 1
      have dl := block_lt HQ.out.bC
      simp at d1
      have KR : Hid (∀ o, (wr.alloc o).ownsRow w.heap.size 37 3 (.slice (some ⟨R, 0, none⟩) k (k + 1)) k (rcells rs1)) := fun o => row_quiet HQ.out.row (World.grownBy_alloc _ _ none)
      have KL : Hid (∀ o2 w3, (wr.alloc o2).grownBy w3 (some R) → w3.ownsRow w.heap.size 37 3 (.slice (some ⟨R, 0, none⟩) (k + 1) (k + 1)) (k + 1) (rcells rs1 ++ [.int .u64 77, .int .u64 78, .slice none 0 0]) → (w3.heap[cb]? = some (.cells #[.int .u64 (st : Nat), .slice (some ⟨R, 0, none⟩) k (k + 1)] 40 (0, 0)) ∧ w3.heap[w.heap.size]? = some (.cells #[.int .u64 (st : Nat), .slice ro k rc] 40 (0, 0)) ∧ w3.heap[w.heap.size + 1]? = some (.cells #[.int .u64 0, .slice none 0 0] 40 (0, 0)) ∧ w.heap.size + 2 ≤ cb) ∧ Hid (∀ u u' a b, ∃ rs1, rs1.map Rq.val = rs.map Rq.val ∧ Below w.heap.size w ((((w3.setCell ⟨cb, 1, none⟩ u).setCell ⟨cb, 1, none⟩ u').setCell ⟨w.heap.size + 1, 0, none⟩ a).setCell ⟨w.heap.size + 1, 1, none⟩ b) ∧ Lb w.heap.size ((((w3.setCell ⟨cb, 1, none⟩ u).setCell ⟨cb, 1, none⟩ u').setCell ⟨w.heap.size + 1, 0, none⟩ a).setCell ⟨w.heap.size + 1, 1, none⟩ b).heap.size ((((w3.setCell ⟨cb, 1, none⟩ u).setCell ⟨cb, 1, none⟩ u').setCell ⟨w.heap.size + 1, 0, none⟩ a).setCell ⟨w.heap.size + 1, 1, none⟩ b) R k rs1)) := fun o2 w3 hg ho => by
        obtain ⟨c3, ⟨p3, r3, hcb⟩, hv, hF⟩ := HQ.out.last hle HL.out hg ho
        refine ⟨⟨c3, p3, r3, hcb⟩, fun u u' a b => ⟨rs1, hv, (hF u u' a b).1, ?_⟩⟩
        have e : ((((w3.setCell ⟨cb, 1, none⟩ u).setCell ⟨cb, 1, none⟩ u').setCell ⟨w.heap.size + 1, 0, none⟩ a).setCell ⟨w.heap.size + 1, 1, none⟩ b).heap.size = w3.heap.size := by simp
        rw [e]
        exact (hF u u' a b).2
      clear HQ HH HL
      go_upto_region 14 with fail
      iterate 13 go_step
      refine wpList_append_own_spare _ rfl (.tmp 64) (.tmp 66) 38 rfl w.heap.size 37 i0 3 Try.underlying38 hi hz1 R k (k + 1) _ rfl (KR.out _) ⟨wr.heap.size, 0, none⟩ 1 1 [.int .u64 77, .int .u64 78, .slice none 0 0] rfl rfl (cell_req_new _ _ _ _ _) (by simp [Value.oneCell']) (by omega) ?_
      intro w3 ho hg
      obtain ⟨⟨c3, p3, r3, hcb⟩, HF⟩ := KL.out _ _ hg ho
      clear ho hg d1 dl p1 pl
      have x0 := block_cell c3 0
      have x1 := block_cell c3 1
      have xf := block_free c3 1
      have xl := block_lt c3
      have p1 := block_cell p3 1
      have pl := block_lt p3
      have r0 := block_cell r3 0
      have r1 := block_cell r3 1
      have rf0 := block_free r3 0
      have rf1 := block_free r3 1
      have rl := block_lt r3
      simp at x0 x1 p1 r0 r1
      have n1 : ¬ cb = w.heap.size := by omega
      have n2 : ¬ cb = w.heap.size + 1 := by omega
      have n3 : ¬ w.heap.size = cb := by omega
      have n4 : ¬ w.heap.size + 1 = cb := by omega
      clear c3 p3 r3 hcb
      go_wp2
      refine bodyPost_ret (v := .agg #[.int .u64 (st : Nat), .slice (some ⟨R, 0, none⟩) k (k + 1)]) (by simp [results, Try.results15, go_sem, r0, r1]) rfl ?_
      exact ⟨R, rfl, HF.out _ _ _ _⟩
end Go.Proofs.Ythfbimbadkmhhaa
