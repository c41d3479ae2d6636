import Derived.Test.YtneginefcloceaaNYB
import Derived.Test.YtneginefcloceaaBPh
namespace Go.Proofs.Ytneginefcloceaa
open Go.RowKit Crc

/-- The state of nobody. -/
def st0 : Value := .agg #[.int .i64 0, .int .u64 0, .int .i64 0, .int .u64 0, .slice none 0 0, .slice none 0 0, .slice none 0 0, .slice none 0 0, .bool false, .int .u64 0]
set_option maxRecDepth 10000 in
set_option maxHeartbeats 1600000 in
theorem stateN {W : World} {v : Value} (h : Pn W v) : Calls Try.prog 12 #[v] W fun e w' => e = .returned st0 ∧ Hid (Below W.heap.size W w') := by
  obtain ⟨W1, hW1⟩ : ∃ W1, W.alloc (.cells #[.int .i64 0, .int .u64 0, .int .i64 0, .int .u64 0, .slice none 0 0, .slice none 0 0, .slice none 0 0, .slice none 0 0, .bool false, .int .u64 0] 71) = W1 := ⟨_, rfl⟩
  have B1 : Below W.heap.size W W1 := by rw [← hW1]; exact below_alloc1 W _
  have HA : W1.heap[W.heap.size]? = some (.cells #[.int .i64 0, .int .u64 0, .int .i64 0, .int .u64 0, .slice none 0 0, .slice none 0 0, .slice none 0 0, .slice none 0 0, .bool false, .int .u64 0] 71 (0, 0)) := by rw [← hW1]; exact alloc_atK _ _
  have z0 := block_cell HA 0
  have f0 := block_free HA 0
  have z1 := block_cell HA 1
  have f1 := block_free HA 1
  have z2 := block_cell HA 2
  have f2 := block_free HA 2
  have z3 := block_cell HA 3
  have f3 := block_free HA 3
  have z4 := block_cell HA 4
  have f4 := block_free HA 4
  have z5 := block_cell HA 5
  have f5 := block_free HA 5
  have z6 := block_cell HA 6
  have f6 := block_free HA 6
  have z7 := block_cell HA 7
  have f7 := block_free HA 7
  have z8 := block_cell HA 8
  have f8 := block_free HA 8
  have z9 := block_cell HA 9
  have f9 := block_free HA 9
  have zl := block_lt HA
  simp at z0 z1 z2 z3 z4 z5 z6 z7 z8 z9
  have HM := hide (madeN (h.kept B1))
  have FIN : Hid (∀ x0 x1 x2 x3 x4 x5 x6 x7 x8 x9, Below W.heap.size W ((((((((((W1.setCell ⟨W.heap.size, 0, none⟩ x0).setCell ⟨W.heap.size, 1, none⟩ x1).setCell ⟨W.heap.size, 2, none⟩ x2).setCell ⟨W.heap.size, 3, none⟩ x3).setCell ⟨W.heap.size, 4, none⟩ x4).setCell ⟨W.heap.size, 5, none⟩ x5).setCell ⟨W.heap.size, 6, none⟩ x6).setCell ⟨W.heap.size, 7, none⟩ x7).setCell ⟨W.heap.size, 8, none⟩ x8).setCell ⟨W.heap.size, 9, none⟩ x9)) := fun x0 x1 x2 x3 x4 x5 x6 x7 x8 x9 => ((((((((((B1.setCell (p := ⟨W.heap.size, 0, none⟩) (Nat.le_refl _) x0).setCell (p := ⟨W.heap.size, 1, none⟩) (Nat.le_refl _) x1).setCell (p := ⟨W.heap.size, 2, none⟩) (Nat.le_refl _) x2).setCell (p := ⟨W.heap.size, 3, none⟩) (Nat.le_refl _) x3).setCell (p := ⟨W.heap.size, 4, none⟩) (Nat.le_refl _) x4).setCell (p := ⟨W.heap.size, 5, none⟩) (Nat.le_refl _) x5).setCell (p := ⟨W.heap.size, 6, none⟩) (Nat.le_refl _) x6).setCell (p := ⟨W.heap.size, 7, none⟩) (Nat.le_refl _) x7).setCell (p := ⟨W.heap.size, 8, none⟩) (Nat.le_refl _) x8).setCell (p := ⟨W.heap.size, 9, none⟩) (Nat.le_refl _) x9)
  have HW1 := hide hW1
  clear h HA B1 hW1
  go_enter Try.func12, Try.ntmps12
  go_upto_region 1 with fail
  rw [HW1.out]
  clear HW1
  go_wp2_with fail
  refine HM.out.mono ?_
  rintro e w1 ⟨rfl, hw⟩
  have hw' := hw.symm
  subst hw'
  go_wp2
  refine bodyPost_ret (v := st0) (by simp [results, Try.results12, go_sem, z0, z1, z2, z3, z4, z5, z6, z7, z8, z9, st0]) rfl ?_
  exact ⟨rfl, FIN.out _ _ _ _ _ _ _ _ _ _⟩
set_option maxRecDepth 10000 in
set_option maxHeartbeats 800000 in
theorem samePromises0 (W : World) : Calls Try.prog 34 #[.slice none 0 0, .slice none 0 0] W fun e w' => e = .returned (.bool true) ∧ w' = W := by
  go_enter Try.func34, Try.ntmps34
  go_wp2
  go_loopw [5] (fun i wr => i = .int .i64 0 ∧ wr = W) (fun _ _ => 0)
  case atStart => exact ⟨rfl, rfl⟩
  case round =>
    obtain ⟨rfl, rfl⟩ := hrel
    go_wp2
    go_ret
    exact ⟨rfl, rfl⟩
set_option maxRecDepth 10000 in
set_option maxHeartbeats 800000 in
theorem sameReqs0 (W : World) : Calls Try.prog 35 #[.slice none 0 0, .slice none 0 0] W fun e w' => e = .returned (.bool true) ∧ w' = W := by
  go_enter Try.func35, Try.ntmps35
  go_wp2
  go_loopw [5] (fun i wr => i = .int .i64 0 ∧ wr = W) (fun _ _ => 0)
  case atStart => exact ⟨rfl, rfl⟩
  case round =>
    obtain ⟨rfl, rfl⟩ := hrel
    go_wp2
    go_ret
    exact ⟨rfl, rfl⟩
set_option maxRecDepth 10000 in
set_option maxHeartbeats 800000 in
theorem sameVotes0 (W : World) : Calls Try.prog 36 #[.slice none 0 0, .slice none 0 0] W fun e w' => e = .returned (.bool true) ∧ w' = W := by
  go_enter Try.func36, Try.ntmps36
  go_wp2
  go_loopw [5] (fun i wr => i = .int .i64 0 ∧ wr = W) (fun _ _ => 0)
  case atStart => exact ⟨rfl, rfl⟩
  case round =>
    obtain ⟨rfl, rfl⟩ := hrel
    go_wp2
    go_ret
    exact ⟨rfl, rfl⟩
set_option maxRecDepth 10000 in
set_option maxHeartbeats 1600000 in
theorem sameState0 (W : World) : Calls Try.prog 11 #[st0, st0] W fun e w' => e = .returned (.bool true) ∧ Hid (Below W.heap.size W w') := by
  unfold st0
  obtain ⟨W2, hW2⟩ : ∃ W2, (W.alloc (.cells #[.int .i64 0, .int .u64 0, .int .i64 0, .int .u64 0, .slice none 0 0, .slice none 0 0, .slice none 0 0, .slice none 0 0, .bool false, .int .u64 0] 71)).alloc (.cells #[.int .i64 0, .int .u64 0, .int .i64 0, .int .u64 0, .slice none 0 0, .slice none 0 0, .slice none 0 0, .slice none 0 0, .bool false, .int .u64 0] 71) = W2 := ⟨_, rfl⟩
  have B2 : Hid (Below W.heap.size W W2) := by rw [← hW2]; exact (below_alloc1 W _).alloc (by simp) _
  have HA : W2.heap[W.heap.size]? = some (.cells #[.int .i64 0, .int .u64 0, .int .i64 0, .int .u64 0, .slice none 0 0, .slice none 0 0, .slice none 0 0, .slice none 0 0, .bool false, .int .u64 0] 71 (0, 0)) ∧ W2.heap[W.heap.size + 1]? = some (.cells #[.int .i64 0, .int .u64 0, .int .i64 0, .int .u64 0, .slice none 0 0, .slice none 0 0, .slice none 0 0, .slice none 0 0, .bool false, .int .u64 0] 71 (0, 0)) := by rw [← hW2]; exact two_box W _ _
  have z0 := block_cell HA.1 0
  have y0 := block_cell HA.2 0
  have z1 := block_cell HA.1 1
  have y1 := block_cell HA.2 1
  have z2 := block_cell HA.1 2
  have y2 := block_cell HA.2 2
  have z3 := block_cell HA.1 3
  have y3 := block_cell HA.2 3
  have z4 := block_cell HA.1 4
  have y4 := block_cell HA.2 4
  have z5 := block_cell HA.1 5
  have y5 := block_cell HA.2 5
  have z6 := block_cell HA.1 6
  have y6 := block_cell HA.2 6
  have z7 := block_cell HA.1 7
  have y7 := block_cell HA.2 7
  have z8 := block_cell HA.1 8
  have y8 := block_cell HA.2 8
  have z9 := block_cell HA.1 9
  have y9 := block_cell HA.2 9
  have zl := block_lt HA.1
  have yl := block_lt HA.2
  simp at z0 y0 z1 y1 z2 y2 z3 y3 z4 y4 z5 y5 z6 y6 z7 y7 z8 y8 z9 y9
  have HP := hide (samePromises0 W2)
  have HR := hide (sameReqs0 W2)
  have HV := hide (sameVotes0 W2)
  have HW2 := hide hW2
  clear HA hW2
  go_enter Try.func11, Try.ntmps11
  go_upto_region 1 with fail
  rw [HW2.out]
  clear HW2
  go_wp2_with (first
    | (go_at_call 34; refine HP.out.mono ?_; rintro e V' ⟨rfl, hVV⟩; have hVW := hVV.symm; clear hVV; subst hVW)
    | (go_at_call 35; refine HR.out.mono ?_; rintro e V' ⟨rfl, hVV⟩; have hVW := hVV.symm; clear hVV; subst hVW)
    | (go_at_call 36; refine HV.out.mono ?_; rintro e V' ⟨rfl, hVV⟩; have hVW := hVV.symm; clear hVV; subst hVW))
  go_ret
  exact ⟨rfl, B2.out⟩
end Go.Proofs.Ytneginefcloceaa
namespace Go.Proofs.Ytneginefcloceaa
open Go.RowKit Crc

/-- The question of phase 1 at ballot {1 0}: 49 cells. -/
def mL : List Value := [.int .i64 3, .int .u64 1, .int .i64 0, .int .u64 0, .int .u64 0, .slice none 0 0, .int .u64 0, .slice none 0 0, .int .u64 0, .int .u64 0, .int .i64 0, .slice none 0 0, .slice none 0 0, .bool false, .int .u64 0, .int .u64 0, .int .u8 0, .int .u8 0, .int .u8 0, .int .u8 0, .int .u8 0, .int .u8 0, .int .u8 0, .int .u8 0, .int .u8 0, .int .u8 0, .int .u8 0, .int .u8 0, .int .u8 0, .int .u8 0, .int .u8 0, .int .u8 0, .int .u8 0, .int .u8 0, .int .u8 0, .int .u8 0, .int .u8 0, .int .u8 0, .int .u8 0, .int .u8 0, .int .u8 0, .int .u8 0, .int .u8 0, .int .u8 0, .int .u8 0, .int .u8 0, .int .u8 0, .int .u8 0, .slice none 0 0]
theorem mL_one : ∀ u ∈ mL, u.oneCell' = true := by decide
theorem infoSend : (Try.prog.info? 107).map (fun i => (i.zero, i.size, i.bytes)) = some (some (.agg #[.int .u64 0, .int .i64 0, .int .u64 0, .int .i64 0, .int .u64 0, .int .u64 0, .slice none 0 0, .int .u64 0, .slice none 0 0, .int .u64 0, .int .u64 0, .int .i64 0, .slice none 0 0, .slice none 0 0, .bool false, .int .u64 0, .int .u64 0, .int .u8 0, .int .u8 0, .int .u8 0, .int .u8 0, .int .u8 0, .int .u8 0, .int .u8 0, .int .u8 0, .int .u8 0, .int .u8 0, .int .u8 0, .int .u8 0, .int .u8 0, .int .u8 0, .int .u8 0, .int .u8 0, .int .u8 0, .int .u8 0, .int .u8 0, .int .u8 0, .int .u8 0, .int .u8 0, .int .u8 0, .int .u8 0, .int .u8 0, .int .u8 0, .int .u8 0, .int .u8 0, .int .u8 0, .int .u8 0, .int .u8 0, .int .u8 0, .slice none 0 0]), 50, 256) := by kernel_rfl
theorem cell_list_new (W : World) (xs : List Value) (t : TypeId) : ∀ (j : Nat) (u : Value), xs[j]? = some u → (W.alloc (.cells xs.toArray t)).cell? (Addr.add ⟨W.heap.size, 0, none⟩ j) = some u := by
  intro j u hu
  have := World.cell?_alloc_new W xs.toArray t j
  have he : Addr.add ⟨W.heap.size, 0, none⟩ j = ⟨W.heap.size, j, none⟩ := by
    simp only [Addr.add]
    split <;> simp_all
  rw [he, this]
  simpa using hu
set_option maxRecDepth 10000 in
set_option maxHeartbeats 800000 in
theorem twin0 (W : World) : Calls Try.prog 37 #[.slice none 0 0] W fun e w' => e = .returned (.slice none 0 0) ∧ w' = W := by
  go_enter Try.func37, Try.ntmps37
  go_wp2
  go_loopw [3, 8] (fun v i wr => v = .slice none 0 0 ∧ i = .int .i64 0 ∧ wr = W) (fun _ _ _ => 0)
  case atStart => exact ⟨rfl, rfl, rfl⟩
  case round =>
    obtain ⟨rfl, rfl, rfl⟩ := hrel
    go_wp2
    go_ret
    exact ⟨rfl, rfl⟩
/-- toAll's loop. -/
structure Tq (ml : List Value) (W : World) (k : Nat) (v : Value) (xs : List Value) (wr : World) : Prop where
  row : wr.ownsRow (W.heap.size + 1) 107 50 v k xs
  bel : Below W.heap.size W wr
  box : wr.heap[W.heap.size]? = some (.cells ml.toArray 59 (0, 0))
theorem Tq.row2 {ml : List Value} {W : World} {k : Nat} {v : Value} {xs : List Value} {wr : World} (h : Tq ml W k v xs wr) (o : Obj) : ((wr.setCell ⟨W.heap.size, 7, none⟩ (.slice none 0 0)).alloc o).ownsRow (W.heap.size + 1) 107 50 v k xs := by
  have hv : v.ownBlock ≠ some W.heap.size := fun e => by have := (h.row.lt _ e).1; omega
  exact row_quiet (h.row.kept (grown_set _ _ _ _) (.inr hv)) (World.grownBy_alloc _ _ none)
theorem Tq.box2 {ml : List Value} (h7 : ml.set 7 (.slice none 0 0) = ml) {W : World} {k : Nat} {v : Value} {xs : List Value} {wr : World} (h : Tq ml W k v xs wr) : (wr.setCell ⟨W.heap.size, 7, none⟩ (.slice none 0 0)).heap[W.heap.size]? = some (.cells ml.toArray 59 (0, 0)) := by
  have := blk_setN h.box 7 (.slice none 0 0)
  rw [h7] at this
  exact this
theorem Tq.next {ml : List Value} (h7 : ml.set 7 (.slice none 0 0) = ml) {W : World} {k : Nat} {v : Value} {xs : List Value} {wr : World} (h : Tq ml W k v xs wr) {o : Obj} {w2 : World} {v' : Value} {ys : List Value} (ho : w2.ownsRow (W.heap.size + 1) 107 50 v' (k + 1) ys) (hg : ((wr.setCell ⟨W.heap.size, 7, none⟩ (.slice none 0 0)).alloc o).grownBy w2 v.ownBlock) : Tq ml W (k + 1) v' ys w2 := by
  have b1 := (h.bel.setCell (p := ⟨W.heap.size, 7, none⟩) (Nat.le_refl _) (.slice none 0 0)).alloc (by simp; exact h.bel.size) o
  have hv : ∀ j, v.ownBlock = some j → W.heap.size + 1 ≤ j := fun j e => (h.row.lt _ e).1
  have hl : W.heap.size < (wr.setCell ⟨W.heap.size, 7, none⟩ (.slice none 0 0)).heap.size := by simpa using block_lt h.box
  refine ⟨ho, b1.grown hg b1.size (fun j hj => by have := hv j hj; omega), ?_⟩
  have e1 := (World.grownBy_alloc (wr.setCell ⟨W.heap.size, 7, none⟩ (.slice none 0 0)) o none).block _ hl (by simp)
  have hl2 := block_lt (e1.trans (h.box2 h7))
  exact (hg.block _ hl2 (fun e => by have := hv _ e.symm; omega)).trans (e1.trans (h.box2 h7))
set_option maxRecDepth 100000 in
set_option maxHeartbeats 3200000 in
theorem toAll3 {W : World} {p g : Nat} {c : Cf} (hq : W.cell? ⟨p, 0, none⟩ = some (.pointer (some ⟨g, 0, none⟩))) (hpl : p < W.heap.size) (hg : PG W (some ⟨g, 0, none⟩) c) (hok : c.Ok) (hf : c.f = 1) :
    Calls Try.prog 17 #[.pointer (some ⟨p, 0, none⟩), .agg mL.toArray] W fun e w' => ∃ so sc, e = .returned (.slice so 3 sc) ∧ Hid (Below W.heap.size W w') := by
  obtain ⟨ml, hml⟩ : ∃ ml, mL = ml := ⟨_, rfl⟩
  rw [hml]
  have HML := hide hml.symm
  have H7 : Hid (ml.set 7 (.slice none 0 0) = ml) := by show _ = _; rw [← hml]; rfl
  have H7' : Hid (ml[7]? = some (.slice none 0 0)) := by show _ = _; rw [← hml]; rfl
  have HSZ : Hid ((Try.prog.info? 59).map (·.size) = some ml.length) := by show _ = _; rw [← hml]; kernel_rfl
  clear hml
  obtain ⟨i0, hi, hz0, hz1, hz2⟩ := info_parts infoSend
  obtain ⟨W1, hW1⟩ : ∃ W1, W.alloc (.cells ml.toArray 59) = W1 := ⟨_, rfl⟩
  have B1 : Hid (Below W.heap.size W W1) := by rw [← hW1]; exact below_alloc1 W _
  have C1 : Hid (W1.heap[W.heap.size]? = some (.cells ml.toArray 59 (0, 0))) := by rw [← hW1]; exact alloc_atK _ _
  have q0 : W1.cell? ⟨p, 0, none⟩ = some (.pointer (some ⟨g, 0, none⟩)) := (B1.out.cell (p := ⟨p, 0, none⟩) hpl).trans hq
  have ql : p < W1.heap.size := Nat.lt_of_lt_of_le hpl B1.out.size
  have HN : Hid (Calls Try.prog 29 #[.pointer (some ⟨g, 0, none⟩)] W1 fun e w' => e = .returned (.int .i64 3) ∧ w' = W1) := by
    have h := nodes_live (hg.kept B1.out) hok
    rw [hf] at h
    exact h
  have HT0 : Hid (Tq ml W 0 (.slice none 0 0) [] W1) := ⟨World.ownsRow_nil _ _ _ _, B1.out, C1.out⟩
  have HTW : Hid (∀ V, Calls Try.prog 37 #[.slice none 0 0] V fun e w' => e = .returned (.slice none 0 0) ∧ w' = V) := fun V => twin0 V
  have HW1 := hide hW1
  clear hq hpl hg hok hf hW1 B1 C1
  go_enter Try.func17, Try.ntmps17
  go_upto_region 1 with fail
  rw [HW1.out]
  clear HW1
  go_wp2_with (go_at_call 29; refine HN.out.mono ?_; rintro e w1 ⟨rfl, hw⟩; have hw' := hw.symm; clear hw; subst hw')
  go_loopw [5, 6, 12] (fun v _ i wr => ∃ (k : Nat) (xs : List Value), k ≤ 3 ∧ i = .int .i64 k ∧ Hid (Tq ml W k v xs wr)) (fun _ _ i _ => 3 - (intOf i).toNat)
  case atStart => exact ⟨0, [], by omega, rfl, HT0.out⟩
  case round =>
    clear q0 ql HN HT0
    obtain ⟨k, xs, hk, rfl, HT⟩ := hrel
    generalize u5 = SV at *
    by_cases hlt : k < 3
    · have z7 := blk_cellN HT.out.box H7'.out
      have f7 := block_free HT.out.box 7
      have bl := block_lt HT.out.box
      have hw : IntKind.u64.wrap (k : Int) = (k : Int) := IntWalk.u64_in _ ⟨by omega, by omega⟩
      obtain ⟨V1, hV1⟩ : ∃ V1, wr.setCell ⟨W.heap.size, 7, none⟩ (.slice none 0 0) = V1 := ⟨_, rfl⟩
      have HR : Hid (∀ o, (V1.alloc o).ownsRow (W.heap.size + 1) 107 50 SV k xs) := fun o => by rw [← hV1]; exact HT.out.row2 o
      have HX : Hid (∀ o w2 v' ys, w2.ownsRow (W.heap.size + 1) 107 50 v' (k + 1) ys → (V1.alloc o).grownBy w2 SV.ownBlock → Tq ml W (k + 1) v' ys w2) := fun o w2 v' ys ho hg => by rw [← hV1] at hg; exact HT.out.next H7.out ho hg
      have RG : Hid (V1.rangeAt W.heap.size 0 ml) := by rw [← hV1]; exact blk_rangeN (HT.out.box2 H7.out)
      have HSV : Hid (W.heap.size + 1 ≤ V1.heap.size) := by show _ ≤ _; rw [← hV1]; simp only [World.size_setCell]; exact block_lt HT.out.box
      have HV1 := hide hV1
      clear hV1 HT
      go_upto_region 6 with (go_at_call 37; refine (HTW.out _).mono ?_; rintro e w1 ⟨rfl, hw⟩; have hw' := hw.symm; clear hw; subst hw')
      rw [HV1.out]
      clear HV1 z7 f7 bl
      iterate 10 go_step
      refine wpList_load_mid rfl 59 _ rfl W.heap.size 0 rfl ml _ RG.out Try.underlying59 rfl HSZ.out ?_
      simp only [Act.put, List.setIfInBounds_toArray, List.set_cons_zero, List.set_cons_succ]
      have e := HML.out
      subst e
      simp only [mL]
      have HNW : Hid (∀ (j : Nat) (u : Value), [Value.int .u64 (k : Int), .int .i64 3, .int .u64 1, .int .i64 0, .int .u64 0, .int .u64 0, .slice none 0 0, .int .u64 0, .slice none 0 0, .int .u64 0, .int .u64 0, .int .i64 0, .slice none 0 0, .slice none 0 0, .bool false, .int .u64 0, .int .u64 0, .int .u8 0, .int .u8 0, .int .u8 0, .int .u8 0, .int .u8 0, .int .u8 0, .int .u8 0, .int .u8 0, .int .u8 0, .int .u8 0, .int .u8 0, .int .u8 0, .int .u8 0, .int .u8 0, .int .u8 0, .int .u8 0, .int .u8 0, .int .u8 0, .int .u8 0, .int .u8 0, .int .u8 0, .int .u8 0, .int .u8 0, .int .u8 0, .int .u8 0, .int .u8 0, .int .u8 0, .int .u8 0, .int .u8 0, .int .u8 0, .int .u8 0, .int .u8 0, .slice none 0 0][j]? = some u → (V1.alloc (.cells [Value.int .u64 (k : Int), .int .i64 3, .int .u64 1, .int .i64 0, .int .u64 0, .int .u64 0, .slice none 0 0, .int .u64 0, .slice none 0 0, .int .u64 0, .int .u64 0, .int .i64 0, .slice none 0 0, .slice none 0 0, .bool false, .int .u64 0, .int .u64 0, .int .u8 0, .int .u8 0, .int .u8 0, .int .u8 0, .int .u8 0, .int .u8 0, .int .u8 0, .int .u8 0, .int .u8 0, .int .u8 0, .int .u8 0, .int .u8 0, .int .u8 0, .int .u8 0, .int .u8 0, .int .u8 0, .int .u8 0, .int .u8 0, .int .u8 0, .int .u8 0, .int .u8 0, .int .u8 0, .int .u8 0, .int .u8 0, .int .u8 0, .int .u8 0, .int .u8 0, .int .u8 0, .int .u8 0, .int .u8 0, .int .u8 0, .int .u8 0, .slice none 0 0].toArray 107)).cell? (Addr.add ⟨V1.heap.size, 0, none⟩ j) = some u) := cell_list_new V1 _ _
      have HON : Hid (∀ u ∈ [Value.int .u64 (k : Int), .int .i64 3, .int .u64 1, .int .i64 0, .int .u64 0, .int .u64 0, .slice none 0 0, .int .u64 0, .slice none 0 0, .int .u64 0, .int .u64 0, .int .i64 0, .slice none 0 0, .slice none 0 0, .bool false, .int .u64 0, .int .u64 0, .int .u8 0, .int .u8 0, .int .u8 0, .int .u8 0, .int .u8 0, .int .u8 0, .int .u8 0, .int .u8 0, .int .u8 0, .int .u8 0, .int .u8 0, .int .u8 0, .int .u8 0, .int .u8 0, .int .u8 0, .int .u8 0, .int .u8 0, .int .u8 0, .int .u8 0, .int .u8 0, .int .u8 0, .int .u8 0, .int .u8 0, .int .u8 0, .int .u8 0, .int .u8 0, .int .u8 0, .int .u8 0, .int .u8 0, .int .u8 0, .int .u8 0, .int .u8 0, .slice none 0 0], u.oneCell' = true) := by
        intro u hu
        rcases List.mem_cons.1 hu with h | h
        · rw [h]; rfl
        · exact mL_one u h
      go_wp2_with (at_builtin; refine wpList_append_own _ rfl (.tmp 21) (.tmp 26) 44 rfl (W.heap.size + 1) 107 i0 (.agg #[.int .u64 0, .int .i64 0, .int .u64 0, .int .i64 0, .int .u64 0, .int .u64 0, .slice none 0 0, .int .u64 0, .slice none 0 0, .int .u64 0, .int .u64 0, .int .i64 0, .slice none 0 0, .slice none 0 0, .bool false, .int .u64 0, .int .u64 0, .int .u8 0, .int .u8 0, .int .u8 0, .int .u8 0, .int .u8 0, .int .u8 0, .int .u8 0, .int .u8 0, .int .u8 0, .int .u8 0, .int .u8 0, .int .u8 0, .int .u8 0, .int .u8 0, .int .u8 0, .int .u8 0, .int .u8 0, .int .u8 0, .int .u8 0, .int .u8 0, .int .u8 0, .int .u8 0, .int .u8 0, .int .u8 0, .int .u8 0, .int .u8 0, .int .u8 0, .int .u8 0, .int .u8 0, .int .u8 0, .int .u8 0, .int .u8 0, .slice none 0 0]) 50 256 Try.underlying44 hi hz0 hz1 hz2 rfl (by decide) SV k xs rfl (HR.out _) ⟨V1.heap.size, 0, none⟩ 1 1 [Value.int .u64 (k : Int), .int .i64 3, .int .u64 1, .int .i64 0, .int .u64 0, .int .u64 0, .slice none 0 0, .int .u64 0, .slice none 0 0, .int .u64 0, .int .u64 0, .int .i64 0, .slice none 0 0, .slice none 0 0, .bool false, .int .u64 0, .int .u64 0, .int .u8 0, .int .u8 0, .int .u8 0, .int .u8 0, .int .u8 0, .int .u8 0, .int .u8 0, .int .u8 0, .int .u8 0, .int .u8 0, .int .u8 0, .int .u8 0, .int .u8 0, .int .u8 0, .int .u8 0, .int .u8 0, .int .u8 0, .int .u8 0, .int .u8 0, .int .u8 0, .int .u8 0, .int .u8 0, .int .u8 0, .int .u8 0, .int .u8 0, .int .u8 0, .int .u8 0, .int .u8 0, .int .u8 0, .int .u8 0, .int .u8 0, .int .u8 0, .slice none 0 0] rfl rfl HNW.out HON.out (by unfold maxLen; omega) (by omega) (by simp; have := HSV.out; omega) ?_; intro v' w2 ho hg _; have HC2 := hide (HX.out _ _ _ _ ho hg); clear ho hg)
      go_roundw
      case rel => exact ⟨_, _, .int .i64 ((k : Int) + 1), ⟨k + 1, by omega, by go_num, _, HC2.out⟩, rfl, rfl, rfl, rfl⟩
      case measure => simp [intOf]; omega
    · obtain rfl : k = 3 := by omega
      obtain ⟨g', cap', rfl⟩ := ownsRow_succ HT.out.row
      go_wp2
      go_ret
      exact ⟨_, _, rfl, HT.out.bel⟩
end Go.Proofs.Ytneginefcloceaa
