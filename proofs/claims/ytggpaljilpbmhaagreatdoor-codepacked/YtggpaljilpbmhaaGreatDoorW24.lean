import Derived.Test.YtggpaljilpbmhaaGreatDoorW22
import Derived.Test.YtggpaljilpbmhaaGreatDoorW23
namespace Go.Proofs.YtggpaljilpbmhaaGreatDoor
open Go.RowKit Go.Sort

theorem cell_one_newL (w : World) (x : Value) (t : TypeId) : ∀ j u, [x][j]? = some u → (w.alloc (.cells #[x] t)).cell? ((⟨w.heap.size, 0, none⟩ : Addr).add j) = some u := by
 intro j u hj
 have e : (⟨w.heap.size, 0, none⟩ : Addr).add j = ⟨w.heap.size, j, none⟩ := by
  rcases j with _ | j <;> simp [Addr.add]
 rw [← hj, e]
 exact (World.cell?_alloc_new w #[x] t j).trans (by simp)
theorem cell_two_newL (w : World) (x y : Value) (t : TypeId) : ∀ j u, [x, y][j]? = some u → (w.alloc (.cells #[x, y] t)).cell? ((⟨w.heap.size, 0, none⟩ : Addr).add j) = some u := by
 intro j u hj
 have e : (⟨w.heap.size, 0, none⟩ : Addr).add j = ⟨w.heap.size, j, none⟩ := by
  rcases j with _ | j <;> simp [Addr.add]
 rw [← hj, e]
 exact (World.cell?_alloc_new w #[x, y] t j).trans (by simp)
theorem cell_three_newL (w : World) (x y z : Value) (t : TypeId) : ∀ j u, [x, y, z][j]? = some u → (w.alloc (.cells #[x, y, z] t)).cell? ((⟨w.heap.size, 0, none⟩ : Addr).add j) = some u := by
 intro j u hj
 have e : (⟨w.heap.size, 0, none⟩ : Addr).add j = ⟨w.heap.size, j, none⟩ := by
  rcases j with _ | j <;> simp [Addr.add]
 rw [← hj, e]
 exact (World.cell?_alloc_new w #[x, y, z] t j).trans (by simp)
section
variable {gb : Nat} {v : Gv} {ev kk : Int} {w : World}
set_option maxRecDepth 10000 in
set_option maxHeartbeats 6400000 in
theorem take0 (h : Gr (gb + 1) gb v [] [] [] [] w) : Calls Tryz.prog 146 #[.pointer (some ⟨gb, 0, none⟩), .agg #[.int .i64 1, .int .u64 1, .string ⟨#[]⟩]] w fun e w' => e = .returned (.tuple #[]) ∧ Hid (∃ v', Gr (gb + 1) gb v' [(1, 1)] [0] [0] [(0, 0)] w' ∧ Below gb w w') := by
 obtain ⟨iT, hiT, hiT0, hiT1, hiT2⟩ := info_parts Tryz.infoTN
 obtain ⟨iI, hiI, hiI0, hiI1, hiI2⟩ := info_parts Tryz.infoI
 obtain ⟨iF, hiF, hiF0, hiF1, hiF2⟩ := info_parts Tryz.infoUF
 obtain ⟨W1, hW1⟩ : ∃ W1, w.alloc (.cells #[.int .i64 1, .int .u64 1, .string ⟨#[]⟩] 121) = W1 := ⟨_, rfl⟩
 have B1 : Below w.heap.size w W1 := by rw [← hW1]; exact below_alloc1 w _
 have A1 : W1.heap[w.heap.size]? = some (.cells #[.int .i64 1, .int .u64 1, .string ⟨#[]⟩] 121 (0, 0)) := by rw [← hW1]; exact alloc_atK _ _
 have HNX : Hid (∀ q, (Value.slice v.aN 0 v.cN).ownBlock = some q → q < w.heap.size) := fun q e => (h.n.lt q e).2
 have HG1 := hide (h.next B1)
 have HGL := hide (block_lt h.blk)
 have HA1 := hide A1
 have HB1 := hide B1
 have HW1 := hide hW1
 have c0 := block_cell HG1.out.blk 0
 have c3 := block_cell HG1.out.blk 3
 have cl := block_lt HG1.out.blk
 simp at c0 c3
 clear h hW1 A1 B1
 go_enter Tryz.func146, Tryz.ntmps146
 go_upto_region 1 with fail
 rw [HW1.out]
 clear HW1
 go_upto_region 5 with fail
 obtain ⟨W2, hW2⟩ : ∃ W2, W1 = W2 := ⟨_, rfl⟩
 have B2 : Hid (Below W1.heap.size W1 W2) := by rw [← hW2]; exact Below.refl _ _
 have HG2 := hide (HG1.out.next B2.out)
 have HA2 := hide ((B2.out.block _ (block_lt HA1.out)).trans HA1.out)
 have HBW := hide (HB1.out.trans (B2.out.mono HB1.out.size))
 rw [hW2]
 clear hW2 c0 c3 cl
 obtain ⟨xb, hxb⟩ : ∃ xb, w.heap.size = xb := ⟨_, rfl⟩
 have HXB := hide hxb
 rw [hxb] at HA2
 have HS2 : Hid (∀ {w1 : World} (w2 : World), w2.heap[gb]? = some (.cells #[.slice v.aN 0 v.cN, .slice v.aE 0 v.cE, .slice v.aA 0 v.cA, .slice v.aO 0 v.cO] 222 (0, 0)) → Below gb W2 w2 → w1.grownBy w2 (Value.slice v.aN 0 v.cN).ownBlock → Below W2.heap.size W2 w1 → (fun (w : World) => (w.cell? ⟨gb, 0, none⟩ = some (.slice v.aN 0 v.cN) ∧ gb < w.heap.size) ∧ w.cell? ⟨xb, 0, none⟩ = some (.int .i64 1) ∧ w.cell? ⟨xb, 1, none⟩ = some (.int .u64 1) ∧ w.cell? ⟨xb, 2, none⟩ = some (.string ⟨#[]⟩) ∧ xb < w.heap.size) w2) := fun {w1} w2 hb _ hg hw => by
  have a1 := (hw.block _ (block_lt HA2.out)).trans HA2.out
  have g1 := HG2.out.next hw
  have a2 : w2.heap[xb]? = some (.cells #[.int .i64 1, .int .u64 1, .string ⟨#[]⟩] 121 (0, 0)) := by
   refine (hg.block xb (block_lt a1) (fun e => ?_)).trans a1
   have := HNX.out xb e.symm
   omega
  exact ⟨⟨(block_cell hb 0).trans rfl, block_lt hb⟩, (block_cell a2 0).trans rfl, (block_cell a2 1).trans rfl, (block_cell a2 2).trans rfl, block_lt a2⟩
 have HS1 : Hid (∀ w' : World, Below W2.heap.size W2 w' → (fun (w : World) => (w.cell? ⟨gb, 0, none⟩ = some (.slice v.aN 0 v.cN) ∧ gb < w.heap.size) ∧ w.cell? ⟨xb, 0, none⟩ = some (.int .i64 1) ∧ w.cell? ⟨xb, 1, none⟩ = some (.int .u64 1) ∧ w.cell? ⟨xb, 2, none⟩ = some (.string ⟨#[]⟩) ∧ xb < w.heap.size) w') := fun w' hb => by
  have q := HG2.out.next hb
  have a := (hb.block _ (block_lt HA2.out)).trans HA2.out
  exact ⟨⟨(block_cell q.blk 0).trans rfl, block_lt q.blk⟩, (block_cell a 0).trans rfl, (block_cell a 1).trans rfl, (block_cell a 2).trans rfl, block_lt a⟩
 have HOW : Hid (∀ w' : World, Below W2.heap.size W2 w' → w'.ownsRow (gb + 1) 121 3 (.slice v.aN 0 v.cN) 0 (ndc [])) := fun w' hb => (HG2.out.next hb).n
 have HSZ : Hid (∀ w' : World, Below W2.heap.size W2 w' → gb + 1 ≤ w'.heap.size) := fun w' hb => block_lt (HG2.out.next hb).blk

 rw [hxb]
 clear hxb
 obtain ⟨wz, hwz⟩ : ∃ wz, (W2).drew = wz := ⟨_, rfl⟩
 have HS9 : Hid ((fun (w : World) => (w.cell? ⟨gb, 0, none⟩ = some (.slice v.aN 0 v.cN) ∧ gb < w.heap.size) ∧ w.cell? ⟨xb, 0, none⟩ = some (.int .i64 1) ∧ w.cell? ⟨xb, 1, none⟩ = some (.int .u64 1) ∧ w.cell? ⟨xb, 2, none⟩ = some (.string ⟨#[]⟩) ∧ xb < w.heap.size) wz) := by rw [← hwz]; exact HS1.out _ (Below.refl _ _).drew
 refine wp_region_L 12 (fun (w : World) => (w.cell? ⟨gb, 0, none⟩ = some (.slice v.aN 0 v.cN) ∧ gb < w.heap.size) ∧ w.cell? ⟨xb, 0, none⟩ = some (.int .i64 1) ∧ w.cell? ⟨xb, 1, none⟩ = some (.int .u64 1) ∧ w.cell? ⟨xb, 2, none⟩ = some (.string ⟨#[]⟩) ∧ xb < w.heap.size) (fun _ => True) (by kernel_rfl) (by rw [hwz]; exact HS9.out) trivial (fun hS0 => ?_)
 rw [hwz] at hS0 ⊢
 refine wpAnyL_take (i := 0) (oi := ⟨some 29, .move (.tmp 0), 254, "tree.go:80", #[], none⟩) (v := .pointer (some ⟨gb, 0, none⟩)) rfl (by decide) (by kernel_rfl) (by kernel_rfl) (by kernel_rfl) (fun _ _ _ h => h) (Or.inl ⟨by rfl, fun w2 hSw => ?_⟩) hS0 (fun hS1 => ?_)
 ·go_simp
 simp only [Act.put, lsA, lsB, lsC]
 clear hS0
 refine wpAnyL_take (i := 1) (oi := ⟨some 30, .move (.tmp 0), 254, "tree.go:80", #[], none⟩) (v := .pointer (some ⟨gb, 0, none⟩)) rfl (by decide) (by kernel_rfl) (by kernel_rfl) (by kernel_rfl) (fun _ _ _ h => h) (Or.inl ⟨by rfl, fun w2 hSw => ?_⟩) hS1 (fun hS2 => ?_)
 ·go_simp
 simp only [Act.put, lsA, lsB, lsC]
 clear hS1
 refine wpAnyL_take (i := 2) (oi := ⟨some 31, .nilCheck (.tmp 30), 0, "tree.go:80", #[⟨1, .data⟩], none⟩) (v := .pointer (some ⟨gb, 0, none⟩)) rfl (by decide) (by kernel_rfl) (by kernel_rfl) (by kernel_rfl) (fun _ _ _ h => h) (Or.inl ⟨by rfl, fun w2 hSw => ?_⟩) hS2 (fun hS3 => ?_)
 ·go_simp
 simp only [Act.put, lsA, lsB, lsC]
 clear hS2
 refine wpAnyL_take (i := 3) (oi := ⟨some 32, .fieldAddr 222 (.tmp 31) 0, 0, "tree.go:80", #[⟨2, .data⟩], none⟩) (v := .pointer (some ⟨gb, 0, none⟩)) rfl (by decide) (by kernel_rfl) (by kernel_rfl) (by kernel_rfl) (fun _ _ _ h => h) (Or.inl ⟨by rfl, fun w2 hSw => ?_⟩) hS3 (fun hS4 => ?_)
 ·go_simp
 simp only [Act.put, lsA, lsB, lsC]
 clear hS3
 refine wpAnyL_take (i := 4) (oi := ⟨some 33, .fieldAddr 191 (.tmp 32) 0, 0, "tree.go:80", #[⟨3, .data⟩], none⟩) (v := .pointer (some ⟨gb, 0, none⟩)) rfl (by decide) (by kernel_rfl) (by kernel_rfl) (by kernel_rfl) (fun _ _ _ h => h) (Or.inl ⟨by rfl, fun w2 hSw => ?_⟩) hS4 (fun hS5 => ?_)
 ·go_simp
 simp only [Act.put, lsA, lsB, lsC]
 clear hS4
 refine wpAnyL_takeP [8, 12] (i := 5) (oi := ⟨some 34, .load 65 (.tmp 33), 65, "tree.go:80", #[⟨4, .data⟩], none⟩) (v := .slice v.aN 0 v.cN) rfl (by decide) (by kernel_rfl) (by kernel_rfl) (by kernel_rfl) (by kernel_rfl) (by kernel_rfl) (fun _ _ _ h => h) (Or.inl ⟨by rfl, fun w2 hSw => ?_⟩) hS5 (fun hS6 => ?_)
 ·obtain ⟨⟨k0, kl⟩, k1, k2, k3, ks⟩ := hSw
  go_simp
 simp only [Act.put, lsA, lsB, lsC]
 clear hS5
 refine wpAnyL_takeP [7, 8, 12] (i := 6) (oi := ⟨some 35, .load 121 (.tmp 3), 121, "tree.go:80", #[], none⟩) (v := .agg #[.int .i64 1, .int .u64 1, .string ⟨#[]⟩]) rfl (by decide) (by kernel_rfl) (by kernel_rfl) (by kernel_rfl) (by kernel_rfl) (by kernel_rfl) (fun _ _ _ h => h) (Or.inl ⟨by rfl, fun w2 hSw => ?_⟩) hS6 (fun hS7 => ?_)
 ·obtain ⟨⟨k0, kl⟩, k1, k2, k3, ks⟩ := hSw
  go_simp
 simp only [Act.put, lsA, lsB, lsC]
 clear hS6
 have B0 : Hid (Below W2.heap.size W2 wz) := by rw [← hwz]; exact (Below.refl _ _).drew
 refine wpAnyL_one (i := 7) (o := ⟨some 36, .buildSlice 65 1 #[(0, .tmp 35)], 65, "tree.go:80", #[⟨6, .data⟩], none⟩) (by kernel_rfl) rfl (fun K hK => ?_)
 go_simp
 go_wp2_with fail
 refine hK.out _ _ ⟨fun _ => HS1.out _ (B0.out.trans ((below_alloc1 wz _).mono B0.out.size)), trivial⟩ ?_
 clear hK K
 obtain ⟨vA, wA, hrun, hoA, hgA, _⟩ := run_append_own (P := Tryz.prog) (wz.alloc (.cells #[.int .i64 1, .int .u64 1, .string ⟨#[]⟩] 121)) (gb + 1) 65 65 121 iT (.agg #[.int .i64 0, .int .u64 0, .string ⟨#[]⟩]) 3 32 Tryz.underlying65 hiT hiT0 hiT1 hiT2 rfl (by decide) (.slice v.aN 0 v.cN) 0 _ (HOW.out _ (B0.out.trans ((below_alloc1 wz _).mono B0.out.size))) ⟨wz.heap.size, 0, none⟩ 1 1 [.int .i64 1, .int .u64 1, .string ⟨#[]⟩] rfl (cell_three_newL _ _ _ _ _) (by simp [Value.oneCell']) (by unfold maxLen; omega) (by omega) (HSZ.out _ (B0.out.trans ((below_alloc1 wz _).mono B0.out.size)))
 obtain ⟨aA, cA, hvA⟩ := own_val2 hoA
 subst hvA
 have hst := HG2.out.appN (by omega) (x := (1, 1)) (B0.out.trans ((below_alloc1 wz _).mono B0.out.size)) hoA hgA
 have z0 := block_cell hst.2.1 0
 have zl := block_lt hst.2.1
 have zf := block_free hst.2.1 0
 simp at z0
 have HSA := hide (HS2.out wA hst.2.1 hst.2.2 hgA (B0.out.trans ((below_alloc1 wz _).mono B0.out.size)))
 have HST := hide hst
 clear hst hoA hgA
 refine wpAnyL_one (i := 8) (o := ⟨some 37, .call { callee := Callee.builtin .append, args := #[.tmp 34, .tmp 36], argTypes := #[65, 65] }, 65, "tree.go:80", #[⟨5, .data⟩, ⟨7, .data⟩], none⟩) (by kernel_rfl) rfl (fun K hK => ?_)
 rw [if_pos (by kernel_rfl)]
 refine wp_append1 (.tmp 34) (.tmp 36) 65 rfl (v := .slice v.aN 0 v.cN) (v' := .slice aA (0 + 1) cA) (w' := wA) rfl rfl hrun ?_
 simp only [Act.put, List.setIfInBounds_toArray]
 refine hK.out _ _ ⟨fun _ => HSA.out, trivial⟩ ?_
 clear hK K
 refine wpAnyL_one (i := 9) (o := ⟨some 38, .nilCheck (.tmp 29), 0, "tree.go:80", #[⟨0, .data⟩, ⟨0, .phase⟩, ⟨1, .phase⟩, ⟨2, .phase⟩, ⟨3, .phase⟩, ⟨4, .phase⟩, ⟨5, .phase⟩, ⟨6, .phase⟩, ⟨7, .phase⟩, ⟨8, .phase⟩], none⟩) (by kernel_rfl) rfl (fun K hK => ?_)
 go_simp
 go_wp2_with fail
 refine hK.out _ _ ⟨fun _ => HSA.out, trivial⟩ ?_
 clear hK K
 refine wpAnyL_one (i := 10) (o := ⟨some 39, .fieldAddr 222 (.tmp 38) 0, 0, "tree.go:80", #[⟨9, .data⟩, ⟨0, .phase⟩, ⟨1, .phase⟩, ⟨2, .phase⟩, ⟨3, .phase⟩, ⟨4, .phase⟩, ⟨5, .phase⟩, ⟨6, .phase⟩, ⟨7, .phase⟩, ⟨8, .phase⟩], none⟩) (by kernel_rfl) rfl (fun K hK => ?_)
 go_simp
 go_wp2_with fail
 refine hK.out _ _ ⟨fun _ => HSA.out, trivial⟩ ?_
 clear hK K
 refine wpAnyL_one (i := 11) (o := ⟨some 40, .fieldAddr 191 (.tmp 39) 0, 0, "tree.go:80", #[⟨10, .data⟩, ⟨0, .phase⟩, ⟨1, .phase⟩, ⟨2, .phase⟩, ⟨3, .phase⟩, ⟨4, .phase⟩, ⟨5, .phase⟩, ⟨6, .phase⟩, ⟨7, .phase⟩, ⟨8, .phase⟩], none⟩) (by kernel_rfl) rfl (fun K hK => ?_)
 go_simp
 go_wp2_with fail
 refine hK.out _ _ ⟨fun _ => HSA.out, trivial⟩ ?_
 clear hK K
 clear hrun
 refine wpAnyL_one (i := 12) (o := ⟨none, .store 65 (.tmp 40) (.tmp 37), 0, "tree.go:80", #[⟨11, .data⟩, ⟨8, .data⟩, ⟨8, .chain⟩, ⟨0, .phase⟩, ⟨1, .phase⟩, ⟨2, .phase⟩, ⟨3, .phase⟩, ⟨4, .phase⟩, ⟨5, .phase⟩, ⟨6, .phase⟩, ⟨7, .phase⟩, ⟨8, .phase⟩], none⟩) (by kernel_rfl) rfl (fun K hK => ?_)
 go_simp
 go_wp2_with fail
 refine hK.out _ _ ⟨fun h => (by cases (show true = false from h)), trivial⟩ ?_
 clear hK K
 refine wpAnyL_done (by kernel_rfl) ?_ _
 clear HS9
 obtain ⟨W5, hwn⟩ : ∃ wn, wA.setCell ⟨gb, 0, none⟩ (.slice aA (0 + 1) cA) = wn := ⟨_, rfl⟩
 have gX : Gr (gb + 1) gb { v with aN := aA, cN := cA } [(1, 1)] [] [] [] (wA.setCell ⟨gb, 0, none⟩ (.slice aA (0 + 1) cA)) := HST.out.1
 have bX : Below gb w W5 := by
  rw [← hwn]
  exact (((HBW.out.mono (Nat.le_of_lt HGL.out)).trans HST.out.2.2)).setCell (p := ⟨gb, 0, none⟩) (Nat.le_refl _) _
 rw [hwn] at gX
 rw [show wA.setCell ⟨gb, 0, none⟩ (.slice aA 1 cA) = W5 from hwn]
 generalize { v with aN := aA, cN := cA : Gv } = v5 at gX
 have H5 : Hid (Gr (gb + 1) gb v5 [(1, 1)] [] [] [] W5 ∧ Below gb w W5) := ⟨gX, bX⟩
 clear hwn HST HSA z0 zl zf gX bX HS1 HS2 HOW HSZ HG1 HG2 HA1 HA2 HB1 HBW B2 B0 hwz HNX HXB hiT hiT0 hiT1 hiT2
 go_upto_region 6 with fail
 have c := block_cell H5.out.1.blk 2
 have cl := block_lt H5.out.1.blk
 simp at c
 have HOW : Hid (∀ o, (W5.alloc o).ownsRow (gb + 1) 3 1 (.slice v5.aA 0 v5.cA) 0 (itc [])) := fun o => (H5.out.1.next (below_alloc1 W5 o)).a
 have HSZ : Hid (∀ o, gb + 1 ≤ (W5.alloc o).heap.size) := fun o => block_lt (H5.out.1.next (below_alloc1 W5 o)).blk
 go_upto_region 7 with (at_builtin; refine wpList_append_keepL _ rfl (.tmp 46) (.tmp 48) 23 rfl (gb + 1) 3 iI (.int .i64 0) 1 8 Tryz.underlying23 hiI hiI0 hiI1 hiI2 rfl (by decide) (.slice v5.aA 0 v5.cA) 0 _ rfl (HOW.out _) ⟨W5.heap.size, 0, none⟩ 1 1 [.int .i64 0] rfl rfl (cell_one_newL _ _ _) (by simp [Value.oneCell']) (by decide) (by unfold maxLen; omega) (by omega) (HSZ.out _) ?_; intro vX wX ho hg _ hq; obtain ⟨aX, cX, hvX⟩ := own_val2 ho; subst hvX; have hX := H5.out.1.appA (by omega) (x := 0) (below_alloc1 _ _) ho hg hq; have y := block_cell hX.2.1 2; have yf := block_free hX.2.1 2; have yl := block_lt hX.2.1; simp at y; have HX := hide hX; clear ho hg hq hX HOW HSZ c cl)
 obtain ⟨W6, hwn⟩ : ∃ wn, wX.setCell ⟨gb, 2, none⟩ (.slice aX (0 + 1) cX) = wn := ⟨_, rfl⟩
 have gX : Gr (gb + 1) gb { v5 with aA := aX, cA := cX } [(1, 1)] [] [0] [] (wX.setCell ⟨gb, 2, none⟩ (.slice aX (0 + 1) cX)) := HX.out.1
 have bX : Below gb w W6 := by
  rw [← hwn]
  exact (H5.out.2.trans HX.out.2.2).setCell (p := ⟨gb, 2, none⟩) (Nat.le_refl _) _
 rw [hwn] at gX
 rw [show wX.setCell ⟨gb, 2, none⟩ (.slice aX 1 cX) = W6 from hwn]
 clear hwn HX H5 y yf yl
 generalize { v5 with aA := aX, cA := cX : Gv } = v6 at gX
 have H6 : Hid (Gr (gb + 1) gb v6 [(1, 1)] [] [0] [] W6 ∧ Below gb w W6) := ⟨gX, bX⟩
 clear gX bX
 have c := block_cell H6.out.1.blk 1
 have cl := block_lt H6.out.1.blk
 simp at c
 have HOW : Hid (∀ o, (W6.alloc o).ownsRow (gb + 1) 3 1 (.slice v6.aE 0 v6.cE) 0 (itc [])) := fun o => (H6.out.1.next (below_alloc1 W6 o)).e
 have HSZ : Hid (∀ o, gb + 1 ≤ (W6.alloc o).heap.size) := fun o => block_lt (H6.out.1.next (below_alloc1 W6 o)).blk
 go_upto_region 8 with (at_builtin; refine wpList_append_keepL _ rfl (.tmp 58) (.tmp 59) 23 rfl (gb + 1) 3 iI (.int .i64 0) 1 8 Tryz.underlying23 hiI hiI0 hiI1 hiI2 rfl (by decide) (.slice v6.aE 0 v6.cE) 0 _ rfl (HOW.out _) ⟨W6.heap.size, 0, none⟩ 1 1 [.int .i64 0] rfl rfl (cell_one_newL _ _ _) (by simp [Value.oneCell']) (by decide) (by unfold maxLen; omega) (by omega) (HSZ.out _) ?_; intro vX wX ho hg _ hq; obtain ⟨aX, cX, hvX⟩ := own_val2 ho; subst hvX; have hX := H6.out.1.appE (by omega) (x := 0) (below_alloc1 _ _) ho hg hq; have y := block_cell hX.2.1 1; have yf := block_free hX.2.1 1; have yl := block_lt hX.2.1; simp at y; have HX := hide hX; clear ho hg hq hX HOW HSZ c cl)
 obtain ⟨W7, hwn⟩ : ∃ wn, wX.setCell ⟨gb, 1, none⟩ (.slice aX (0 + 1) cX) = wn := ⟨_, rfl⟩
 have gX : Gr (gb + 1) gb { v6 with aE := aX, cE := cX } [(1, 1)] [0] [0] [] (wX.setCell ⟨gb, 1, none⟩ (.slice aX (0 + 1) cX)) := HX.out.1
 have bX : Below gb w W7 := by
  rw [← hwn]
  exact (H6.out.2.trans HX.out.2.2).setCell (p := ⟨gb, 1, none⟩) (Nat.le_refl _) _
 rw [hwn] at gX
 rw [show wX.setCell ⟨gb, 1, none⟩ (.slice aX 1 cX) = W7 from hwn]
 clear hwn HX H6 y yf yl
 generalize { v6 with aE := aX, cE := cX : Gv } = v7 at gX
 have H7 : Hid (Gr (gb + 1) gb v7 [(1, 1)] [0] [0] [] W7 ∧ Below gb w W7) := ⟨gX, bX⟩
 clear gX bX
 have c := block_cell H7.out.1.blk 3
 have cl := block_lt H7.out.1.blk
 simp at c
 have HOW : Hid (∀ o, (W7.alloc o).ownsRow (gb + 1) 257 2 (.slice v7.aO 0 v7.cO) 0 (opc [])) := fun o => (H7.out.1.next (below_alloc1 W7 o)).o
 have HSZ : Hid (∀ o, gb + 1 ≤ (W7.alloc o).heap.size) := fun o => block_lt (H7.out.1.next (below_alloc1 W7 o)).blk
 go_upto_block 0 with (at_builtin; refine wpList_append_keepL _ rfl (.tmp 68) (.tmp 71) 220 rfl (gb + 1) 257 iF (.agg #[.int .i64 0, .int .u64 0]) 2 16 Tryz.underlying220 hiF hiF0 hiF1 hiF2 rfl (by decide) (.slice v7.aO 0 v7.cO) 0 _ rfl (HOW.out _) ⟨W7.heap.size, 0, none⟩ 1 1 [.int .i64 0, .int .u64 0] rfl rfl (cell_two_newL _ _ _ _) (by simp [Value.oneCell']) (by decide) (by unfold maxLen; omega) (by omega) (HSZ.out _) ?_; intro vX wX ho hg _ hq; obtain ⟨aX, cX, hvX⟩ := own_val2 ho; subst hvX; have hX := H7.out.1.appO (by omega) (x := (0, 0)) (below_alloc1 _ _) ho hg; have y := block_cell hX.2.1 3; have yf := block_free hX.2.1 3; have yl := block_lt hX.2.1; simp at y; have HX := hide hX; clear ho hg hq hX HOW HSZ c cl)
 obtain ⟨W8, hwn⟩ : ∃ wn, wX.setCell ⟨gb, 3, none⟩ (.slice aX (0 + 1) cX) = wn := ⟨_, rfl⟩
 have gX : Gr (gb + 1) gb { v7 with aO := aX, cO := cX } [(1, 1)] [0] [0] [(0, 0)] (wX.setCell ⟨gb, 3, none⟩ (.slice aX (0 + 1) cX)) := HX.out.1
 have bX : Below gb w W8 := by
  rw [← hwn]
  exact (H7.out.2.trans HX.out.2.2).setCell (p := ⟨gb, 3, none⟩) (Nat.le_refl _) _
 rw [hwn] at gX
 rw [show wX.setCell ⟨gb, 3, none⟩ (.slice aX 1 cX) = W8 from hwn]
 clear hwn HX H7 y yf yl
 generalize { v7 with aO := aX, cO := cX : Gv } = v8 at gX
 have H8 : Hid (Gr (gb + 1) gb v8 [(1, 1)] [0] [0] [(0, 0)] W8 ∧ Below gb w W8) := ⟨gX, bX⟩
 clear gX bX
 have HPC : Hid (∀ w, Calls Tryz.prog 173 #[.agg #[.int .i64 1, .int .u64 1, .string ⟨#[]⟩]] w fun e w' => e = .returned (.int .u64 1) ∧ Hid (Below w.heap.size w w')) := fun w => partCount4 1 1 (by decide) w
 clear hiI hiI0 hiI1 hiI2 hiF hiF0 hiF1 hiF2
 go_wp2
 go_loopw [6] (fun _ wr => Hid (∃ v', Gr (gb + 1) gb v' [(1, 1)] [0] [0] [(0, 0)] wr ∧ Below gb w wr)) (fun _ _ => 0)
 case atStart => exact ⟨v8, H8.out⟩
 case round =>
  obtain ⟨v9, hg9, hb9⟩ := hrel.out
  clear H8 hrel
  obtain ⟨bo, eo, lo, ko, co, _⟩ := own_at hg9.o (by simp)
  obtain ⟨bn, en, ln, kn, cn, _⟩ := own_at hg9.n (by simp)
  have c0 := block_cell hg9.blk 0
  have c3 := block_cell hg9.blk 3
  have cl := block_lt hg9.blk
  simp at c0 c3 ko kn
  rw [en] at c0
  rw [eo] at c3
  have d0 := co 0 _ rfl
  have d1 := co 1 _ rfl
  have n0 := cn 0 _ rfl
  have n1 := cn 1 _ rfl
  have n2 := cn 2 _ rfl
  obtain ⟨WU, hWU⟩ : ∃ WU, wr.alloc (.cells #[.int .i64 0, .int .u64 0] 257) = WU := ⟨_, rfl⟩
  have BU : Below wr.heap.size wr WU := by rw [← hWU]; exact below_alloc1 wr _
  have AU : WU.heap[wr.heap.size]? = some (.cells #[.int .i64 0, .int .u64 0] 257 (0, 0)) := by rw [← hWU]; exact alloc_atK wr _
  have k0 := cell_regrown ((BU.cell (p := ⟨gb, 0, none⟩) cl).trans c0)
  have k1 := cell_regrown ((BU.cell (p := ⟨bn, 0, none⟩) ln).trans n0)
  have k2 := cell_regrown ((BU.cell (p := ⟨bn, 1, none⟩) ln).trans n1)
  have k3 := cell_regrown ((BU.cell (p := ⟨bn, 2, none⟩) ln).trans n2)
  have k4 := cell_regrown ((block_cell AU 0).trans rfl)
  have k5 := cell_regrown ((block_cell AU 1).trans rfl)
  have HPQ : ∀ d os, Calls Tryz.prog 173 #[.agg #[.int .i64 1, .int .u64 1, .string ⟨#[]⟩]] (grow (redrawn WU d) os) fun e w'' => e = .returned (.int .u64 1) ∧ ∃ p : Regrown, w'' = grow (redrawn WU p.d) p.os := fun d os => Calls.regrown_of ((HPC.out _).mono fun e w' q => ⟨q.1, q.2.out⟩)
  have HGU := hide (hg9.next BU)
  have HBU : Hid (Below gb w WU) := hb9.trans (BU.mono (Nat.le_of_lt cl))
  have HCL := hide cl
  have HWU := hide hWU
  clear hg9 hb9 co cn en eo hWU BU AU HPC
  go_upto_region 12 with fail
  rw [HWU.out]
  clear HWU c0 c3 d0 d1 n0 n1 n2
  generalize wr.heap.size = ub at *
  refine wp_region_quiet_below (by kernel_rfl) (by kernel_rfl) ?_
  repeat (quiet_step (first | exact HPQ _ _))
  refine wpQuiet_nil ?_
  intro w8 hw'
  obtain ⟨⟨dq, osq⟩, hw''⟩ := hw'
  have B8 : Below WU.heap.size WU w8 := by rw [hw'']; exact below_regrown WU dq osq
  have HG8 := hide (HGU.out.next B8)
  have HB8 : Hid (Below gb w w8) := HBU.out.trans (B8.mono (Nat.le_of_lt (block_lt HGU.out.blk)))
  clear hw'' k0 k1 k2 k3 k4 k5 HPQ B8 HGU HBU
  go_wp2
  refine bodyPost_ret (v := .tuple #[]) (by simp [results, Tryz.results146, go_sem]) rfl ?_
  exact ⟨rfl, v9, HG8.out, HB8.out⟩
set_option maxRecDepth 10000 in
set_option maxHeartbeats 6400000 in
theorem take1 (h : Gr (gb + 1) gb v [(1, 1)] [0] [0] [(0, 0)] w) : Calls Tryz.prog 146 #[.pointer (some ⟨gb, 0, none⟩), .agg #[.int .i64 2, .int .u64 ev, .string ⟨#[]⟩]] w fun e w' => e = .returned (.tuple #[]) ∧ Hid (∃ v', Gr (gb + 1) gb v' [(1, 1), (2, ev)] [0, 0] [0, 0] [(0, 0), (1, 0)] w' ∧ Below gb w w') := by
 obtain ⟨iT, hiT, hiT0, hiT1, hiT2⟩ := info_parts Tryz.infoTN
 obtain ⟨iI, hiI, hiI0, hiI1, hiI2⟩ := info_parts Tryz.infoI
 obtain ⟨iF, hiF, hiF0, hiF1, hiF2⟩ := info_parts Tryz.infoUF
 obtain ⟨W1, hW1⟩ : ∃ W1, w.alloc (.cells #[.int .i64 2, .int .u64 ev, .string ⟨#[]⟩] 121) = W1 := ⟨_, rfl⟩
 have B1 : Below w.heap.size w W1 := by rw [← hW1]; exact below_alloc1 w _
 have A1 : W1.heap[w.heap.size]? = some (.cells #[.int .i64 2, .int .u64 ev, .string ⟨#[]⟩] 121 (0, 0)) := by rw [← hW1]; exact alloc_atK _ _
 have HNX : Hid (∀ q, (Value.slice v.aN 1 v.cN).ownBlock = some q → q < w.heap.size) := fun q e => (h.n.lt q e).2
 have HG1 := hide (h.next B1)
 have HGL := hide (block_lt h.blk)
 have HA1 := hide A1
 have HB1 := hide B1
 have HW1 := hide hW1
 have c0 := block_cell HG1.out.blk 0
 have c3 := block_cell HG1.out.blk 3
 have cl := block_lt HG1.out.blk
 simp at c0 c3
 obtain ⟨bo, eo, lo, ko, co, _⟩ := own_at HG1.out.o (by simp)
 rw [eo] at c3
 have d0 := co 0 _ rfl
 simp at ko
 clear h hW1 A1 B1 co eo
 go_enter Tryz.func146, Tryz.ntmps146
 go_upto_region 1 with fail
 rw [HW1.out]
 clear HW1
 go_upto_region 4 with fail
 go_region
 obtain ⟨W2, hW2⟩ : ∃ W2, W1.drew = W2 := ⟨_, rfl⟩
 rw [hW2]
 have B2 : Hid (Below W1.heap.size W1 W2) := by rw [← hW2]; exact (Below.refl _ _).drew
 clear hW2 c0 c3 cl d0
 have HG2 := hide (HG1.out.next B2.out)
 have HA2 := hide ((B2.out.block _ (block_lt HA1.out)).trans HA1.out)
 have HBW := hide (HB1.out.trans (B2.out.mono HB1.out.size))
 obtain ⟨xb, hxb⟩ : ∃ xb, w.heap.size = xb := ⟨_, rfl⟩
 have HXB := hide hxb
 rw [hxb] at HA2
 have HS2 : Hid (∀ {w1 : World} (w2 : World), w2.heap[gb]? = some (.cells #[.slice v.aN 1 v.cN, .slice v.aE 1 v.cE, .slice v.aA 1 v.cA, .slice v.aO 1 v.cO] 222 (0, 0)) → Below gb W2 w2 → w1.grownBy w2 (Value.slice v.aN 1 v.cN).ownBlock → Below W2.heap.size W2 w1 → (fun (w : World) => (w.cell? ⟨gb, 0, none⟩ = some (.slice v.aN 1 v.cN) ∧ gb < w.heap.size) ∧ w.cell? ⟨xb, 0, none⟩ = some (.int .i64 2) ∧ w.cell? ⟨xb, 1, none⟩ = some (.int .u64 ev) ∧ w.cell? ⟨xb, 2, none⟩ = some (.string ⟨#[]⟩) ∧ xb < w.heap.size) w2) := fun {w1} w2 hb _ hg hw => by
  have a1 := (hw.block _ (block_lt HA2.out)).trans HA2.out
  have g1 := HG2.out.next hw
  have a2 : w2.heap[xb]? = some (.cells #[.int .i64 2, .int .u64 ev, .string ⟨#[]⟩] 121 (0, 0)) := by
   refine (hg.block xb (block_lt a1) (fun e => ?_)).trans a1
   have := HNX.out xb e.symm
   omega
  exact ⟨⟨(block_cell hb 0).trans rfl, block_lt hb⟩, (block_cell a2 0).trans rfl, (block_cell a2 1).trans rfl, (block_cell a2 2).trans rfl, block_lt a2⟩
 have HS1 : Hid (∀ w' : World, Below W2.heap.size W2 w' → (fun (w : World) => (w.cell? ⟨gb, 0, none⟩ = some (.slice v.aN 1 v.cN) ∧ gb < w.heap.size) ∧ w.cell? ⟨xb, 0, none⟩ = some (.int .i64 2) ∧ w.cell? ⟨xb, 1, none⟩ = some (.int .u64 ev) ∧ w.cell? ⟨xb, 2, none⟩ = some (.string ⟨#[]⟩) ∧ xb < w.heap.size) w') := fun w' hb => by
  have q := HG2.out.next hb
  have a := (hb.block _ (block_lt HA2.out)).trans HA2.out
  exact ⟨⟨(block_cell q.blk 0).trans rfl, block_lt q.blk⟩, (block_cell a 0).trans rfl, (block_cell a 1).trans rfl, (block_cell a 2).trans rfl, block_lt a⟩
 have HOW : Hid (∀ w' : World, Below W2.heap.size W2 w' → w'.ownsRow (gb + 1) 121 3 (.slice v.aN 1 v.cN) 1 (ndc [(1, 1)])) := fun w' hb => (HG2.out.next hb).n
 have HSZ : Hid (∀ w' : World, Below W2.heap.size W2 w' → gb + 1 ≤ w'.heap.size) := fun w' hb => block_lt (HG2.out.next hb).blk
 go_upto_region 5 with fail
 rw [hxb]
 clear hxb
 obtain ⟨wz, hwz⟩ : ∃ wz, (W2).drew = wz := ⟨_, rfl⟩
 have HS9 : Hid ((fun (w : World) => (w.cell? ⟨gb, 0, none⟩ = some (.slice v.aN 1 v.cN) ∧ gb < w.heap.size) ∧ w.cell? ⟨xb, 0, none⟩ = some (.int .i64 2) ∧ w.cell? ⟨xb, 1, none⟩ = some (.int .u64 ev) ∧ w.cell? ⟨xb, 2, none⟩ = some (.string ⟨#[]⟩) ∧ xb < w.heap.size) wz) := by rw [← hwz]; exact HS1.out _ (Below.refl _ _).drew
 refine wp_region_L 12 (fun (w : World) => (w.cell? ⟨gb, 0, none⟩ = some (.slice v.aN 1 v.cN) ∧ gb < w.heap.size) ∧ w.cell? ⟨xb, 0, none⟩ = some (.int .i64 2) ∧ w.cell? ⟨xb, 1, none⟩ = some (.int .u64 ev) ∧ w.cell? ⟨xb, 2, none⟩ = some (.string ⟨#[]⟩) ∧ xb < w.heap.size) (fun _ => True) (by kernel_rfl) (by rw [hwz]; exact HS9.out) trivial (fun hS0 => ?_)
 rw [hwz] at hS0 ⊢
 refine wpAnyL_take (i := 0) (oi := ⟨some 29, .move (.tmp 0), 254, "tree.go:80", #[], none⟩) (v := .pointer (some ⟨gb, 0, none⟩)) rfl (by decide) (by kernel_rfl) (by kernel_rfl) (by kernel_rfl) (fun _ _ _ h => h) (Or.inl ⟨by rfl, fun w2 hSw => ?_⟩) hS0 (fun hS1 => ?_)
 ·go_simp
 simp only [Act.put, lsA, lsB, lsC]
 clear hS0
 refine wpAnyL_take (i := 1) (oi := ⟨some 30, .move (.tmp 0), 254, "tree.go:80", #[], none⟩) (v := .pointer (some ⟨gb, 0, none⟩)) rfl (by decide) (by kernel_rfl) (by kernel_rfl) (by kernel_rfl) (fun _ _ _ h => h) (Or.inl ⟨by rfl, fun w2 hSw => ?_⟩) hS1 (fun hS2 => ?_)
 ·go_simp
 simp only [Act.put, lsA, lsB, lsC]
 clear hS1
 refine wpAnyL_take (i := 2) (oi := ⟨some 31, .nilCheck (.tmp 30), 0, "tree.go:80", #[⟨1, .data⟩], none⟩) (v := .pointer (some ⟨gb, 0, none⟩)) rfl (by decide) (by kernel_rfl) (by kernel_rfl) (by kernel_rfl) (fun _ _ _ h => h) (Or.inl ⟨by rfl, fun w2 hSw => ?_⟩) hS2 (fun hS3 => ?_)
 ·go_simp
 simp only [Act.put, lsA, lsB, lsC]
 clear hS2
 refine wpAnyL_take (i := 3) (oi := ⟨some 32, .fieldAddr 222 (.tmp 31) 0, 0, "tree.go:80", #[⟨2, .data⟩], none⟩) (v := .pointer (some ⟨gb, 0, none⟩)) rfl (by decide) (by kernel_rfl) (by kernel_rfl) (by kernel_rfl) (fun _ _ _ h => h) (Or.inl ⟨by rfl, fun w2 hSw => ?_⟩) hS3 (fun hS4 => ?_)
 ·go_simp
 simp only [Act.put, lsA, lsB, lsC]
 clear hS3
 refine wpAnyL_take (i := 4) (oi := ⟨some 33, .fieldAddr 191 (.tmp 32) 0, 0, "tree.go:80", #[⟨3, .data⟩], none⟩) (v := .pointer (some ⟨gb, 0, none⟩)) rfl (by decide) (by kernel_rfl) (by kernel_rfl) (by kernel_rfl) (fun _ _ _ h => h) (Or.inl ⟨by rfl, fun w2 hSw => ?_⟩) hS4 (fun hS5 => ?_)
 ·go_simp
 simp only [Act.put, lsA, lsB, lsC]
 clear hS4
 refine wpAnyL_takeP [8, 12] (i := 5) (oi := ⟨some 34, .load 65 (.tmp 33), 65, "tree.go:80", #[⟨4, .data⟩], none⟩) (v := .slice v.aN 1 v.cN) rfl (by decide) (by kernel_rfl) (by kernel_rfl) (by kernel_rfl) (by kernel_rfl) (by kernel_rfl) (fun _ _ _ h => h) (Or.inl ⟨by rfl, fun w2 hSw => ?_⟩) hS5 (fun hS6 => ?_)
 ·obtain ⟨⟨k0, kl⟩, k1, k2, k3, ks⟩ := hSw
  go_simp
 simp only [Act.put, lsA, lsB, lsC]
 clear hS5
 refine wpAnyL_takeP [7, 8, 12] (i := 6) (oi := ⟨some 35, .load 121 (.tmp 3), 121, "tree.go:80", #[], none⟩) (v := .agg #[.int .i64 2, .int .u64 ev, .string ⟨#[]⟩]) rfl (by decide) (by kernel_rfl) (by kernel_rfl) (by kernel_rfl) (by kernel_rfl) (by kernel_rfl) (fun _ _ _ h => h) (Or.inl ⟨by rfl, fun w2 hSw => ?_⟩) hS6 (fun hS7 => ?_)
 ·obtain ⟨⟨k0, kl⟩, k1, k2, k3, ks⟩ := hSw
  go_simp
 simp only [Act.put, lsA, lsB, lsC]
 clear hS6
 have B0 : Hid (Below W2.heap.size W2 wz) := by rw [← hwz]; exact (Below.refl _ _).drew
 refine wpAnyL_one (i := 7) (o := ⟨some 36, .buildSlice 65 1 #[(0, .tmp 35)], 65, "tree.go:80", #[⟨6, .data⟩], none⟩) (by kernel_rfl) rfl (fun K hK => ?_)
 go_simp
 go_wp2_with fail
 refine hK.out _ _ ⟨fun _ => HS1.out _ (B0.out.trans ((below_alloc1 wz _).mono B0.out.size)), trivial⟩ ?_
 clear hK K
 obtain ⟨vA, wA, hrun, hoA, hgA, _⟩ := run_append_own (P := Tryz.prog) (wz.alloc (.cells #[.int .i64 2, .int .u64 ev, .string ⟨#[]⟩] 121)) (gb + 1) 65 65 121 iT (.agg #[.int .i64 0, .int .u64 0, .string ⟨#[]⟩]) 3 32 Tryz.underlying65 hiT hiT0 hiT1 hiT2 rfl (by decide) (.slice v.aN 1 v.cN) 1 _ (HOW.out _ (B0.out.trans ((below_alloc1 wz _).mono B0.out.size))) ⟨wz.heap.size, 0, none⟩ 1 1 [.int .i64 2, .int .u64 ev, .string ⟨#[]⟩] rfl (cell_three_newL _ _ _ _ _) (by simp [Value.oneCell']) (by unfold maxLen; omega) (by omega) (HSZ.out _ (B0.out.trans ((below_alloc1 wz _).mono B0.out.size)))
 obtain ⟨aA, cA, hvA⟩ := own_val2 hoA
 subst hvA
 have hst := HG2.out.appN (by omega) (x := (2, ev)) (B0.out.trans ((below_alloc1 wz _).mono B0.out.size)) hoA hgA
 have z0 := block_cell hst.2.1 0
 have zl := block_lt hst.2.1
 have zf := block_free hst.2.1 0
 simp at z0
 have HSA := hide (HS2.out wA hst.2.1 hst.2.2 hgA (B0.out.trans ((below_alloc1 wz _).mono B0.out.size)))
 have HST := hide hst
 clear hst hoA hgA
 refine wpAnyL_one (i := 8) (o := ⟨some 37, .call { callee := Callee.builtin .append, args := #[.tmp 34, .tmp 36], argTypes := #[65, 65] }, 65, "tree.go:80", #[⟨5, .data⟩, ⟨7, .data⟩], none⟩) (by kernel_rfl) rfl (fun K hK => ?_)
 rw [if_pos (by kernel_rfl)]
 refine wp_append1 (.tmp 34) (.tmp 36) 65 rfl (v := .slice v.aN 1 v.cN) (v' := .slice aA (1 + 1) cA) (w' := wA) rfl rfl hrun ?_
 simp only [Act.put, List.setIfInBounds_toArray]
 refine hK.out _ _ ⟨fun _ => HSA.out, trivial⟩ ?_
 clear hK K
 refine wpAnyL_one (i := 9) (o := ⟨some 38, .nilCheck (.tmp 29), 0, "tree.go:80", #[⟨0, .data⟩, ⟨0, .phase⟩, ⟨1, .phase⟩, ⟨2, .phase⟩, ⟨3, .phase⟩, ⟨4, .phase⟩, ⟨5, .phase⟩, ⟨6, .phase⟩, ⟨7, .phase⟩, ⟨8, .phase⟩], none⟩) (by kernel_rfl) rfl (fun K hK => ?_)
 go_simp
 go_wp2_with fail
 refine hK.out _ _ ⟨fun _ => HSA.out, trivial⟩ ?_
 clear hK K
 refine wpAnyL_one (i := 10) (o := ⟨some 39, .fieldAddr 222 (.tmp 38) 0, 0, "tree.go:80", #[⟨9, .data⟩, ⟨0, .phase⟩, ⟨1, .phase⟩, ⟨2, .phase⟩, ⟨3, .phase⟩, ⟨4, .phase⟩, ⟨5, .phase⟩, ⟨6, .phase⟩, ⟨7, .phase⟩, ⟨8, .phase⟩], none⟩) (by kernel_rfl) rfl (fun K hK => ?_)
 go_simp
 go_wp2_with fail
 refine hK.out _ _ ⟨fun _ => HSA.out, trivial⟩ ?_
 clear hK K
 refine wpAnyL_one (i := 11) (o := ⟨some 40, .fieldAddr 191 (.tmp 39) 0, 0, "tree.go:80", #[⟨10, .data⟩, ⟨0, .phase⟩, ⟨1, .phase⟩, ⟨2, .phase⟩, ⟨3, .phase⟩, ⟨4, .phase⟩, ⟨5, .phase⟩, ⟨6, .phase⟩, ⟨7, .phase⟩, ⟨8, .phase⟩], none⟩) (by kernel_rfl) rfl (fun K hK => ?_)
 go_simp
 go_wp2_with fail
 refine hK.out _ _ ⟨fun _ => HSA.out, trivial⟩ ?_
 clear hK K
 clear hrun
 refine wpAnyL_one (i := 12) (o := ⟨none, .store 65 (.tmp 40) (.tmp 37), 0, "tree.go:80", #[⟨11, .data⟩, ⟨8, .data⟩, ⟨8, .chain⟩, ⟨0, .phase⟩, ⟨1, .phase⟩, ⟨2, .phase⟩, ⟨3, .phase⟩, ⟨4, .phase⟩, ⟨5, .phase⟩, ⟨6, .phase⟩, ⟨7, .phase⟩, ⟨8, .phase⟩], none⟩) (by kernel_rfl) rfl (fun K hK => ?_)
 go_simp
 go_wp2_with fail
 refine hK.out _ _ ⟨fun h => (by cases (show true = false from h)), trivial⟩ ?_
 clear hK K
 refine wpAnyL_done (by kernel_rfl) ?_ _
 clear HS9
 obtain ⟨W5, hwn⟩ : ∃ wn, wA.setCell ⟨gb, 0, none⟩ (.slice aA (1 + 1) cA) = wn := ⟨_, rfl⟩
 have gX : Gr (gb + 1) gb { v with aN := aA, cN := cA } [(1, 1), (2, ev)] [0] [0] [(0, 0)] (wA.setCell ⟨gb, 0, none⟩ (.slice aA (1 + 1) cA)) := HST.out.1
 have bX : Below gb w W5 := by
  rw [← hwn]
  exact (((HBW.out.mono (Nat.le_of_lt HGL.out)).trans HST.out.2.2)).setCell (p := ⟨gb, 0, none⟩) (Nat.le_refl _) _
 rw [hwn] at gX
 rw [show wA.setCell ⟨gb, 0, none⟩ (.slice aA 2 cA) = W5 from hwn]
 generalize { v with aN := aA, cN := cA : Gv } = v5 at gX
 have H5 : Hid (Gr (gb + 1) gb v5 [(1, 1), (2, ev)] [0] [0] [(0, 0)] W5 ∧ Below gb w W5) := ⟨gX, bX⟩
 clear hwn HST HSA z0 zl zf gX bX HS1 HS2 HOW HSZ HG1 HG2 HA1 HA2 HB1 HBW B2 B0 hwz HNX HXB hiT hiT0 hiT1 hiT2
 go_upto_region 6 with fail
 have c := block_cell H5.out.1.blk 2
 have cl := block_lt H5.out.1.blk
 simp at c
 have HOW : Hid (∀ o, (W5.alloc o).ownsRow (gb + 1) 3 1 (.slice v5.aA 1 v5.cA) 1 (itc [0])) := fun o => (H5.out.1.next (below_alloc1 W5 o)).a
 have HSZ : Hid (∀ o, gb + 1 ≤ (W5.alloc o).heap.size) := fun o => block_lt (H5.out.1.next (below_alloc1 W5 o)).blk
 go_upto_region 7 with (at_builtin; refine wpList_append_keepL _ rfl (.tmp 46) (.tmp 48) 23 rfl (gb + 1) 3 iI (.int .i64 0) 1 8 Tryz.underlying23 hiI hiI0 hiI1 hiI2 rfl (by decide) (.slice v5.aA 1 v5.cA) 1 _ rfl (HOW.out _) ⟨W5.heap.size, 0, none⟩ 1 1 [.int .i64 0] rfl rfl (cell_one_newL _ _ _) (by simp [Value.oneCell']) (by decide) (by unfold maxLen; omega) (by omega) (HSZ.out _) ?_; intro vX wX ho hg _ hq; obtain ⟨aX, cX, hvX⟩ := own_val2 ho; subst hvX; have hX := H5.out.1.appA (by omega) (x := 0) (below_alloc1 _ _) ho hg hq; have y := block_cell hX.2.1 2; have yf := block_free hX.2.1 2; have yl := block_lt hX.2.1; simp at y; have HX := hide hX; clear ho hg hq hX HOW HSZ c cl)
 obtain ⟨W6, hwn⟩ : ∃ wn, wX.setCell ⟨gb, 2, none⟩ (.slice aX (1 + 1) cX) = wn := ⟨_, rfl⟩
 have gX : Gr (gb + 1) gb { v5 with aA := aX, cA := cX } [(1, 1), (2, ev)] [0] [0, 0] [(0, 0)] (wX.setCell ⟨gb, 2, none⟩ (.slice aX (1 + 1) cX)) := HX.out.1
 have bX : Below gb w W6 := by
  rw [← hwn]
  exact (H5.out.2.trans HX.out.2.2).setCell (p := ⟨gb, 2, none⟩) (Nat.le_refl _) _
 rw [hwn] at gX
 rw [show wX.setCell ⟨gb, 2, none⟩ (.slice aX 2 cX) = W6 from hwn]
 clear hwn HX H5 y yf yl
 generalize { v5 with aA := aX, cA := cX : Gv } = v6 at gX
 have H6 : Hid (Gr (gb + 1) gb v6 [(1, 1), (2, ev)] [0] [0, 0] [(0, 0)] W6 ∧ Below gb w W6) := ⟨gX, bX⟩
 clear gX bX
 have c := block_cell H6.out.1.blk 1
 have cl := block_lt H6.out.1.blk
 simp at c
 have HOW : Hid (∀ o, (W6.alloc o).ownsRow (gb + 1) 3 1 (.slice v6.aE 1 v6.cE) 1 (itc [0])) := fun o => (H6.out.1.next (below_alloc1 W6 o)).e
 have HSZ : Hid (∀ o, gb + 1 ≤ (W6.alloc o).heap.size) := fun o => block_lt (H6.out.1.next (below_alloc1 W6 o)).blk
 go_upto_region 8 with (at_builtin; refine wpList_append_keepL _ rfl (.tmp 58) (.tmp 59) 23 rfl (gb + 1) 3 iI (.int .i64 0) 1 8 Tryz.underlying23 hiI hiI0 hiI1 hiI2 rfl (by decide) (.slice v6.aE 1 v6.cE) 1 _ rfl (HOW.out _) ⟨W6.heap.size, 0, none⟩ 1 1 [.int .i64 0] rfl rfl (cell_one_newL _ _ _) (by simp [Value.oneCell']) (by decide) (by unfold maxLen; omega) (by omega) (HSZ.out _) ?_; intro vX wX ho hg _ hq; obtain ⟨aX, cX, hvX⟩ := own_val2 ho; subst hvX; have hX := H6.out.1.appE (by omega) (x := 0) (below_alloc1 _ _) ho hg hq; have y := block_cell hX.2.1 1; have yf := block_free hX.2.1 1; have yl := block_lt hX.2.1; simp at y; have HX := hide hX; clear ho hg hq hX HOW HSZ c cl)
 obtain ⟨W7, hwn⟩ : ∃ wn, wX.setCell ⟨gb, 1, none⟩ (.slice aX (1 + 1) cX) = wn := ⟨_, rfl⟩
 have gX : Gr (gb + 1) gb { v6 with aE := aX, cE := cX } [(1, 1), (2, ev)] [0, 0] [0, 0] [(0, 0)] (wX.setCell ⟨gb, 1, none⟩ (.slice aX (1 + 1) cX)) := HX.out.1
 have bX : Below gb w W7 := by
  rw [← hwn]
  exact (H6.out.2.trans HX.out.2.2).setCell (p := ⟨gb, 1, none⟩) (Nat.le_refl _) _
 rw [hwn] at gX
 rw [show wX.setCell ⟨gb, 1, none⟩ (.slice aX 2 cX) = W7 from hwn]
 clear hwn HX H6 y yf yl
 generalize { v6 with aE := aX, cE := cX : Gv } = v7 at gX
 have H7 : Hid (Gr (gb + 1) gb v7 [(1, 1), (2, ev)] [0, 0] [0, 0] [(0, 0)] W7 ∧ Below gb w W7) := ⟨gX, bX⟩
 clear gX bX
 have c := block_cell H7.out.1.blk 3
 have cl := block_lt H7.out.1.blk
 simp at c
 have HOW : Hid (∀ o, (W7.alloc o).ownsRow (gb + 1) 257 2 (.slice v7.aO 1 v7.cO) 1 (opc [(0, 0)])) := fun o => (H7.out.1.next (below_alloc1 W7 o)).o
 have HSZ : Hid (∀ o, gb + 1 ≤ (W7.alloc o).heap.size) := fun o => block_lt (H7.out.1.next (below_alloc1 W7 o)).blk
 go_upto_block 0 with (at_builtin; refine wpList_append_keepL _ rfl (.tmp 68) (.tmp 71) 220 rfl (gb + 1) 257 iF (.agg #[.int .i64 0, .int .u64 0]) 2 16 Tryz.underlying220 hiF hiF0 hiF1 hiF2 rfl (by decide) (.slice v7.aO 1 v7.cO) 1 _ rfl (HOW.out _) ⟨W7.heap.size, 0, none⟩ 1 1 [.int .i64 1, .int .u64 0] rfl rfl (cell_two_newL _ _ _ _) (by simp [Value.oneCell']) (by decide) (by unfold maxLen; omega) (by omega) (HSZ.out _) ?_; intro vX wX ho hg _ hq; obtain ⟨aX, cX, hvX⟩ := own_val2 ho; subst hvX; have hX := H7.out.1.appO (by omega) (x := (1, 0)) (below_alloc1 _ _) ho hg; have y := block_cell hX.2.1 3; have yf := block_free hX.2.1 3; have yl := block_lt hX.2.1; simp at y; have HX := hide hX; clear ho hg hq hX HOW HSZ c cl)
 obtain ⟨W8, hwn⟩ : ∃ wn, wX.setCell ⟨gb, 3, none⟩ (.slice aX (1 + 1) cX) = wn := ⟨_, rfl⟩
 have gX : Gr (gb + 1) gb { v7 with aO := aX, cO := cX } [(1, 1), (2, ev)] [0, 0] [0, 0] [(0, 0), (1, 0)] (wX.setCell ⟨gb, 3, none⟩ (.slice aX (1 + 1) cX)) := HX.out.1
 have bX : Below gb w W8 := by
  rw [← hwn]
  exact (H7.out.2.trans HX.out.2.2).setCell (p := ⟨gb, 3, none⟩) (Nat.le_refl _) _
 rw [hwn] at gX
 rw [show wX.setCell ⟨gb, 3, none⟩ (.slice aX 2 cX) = W8 from hwn]
 clear hwn HX H7 y yf yl
 generalize { v7 with aO := aX, cO := cX : Gv } = v8 at gX
 have H8 : Hid (Gr (gb + 1) gb v8 [(1, 1), (2, ev)] [0, 0] [0, 0] [(0, 0), (1, 0)] W8 ∧ Below gb w W8) := ⟨gX, bX⟩
 clear gX bX
 have HPC : Hid (∀ w, Calls Tryz.prog 173 #[.agg #[.int .i64 2, .int .u64 ev, .string ⟨#[]⟩]] w fun e w' => e = .returned (.int .u64 1) ∧ Hid (Below w.heap.size w w')) := fun w => partCount4 2 ev (by decide) w
 clear hiI hiI0 hiI1 hiI2 hiF hiF0 hiF1 hiF2
 go_wp2
 go_loopw [6] (fun _ wr => Hid (∃ v', Gr (gb + 1) gb v' [(1, 1), (2, ev)] [0, 0] [0, 0] [(0, 0), (1, 0)] wr ∧ Below gb w wr)) (fun _ _ => 0)
 case atStart => exact ⟨v8, H8.out⟩
 case round =>
  obtain ⟨v9, hg9, hb9⟩ := hrel.out
  clear H8 hrel
  obtain ⟨bo, eo, lo, ko, co, _⟩ := own_at hg9.o (by simp)
  obtain ⟨bn, en, ln, kn, cn, _⟩ := own_at hg9.n (by simp)
  have c0 := block_cell hg9.blk 0
  have c3 := block_cell hg9.blk 3
  have cl := block_lt hg9.blk
  simp at c0 c3 ko kn
  rw [en] at c0
  rw [eo] at c3
  have d0 := co 2 _ rfl
  have d1 := co 3 _ rfl
  have n0 := cn 3 _ rfl
  have n1 := cn 4 _ rfl
  have n2 := cn 5 _ rfl
  obtain ⟨WU, hWU⟩ : ∃ WU, wr.alloc (.cells #[.int .i64 1, .int .u64 0] 257) = WU := ⟨_, rfl⟩
  have BU : Below wr.heap.size wr WU := by rw [← hWU]; exact below_alloc1 wr _
  have AU : WU.heap[wr.heap.size]? = some (.cells #[.int .i64 1, .int .u64 0] 257 (0, 0)) := by rw [← hWU]; exact alloc_atK wr _
  have k0 := cell_regrown ((BU.cell (p := ⟨gb, 0, none⟩) cl).trans c0)
  have k1 := cell_regrown ((BU.cell (p := ⟨bn, 3, none⟩) ln).trans n0)
  have k2 := cell_regrown ((BU.cell (p := ⟨bn, 4, none⟩) ln).trans n1)
  have k3 := cell_regrown ((BU.cell (p := ⟨bn, 5, none⟩) ln).trans n2)
  have k4 := cell_regrown ((block_cell AU 0).trans rfl)
  have k5 := cell_regrown ((block_cell AU 1).trans rfl)
  have HPQ : ∀ d os, Calls Tryz.prog 173 #[.agg #[.int .i64 2, .int .u64 ev, .string ⟨#[]⟩]] (grow (redrawn WU d) os) fun e w'' => e = .returned (.int .u64 1) ∧ ∃ p : Regrown, w'' = grow (redrawn WU p.d) p.os := fun d os => Calls.regrown_of ((HPC.out _).mono fun e w' q => ⟨q.1, q.2.out⟩)
  have HGU := hide (hg9.next BU)
  have HBU : Hid (Below gb w WU) := hb9.trans (BU.mono (Nat.le_of_lt cl))
  have HCL := hide cl
  have HWU := hide hWU
  clear hg9 hb9 co cn en eo hWU BU AU HPC
  go_upto_region 12 with fail
  rw [HWU.out]
  clear HWU c0 c3 d0 d1 n0 n1 n2
  generalize wr.heap.size = ub at *
  refine wp_region_quiet_below (by kernel_rfl) (by kernel_rfl) ?_
  repeat (quiet_step (first | exact HPQ _ _))
  refine wpQuiet_nil ?_
  intro w8 hw'
  obtain ⟨⟨dq, osq⟩, hw''⟩ := hw'
  have B8 : Below WU.heap.size WU w8 := by rw [hw'']; exact below_regrown WU dq osq
  have HG8 := hide (HGU.out.next B8)
  have HB8 : Hid (Below gb w w8) := HBU.out.trans (B8.mono (Nat.le_of_lt (block_lt HGU.out.blk)))
  clear hw'' k0 k1 k2 k3 k4 k5 HPQ B8 HGU HBU
  go_wp2
  refine bodyPost_ret (v := .tuple #[]) (by simp [results, Tryz.results146, go_sem]) rfl ?_
  exact ⟨rfl, v9, HG8.out, HB8.out⟩
set_option maxRecDepth 10000 in
set_option maxHeartbeats 6400000 in
theorem take2 (h : Gr (gb + 1) gb v [(1, 1), (2, ev)] [0, 0] [0, 0] [(0, 0), (1, 0)] w) : Calls Tryz.prog 146 #[.pointer (some ⟨gb, 0, none⟩), .agg #[.int .i64 3, .int .u64 1, .string ⟨#[]⟩]] w fun e w' => e = .returned (.tuple #[]) ∧ Hid (∃ v', Gr (gb + 1) gb v' [(1, 1), (2, ev), (3, 1)] [0, 0, 0] [0, 0, 1] [(0, 0), (1, 0), (2, 0)] w' ∧ Below gb w w') := by
 obtain ⟨iT, hiT, hiT0, hiT1, hiT2⟩ := info_parts Tryz.infoTN
 obtain ⟨iI, hiI, hiI0, hiI1, hiI2⟩ := info_parts Tryz.infoI
 obtain ⟨iF, hiF, hiF0, hiF1, hiF2⟩ := info_parts Tryz.infoUF
 obtain ⟨W1, hW1⟩ : ∃ W1, w.alloc (.cells #[.int .i64 3, .int .u64 1, .string ⟨#[]⟩] 121) = W1 := ⟨_, rfl⟩
 have B1 : Below w.heap.size w W1 := by rw [← hW1]; exact below_alloc1 w _
 have A1 : W1.heap[w.heap.size]? = some (.cells #[.int .i64 3, .int .u64 1, .string ⟨#[]⟩] 121 (0, 0)) := by rw [← hW1]; exact alloc_atK _ _
 have HNX : Hid (∀ q, (Value.slice v.aN 2 v.cN).ownBlock = some q → q < w.heap.size) := fun q e => (h.n.lt q e).2
 have HG1 := hide (h.next B1)
 have HGL := hide (block_lt h.blk)
 have HA1 := hide A1
 have HB1 := hide B1
 have HW1 := hide hW1
 have c0 := block_cell HG1.out.blk 0
 have c3 := block_cell HG1.out.blk 3
 have cl := block_lt HG1.out.blk
 simp at c0 c3
 obtain ⟨bo, eo, lo, ko, co, _⟩ := own_at HG1.out.o (by simp)
 rw [eo] at c3
 have d0 := co 2 _ rfl
 simp at ko
 clear h hW1 A1 B1 co eo
 go_enter Tryz.func146, Tryz.ntmps146
 go_upto_region 1 with fail
 rw [HW1.out]
 clear HW1
 go_upto_region 4 with fail
 go_region
 obtain ⟨W2, hW2⟩ : ∃ W2, W1.drew = W2 := ⟨_, rfl⟩
 rw [hW2]
 have B2 : Hid (Below W1.heap.size W1 W2) := by rw [← hW2]; exact (Below.refl _ _).drew
 clear hW2 c0 c3 cl d0
 have HG2 := hide (HG1.out.next B2.out)
 have HA2 := hide ((B2.out.block _ (block_lt HA1.out)).trans HA1.out)
 have HBW := hide (HB1.out.trans (B2.out.mono HB1.out.size))
 obtain ⟨xb, hxb⟩ : ∃ xb, w.heap.size = xb := ⟨_, rfl⟩
 have HXB := hide hxb
 rw [hxb] at HA2
 have HS2 : Hid (∀ {w1 : World} (w2 : World), w2.heap[gb]? = some (.cells #[.slice v.aN 2 v.cN, .slice v.aE 2 v.cE, .slice v.aA 2 v.cA, .slice v.aO 2 v.cO] 222 (0, 0)) → Below gb W2 w2 → w1.grownBy w2 (Value.slice v.aN 2 v.cN).ownBlock → Below W2.heap.size W2 w1 → (fun (w : World) => (w.cell? ⟨gb, 0, none⟩ = some (.slice v.aN 2 v.cN) ∧ gb < w.heap.size) ∧ w.cell? ⟨xb, 0, none⟩ = some (.int .i64 3) ∧ w.cell? ⟨xb, 1, none⟩ = some (.int .u64 1) ∧ w.cell? ⟨xb, 2, none⟩ = some (.string ⟨#[]⟩) ∧ xb < w.heap.size) w2) := fun {w1} w2 hb _ hg hw => by
  have a1 := (hw.block _ (block_lt HA2.out)).trans HA2.out
  have g1 := HG2.out.next hw
  have a2 : w2.heap[xb]? = some (.cells #[.int .i64 3, .int .u64 1, .string ⟨#[]⟩] 121 (0, 0)) := by
   refine (hg.block xb (block_lt a1) (fun e => ?_)).trans a1
   have := HNX.out xb e.symm
   omega
  exact ⟨⟨(block_cell hb 0).trans rfl, block_lt hb⟩, (block_cell a2 0).trans rfl, (block_cell a2 1).trans rfl, (block_cell a2 2).trans rfl, block_lt a2⟩
 have HS1 : Hid (∀ w' : World, Below W2.heap.size W2 w' → (fun (w : World) => (w.cell? ⟨gb, 0, none⟩ = some (.slice v.aN 2 v.cN) ∧ gb < w.heap.size) ∧ w.cell? ⟨xb, 0, none⟩ = some (.int .i64 3) ∧ w.cell? ⟨xb, 1, none⟩ = some (.int .u64 1) ∧ w.cell? ⟨xb, 2, none⟩ = some (.string ⟨#[]⟩) ∧ xb < w.heap.size) w') := fun w' hb => by
  have q := HG2.out.next hb
  have a := (hb.block _ (block_lt HA2.out)).trans HA2.out
  exact ⟨⟨(block_cell q.blk 0).trans rfl, block_lt q.blk⟩, (block_cell a 0).trans rfl, (block_cell a 1).trans rfl, (block_cell a 2).trans rfl, block_lt a⟩
 have HOW : Hid (∀ w' : World, Below W2.heap.size W2 w' → w'.ownsRow (gb + 1) 121 3 (.slice v.aN 2 v.cN) 2 (ndc [(1, 1), (2, ev)])) := fun w' hb => (HG2.out.next hb).n
 have HSZ : Hid (∀ w' : World, Below W2.heap.size W2 w' → gb + 1 ≤ w'.heap.size) := fun w' hb => block_lt (HG2.out.next hb).blk
 go_upto_region 5 with fail
 rw [hxb]
 clear hxb
 obtain ⟨wz, hwz⟩ : ∃ wz, (W2).drew = wz := ⟨_, rfl⟩
 have HS9 : Hid ((fun (w : World) => (w.cell? ⟨gb, 0, none⟩ = some (.slice v.aN 2 v.cN) ∧ gb < w.heap.size) ∧ w.cell? ⟨xb, 0, none⟩ = some (.int .i64 3) ∧ w.cell? ⟨xb, 1, none⟩ = some (.int .u64 1) ∧ w.cell? ⟨xb, 2, none⟩ = some (.string ⟨#[]⟩) ∧ xb < w.heap.size) wz) := by rw [← hwz]; exact HS1.out _ (Below.refl _ _).drew
 refine wp_region_L 12 (fun (w : World) => (w.cell? ⟨gb, 0, none⟩ = some (.slice v.aN 2 v.cN) ∧ gb < w.heap.size) ∧ w.cell? ⟨xb, 0, none⟩ = some (.int .i64 3) ∧ w.cell? ⟨xb, 1, none⟩ = some (.int .u64 1) ∧ w.cell? ⟨xb, 2, none⟩ = some (.string ⟨#[]⟩) ∧ xb < w.heap.size) (fun _ => True) (by kernel_rfl) (by rw [hwz]; exact HS9.out) trivial (fun hS0 => ?_)
 rw [hwz] at hS0 ⊢
 refine wpAnyL_take (i := 0) (oi := ⟨some 29, .move (.tmp 0), 254, "tree.go:80", #[], none⟩) (v := .pointer (some ⟨gb, 0, none⟩)) rfl (by decide) (by kernel_rfl) (by kernel_rfl) (by kernel_rfl) (fun _ _ _ h => h) (Or.inl ⟨by rfl, fun w2 hSw => ?_⟩) hS0 (fun hS1 => ?_)
 ·go_simp
 simp only [Act.put, lsA, lsB, lsC]
 clear hS0
 refine wpAnyL_take (i := 1) (oi := ⟨some 30, .move (.tmp 0), 254, "tree.go:80", #[], none⟩) (v := .pointer (some ⟨gb, 0, none⟩)) rfl (by decide) (by kernel_rfl) (by kernel_rfl) (by kernel_rfl) (fun _ _ _ h => h) (Or.inl ⟨by rfl, fun w2 hSw => ?_⟩) hS1 (fun hS2 => ?_)
 ·go_simp
 simp only [Act.put, lsA, lsB, lsC]
 clear hS1
 refine wpAnyL_take (i := 2) (oi := ⟨some 31, .nilCheck (.tmp 30), 0, "tree.go:80", #[⟨1, .data⟩], none⟩) (v := .pointer (some ⟨gb, 0, none⟩)) rfl (by decide) (by kernel_rfl) (by kernel_rfl) (by kernel_rfl) (fun _ _ _ h => h) (Or.inl ⟨by rfl, fun w2 hSw => ?_⟩) hS2 (fun hS3 => ?_)
 ·go_simp
 simp only [Act.put, lsA, lsB, lsC]
 clear hS2
 refine wpAnyL_take (i := 3) (oi := ⟨some 32, .fieldAddr 222 (.tmp 31) 0, 0, "tree.go:80", #[⟨2, .data⟩], none⟩) (v := .pointer (some ⟨gb, 0, none⟩)) rfl (by decide) (by kernel_rfl) (by kernel_rfl) (by kernel_rfl) (fun _ _ _ h => h) (Or.inl ⟨by rfl, fun w2 hSw => ?_⟩) hS3 (fun hS4 => ?_)
 ·go_simp
 simp only [Act.put, lsA, lsB, lsC]
 clear hS3
 refine wpAnyL_take (i := 4) (oi := ⟨some 33, .fieldAddr 191 (.tmp 32) 0, 0, "tree.go:80", #[⟨3, .data⟩], none⟩) (v := .pointer (some ⟨gb, 0, none⟩)) rfl (by decide) (by kernel_rfl) (by kernel_rfl) (by kernel_rfl) (fun _ _ _ h => h) (Or.inl ⟨by rfl, fun w2 hSw => ?_⟩) hS4 (fun hS5 => ?_)
 ·go_simp
 simp only [Act.put, lsA, lsB, lsC]
 clear hS4
 refine wpAnyL_takeP [8, 12] (i := 5) (oi := ⟨some 34, .load 65 (.tmp 33), 65, "tree.go:80", #[⟨4, .data⟩], none⟩) (v := .slice v.aN 2 v.cN) rfl (by decide) (by kernel_rfl) (by kernel_rfl) (by kernel_rfl) (by kernel_rfl) (by kernel_rfl) (fun _ _ _ h => h) (Or.inl ⟨by rfl, fun w2 hSw => ?_⟩) hS5 (fun hS6 => ?_)
 ·obtain ⟨⟨k0, kl⟩, k1, k2, k3, ks⟩ := hSw
  go_simp
 simp only [Act.put, lsA, lsB, lsC]
 clear hS5
 refine wpAnyL_takeP [7, 8, 12] (i := 6) (oi := ⟨some 35, .load 121 (.tmp 3), 121, "tree.go:80", #[], none⟩) (v := .agg #[.int .i64 3, .int .u64 1, .string ⟨#[]⟩]) rfl (by decide) (by kernel_rfl) (by kernel_rfl) (by kernel_rfl) (by kernel_rfl) (by kernel_rfl) (fun _ _ _ h => h) (Or.inl ⟨by rfl, fun w2 hSw => ?_⟩) hS6 (fun hS7 => ?_)
 ·obtain ⟨⟨k0, kl⟩, k1, k2, k3, ks⟩ := hSw
  go_simp
 simp only [Act.put, lsA, lsB, lsC]
 clear hS6
 have B0 : Hid (Below W2.heap.size W2 wz) := by rw [← hwz]; exact (Below.refl _ _).drew
 refine wpAnyL_one (i := 7) (o := ⟨some 36, .buildSlice 65 1 #[(0, .tmp 35)], 65, "tree.go:80", #[⟨6, .data⟩], none⟩) (by kernel_rfl) rfl (fun K hK => ?_)
 go_simp
 go_wp2_with fail
 refine hK.out _ _ ⟨fun _ => HS1.out _ (B0.out.trans ((below_alloc1 wz _).mono B0.out.size)), trivial⟩ ?_
 clear hK K
 obtain ⟨vA, wA, hrun, hoA, hgA, _⟩ := run_append_own (P := Tryz.prog) (wz.alloc (.cells #[.int .i64 3, .int .u64 1, .string ⟨#[]⟩] 121)) (gb + 1) 65 65 121 iT (.agg #[.int .i64 0, .int .u64 0, .string ⟨#[]⟩]) 3 32 Tryz.underlying65 hiT hiT0 hiT1 hiT2 rfl (by decide) (.slice v.aN 2 v.cN) 2 _ (HOW.out _ (B0.out.trans ((below_alloc1 wz _).mono B0.out.size))) ⟨wz.heap.size, 0, none⟩ 1 1 [.int .i64 3, .int .u64 1, .string ⟨#[]⟩] rfl (cell_three_newL _ _ _ _ _) (by simp [Value.oneCell']) (by unfold maxLen; omega) (by omega) (HSZ.out _ (B0.out.trans ((below_alloc1 wz _).mono B0.out.size)))
 obtain ⟨aA, cA, hvA⟩ := own_val2 hoA
 subst hvA
 have hst := HG2.out.appN (by omega) (x := (3, 1)) (B0.out.trans ((below_alloc1 wz _).mono B0.out.size)) hoA hgA
 have z0 := block_cell hst.2.1 0
 have zl := block_lt hst.2.1
 have zf := block_free hst.2.1 0
 simp at z0
 have HSA := hide (HS2.out wA hst.2.1 hst.2.2 hgA (B0.out.trans ((below_alloc1 wz _).mono B0.out.size)))
 have HST := hide hst
 clear hst hoA hgA
 refine wpAnyL_one (i := 8) (o := ⟨some 37, .call { callee := Callee.builtin .append, args := #[.tmp 34, .tmp 36], argTypes := #[65, 65] }, 65, "tree.go:80", #[⟨5, .data⟩, ⟨7, .data⟩], none⟩) (by kernel_rfl) rfl (fun K hK => ?_)
 rw [if_pos (by kernel_rfl)]
 refine wp_append1 (.tmp 34) (.tmp 36) 65 rfl (v := .slice v.aN 2 v.cN) (v' := .slice aA (2 + 1) cA) (w' := wA) rfl rfl hrun ?_
 simp only [Act.put, List.setIfInBounds_toArray]
 refine hK.out _ _ ⟨fun _ => HSA.out, trivial⟩ ?_
 clear hK K
 refine wpAnyL_one (i := 9) (o := ⟨some 38, .nilCheck (.tmp 29), 0, "tree.go:80", #[⟨0, .data⟩, ⟨0, .phase⟩, ⟨1, .phase⟩, ⟨2, .phase⟩, ⟨3, .phase⟩, ⟨4, .phase⟩, ⟨5, .phase⟩, ⟨6, .phase⟩, ⟨7, .phase⟩, ⟨8, .phase⟩], none⟩) (by kernel_rfl) rfl (fun K hK => ?_)
 go_simp
 go_wp2_with fail
 refine hK.out _ _ ⟨fun _ => HSA.out, trivial⟩ ?_
 clear hK K
 refine wpAnyL_one (i := 10) (o := ⟨some 39, .fieldAddr 222 (.tmp 38) 0, 0, "tree.go:80", #[⟨9, .data⟩, ⟨0, .phase⟩, ⟨1, .phase⟩, ⟨2, .phase⟩, ⟨3, .phase⟩, ⟨4, .phase⟩, ⟨5, .phase⟩, ⟨6, .phase⟩, ⟨7, .phase⟩, ⟨8, .phase⟩], none⟩) (by kernel_rfl) rfl (fun K hK => ?_)
 go_simp
 go_wp2_with fail
 refine hK.out _ _ ⟨fun _ => HSA.out, trivial⟩ ?_
 clear hK K
 refine wpAnyL_one (i := 11) (o := ⟨some 40, .fieldAddr 191 (.tmp 39) 0, 0, "tree.go:80", #[⟨10, .data⟩, ⟨0, .phase⟩, ⟨1, .phase⟩, ⟨2, .phase⟩, ⟨3, .phase⟩, ⟨4, .phase⟩, ⟨5, .phase⟩, ⟨6, .phase⟩, ⟨7, .phase⟩, ⟨8, .phase⟩], none⟩) (by kernel_rfl) rfl (fun K hK => ?_)
 go_simp
 go_wp2_with fail
 refine hK.out _ _ ⟨fun _ => HSA.out, trivial⟩ ?_
 clear hK K
 clear hrun
 refine wpAnyL_one (i := 12) (o := ⟨none, .store 65 (.tmp 40) (.tmp 37), 0, "tree.go:80", #[⟨11, .data⟩, ⟨8, .data⟩, ⟨8, .chain⟩, ⟨0, .phase⟩, ⟨1, .phase⟩, ⟨2, .phase⟩, ⟨3, .phase⟩, ⟨4, .phase⟩, ⟨5, .phase⟩, ⟨6, .phase⟩, ⟨7, .phase⟩, ⟨8, .phase⟩], none⟩) (by kernel_rfl) rfl (fun K hK => ?_)
 go_simp
 go_wp2_with fail
 refine hK.out _ _ ⟨fun h => (by cases (show true = false from h)), trivial⟩ ?_
 clear hK K
 refine wpAnyL_done (by kernel_rfl) ?_ _
 clear HS9
 obtain ⟨W5, hwn⟩ : ∃ wn, wA.setCell ⟨gb, 0, none⟩ (.slice aA (2 + 1) cA) = wn := ⟨_, rfl⟩
 have gX : Gr (gb + 1) gb { v with aN := aA, cN := cA } [(1, 1), (2, ev), (3, 1)] [0, 0] [0, 0] [(0, 0), (1, 0)] (wA.setCell ⟨gb, 0, none⟩ (.slice aA (2 + 1) cA)) := HST.out.1
 have bX : Below gb w W5 := by
  rw [← hwn]
  exact (((HBW.out.mono (Nat.le_of_lt HGL.out)).trans HST.out.2.2)).setCell (p := ⟨gb, 0, none⟩) (Nat.le_refl _) _
 rw [hwn] at gX
 rw [show wA.setCell ⟨gb, 0, none⟩ (.slice aA 3 cA) = W5 from hwn]
 generalize { v with aN := aA, cN := cA : Gv } = v5 at gX
 have H5 : Hid (Gr (gb + 1) gb v5 [(1, 1), (2, ev), (3, 1)] [0, 0] [0, 0] [(0, 0), (1, 0)] W5 ∧ Below gb w W5) := ⟨gX, bX⟩
 clear hwn HST HSA z0 zl zf gX bX HS1 HS2 HOW HSZ HG1 HG2 HA1 HA2 HB1 HBW B2 B0 hwz HNX HXB hiT hiT0 hiT1 hiT2
 go_upto_region 6 with fail
 have c := block_cell H5.out.1.blk 2
 have cl := block_lt H5.out.1.blk
 simp at c
 have HOW : Hid (∀ o, (W5.alloc o).ownsRow (gb + 1) 3 1 (.slice v5.aA 2 v5.cA) 2 (itc [0, 0])) := fun o => (H5.out.1.next (below_alloc1 W5 o)).a
 have HSZ : Hid (∀ o, gb + 1 ≤ (W5.alloc o).heap.size) := fun o => block_lt (H5.out.1.next (below_alloc1 W5 o)).blk
 go_upto_region 7 with (at_builtin; refine wpList_append_keepL _ rfl (.tmp 46) (.tmp 48) 23 rfl (gb + 1) 3 iI (.int .i64 0) 1 8 Tryz.underlying23 hiI hiI0 hiI1 hiI2 rfl (by decide) (.slice v5.aA 2 v5.cA) 2 _ rfl (HOW.out _) ⟨W5.heap.size, 0, none⟩ 1 1 [.int .i64 1] rfl rfl (cell_one_newL _ _ _) (by simp [Value.oneCell']) (by decide) (by unfold maxLen; omega) (by omega) (HSZ.out _) ?_; intro vX wX ho hg _ hq; obtain ⟨aX, cX, hvX⟩ := own_val2 ho; subst hvX; have hX := H5.out.1.appA (by omega) (x := 1) (below_alloc1 _ _) ho hg hq; have y := block_cell hX.2.1 2; have yf := block_free hX.2.1 2; have yl := block_lt hX.2.1; simp at y; have HX := hide hX; clear ho hg hq hX HOW HSZ c cl)
 obtain ⟨W6, hwn⟩ : ∃ wn, wX.setCell ⟨gb, 2, none⟩ (.slice aX (2 + 1) cX) = wn := ⟨_, rfl⟩
 have gX : Gr (gb + 1) gb { v5 with aA := aX, cA := cX } [(1, 1), (2, ev), (3, 1)] [0, 0] [0, 0, 1] [(0, 0), (1, 0)] (wX.setCell ⟨gb, 2, none⟩ (.slice aX (2 + 1) cX)) := HX.out.1
 have bX : Below gb w W6 := by
  rw [← hwn]
  exact (H5.out.2.trans HX.out.2.2).setCell (p := ⟨gb, 2, none⟩) (Nat.le_refl _) _
 rw [hwn] at gX
 rw [show wX.setCell ⟨gb, 2, none⟩ (.slice aX 3 cX) = W6 from hwn]
 clear hwn HX H5 y yf yl
 generalize { v5 with aA := aX, cA := cX : Gv } = v6 at gX
 have H6 : Hid (Gr (gb + 1) gb v6 [(1, 1), (2, ev), (3, 1)] [0, 0] [0, 0, 1] [(0, 0), (1, 0)] W6 ∧ Below gb w W6) := ⟨gX, bX⟩
 clear gX bX
 have c := block_cell H6.out.1.blk 1
 have cl := block_lt H6.out.1.blk
 simp at c
 have HOW : Hid (∀ o, (W6.alloc o).ownsRow (gb + 1) 3 1 (.slice v6.aE 2 v6.cE) 2 (itc [0, 0])) := fun o => (H6.out.1.next (below_alloc1 W6 o)).e
 have HSZ : Hid (∀ o, gb + 1 ≤ (W6.alloc o).heap.size) := fun o => block_lt (H6.out.1.next (below_alloc1 W6 o)).blk
 go_upto_region 8 with (at_builtin; refine wpList_append_keepL _ rfl (.tmp 58) (.tmp 59) 23 rfl (gb + 1) 3 iI (.int .i64 0) 1 8 Tryz.underlying23 hiI hiI0 hiI1 hiI2 rfl (by decide) (.slice v6.aE 2 v6.cE) 2 _ rfl (HOW.out _) ⟨W6.heap.size, 0, none⟩ 1 1 [.int .i64 0] rfl rfl (cell_one_newL _ _ _) (by simp [Value.oneCell']) (by decide) (by unfold maxLen; omega) (by omega) (HSZ.out _) ?_; intro vX wX ho hg _ hq; obtain ⟨aX, cX, hvX⟩ := own_val2 ho; subst hvX; have hX := H6.out.1.appE (by omega) (x := 0) (below_alloc1 _ _) ho hg hq; have y := block_cell hX.2.1 1; have yf := block_free hX.2.1 1; have yl := block_lt hX.2.1; simp at y; have HX := hide hX; clear ho hg hq hX HOW HSZ c cl)
 obtain ⟨W7, hwn⟩ : ∃ wn, wX.setCell ⟨gb, 1, none⟩ (.slice aX (2 + 1) cX) = wn := ⟨_, rfl⟩
 have gX : Gr (gb + 1) gb { v6 with aE := aX, cE := cX } [(1, 1), (2, ev), (3, 1)] [0, 0, 0] [0, 0, 1] [(0, 0), (1, 0)] (wX.setCell ⟨gb, 1, none⟩ (.slice aX (2 + 1) cX)) := HX.out.1
 have bX : Below gb w W7 := by
  rw [← hwn]
  exact (H6.out.2.trans HX.out.2.2).setCell (p := ⟨gb, 1, none⟩) (Nat.le_refl _) _
 rw [hwn] at gX
 rw [show wX.setCell ⟨gb, 1, none⟩ (.slice aX 3 cX) = W7 from hwn]
 clear hwn HX H6 y yf yl
 generalize { v6 with aE := aX, cE := cX : Gv } = v7 at gX
 have H7 : Hid (Gr (gb + 1) gb v7 [(1, 1), (2, ev), (3, 1)] [0, 0, 0] [0, 0, 1] [(0, 0), (1, 0)] W7 ∧ Below gb w W7) := ⟨gX, bX⟩
 clear gX bX
 have c := block_cell H7.out.1.blk 3
 have cl := block_lt H7.out.1.blk
 simp at c
 have HOW : Hid (∀ o, (W7.alloc o).ownsRow (gb + 1) 257 2 (.slice v7.aO 2 v7.cO) 2 (opc [(0, 0), (1, 0)])) := fun o => (H7.out.1.next (below_alloc1 W7 o)).o
 have HSZ : Hid (∀ o, gb + 1 ≤ (W7.alloc o).heap.size) := fun o => block_lt (H7.out.1.next (below_alloc1 W7 o)).blk
 go_upto_block 0 with (at_builtin; refine wpList_append_keepL _ rfl (.tmp 68) (.tmp 71) 220 rfl (gb + 1) 257 iF (.agg #[.int .i64 0, .int .u64 0]) 2 16 Tryz.underlying220 hiF hiF0 hiF1 hiF2 rfl (by decide) (.slice v7.aO 2 v7.cO) 2 _ rfl (HOW.out _) ⟨W7.heap.size, 0, none⟩ 1 1 [.int .i64 2, .int .u64 0] rfl rfl (cell_two_newL _ _ _ _) (by simp [Value.oneCell']) (by decide) (by unfold maxLen; omega) (by omega) (HSZ.out _) ?_; intro vX wX ho hg _ hq; obtain ⟨aX, cX, hvX⟩ := own_val2 ho; subst hvX; have hX := H7.out.1.appO (by omega) (x := (2, 0)) (below_alloc1 _ _) ho hg; have y := block_cell hX.2.1 3; have yf := block_free hX.2.1 3; have yl := block_lt hX.2.1; simp at y; have HX := hide hX; clear ho hg hq hX HOW HSZ c cl)
 obtain ⟨W8, hwn⟩ : ∃ wn, wX.setCell ⟨gb, 3, none⟩ (.slice aX (2 + 1) cX) = wn := ⟨_, rfl⟩
 have gX : Gr (gb + 1) gb { v7 with aO := aX, cO := cX } [(1, 1), (2, ev), (3, 1)] [0, 0, 0] [0, 0, 1] [(0, 0), (1, 0), (2, 0)] (wX.setCell ⟨gb, 3, none⟩ (.slice aX (2 + 1) cX)) := HX.out.1
 have bX : Below gb w W8 := by
  rw [← hwn]
  exact (H7.out.2.trans HX.out.2.2).setCell (p := ⟨gb, 3, none⟩) (Nat.le_refl _) _
 rw [hwn] at gX
 rw [show wX.setCell ⟨gb, 3, none⟩ (.slice aX 3 cX) = W8 from hwn]
 clear hwn HX H7 y yf yl
 generalize { v7 with aO := aX, cO := cX : Gv } = v8 at gX
 have H8 : Hid (Gr (gb + 1) gb v8 [(1, 1), (2, ev), (3, 1)] [0, 0, 0] [0, 0, 1] [(0, 0), (1, 0), (2, 0)] W8 ∧ Below gb w W8) := ⟨gX, bX⟩
 clear gX bX
 have HPC : Hid (∀ w, Calls Tryz.prog 173 #[.agg #[.int .i64 3, .int .u64 1, .string ⟨#[]⟩]] w fun e w' => e = .returned (.int .u64 1) ∧ Hid (Below w.heap.size w w')) := fun w => partCount4 3 1 (by decide) w
 clear hiI hiI0 hiI1 hiI2 hiF hiF0 hiF1 hiF2
 go_wp2
 go_loopw [6] (fun _ wr => Hid (∃ v', Gr (gb + 1) gb v' [(1, 1), (2, ev), (3, 1)] [0, 0, 0] [0, 0, 1] [(0, 0), (1, 0), (2, 0)] wr ∧ Below gb w wr)) (fun _ _ => 0)
 case atStart => exact ⟨v8, H8.out⟩
 case round =>
  obtain ⟨v9, hg9, hb9⟩ := hrel.out
  clear H8 hrel
  obtain ⟨bo, eo, lo, ko, co, _⟩ := own_at hg9.o (by simp)
  obtain ⟨bn, en, ln, kn, cn, _⟩ := own_at hg9.n (by simp)
  have c0 := block_cell hg9.blk 0
  have c3 := block_cell hg9.blk 3
  have cl := block_lt hg9.blk
  simp at c0 c3 ko kn
  rw [en] at c0
  rw [eo] at c3
  have d0 := co 4 _ rfl
  have d1 := co 5 _ rfl
  have n0 := cn 6 _ rfl
  have n1 := cn 7 _ rfl
  have n2 := cn 8 _ rfl
  obtain ⟨WU, hWU⟩ : ∃ WU, wr.alloc (.cells #[.int .i64 2, .int .u64 0] 257) = WU := ⟨_, rfl⟩
  have BU : Below wr.heap.size wr WU := by rw [← hWU]; exact below_alloc1 wr _
  have AU : WU.heap[wr.heap.size]? = some (.cells #[.int .i64 2, .int .u64 0] 257 (0, 0)) := by rw [← hWU]; exact alloc_atK wr _
  have k0 := cell_regrown ((BU.cell (p := ⟨gb, 0, none⟩) cl).trans c0)
  have k1 := cell_regrown ((BU.cell (p := ⟨bn, 6, none⟩) ln).trans n0)
  have k2 := cell_regrown ((BU.cell (p := ⟨bn, 7, none⟩) ln).trans n1)
  have k3 := cell_regrown ((BU.cell (p := ⟨bn, 8, none⟩) ln).trans n2)
  have k4 := cell_regrown ((block_cell AU 0).trans rfl)
  have k5 := cell_regrown ((block_cell AU 1).trans rfl)
  have HPQ : ∀ d os, Calls Tryz.prog 173 #[.agg #[.int .i64 3, .int .u64 1, .string ⟨#[]⟩]] (grow (redrawn WU d) os) fun e w'' => e = .returned (.int .u64 1) ∧ ∃ p : Regrown, w'' = grow (redrawn WU p.d) p.os := fun d os => Calls.regrown_of ((HPC.out _).mono fun e w' q => ⟨q.1, q.2.out⟩)
  have HGU := hide (hg9.next BU)
  have HBU : Hid (Below gb w WU) := hb9.trans (BU.mono (Nat.le_of_lt cl))
  have HCL := hide cl
  have HWU := hide hWU
  clear hg9 hb9 co cn en eo hWU BU AU HPC
  go_upto_region 12 with fail
  rw [HWU.out]
  clear HWU c0 c3 d0 d1 n0 n1 n2
  generalize wr.heap.size = ub at *
  refine wp_region_quiet_below (by kernel_rfl) (by kernel_rfl) ?_
  repeat (quiet_step (first | exact HPQ _ _))
  refine wpQuiet_nil ?_
  intro w8 hw'
  obtain ⟨⟨dq, osq⟩, hw''⟩ := hw'
  have B8 : Below WU.heap.size WU w8 := by rw [hw'']; exact below_regrown WU dq osq
  have HG8 := hide (HGU.out.next B8)
  have HB8 : Hid (Below gb w w8) := HBU.out.trans (B8.mono (Nat.le_of_lt (block_lt HGU.out.blk)))
  clear hw'' k0 k1 k2 k3 k4 k5 HPQ B8 HGU HBU
  go_wp2
  refine bodyPost_ret (v := .tuple #[]) (by simp [results, Tryz.results146, go_sem]) rfl ?_
  exact ⟨rfl, v9, HG8.out, HB8.out⟩
end
end Go.Proofs.YtggpaljilpbmhaaGreatDoor
