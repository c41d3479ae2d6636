import Derived.Test.YtggpaljilpbmhaaGreatDoorW32
namespace Go.Proofs.YtggpaljilpbmhaaGreatDoor
open Go.RowKit

theorem field_n (a n : Int) (x : ByteArray) (w : World) : (Instr.field 121 (.agg #[.int .i64 a, .int .u64 n, .string x]) 1).run Tryz.prog w = .ok (.int .u64 n) w := by kernel_rfl
section
variable {cb tb : Nat} {ev kk nx : Int} {es : Nat → Int} {aI : Option Addr} {cI : Nat} {I : List (Int × Int)} {w w1 w2 : World}
set_option maxRecDepth 10000 in
set_option maxHeartbeats 3200000 in
theorem statementC (h : Cm cb tb ev kk 3 es aI cI I w) (hl : I.length ≤ 90) (h2 : 1 ≤ kk) (h3 : kk ≤ 999) : Calls Tryz.prog 160 #[.pointer (some ⟨cb, 0, none⟩)] w fun e w' => e = .returned (.tuple #[]) ∧ Hid (∃ a' c', Cm cb tb ev kk 4 es a' c' (I ++ [(1, 0), (31, kk)]) w' ∧ Below cb w w') := by
 have HND := hide (node3 h)
 have HEM : Hid (∀ w1, Cm cb tb ev kk 4 es aI cI I w1 → Calls Tryz.prog 115 #[.pointer (some ⟨cb, 0, none⟩), .int .i64 1, .int .i64 0] w1 fun e w' => e = .returned (.tuple #[]) ∧ Hid (∃ a' c', Cm cb tb ev kk 4 es a' c' (I ++ [(1, 0)]) w' ∧ Below cb w1 w' ∧ Knd w1 w')) := fun w1 hc => emitC hc 1 0 (by omega)
 have HEF : Hid (∀ w1 a c, Cm cb tb ev kk 4 es a c (I ++ [(1, 0)]) w1 → Calls Tryz.prog 115 #[.pointer (some ⟨cb, 0, none⟩), .int .i64 31, .int .i64 kk] w1 fun e w' => e = .returned (.tuple #[]) ∧ Hid (∃ a' c', Cm cb tb ev kk 4 es a' c' ((I ++ [(1, 0)]) ++ [(31, kk)]) w' ∧ Below cb w1 w' ∧ Knd w1 w')) := fun w1 a c hc => emitC hc 31 kk (by simp; omega)
 have hwr : IntKind.i64.wrap kk = kk := by simp [IntKind.wrap, IntKind.bits, IntKind.signed]; omega
 have HGL := hide (Nat.le_of_lt (block_lt h.blk))
 clear h
 go_enter Tryz.func160, Tryz.ntmps160
 go_wp2_with fail
 refine HND.out.mono ?_
 rintro e w1 ⟨rfl, G1⟩
 clear HND
 obtain ⟨W2, hW2⟩ : ∃ W2, w1.alloc (.cells #[.int .i64 12, .int .u64 kk, .string ⟨#[]⟩] 121) = W2 := ⟨_, rfl⟩
 have B2 : Below w1.heap.size w1 W2 := by rw [← hW2]; exact below_alloc1 _ _
 have A2 : W2.heap[w1.heap.size]? = some (.cells #[.int .i64 12, .int .u64 kk, .string ⟨#[]⟩] 121 (0, 0)) := by rw [← hW2]; exact alloc_atK _ _
 have HC2 := hide (G1.out.1.next B2)
 have HB2 : Hid (Below cb w W2) := G1.out.2.trans (B2.mono (Nat.le_of_lt (block_lt G1.out.1.blk)))
 have HA2 := hide A2
 have HW2 := hide hW2
 clear G1 B2 A2 hW2
 go_upto_region 1 with fail
 rw [HW2.out]
 clear HW2
 generalize w1.heap.size = xb at *
 go_wp2_with fail
 refine (HEM.out _ HC2.out).mono ?_
 rintro e w3 ⟨rfl, G3⟩
 obtain ⟨a3, c3, hc3, hb3, hk3⟩ := G3.out
 have x3 := hk3 _ _ HA2.out
 have y0 := block_cell x3 0
 have y1 := block_cell x3 1
 have yl := block_lt x3
 simp at y0 y1
 have HC3 := hide hc3
 have HB3 : Hid (Below cb w w3) := HB2.out.trans hb3
 clear HEM HC2 HB2 HA2 G3 hc3 hb3 hk3 x3
 go_wp2_with fail
 refine (HEF.out _ _ _ HC3.out).mono ?_
 rintro e w4 ⟨rfl, G4⟩
 obtain ⟨a4, c4, hc4, hb4, _⟩ := G4.out
 rw [List.append_assoc] at hc4
 have HF : Hid (∃ a' c', Cm cb tb ev kk 4 es a' c' (I ++ [(1, 0), (31, kk)]) w4 ∧ Below cb w w4) := ⟨a4, c4, hc4, HB3.out.trans hb4⟩
 clear HEF HC3 HB3 G4 hc4 hb4 y0 y1 yl
 go_wp2
 go_end0
 exact ⟨rfl, HF.out⟩
set_option maxRecDepth 10000 in
set_option maxHeartbeats 3200000 in
theorem blockC (h : Cm cb tb ev kk 2 es aI cI I w) (hl : I.length ≤ 90) (h2 : 1 ≤ kk) (h3 : kk ≤ 999) : Calls Tryz.prog 114 #[.pointer (some ⟨cb, 0, none⟩)] w fun e w' => e = .returned (.tuple #[]) ∧ Hid (∃ a' c', Cm cb tb ev kk 4 es a' c' (I ++ [(1, 0), (31, kk)]) w' ∧ Below cb w w') := by
 have HND := hide (node2 h)
 have HST : Hid (∀ w1, Cm cb tb ev kk 3 es aI cI I w1 → Calls Tryz.prog 160 #[.pointer (some ⟨cb, 0, none⟩)] w1 fun e w' => e = .returned (.tuple #[]) ∧ Hid (∃ a' c', Cm cb tb ev kk 4 es a' c' (I ++ [(1, 0), (31, kk)]) w' ∧ Below cb w1 w')) := fun w1 hc => statementC hc hl h2 h3
 have c := block_cell h.blk 11
 have cl := block_lt h.blk
 simp at c
 have hfd := field_n
 clear h hl h2 h3
 go_enter Tryz.func114, Tryz.ntmps114
 go_wp2_with fail
 refine HND.out.mono ?_
 rintro e w1 ⟨rfl, G1⟩
 clear HND c cl
 go_upto_block 0 with fail
 go_cut [11] from 12 (fun _ V => Hid (∃ a' c', Cm cb tb ev kk 4 es a' c' (I ++ [(1, 0), (31, kk)]) V ∧ Below cb w V))
 case first =>
  go_wp2
  go_loopw [11] (fun i wr => (i = .int .u64 0 ∧ Hid (Cm cb tb ev kk 3 es aI cI I wr ∧ Below cb w wr)) ∨ (i = .int .u64 1 ∧ Hid (∃ a' c', Cm cb tb ev kk 4 es a' c' (I ++ [(1, 0), (31, kk)]) wr ∧ Below cb w wr))) (fun i _ => 1 - (intOf i).toNat)
  case atStart => exact .inl ⟨rfl, G1.out⟩
  case round =>
   rcases hrel with ⟨rfl, HJ⟩ | ⟨rfl, HJ⟩
   ·clear G1
    go_wp2_with fail
    refine (HST.out _ HJ.out.1).mono ?_
    rintro e w3 ⟨rfl, G3⟩
    have HN : Hid (∃ a' c', Cm cb tb ev kk 4 es a' c' (I ++ [(1, 0), (31, kk)]) w3 ∧ Below cb w w3) := by
     obtain ⟨a', c', q1, q2⟩ := G3.out
     exact ⟨a', c', q1, HJ.out.2.trans q2⟩
    clear HJ G3
    go_wp2
    go_roundw
    case rel => exact .inr ⟨by go_num, HN.out⟩
    case measure => simp [intOf]
   ·clear G1
    go_wp2
    go_meet
    case rel => exact HJ.out
 case rest =>
 obtain ⟨a4, c4, hc4, hb4⟩ := hcut.out
 clear hcut G1
 have c := block_cell hc4.blk 11
 have cf := block_free hc4.blk 11
 have cl := block_lt hc4.blk
 simp at c
 have HX := hide (hc4.set (nx' := 4) (es' := es) (j := 11) (x := .slice none 0 0) (by simp))
 have HB4 := hide hb4
 clear hc4 hb4
 go_wp2
 go_end0
 exact ⟨rfl, a4, c4, HX.out.1, HB4.out.trans HX.out.2⟩
/-- Where the rule begins. -/
def enF (ev : Int) (i : Nat) : Int := if (i : Int) = ev then 0 else -1
set_option maxRecDepth 10000 in
set_option maxHeartbeats 6400000 in
theorem rulesC (h : Cm cb tb ev kk 0 (fun _ => 0) none 0 [] w) (hev : ev = 0 ∨ ev = 1 ∨ ev = 2 ∨ ev = 3) (h2 : 1 ≤ kk) (h3 : kk ≤ 999) : Calls Tryz.prog 53 #[.pointer (some ⟨cb, 0, none⟩)] w fun e w' => e = .returned (.tuple #[]) ∧ Hid (∃ a' c', Cm cb tb ev kk 4 (enF ev) a' c' [(1, 0), (31, kk), (32, 0)] w' ∧ Below cb w w') := by
 have HN0 : Hid (∀ w1, Cm cb tb ev kk 0 (fun _ => -1) none 0 [] w1 → Calls Tryz.prog 112 #[.pointer (some ⟨cb, 0, none⟩)] w1 fun e w' => e = .returned (.agg #[.int .i64 1, .int .u64 1, .string ⟨#[]⟩]) ∧ Hid (Cm cb tb ev kk 1 (fun _ => -1) none 0 [] w' ∧ Below cb w1 w')) := fun w1 hc => node0 hc
 have HND : Hid (∀ w1, Cm cb tb ev kk 1 (fun _ => -1) none 0 [] w1 → Calls Tryz.prog 112 #[.pointer (some ⟨cb, 0, none⟩)] w1 fun e w' => e = .returned (.agg #[.int .i64 2, .int .u64 ev, .string ⟨#[]⟩]) ∧ Hid (Cm cb tb ev kk 2 (fun _ => -1) none 0 [] w' ∧ Below cb w1 w')) := fun w1 hc => node1 hc
 have HBL : Hid (∀ w1, Cm cb tb ev kk 2 (enF ev) none 0 [] w1 → Calls Tryz.prog 114 #[.pointer (some ⟨cb, 0, none⟩)] w1 fun e w' => e = .returned (.tuple #[]) ∧ Hid (∃ a' c', Cm cb tb ev kk 4 (enF ev) a' c' [(1, 0), (31, kk)] w' ∧ Below cb w1 w')) := fun w1 hc => blockC hc (by simp) h2 h3
 have HEM : Hid (∀ w1 a c, Cm cb tb ev kk 4 (enF ev) a c [(1, 0), (31, kk)] w1 → Calls Tryz.prog 115 #[.pointer (some ⟨cb, 0, none⟩), .int .i64 32, .int .i64 0] w1 fun e w' => e = .returned (.tuple #[]) ∧ Hid (∃ a' c', Cm cb tb ev kk 4 (enF ev) a' c' [(1, 0), (31, kk), (32, 0)] w' ∧ Below cb w1 w' ∧ Knd w1 w')) := fun w1 a c hc => emitC hc 32 0 (by simp)
 have hfd := field_n
 have HC0 : Hid (Cm cb tb ev kk 0 (fun _ => -1) none 0 [] (((((((w.setCell ⟨cb, 4, none⟩ (.int .i64 (-1))).setCell ⟨cb, 5, none⟩ (.int .i64 (-1))).setCell ⟨cb, 6, none⟩ (.int .i64 (-1))).setCell ⟨cb, 7, none⟩ (.int .i64 (-1))).setCell ⟨cb, 8, none⟩ (.int .i64 (-1))).setCell ⟨cb, 9, none⟩ (.int .i64 (-1)))) ∧ Below cb w (((((((w.setCell ⟨cb, 4, none⟩ (.int .i64 (-1))).setCell ⟨cb, 5, none⟩ (.int .i64 (-1))).setCell ⟨cb, 6, none⟩ (.int .i64 (-1))).setCell ⟨cb, 7, none⟩ (.int .i64 (-1))).setCell ⟨cb, 8, none⟩ (.int .i64 (-1))).setCell ⟨cb, 9, none⟩ (.int .i64 (-1))))) := by
  have s1 := h.set (nx' := 0) (es' := fun i => if i < 1 then -1 else 0) (j := 4) (x := .int .i64 (-1)) (by simp)
  have s2 := s1.1.set (nx' := 0) (es' := fun i => if i < 2 then -1 else 0) (j := 5) (x := .int .i64 (-1)) (by simp)
  have s3 := s2.1.set (nx' := 0) (es' := fun i => if i < 3 then -1 else 0) (j := 6) (x := .int .i64 (-1)) (by simp)
  have s4 := s3.1.set (nx' := 0) (es' := fun i => if i < 4 then -1 else 0) (j := 7) (x := .int .i64 (-1)) (by simp)
  have s5 := s4.1.set (nx' := 0) (es' := fun i => if i < 5 then -1 else 0) (j := 8) (x := .int .i64 (-1)) (by simp)
  have s6 := s5.1.set (nx' := 0) (es' := fun _ => -1) (j := 9) (x := .int .i64 (-1)) (by simp)
  exact ⟨s6.1, ((((s1.2.trans s2.2).trans s3.2).trans s4.2).trans s5.2).trans s6.2⟩
 have c4 := block_cell h.blk 4
 have c5 := block_cell h.blk 5
 have c6 := block_cell h.blk 6
 have c7 := block_cell h.blk 7
 have c8 := block_cell h.blk 8
 have c9 := block_cell h.blk 9
 have f4 := block_free h.blk 4
 have f5 := block_free h.blk 5
 have f6 := block_free h.blk 6
 have f7 := block_free h.blk 7
 have f8 := block_free h.blk 8
 have f9 := block_free h.blk 9
 have cl := block_lt h.blk
 simp at c4 c5 c6 c7 c8 c9
 clear h h2 h3
 go_enter Tryz.func53, Tryz.ntmps53
 go_upto_region 1 with fail
 generalize hW1 : World.setCell _ _ _ = W1 at HC0 ⊢
 clear hW1 c4 c5 c6 c7 c8 c9 f4 f5 f6 f7 f8 f9 cl
 go_wp2_with fail
 refine (HN0.out _ HC0.out.1).mono ?_
 rintro e w2 ⟨rfl, G2⟩
 have HJ0 : Hid (Cm cb tb ev kk 1 (fun _ => -1) none 0 [] w2 ∧ Below cb w w2) := ⟨G2.out.1, HC0.out.2.trans G2.out.2⟩
 clear HN0 G2 HC0
 go_wp2
 go_loopw [10] (fun i wr => (i = .int .u64 0 ∧ Hid (Cm cb tb ev kk 1 (fun _ => -1) none 0 [] wr ∧ Below cb w wr)) ∨ (i = .int .u64 1 ∧ Hid (∃ a' c', Cm cb tb ev kk 4 (enF ev) a' c' [(1, 0), (31, kk), (32, 0)] wr ∧ Below cb w wr))) (fun i _ => 1 - (intOf i).toNat)
 case atStart => exact .inl ⟨rfl, HJ0.out⟩
 case round =>
   rcases hrel with ⟨rfl, HJ⟩ | ⟨rfl, HJ⟩
   ·clear HJ0
    have HCZ : Hid (Cm cb tb ev kk 1 (fun _ => -1) none 0 [] wr.drew) := HJ.out.1.next (Below.refl _ _).drew
    rcases hev with rfl | rfl | rfl | rfl
    ·go_upto_region 3 with fail
     obtain ⟨wz, hwz⟩ : ∃ wz, (wr).drew = wz := ⟨_, rfl⟩
     rw [hwz] at HCZ
     have HBZ : Hid (Below cb w wz) := by rw [← hwz]; exact HJ.out.2.trans ((Below.refl _ _).drew.mono (Nat.le_of_lt (block_lt HJ.out.1.blk)))
     have HS9 : Hid ((fun _ => True) wz) := trivial
     refine wp_region_L 99 (fun _ => True) (fun _ => True) (by kernel_rfl) trivial trivial (fun hS0 => ?_)
     rw [hwz] at hS0 ⊢
     refine wpAnyL_take (i := 0) (oi := ⟨some 12, .move (.tmp 0), 197, "compile.go:87", #[], none⟩) (v := .pointer (some ⟨cb, 0, none⟩)) rfl (by decide) (by kernel_rfl) (by kernel_rfl) (by kernel_rfl) (fun _ _ _ h => h) (Or.inl ⟨by rfl, fun w2 hSw => ?_⟩) hS0 (fun hS1 => ?_)
     ·go_simp
     simp only [Act.put, lsA, lsB, lsC]
     clear hS0
     refine wpAnyL_take (i := 1) (oi := ⟨some 13, .move (.tmp 0), 197, "compile.go:87", #[], none⟩) (v := .pointer (some ⟨cb, 0, none⟩)) rfl (by decide) (by kernel_rfl) (by kernel_rfl) (by kernel_rfl) (fun _ _ _ h => h) (Or.inl ⟨by rfl, fun w2 hSw => ?_⟩) hS1 (fun hS2 => ?_)
     ·go_simp
     simp only [Act.put, lsA, lsB, lsC]
     clear hS1
     refine wpAnyL_take (i := 4) (oi := ⟨some 16, .move (.tmp 0), 197, "compile.go:87", #[], none⟩) (v := .pointer (some ⟨cb, 0, none⟩)) rfl (by decide) (by kernel_rfl) (by kernel_rfl) (by kernel_rfl) (fun _ _ _ h => h) (Or.inl ⟨by rfl, fun w2 hSw => ?_⟩) hS2 (fun hS3 => ?_)
     ·go_simp
     simp only [Act.put, lsA, lsB, lsC]
     clear hS2
     refine wpAnyL_take (i := 6) (oi := ⟨some 18, .nilCheck (.tmp 12), 0, "compile.go:87", #[⟨0, .data⟩], none⟩) (v := .pointer (some ⟨cb, 0, none⟩)) rfl (by decide) (by kernel_rfl) (by kernel_rfl) (by kernel_rfl) (fun _ _ _ h => h) (Or.inl ⟨by rfl, fun w2 hSw => ?_⟩) hS3 (fun hS4 => ?_)
     ·go_simp
     simp only [Act.put, lsA, lsB, lsC]
     clear hS3
     refine wpAnyL_take (i := 7) (oi := ⟨some 19, .fieldAddr 118 (.tmp 18) 2, 0, "compile.go:87", #[⟨6, .data⟩], none⟩) (v := .pointer (some ⟨cb, 2, none⟩)) rfl (by decide) (by kernel_rfl) (by kernel_rfl) (by kernel_rfl) (fun _ _ _ h => h) (Or.inl ⟨by rfl, fun w2 hSw => ?_⟩) hS4 (fun hS5 => ?_)
     ·go_simp
     simp only [Act.put, lsA, lsB, lsC]
     clear hS4
     refine wpAnyL_take (i := 8) (oi := ⟨some 20, .fieldAddr 27 (.tmp 19) 2, 0, "compile.go:87", #[⟨7, .data⟩], none⟩) (v := .pointer (some ⟨cb, 4, none⟩)) rfl (by decide) (by kernel_rfl) (by kernel_rfl) (by kernel_rfl) (fun _ _ _ h => h) (Or.inl ⟨by rfl, fun w2 hSw => ?_⟩) hS5 (fun hS6 => ?_)
     ·go_simp
     simp only [Act.put, lsA, lsB, lsC]
     clear hS5
     clear hS6
     refine wpAnyL_one (i := 2) (o := ⟨some 14, .call { callee := Callee.value (.func 112), args := #[.tmp 13], argTypes := #[197] }, 121, "compile.go:87", #[⟨1, .data⟩], none⟩) (by kernel_rfl) rfl (fun K hK => ?_)
     go_simp
     go_wp2_with fail
     refine (HND.out wz HCZ.out).mono ?_
     rintro e w4 ⟨rfl, G4⟩
     go_simp
     refine hK.out _ _ ⟨fun _ => trivial, trivial⟩ ?_
     clear hK K
     refine wpAnyL_take (i := 3) (oi := ⟨some 15, .field 121 (.tmp 14) 1, 28, "compile.go:87", #[⟨2, .data⟩], none⟩) (v := .int .u64 0) rfl (by decide) (by kernel_rfl) (by kernel_rfl) (by kernel_rfl) (fun _ _ _ h => h) (Or.inl ⟨by rfl, fun w2 hSw => ?_⟩) ⟨fun _ => trivial, trivial⟩ (fun hS50 => ?_)
     ·go_simp
     simp only [Act.put, lsA, lsB, lsC]
     clear hS50
     refine wpAnyL_one (i := 5) (o := ⟨some 17, .call { callee := Callee.value (.func 113), args := #[.tmp 16], argTypes := #[197] }, 3, "compile.go:87", #[⟨4, .data⟩, ⟨2, .chain⟩], none⟩) (by kernel_rfl) rfl (fun K hK => ?_)
     go_simp
     go_wp2_with fail
     refine (hereC G4.out.1).mono ?_
     rintro e w5 ⟨rfl, hw5⟩
     subst hw5
     go_simp
     refine hK.out _ _ ⟨fun _ => trivial, trivial⟩ ?_
     clear hK K
     refine wpAnyL_one (i := 9) (o := ⟨some 21, .indexAddr 24 (.tmp 20) (.tmp 15), 0, "compile.go:87", #[⟨8, .data⟩, ⟨3, .data⟩, ⟨0, .phase⟩, ⟨1, .phase⟩, ⟨2, .phase⟩, ⟨3, .phase⟩, ⟨4, .phase⟩, ⟨5, .phase⟩], none⟩) (by kernel_rfl) rfl (fun K hK => ?_)
     go_simp
     go_wp2_with fail
     refine hK.out _ _ ⟨fun _ => trivial, trivial⟩ ?_
     clear hK K
     have c := block_cell G4.out.1.blk (4 + 0)
     have cf := block_free G4.out.1.blk (4 + 0)
     have cl := block_lt G4.out.1.blk
     simp at c
     refine wpAnyL_one (i := 10) (o := ⟨none, .store 3 (.tmp 21) (.tmp 17), 0, "compile.go:87", #[⟨9, .data⟩, ⟨5, .data⟩, ⟨5, .chain⟩, ⟨0, .phase⟩, ⟨1, .phase⟩, ⟨2, .phase⟩, ⟨3, .phase⟩, ⟨4, .phase⟩, ⟨5, .phase⟩], none⟩) (by kernel_rfl) rfl (fun K hK => ?_)
     go_simp
     go_wp2_with fail
     refine hK.out _ _ ⟨fun _ => trivial, trivial⟩ ?_
     clear hK K
     refine wpAnyL_done (by kernel_rfl) ?_ _
     clear HS9
     have G6 := hide (G4.out.1.set (nx' := 2) (es' := enF 0) (j := 4 + 0) (x := .int .i64 0) (by simp [enF]))
     obtain ⟨W6, hW6⟩ : ∃ W6, w5.setCell ⟨cb, 4 + 0, none⟩ (.int .i64 0) = W6 := ⟨_, rfl⟩
     rw [show w5.setCell ⟨cb, 4, none⟩ (.int .i64 0) = W6 from hW6]
     rw [hW6] at G6
     have HB6 : Hid (Below cb w W6) := (HBZ.out.trans G4.out.2).trans G6.out.2
     clear hW6 c cf cl hwz G4 HBZ HJ
     go_wp2_with fail
     refine (HBL.out _ G6.out.1).mono ?_
     rintro e w7 ⟨rfl, G7⟩
     obtain ⟨a7, c7, hc7, hb7⟩ := G7.out
     have HC7 := hide hc7
     have HB7 : Hid (Below cb w w7) := HB6.out.trans hb7
     clear HBL G6 HB6 G7 hc7 hb7
     go_wp2_with fail
     refine (HEM.out _ _ _ HC7.out).mono ?_
     rintro e w8 ⟨rfl, G8⟩
     have HN : Hid (∃ a' c', Cm cb tb 0 kk 4 (enF 0) a' c' [(1, 0), (31, kk), (32, 0)] w8 ∧ Below cb w w8) := by
      obtain ⟨a', c', q1, q2, _⟩ := G8.out
      exact ⟨a', c', q1, HB7.out.trans q2⟩
     clear HEM HC7 HB7 G8
     go_wp2
     go_roundw
     case rel => exact .inr ⟨by go_num, HN.out⟩
     case measure => simp [intOf]
    ·go_upto_region 3 with fail
     obtain ⟨wz, hwz⟩ : ∃ wz, (wr).drew = wz := ⟨_, rfl⟩
     rw [hwz] at HCZ
     have HBZ : Hid (Below cb w wz) := by rw [← hwz]; exact HJ.out.2.trans ((Below.refl _ _).drew.mono (Nat.le_of_lt (block_lt HJ.out.1.blk)))
     have HS9 : Hid ((fun _ => True) wz) := trivial
     refine wp_region_L 99 (fun _ => True) (fun _ => True) (by kernel_rfl) trivial trivial (fun hS0 => ?_)
     rw [hwz] at hS0 ⊢
     refine wpAnyL_take (i := 0) (oi := ⟨some 12, .move (.tmp 0), 197, "compile.go:87", #[], none⟩) (v := .pointer (some ⟨cb, 0, none⟩)) rfl (by decide) (by kernel_rfl) (by kernel_rfl) (by kernel_rfl) (fun _ _ _ h => h) (Or.inl ⟨by rfl, fun w2 hSw => ?_⟩) hS0 (fun hS1 => ?_)
     ·go_simp
     simp only [Act.put, lsA, lsB, lsC]
     clear hS0
     refine wpAnyL_take (i := 1) (oi := ⟨some 13, .move (.tmp 0), 197, "compile.go:87", #[], none⟩) (v := .pointer (some ⟨cb, 0, none⟩)) rfl (by decide) (by kernel_rfl) (by kernel_rfl) (by kernel_rfl) (fun _ _ _ h => h) (Or.inl ⟨by rfl, fun w2 hSw => ?_⟩) hS1 (fun hS2 => ?_)
     ·go_simp
     simp only [Act.put, lsA, lsB, lsC]
     clear hS1
     refine wpAnyL_take (i := 4) (oi := ⟨some 16, .move (.tmp 0), 197, "compile.go:87", #[], none⟩) (v := .pointer (some ⟨cb, 0, none⟩)) rfl (by decide) (by kernel_rfl) (by kernel_rfl) (by kernel_rfl) (fun _ _ _ h => h) (Or.inl ⟨by rfl, fun w2 hSw => ?_⟩) hS2 (fun hS3 => ?_)
     ·go_simp
     simp only [Act.put, lsA, lsB, lsC]
     clear hS2
     refine wpAnyL_take (i := 6) (oi := ⟨some 18, .nilCheck (.tmp 12), 0, "compile.go:87", #[⟨0, .data⟩], none⟩) (v := .pointer (some ⟨cb, 0, none⟩)) rfl (by decide) (by kernel_rfl) (by kernel_rfl) (by kernel_rfl) (fun _ _ _ h => h) (Or.inl ⟨by rfl, fun w2 hSw => ?_⟩) hS3 (fun hS4 => ?_)
     ·go_simp
     simp only [Act.put, lsA, lsB, lsC]
     clear hS3
     refine wpAnyL_take (i := 7) (oi := ⟨some 19, .fieldAddr 118 (.tmp 18) 2, 0, "compile.go:87", #[⟨6, .data⟩], none⟩) (v := .pointer (some ⟨cb, 2, none⟩)) rfl (by decide) (by kernel_rfl) (by kernel_rfl) (by kernel_rfl) (fun _ _ _ h => h) (Or.inl ⟨by rfl, fun w2 hSw => ?_⟩) hS4 (fun hS5 => ?_)
     ·go_simp
     simp only [Act.put, lsA, lsB, lsC]
     clear hS4
     refine wpAnyL_take (i := 8) (oi := ⟨some 20, .fieldAddr 27 (.tmp 19) 2, 0, "compile.go:87", #[⟨7, .data⟩], none⟩) (v := .pointer (some ⟨cb, 4, none⟩)) rfl (by decide) (by kernel_rfl) (by kernel_rfl) (by kernel_rfl) (fun _ _ _ h => h) (Or.inl ⟨by rfl, fun w2 hSw => ?_⟩) hS5 (fun hS6 => ?_)
     ·go_simp
     simp only [Act.put, lsA, lsB, lsC]
     clear hS5
     clear hS6
     refine wpAnyL_one (i := 2) (o := ⟨some 14, .call { callee := Callee.value (.func 112), args := #[.tmp 13], argTypes := #[197] }, 121, "compile.go:87", #[⟨1, .data⟩], none⟩) (by kernel_rfl) rfl (fun K hK => ?_)
     go_simp
     go_wp2_with fail
     refine (HND.out wz HCZ.out).mono ?_
     rintro e w4 ⟨rfl, G4⟩
     go_simp
     refine hK.out _ _ ⟨fun _ => trivial, trivial⟩ ?_
     clear hK K
     refine wpAnyL_take (i := 3) (oi := ⟨some 15, .field 121 (.tmp 14) 1, 28, "compile.go:87", #[⟨2, .data⟩], none⟩) (v := .int .u64 1) rfl (by decide) (by kernel_rfl) (by kernel_rfl) (by kernel_rfl) (fun _ _ _ h => h) (Or.inl ⟨by rfl, fun w2 hSw => ?_⟩) ⟨fun _ => trivial, trivial⟩ (fun hS50 => ?_)
     ·go_simp
     simp only [Act.put, lsA, lsB, lsC]
     clear hS50
     refine wpAnyL_one (i := 5) (o := ⟨some 17, .call { callee := Callee.value (.func 113), args := #[.tmp 16], argTypes := #[197] }, 3, "compile.go:87", #[⟨4, .data⟩, ⟨2, .chain⟩], none⟩) (by kernel_rfl) rfl (fun K hK => ?_)
     go_simp
     go_wp2_with fail
     refine (hereC G4.out.1).mono ?_
     rintro e w5 ⟨rfl, hw5⟩
     subst hw5
     go_simp
     refine hK.out _ _ ⟨fun _ => trivial, trivial⟩ ?_
     clear hK K
     refine wpAnyL_one (i := 9) (o := ⟨some 21, .indexAddr 24 (.tmp 20) (.tmp 15), 0, "compile.go:87", #[⟨8, .data⟩, ⟨3, .data⟩, ⟨0, .phase⟩, ⟨1, .phase⟩, ⟨2, .phase⟩, ⟨3, .phase⟩, ⟨4, .phase⟩, ⟨5, .phase⟩], none⟩) (by kernel_rfl) rfl (fun K hK => ?_)
     go_simp
     go_wp2_with fail
     refine hK.out _ _ ⟨fun _ => trivial, trivial⟩ ?_
     clear hK K
     have c := block_cell G4.out.1.blk (4 + 1)
     have cf := block_free G4.out.1.blk (4 + 1)
     have cl := block_lt G4.out.1.blk
     simp at c
     refine wpAnyL_one (i := 10) (o := ⟨none, .store 3 (.tmp 21) (.tmp 17), 0, "compile.go:87", #[⟨9, .data⟩, ⟨5, .data⟩, ⟨5, .chain⟩, ⟨0, .phase⟩, ⟨1, .phase⟩, ⟨2, .phase⟩, ⟨3, .phase⟩, ⟨4, .phase⟩, ⟨5, .phase⟩], none⟩) (by kernel_rfl) rfl (fun K hK => ?_)
     go_simp
     go_wp2_with fail
     refine hK.out _ _ ⟨fun _ => trivial, trivial⟩ ?_
     clear hK K
     refine wpAnyL_done (by kernel_rfl) ?_ _
     clear HS9
     have G6 := hide (G4.out.1.set (nx' := 2) (es' := enF 1) (j := 4 + 1) (x := .int .i64 0) (by simp [enF]))
     obtain ⟨W6, hW6⟩ : ∃ W6, w5.setCell ⟨cb, 4 + 1, none⟩ (.int .i64 0) = W6 := ⟨_, rfl⟩
     rw [show w5.setCell ⟨cb, 5, none⟩ (.int .i64 0) = W6 from hW6]
     rw [hW6] at G6
     have HB6 : Hid (Below cb w W6) := (HBZ.out.trans G4.out.2).trans G6.out.2
     clear hW6 c cf cl hwz G4 HBZ HJ
     go_wp2_with fail
     refine (HBL.out _ G6.out.1).mono ?_
     rintro e w7 ⟨rfl, G7⟩
     obtain ⟨a7, c7, hc7, hb7⟩ := G7.out
     have HC7 := hide hc7
     have HB7 : Hid (Below cb w w7) := HB6.out.trans hb7
     clear HBL G6 HB6 G7 hc7 hb7
     go_wp2_with fail
     refine (HEM.out _ _ _ HC7.out).mono ?_
     rintro e w8 ⟨rfl, G8⟩
     have HN : Hid (∃ a' c', Cm cb tb 1 kk 4 (enF 1) a' c' [(1, 0), (31, kk), (32, 0)] w8 ∧ Below cb w w8) := by
      obtain ⟨a', c', q1, q2, _⟩ := G8.out
      exact ⟨a', c', q1, HB7.out.trans q2⟩
     clear HEM HC7 HB7 G8
     go_wp2
     go_roundw
     case rel => exact .inr ⟨by go_num, HN.out⟩
     case measure => simp [intOf]
    ·go_upto_region 3 with fail
     obtain ⟨wz, hwz⟩ : ∃ wz, (wr).drew = wz := ⟨_, rfl⟩
     rw [hwz] at HCZ
     have HBZ : Hid (Below cb w wz) := by rw [← hwz]; exact HJ.out.2.trans ((Below.refl _ _).drew.mono (Nat.le_of_lt (block_lt HJ.out.1.blk)))
     have HS9 : Hid ((fun _ => True) wz) := trivial
     refine wp_region_L 99 (fun _ => True) (fun _ => True) (by kernel_rfl) trivial trivial (fun hS0 => ?_)
     rw [hwz] at hS0 ⊢
     refine wpAnyL_take (i := 0) (oi := ⟨some 12, .move (.tmp 0), 197, "compile.go:87", #[], none⟩) (v := .pointer (some ⟨cb, 0, none⟩)) rfl (by decide) (by kernel_rfl) (by kernel_rfl) (by kernel_rfl) (fun _ _ _ h => h) (Or.inl ⟨by rfl, fun w2 hSw => ?_⟩) hS0 (fun hS1 => ?_)
     ·go_simp
     simp only [Act.put, lsA, lsB, lsC]
     clear hS0
     refine wpAnyL_take (i := 1) (oi := ⟨some 13, .move (.tmp 0), 197, "compile.go:87", #[], none⟩) (v := .pointer (some ⟨cb, 0, none⟩)) rfl (by decide) (by kernel_rfl) (by kernel_rfl) (by kernel_rfl) (fun _ _ _ h => h) (Or.inl ⟨by rfl, fun w2 hSw => ?_⟩) hS1 (fun hS2 => ?_)
     ·go_simp
     simp only [Act.put, lsA, lsB, lsC]
     clear hS1
     refine wpAnyL_take (i := 4) (oi := ⟨some 16, .move (.tmp 0), 197, "compile.go:87", #[], none⟩) (v := .pointer (some ⟨cb, 0, none⟩)) rfl (by decide) (by kernel_rfl) (by kernel_rfl) (by kernel_rfl) (fun _ _ _ h => h) (Or.inl ⟨by rfl, fun w2 hSw => ?_⟩) hS2 (fun hS3 => ?_)
     ·go_simp
     simp only [Act.put, lsA, lsB, lsC]
     clear hS2
     refine wpAnyL_take (i := 6) (oi := ⟨some 18, .nilCheck (.tmp 12), 0, "compile.go:87", #[⟨0, .data⟩], none⟩) (v := .pointer (some ⟨cb, 0, none⟩)) rfl (by decide) (by kernel_rfl) (by kernel_rfl) (by kernel_rfl) (fun _ _ _ h => h) (Or.inl ⟨by rfl, fun w2 hSw => ?_⟩) hS3 (fun hS4 => ?_)
     ·go_simp
     simp only [Act.put, lsA, lsB, lsC]
     clear hS3
     refine wpAnyL_take (i := 7) (oi := ⟨some 19, .fieldAddr 118 (.tmp 18) 2, 0, "compile.go:87", #[⟨6, .data⟩], none⟩) (v := .pointer (some ⟨cb, 2, none⟩)) rfl (by decide) (by kernel_rfl) (by kernel_rfl) (by kernel_rfl) (fun _ _ _ h => h) (Or.inl ⟨by rfl, fun w2 hSw => ?_⟩) hS4 (fun hS5 => ?_)
     ·go_simp
     simp only [Act.put, lsA, lsB, lsC]
     clear hS4
     refine wpAnyL_take (i := 8) (oi := ⟨some 20, .fieldAddr 27 (.tmp 19) 2, 0, "compile.go:87", #[⟨7, .data⟩], none⟩) (v := .pointer (some ⟨cb, 4, none⟩)) rfl (by decide) (by kernel_rfl) (by kernel_rfl) (by kernel_rfl) (fun _ _ _ h => h) (Or.inl ⟨by rfl, fun w2 hSw => ?_⟩) hS5 (fun hS6 => ?_)
     ·go_simp
     simp only [Act.put, lsA, lsB, lsC]
     clear hS5
     clear hS6
     refine wpAnyL_one (i := 2) (o := ⟨some 14, .call { callee := Callee.value (.func 112), args := #[.tmp 13], argTypes := #[197] }, 121, "compile.go:87", #[⟨1, .data⟩], none⟩) (by kernel_rfl) rfl (fun K hK => ?_)
     go_simp
     go_wp2_with fail
     refine (HND.out wz HCZ.out).mono ?_
     rintro e w4 ⟨rfl, G4⟩
     go_simp
     refine hK.out _ _ ⟨fun _ => trivial, trivial⟩ ?_
     clear hK K
     refine wpAnyL_take (i := 3) (oi := ⟨some 15, .field 121 (.tmp 14) 1, 28, "compile.go:87", #[⟨2, .data⟩], none⟩) (v := .int .u64 2) rfl (by decide) (by kernel_rfl) (by kernel_rfl) (by kernel_rfl) (fun _ _ _ h => h) (Or.inl ⟨by rfl, fun w2 hSw => ?_⟩) ⟨fun _ => trivial, trivial⟩ (fun hS50 => ?_)
     ·go_simp
     simp only [Act.put, lsA, lsB, lsC]
     clear hS50
     refine wpAnyL_one (i := 5) (o := ⟨some 17, .call { callee := Callee.value (.func 113), args := #[.tmp 16], argTypes := #[197] }, 3, "compile.go:87", #[⟨4, .data⟩, ⟨2, .chain⟩], none⟩) (by kernel_rfl) rfl (fun K hK => ?_)
     go_simp
     go_wp2_with fail
     refine (hereC G4.out.1).mono ?_
     rintro e w5 ⟨rfl, hw5⟩
     subst hw5
     go_simp
     refine hK.out _ _ ⟨fun _ => trivial, trivial⟩ ?_
     clear hK K
     refine wpAnyL_one (i := 9) (o := ⟨some 21, .indexAddr 24 (.tmp 20) (.tmp 15), 0, "compile.go:87", #[⟨8, .data⟩, ⟨3, .data⟩, ⟨0, .phase⟩, ⟨1, .phase⟩, ⟨2, .phase⟩, ⟨3, .phase⟩, ⟨4, .phase⟩, ⟨5, .phase⟩], none⟩) (by kernel_rfl) rfl (fun K hK => ?_)
     go_simp
     go_wp2_with fail
     refine hK.out _ _ ⟨fun _ => trivial, trivial⟩ ?_
     clear hK K
     have c := block_cell G4.out.1.blk (4 + 2)
     have cf := block_free G4.out.1.blk (4 + 2)
     have cl := block_lt G4.out.1.blk
     simp at c
     refine wpAnyL_one (i := 10) (o := ⟨none, .store 3 (.tmp 21) (.tmp 17), 0, "compile.go:87", #[⟨9, .data⟩, ⟨5, .data⟩, ⟨5, .chain⟩, ⟨0, .phase⟩, ⟨1, .phase⟩, ⟨2, .phase⟩, ⟨3, .phase⟩, ⟨4, .phase⟩, ⟨5, .phase⟩], none⟩) (by kernel_rfl) rfl (fun K hK => ?_)
     go_simp
     go_wp2_with fail
     refine hK.out _ _ ⟨fun _ => trivial, trivial⟩ ?_
     clear hK K
     refine wpAnyL_done (by kernel_rfl) ?_ _
     clear HS9
     have G6 := hide (G4.out.1.set (nx' := 2) (es' := enF 2) (j := 4 + 2) (x := .int .i64 0) (by simp [enF]))
     obtain ⟨W6, hW6⟩ : ∃ W6, w5.setCell ⟨cb, 4 + 2, none⟩ (.int .i64 0) = W6 := ⟨_, rfl⟩
     rw [show w5.setCell ⟨cb, 6, none⟩ (.int .i64 0) = W6 from hW6]
     rw [hW6] at G6
     have HB6 : Hid (Below cb w W6) := (HBZ.out.trans G4.out.2).trans G6.out.2
     clear hW6 c cf cl hwz G4 HBZ HJ
     go_wp2_with fail
     refine (HBL.out _ G6.out.1).mono ?_
     rintro e w7 ⟨rfl, G7⟩
     obtain ⟨a7, c7, hc7, hb7⟩ := G7.out
     have HC7 := hide hc7
     have HB7 : Hid (Below cb w w7) := HB6.out.trans hb7
     clear HBL G6 HB6 G7 hc7 hb7
     go_wp2_with fail
     refine (HEM.out _ _ _ HC7.out).mono ?_
     rintro e w8 ⟨rfl, G8⟩
     have HN : Hid (∃ a' c', Cm cb tb 2 kk 4 (enF 2) a' c' [(1, 0), (31, kk), (32, 0)] w8 ∧ Below cb w w8) := by
      obtain ⟨a', c', q1, q2, _⟩ := G8.out
      exact ⟨a', c', q1, HB7.out.trans q2⟩
     clear HEM HC7 HB7 G8
     go_wp2
     go_roundw
     case rel => exact .inr ⟨by go_num, HN.out⟩
     case measure => simp [intOf]
    ·go_upto_region 3 with fail
     obtain ⟨wz, hwz⟩ : ∃ wz, (wr).drew = wz := ⟨_, rfl⟩
     rw [hwz] at HCZ
     have HBZ : Hid (Below cb w wz) := by rw [← hwz]; exact HJ.out.2.trans ((Below.refl _ _).drew.mono (Nat.le_of_lt (block_lt HJ.out.1.blk)))
     have HS9 : Hid ((fun _ => True) wz) := trivial
     refine wp_region_L 99 (fun _ => True) (fun _ => True) (by kernel_rfl) trivial trivial (fun hS0 => ?_)
     rw [hwz] at hS0 ⊢
     refine wpAnyL_take (i := 0) (oi := ⟨some 12, .move (.tmp 0), 197, "compile.go:87", #[], none⟩) (v := .pointer (some ⟨cb, 0, none⟩)) rfl (by decide) (by kernel_rfl) (by kernel_rfl) (by kernel_rfl) (fun _ _ _ h => h) (Or.inl ⟨by rfl, fun w2 hSw => ?_⟩) hS0 (fun hS1 => ?_)
     ·go_simp
     simp only [Act.put, lsA, lsB, lsC]
     clear hS0
     refine wpAnyL_take (i := 1) (oi := ⟨some 13, .move (.tmp 0), 197, "compile.go:87", #[], none⟩) (v := .pointer (some ⟨cb, 0, none⟩)) rfl (by decide) (by kernel_rfl) (by kernel_rfl) (by kernel_rfl) (fun _ _ _ h => h) (Or.inl ⟨by rfl, fun w2 hSw => ?_⟩) hS1 (fun hS2 => ?_)
     ·go_simp
     simp only [Act.put, lsA, lsB, lsC]
     clear hS1
     refine wpAnyL_take (i := 4) (oi := ⟨some 16, .move (.tmp 0), 197, "compile.go:87", #[], none⟩) (v := .pointer (some ⟨cb, 0, none⟩)) rfl (by decide) (by kernel_rfl) (by kernel_rfl) (by kernel_rfl) (fun _ _ _ h => h) (Or.inl ⟨by rfl, fun w2 hSw => ?_⟩) hS2 (fun hS3 => ?_)
     ·go_simp
     simp only [Act.put, lsA, lsB, lsC]
     clear hS2
     refine wpAnyL_take (i := 6) (oi := ⟨some 18, .nilCheck (.tmp 12), 0, "compile.go:87", #[⟨0, .data⟩], none⟩) (v := .pointer (some ⟨cb, 0, none⟩)) rfl (by decide) (by kernel_rfl) (by kernel_rfl) (by kernel_rfl) (fun _ _ _ h => h) (Or.inl ⟨by rfl, fun w2 hSw => ?_⟩) hS3 (fun hS4 => ?_)
     ·go_simp
     simp only [Act.put, lsA, lsB, lsC]
     clear hS3
     refine wpAnyL_take (i := 7) (oi := ⟨some 19, .fieldAddr 118 (.tmp 18) 2, 0, "compile.go:87", #[⟨6, .data⟩], none⟩) (v := .pointer (some ⟨cb, 2, none⟩)) rfl (by decide) (by kernel_rfl) (by kernel_rfl) (by kernel_rfl) (fun _ _ _ h => h) (Or.inl ⟨by rfl, fun w2 hSw => ?_⟩) hS4 (fun hS5 => ?_)
     ·go_simp
     simp only [Act.put, lsA, lsB, lsC]
     clear hS4
     refine wpAnyL_take (i := 8) (oi := ⟨some 20, .fieldAddr 27 (.tmp 19) 2, 0, "compile.go:87", #[⟨7, .data⟩], none⟩) (v := .pointer (some ⟨cb, 4, none⟩)) rfl (by decide) (by kernel_rfl) (by kernel_rfl) (by kernel_rfl) (fun _ _ _ h => h) (Or.inl ⟨by rfl, fun w2 hSw => ?_⟩) hS5 (fun hS6 => ?_)
     ·go_simp
     simp only [Act.put, lsA, lsB, lsC]
     clear hS5
     clear hS6
     refine wpAnyL_one (i := 2) (o := ⟨some 14, .call { callee := Callee.value (.func 112), args := #[.tmp 13], argTypes := #[197] }, 121, "compile.go:87", #[⟨1, .data⟩], none⟩) (by kernel_rfl) rfl (fun K hK => ?_)
     go_simp
     go_wp2_with fail
     refine (HND.out wz HCZ.out).mono ?_
     rintro e w4 ⟨rfl, G4⟩
     go_simp
     refine hK.out _ _ ⟨fun _ => trivial, trivial⟩ ?_
     clear hK K
     refine wpAnyL_take (i := 3) (oi := ⟨some 15, .field 121 (.tmp 14) 1, 28, "compile.go:87", #[⟨2, .data⟩], none⟩) (v := .int .u64 3) rfl (by decide) (by kernel_rfl) (by kernel_rfl) (by kernel_rfl) (fun _ _ _ h => h) (Or.inl ⟨by rfl, fun w2 hSw => ?_⟩) ⟨fun _ => trivial, trivial⟩ (fun hS50 => ?_)
     ·go_simp
     simp only [Act.put, lsA, lsB, lsC]
     clear hS50
     refine wpAnyL_one (i := 5) (o := ⟨some 17, .call { callee := Callee.value (.func 113), args := #[.tmp 16], argTypes := #[197] }, 3, "compile.go:87", #[⟨4, .data⟩, ⟨2, .chain⟩], none⟩) (by kernel_rfl) rfl (fun K hK => ?_)
     go_simp
     go_wp2_with fail
     refine (hereC G4.out.1).mono ?_
     rintro e w5 ⟨rfl, hw5⟩
     subst hw5
     go_simp
     refine hK.out _ _ ⟨fun _ => trivial, trivial⟩ ?_
     clear hK K
     refine wpAnyL_one (i := 9) (o := ⟨some 21, .indexAddr 24 (.tmp 20) (.tmp 15), 0, "compile.go:87", #[⟨8, .data⟩, ⟨3, .data⟩, ⟨0, .phase⟩, ⟨1, .phase⟩, ⟨2, .phase⟩, ⟨3, .phase⟩, ⟨4, .phase⟩, ⟨5, .phase⟩], none⟩) (by kernel_rfl) rfl (fun K hK => ?_)
     go_simp
     go_wp2_with fail
     refine hK.out _ _ ⟨fun _ => trivial, trivial⟩ ?_
     clear hK K
     have c := block_cell G4.out.1.blk (4 + 3)
     have cf := block_free G4.out.1.blk (4 + 3)
     have cl := block_lt G4.out.1.blk
     simp at c
     refine wpAnyL_one (i := 10) (o := ⟨none, .store 3 (.tmp 21) (.tmp 17), 0, "compile.go:87", #[⟨9, .data⟩, ⟨5, .data⟩, ⟨5, .chain⟩, ⟨0, .phase⟩, ⟨1, .phase⟩, ⟨2, .phase⟩, ⟨3, .phase⟩, ⟨4, .phase⟩, ⟨5, .phase⟩], none⟩) (by kernel_rfl) rfl (fun K hK => ?_)
     go_simp
     go_wp2_with fail
     refine hK.out _ _ ⟨fun _ => trivial, trivial⟩ ?_
     clear hK K
     refine wpAnyL_done (by kernel_rfl) ?_ _
     clear HS9
     have G6 := hide (G4.out.1.set (nx' := 2) (es' := enF 3) (j := 4 + 3) (x := .int .i64 0) (by simp [enF]))
     obtain ⟨W6, hW6⟩ : ∃ W6, w5.setCell ⟨cb, 4 + 3, none⟩ (.int .i64 0) = W6 := ⟨_, rfl⟩
     rw [show w5.setCell ⟨cb, 7, none⟩ (.int .i64 0) = W6 from hW6]
     rw [hW6] at G6
     have HB6 : Hid (Below cb w W6) := (HBZ.out.trans G4.out.2).trans G6.out.2
     clear hW6 c cf cl hwz G4 HBZ HJ
     go_wp2_with fail
     refine (HBL.out _ G6.out.1).mono ?_
     rintro e w7 ⟨rfl, G7⟩
     obtain ⟨a7, c7, hc7, hb7⟩ := G7.out
     have HC7 := hide hc7
     have HB7 : Hid (Below cb w w7) := HB6.out.trans hb7
     clear HBL G6 HB6 G7 hc7 hb7
     go_wp2_with fail
     refine (HEM.out _ _ _ HC7.out).mono ?_
     rintro e w8 ⟨rfl, G8⟩
     have HN : Hid (∃ a' c', Cm cb tb 3 kk 4 (enF 3) a' c' [(1, 0), (31, kk), (32, 0)] w8 ∧ Below cb w w8) := by
      obtain ⟨a', c', q1, q2, _⟩ := G8.out
      exact ⟨a', c', q1, HB7.out.trans q2⟩
     clear HEM HC7 HB7 G8
     go_wp2
     go_roundw
     case rel => exact .inr ⟨by go_num, HN.out⟩
     case measure => simp [intOf]
   ·clear HJ0
    go_wp2
    go_end0
    exact ⟨rfl, HJ.out⟩
end
end Go.Proofs.YtggpaljilpbmhaaGreatDoor
