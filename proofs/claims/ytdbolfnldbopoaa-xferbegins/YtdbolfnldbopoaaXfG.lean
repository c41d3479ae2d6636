import Derived.Test.YtdbolfnldbopoaaXfF
namespace Go.Proofs.Ytdbolfnldbopoaa
open Go.RowKit

theorem fZ_set : fZ.toArray.setIfInBounds 35 (.slice none 0 0) = fZ.toArray := by rfl
set_option maxRecDepth 10000 in
set_option maxHeartbeats 800000 in
theorem fstate {w : World} {p g : Nat} {me : Int} (h : LiesAt w p (fetC g me) 77) : Calls Try.prog 12 #[.pointer (some ⟨p, 0, none⟩)] w fun e w' => e = .returned (.agg fZ.toArray) ∧ Below w.heap.size w w' := by
  have HM : Hid (∀ W, Below w.heap.size w W → Calls Try.prog 23 #[.pointer (some ⟨p, 0, none⟩)] W fun e w' => e = .returned (.bool true) ∧ Below W.heap.size W w') := fun W hb => fmade (h.kept hb)
  have HR : Hid (∀ W, Below w.heap.size w W → W.rangeAt p 2 fZ) := fun W hb => rangeX (h.kept hb) 2 fZ (fet_at g me)
  have HC : Hid (∀ W, Below w.heap.size w W → W.cell? ⟨p, 37, none⟩ = some (.slice none 0 0)) := fun W hb => block_cell (h.kept hb) 37
  have HSZ := hide fZ_size
  have HONE := hide fZ_one
  have HLN : Hid (fZ.length = 37) := rfl
  have HST := hide fZ_set
  have H35 : Hid (fZ.toArray[35]? = some (.slice none 0 0)) := rfl
  have hlt := block_lt h
  clear h
  generalize fZ = cs at *
  go_enter Try.func12, Try.ntmps12
  go_wp2_with fail
  generalize hW : World.alloc w _ = W
  obtain ⟨Z, hZ, hW⟩ : ∃ Z : Array Value, Z.size = 37 ∧ w.alloc (.cells Z 51) = W := ⟨_, by rfl, hW⟩
  have Q0 : Hid (W.heap[w.heap.size]? = some (.cells Z 51 (0, 0))) := by rw [← hW]; exact alloc_atK _ _
  have B0 : Hid (Below w.heap.size w W) := by rw [← hW]; exact (Below.refl _ w).alloc (Nat.le_refl _) _
  have HZ := hide hZ
  clear hW hZ
  refine (HM.out W B0.out).mono ?_
  rintro e w1 ⟨rfl, b1⟩
  have Q1 := hide ((b1.block _ (block_lt Q0.out)).trans Q0.out)
  have B1 := hide (B0.out.trans (b1.mono B0.out.size))
  clear b1 HM
  have R1 := hide (HR.out w1 B1.out)
  have hl1 : p < w1.heap.size := Nat.lt_of_lt_of_le hlt B1.out.size
  clear HR Q0 B0 hlt
  go_upto_region 3 with fail
  go_step
  refine wpList_split 3 (fun R HQ => ?_)
  simp only [List.take]
  go_wp2
  refine HQ.out _ _ ?_
  clear HQ
  simp only [List.drop]
  refine wpList_load_mid rfl 51 _ rfl p 2 rfl cs _ R1.out Try.underlying51 rfl HSZ.out ?_
  simp only [Act.put, List.setIfInBounds_toArray, List.set_cons_zero, List.set_cons_succ]
  refine wpList_split 1 (fun R HQ => ?_)
  simp only [List.take]
  go_wp2
  refine HQ.out _ _ ?_
  clear HQ
  simp only [List.drop]
  generalize hW2 : World.alloc w1 _ = W2
  obtain ⟨Z2, hZ2, hW2⟩ : ∃ Z : Array Value, Z.size = 37 ∧ w1.alloc (.cells Z 51) = W2 := ⟨_, by rfl, hW2⟩
  have QB : Hid (W2.heap[w1.heap.size]? = some (.cells Z2 51 (0, 0))) := by rw [← hW2]; exact alloc_atK _ _
  have b2 : Below w1.heap.size w1 W2 := by rw [← hW2]; exact (Below.refl _ _).alloc (Nat.le_refl _) _
  have HZ2 := hide hZ2
  clear hW2 hZ2
  have hpb : p < w1.heap.size ∧ w.heap.size < w1.heap.size := ⟨hl1, block_lt Q1.out⟩
  generalize hpbe : w1.heap.size = pb at *
  refine wpList_store_boxX rfl 51 _ _ rfl pb QB.out cs rfl rfl (by rw [HLN.out, HZ2.out]) HSZ.out HONE.out (fun V gV hV => ?_)
  simp only [Act.put]
  have bV : Below pb w1 V := b2.grown gV (by have := b2.size; omega) (fun k e => by cases e; exact Nat.le_refl _)
  have b3 : Below pb w1 (V.setCell ⟨pb, 35, none⟩ (.slice none 0 0)) := bV.setCell (p := ⟨pb, 35, none⟩) (Nat.le_refl _) _
  have k35 : V.cell? ⟨pb, 35, none⟩ = some (.slice none 0 0) := (block_cell hV 35).trans H35.out
  have f35 : V.frozen? ⟨pb, 35, none⟩ = false := block_free hV 35
  have lb : pb < V.heap.size := block_lt hV
  have HB3 : Hid (LiesAt (V.setCell ⟨pb, 35, none⟩ (.slice none 0 0)) pb cs 51) := by
    have h := heap_setCell_same V pb 35 _ _ (.slice none 0 0) hV
    rw [HST.out] at h
    exact h
  have Q3 := hide ((b3.block _ hpb.2).trans Q1.out)
  have B3 := hide (B1.out.trans (b3.mono (Nat.le_of_lt hpb.2)))
  have k37 := HC.out _ B3.out
  have hl3 : p < (V.setCell ⟨pb, 35, none⟩ (.slice none 0 0)).heap.size := by have := b3.size; omega
  have GS : Hid (∀ V', V' = V.setCell ⟨pb, 35, none⟩ (.slice none 0 0) → True) := fun _ _ => trivial
  clear bV b3 gV hV b2 QB Q1 B1 hpbe hpb hl1 HC R1 GS
  go_upto_region 4 with fail
  go_step
  go_wp2_with fail
  generalize V.setCell ⟨pb, 35, none⟩ (.slice none 0 0) = V3 at *
  clear k35 f35 lb
  refine wp_loop_rounds 1 ?_
  rw [rounds_succ]
  go_upto_region 10 with fail
  go_step
  refine wpList_load_mid rfl 51 _ rfl pb 0 rfl cs _ (rangeX HB3.out 0 cs (fun j v hv => by rw [Nat.zero_add]; exact hv)) Try.underlying51 rfl HSZ.out ?_
  simp only [Act.put, List.setIfInBounds_toArray, List.set_cons_zero, List.set_cons_succ]
  refine wpList_store_boxX rfl 51 _ _ rfl w.heap.size Q3.out cs rfl rfl (by rw [HLN.out, HZ.out]) HSZ.out HONE.out (fun V4 gV hV => ?_)
  simp only [Act.put]
  have hld := loadX (P := Try.prog) (ty := 51) (show LiesAt V4 w.heap.size cs 51 from hV) Try.underlying51 rfl HSZ.out
  have HF := hide (B3.out.grown gV B3.out.size (fun k e => by cases e; exact Nat.le_refl _))
  clear gV hV
  go_wp2
  refine bodyPost_ret (v := .agg cs.toArray) ?_ rfl ⟨rfl, HF.out⟩
  simp [results, Try.results12, asAddr, hld]
set_option maxRecDepth 10000 in
set_option maxHeartbeats 800000 in
theorem rfstate {w : World} {p g : Nat} {me : Int} (h : LiesAt w p (rfetC g me) 79) : Calls Try.prog 13 #[.pointer (some ⟨p, 0, none⟩)] w fun e w' => e = .returned (.agg fZ.toArray) ∧ Below w.heap.size w w' := by
  have HR : Hid (∀ W, Below w.heap.size w W → W.rangeAt p 2 fZ) := fun W hb => rangeX (h.kept hb) 2 fZ (rfet_at g me)
  have HC : Hid (∀ W, Below w.heap.size w W → W.cell? ⟨p, 37, none⟩ = some (.slice none 0 0)) := fun W hb => block_cell (h.kept hb) 37
  have HSZ := hide fZ_size
  have HONE := hide fZ_one
  have HLN : Hid (fZ.length = 37) := rfl
  have HST := hide fZ_set
  have H35 : Hid (fZ.toArray[35]? = some (.slice none 0 0)) := rfl
  have hlt := block_lt h
  clear h
  generalize fZ = cs at *
  go_enter Try.func13, Try.ntmps13
  go_upto_region 1 with fail
  generalize hW : World.alloc w _ = W
  obtain ⟨Z, hZ, hW⟩ : ∃ Z : Array Value, Z.size = 37 ∧ w.alloc (.cells Z 51) = W := ⟨_, by rfl, hW⟩
  have Q0 : Hid (W.heap[w.heap.size]? = some (.cells Z 51 (0, 0))) := by rw [← hW]; exact alloc_atK _ _
  have B0 : Hid (Below w.heap.size w W) := by rw [← hW]; exact (Below.refl _ w).alloc (Nat.le_refl _) _
  have HZ := hide hZ
  clear hW hZ
  obtain ⟨w1, hw1⟩ : ∃ w1, W = w1 := ⟨_, rfl⟩
  subst hw1
  have Q1 := Q0
  have B1 := B0
  have R1 := hide (HR.out W B1.out)
  have hl1 : p < W.heap.size := Nat.lt_of_lt_of_le hlt B1.out.size
  clear HR Q0 B0 hlt
  go_upto_region 1 with fail
  go_step
  refine wpList_split 3 (fun R HQ => ?_)
  simp only [List.take]
  go_wp2
  refine HQ.out _ _ ?_
  clear HQ
  simp only [List.drop]
  refine wpList_load_mid rfl 51 _ rfl p 2 rfl cs _ R1.out Try.underlying51 rfl HSZ.out ?_
  simp only [Act.put, List.setIfInBounds_toArray, List.set_cons_zero, List.set_cons_succ]
  refine wpList_split 1 (fun R HQ => ?_)
  simp only [List.take]
  go_wp2
  refine HQ.out _ _ ?_
  clear HQ
  simp only [List.drop]
  generalize hW2 : World.alloc W _ = W2
  obtain ⟨Z2, hZ2, hW2⟩ : ∃ Z : Array Value, Z.size = 37 ∧ W.alloc (.cells Z 51) = W2 := ⟨_, by rfl, hW2⟩
  have QB : Hid (W2.heap[W.heap.size]? = some (.cells Z2 51 (0, 0))) := by rw [← hW2]; exact alloc_atK _ _
  have b2 : Below W.heap.size W W2 := by rw [← hW2]; exact (Below.refl _ _).alloc (Nat.le_refl _) _
  have HZ2 := hide hZ2
  clear hW2 hZ2
  have hpb : p < W.heap.size ∧ w.heap.size < W.heap.size := ⟨hl1, block_lt Q1.out⟩
  generalize hpbe : W.heap.size = pb at *
  refine wpList_store_boxX rfl 51 _ _ rfl pb QB.out cs rfl rfl (by rw [HLN.out, HZ2.out]) HSZ.out HONE.out (fun V gV hV => ?_)
  simp only [Act.put]
  have bV : Below pb W V := b2.grown gV (by have := b2.size; omega) (fun k e => by cases e; exact Nat.le_refl _)
  have b3 : Below pb W (V.setCell ⟨pb, 35, none⟩ (.slice none 0 0)) := bV.setCell (p := ⟨pb, 35, none⟩) (Nat.le_refl _) _
  have k35 : V.cell? ⟨pb, 35, none⟩ = some (.slice none 0 0) := (block_cell hV 35).trans H35.out
  have f35 : V.frozen? ⟨pb, 35, none⟩ = false := block_free hV 35
  have lb : pb < V.heap.size := block_lt hV
  have HB3 : Hid (LiesAt (V.setCell ⟨pb, 35, none⟩ (.slice none 0 0)) pb cs 51) := by
    have h := heap_setCell_same V pb 35 _ _ (.slice none 0 0) hV
    rw [HST.out] at h
    exact h
  have Q3 := hide ((b3.block _ hpb.2).trans Q1.out)
  have B3 := hide (B1.out.trans (b3.mono (Nat.le_of_lt hpb.2)))
  have k37 := HC.out _ B3.out
  have hl3 : p < (V.setCell ⟨pb, 35, none⟩ (.slice none 0 0)).heap.size := by have := b3.size; omega
  have GS : Hid (∀ V', V' = V.setCell ⟨pb, 35, none⟩ (.slice none 0 0) → True) := fun _ _ => trivial
  clear bV b3 gV hV b2 QB Q1 B1 hpbe hpb hl1 HC R1 GS
  go_upto_region 2 with fail
  go_step
  go_wp2_with fail
  generalize V.setCell ⟨pb, 35, none⟩ (.slice none 0 0) = V3 at *
  clear k35 f35 lb
  refine wp_loop_rounds 1 ?_
  rw [rounds_succ]
  go_upto_region 7 with fail
  go_step
  refine wpList_load_mid rfl 51 _ rfl pb 0 rfl cs _ (rangeX HB3.out 0 cs (fun j v hv => by rw [Nat.zero_add]; exact hv)) Try.underlying51 rfl HSZ.out ?_
  simp only [Act.put, List.setIfInBounds_toArray, List.set_cons_zero, List.set_cons_succ]
  refine wpList_store_boxX rfl 51 _ _ rfl w.heap.size Q3.out cs rfl rfl (by rw [HLN.out, HZ.out]) HSZ.out HONE.out (fun V4 gV hV => ?_)
  simp only [Act.put]
  have hld := loadX (P := Try.prog) (ty := 51) (show LiesAt V4 w.heap.size cs 51 from hV) Try.underlying51 rfl HSZ.out
  have HF := hide (B3.out.grown gV B3.out.size (fun k e => by cases e; exact Nat.le_refl _))
  clear gV hV
  go_wp2
  refine bodyPost_ret (v := .agg cs.toArray) ?_ rfl ⟨rfl, HF.out⟩
  simp [results, Try.results13, asAddr, hld]
end Go.Proofs.Ytdbolfnldbopoaa
