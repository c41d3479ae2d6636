import Derived.Test.YtdbolfnldbopoaaXfE
namespace Go.Proofs.Ytdbolfnldbopoaa
open Go.RowKit

theorem sZ_size : (Try.prog.info? 40).map (·.size) = some sZ.length := by kernel_rfl
theorem fZ_size : (Try.prog.info? 51).map (·.size) = some fZ.length := by kernel_rfl
theorem h32_size : (Try.prog.info? 38).map (·.size) = some h32.length := by kernel_rfl
theorem sZ_one : ∀ v ∈ sZ, v.oneCell' = true := List.all_eq_true.1 rfl
theorem fZ_one : ∀ v ∈ fZ, v.oneCell' = true := List.all_eq_true.1 rfl
theorem sZ_build (w : World) : (Instr.build 40 #[]).run Try.prog w = .ok (.agg sZ.toArray) w := by kernel_rfl
theorem sZ_same (w : World) : (binOp BinOp.neq 40 (.agg sZ.toArray) (.agg sZ.toArray)).run Try.prog w = .ok (.bool false) w := by kernel_rfl
theorem h32_same (w : World) : (binOp BinOp.neq 38 (.agg h32.toArray) (.agg h32.toArray)).run Try.prog w = .ok (.bool false) w := by kernel_rfl
set_option maxRecDepth 10000 in
set_option maxHeartbeats 800000 in
theorem seat_made (g : Nat) (me : Int) (V : World) : Calls Try.prog 34 #[.agg #[.pointer (some ⟨g, 0, none⟩), .int .i64 me]] V fun e w' => e = .returned (.bool true) ∧ Below V.heap.size V w' := by
  have HB : Hid (∀ o, Below V.heap.size V (V.alloc o)) := fun o => (Below.refl _ _).alloc (Nat.le_refl _) o
  go_enter Try.func34, Try.ntmps34
  go_wp2
  go_ret
  exact ⟨rfl, HB.out _⟩
theorem sup_at (g : Nat) (me : Int) : ∀ (j : Nat) (v : Value), sZ[j]? = some v → (supC g me)[2 + j]? = some v := fun j v hv => by
  rw [Nat.add_comm 2 j]
  show (sZ ++ [.slice none 0 0])[j]? = some v
  rw [List.getElem?_append_left (List.getElem?_eq_some_iff.1 hv).1]
  exact hv
theorem fet_at (g : Nat) (me : Int) : ∀ (j : Nat) (v : Value), fZ[j]? = some v → (fetC g me)[2 + j]? = some v := fun j v hv => by
  rw [Nat.add_comm 2 j]
  show (fZ ++ [.nilFunc])[j]? = some v
  rw [List.getElem?_append_left (List.getElem?_eq_some_iff.1 hv).1]
  exact hv
theorem rfet_at (g : Nat) (me : Int) : ∀ (j : Nat) (v : Value), fZ[j]? = some v → (rfetC g me)[2 + j]? = some v := fun j v hv => by
  rw [Nat.add_comm 2 j]
  exact hv
set_option maxRecDepth 10000 in
set_option maxHeartbeats 800000 in
theorem smade {W : World} {p g : Nat} {me : Int} (h : LiesAt W p (supC g me) 61) : Calls Try.prog 19 #[.pointer (some ⟨p, 0, none⟩)] W fun e w' => e = .returned (.bool true) ∧ Below W.heap.size W w' := by
  have q0 : W.cell? ⟨p, 0, none⟩ = some (.pointer (some ⟨g, 0, none⟩)) := block_cell h 0
  have q1 : W.cell? ⟨p, 1, none⟩ = some (.int .i64 me) := block_cell h 1
  have ql : p < W.heap.size := block_lt h
  have HS := hide (seat_made g me)
  clear h
  go_enter Try.func19, Try.ntmps19
  go_wp2_with fail
  refine (HS.out _).mono ?_
  rintro e w2 ⟨rfl, b2⟩
  have B2 := hide b2
  clear b2
  go_wp2
  go_ret
  exact ⟨rfl, B2.out⟩
set_option maxRecDepth 10000 in
set_option maxHeartbeats 800000 in
theorem fmade {W : World} {p g : Nat} {me : Int} (h : LiesAt W p (fetC g me) 77) : Calls Try.prog 23 #[.pointer (some ⟨p, 0, none⟩)] W fun e w' => e = .returned (.bool true) ∧ Below W.heap.size W w' := by
  have q0 : W.cell? ⟨p, 0, none⟩ = some (.pointer (some ⟨g, 0, none⟩)) := block_cell h 0
  have q1 : W.cell? ⟨p, 1, none⟩ = some (.int .i64 me) := block_cell h 1
  have ql : p < W.heap.size := block_lt h
  have HS := hide (seat_made g me)
  clear h
  go_enter Try.func23, Try.ntmps23
  go_wp2_with fail
  refine (HS.out _).mono ?_
  rintro e w2 ⟨rfl, b2⟩
  have B2 := hide b2
  clear b2
  go_wp2
  go_ret
  exact ⟨rfl, B2.out⟩
set_option maxRecDepth 10000 in
set_option maxHeartbeats 800000 in
/-- State of a new supplier. -/
theorem sstate {w : World} {p g : Nat} {me : Int} (h : LiesAt w p (supC g me) 61) : Calls Try.prog 7 #[.pointer (some ⟨p, 0, none⟩)] w fun e w' => e = .returned (.agg sZ.toArray) ∧ Below w.heap.size w w' := by
  have HM : Hid (∀ W, Below w.heap.size w W → Calls Try.prog 19 #[.pointer (some ⟨p, 0, none⟩)] W fun e w' => e = .returned (.bool true) ∧ Below W.heap.size W w') := fun W hb => smade (h.kept hb)
  have HR : Hid (∀ W, Below w.heap.size w W → W.rangeAt p 2 sZ) := fun W hb => rangeX (h.kept hb) 2 sZ (sup_at g me)
  have HSZ := hide sZ_size
  have HONE := hide sZ_one
  have HLN : Hid (sZ.length = 34) := rfl
  have hlt := block_lt h
  clear h
  generalize sZ = cs at *
  go_enter Try.func7, Try.ntmps7
  go_wp2_with fail
  generalize hW : World.alloc w _ = W
  obtain ⟨Z, hZ, hW⟩ : ∃ Z : Array Value, Z.size = 34 ∧ w.alloc (.cells Z 40) = W := ⟨_, by rfl, hW⟩
  have Q0 : Hid (W.heap[w.heap.size]? = some (.cells Z 40 (0, 0))) := by rw [← hW]; exact alloc_atK _ _
  have B0 : Hid (Below w.heap.size w W) := by rw [← hW]; exact (Below.refl _ w).alloc (Nat.le_refl _) _
  have HZ := hide hZ
  clear hW hZ
  refine (HM.out W B0.out).mono ?_
  rintro e w1 ⟨rfl, b1⟩
  have Q1 := hide ((b1.block _ (block_lt Q0.out)).trans Q0.out)
  have B1 := hide (B0.out.trans (b1.mono B0.out.size))
  have R1 := hide (HR.out w1 B1.out)
  have hl1 : p < w1.heap.size := Nat.lt_of_lt_of_le hlt B1.out.size
  clear b1 Q0 B0 HR HM hlt
  go_upto_region 3 with fail
  go_step
  refine wpList_split 3 (fun R HQ => ?_)
  simp only [List.take]
  go_wp2
  refine HQ.out _ _ ?_
  clear HQ
  simp only [List.drop]
  refine wpList_load_mid rfl 40 _ rfl p 2 rfl cs _ R1.out Try.underlying40 rfl HSZ.out ?_
  simp only [Act.put, List.setIfInBounds_toArray, List.set_cons_zero, List.set_cons_succ]
  refine wpList_store_boxX rfl 40 _ _ rfl w.heap.size Q1.out cs rfl rfl (by rw [HLN.out, HZ.out]) HSZ.out HONE.out (fun V gV hV => ?_)
  simp only [Act.put]
  have hld := loadX (P := Try.prog) (ty := 40) (show LiesAt V w.heap.size cs 40 from hV) Try.underlying40 rfl HSZ.out
  have HF := hide (B1.out.grown gV B1.out.size (fun k e => by cases e; exact Nat.le_refl _))
  clear gV hV
  go_wp2
  refine bodyPost_ret (v := .agg cs.toArray) ?_ rfl ⟨rfl, HF.out⟩
  simp [results, Try.results7, asAddr, hld]
set_option maxRecDepth 10000 in
set_option maxHeartbeats 800000 in
/-- State of the reference's new supplier. -/
theorem rsstate {w : World} {p g : Nat} {me : Int} (h : LiesAt w p (rsupC g me) 67) : Calls Try.prog 8 #[.pointer (some ⟨p, 0, none⟩)] w fun e w' => e = .returned (.agg sZ.toArray) ∧ Below w.heap.size w w' := by
  have HBD := hide sZ_build
  have HSZ := hide sZ_size
  have HONE := hide sZ_one
  have HLN : Hid (sZ.length = 34) := rfl
  have hlt := block_lt h
  have HC : Hid (∀ W, Below w.heap.size w W → W.cell? ⟨p, 2, none⟩ = some (.int .u64 0)) := fun W hb => block_cell (h.kept hb) 2
  clear h
  generalize sZ = cs at *
  go_enter Try.func8, Try.ntmps8
  go_upto_region 1 with fail
  generalize hW : World.alloc w _ = W
  obtain ⟨Z, hZ, hW⟩ : ∃ Z : Array Value, Z.size = 34 ∧ w.alloc (.cells Z 40) = W := ⟨_, by rfl, hW⟩
  have Q0 : Hid (W.heap[w.heap.size]? = some (.cells Z 40 (0, 0))) := by rw [← hW]; exact alloc_atK _ _
  have B0 : Hid (Below w.heap.size w W) := by rw [← hW]; exact (Below.refl _ w).alloc (Nat.le_refl _) _
  have HZ := hide hZ
  clear hW hZ
  have hl1 : p < W.heap.size := Nat.lt_of_lt_of_le hlt B0.out.size
  have c2 := HC.out W B0.out
  clear hlt HC
  go_upto_region 2 with fail
  go_step
  refine wpList_pure rfl (exec_build (t := 40) (parts := #[]) rfl (by simpa using HBD.out _)) ?_
  simp only [Act.put, List.setIfInBounds_toArray, List.set_cons_zero, List.set_cons_succ]
  refine wpList_store_boxX rfl 40 _ _ rfl w.heap.size Q0.out cs rfl rfl (by rw [HLN.out, HZ.out]) HSZ.out HONE.out (fun V gV hV => ?_)
  simp only [Act.put]
  have hld := loadX (P := Try.prog) (ty := 40) (show LiesAt V w.heap.size cs 40 from hV) Try.underlying40 rfl HSZ.out
  have HF := hide (B0.out.grown gV B0.out.size (fun k e => by cases e; exact Nat.le_refl _))
  clear gV hV
  go_wp2
  refine bodyPost_ret (v := .agg cs.toArray) ?_ rfl ⟨rfl, HF.out⟩
  simp [results, Try.results8, asAddr, hld]
end Go.Proofs.Ytdbolfnldbopoaa
