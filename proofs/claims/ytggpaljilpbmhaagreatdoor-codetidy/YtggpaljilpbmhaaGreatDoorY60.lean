import Derived.Test.YtggpaljilpbmhaaGreatDoorY59
import Derived.Test.YtggpaljilpbmhaaGreatDoorY41
namespace Go.Proofs.YtggpaljilpbmhaaGreatDoor
open Go.RowKit

/-- The program of the probe, its nine cells. -/
def prA (ev : Int) (ib ic : Nat) : Array Value := #[.slice none 0 0, .slice none 0 0, .int .i64 (enF ev 0), .int .i64 (enF ev 1), .int .i64 (enF ev 2), .int .i64 (enF ev 3), .int .i64 (enF ev 4), .int .i64 (enF ev 5), .slice (some ⟨ib, 0, none⟩) 3 ic]
set_option maxRecDepth 10000 in
set_option maxHeartbeats 6400000 in
theorem compileC {tb : Nat} {ev kk : Int} {W : World} (h : Pn tb ev kk W) (hev : ev = 0 ∨ ev = 1 ∨ ev = 2 ∨ ev = 3) (h2 : 1 ≤ kk) (h3 : kk ≤ 999) : Calls Tryz.prog 21 #[.slice (some ⟨tb, 0, none⟩) 4 4] W fun e w' => ∃ ib ic, e = .returned (.tuple #[.agg (prA ev ib ic), .nilIface]) ∧ Hid ((ib < w'.heap.size ∧ ∀ i u, (inc [(1, 0), (31, kk), (32, 0)])[i]? = some u → w'.cell? ⟨ib, i, none⟩ = some u) ∧ Below W.heap.size W w') := by
 obtain ⟨W1, hW1⟩ : ∃ W1, W.alloc (.cells #[.slice none 0 0, .slice none 0 0, .int .i64 0, .int .i64 0, .int .i64 0, .int .i64 0, .int .i64 0, .int .i64 0, .slice none 0 0] 27) = W1 := ⟨_, rfl⟩
 have B1 : Below W.heap.size W W1 := by rw [← hW1]; exact below_alloc1 W _
 have A1 : W1.heap[W.heap.size]? = some (.cells #[.slice none 0 0, .slice none 0 0, .int .i64 0, .int .i64 0, .int .i64 0, .int .i64 0, .int .i64 0, .int .i64 0, .slice none 0 0] 27 (0, 0)) := by rw [← hW1]; exact alloc_atK W _
 have HCK := hide (checkC (h.next B1 h.1) (by omega) (by omega) h2 h3)
 have HPN := hide (h.next B1 h.1)
 have HTB := hide h.1
 have HRU : Hid (∀ cb w, Cm cb tb ev kk 0 (fun _ => 0) none 0 [] w → Calls Tryz.prog 53 #[.pointer (some ⟨cb, 0, none⟩)] w fun e w' => e = .returned (.tuple #[]) ∧ Hid (∃ a' c', Cm cb tb ev kk 4 (enF ev) a' c' [(1, 0), (31, kk), (32, 0)] w' ∧ Below cb w w')) := fun cb w hc => rulesC hc hev h2 h3
 have HB1 := hide B1
 have HA1 := hide A1
 have HW1 := hide hW1
 clear h hev h2 h3 B1 A1 hW1
 go_enter Tryz.func21, Tryz.ntmps21
 go_upto_region 1 with fail
 rw [HW1.out]
 clear HW1
 go_wp2_with fail
 refine HCK.out.mono ?_
 rintro e w2 ⟨rfl, G2⟩
 clear HCK
 obtain ⟨W3, hW3⟩ : ∃ W3, w2.alloc (.cells #[.slice (some ⟨tb, 0, none⟩) 4 4, .int .i64 0, .slice none 0 0, .slice none 0 0, .int .i64 0, .int .i64 0, .int .i64 0, .int .i64 0, .int .i64 0, .int .i64 0, .slice none 0 0, .slice none 0 0, .slice none 0 0] 118) = W3 := ⟨_, rfl⟩
 have B3 : Below w2.heap.size w2 W3 := by rw [← hW3]; exact below_alloc1 _ _
 have A3 : W3.heap[w2.heap.size]? = some (.cells #[.slice (some ⟨tb, 0, none⟩) 4 4, .int .i64 0, .slice none 0 0, .slice none 0 0, .int .i64 0, .int .i64 0, .int .i64 0, .int .i64 0, .int .i64 0, .int .i64 0, .slice none 0 0, .slice none 0 0, .slice none 0 0] 118 (0, 0)) := by rw [← hW3]; exact alloc_atK _ _
 have B13 : Below W1.heap.size W1 W3 := G2.out.trans (B3.mono G2.out.size)
 have hlt : tb < w2.heap.size := by have := HTB.out; have := HB1.out.size; have := G2.out.size; omega
 have HC3 : Hid (Cm w2.heap.size tb ev kk 0 (fun _ => 0) none 0 [] W3) := ⟨A3, World.ownsRow_nil _ _ _ _, HPN.out.next B13 (by have := HTB.out; have := HB1.out.size; omega), hlt⟩
 have HB3 : Hid (Below W.heap.size W W3) := HB1.out.trans (B13.mono HB1.out.size)
 have HA3 := hide ((B13.block _ (block_lt HA1.out)).trans HA1.out)
 have HLE : Hid (W.heap.size < w2.heap.size) := by have := block_lt HA1.out; have := G2.out.size; show _ < _; omega
 have HW3 := hide hW3
 clear hW3 B3 A3 B13 G2 HB1 HA1 HPN HTB hlt
 go_upto_region 5 with fail
 rw [HW3.out]
 clear HW3
 generalize w2.heap.size = cb at *
 go_wp2_with fail
 refine (HRU.out _ _ HC3.out).mono ?_
 rintro e w4 ⟨rfl, G4⟩
 obtain ⟨a4, c4, hc4, hb4⟩ := G4.out
 obtain ⟨ib, ei, li, ki, ci, _⟩ := own_at hc4.row (by simp)
 have q2 := block_cell hc4.blk 2
 have q3 := block_cell hc4.blk 3
 have q4 := block_cell hc4.blk 4
 have q5 := block_cell hc4.blk 5
 have q6 := block_cell hc4.blk 6
 have q7 := block_cell hc4.blk 7
 have q8 := block_cell hc4.blk 8
 have q9 := block_cell hc4.blk 9
 have q10 := block_cell hc4.blk 10
 have ql := block_lt hc4.blk
 simp at q2 q3 q4 q5 q6 q7 q8 q9 q10
 rw [ei] at q10
 have r4 := (hb4.block _ HLE.out).trans HA3.out
 have r0 := block_cell r4 0
 have r1 := block_cell r4 1
 have r2 := block_cell r4 2
 have r3 := block_cell r4 3
 have r5 := block_cell r4 5
 have r6 := block_cell r4 6
 have r7 := block_cell r4 7
 have r8 := block_cell r4 8
 have rr := block_cell r4 4
 have f0 := block_free r4 0
 have f1 := block_free r4 1
 have f2 := block_free r4 2
 have f3 := block_free r4 3
 have f4 := block_free r4 4
 have f5 := block_free r4 5
 have f6 := block_free r4 6
 have f7 := block_free r4 7
 have f8 := block_free r4 8
 have rl := block_lt r4
 simp at r0 r1 r2 r3 rr r5 r6 r7 r8
 have HR4 := hide r4
 have HB4 : Hid (Below W.heap.size W w4) := HB3.out.trans (hb4.mono (Nat.le_of_lt HLE.out))
 have HIB : Hid (cb < ib) := by have := (hc4.row.lt ib (by rw [ei]; rfl)).1; show _ < _; omega
 have HCI : Hid (ib < w4.heap.size ∧ ∀ i u, (inc [(1, 0), (31, kk), (32, 0)])[i]? = some u → w4.cell? ⟨ib, i, none⟩ = some u) := ⟨li, ci⟩
 have HR9 := hide (set9_at r4 (.slice none 0 0) (.slice none 0 0) (.int .i64 (enF ev 0)) (.int .i64 (enF ev 1)) (.int .i64 (enF ev 2)) (.int .i64 (enF ev 3)) (.int .i64 (enF ev 4)) (.int .i64 (enF ev 5)) (.slice (some ⟨ib, 0, none⟩) 3 c4))
 have HG9 := hide (set9_grown w4 W.heap.size (.slice none 0 0) (.slice none 0 0) (.int .i64 (enF ev 0)) (.int .i64 (enF ev 1)) (.int .i64 (enF ev 2)) (.int .i64 (enF ev 3)) (.int .i64 (enF ev 4)) (.int .i64 (enF ev 5)) (.slice (some ⟨ib, 0, none⟩) 3 c4))
 have HPA : Hid (prA ev ib c4 = #[.slice none 0 0, .slice none 0 0, .int .i64 (enF ev 0), .int .i64 (enF ev 1), .int .i64 (enF ev 2), .int .i64 (enF ev 3), .int .i64 (enF ev 4), .int .i64 (enF ev 5), .slice (some ⟨ib, 0, none⟩) 3 c4]) := rfl
 clear HRU HC3 HB3 HA3 G4 hc4 hb4 li ki ci r4 ei
 generalize enF ev 0 = e0 at *
 generalize enF ev 1 = e1 at *
 generalize enF ev 2 = e2 at *
 generalize enF ev 3 = e3 at *
 generalize enF ev 4 = e4 at *
 generalize enF ev 5 = e5 at *
 have HF : Hid (∀ wf, set9 w4 W.heap.size (.slice none 0 0) (.slice none 0 0) (.int .i64 e0) (.int .i64 e1) (.int .i64 e2) (.int .i64 e3) (.int .i64 e4) (.int .i64 e5) (.slice (some ⟨ib, 0, none⟩) 3 c4) = wf → (ib < wf.heap.size ∧ ∀ i u, (inc [(1, 0), (31, kk), (32, 0)])[i]? = some u → wf.cell? ⟨ib, i, none⟩ = some u) ∧ Below W.heap.size W wf) := fun wf e => by
  have g := HG9.out
  rw [e] at g
  have hne : ib ≠ W.heap.size := by have := HIB.out; have := HLE.out; omega
  refine ⟨⟨Nat.lt_of_lt_of_le HCI.out.1 g.size, fun i u hu => ?_⟩, HB4.out.grown g HB4.out.size (fun q e => by cases e; exact Nat.le_refl _)⟩
  have hb := g.block ib HCI.out.1 (by simpa using hne)
  have hc := HCI.out.2 i u hu
  simp only [World.cell?, hb] at hc ⊢
  exact hc
 clear HR4 HB4 HIB HCI HLE HG9
 go_wp2
 have hr9 := HR9.out
 have z0 := block_cell hr9 0
 have z1 := block_cell hr9 1
 have z2 := block_cell hr9 2
 have z3 := block_cell hr9 3
 have z4 := block_cell hr9 4
 have z5 := block_cell hr9 5
 have z6 := block_cell hr9 6
 have z7 := block_cell hr9 7
 have z8 := block_cell hr9 8
 unfold set9 at z0 z1 z2 z3 z4 z5 z6 z7 z8
 refine bodyPost_ret (v := .tuple #[.agg #[.slice none 0 0, .slice none 0 0, .int .i64 e0, .int .i64 e1, .int .i64 e2, .int .i64 e3, .int .i64 e4, .int .i64 e5, .slice (some ⟨ib, 0, none⟩) 3 c4], .nilIface]) (by simp [results, Tryz.results21, go_sem, z0, z1, z2, z3, z4, z5, z6, z7, z8]) rfl ?_
 exact ⟨ib, c4, by rw [HPA.out], HF.out _ rfl⟩
/-- The probe's nodes laid. -/
theorem probeC {ev kk : Int} (w : World) (h0 : 0 ≤ ev) (h1 : ev ≤ 5) : Calls Tryz.prog 22 #[.int .i64 ev, .int .u64 kk] w fun e w' => ∃ tb, e = .returned (.slice (some ⟨tb, 0, none⟩) 4 4) ∧ Hid (Pn tb ev kk w' ∧ Below w.heap.size w w') := by
 have hwr : IntKind.u64.wrap ev = ev := by simp [IntKind.wrap, IntKind.bits, IntKind.signed]; omega
 obtain ⟨W1, hW1⟩ : ∃ W1, w.alloc (.cells #[.int .i64 1, .int .u64 1, .string ⟨#[]⟩, .int .i64 2, .int .u64 ev, .string ⟨#[]⟩, .int .i64 3, .int .u64 1, .string ⟨#[]⟩, .int .i64 12, .int .u64 kk, .string ⟨#[]⟩] 121) = W1 := ⟨_, rfl⟩
 have B1 : Below w.heap.size w W1 := by rw [← hW1]; exact below_alloc1 w _
 have A1 : W1.heap[w.heap.size]? = some (.cells #[.int .i64 1, .int .u64 1, .string ⟨#[]⟩, .int .i64 2, .int .u64 ev, .string ⟨#[]⟩, .int .i64 3, .int .u64 1, .string ⟨#[]⟩, .int .i64 12, .int .u64 kk, .string ⟨#[]⟩] 121 (0, 0)) := by rw [← hW1]; exact alloc_atK w _
 have HF : Hid (Pn w.heap.size ev kk W1 ∧ Below w.heap.size w W1) := ⟨⟨block_lt A1, fun i u e => by rw [block_cell A1 i, ← e]; simp [ndc]⟩, B1⟩
 have HW1 := hide hW1
 clear h0 h1 hW1 B1 A1
 go_enter Tryz.func22, Tryz.ntmps22
 go_wp2
 rw [HW1.out]
 go_ret
 exact ⟨_, rfl, HF.out⟩
end Go.Proofs.YtggpaljilpbmhaaGreatDoor
