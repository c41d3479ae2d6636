import Derived.Test.YtggpaljilpbmhaaGreatDoorW33
import Derived.Test.YtggpaljilpbmhaaGreatDoorW47
namespace Go.Proofs.YtggpaljilpbmhaaGreatDoor
open Go.RowKit

/-- The program of the probe, its nine cells. -/
def prA (ev : Int) (ib ic : Nat) : Array Value := #[.slice none 0 0, .slice none 0 0, .int .i64 (enF ev 0), .int .i64 (enF ev 1), .int .i64 (enF ev 2), .int .i64 (enF ev 3), .int .i64 (enF ev 4), .int .i64 (enF ev 5), .slice (some ⟨ib, 0, none⟩) 3 ic]
set_option maxRecDepth 10000 in
set_option maxHeartbeats 6400000 in
theorem compileC {tb : Nat} {ev kk : Int} {W : World} (h : Pn tb ev kk W) (hev : ev = 0 ∨ ev = 1 ∨ ev = 2 ∨ ev = 3) (h2 : 1 ≤ kk) (h3 : kk ≤ 999) : Calls Tryz.prog 21 #[.slice (some ⟨tb, 0, none⟩) 4 4] W fun e w' => ∃ ib ic, e = .returned (.tuple #[.agg (prA ev ib ic), .nilIface]) ∧ Hid ((ib < w'.heap.size ∧ ∀ i u, (inc [(1, 0), (31, kk), (32, 0)])[i]? = some u → w'.cell? ⟨ib, i, none⟩ = some u) ∧ Below W.heap.size W w') := by
 obtain ⟨W1, hW1⟩ : ∃ W1, W.alloc (.cells #[.slice none 0 0, .slice none 0 0, .int .i64 0, .int .i64 0, .int .i64 0, .int .i64 0, .int .i64 0, .int .i64 0, .slice none 0 0] 27) = W1 := ⟨_, rfl⟩
 have B1 : Below W.heap.size W W1 := by rw [← hW1]; exact below_alloc1 W _
 have A1 : W1.heap[W.heap.size]? = some (.cells #[.slice none 0 0, .slice none 0 0, .int .i64 0, .int .i64 0, .int .i64 0, .int .i64 0, .int .i64 0, .int .i64 0, .slice none 0 0] 27 (0, 0)) := by rw [← hW1]; exact alloc_atK W _
 have HCK := hide (checkC (h.next B1 h.1) (by omega) (by omega) h2 h3)
 have HPN := hide (h.next B1 h.1)
 have HTB := hide h.1
 have HRU : Hid (∀ cb w, Cm cb tb ev kk 0 (fun _ => 0) none 0 [] w → Calls Tryz.prog 53 #[.pointer (some ⟨cb, 0, none⟩)] w fun e w' => e = .returned (.tuple #[]) ∧ Hid (∃ a' c', Cm cb tb ev kk 4 (enF ev) a' c' [(1, 0), (31, kk), (32, 0)] w' ∧ Below cb w w')) := fun cb w hc => rulesC hc hev h2 h3
 have HB1 := hide B1
 have HA1 := hide A1
 have HW1 := hide hW1
 clear h hev h2 h3 B1 A1 hW1
 go_enter Tryz.func21, Tryz.ntmps21
 go_upto_region 1 with fail
 rw [HW1.out]
 clear HW1
 go_wp2_with fail
 refine HCK.out.mono ?_
 rintro e w2 ⟨rfl, G2⟩
 clear HCK
 obtain ⟨W3, hW3⟩ : ∃ W3, w2.alloc (.cells #[.slice (some ⟨tb, 0, none⟩) 4 4, .int .i64 0, .slice none 0 0, .slice none 0 0, .int .i64 0, .int .i64 0, .int .i64 0, .int .i64 0, .int .i64 0, .int .i64 0, .slice none 0 0, .slice none 0 0, .slice none 0 0] 118) = W3 := ⟨_, rfl⟩
 have B3 : Below w2.heap.size w2 W3 := by rw [← hW3]; exact below_alloc1 _ _
 have A3 : W3.heap[w2.heap.size]? = some (.cells #[.slice (some ⟨tb, 0, none⟩) 4 4, .int .i64 0, .slice none 0 0, .slice none 0 0, .int .i64 0, .int .i64 0, .int .i64 0, .int .i64 0, .int .i64 0, .int .i64 0, .slice none 0 0, .slice none 0 0, .slice none 0 0] 118 (0, 0)) := by rw [← hW3]; exact alloc_atK _ _
 have B13 : Below W1.heap.size W1 W3 := G2.out.trans (B3.mono G2.out.size)
 have hlt : tb < w2.heap.size := by have := HTB.out; have := HB1.out.size; have := G2.out.size; omega
 have HC3 : Hid (Cm w2.heap.size tb ev kk 0 (fun _ => 0) none 0 [] W3) := ⟨A3, World.ownsRow_nil _ _ _ _, HPN.out.next B13 (by have := HTB.out; have := HB1.out.size; omega), hlt⟩
 have HB3 : Hid (Below W.heap.size W W3) := HB1.out.trans (B13.mono HB1.out.size)
 have HA3 := hide ((B13.block _ (block_lt HA1.out)).trans HA1.out)
 have HLE : Hid (W.heap.size < w2.heap.size) := by have := block_lt HA1.out; have := G2.out.size; show _ < _; omega
 have HW3 := hide hW3
 clear hW3 B3 A3 B13 G2 HB1 HA1 HPN HTB hlt
 go_upto_region 5 with fail
 rw [HW3.out]
 clear HW3
 generalize w2.heap.size = cb at *
 go_wp2_with fail
 refine (HRU.out _ _ HC3.out).mono ?_
 rintro e w4 ⟨rfl, G4⟩
 obtain ⟨a4, c4, hc4, hb4⟩ := G4.out
 obtain ⟨ib, ei, li, ki, ci, _⟩ := own_at hc4.row (by simp)
 have q2 := block_cell hc4.blk 2
 have q3 := block_cell hc4.blk 3
 have q4 := block_cell hc4.blk 4
 have q5 := block_cell hc4.blk 5
 have q6 := block_cell hc4.blk 6
 have q7 := block_cell hc4.blk 7
 have q8 := block_cell hc4.blk 8
 have q9 := block_cell hc4.blk 9
 have q10 := block_cell hc4.blk 10
 have ql := block_lt hc4.blk
 simp at q2 q3 q4 q5 q6 q7 q8 q9 q10
 rw [ei] at q10
 have r4 := (hb4.block _ HLE.out).trans HA3.out
 have r0 := block_cell r4 0
 have r1 := block_cell r4 1
 have r2 := block_cell r4 2
 have r3 := block_cell r4 3
 have r5 := block_cell r4 5
 have r6 := block_cell r4 6
 have r7 := block_cell r4 7
 have r8 := block_cell r4 8
 have rr := block_cell r4 4
 have f0 := block_free r4 0
 have f1 := block_free r4 1
 have f2 := block_free r4 2
 have f3 := block_free r4 3
 have f4 := block_free r4 4
 have f5 := block_free r4 5
 have f6 := block_free r4 6
 have f7 := block_free r4 7
 have f8 := block_free r4 8
 have rl := block_lt r4
 simp at r0 r1 r2 r3 rr r5 r6 r7 r8
 have HR4 := hide r4
 have HB4 : Hid (Below W.heap.size W w4) := HB3.out.trans (hb4.mono (Nat.le_of_lt HLE.out))
 have HIB : Hid (cb < ib) := by have := (hc4.row.lt ib (by rw [ei]; rfl)).1; show _ < _; omega
 have HCI : Hid (ib < w4.heap.size ∧ ∀ i u, (inc [(1, 0), (31, kk), (32, 0)])[i]? = some u → w4.cell? ⟨ib, i, none⟩ = some u) := ⟨li, ci⟩
 have HR9 := hide (set9_at r4 (.slice none 0 0) (.slice none 0 0) (.int .i64 (enF ev 0)) (.int .i64 (enF ev 1)) (.int .i64 (enF ev 2)) (.int .i64 (enF ev 3)) (.int .i64 (enF ev 4)) (.int .i64 (enF ev 5)) (.slice (some ⟨ib, 0, none⟩) 3 c4))
 have HG9 := hide (set9_grown w4 W.heap.size (.slice none 0 0) (.slice none 0 0) (.int .i64 (enF ev 0)) (.int .i64 (enF ev 1)) (.int .i64 (enF ev 2)) (.int .i64 (enF ev 3)) (.int .i64 (enF ev 4)) (.int .i64 (enF ev 5)) (.slice (some ⟨ib, 0, none⟩) 3 c4))
 have HPA : Hid (prA ev ib c4 = #[.slice none 0 0, .slice none 0 0, .int .i64 (enF ev 0), .int .i64 (enF ev 1), .int .i64 (enF ev 2), .int .i64 (enF ev 3), .int .i64 (enF ev 4), .int .i64 (enF ev 5), .slice (some ⟨ib, 0, none⟩) 3 c4]) := rfl
 clear HRU HC3 HB3 HA3 G4 hc4 hb4 li ki ci r4 ei
 generalize enF ev 0 = e0 at *
 generalize enF ev 1 = e1 at *
 generalize enF ev 2 = e2 at *
 generalize enF ev 3 = e3 at *
 generalize enF ev 4 = e4 at *
 generalize enF ev 5 = e5 at *
 have HF : Hid (∀ wf, set9 w4 W.heap.size (.slice none 0 0) (.slice none 0 0) (.int .i64 e0) (.int .i64 e1) (.int .i64 e2) (.int .i64 e3) (.int .i64 e4) (.int .i64 e5) (.slice (some ⟨ib, 0, none⟩) 3 c4) = wf → (ib < wf.heap.size ∧ ∀ i u, (inc [(1, 0), (31, kk), (32, 0)])[i]? = some u → wf.cell? ⟨ib, i, none⟩ = some u) ∧ Below W.heap.size W wf) := fun wf e => by
  have g := HG9.out
  rw [e] at g
  have hne : ib ≠ W.heap.size := by have := HIB.out; have := HLE.out; omega
  refine ⟨⟨Nat.lt_of_lt_of_le HCI.out.1 g.size, fun i u hu => ?_⟩, HB4.out.grown g HB4.out.size (fun q e => by cases e; exact Nat.le_refl _)⟩
  have hb := g.block ib HCI.out.1 (by simpa using hne)
  have hc := HCI.out.2 i u hu
  simp only [World.cell?, hb] at hc ⊢
  exact hc
 clear HR4 HB4 HIB HCI HLE HG9
 go_wp2
 have hr9 := HR9.out
 have z0 := block_cell hr9 0
 have z1 := block_cell hr9 1
 have z2 := block_cell hr9 2
 have z3 := block_cell hr9 3
 have z4 := block_cell hr9 4
 have z5 := block_cell hr9 5
 have z6 := block_cell hr9 6
 have z7 := block_cell hr9 7
 have z8 := block_cell hr9 8
 unfold set9 at z0 z1 z2 z3 z4 z5 z6 z7 z8
 refine bodyPost_ret (v := .tuple #[.agg #[.slice none 0 0, .slice none 0 0, .int .i64 e0, .int .i64 e1, .int .i64 e2, .int .i64 e3, .int .i64 e4, .int .i64 e5, .slice (some ⟨ib, 0, none⟩) 3 c4], .nilIface]) (by simp [results, Tryz.results21, go_sem, z0, z1, z2, z3, z4, z5, z6, z7, z8]) rfl ?_
 exact ⟨ib, c4, by rw [HPA.out], HF.out _ rfl⟩
/-- The probe's nodes laid. -/
theorem probeC {ev kk : Int} (w : World) (h0 : 0 ≤ ev) (h1 : ev ≤ 5) : Calls Tryz.prog 22 #[.int .i64 ev, .int .u64 kk] w fun e w' => ∃ tb, e = .returned (.slice (some ⟨tb, 0, none⟩) 4 4) ∧ Hid (Pn tb ev kk w' ∧ Below w.heap.size w w') := by
 have hwr : IntKind.u64.wrap ev = ev := by simp [IntKind.wrap, IntKind.bits, IntKind.signed]; omega
 obtain ⟨W1, hW1⟩ : ∃ W1, w.alloc (.cells #[.int .i64 1, .int .u64 1, .string ⟨#[]⟩, .int .i64 2, .int .u64 ev, .string ⟨#[]⟩, .int .i64 3, .int .u64 1, .string ⟨#[]⟩, .int .i64 12, .int .u64 kk, .string ⟨#[]⟩] 121) = W1 := ⟨_, rfl⟩
 have B1 : Below w.heap.size w W1 := by rw [← hW1]; exact below_alloc1 w _
 have A1 : W1.heap[w.heap.size]? = some (.cells #[.int .i64 1, .int .u64 1, .string ⟨#[]⟩, .int .i64 2, .int .u64 ev, .string ⟨#[]⟩, .int .i64 3, .int .u64 1, .string ⟨#[]⟩, .int .i64 12, .int .u64 kk, .string ⟨#[]⟩] 121 (0, 0)) := by rw [← hW1]; exact alloc_atK w _
 have HF : Hid (Pn w.heap.size ev kk W1 ∧ Below w.heap.size w W1) := ⟨⟨block_lt A1, fun i u e => by rw [block_cell A1 i, ← e]; simp [ndc]⟩, B1⟩
 have HW1 := hide hW1
 clear h0 h1 hW1 B1 A1
 go_enter Tryz.func22, Tryz.ntmps22
 go_wp2
 rw [HW1.out]
 go_ret
 exact ⟨_, rfl, HF.out⟩
end Go.Proofs.YtggpaljilpbmhaaGreatDoor
namespace Go.Proofs.YtggpaljilpbmhaaGreatDoor
open Go.RowKit

theorem and3L (f : Int) : ∃ q : Nat, q < 4 ∧ bits BinOp.and IntKind.i64 f 3 = (q : Int) := by
 refine ⟨(BitVec.ofInt 64 f &&& BitVec.ofInt 64 3).toNat, ?_, ?_⟩
 ·rw [BitVec.toNat_and]
  exact Nat.lt_of_le_of_lt Nat.and_le_right (by decide)
 ·have h : (BitVec.ofInt 64 f &&& BitVec.ofInt 64 3).toNat < 4 := by
   rw [BitVec.toNat_and]
   exact Nat.lt_of_le_of_lt Nat.and_le_right (by decide)
  show IntKind.i64.wrap (((BitVec.ofInt 64 f &&& BitVec.ofInt 64 3).toNat : Nat) : Int) = _
  exact IntWalk.i64_in _ ⟨by omega, by omega⟩
/-- The probe's program. -/
def pvP (ev kk : Int) : Pv := ⟨0, 0, 3, fun _ => 0, fun _ => 0, enF ev, fun i => if i = 0 then 1 else if i = 1 then 31 else 32, fun i => if i = 1 then kk else 0⟩
theorem pvP_wf {ev kk : Int} (h2 : 1 ≤ kk) (h3 : kk ≤ 999) : Wf (pvP ev kk) := by
 refine ⟨⟨show 0 ≤ 256 by decide, show 0 ≤ 128 by decide, show 3 ≤ 1024 by decide⟩, fun j hj => absurd hj (Nat.not_lt_zero j), fun e _ => ?_, fun i hi => ?_⟩
 ·show enF ev e = -1 ∨ isPl (enF ev e) 3 = true
  unfold enF
  split
  ·exact .inr rfl
  ·exact .inl rfl
 ·have q : i = 0 ∨ i = 1 ∨ i = 2 := by have : i < 3 := hi; omega
  rcases q with rfl | rfl | rfl
  ·exact ⟨show 0 < 3 by decide, rfl, rfl⟩
  ·refine ⟨show 1 < 3 by decide, rfl, ?_⟩
   show (decide (1 ≤ kk) && decide (kk ≤ 999)) = true
   simp [h2, h3]
  ·exact ⟨show 2 < 3 by decide, rfl, rfl⟩
def kP : Kn := fun i => if i < 2 then some [] else none
theorem pvP_flow {ev kk : Int} (hev : ev = 0 ∨ ev = 1 ∨ ev = 2 ∨ ev = 3) : Flow (pvP ev kk) kP := by
 refine ⟨fun e he h0 => ?_, fun i l hi hk => ?_, fun i l hi hk => ?_⟩
 ·have q : enF ev e = 0 := by
   have h0 : 0 ≤ enF ev e := h0
   unfold enF at h0 ⊢
   split
   ·rfl
   ·rename_i hne; rw [if_neg hne] at h0; omega
  show kP (enF ev e).toNat = some []
  rw [q]
  rfl
 ·have hi2 : i = 0 ∨ i = 1 := by
   unfold kP at hk
   split at hk
   ·omega
   ·cases hk
  rcases hi2 with rfl | rfl
  ·obtain rfl : l = [] := by simpa [kP] using hk.symm
   refine ⟨⟨Nat.le_refl _, rfl, show 0 - 0 + 0 ≤ 64 by decide⟩, fun x hx => ?_⟩
   have e : edgs (pvP ev kk) 0 [] = [(1, [])] := rfl
   rw [e] at hx
   simp at hx
   subst hx
   exact ⟨show 1 < 3 by decide, fun h => absurd h (by decide), rfl⟩
  ·obtain rfl : l = [] := by simpa [kP] using hk.symm
   refine ⟨⟨Nat.le_refl _, rfl, show 0 - 0 + 0 ≤ 64 by decide⟩, fun x hx => ?_⟩
   have e : edgs (pvP ev kk) 1 [] = [] := rfl
   rw [e] at hx
   cases hx
 ·have hi2 : i = 0 ∨ i = 1 := by
   unfold kP at hk
   split at hk
   ·omega
   ·cases hk
  rcases hi2 with rfl | rfl
  ·refine .inl ⟨ev.toNat, by omega, ?_, ?_⟩
   ·show 0 ≤ enF ev ev.toNat
    unfold enF
    rw [if_pos (by omega)]
    exact Int.le_refl _
   ·show (enF ev ev.toNat).toNat = 0
    unfold enF
    rw [if_pos (by omega)]
    rfl
  ·exact .inr ⟨0, [], [], by decide, rfl, by show (1, []) ∈ edgs (pvP ev kk) 0 []; rw [show edgs (pvP ev kk) 0 [] = [(1, [])] from rfl]; simp⟩
theorem pvP_ver {ev kk : Int} (hev : ev = 0 ∨ ev = 1 ∨ ev = 2 ∨ ev = 3) (h2 : 1 ≤ kk) (h3 : kk ≤ 999) : ∃ k, verF (pvP ev kk) = .ok k := by
 obtain ⟨k, h, _⟩ := ver_of (pvP_wf (ev := ev) h2 h3).stat (pvP_flow hev)
 exact ⟨k, h⟩
def eZ : En := ⟨0, 0, 0, 0, 0, 0, 0, false⟩
theorem eZ_ok : eZ.Ok := ⟨fun i hi => by
 match i, hi with
 | 0, _ => exact ⟨Int.le_refl _, by decide⟩
 | 1, _ => exact ⟨Int.le_refl _, by decide⟩
 | 2, _ => exact ⟨Int.le_refl _, by decide⟩
 | 3, _ => exact ⟨Int.le_refl _, by decide⟩
 | 4, _ => exact ⟨Int.le_refl _, by decide⟩
 | 5, _ => exact ⟨Int.le_refl _, by decide⟩
 | 6, _ => exact ⟨Int.le_refl _, by decide⟩⟩
theorem pvP_end {ev kk : Int} (hev : ev = 0 ∨ ev = 1 ∨ ev = 2 ∨ ev = 3) : outA (endS (pvP ev kk) eZ (ldS (pvP ev kk) ev 5)) = #[.int .i64 1, .int .u64 kk, .int .u64 0, .int .u64 0, .int .u64 0, .int .u64 4] := by
 have h0 : ldS (pvP ev kk) ev 5 = mk0 0 5 := by rcases hev with rfl | rfl | rfl | rfl <;> rfl
 rw [h0]
 unfold endS
 obtain ⟨n, hn⟩ : ∃ n, 1200000 = n + 1 + 1 := ⟨1199998, rfl⟩
 rw [hn]
 clear hn h0
 have e1 : ∀ m, runN (pvP ev kk) eZ.ek eZ.ev eZ.x2 (m + 1) (mk0 0 5) = runN (pvP ev kk) eZ.ek eZ.ev eZ.x2 m { mk0 1 5 with left := 4 } := fun m => rfl
 have e2 : ∀ m, runN (pvP ev kk) eZ.ek eZ.ev eZ.x2 (m + 1) { mk0 1 5 with left := 4 } = runN (pvP ev kk) eZ.ek eZ.ev eZ.x2 m ({ mk0 1 4 with fail := kk }.stop 1) := fun m => rfl
 rw [e1, e2, runN_over rfl]
 rfl
end Go.Proofs.YtggpaljilpbmhaaGreatDoor
namespace Go.Proofs.YtggpaljilpbmhaaGreatDoor
open Go.RowKit

/-- The probe's program as it lies. -/
def pgP (ib ic : Nat) : Pg := ⟨none, none, some ⟨ib, 0, none⟩, 0, 0, ic, 0, 0, 0, 0, ib, 0⟩
theorem pgP_ok {ev kk : Int} {ib ic : Nat} {w : World} (h : ib < w.heap.size) (hc : ∀ i u, (inc [(1, 0), (31, kk), (32, 0)])[i]? = some u → w.cell? ⟨ib, i, none⟩ = some u) : (pgP ib ic).Ok (pvP ev kk) w.heap.size w := by
 refine ⟨fun e => absurd e (Nat.lt_irrefl 0), fun e => absurd e (Nat.lt_irrefl 0), fun _ => ⟨rfl, h⟩, fun j hj => absurd hj (Nat.not_lt_zero j), fun j hj => absurd hj (Nat.not_lt_zero j), fun j hj => ?_, fun j hj => ?_, show 0 ≤ _ from Nat.zero_le _, show 0 ≤ _ from Nat.zero_le _, show 3 ≤ 140737488355328 by decide⟩
 ·have q : j = 0 ∨ j = 1 ∨ j = 2 := by have : j < 3 := hj; omega
  rcases q with rfl | rfl | rfl
  ·exact hc 0 _ rfl
  ·exact hc 2 _ rfl
  ·exact hc 4 _ rfl
 ·have q : j = 0 ∨ j = 1 ∨ j = 2 := by have : j < 3 := hj; omega
  rcases q with rfl | rfl | rfl
  ·exact hc 1 _ rfl
  ·exact hc 3 _ rfl
  ·exact hc 5 _ rfl
theorem runP {ev kk : Int} {ib ic : Nat} {w : World} (h : ib < w.heap.size) (hc : ∀ i u, (inc [(1, 0), (31, kk), (32, 0)])[i]? = some u → w.cell? ⟨ib, i, none⟩ = some u) (hT : Tab w) (hev : ev = 0 ∨ ev = 1 ∨ ev = 2 ∨ ev = 3) (h2 : 1 ≤ kk) (h3 : kk ≤ 999) : Calls Tryz.prog 12 #[.agg (prA ev ib ic), .int .i64 ev, .agg #[.int .u64 0, .int .u64 0, .int .u64 0, .int .u64 0, .int .u64 0, .int .u64 0, .int .u64 0, .bool false], .int .u64 5] w fun x w' => x = .returned (.tuple #[.agg #[.int .i64 1, .int .u64 kk, .int .u64 0, .int .u64 0, .int .u64 0, .int .u64 4], .nilIface]) ∧ Hid (Below w.heap.size w w') := by
 obtain ⟨k, hk⟩ := pvP_ver hev h2 h3
 have hr := runC (pgP_ok (ev := ev) (ic := ic) h hc) hT (fun j hj => absurd hj (Nat.not_lt_zero j)) ev eZ_ok (fuel := 5) (by decide)
 refine hr.mono ?_
 intro x w' hh
 rw [hk] at hh
 have hp : isPl ev 6 = true := by rcases hev with rfl | rfl | rfl | rfl <;> rfl
 obtain ⟨rfl, G⟩ := hh.2 hp
 rw [pvP_end hev]
 exact ⟨rfl, G⟩
set_option maxRecDepth 10000 in
set_option maxHeartbeats 3200000 in
theorem livesC {W : World} (hT : Tab W) (event n : Int) (h0 : 0 ≤ n) : Calls Tryz.prog 6 #[.int .i64 event, .int .u64 n] W fun e w' => e = .returned (.bool true) ∧ Hid (Below W.heap.size W w') := by
 obtain ⟨q, hq4, hq⟩ := and3L event
 obtain ⟨ev, hev⟩ : ∃ ev : Int, (q : Int) = ev := ⟨_, rfl⟩
 have HEV : Hid (ev = 0 ∨ ev = 1 ∨ ev = 2 ∨ ev = 3) := by show _ ∨ _; omega
 obtain ⟨r, hr⟩ : ∃ r, Int.tmod n 999 = r := ⟨_, rfl⟩
 have hb : 0 ≤ r ∧ r ≤ 998 := by
  have e : Int.tmod n 999 = n % 999 := Int.tmod_eq_emod_of_nonneg h0
  rw [← hr, e]
  omega
 obtain ⟨kk, hkk⟩ : ∃ kk, IntKind.u64.wrap (1 + r) = kk := ⟨_, rfl⟩
 have HKK : Hid (1 ≤ kk ∧ kk ≤ 999) := by
  have e : IntKind.u64.wrap (1 + r) = 1 + r := by simp [IntKind.wrap, IntKind.bits, IntKind.signed]; omega
  show _ ∧ _
  omega
 rw [hev] at hq
 have HPR := hide (probeC (ev := ev) (kk := kk) W (by have := HEV.out; omega) (by have := HEV.out; omega))
 have HCO : Hid (∀ tb w, Pn tb ev kk w → Calls Tryz.prog 21 #[.slice (some ⟨tb, 0, none⟩) 4 4] w fun e w' => ∃ ib ic, e = .returned (.tuple #[.agg (prA ev ib ic), .nilIface]) ∧ Hid ((ib < w'.heap.size ∧ ∀ i u, (inc [(1, 0), (31, kk), (32, 0)])[i]? = some u → w'.cell? ⟨ib, i, none⟩ = some u) ∧ Below w.heap.size w w')) := fun tb w h => compileC h HEV.out HKK.out.1 HKK.out.2
 have HTB := hide hT
 have hkb : (kk == kk) = true := by simp
 clear hev hb hT h0 hq4
 go_enter Tryz.func6, Tryz.ntmps6
 go_wp2_with fail
 refine HPR.out.mono ?_
 rintro e w1 ⟨tb, rfl, G1⟩
 clear HPR
 go_wp2_with fail
 refine (HCO.out _ _ G1.out.1).mono ?_
 rintro e w2 ⟨ib, ic, rfl, G2⟩
 clear HCO
 obtain ⟨e0, e1, e2, e3, e4, e5, hpa⟩ : ∃ e0 e1 e2 e3 e4 e5, prA ev ib ic = #[.slice none 0 0, .slice none 0 0, .int .i64 e0, .int .i64 e1, .int .i64 e2, .int .i64 e3, .int .i64 e4, .int .i64 e5, .slice (some ⟨ib, 0, none⟩) 3 ic] := ⟨_, _, _, _, _, _, rfl⟩
 rw [hpa]
 obtain ⟨W3, hW3⟩ : ∃ W3, w2.alloc (.cells #[.slice none 0 0, .slice none 0 0, .int .i64 e0, .int .i64 e1, .int .i64 e2, .int .i64 e3, .int .i64 e4, .int .i64 e5, .slice (some ⟨ib, 0, none⟩) 3 ic] 27) = W3 := ⟨_, rfl⟩
 have B3 : Below w2.heap.size w2 W3 := by rw [← hW3]; exact below_alloc1 _ _
 have A3 : W3.heap[w2.heap.size]? = some (.cells #[.slice none 0 0, .slice none 0 0, .int .i64 e0, .int .i64 e1, .int .i64 e2, .int .i64 e3, .int .i64 e4, .int .i64 e5, .slice (some ⟨ib, 0, none⟩) 3 ic] 27 (0, 0)) := by rw [← hW3]; exact alloc_atK _ _
 have BW2 : Below W.heap.size W w2 := G1.out.2.trans (G2.out.2.mono G1.out.2.size)
 have BW3 := BW2.trans (B3.mono BW2.size)
 have HRN := hide (runP (ev := ev) (kk := kk) (ib := ib) (ic := ic) (w := W3) (Nat.lt_of_lt_of_le G2.out.1.1 B3.size) (fun i u e => (B3.cell (p := ⟨ib, i, none⟩) G2.out.1.1).trans (G2.out.1.2 i u e)) (HTB.out.below BW3 HTB.out.z) HEV.out HKK.out.1 HKK.out.2)
 rw [hpa] at HRN
 have c0 := block_cell A3 0
 have c1 := block_cell A3 1
 have c2 := block_cell A3 2
 have c3 := block_cell A3 3
 have c4 := block_cell A3 4
 have c5 := block_cell A3 5
 have c6 := block_cell A3 6
 have c7 := block_cell A3 7
 have c8 := block_cell A3 8
 have cl := block_lt A3
 simp at c0 c1 c2 c3 c4 c5 c6 c7 c8
 have HB3 := hide BW3
 have HW3 := hide hW3
 clear hpa hW3 B3 A3 BW2 BW3 G1 G2 HTB
 go_upto_region 4 with fail
 rw [HW3.out]
 clear HW3
 generalize w2.heap.size = pb at *
 go_wp2_with fail
 refine HRN.out.mono ?_
 rintro e w4 ⟨rfl, G4⟩
 clear HRN c0 c1 c2 c3 c4 c5 c6 c7 c8 cl
 obtain ⟨W5, hW5⟩ : ∃ W5, w4.alloc (.cells #[.int .i64 1, .int .u64 kk, .int .u64 0, .int .u64 0, .int .u64 0, .int .u64 4] 47) = W5 := ⟨_, rfl⟩
 have B5 : Below w4.heap.size w4 W5 := by rw [← hW5]; exact below_alloc1 _ _
 have A5 : W5.heap[w4.heap.size]? = some (.cells #[.int .i64 1, .int .u64 kk, .int .u64 0, .int .u64 0, .int .u64 0, .int .u64 4] 47 (0, 0)) := by rw [← hW5]; exact alloc_atK _ _
 have B34 := HB3.out.trans (G4.out.mono HB3.out.size)
 have HD := hide (B34.trans (B5.mono B34.size))
 have x0 := block_cell A5 0
 have x1 := block_cell A5 1
 have x5 := block_cell A5 5
 have xl := block_lt A5
 simp at x0 x1 x5
 have HW5 := hide hW5
 clear hW5 B5 A5 B34 G4 HB3
 go_upto_region 7 with fail
 rw [HW5.out]
 clear HW5
 generalize w4.heap.size = ob at *
 go_wp2
 go_ret
 exact ⟨rfl, HD⟩
end Go.Proofs.YtggpaljilpbmhaaGreatDoor
