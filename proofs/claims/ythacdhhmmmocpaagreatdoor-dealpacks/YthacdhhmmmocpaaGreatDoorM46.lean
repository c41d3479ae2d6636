import Derived.Test.YthacdhhmmmocpaaGreatDoorKUnB
import Derived.Test.YthacdhhmmmocpaaGreatDoorM24
import Derived.Test.YthacdhhmmmocpaaGreatDoorM44
import Derived.Deep.RegionHeld
namespace Go.Proofs.YthacdhhmmmocpaaGreatDoor
open Go.RowKit Crc

def RSn (B : List Nat) : RS := ⟨true, 0, 0, B, 0, KR⟩
def un1 (B : List Nat) : RS := (RSn B).step 1 (aheadW (RSn B).rest 1)
def unV (B : List Nat) : Int := ((hi (aheadV (RSn B).rest 1) : Nat) : Int)
/-- What is read of a command's bytes: the command, the refusal's links, its reason. -/
def unA (B : List Nat) : Cd × List Lk × Int :=
  if (un1 B).errC ≠ 0 then (Cd.zero 0, [⟨dealN, (un1 B).errA⟩, ⟨wireN, (un1 B).errA⟩], (un1 B).errC)
  else if ¬ (1 ≤ unV B ∧ unV B ≤ 13) then (Cd.zero 0, [⟨dealN, 0⟩], 100)
  else if (rdAll (unV B) (un1 B)).1.endC ≠ 0 then (Cd.zero 0, [⟨dealN, (rdAll (unV B) (un1 B)).1.endA⟩, ⟨wireN, (rdAll (unV B) (un1 B)).1.endA⟩], (rdAll (unV B) (un1 B)).1.endC)
  else ((rdAll (unV B) (un1 B)).2, [], 0)
def UnP (B : List Nat) (w : World) (e : Ending) (w' : World) : Prop := ∃ v, e = .returned (.tuple #[.agg (unA B).1.cells, v]) ∧ Hid (ErrC w' v (unA B).2.1 (unA B).2.2 ∧ Below w.heap.size w w')

theorem errT_below {w w' : World} (hg : ErrT w) (hb : Below w.heap.size w w') : ErrT w' := (hb.cell (p := ⟨0, 0, none⟩) hg.lt).trans hg

theorem Chain.other {n q : Nat} {W W' : World} (hg : W.grownBy W' (some q)) {k : IntKind} {z : Int} (hq : W.cell? ⟨q, 0, none⟩ = some (.int k z)) : ∀ {L : List Lk} {u : Value} {c : Int}, Chain n W L u c → Chain n W' L u c
  | [], _, _, h => h
  | l :: r, u, c, h => by
    obtain ⟨g, v, e, hlt, h0, h1, h2, h3⟩ := h
    have hne : g ≠ q := fun e => by rw [e, hq] at h0; cases h0
    have hne' : some g ≠ some q := fun e => hne (by cases e; rfl)
    exact ⟨g, v, e, hlt, hg.cell h0 hne', hg.cell h1 hne', hg.cell h2 hne', Chain.other hg hq h3⟩
def st8 (W : World) (q : Nat) (x0 x1 x2 x3 x4 x5 x6 x7 : Value) : World := (((((((W.setCell ⟨q, 0, none⟩ x0).setCell ⟨q, 1, none⟩ x1).setCell ⟨q, 2, none⟩ x2).setCell ⟨q, 3, none⟩ x3).setCell ⟨q, 4, none⟩ x4).setCell ⟨q, 5, none⟩ x5).setCell ⟨q, 6, none⟩ x6).setCell ⟨q, 7, none⟩ x7
theorem st8_grown (W : World) (q : Nat) (x0 x1 x2 x3 x4 x5 x6 x7 : Value) : W.grownBy (st8 W q x0 x1 x2 x3 x4 x5 x6 x7) (some q) :=
  grown_trans (row := some q) (grown_trans (row := some q) (grown_trans (row := some q) (grown_trans (row := some q) (grown_trans (row := some q) (grown_trans (row := some q) (grown_trans (row := some q) (grown_set _ _ _ _) (grown_set _ _ _ _)) (grown_set _ _ _ _)) (grown_set _ _ _ _)) (grown_set _ _ _ _)) (grown_set _ _ _ _)) (grown_set _ _ _ _)) (grown_set _ _ _ _)
theorem un_fin {w W : World} {u : Value} {L : List Lk} {c : Int} (hq : W.heap[w.heap.size]? = some (.cells (Cd.zero 0).cells 25 (0, 0))) (hE : ErrC W u L c) (hb : Below w.heap.size w W) (x0 x1 x2 x3 x4 x5 x6 x7 : Value) : ErrC (st8 W w.heap.size x0 x1 x2 x3 x4 x5 x6 x7) u L c ∧ Below w.heap.size w (st8 W w.heap.size x0 x1 x2 x3 x4 x5 x6 x7) := by
  have g := st8_grown W w.heap.size x0 x1 x2 x3 x4 x5 x6 x7
  have h0 : W.cell? ⟨w.heap.size, 0, none⟩ = some (.int .i64 0) := block_cell hq 0
  refine ⟨hE.imp id (fun ⟨a, b⟩ => ⟨(Chain.other g h0 a).wide g.size, b⟩), hb.grown g hb.size (fun k e => by cases e; exact Nat.le_refl _)⟩

set_option maxRecDepth 10000 in
set_option maxHeartbeats 1600000 in
theorem unpack_any {lim : Nat} {w : World} {ao : Option Addr} {n cap : Nat} {B : List Nat} (hg : ErrT w) (h : Shows lim w ao n cap B) (hlw : lim ≤ w.heap.size) :
    Calls Tryz.prog 9 #[.slice ao n cap] w (UnP B w) := by
  obtain ⟨W0, hW0⟩ : ∃ W0, w.alloc (.cells #[.int .i64 0, .int .u64 0, .int .u64 0, .int .u64 0, .int .u64 0, .int .u64 0, .int .u64 0, .string ⟨#[]⟩] 25) = W0 := ⟨_, rfl⟩
  have s0 : W0.heap.size = w.heap.size + 1 := by rw [← hW0]; simp
  have b0 : Below w.heap.size w W0 := by rw [← hW0]; exact (Below.refl _ w).alloc (Nat.le_refl _) _
  have q0 : W0.heap[w.heap.size]? = some (.cells (Cd.zero 0).cells 25 (0, 0)) := by rw [← hW0]; exact alloc_atK _ _
  have HN := hide (newReader_any (h.kept (below_none b0) (fun k e => by cases e)) (Nat.le_trans hlw b0.size))
  have RES : Hid (∀ W, Below W0.heap.size W0 W → W.heap[w.heap.size]? = some (.cells (Cd.zero 0).cells 25 (0, 0)) ∧ Below w.heap.size w W) := fun W hb => ⟨(hb.block _ (by omega)).trans q0, b0.trans (hb.mono b0.size)⟩
  have HW0 := hide hW0
  have HS0 := hide s0
  have hb256 : ∀ x ∈ (RSn B).rest, x < 256 := fun x hx => h.2.2.2.1 x (List.mem_of_mem_drop hx)
  have hv256 := hi_take_lt (k := 1) hb256
  have HG := hide hg
  have U1 : Hid ((un1 B).errC ≠ 0 → unA B = (Cd.zero 0, [⟨dealN, (un1 B).errA⟩, ⟨wireN, (un1 B).errA⟩], (un1 B).errC)) := fun h => by unfold unA; rw [if_pos h]
  have U2 : Hid ((un1 B).errC = 0 → ¬ (1 ≤ unV B ∧ unV B ≤ 13) → unA B = (Cd.zero 0, [⟨dealN, 0⟩], 100)) := fun h h2 => by unfold unA; rw [if_neg (fun e => e h), if_pos h2]
  have U3 : Hid ((un1 B).errC = 0 → 1 ≤ unV B ∧ unV B ≤ 13 → (rdAll (unV B) (un1 B)).1.endC ≠ 0 → unA B = (Cd.zero 0, [⟨dealN, (rdAll (unV B) (un1 B)).1.endA⟩, ⟨wireN, (rdAll (unV B) (un1 B)).1.endA⟩], (rdAll (unV B) (un1 B)).1.endC)) := fun h h2 h3 => by unfold unA; rw [if_neg (fun e => e h), if_neg (fun e => e h2), if_pos h3]
  have U4 : Hid ((un1 B).errC = 0 → 1 ≤ unV B ∧ unV B ≤ 13 → (rdAll (unV B) (un1 B)).1.endC = 0 → unA B = ((rdAll (unV B) (un1 B)).2, [], 0)) := fun h h2 h3 => by unfold unA; rw [if_neg (fun e => e h), if_neg (fun e => e h2), if_neg (fun e => e h3)]
  have HPL : Hid ((un1 B).sound → (un1 B).place = 0) := RS.step_place (s := RSn B) (fun _ => rfl) 1 _
  have HUV : Hid (unV B = ((hi (aheadV (RSn B).rest 1) : Nat) : Int)) := rfl
  have HU1 : Hid (un1 B = (RSn B).step 1 (aheadW (RSn B).rest 1)) := rfl
  clear h hb256 hg hW0 s0 b0 q0
  go_enter Tryz.func9, Tryz.ntmps9
  go_wp2_with fail
  rw [HW0.out]
  refine HN.out.mono ?_
  rintro e w1 ⟨p, lm, rfl, hp, hlm, hR, hb1⟩
  have B1 := hide hb1
  have H8 := hide (rU8P (s := RSn B) (lim := lm) (po := some ⟨p, 0, none⟩) (.inr ⟨p, rfl, hR⟩))
  have hlp : lm ≤ p := by obtain ⟨_, _, _, _, _, h⟩ := hR; exact h
  have hpw : p < w1.heap.size := by obtain ⟨_, _, h, _⟩ := hR; exact block_lt h
  clear hR hb1 HN
  go_wp2_with fail
  refine H8.out.mono ?_
  rintro e w2 ⟨rfl, hR2, hg2⟩
  have hg2 : w1.grownBy w2 (some p) := hg2
  have B2 := hide (B1.out.grown hg2 B1.out.size (fun k e => by cases e; exact hp))
  have hR2 : RdP lm w2 (some ⟨p, 0, none⟩) (un1 B) := hR2
  have HER := hide (rErrP hR2 HPL.out)
  have HR2 := hide hR2
  have hpw2 : p < w2.heap.size := Nat.lt_of_lt_of_le hpw hg2.size
  clear hR2 hg2 H8 hpw B1
  generalize hi (aheadV (RSn B).rest 1) = vv at *
  generalize unV B = uv at *
  obtain rfl := HUV.out
  have HV := hide (isVerb_any (vv : Int))
  go_wp2_with fail
  refine HER.out.mono ?_
  rintro e w3 ⟨v3, rfl, hv3, hb3⟩
  have B3 := hide (B2.out.trans (hb3.mono B2.out.size))
  have HR3 := hide (HR2.out.kept (below_none hb3) (fun k e => by cases e))
  have hpw3 : p < w3.heap.size := Nat.lt_of_lt_of_le hpw2 hb3.size
  clear HER HR2 hb3 hpw2
  generalize un1 B = s1 at *
  rcases hv3 with ⟨rfl, hc, -⟩ | ⟨hf, hc⟩
  · by_cases hvb : 1 ≤ (vv : Int) ∧ (vv : Int) ≤ 13
    · have hV := HV.out
      rw [decide_eq_true hvb] at hV
      have HV := hide hV
      have HRF := hide (readFields_any (vv : Int) hvb.1 hvb.2 HR3.out hlp hpw3 HPL.out)
      have UA := hide (U3.out hc hvb)
      have UB := hide (U4.out hc hvb)
      clear hV U1 U2 U3 U4 hc
      generalize rdAll (vv : Int) s1 = ra at *
      obtain ⟨ss, cc⟩ := ra
      clear hvb
      go_wp2_with fail
      refine (HV.out _).mono ?_
      rintro e w4 ⟨rfl, hw4⟩
      rw [hw4]
      clear hw4
      go_wp2_with fail
      refine HRF.out.mono ?_
      rintro e w4 ⟨rfl, G4⟩
      obtain ⟨c0, c1, c2, c3, c4, c5, c6, c7⟩ := cc
      have EQ : (Cd.mk c0 c1 c2 c3 c4 c5 c6 c7).cells = #[.int .i64 c0, .int .u64 (c1 : Int), .int .u64 (c2 : Int), .int .u64 (c3 : Int), .int .u64 (c4 : Int), .int .u64 (c5 : Int), .int .u64 (c6 : Int), .string c7] := rfl
      simp only [EQ]
      have HEQ := hide EQ
      clear EQ
      have B4 := hide (B3.out.grown G4.out.2.1 B3.out.size (fun k e => by cases e; exact hp))
      obtain ⟨W4, hW4⟩ : ∃ W4, w4.alloc (.cells #[.int .i64 c0, .int .u64 (c1 : Int), .int .u64 (c2 : Int), .int .u64 (c3 : Int), .int .u64 (c4 : Int), .int .u64 (c5 : Int), .int .u64 (c6 : Int), .string c7] 25) = W4 := ⟨_, rfl⟩
      have qc : W4.heap[w4.heap.size]? = some (.cells #[.int .i64 c0, .int .u64 (c1 : Int), .int .u64 (c2 : Int), .int .u64 (c3 : Int), .int .u64 (c4 : Int), .int .u64 (c5 : Int), .int .u64 (c6 : Int), .string c7] 25 (0, 0)) := by rw [← hW4]; exact alloc_atK _ _
      have bc : Below w4.heap.size w4 W4 := by rw [← hW4]; exact (Below.refl _ w4).alloc (Nat.le_refl _) _
      have HW4 := hide hW4
      have HEN := hide (rEndP (G4.out.1.kept (below_none bc) (fun k e => by cases e)) G4.out.2.2)
      have B5 := hide (B4.out.trans (bc.mono B4.out.size))
      have QC := hide qc
      clear G4 HRF HR3 hW4 qc bc
      go_wp2_with fail
      rw [HW4.out]
      refine HEN.out.mono ?_
      rintro e w5 ⟨v5, rfl, hv5, hb5⟩
      have QC := hide ((hb5.block _ (block_lt QC.out)).trans QC.out)
      have B5 := hide (B5.out.trans (hb5.mono B5.out.size))
      clear HEN hb5
      rcases hv5 with ⟨rfl, hc, -⟩ | ⟨hf, hc⟩
      · have HU := hide (UB.out hc)
        clear UA UB hc
        have HC := hide (RES.out _ B5.out).1
        have BB := hide (RES.out _ B5.out).2
        have EE : Hid (ErrC w5 .nilIface [] 0) := .inl ⟨rfl, rfl, rfl⟩
        have y0 := block_cell QC.out 0
        have y1 := block_cell QC.out 1
        have y2 := block_cell QC.out 2
        have y3 := block_cell QC.out 3
        have y4 := block_cell QC.out 4
        have y5 := block_cell QC.out 5
        have y6 := block_cell QC.out 6
        have y7 := block_cell QC.out 7
        simp at y0 y1 y2 y3 y4 y5 y6 y7
        have z0 := block_cell HC.out 0
        have f0 := block_free HC.out 0
        have z1 := block_cell HC.out 1
        have f1 := block_free HC.out 1
        have z2 := block_cell HC.out 2
        have f2 := block_free HC.out 2
        have z3 := block_cell HC.out 3
        have f3 := block_free HC.out 3
        have z4 := block_cell HC.out 4
        have f4 := block_free HC.out 4
        have z5 := block_cell HC.out 5
        have f5 := block_free HC.out 5
        have z6 := block_cell HC.out 6
        have f6 := block_free HC.out 6
        have z7 := block_cell HC.out 7
        have f7 := block_free HC.out 7
        simp [Cd.cells, Cd.zero] at z0 z1 z2 z3 z4 z5 z6 z7
        go_wp2
        refine bodyPost_ret (v := .tuple #[.agg #[.int .i64 c0, .int .u64 (c1 : Int), .int .u64 (c2 : Int), .int .u64 (c3 : Int), .int .u64 (c4 : Int), .int .u64 (c5 : Int), .int .u64 (c6 : Int), .string c7], .nilIface]) (by simp [results, Tryz.results9, go_sem, z0, z1, z2, z3, z4, z5, z6, z7]) rfl ?_
        unfold UnP
        rw [HU.out]
        exact ⟨_, rfl, un_fin HC.out EE.out BB.out _ _ _ _ _ _ _ _⟩
      · have HBH := hide (behind_any (errT_below HG.out (RES.out _ B5.out).2) hf)
        have HU := hide (UA.out hc)
        have HCN := hide hc
        obtain ⟨gf, rfl, -⟩ := hf
        clear UA UB hc
        go_wp2_with fail
        refine HBH.out.mono ?_
        rintro e w6 ⟨g4, rfl, G4⟩
        have B6 := hide (B5.out.trans (G4.out.2.mono B5.out.size))
        have HC := hide (RES.out _ B6.out).1
        have BB := hide (RES.out _ B6.out).2
        have EE : Hid (ErrC w6 (.iface 87 (.pointer (some ⟨g4, 0, none⟩))) [⟨dealN, ss.endA⟩, ⟨wireN, ss.endA⟩] ss.endC) := .inr ⟨G4.out.1, by simp, by simp, HCN.out⟩
        have z0 := block_cell HC.out 0
        have f0 := block_free HC.out 0
        have z1 := block_cell HC.out 1
        have f1 := block_free HC.out 1
        have z2 := block_cell HC.out 2
        have f2 := block_free HC.out 2
        have z3 := block_cell HC.out 3
        have f3 := block_free HC.out 3
        have z4 := block_cell HC.out 4
        have f4 := block_free HC.out 4
        have z5 := block_cell HC.out 5
        have f5 := block_free HC.out 5
        have z6 := block_cell HC.out 6
        have f6 := block_free HC.out 6
        have z7 := block_cell HC.out 7
        have f7 := block_free HC.out 7
        simp [Cd.cells, Cd.zero] at z0 z1 z2 z3 z4 z5 z6 z7
        go_wp2
        refine bodyPost_ret (v := .tuple #[.agg #[.int .i64 0, .int .u64 0, .int .u64 0, .int .u64 0, .int .u64 0, .int .u64 0, .int .u64 0, .string ⟨#[]⟩], .iface 87 (.pointer (some ⟨g4, 0, none⟩))]) (by simp [results, Tryz.results9, go_sem, z0, z1, z2, z3, z4, z5, z6, z7]) rfl ?_
        unfold UnP
        rw [HU.out]
        exact ⟨_, rfl, un_fin HC.out EE.out BB.out _ _ _ _ _ _ _ _⟩
    · have hV := HV.out
      rw [decide_eq_false hvb] at hV
      have HV := hide hV
      have HU := hide (U2.out hc hvb)
      clear hV U1 U2 U3 U4 hc hvb
      go_wp2_with fail
      refine (HV.out _).mono ?_
      rintro e w4 ⟨rfl, hw4⟩
      rw [hw4]
      clear hw4
      go_wp2_with fail
      refine (refusalD 0 (chain_end _ 100)).mono ?_
      rintro e w4 ⟨g4, rfl, G4⟩
      have B4 := hide (B3.out.trans (G4.out.2.mono B3.out.size))
      have HC := hide (RES.out _ B4.out).1
      have BB := hide (RES.out _ B4.out).2
      have EE : Hid (ErrC w4 (.iface 87 (.pointer (some ⟨g4, 0, none⟩))) [⟨dealN, 0⟩] 100) := .inr ⟨G4.out.1, by simp, by simp, by simp⟩
      have z0 := block_cell HC.out 0
      have f0 := block_free HC.out 0
      have z1 := block_cell HC.out 1
      have f1 := block_free HC.out 1
      have z2 := block_cell HC.out 2
      have f2 := block_free HC.out 2
      have z3 := block_cell HC.out 3
      have f3 := block_free HC.out 3
      have z4 := block_cell HC.out 4
      have f4 := block_free HC.out 4
      have z5 := block_cell HC.out 5
      have f5 := block_free HC.out 5
      have z6 := block_cell HC.out 6
      have f6 := block_free HC.out 6
      have z7 := block_cell HC.out 7
      have f7 := block_free HC.out 7
      simp [Cd.cells, Cd.zero] at z0 z1 z2 z3 z4 z5 z6 z7
      go_wp2
      refine bodyPost_ret (v := .tuple #[.agg #[.int .i64 0, .int .u64 0, .int .u64 0, .int .u64 0, .int .u64 0, .int .u64 0, .int .u64 0, .string ⟨#[]⟩], .iface 87 (.pointer (some ⟨g4, 0, none⟩))]) (by simp [results, Tryz.results9, go_sem, z0, z1, z2, z3, z4, z5, z6, z7]) rfl ?_
      unfold UnP
      rw [HU.out]
      exact ⟨_, rfl, un_fin HC.out EE.out BB.out _ _ _ _ _ _ _ _⟩
  · have HBH := hide (behind_any (errT_below HG.out (RES.out _ B3.out).2) hf)
    have HU := hide (U1.out hc)
    have HCN := hide hc
    obtain ⟨gf, rfl, -⟩ := hf
    clear U1 U2 U3 U4 hc
    go_wp2_with fail
    refine HBH.out.mono ?_
    rintro e w4 ⟨g4, rfl, G4⟩
    have B4 := hide (B3.out.trans (G4.out.2.mono B3.out.size))
    have HC := hide (RES.out _ B4.out).1
    have BB := hide (RES.out _ B4.out).2
    have EE : Hid (ErrC w4 (.iface 87 (.pointer (some ⟨g4, 0, none⟩))) [⟨dealN, s1.errA⟩, ⟨wireN, s1.errA⟩] s1.errC) := .inr ⟨G4.out.1, by simp, by simp, HCN.out⟩
    have z0 := block_cell HC.out 0
    have f0 := block_free HC.out 0
    have z1 := block_cell HC.out 1
    have f1 := block_free HC.out 1
    have z2 := block_cell HC.out 2
    have f2 := block_free HC.out 2
    have z3 := block_cell HC.out 3
    have f3 := block_free HC.out 3
    have z4 := block_cell HC.out 4
    have f4 := block_free HC.out 4
    have z5 := block_cell HC.out 5
    have f5 := block_free HC.out 5
    have z6 := block_cell HC.out 6
    have f6 := block_free HC.out 6
    have z7 := block_cell HC.out 7
    have f7 := block_free HC.out 7
    simp [Cd.cells, Cd.zero] at z0 z1 z2 z3 z4 z5 z6 z7
    go_wp2
    refine bodyPost_ret (v := .tuple #[.agg #[.int .i64 0, .int .u64 0, .int .u64 0, .int .u64 0, .int .u64 0, .int .u64 0, .int .u64 0, .string ⟨#[]⟩], .iface 87 (.pointer (some ⟨g4, 0, none⟩))]) (by simp [results, Tryz.results9, go_sem, z0, z1, z2, z3, z4, z5, z6, z7]) rfl ?_
    unfold UnP
    rw [HU.out]
    exact ⟨_, rfl, un_fin HC.out EE.out BB.out _ _ _ _ _ _ _ _⟩
end Go.Proofs.YthacdhhmmmocpaaGreatDoor
namespace Go.Proofs.YthacdhhmmmocpaaGreatDoor
open Go.RowKit Crc

theorem Pair.alloc {base limr d pv : Nat} {po : Option Addr} {w : World} {s : RS} (h : Pair base limr d pv po w s) (o : Obj) : Pair base limr d pv po (w.alloc o) s ∧ Keep base w (w.alloc o) := h.quiet (World.grownBy_alloc w o none) (fun g e => by cases e)
theorem Pair.below {base limr d pv : Nat} {po : Option Addr} {w w' : World} {s : RS} (h : Pair base limr d pv po w s) (hb : Below w.heap.size w w') : Pair base limr d pv po w' s ∧ Keep base w w' := h.quiet (below_none hb) (fun g e => by cases e)
theorem Pair.drewN {base limr d pv : Nat} {po : Option Addr} {w : World} {s : RS} (h : Pair base limr d pv po w s) (q : Nat) : Pair base limr d pv po (w.drewN q) s ∧ Keep base w (w.drewN q) := h.quiet (drew_grown w q) (fun g e => by cases e)

end Go.Proofs.YthacdhhmmmocpaaGreatDoor
