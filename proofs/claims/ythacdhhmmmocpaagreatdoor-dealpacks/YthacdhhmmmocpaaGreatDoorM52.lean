import Derived.Test.YthacdhhmmmocpaaGreatDoorM51
import Derived.Test.YthacdhhmmmocpaaGreatDoorM5
import Derived.Test.YthacdhhmmmocpaaGreatDoorPView
import Derived.Test.YthacdhhmmmocpaaGreatDoorRows
import Derived.ProofKit
import Derived.OpenShut
import Derived.ChangeOld
import Derived.Below
import Derived.SizedLaws
import Derived.Deep.Slices
namespace Go.Proofs.YthacdhhmmmocpaaGreatDoor
open Go.RowKit Crc

set_option maxRecDepth 10000 in
set_option maxHeartbeats 400000 in
/-- Is there a refusal? (Its links are there just when its reason is.) -/
theorem any0 (ao : Option Addr) (n cap : Nat) (c : Int) (hn : c = 0 → n = 0) (w : World) : Calls Tryz.prog 8 #[.agg #[.slice ao n cap, .int .i64 c]] w fun e w' => e = .returned (.bool (c != 0)) ∧ Hid (Below w.heap.size w w') := by
  have b1 : Hid (∀ o, Below w.heap.size w (w.alloc o)) := fun o => (Below.refl _ w).alloc (Nat.le_refl _) o
  by_cases hc : c = 0
  · obtain rfl := hn hc
    subst hc
    clear hn
    go_enter Tryz.func8, Tryz.ntmps8
    go_wp2
    go_ret
    exact ⟨rfl, b1.out _⟩
  · have hd : (c != 0) = true := by simp [hc]
    clear hn hc
    rw [hd]
    go_enter Tryz.func8, Tryz.ntmps8
    go_wp2
    go_ret
    exact ⟨rfl, b1.out _⟩
theorem Chain.otherS {n q : Nat} {W W' : World} (hg : W.grownBy W' (some q)) {o : Option Addr} {k m : Nat} (hq : W.cell? ⟨q, 0, none⟩ = some (.slice o k m)) : ∀ {L : List Lk} {u : Value} {c : Int}, Chain n W L u c → Chain n W' L u c
  | [], _, _, h => h
  | l :: r, u, c, h => by
    obtain ⟨g, v, e, hlt, h0, h1, h2, h3⟩ := h
    have hne : g ≠ q := fun e => by rw [e, hq] at h0; cases h0
    have hne' : some g ≠ some q := fun e => hne (by cases e; rfl)
    exact ⟨g, v, e, hlt, hg.cell h0 hne', hg.cell h1 hne', hg.cell h2 hne', Chain.otherS hg hq h3⟩
set_option maxRecDepth 10000 in
set_option maxHeartbeats 4000000 in
theorem dp_walk (c : Cd) (hc : c.Ok) {lim : Nat} {w : World} {ao : Option Addr} {n cap : Nat} {B : List Nat} (hg : ErrT w) (h : Shows lim w ao n cap B) (hlw : lim ≤ w.heap.size) :
    Calls Tryz.prog 3 #[.agg c.cells, .slice ao n cap] w fun e w' => e = .returned (.bool true) ∧ Below w.heap.size w w' := by
  have HP : Hid (∀ W, Calls Tryz.prog 4 #[.agg c.cells] W (PackP c W)) := fun W => pack_any c hc W
  have HQ : Hid (∀ W, Calls Tryz.prog 5 #[.agg c.cells] W (RpP W c.pkB c.pkL c.pkC)) := fun W => rpack_any c hc W
  unfold PackP at HP
  unfold RpP at HQ
  have HC := hide hc
  have HG := hide hg
  have HS : Hid (Shows w.heap.size w ao n cap B) := by
    obtain ⟨p1, p2, p3, p4, b, off, p5, p6, p7⟩ := h
    exact ⟨p1, p2, p3, p4, b, off, p5, fun e => Nat.lt_of_lt_of_le (p6 e) hlw, p7⟩
  obtain ⟨W0, hW0⟩ : ∃ W0, w.alloc (.cells #[.int .i64 c.verb, .int .u64 (c.deal : Int), .int .u64 (c.acct : Int), .int .u64 (c.to_ : Int), .int .u64 (c.arb : Int), .int .u64 (c.amt : Int), .int .u64 (c.due : Int), .string c.terms] 25) = W0 := ⟨_, rfl⟩
  have s0 : W0.heap.size = w.heap.size + 1 := by rw [← hW0]; simp
  have b0 : Below w.heap.size w W0 := by rw [← hW0]; exact (Below.refl _ w).alloc (Nat.le_refl _) _
  have q0 : W0.heap[w.heap.size]? = some (.cells #[.int .i64 c.verb, .int .u64 (c.deal : Int), .int .u64 (c.acct : Int), .int .u64 (c.to_ : Int), .int .u64 (c.arb : Int), .int .u64 (c.amt : Int), .int .u64 (c.due : Int), .string c.terms] 25 (0, 0)) := by rw [← hW0]; exact alloc_atK _ _
  have RES : Hid (∀ W, Below W0.heap.size W0 W → W.cell? ⟨w.heap.size, 0, none⟩ = some (.int .i64 c.verb) ∧ W.cell? ⟨w.heap.size, 1, none⟩ = some (.int .u64 (c.deal : Int)) ∧ W.cell? ⟨w.heap.size, 2, none⟩ = some (.int .u64 (c.acct : Int)) ∧ W.cell? ⟨w.heap.size, 3, none⟩ = some (.int .u64 (c.to_ : Int)) ∧ W.cell? ⟨w.heap.size, 4, none⟩ = some (.int .u64 (c.arb : Int)) ∧ W.cell? ⟨w.heap.size, 5, none⟩ = some (.int .u64 (c.amt : Int)) ∧ W.cell? ⟨w.heap.size, 6, none⟩ = some (.int .u64 (c.due : Int)) ∧ W.cell? ⟨w.heap.size, 7, none⟩ = some (.string c.terms)) := fun W hb => by
    have q := (hb.block _ (by omega)).trans q0
    exact ⟨(block_cell q 0).trans rfl, (block_cell q 1).trans rfl, (block_cell q 2).trans rfl, (block_cell q 3).trans rfl, (block_cell q 4).trans rfl, (block_cell q 5).trans rfl, (block_cell q 6).trans rfl, (block_cell q 7).trans rfl⟩
  have B0 : Hid (∀ W, Below W0.heap.size W0 W → Below w.heap.size w W) := fun W hb => b0.trans (hb.mono b0.size)
  have HW0 := hide hW0
  have HS0 := hide s0
  clear hc hg h hW0 s0 b0 q0
  unfold Cd.cells at *
  go_enter Tryz.func3, Tryz.ntmps3
  go_wp2_with fail
  rw [HW0.out]
  refine (HP.out _).mono ?_
  rintro e w1 ⟨v1, x1, rfl, G1⟩
  have B1 := hide G1.out.2.2
  have O1 := hide G1.out.1
  have E1 := hide G1.out.2.1
  obtain ⟨z0, z1, z2, z3, z4, z5, z6, z7⟩ := RES.out _ B1.out
  clear G1 HP
  go_wp2_with fail
  refine (HQ.out _).mono ?_
  rintro e w2 ⟨v2, ao2, cap2, rfl, G2⟩
  have B2 := hide (B1.out.trans (G2.out.2.2.mono B1.out.size))
  have O1 := hide (And.intro O1.out G2.out.1)
  have E2 := hide (E1.out.below G2.out.2.2)
  have F2 := hide G2.out.2.1
  have BB2 := hide G2.out.2.2
  obtain ⟨y0, y1, y2, y3, y4, y5, y6, y7⟩ := RES.out _ B2.out
  clear G2 HQ E1 z0 z1 z2 z3 z4 z5 z6 z7
  obtain ⟨a1, k1, rfl, -, -⟩ := O1.out.1.form
  obtain ⟨a2, k2, rfl, -, -⟩ := O1.out.2.form
  generalize hpl : c.pkL.length = pl at *
  generalize hbl : c.pkB.length = bl at *
  have HPL := hide hpl
  have HBL := hide hbl
  clear hpl hbl
  have HPN : Hid (c.pkC = 0 → pl = 0) := fun e => by
    rcases E2.out with ⟨-, e2, -⟩ | ⟨-, -, -, e4⟩
    · rw [← HPL.out, e2]; rfl
    · exact absurd e e4
  have UA : Hid (∀ {T : World}, ErrT T → ∀ {lm : Nat} {a : Option Addr} {k m : Nat}, Shows lm T a k m B → lm ≤ T.heap.size → Calls Tryz.prog 9 #[.slice a k m] T (UnP B T)) := fun hg _ _ _ _ h hl => unpack_any hg h hl
  have UR : Hid (∀ {T : World} {lm : Nat} {a : Option Addr} {k m : Nat}, Shows lm T a k m B → lm ≤ T.heap.size → Calls Tryz.prog 11 #[.slice a k m] T (RuP B T)) := fun h hl => runpack_any h hl
  unfold UnP at UA
  unfold RuP at UR
  generalize unA B = ub at UA UR
  obtain ⟨cu, LU, pu⟩ := ub
  obtain ⟨c0, c1, c2, c3, c4, c5, c6, c7⟩ := cu
  unfold Cd.cells at UA UR
  simp only at UA UR
  have HTR := hide (fun e : c.pkC = 0 => trip HC.out e)
  generalize c.pkC = pc at *
  obtain ⟨W3, hW3⟩ : ∃ W3, w2.alloc (.cells #[.slice ao2 pl cap2, .int .i64 pc] 33) = W3 := ⟨_, rfl⟩
  have b3 : Below w2.heap.size w2 W3 := by rw [← hW3]; exact (Below.refl _ w2).alloc (Nat.le_refl _) _
  have q3 : W3.heap[w2.heap.size]? = some (.cells #[.slice ao2 pl cap2, .int .i64 pc] 33 (0, 0)) := by rw [← hW3]; exact alloc_atK _ _
  have B3 := hide (B2.out.trans (b3.mono B2.out.size))
  have Q3 := hide q3
  have IS3 : Hid (Calls Tryz.prog 6 #[x1, .agg #[.slice ao2 pl cap2, .int .i64 pc]] W3 fun e w' => e = .returned (.bool true) ∧ Hid (Below W3.heap.size W3 w')) := by
    obtain ⟨bb, off, hf⟩ := F2.out
    exact is_any pl cap2 HPL.out (E2.out.below b3) ((hf.below b3).wide b3.size)
  have S1 : Hid (∀ W, Below W3.heap.size W3 W → Calls Tryz.prog 7 #[.slice a1 bl k1, .slice a2 bl k2] W fun e w' => e = .returned (.bool true) ∧ ∃ q, w' = W.drewN q) := fun W hb => by
    have hbW : Below w2.heap.size w2 W := b3.trans (hb.mono b3.size)
    obtain ⟨_, _, e1, h1, -⟩ := O1.out.1.form
    obtain ⟨_, _, e2, h2, -⟩ := O1.out.2.form
    rw [HBL.out] at e1 e2 h1 h2
    cases e1
    cases e2
    exact same_any (showsN (showsN h1 BB2.out) hbW) (showsN h2 hbW)
  have SQ : Hid (∀ W, Below W3.heap.size W3 W → Shows W.heap.size W a2 bl k2 c.pkB) := fun W hb => by
    have hbW : Below w2.heap.size w2 W := b3.trans (hb.mono b3.size)
    obtain ⟨_, _, e2, h2, -⟩ := O1.out.2.form
    rw [HBL.out] at e2 h2
    cases e2
    exact showsN h2 hbW
  have HW3 := hide hW3
  clear b3 q3 hW3 E2 F2 O1 BB2 y0 y1 y2 y3 y4 y5 y6 y7
  go_wp2_with fail
  rw [HW3.out]
  refine IS3.out.mono ?_
  rintro e w4 ⟨rfl, hb4⟩
  have B4 := hide (B3.out.trans (hb4.out.mono B3.out.size))
  have Q4 := hide ((hb4.out.block _ (block_lt Q3.out)).trans Q3.out)
  have S2 := hide (S1.out w4 hb4.out)
  have BW4 := hide hb4.out
  clear hb4 IS3 S1 Q3 HW3
  have hfw := block_lt Q4.out
  have hfr : w.heap.size < w2.heap.size := by have := HS0.out; have := B2.out.size; omega
  generalize w2.heap.size = fb at *
  go_wp2_with fail
  refine S2.out.mono ?_
  rintro e w5 ⟨rfl, q5, hw5⟩
  have BW5 : Hid (Below W3.heap.size W3 w5) := by rw [hw5]; exact Go.below_drewN BW4.out q5
  have B5 : Hid (Below W0.heap.size W0 w5) := by rw [hw5]; exact Go.below_drewN B4.out q5
  have Q5 : Hid (w5.heap[fb]? = some (.cells #[.slice ao2 pl cap2, .int .i64 pc] 33 (0, 0))) := by rw [hw5]; exact Q4.out
  clear hw5 hfw B4 BW4 Q4 S2
  have y0 := block_cell Q5.out 0
  have y1 := block_cell Q5.out 1
  simp at y0 y1
  have AN := hide (any0 ao2 pl cap2 pc HPN.out w5)
  go_wp2_with fail
  refine AN.out.mono ?_
  rintro e w6 ⟨rfl, hb6⟩
  have BW6 := hide (BW5.out.trans (hb6.out.mono BW5.out.size))
  have B6 := hide (B5.out.trans (hb6.out.mono B5.out.size))
  have Q6 := hide ((hb6.out.block _ (block_lt Q5.out)).trans Q5.out)
  clear hb6 AN BW5 B5 Q5 y0 y1
  have key : ∀ (P : Prop), ((pc != 0) = true → P) → ((pc != 0) = false → pc = 0 → P) → P := fun P a b => by
    by_cases h : pc = 0
    · exact b (by simp [h]) h
    · exact a (by simp [h])
  refine key _ (fun hd => ?_) (fun hd hz => ?_)
  · clear key
    have HST := hide (showsN HS.out (B0.out _ B6.out))
    have HLN := hide (lend5 HST.out (Nat.le_refl _))
    have hfb := block_lt Q6.out
    go_wp2_with fail
    refine HLN.out.mono ?_
    rintro e w10 ⟨rfl, L10, hb10⟩
    have LL := hide L10
    have B10 := hide (B6.out.trans (hb10.mono B6.out.size))
    have Q10 := hide ((hb10.block _ (block_lt Q6.out)).trans Q6.out)
    have hlt10 : w6.heap.size < w10.heap.size := owned_lt2 L10.2
    have UN := hide (UA.out (errT_below HG.out (B0.out _ B10.out)) (L10.shows HST.out.2.2.2.1 HST.out.2.2.1) (Nat.le_refl _))
    clear L10 hb10 HLN
    go_wp2_with fail
    refine UN.out.mono ?_
    rintro e w11 ⟨v11, rfl, G11⟩
    have B11 := hide (B10.out.trans (G11.out.2.mono B10.out.size))
    have Q11 := hide ((G11.out.2.block _ (block_lt Q10.out)).trans Q10.out)
    have L11 := hide (LL.out.next (below_none G11.out.2) (by simp))
    have E11 := hide G11.out.1
    have hlt11 : w6.heap.size < w11.heap.size := Nat.lt_of_lt_of_le hlt10 G11.out.2.size
    obtain ⟨W12, hW12⟩ : ∃ W12, w11.alloc (.cells #[.int .i64 c0, .int .u64 (c1 : Int), .int .u64 (c2 : Int), .int .u64 (c3 : Int), .int .u64 (c4 : Int), .int .u64 (c5 : Int), .int .u64 (c6 : Int), .string c7] 25) = W12 := ⟨_, rfl⟩
    have b12 : Below w11.heap.size w11 W12 := by rw [← hW12]; exact (Below.refl _ w11).alloc (Nat.le_refl _) _
    have X12 : Hid (W12.heap[w11.heap.size]? = some (.cells #[.int .i64 c0, .int .u64 (c1 : Int), .int .u64 (c2 : Int), .int .u64 (c3 : Int), .int .u64 (c4 : Int), .int .u64 (c5 : Int), .int .u64 (c6 : Int), .string c7] 25 (0, 0))) := by rw [← hW12]; exact alloc_atK _ _
    have B12 := hide (B11.out.trans (b12.mono B11.out.size))
    have UW := hide (UR.out (showsN HS.out (B0.out _ B12.out)) (Nat.le_refl _))
    have HW12 := hide hW12
    have BB12 := hide b12
    clear G11 UN LL B10 Q10 b12 hW12
    go_wp2_with fail
    rw [HW12.out]
    refine UW.out.mono ?_
    rintro e w13 ⟨ao13, cap13, rfl, G13⟩
    have b13 : Below w11.heap.size w11 w13 := BB12.out.trans (G13.out.2.mono BB12.out.size)
    have B13 := hide (B12.out.trans (G13.out.2.mono B12.out.size))
    have X13 := hide ((G13.out.2.block _ (block_lt X12.out)).trans X12.out)
    have Q13 := hide ((b13.block _ (block_lt Q11.out)).trans Q11.out)
    have L13 := hide (L11.out.next (below_none b13) (by simp))
    have E13 := hide (E11.out.below b13)
    have F13 := hide G13.out.1
    have hlt13 : w11.heap.size < w13.heap.size := block_lt X13.out
    clear G13 b13 UW HW12 BB12 X12 Q11 L11 E11
    have y0 := block_cell Q13.out 0
    have y1 := block_cell Q13.out 1
    have g0 := block_free Q13.out 0
    have g1 := block_free Q13.out 1
    simp at y0 y1
    have hfb13 := block_lt Q13.out
    have hfbx : fb ≠ w11.heap.size := by omega
    go_wp2_with fail
    obtain ⟨W14, hW14⟩ : ∃ W14, ((w13.setCell ⟨fb, 0, none⟩ (.slice ao13 LU.length cap13)).setCell ⟨fb, 1, none⟩ (.int .i64 pu)).alloc (.cells #[.int .i64 c0, .int .u64 (c1 : Int), .int .u64 (c2 : Int), .int .u64 (c3 : Int), .int .u64 (c4 : Int), .int .u64 (c5 : Int), .int .u64 (c6 : Int), .string c7] 25) = W14 := ⟨_, rfl⟩
    have ga : w13.grownBy ((w13.setCell ⟨fb, 0, none⟩ (.slice ao13 LU.length cap13)).setCell ⟨fb, 1, none⟩ (.int .i64 pu)) (some fb) := grown_trans (row := some fb) (grown_set _ _ _ _) (grown_set _ _ _ _)
    have gs : ((w13.setCell ⟨fb, 0, none⟩ (.slice ao13 LU.length cap13)).setCell ⟨fb, 1, none⟩ (.int .i64 pu)).heap.size = w13.heap.size := by simp
    have g14 : w13.grownBy W14 (some fb) := by rw [← hW14]; exact grown_trans (row := some fb) ga (grown_weakK (World.grownBy_alloc _ _ none) fb)
    have E14 : Hid (ErrC W14 v11 LU pu) := E13.out.imp id (fun ⟨a, b⟩ => ⟨(Chain.otherS g14 y0 a).wide g14.size, b⟩)
    have F14 : Hid (∃ b off, FV W14.heap.size W14 ao13 LU b off) := by
      obtain ⟨b, off, hf⟩ := F13.out
      exact ⟨b, off, (fv_grown hf g14 (fv_ne hf Q13.out)).wide g14.size⟩
    have X14 := hide ((g14.block _ (block_lt X13.out) (by simp; omega)).trans X13.out)
    have Y14 : Hid (W14.heap[w13.heap.size]? = some (.cells #[.int .i64 c0, .int .u64 (c1 : Int), .int .u64 (c2 : Int), .int .u64 (c3 : Int), .int .u64 (c4 : Int), .int .u64 (c5 : Int), .int .u64 (c6 : Int), .string c7] 25 (0, 0))) := by rw [← hW14, ← gs]; exact alloc_atK _ _
    have L14 := hide (L13.out.next g14 (by simp; omega))
    have B14 := hide (B13.out.grown g14 B13.out.size (fun k e => by cases e; have := HS0.out; omega))
    have IS14 : Hid (Calls Tryz.prog 6 #[v11, .agg #[.slice ao13 LU.length cap13, .int .i64 pu]] W14 fun e w' => e = .returned (.bool true) ∧ Hid (Below W14.heap.size W14 w')) := by
      obtain ⟨b, off, hf⟩ := F14.out
      exact is_any LU.length cap13 rfl E14.out hf
    have HW14 := hide hW14
    clear ga gs g14 hW14 E13 F13 X13 L13 B13 E14 F14 y0 y1 g0 g1 Q13
    generalize LU.length = lu at *
    rw [HW14.out]
    refine IS14.out.mono ?_
    rintro e w15 ⟨rfl, hb15⟩
    have B15 := hide (B14.out.trans (hb15.out.mono B14.out.size))
    have L15 := hide (L14.out.next (below_none hb15.out) (by simp))
    have X15 := hide ((hb15.out.block _ (block_lt X14.out)).trans X14.out)
    have Y15 := hide ((hb15.out.block _ (block_lt Y14.out)).trans Y14.out)
    clear hb15 IS14 X14 Y14 L14 B14 HW14
    have u0 := block_cell X15.out 0
    have v0 := block_cell Y15.out 0
    have u1 := block_cell X15.out 1
    have v1 := block_cell Y15.out 1
    have u2 := block_cell X15.out 2
    have v2 := block_cell Y15.out 2
    have u3 := block_cell X15.out 3
    have v3 := block_cell Y15.out 3
    have u4 := block_cell X15.out 4
    have v4 := block_cell Y15.out 4
    have u5 := block_cell X15.out 5
    have v5 := block_cell Y15.out 5
    have u6 := block_cell X15.out 6
    have v6 := block_cell Y15.out 6
    have u7 := block_cell X15.out 7
    have v7 := block_cell Y15.out 7
    simp at u0 u1 u2 u3 u4 u5 u6 u7 v0 v1 v2 v3 v4 v5 v6 v7
    have KP := hide (kept5 L15.out (showsN HS.out (B0.out _ B15.out)))
    go_wp2_with fail
    refine KP.out.mono ?_
    rintro e w16 ⟨rfl, q16, hw16⟩
    have B16 : Hid (Below w.heap.size w w16) := by rw [hw16]; exact Go.below_drewN (B0.out _ B15.out) q16
    clear hw16
    go_wp2
    go_ret
    exact ⟨rfl, B16.out⟩
  · clear key
    have HU := hide (HTR.out hz)
    have HLE := hide (lend5 (SQ.out w6 BW6.out) (Nat.le_refl _))
    have HSQ := hide (SQ.out w6 BW6.out)
    have HZ := hide hz
    clear hz
    go_wp2_with fail
    refine HLE.out.mono ?_
    rintro e w7 ⟨rfl, L7, hb7⟩
    have B7 := hide (B6.out.trans (hb7.mono B6.out.size))
    have UNP := hide (unpack_any (errT_below HG.out (B0.out _ B7.out)) (L7.shows HSQ.out.2.2.2.1 HSQ.out.2.2.1) (Nat.le_refl _))
    have Q7 := hide ((hb7.block _ (block_lt Q6.out)).trans Q6.out)
    unfold UnP at UNP
    rw [HU.out] at UNP
    clear L7 hb7 HLE
    go_wp2_with fail
    refine UNP.out.mono ?_
    rintro e w8 ⟨v8, rfl, G8⟩
    rcases G8.out.1 with ⟨rfl, -, -⟩ | ⟨-, hx, -⟩
    · have B8 := hide (B7.out.trans (G8.out.2.mono B7.out.size))
      have Q8 := hide ((G8.out.2.block _ (block_lt Q7.out)).trans Q7.out)
      obtain ⟨z0, z1, z2, z3, z4, z5, z6, z7⟩ := RES.out _ B8.out
      have hsz8 : w.heap.size < w8.heap.size := by have := HS0.out; have := B8.out.size; omega
      unfold Cd.cells
      clear G8 UNP
      obtain ⟨W9, hW9⟩ : ∃ W9, w8.alloc (.cells #[.int .i64 c.verb, .int .u64 (c.deal : Int), .int .u64 (c.acct : Int), .int .u64 (c.to_ : Int), .int .u64 (c.arb : Int), .int .u64 (c.amt : Int), .int .u64 (c.due : Int), .string c.terms] 25) = W9 := ⟨_, rfl⟩
      have b9 : Below w8.heap.size w8 W9 := by rw [← hW9]; exact (Below.refl _ w8).alloc (Nat.le_refl _) _
      have B9 := hide (B8.out.trans (b9.mono B8.out.size))
      have Q9 := hide ((b9.block _ (block_lt Q8.out)).trans Q8.out)
      have HW9 := hide hW9
      clear b9 hW9
      have HST := hide (showsN HS.out (B0.out _ B9.out))
      have HLN := hide (lend5 HST.out (Nat.le_refl _))
      have hfb := block_lt Q9.out
      go_wp2_with fail
      rw [HW9.out]
      refine HLN.out.mono ?_
      rintro e w10 ⟨rfl, L10, hb10⟩
      have LL := hide L10
      have B10 := hide (B9.out.trans (hb10.mono B9.out.size))
      have Q10 := hide ((hb10.block _ (block_lt Q9.out)).trans Q9.out)
      have hlt10 : W9.heap.size < w10.heap.size := owned_lt2 L10.2
      have UN := hide (UA.out (errT_below HG.out (B0.out _ B10.out)) (L10.shows HST.out.2.2.2.1 HST.out.2.2.1) (Nat.le_refl _))
      clear L10 hb10 HLN
      go_wp2_with fail
      refine UN.out.mono ?_
      rintro e w11 ⟨v11, rfl, G11⟩
      have B11 := hide (B10.out.trans (G11.out.2.mono B10.out.size))
      have Q11 := hide ((G11.out.2.block _ (block_lt Q10.out)).trans Q10.out)
      have L11 := hide (LL.out.next (below_none G11.out.2) (by simp))
      have E11 := hide G11.out.1
      have hlt11 : W9.heap.size < w11.heap.size := Nat.lt_of_lt_of_le hlt10 G11.out.2.size
      obtain ⟨W12, hW12⟩ : ∃ W12, w11.alloc (.cells #[.int .i64 c0, .int .u64 (c1 : Int), .int .u64 (c2 : Int), .int .u64 (c3 : Int), .int .u64 (c4 : Int), .int .u64 (c5 : Int), .int .u64 (c6 : Int), .string c7] 25) = W12 := ⟨_, rfl⟩
      have b12 : Below w11.heap.size w11 W12 := by rw [← hW12]; exact (Below.refl _ w11).alloc (Nat.le_refl _) _
      have X12 : Hid (W12.heap[w11.heap.size]? = some (.cells #[.int .i64 c0, .int .u64 (c1 : Int), .int .u64 (c2 : Int), .int .u64 (c3 : Int), .int .u64 (c4 : Int), .int .u64 (c5 : Int), .int .u64 (c6 : Int), .string c7] 25 (0, 0))) := by rw [← hW12]; exact alloc_atK _ _
      have B12 := hide (B11.out.trans (b12.mono B11.out.size))
      have UW := hide (UR.out (showsN HS.out (B0.out _ B12.out)) (Nat.le_refl _))
      have HW12 := hide hW12
      have BB12 := hide b12
      clear G11 UN LL B10 Q10 b12 hW12
      go_wp2_with fail
      rw [HW12.out]
      refine UW.out.mono ?_
      rintro e w13 ⟨ao13, cap13, rfl, G13⟩
      have b13 : Below w11.heap.size w11 w13 := BB12.out.trans (G13.out.2.mono BB12.out.size)
      have B13 := hide (B12.out.trans (G13.out.2.mono B12.out.size))
      have X13 := hide ((G13.out.2.block _ (block_lt X12.out)).trans X12.out)
      have Q13 := hide ((b13.block _ (block_lt Q11.out)).trans Q11.out)
      have L13 := hide (L11.out.next (below_none b13) (by simp))
      have E13 := hide (E11.out.below b13)
      have F13 := hide G13.out.1
      have hlt13 : w11.heap.size < w13.heap.size := block_lt X13.out
      clear G13 b13 UW HW12 BB12 X12 Q11 L11 E11
      have y0 := block_cell Q13.out 0
      have y1 := block_cell Q13.out 1
      have g0 := block_free Q13.out 0
      have g1 := block_free Q13.out 1
      simp at y0 y1
      have hfb13 := block_lt Q13.out
      have hfbx : fb ≠ w11.heap.size := by omega
      go_wp2_with fail
      obtain ⟨W14, hW14⟩ : ∃ W14, ((w13.setCell ⟨fb, 0, none⟩ (.slice ao13 LU.length cap13)).setCell ⟨fb, 1, none⟩ (.int .i64 pu)).alloc (.cells #[.int .i64 c0, .int .u64 (c1 : Int), .int .u64 (c2 : Int), .int .u64 (c3 : Int), .int .u64 (c4 : Int), .int .u64 (c5 : Int), .int .u64 (c6 : Int), .string c7] 25) = W14 := ⟨_, rfl⟩
      have ga : w13.grownBy ((w13.setCell ⟨fb, 0, none⟩ (.slice ao13 LU.length cap13)).setCell ⟨fb, 1, none⟩ (.int .i64 pu)) (some fb) := grown_trans (row := some fb) (grown_set _ _ _ _) (grown_set _ _ _ _)
      have gs : ((w13.setCell ⟨fb, 0, none⟩ (.slice ao13 LU.length cap13)).setCell ⟨fb, 1, none⟩ (.int .i64 pu)).heap.size = w13.heap.size := by simp
      have g14 : w13.grownBy W14 (some fb) := by rw [← hW14]; exact grown_trans (row := some fb) ga (grown_weakK (World.grownBy_alloc _ _ none) fb)
      have E14 : Hid (ErrC W14 v11 LU pu) := E13.out.imp id (fun ⟨a, b⟩ => ⟨(Chain.otherS g14 y0 a).wide g14.size, b⟩)
      have F14 : Hid (∃ b off, FV W14.heap.size W14 ao13 LU b off) := by
        obtain ⟨b, off, hf⟩ := F13.out
        exact ⟨b, off, (fv_grown hf g14 (fv_ne hf Q13.out)).wide g14.size⟩
      have X14 := hide ((g14.block _ (block_lt X13.out) (by simp; omega)).trans X13.out)
      have Y14 : Hid (W14.heap[w13.heap.size]? = some (.cells #[.int .i64 c0, .int .u64 (c1 : Int), .int .u64 (c2 : Int), .int .u64 (c3 : Int), .int .u64 (c4 : Int), .int .u64 (c5 : Int), .int .u64 (c6 : Int), .string c7] 25 (0, 0))) := by rw [← hW14, ← gs]; exact alloc_atK _ _
      have L14 := hide (L13.out.next g14 (by simp; omega))
      have B14 := hide (B13.out.grown g14 B13.out.size (fun k e => by cases e; have := HS0.out; omega))
      have IS14 : Hid (Calls Tryz.prog 6 #[v11, .agg #[.slice ao13 LU.length cap13, .int .i64 pu]] W14 fun e w' => e = .returned (.bool true) ∧ Hid (Below W14.heap.size W14 w')) := by
        obtain ⟨b, off, hf⟩ := F14.out
        exact is_any LU.length cap13 rfl E14.out hf
      have HW14 := hide hW14
      clear ga gs g14 hW14 E13 F13 X13 L13 B13 E14 F14 y0 y1 g0 g1 Q13
      generalize LU.length = lu at *
      rw [HW14.out]
      refine IS14.out.mono ?_
      rintro e w15 ⟨rfl, hb15⟩
      have B15 := hide (B14.out.trans (hb15.out.mono B14.out.size))
      have L15 := hide (L14.out.next (below_none hb15.out) (by simp))
      have X15 := hide ((hb15.out.block _ (block_lt X14.out)).trans X14.out)
      have Y15 := hide ((hb15.out.block _ (block_lt Y14.out)).trans Y14.out)
      clear hb15 IS14 X14 Y14 L14 B14 HW14
      have u0 := block_cell X15.out 0
      have v0 := block_cell Y15.out 0
      have u1 := block_cell X15.out 1
      have v1 := block_cell Y15.out 1
      have u2 := block_cell X15.out 2
      have v2 := block_cell Y15.out 2
      have u3 := block_cell X15.out 3
      have v3 := block_cell Y15.out 3
      have u4 := block_cell X15.out 4
      have v4 := block_cell Y15.out 4
      have u5 := block_cell X15.out 5
      have v5 := block_cell Y15.out 5
      have u6 := block_cell X15.out 6
      have v6 := block_cell Y15.out 6
      have u7 := block_cell X15.out 7
      have v7 := block_cell Y15.out 7
      simp at u0 u1 u2 u3 u4 u5 u6 u7 v0 v1 v2 v3 v4 v5 v6 v7
      have KP := hide (kept5 L15.out (showsN HS.out (B0.out _ B15.out)))
      go_wp2_with fail
      refine KP.out.mono ?_
      rintro e w16 ⟨rfl, q16, hw16⟩
      have B16 : Hid (Below w.heap.size w w16) := by rw [hw16]; exact Go.below_drewN (B0.out _ B15.out) q16
      clear hw16
      go_wp2
      go_ret
      exact ⟨rfl, B16.out⟩
    · exact absurd hx (by simp)
end Go.Proofs.YthacdhhmmmocpaaGreatDoor
namespace Go.Proofs.YthacdhhmmmocpaaGreatDoor
open Go.ChangeShapes Go.WideShapes Go.ChangeAt Go.RowKit Go.Deep

theorem cellsVb : Tryz.prog.cellsOf 22 = 1 := by kernel_rfl
theorem cellsCm : Tryz.prog.cellsOf 25 = 8 := by kernel_rfl
theorem list8 {α : Type} {l : List α} (h : l.length = 8) : ∃ a b c d e f g k, l = [a, b, c, d, e, f, g, k] := by
  match l, h with
  | [a, b, c, d, e, f, g, k], _ => exact ⟨a, b, c, d, e, f, g, k, rfl⟩
/-- The command that came in. -/
theorem view_cmd {H : Type} {enc : TypeId × Value → H} {W : World} {cs : Array Value} {d : DataW H} {p : List MemPlace}
    (h : DataW.Trod enc Tryz.prog W 0 (fun _ => true) true 25 (.agg cs) d p) (hr : ∀ n ∈ d.weights Tryz.prog 25, n ≤ reachBytes) :
    ∃ c : Cd, cs = c.cells ∧ c.Ok := by
  obtain ⟨fuel, hf0⟩ := h
  obtain ⟨xs, n, _, hx, hl, hlen, hf⟩ := DataW.trod_struct Tryz.underlying25 hf0
  clear hf0
  simp only [Prod.mk.injEq] at hx
  obtain ⟨hd, _⟩ := hx
  subst hd
  rw [cellsCm] at hl
  have hlen : xs.length = 8 := hlen
  obtain ⟨y0, y1, y2, y3, y4, y5, y6, y7, rfl⟩ := list8 hlen
  obtain ⟨L, hL⟩ : ∃ L : List Value, (Value.agg cs).cells.toList = L := ⟨_, rfl⟩
  have hcs : cs.toList = L := hL
  have hl : L.length = 8 := by rw [← hL]; exact hl
  rw [hL] at hf
  obtain ⟨c0, c1, c2, c3, c4, c5, c6, c7, rfl⟩ := list8 hl
  have e0 : DataW.trod enc Tryz.prog W 0 (fun _ => true) true n 22 (List.take (Tryz.prog.cellsOf 22) [c0, c1, c2, c3, c4, c5, c6, c7]) = some y0 := hf 0 _ rfl
  rw [cellsVb] at e0
  have e1 : DataW.trod enc Tryz.prog W 0 (fun _ => true) true n 23 (List.take (Tryz.prog.cellsOf 23) [c1, c2, c3, c4, c5, c6, c7]) = some y1 := hf 1 _ rfl
  rw [cellsU64] at e1
  have e2 : DataW.trod enc Tryz.prog W 0 (fun _ => true) true n 23 (List.take (Tryz.prog.cellsOf 23) [c2, c3, c4, c5, c6, c7]) = some y2 := hf 2 _ rfl
  rw [cellsU64] at e2
  have e3 : DataW.trod enc Tryz.prog W 0 (fun _ => true) true n 23 (List.take (Tryz.prog.cellsOf 23) [c3, c4, c5, c6, c7]) = some y3 := hf 3 _ rfl
  rw [cellsU64] at e3
  have e4 : DataW.trod enc Tryz.prog W 0 (fun _ => true) true n 23 (List.take (Tryz.prog.cellsOf 23) [c4, c5, c6, c7]) = some y4 := hf 4 _ rfl
  rw [cellsU64] at e4
  have e5 : DataW.trod enc Tryz.prog W 0 (fun _ => true) true n 23 (List.take (Tryz.prog.cellsOf 23) [c5, c6, c7]) = some y5 := hf 5 _ rfl
  rw [cellsU64] at e5
  have e6 : DataW.trod enc Tryz.prog W 0 (fun _ => true) true n 23 (List.take (Tryz.prog.cellsOf 23) [c6, c7]) = some y6 := hf 6 _ rfl
  rw [cellsU64] at e6
  have e7 : DataW.trod enc Tryz.prog W 0 (fun _ => true) true n 9 (List.take (Tryz.prog.cellsOf 9) [c7]) = some y7 := hf 7 _ rfl
  rw [cellsStr] at e7
  have hr : ∀ n ∈ DataW.weightsEach Tryz.prog [22, 23, 23, 23, 23, 23, 23, 9] [y0.1, y1.1, y2.1, y3.1, y4.1, y5.1, y6.1, y7.1], n ≤ reachBytes := by
    intro n hn
    refine hr n ?_
    simp only [DataW.weights, Tryz.underlying25]
    exact hn
  obtain ⟨K, k0, _, wK⟩ := DataW.trod_int Tryz.underlying22 e0
  obtain ⟨s1, k1, _, w1⟩ := DataW.trod_int Tryz.underlying23 e1
  obtain ⟨s2, k2, _, w2⟩ := DataW.trod_int Tryz.underlying23 e2
  obtain ⟨s3, k3, _, w3⟩ := DataW.trod_int Tryz.underlying23 e3
  obtain ⟨s4, k4, _, w4⟩ := DataW.trod_int Tryz.underlying23 e4
  obtain ⟨s5, k5, _, w5⟩ := DataW.trod_int Tryz.underlying23 e5
  obtain ⟨s6, k6, _, w6⟩ := DataW.trod_int Tryz.underlying23 e6
  obtain ⟨S, k7, h7, _⟩ := DataW.trod_string Tryz.underlying9 e7
  have hS : S.size ≤ reachBytes := hr S.size (DataW.weights_mem_each (j := 7) (t := 9) (d := y7.1) rfl rfl _ (by rw [h7]; show S.size ∈ [S.data.toList.length]; rw [Array.length_toList]; exact List.mem_singleton.2 rfl))
  have bK := bounds_i64 wK
  have b1 := bounds_u64 w1
  have b2 := bounds_u64 w2
  have b3 := bounds_u64 w3
  have b4 := bounds_u64 w4
  have b5 := bounds_u64 w5
  have b6 := bounds_u64 w6
  clear e0 e1 e2 e3 e4 e5 e6 e7 hr
  simp only [List.take, List.cons.injEq, and_true] at k0 k1 k2 k3 k4 k5 k6 k7
  subst k0 k1 k2 k3 k4 k5 k6 k7
  obtain ⟨n1, rfl⟩ := Int.eq_ofNat_of_zero_le b1.1
  obtain ⟨n2, rfl⟩ := Int.eq_ofNat_of_zero_le b2.1
  obtain ⟨n3, rfl⟩ := Int.eq_ofNat_of_zero_le b3.1
  obtain ⟨n4, rfl⟩ := Int.eq_ofNat_of_zero_le b4.1
  obtain ⟨n5, rfl⟩ := Int.eq_ofNat_of_zero_le b5.1
  obtain ⟨n6, rfl⟩ := Int.eq_ofNat_of_zero_le b6.1
  have hS : S.size ≤ 140737488351232 := hS
  refine ⟨⟨K, n1, n2, n3, n4, n5, n6, S⟩, ?_, ⟨bK.1, by simp only; omega, fun f => ?_, hS⟩⟩
  · apply Array.ext'
    rw [hcs]
    rfl
  · unfold Cd.num
    split <;> first | omega | (simp only; omega)
end Go.Proofs.YthacdhhmmmocpaaGreatDoor
