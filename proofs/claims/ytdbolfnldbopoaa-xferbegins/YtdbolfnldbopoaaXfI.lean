import Derived.Test.YtdbolfnldbopoaaXfG
import Derived.Test.YtdbolfnldbopoaaXfH
namespace Go.Proofs.Ytdbolfnldbopoaa
open Go.RowKit

/-- Nothing, or one that lies so. -/
def NoOr (ok : Bool) (cs : Nat → List Value) (t : TypeId) (W : World) (a : Option Addr) : Prop := (ok = false ∧ a = none) ∨ (ok = true ∧ ∃ p g, a = some ⟨p, 0, none⟩ ∧ LiesAt W p (cs g) t)
theorem NoOr.kept {ok : Bool} {cs : Nat → List Value} {t : TypeId} {W W' : World} {a : Option Addr} (h : NoOr ok cs t W a) (hb : Below W.heap.size W W') : NoOr ok cs t W' a := by
  rcases h with h | ⟨h, p, g, e, h2⟩
  · exact .inl h
  · exact .inr ⟨h, p, g, e, h2.kept hb⟩
theorem NoOr.turn {ok : Bool} {cs : Nat → List Value} {t t' : TypeId} {W W' : World} {a : Option Addr} {p : Nat} {C : Array Value} (h : NoOr ok cs t W a) (hg : W.grownBy W' (some p)) (hp : W.heap[p]? = some (.cells C t' (0, 0))) (ht : t ≠ t') : NoOr ok cs t W' a := by
  rcases h with h | ⟨h, q, g, e, h2⟩
  · exact .inl h
  · refine .inr ⟨h, q, g, e, (hg.block _ (block_lt h2) (fun e => ?_)).trans h2⟩
    cases e
    unfold LiesAt at h2
    rw [h2] at hp
    cases hp
    exact ht rfl
theorem nosS (o : Option Addr) (n m : Nat) (k : Int) (i : Nat) (s : ByteArray) : (#[Value.slice o n m, .int .i64 k] : Array Value)[i]? ≠ some (.string s) := by
  rcases i with _ | _ | _
  · simp
  · simp
  · simp
/-- A fault is laid into its box, where one lies already. -/
theorem fault_turn {W : World} {p : Nat} {o : Option Addr} {n m : Nat} {k : Int} (hp : W.heap[p]? = some (.cells #[.slice o n m, .int .i64 k] 33 (0, 0))) (u0 u1 : Value) :
    W.grownBy ((W.setCell ⟨p, 0, none⟩ u0).setCell ⟨p, 1, none⟩ u1) (some p) ∧ ((W.setCell ⟨p, 0, none⟩ u0).setCell ⟨p, 1, none⟩ u1).heap[p]? = some (.cells #[u0, u1] 33 (0, 0)) ∧
    (∀ {L : List Lk} {c : Int} {v : Value}, ErrP W L c v → ErrP ((W.setCell ⟨p, 0, none⟩ u0).setCell ⟨p, 1, none⟩ u1) L c v) ∧
    (∀ {L : List Lk} {fo : Option Addr}, (∃ b off, FV W.heap.size W fo L b off) → ∃ b off, FV ((W.setCell ⟨p, 0, none⟩ u0).setCell ⟨p, 1, none⟩ u1).heap.size ((W.setCell ⟨p, 0, none⟩ u0).setCell ⟨p, 1, none⟩ u1) fo L b off) := by
  have hg : W.grownBy ((W.setCell ⟨p, 0, none⟩ u0).setCell ⟨p, 1, none⟩ u1) (some p) := grown_trans (grown_set W p 0 u0) (grown_set _ p 1 u1)
  have hs : ((W.setCell ⟨p, 0, none⟩ u0).setCell ⟨p, 1, none⟩ u1).heap.size = W.heap.size := by simp
  refine ⟨hg, heap_setCell_same _ p 1 _ _ u1 (heap_setCell_same W p 0 _ _ u0 hp), fun h => ?_, fun ⟨b, off, hf⟩ => ⟨b, off, ?_⟩⟩
  · rcases h with h | ⟨h, h2⟩
    · exact .inl h
    · refine .inr ⟨?_, h2⟩
      rw [hs]
      exact h.otherS hg (block_cell hp 0)
  · rw [hs]
    exact fv_grownN hf hg (fv_neN hf hp (nosS _ _ _ _))
set_option maxRecDepth 10000 in
set_option maxHeartbeats 1600000 in
theorem xbegins_any (c : Cf) (me : Int) (w : World) (ok : Bool) (L : List Lk) (k : Int)
    (hP : ∀ W, Calls Try.prog 4 #[.agg c.cells, .int .i64 me] W fun e w' => ∃ a, PNewP W (.pointer a) L k e w' ∧ Hid (NoOr ok (fun g => supC g me) 61 w' a))
    (hR : ∀ W, Calls Try.prog 5 #[.agg c.cells, .int .i64 me] W fun e w' => ∃ a, RNewP W (.pointer a) L k e w' ∧ Hid (NoOr ok (fun g => rsupC g me) 67 w' a))
    (hP2 : ∀ W, Calls Try.prog 9 #[.agg c.cells, .int .i64 me] W fun e w' => ∃ a, PNewP W (.pointer a) L k e w' ∧ Hid (NoOr ok (fun g => fetC g me) 77 w' a))
    (hR2 : ∀ W, Calls Try.prog 10 #[.agg c.cells, .int .i64 me] W fun e w' => ∃ a, RNewP W (.pointer a) L k e w' ∧ Hid (NoOr ok (fun g => rfetC g me) 79 w' a)) :
    Calls Try.prog 3 #[.agg c.cells, .int .i64 me] w fun e w' => e = .returned (.bool true) ∧ Below w.heap.size w w' := by
  unfold PNewP at hP hP2
  unfold RNewP at hR hR2
  have HP := hide hP
  have HR := hide hR
  have HP2 := hide hP2
  have HR2 := hide hR2
  have HSS : Hid (∀ (W : World) (p g : Nat), LiesAt W p (supC g me) 61 → Calls Try.prog 7 #[.pointer (some ⟨p, 0, none⟩)] W fun e w' => e = .returned (.agg sZ.toArray) ∧ Below W.heap.size W w') := fun W p g h => sstate h
  have HRS : Hid (∀ (W : World) (p g : Nat), LiesAt W p (rsupC g me) 67 → Calls Try.prog 8 #[.pointer (some ⟨p, 0, none⟩)] W fun e w' => e = .returned (.agg sZ.toArray) ∧ Below W.heap.size W w') := fun W p g h => rsstate h
  have HFS : Hid (∀ (W : World) (p g : Nat), LiesAt W p (fetC g me) 77 → Calls Try.prog 12 #[.pointer (some ⟨p, 0, none⟩)] W fun e w' => e = .returned (.agg fZ.toArray) ∧ Below W.heap.size W w') := fun W p g h => fstate h
  have HRF : Hid (∀ (W : World) (p g : Nat), LiesAt W p (rfetC g me) 79 → Calls Try.prog 13 #[.pointer (some ⟨p, 0, none⟩)] W fun e w' => e = .returned (.agg fZ.toArray) ∧ Below W.heap.size W w') := fun W p g h => rfstate h
  have HSF := hide sameF
  have HEQ := hide sZ_same
  clear hP hR hP2 hR2
  generalize sZ = sz at *
  generalize fZ = fz at *
  obtain ⟨W1, hW1⟩ : ∃ W1, w.alloc (.cells c.cells 24) = W1 := ⟨_, rfl⟩
  have B1 : Hid (Below w.heap.size w W1) := by rw [← hW1]; exact (Below.refl _ w).alloc (Nat.le_refl _) _
  have C1 : Hid (W1.heap[w.heap.size]? = some (.cells c.cells 24 (0, 0))) := by rw [← hW1]; exact alloc_atK _ _
  have hlc := block_lt C1.out
  have Z : Hid (∀ W, Below W1.heap.size W1 W → W.heap[w.heap.size]? = some (.cells c.cells 24 (0, 0))) := fun W hb => (hb.block _ (block_lt C1.out)).trans C1.out
  have HC := hide (fun (W : World) (h : W.heap[w.heap.size]? = some (.cells c.cells 24 (0, 0))) => cfg_cells h)
  obtain ⟨z0, z1, z2, z3, z4, z5, z6, z7, z8, z9⟩ := HC.out W1 C1.out
  have HW1 := hide hW1
  clear hW1
  unfold Cf.cells at *
  generalize c.f = f at *
  generalize c.mb = mb at *
  generalize (c.delay : Int) = d at *
  generalize (c.win : Int) = wn at *
  generalize (c.every : Int) = ev at *
  generalize (c.beat : Int) = bt at *
  generalize (c.ep : Int) = ep at *
  generalize (c.em : Int) = em at *
  generalize (c.mn : Int) = mn at *
  generalize (c.ms : Int) = ms at *
  go_enter Try.func3, Try.ntmps3
  go_upto_region 1 with fail
  rw [HW1.out]
  clear HW1
  go_wp2_with fail
  refine (HP.out W1).mono ?_
  rintro e w2 ⟨a, ⟨er, rfl, G2⟩, X2⟩
  have B2 := hide G2.out.2
  have E2 := hide G2.out.1
  clear G2 z0 z1 z2 z3 z4 z5 z6 z7 z8 z9 HP
  obtain ⟨z0, z1, z2, z3, z4, z5, z6, z7, z8, z9⟩ := HC.out w2 (Z.out w2 B2.out)
  go_wp2_with fail
  refine (HR.out w2).mono ?_
  rintro e w3 ⟨b, ⟨fo, fc, rfl, G3⟩, X3⟩
  obtain ⟨W4, hW4⟩ : ∃ W4, w3.alloc (.cells #[.slice fo L.length fc, .int .i64 k] 33) = W4 := ⟨_, rfl⟩
  have b4 : Below w3.heap.size w3 W4 := by rw [← hW4]; exact (Below.refl _ _).alloc (Nat.le_refl _) _
  have D4 : Hid (W4.heap[w3.heap.size]? = some (.cells #[.slice fo L.length fc, .int .i64 k] 33 (0, 0))) := by rw [← hW4]; exact alloc_atK _ _
  have hb3 := G3.out.2
  have B3 := B2.out.trans (hb3.mono B2.out.size)
  have B4 := hide (B3.trans (b4.mono B3.size))
  have E4 := hide ((E2.out.below hb3).below b4)
  have P4 := hide ((X2.out.kept hb3).kept b4)
  have Y4 := hide (X3.out.kept b4)
  have F4 : Hid (∃ b off, FV W4.heap.size W4 fo L b off) := by
    obtain ⟨b, off, hf⟩ := G3.out.1
    exact ⟨b, off, (hf.below b4).wide b4.size⟩
  have hpb : W1.heap.size ≤ w3.heap.size := B3.size
  clear G3 X2 X3 hb3 HR E2 B2 C1 B3 b4 z0 z1 z2 z3 z4 z5 z6 z7 z8 z9
  have HIS : Hid (∀ (er : Value) (fo : Option Addr) (fc : Nat) (W : World), ErrP W L k er → (∃ b off, FV W.heap.size W fo L b off) → Calls Try.prog 6 #[er, .agg #[.slice fo L.length fc, .int .i64 k]] W fun e w' => e = .returned (.bool true) ∧ Hid (Below W.heap.size W w')) := fun er fo fc W he ⟨b, off, hf⟩ => is_any L.length fc rfl he hf

  have HW4 := hide hW4
  clear hW4
  generalize L.length = ln at *
  go_upto_region 3 with fail
  rw [HW4.out]
  clear HW4
  generalize w3.heap.size = pf at *
  have x0 : W4.cell? ⟨pf, 0, none⟩ = some (.slice fo ln fc) := block_cell D4.out 0
  have x1 : W4.cell? ⟨pf, 1, none⟩ = some (.int .i64 k) := block_cell D4.out 1
  have hxl := block_lt D4.out
  go_wp2_with fail
  refine (HIS.out _ _ _ W4 E4.out F4.out).mono ?_
  rintro e w5 ⟨rfl, hb5⟩
  have B5 := hide (B4.out.trans (hb5.out.mono B4.out.size))
  have P5 := hide (P4.out.kept hb5.out)
  have Y5 := hide (Y4.out.kept hb5.out)
  have D5 := hide ((hb5.out.block _ (block_lt D4.out)).trans D4.out)
  clear hb5 x0 x1 hxl B4 P4 Y4 D4 E4 F4
  cases ok with
  | false =>
  obtain rfl : a = none := by rcases P5.out with ⟨_, h⟩ | ⟨h, _⟩; exact h; cases h
  obtain rfl : b = none := by rcases Y5.out with ⟨_, h⟩ | ⟨h, _⟩; exact h; cases h
  clear P5 Y5
  have B6 := B5
  have D6 := D5
  clear B5 D5
  have CF := HC.out w5 (Z.out w5 B6.out)
  obtain ⟨z0, z1, z2, z3, z4, z5, z6, z7, z8, z9⟩ := CF
  go_wp2_with fail
  refine (HP2.out w5).mono ?_
  rintro e w7 ⟨a2, ⟨er2, rfl, G7⟩, X7⟩
  have B7 := hide (B6.out.trans (G7.out.2.mono B6.out.size))
  have D7 := hide ((G7.out.2.block _ (block_lt D6.out)).trans D6.out)
  have E7 := hide G7.out.1
  clear G7 z0 z1 z2 z3 z4 z5 z6 z7 z8 z9 B6 D6
  obtain ⟨z0, z1, z2, z3, z4, z5, z6, z7, z8, z9⟩ := HC.out w7 (Z.out w7 B7.out)
  go_wp2_with fail
  refine (HR2.out w7).mono ?_
  rintro e w8 ⟨b2, ⟨fo2, fc2, rfl, G8⟩, X8⟩
  have hb8 := G8.out.2
  have D8 := hide ((hb8.block _ (block_lt D7.out)).trans D7.out)
  have FT := fault_turn D8.out (.slice fo2 ln fc2) (.int .i64 k)
  have hb8' := B7.out.trans (hb8.mono B7.out.size)
  have B9 := hide (hb8'.grown FT.1 hb8'.size (fun k e => by cases e; exact hpb))
  have E9 := hide (FT.2.2.1 (E7.out.below hb8))
  have F9 := hide (FT.2.2.2 G8.out.1)
  have P9 := hide ((X7.out.kept hb8).turn FT.1 D8.out (by decide))
  have Y9 := hide (X8.out.turn FT.1 D8.out (by decide))
  have D9 := hide FT.2.1
  have x0 : w8.cell? ⟨pf, 0, none⟩ = some (.slice fo ln fc) := block_cell D8.out 0
  have x1 : w8.cell? ⟨pf, 1, none⟩ = some (.int .i64 k) := block_cell D8.out 1
  have g0 := block_free D8.out 0
  have g1 := block_free D8.out 1
  have hxl := block_lt D8.out
  clear FT hb8' hb8 G8 X8 X7 E7 B7 D7 z0 z1 z2 z3 z4 z5 z6 z7 z8 z9 D8
  go_upto_region 7 with fail
  generalize (w8.setCell ⟨pf, 0, none⟩ (.slice fo2 ln fc2)).setCell ⟨pf, 1, none⟩ (.int .i64 k) = W9 at *
  clear x0 x1 g0 g1 hxl
  have x0 : W9.cell? ⟨pf, 0, none⟩ = some (.slice fo2 ln fc2) := block_cell D9.out 0
  have x1 : W9.cell? ⟨pf, 1, none⟩ = some (.int .i64 k) := block_cell D9.out 1
  have hxl := block_lt D9.out
  go_wp2_with fail
  refine (HIS.out _ _ _ W9 E9.out F9.out).mono ?_
  rintro e w10 ⟨rfl, hb10⟩
  have B10 := hide (B9.out.trans (hb10.out.mono B9.out.size))
  have P10 := hide (P9.out.kept hb10.out)
  have Y10 := hide (Y9.out.kept hb10.out)
  clear hb10 x0 x1 hxl B9 P9 Y9 D9 E9 F9
  obtain rfl : a2 = none := by rcases P10.out with ⟨_, h⟩ | ⟨h, _⟩; exact h; cases h
  obtain rfl : b2 = none := by rcases Y10.out with ⟨_, h⟩ | ⟨h, _⟩; exact h; cases h
  clear P10 Y10
  go_wp2
  go_ret
  exact ⟨rfl, B1.out.trans (B10.out.mono B1.out.size)⟩
  | true =>
  obtain ⟨p, g, rfl, hp5⟩ : ∃ p g, a = some ⟨p, 0, none⟩ ∧ LiesAt w5 p (supC g me) 61 := by rcases P5.out with ⟨h, _⟩ | ⟨_, h⟩; cases h; exact h
  obtain ⟨q, h, rfl, hy5⟩ : ∃ p g, b = some ⟨p, 0, none⟩ ∧ LiesAt w5 p (rsupC g me) 67 := by rcases Y5.out with ⟨h, _⟩ | ⟨_, h⟩; cases h; exact h
  have HP5 := hide hp5
  have HY5 := hide hy5
  clear P5 Y5 hp5 hy5
  go_wp2_with fail
  refine (HSS.out w5 p g HP5.out).mono ?_
  rintro e w5b ⟨rfl, b5b⟩
  have HY5b := hide (HY5.out.kept b5b)
  have B5b := hide (B5.out.trans (b5b.mono B5.out.size))
  have D5b := hide ((b5b.block _ (block_lt D5.out)).trans D5.out)
  clear b5b HP5 HY5 B5 D5
  go_wp2_with fail
  refine (HRS.out w5b q h HY5b.out).mono ?_
  rintro e w6 ⟨rfl, b6⟩
  have B6 := hide (B5b.out.trans (b6.mono B5b.out.size))
  have D6 := hide ((b6.block _ (block_lt D5b.out)).trans D5b.out)
  clear b6 B5b D5b HY5b
  have heq := HEQ.out
  have CF := HC.out w6 (Z.out w6 B6.out)
  obtain ⟨z0, z1, z2, z3, z4, z5, z6, z7, z8, z9⟩ := CF
  go_wp2_with fail
  clear heq
  refine (HP2.out w6).mono ?_
  rintro e w7 ⟨a2, ⟨er2, rfl, G7⟩, X7⟩
  have B7 := hide (B6.out.trans (G7.out.2.mono B6.out.size))
  have D7 := hide ((G7.out.2.block _ (block_lt D6.out)).trans D6.out)
  have E7 := hide G7.out.1
  clear G7 z0 z1 z2 z3 z4 z5 z6 z7 z8 z9 B6 D6
  obtain ⟨z0, z1, z2, z3, z4, z5, z6, z7, z8, z9⟩ := HC.out w7 (Z.out w7 B7.out)
  go_wp2_with fail
  refine (HR2.out w7).mono ?_
  rintro e w8 ⟨b2, ⟨fo2, fc2, rfl, G8⟩, X8⟩
  have hb8 := G8.out.2
  have D8 := hide ((hb8.block _ (block_lt D7.out)).trans D7.out)
  have FT := fault_turn D8.out (.slice fo2 ln fc2) (.int .i64 k)
  have hb8' := B7.out.trans (hb8.mono B7.out.size)
  have B9 := hide (hb8'.grown FT.1 hb8'.size (fun k e => by cases e; exact hpb))
  have E9 := hide (FT.2.2.1 (E7.out.below hb8))
  have F9 := hide (FT.2.2.2 G8.out.1)
  have P9 := hide ((X7.out.kept hb8).turn FT.1 D8.out (by decide))
  have Y9 := hide (X8.out.turn FT.1 D8.out (by decide))
  have D9 := hide FT.2.1
  have x0 : w8.cell? ⟨pf, 0, none⟩ = some (.slice fo ln fc) := block_cell D8.out 0
  have x1 : w8.cell? ⟨pf, 1, none⟩ = some (.int .i64 k) := block_cell D8.out 1
  have g0 := block_free D8.out 0
  have g1 := block_free D8.out 1
  have hxl := block_lt D8.out
  clear FT hb8' hb8 G8 X8 X7 E7 B7 D7 z0 z1 z2 z3 z4 z5 z6 z7 z8 z9 D8
  go_upto_region 7 with fail
  generalize (w8.setCell ⟨pf, 0, none⟩ (.slice fo2 ln fc2)).setCell ⟨pf, 1, none⟩ (.int .i64 k) = W9 at *
  clear x0 x1 g0 g1 hxl
  have x0 : W9.cell? ⟨pf, 0, none⟩ = some (.slice fo2 ln fc2) := block_cell D9.out 0
  have x1 : W9.cell? ⟨pf, 1, none⟩ = some (.int .i64 k) := block_cell D9.out 1
  have hxl := block_lt D9.out
  go_wp2_with fail
  refine (HIS.out _ _ _ W9 E9.out F9.out).mono ?_
  rintro e w10 ⟨rfl, hb10⟩
  have B10 := hide (B9.out.trans (hb10.out.mono B9.out.size))
  have P10 := hide (P9.out.kept hb10.out)
  have Y10 := hide (Y9.out.kept hb10.out)
  clear hb10 x0 x1 hxl B9 P9 Y9 D9 E9 F9
  obtain ⟨p2, g2, rfl, hp10⟩ : ∃ p g, a2 = some ⟨p, 0, none⟩ ∧ LiesAt w10 p (fetC g me) 77 := by rcases P10.out with ⟨h, _⟩ | ⟨_, h⟩; cases h; exact h
  obtain ⟨q2, h2, rfl, hy10⟩ : ∃ p g, b2 = some ⟨p, 0, none⟩ ∧ LiesAt w10 p (rfetC g me) 79 := by rcases Y10.out with ⟨h, _⟩ | ⟨_, h⟩; cases h; exact h
  have HP10 := hide hp10
  have HY10 := hide hy10
  clear P10 Y10 hp10 hy10
  go_wp2_with fail
  refine (HFS.out w10 p2 g2 HP10.out).mono ?_
  rintro e w11 ⟨rfl, b11⟩
  have HY11 := hide (HY10.out.kept b11)
  have B11 := hide (B10.out.trans (b11.mono B10.out.size))
  clear b11 HP10 HY10 B10
  go_wp2_with fail
  refine (HRF.out w11 q2 h2 HY11.out).mono ?_
  rintro e w12 ⟨rfl, b12⟩
  have B12 := hide (B11.out.trans (b12.mono B11.out.size))
  clear b12 B11 HY11
  go_wp2_with fail
  refine (HSF.out w12).mono ?_
  rintro e w13 ⟨rfl, b13⟩
  have B13 := hide (B12.out.trans (b13.mono B12.out.size))
  clear b13 B12
  go_wp2
  go_ret
  exact ⟨rfl, B1.out.trans (B13.out.mono B1.out.size)⟩
theorem xbegins_walk (c : Cf) (hin : c.In) (me : Int) (w : World) : Calls Try.prog 3 #[.agg c.cells, .int .i64 me] w fun e w' => e = .returned (.bool true) ∧ Below w.heap.size w w' := by
  rcases badOf_cases c with hk | ⟨k, hk⟩
  · cases hn : c.node me with
    | false =>
      exact xbegins_any c me w false [⟨xferN, 1⟩] 182
        (fun W => (nsup_no c me _ 182 (by simp) (by simp) (by omega) W (fun W => seat_node c hin hk me hn W)).mono fun _ _ h => ⟨none, h, .inl ⟨rfl, rfl⟩⟩)
        (fun W => (rsup_no c me _ 182 (by omega) (fun W => grp_node c hk me hn W) W).mono fun _ _ h => ⟨none, h, .inl ⟨rfl, rfl⟩⟩)
        (fun W => (nfet_no c me _ 182 (by simp) (by simp) (by omega) W (fun W => seat_node c hin hk me hn W)).mono fun _ _ h => ⟨none, h, .inl ⟨rfl, rfl⟩⟩)
        (fun W => (rfet_no c me _ 182 (by omega) (fun W => grp_node c hk me hn W) W).mono fun _ _ h => ⟨none, h, .inl ⟨rfl, rfl⟩⟩)
    | true =>
      exact xbegins_any c me w true [] 0
        (fun W => (nsup_ok c me W (fun W => seat_ok c hin hk me hn W)).mono fun _ _ ⟨p, h, h2⟩ => ⟨_, h, .inr ⟨rfl, p, h2.out.choose, rfl, h2.out.choose_spec⟩⟩)
        (fun W => (rsup_ok c me (fun W => grp_ok c hk me hn W) W).mono fun _ _ ⟨p, h, h2⟩ => ⟨_, h, .inr ⟨rfl, p, h2.out.choose, rfl, h2.out.choose_spec⟩⟩)
        (fun W => (nfet_ok c me W (fun W => seat_ok c hin hk me hn W)).mono fun _ _ ⟨p, h, h2⟩ => ⟨_, h, .inr ⟨rfl, p, h2.out.choose, rfl, h2.out.choose_spec⟩⟩)
        (fun W => (rfet_ok c me (fun W => grp_ok c hk me hn W) W).mono fun _ _ ⟨p, h, h2⟩ => ⟨_, h, .inr ⟨rfl, p, h2.out.choose, rfl, h2.out.choose_spec⟩⟩)
  · exact xbegins_any c me w false [⟨xferN, 0⟩, ⟨ballotN, (k : Int)⟩] 180
      (fun W => (nsup_no c me _ 180 (by simp) (by simp) (by omega) W (fun W => seat_bad c hin k hk me W)).mono fun _ _ h => ⟨none, h, .inl ⟨rfl, rfl⟩⟩)
      (fun W => (rsup_no c me _ 180 (by omega) (fun W => grp_bad c k hk me W) W).mono fun _ _ h => ⟨none, h, .inl ⟨rfl, rfl⟩⟩)
      (fun W => (nfet_no c me _ 180 (by simp) (by simp) (by omega) W (fun W => seat_bad c hin k hk me W)).mono fun _ _ h => ⟨none, h, .inl ⟨rfl, rfl⟩⟩)
      (fun W => (rfet_no c me _ 180 (by omega) (fun W => grp_bad c k hk me W) W).mono fun _ _ h => ⟨none, h, .inl ⟨rfl, rfl⟩⟩)
end Go.Proofs.Ytdbolfnldbopoaa
