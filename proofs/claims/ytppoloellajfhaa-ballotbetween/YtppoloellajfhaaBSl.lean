import Derived.Test.YtppoloellajfhaaBGs
namespace Go.Proofs.Ytppoloellajfhaa
open Go.RowKit

/-- The reference's group of a configuration that it took. -/
def haOk (c : Cf) (W : World) (b : Option Addr) : Prop := ∃ h, b = some ⟨h, 0, none⟩ ∧ RefG W h c ∧ h < W.heap.size
theorem haOk.kept {c : Cf} {W W' : World} {b : Option Addr} (h : haOk c W b) (hb : Below W.heap.size W W') : haOk c W' b := by
  obtain ⟨g, rfl, h1, h2⟩ := h
  exact ⟨g, rfl, h1.below hb h2, Nat.lt_of_lt_of_le h2 hb.size⟩
theorem oks_all {bs : List Bool} (h : badOf bs = -1) : ∀ j, j < bs.length → bs.getD j true = true := by
  intro j hj
  cases hb : bs.getD j true with
  | true => rfl
  | false =>
    exfalso
    unfold badOf at h
    rw [List.getD_eq_getElem?_getD, List.getElem?_eq_getElem hj] at hb
    have hlt : bs.findIdx (fun b => !b) < bs.length := List.findIdx_lt_length_of_exists ⟨bs[j], List.getElem_mem hj, by simpa using hb⟩
    rw [if_pos hlt] at h
    omega
theorem cf_ok {c : Cf} (h : badOf c.oks = -1) : c.Ok := by
  have a := oks_all h
  have a0 := a 0 (by simp [Cf.oks])
  have a3 := a 3 (by simp [Cf.oks])
  have a8 := a 8 (by simp [Cf.oks])
  have a9 := a 9 (by simp [Cf.oks])
  simp only [Cf.oks, List.getD_eq_getElem?_getD, List.getElem?_cons_zero, List.getElem?_cons_succ, Option.getD_some, Bool.and_eq_true, decide_eq_true_eq] at a0 a3 a8 a9
  exact ⟨by omega, by omega, by omega, by omega, by omega, by omega, by omega, by omega⟩
theorem refNew_okP (c : Cf) (hk : badOf c.oks = -1) (W : World) : Calls Try.prog 33 #[.agg c.cells] W fun e w' => ∃ a, RNewP W (.pointer a) [] 0 e w' ∧ Hid (haOk c w' a) :=
  (refNew_ok c hk W).mono fun _ _ ⟨g, h1, h2⟩ => ⟨some ⟨g, 0, none⟩, h1, g, rfl, ⟨(cfg_cells h2.out.1).1, (cfg_cells h2.out.1).2.2.2.1, (cfg_cells h2.out.1).2.2.2.2.2.2.2.2.1, (cfg_cells h2.out.1).2.2.2.2.2.2.2.2.2, cf_ok hk⟩, block_lt h2.out.1⟩
theorem refNew_badP (c : Cf) (k : Nat) (hk : badOf c.oks = (k : Int)) (W : World) : Calls Try.prog 33 #[.agg c.cells] W fun e w' => ∃ a, RNewP W (.pointer a) [⟨ballotN, (k : Int)⟩] 180 e w' ∧ Hid (a = none) :=
  (refNew_bad c k hk W).mono fun _ _ h => ⟨none, h, rfl⟩
set_option maxRecDepth 10000 in
set_option maxHeartbeats 800000 in
/-- BallotSlots, where the configuration may be. -/
theorem slots_ok (c : Cf) (w : World) (low slot : Nat) (hl : low < 18446744073709551616) (pa : World → Option Addr → Prop)
    (hG : ∀ W, Calls Try.prog 11 #[.agg c.cells] W fun e w' => ∃ a b, e = .returned (.tuple #[.pointer a, .pointer b, .bool true]) ∧ Hid (pa w' a ∧ haOk c w' b ∧ Below W.heap.size W w'))
    (kp : ∀ W W' a, pa W a → Below W.heap.size W W' → pa W' a)
    (hH : ∀ W a, pa W a → Calls Try.prog 12 #[.pointer a, .int .u64 (low : Nat)] W fun e w' => e = .returned (.int .u64 ((c.high low : Nat) : Int)) ∧ Below W.heap.size W w')
    (hI : ∀ W a, pa W a → Calls Try.prog 13 #[.pointer a, .int .u64 (low : Nat), .int .u64 (slot : Nat)] W fun e w' => e = .returned (.bool (c.inside low slot)) ∧ Below W.heap.size W w') :
    Calls Try.prog 4 #[.agg c.cells, .int .u64 (low : Nat), .int .u64 (slot : Nat)] w fun e w' => e = .returned (.bool true) ∧ Below w.heap.size w w' := by
  have HG := hide hG
  have KP := hide kp
  have HH := hide hH
  have HI := hide hI
  have RH : Hid (∀ W h, RefG W h c → Calls Try.prog 14 #[.pointer (some ⟨h, 0, none⟩), .int .u64 (low : Nat)] W fun e w' => e = .returned (.int .u64 ((c.high low : Nat) : Int)) ∧ Below W.heap.size W w') := fun W h r => (refHigh low hl r).mono fun _ _ ⟨h1, q, h2⟩ => ⟨h1, by rw [h2]; exact Go.below_drewN (Below.refl _ _) q⟩
  have RI : Hid (∀ W h, RefG W h c → Calls Try.prog 15 #[.pointer (some ⟨h, 0, none⟩), .int .u64 (low : Nat), .int .u64 (slot : Nat)] W fun e w' => e = .returned (.bool (c.inside low slot)) ∧ Below W.heap.size W w') := fun W h r => (refInside low slot hl r).mono fun _ _ ⟨h1, q, h2⟩ => ⟨h1, by rw [h2]; exact Go.below_drewN (Below.refl _ _) q⟩
  clear hG kp hH hI hl
  obtain ⟨W1, hW1⟩ : ∃ W1, w.alloc (.cells c.cells 29) = W1 := ⟨_, rfl⟩
  have B1 : Hid (Below w.heap.size w W1) := by rw [← hW1]; exact (Below.refl _ w).alloc (Nat.le_refl _) _
  have C1 : W1.heap[w.heap.size]? = some (.cells c.cells 29 (0, 0)) := by rw [← hW1]; exact alloc_atK _ _
  obtain ⟨z0, z1, z2, z3, z4, z5, z6, z7, z8, z9⟩ := cfg_cells C1
  have HW1 := hide hW1
  clear hW1 C1
  generalize (c.high low : Int) = hv at *
  generalize c.inside low slot = iv at *
  generalize (low : Int) = lo at *
  generalize (slot : Int) = sl at *
  unfold Cf.cells at *
  generalize c.f = f at *
  generalize c.mb = mb at *
  generalize (c.delay : Int) = d at *
  generalize (c.win : Int) = wn at *
  generalize (c.every : Int) = ev at *
  generalize (c.beat : Int) = bt at *
  generalize (c.ep : Int) = ep at *
  generalize (c.em : Int) = em at *
  generalize (c.mn : Int) = mn at *
  generalize (c.ms : Int) = ms at *
  go_enter Try.func4, Try.ntmps4
  go_upto_region 1 with fail
  rw [HW1.out]
  clear HW1
  go_wp2_with fail
  refine (HG.out W1).mono ?_
  rintro e w2 ⟨a, b, rfl, G2⟩
  obtain ⟨p2, h2, b2⟩ := G2.out
  obtain ⟨h, rfl, _, _⟩ := id h2
  have P2 := hide p2
  have H2 := hide h2
  have B2 := hide (B1.out.trans (b2.mono B1.out.size))
  clear G2 p2 h2 b2 z0 z1 z2 z3 z4 z5 z6 z7 z8 z9 B1 HG
  rename_i r2 l2
  clear r2 l2
  go_wp2_with fail
  refine (HH.out w2 a P2.out).mono ?_
  rintro e w3 ⟨rfl, b3⟩
  have P3 := hide (KP.out _ _ _ P2.out b3)
  have H3 := hide (H2.out.kept b3)
  have B3 := hide (B2.out.trans (b3.mono B2.out.size))
  clear b3 P2 H2 B2
  go_wp2_with fail
  refine (RH.out w3 h (by obtain ⟨_, e, r, _⟩ := H3.out; cases e; exact r)).mono ?_
  rintro e w4 ⟨rfl, b4⟩
  have P4 := hide (KP.out _ _ _ P3.out b4)
  have H4 := hide (H3.out.kept b4)
  have B4 := hide (B3.out.trans (b4.mono B3.out.size))
  clear b4 P3 H3 B3
  go_wp2_with fail
  refine (HI.out w4 a P4.out).mono ?_
  rintro e w5 ⟨rfl, b5⟩
  have H5 := hide (H4.out.kept b5)
  have B5 := hide (B4.out.trans (b5.mono B4.out.size))
  clear b5 P4 H4 B4
  go_wp2_with fail
  refine (RI.out w5 h (by obtain ⟨_, e, r, _⟩ := H5.out; cases e; exact r)).mono ?_
  rintro e w6 ⟨rfl, b6⟩
  have B6 := hide (B5.out.trans (b6.mono B5.out.size))
  clear b6 H5 B5
  go_wp2
  go_ret
  exact ⟨by simp, B6.out⟩
set_option maxRecDepth 10000 in
set_option maxHeartbeats 800000 in
/-- BallotSlots, where it may not be. -/
theorem slots_bad (c : Cf) (w : World) (low slot : Nat)
    (hG : ∀ W, Calls Try.prog 11 #[.agg c.cells] W fun e w' => ∃ a b, e = .returned (.tuple #[.pointer a, .pointer b, .bool true]) ∧ Hid (a = none ∧ b = none ∧ Below W.heap.size W w'))
    (hH : ∀ W, Calls Try.prog 12 #[.pointer none, .int .u64 (low : Nat)] W fun e w' => e = .returned (.int .u64 0) ∧ Below W.heap.size W w')
    (hI : ∀ W, Calls Try.prog 13 #[.pointer none, .int .u64 (low : Nat), .int .u64 (slot : Nat)] W fun e w' => e = .returned (.bool false) ∧ Below W.heap.size W w') :
    Calls Try.prog 4 #[.agg c.cells, .int .u64 (low : Nat), .int .u64 (slot : Nat)] w fun e w' => e = .returned (.bool true) ∧ Below w.heap.size w w' := by
  have HG := hide hG
  have HH := hide hH
  have HI := hide hI
  clear hG hH hI
  obtain ⟨W1, hW1⟩ : ∃ W1, w.alloc (.cells c.cells 29) = W1 := ⟨_, rfl⟩
  have B1 : Hid (Below w.heap.size w W1) := by rw [← hW1]; exact (Below.refl _ w).alloc (Nat.le_refl _) _
  have C1 : W1.heap[w.heap.size]? = some (.cells c.cells 29 (0, 0)) := by rw [← hW1]; exact alloc_atK _ _
  obtain ⟨z0, z1, z2, z3, z4, z5, z6, z7, z8, z9⟩ := cfg_cells C1
  have HW1 := hide hW1
  clear hW1 C1
  generalize (low : Int) = lo at *
  generalize (slot : Int) = sl at *
  unfold Cf.cells at *
  generalize c.f = f at *
  generalize c.mb = mb at *
  generalize (c.delay : Int) = d at *
  generalize (c.win : Int) = wn at *
  generalize (c.every : Int) = ev at *
  generalize (c.beat : Int) = bt at *
  generalize (c.ep : Int) = ep at *
  generalize (c.em : Int) = em at *
  generalize (c.mn : Int) = mn at *
  generalize (c.ms : Int) = ms at *
  go_enter Try.func4, Try.ntmps4
  go_upto_region 1 with fail
  rw [HW1.out]
  clear HW1
  go_wp2_with fail
  refine (HG.out W1).mono ?_
  rintro e w2 ⟨a, b, rfl, G2⟩
  obtain ⟨rfl, rfl, b2⟩ := G2.out
  have B2 := hide (B1.out.trans (b2.mono B1.out.size))
  clear G2 b2 z0 z1 z2 z3 z4 z5 z6 z7 z8 z9 B1 HG
  go_wp2_with fail
  refine (HH.out w2).mono ?_
  rintro e w3 ⟨rfl, b3⟩
  have B3 := hide (B2.out.trans (b3.mono B2.out.size))
  clear b3 B2
  go_wp2_with fail
  refine (HI.out w3).mono ?_
  rintro e w4 ⟨rfl, b4⟩
  have B4 := hide (B3.out.trans (b4.mono B3.out.size))
  clear b4 B3
  go_wp2
  go_ret
  exact ⟨rfl, B4.out⟩
end Go.Proofs.Ytppoloellajfhaa
