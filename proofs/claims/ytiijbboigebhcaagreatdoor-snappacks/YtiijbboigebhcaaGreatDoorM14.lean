import Derived.Test.YtiijbboigebhcaaGreatDoorM13
import Derived.Test.YtiijbboigebhcaaGreatDoorM7
import Derived.Test.YtiijbboigebhcaaGreatDoorNRd
namespace Go.Proofs.YtiijbboigebhcaaGreatDoor
open Go.RowKit Crc
attribute [local irreducible] nV nS rdC rdBk

/-- An image's values. -/
structure Vm where
  (slot now tot nx : Nat) (A : List Ac) (H : List Ho) (J : List En) (D : List De) (ends : Nat) (S : List (Nat × Nat × Nat × Int × List Nat))
def Im.pv (x : Im) : Vm := ⟨x.slot, x.now, x.b.tot, x.b.nx, x.b.A, x.b.H, x.b.J, x.D, x.ends, x.S.map pvS⟩
/-- An image as it lies. -/
structure Mi where
  (slot now tot nx : Nat) (A : List Ac) (H : List Ho) (J : List En) (D : List De) (ends : Nat) (S : List Sn)
  (ao : Option Addr) (an ac : Nat) (ho : Option Addr) (hn hc : Nat) (jo : Option Addr) (jn jc : Nat) (dO : Option Addr) (dn dc : Nat) (so : Option Addr) (sn sc : Nat)
def Mi.val (m : Mi) : Vm := ⟨m.slot, m.now, m.tot, m.nx, m.A, m.H, m.J, m.D, m.ends, m.S.map Sn.val⟩
def Mi.cells (m : Mi) : Array Value := #[.int .u64 (m.slot : Int), .int .u64 (m.now : Int), .int .u64 (m.tot : Int), .int .u64 (m.nx : Int), .slice m.ao m.an m.ac, .slice m.ho m.hn m.hc, .slice m.jo m.jn m.jc, .slice m.dO m.dn m.dc, .int .u64 (m.ends : Int), .slice m.so m.sn m.sc]
structure Mi.Own (base : Nat) (w : World) (m : Mi) : Prop where
  bk : OwnBk base w (.slice m.ao m.an m.ac) (.slice m.ho m.hn m.hc) (.slice m.jo m.jn m.jc) m.A m.H m.J
  d : Rw base w 58 13 De.cells (.slice m.dO m.dn m.dc) m.D
  s : OwnSs base w (.slice m.so m.sn m.sc) m.S
theorem Mi.Own.past {base : Nat} {w w' : World} {m : Mi} {row : Option Nat} (h : m.Own base w) (hg : w.grownBy w' row) (hr : ∀ g, row = some g → g < base) : m.Own base w' := ⟨h.bk.past hg hr, h.d.past hg hr, h.s.kept hg hr⟩
theorem Mi.Own.lower {base base' : Nat} {w : World} {m : Mi} (h : m.Own base w) (hb : base' ≤ base) : m.Own base' w := ⟨h.bk.lower hb, h.d.lower hb, h.s.lower hb⟩
theorem Mi.Own.below {base : Nat} {w w' : World} {m : Mi} (h : m.Own base w) (hb : Below w.heap.size w w') : m.Own base w' := h.past (below_none hb) (fun g e => by cases e)
def Mi.zero : Mi := ⟨0, 0, 0, 0, [], [], [], [], 0, [], none, 0, 0, none, 0, 0, none, 0, 0, none, 0, 0, none, 0, 0⟩
theorem Mi.zero_own (base : Nat) (w : World) : Mi.zero.Own base w := ⟨⟨Rw.nil _ _ _ _ _, Rw.nil _ _ _ _ _, Rw.nil _ _ _ _ _⟩, Rw.nil _ _ _ _ _, ⟨Rw.nil _ _ _ _ _, fun x hx => (by cases hx), .nil⟩⟩
def zero10 : Array Value := #[.int .u64 0, .int .u64 0, .int .u64 0, .int .u64 0, .slice none 0 0, .slice none 0 0, .slice none 0 0, .slice none 0 0, .int .u64 0, .slice none 0 0]
set_option maxRecDepth 10000 in
set_option maxHeartbeats 3200000 in
theorem readState_any {lim p : Nat} {w : World} {s : RS} (h : RdP lim w (some ⟨p, 0, none⟩) s) : Calls Tryz.prog 37 #[.pointer (some ⟨p, 0, none⟩)] w fun e w' => ∃ m : Mi, e = .returned (.agg m.cells) ∧ Hid (m.Own w.heap.size w' ∧ m.val = (rdIm s).1.pv ∧ At_ lim p w (rdIm s).2 w') := by
  have hpw := (At_.start h).pos.2
  obtain ⟨W0, hW0⟩ : ∃ W0, w.alloc (.cells #[.int .u64 0, .int .u64 0, .int .u64 0, .int .u64 0, .slice none 0 0, .slice none 0 0, .slice none 0 0, .slice none 0 0, .int .u64 0, .slice none 0 0] 33) = W0 := ⟨_, rfl⟩
  have s0 : W0.heap.size = w.heap.size + 1 := by rw [← hW0]; simp
  have a0 : At_ lim p w s W0 := by rw [← hW0]; exact (At_.start h).alloc _
  have q0 : W0.heap[w.heap.size]? = some (.cells #[.int .u64 0, .int .u64 0, .int .u64 0, .int .u64 0, .slice none 0 0, .slice none 0 0, .slice none 0 0, .slice none 0 0, .int .u64 0, .slice none 0 0] 33 (0, 0)) := by rw [← hW0]; exact alloc_atN _ _
  have RES : Hid (∀ s' W, At_ lim p W0 s' W → W.heap[w.heap.size]? = some (.cells #[.int .u64 0, .int .u64 0, .int .u64 0, .int .u64 0, .slice none 0 0, .slice none 0 0, .slice none 0 0, .slice none 0 0, .int .u64 0, .slice none 0 0] 33 (0, 0)) ∧ At_ lim p w s' W) := fun s' W hb => ⟨(hb.block (by omega) (by omega)).trans q0, a0.trans hb⟩
  have H0 := hide a0.again
  have HW0 := hide hW0
  have HS0 := hide s0
  have hpW : p < W0.heap.size := by omega
  have N0 : Hid (∀ W, At_ lim p W0 s W → Calls Tryz.prog 75 #[.pointer (some ⟨p, 0, none⟩)] W fun e w' => e = .returned (.int .u64 ((nV s : Nat) : Int)) ∧ Hid (W.grownBy w' (some p) ∧ At_ lim p W0 (nS s) w')) := fun W h => (num_at h.again).mono fun _ _ ⟨e, G⟩ => ⟨e, G.out.2, h.trans G.out⟩
  have N1 : Hid (∀ W, At_ lim p W0 (nS s) W → Calls Tryz.prog 75 #[.pointer (some ⟨p, 0, none⟩)] W fun e w' => e = .returned (.int .u64 ((nV (nS s) : Nat) : Int)) ∧ Hid (W.grownBy w' (some p) ∧ At_ lim p W0 (nS (nS s)) w')) := fun W h => (num_at h.again).mono fun _ _ ⟨e, G⟩ => ⟨e, G.out.2, h.trans G.out⟩
  have NB : Hid (∀ W, At_ lim p W0 (nS (nS s)) W → Calls Tryz.prog 76 #[.pointer (some ⟨p, 0, none⟩)] W fun e w' => ∃ (x y : Nat) (a : Option Addr) (na ca : Nat) (b : Option Addr) (nb cb : Nat) (c : Option Addr) (nc cc : Nat), e = .returned (.agg #[.int .u64 (x : Int), .int .u64 (y : Int), .slice a na ca, .slice b nb cb, .slice c nc cc]) ∧ Hid ((x = (imB s).1.tot ∧ y = (imB s).1.nx) ∧ OwnBk W0.heap.size w' (.slice a na ca) (.slice b nb cb) (.slice c nc cc) (imB s).1.A (imB s).1.H (imB s).1.J ∧ W.grownBy w' (some p) ∧ At_ lim p W0 (imB s).2 w')) := fun W hW => (readBook_any hW.1).mono fun _ _ ⟨x, y, a, na, ca, b, nb, cb, c, nc, cc, e, G⟩ => ⟨x, y, a, na, ca, b, nb, cb, c, nc, cc, e, ⟨G.out.1, G.out.2.1⟩, G.out.2.2.1.lower hW.2.size, G.out.2.2.2.2, hW.trans G.out.2.2.2⟩
  have N2 : Hid (∀ W, At_ lim p W0 (imB s).2 W → Calls Tryz.prog 75 #[.pointer (some ⟨p, 0, none⟩)] W fun e w' => e = .returned (.int .u64 ((nV (imB s).2 : Nat) : Int)) ∧ Hid (W.grownBy w' (some p) ∧ At_ lim p W0 (nS (imB s).2) w')) := fun W h => (num_at h.again).mono fun _ _ ⟨e, G⟩ => ⟨e, G.out.2, h.trans G.out⟩
  have ND : Hid (∀ W, At_ lim p W0 (nS (imB s).2) W → Calls Tryz.prog 77 #[.pointer (some ⟨p, 0, none⟩), .int .i64 32, .func (.func 78) #[] #[]] W fun e w' => ∃ ao n cap, e = .returned (.slice ao n cap) ∧ Hid (Rw W0.heap.size w' 58 13 De.cells (.slice ao n cap) (imD s).1 ∧ W.grownBy w' (some p) ∧ At_ lim p W0 (imD s).2 w')) := fun W hW => (readList_De hW.1).mono fun _ _ ⟨ao, cap, e, G⟩ => ⟨ao, _, cap, e, G.out.1.lower hW.2.size, G.out.2.2, hW.trans G.out.2⟩
  have NS : Hid (∀ W, At_ lim p W0 (imD s).2 W → Calls Tryz.prog 79 #[.pointer (some ⟨p, 0, none⟩), .int .i64 16, .func (.func 80) #[] #[]] W fun e w' => ∃ ao n cap, e = .returned (.slice ao n cap) ∧ Hid (∃ L : List Sn, OwnSs W0.heap.size w' (.slice ao n cap) L ∧ L.map Sn.val = (imS s).1.map pvS ∧ W.grownBy w' (some p) ∧ At_ lim p W0 (imS s).2 w')) := fun W hW => (readList_Sn hW.1).mono fun _ _ ⟨ao, n, cap, e, G⟩ => by
    obtain ⟨L, -, g2, g3, g4⟩ := G.out
    exact ⟨ao, n, cap, e, L, g2.lower hW.2.size, g3, g4.2, hW.trans g4⟩
  have HE : Hid ((rdIm s).1 = ⟨nV s, nV (nS s), (imB s).1, (imD s).1, nV (imB s).2, (imS s).1⟩ ∧ (rdIm s).2 = (imS s).2) := ⟨rfl, rfl⟩
  clear h hW0 s0 a0 q0
  generalize rdIm s = rm at *
  generalize imD s = xd at *
  generalize imS s = xs at *
  generalize imB s = xb at *
  obtain ⟨xd, s5⟩ := xd
  obtain ⟨xs, s6⟩ := xs
  obtain ⟨⟨bt, bn, bA, bH, bJ⟩, s3⟩ := xb
  dsimp only at *
  generalize nV (nS s) = v1 at *
  generalize nV s = v0 at *
  generalize nS (nS s) = s2 at *
  generalize nS s = s1 at *
  generalize nV s3 = v2 at *
  generalize nS s3 = s4 at *
  go_enter Tryz.func37, Tryz.ntmps37
  go_wp2_with fail
  rw [HW0.out]
  refine (N0.out _ H0.out).mono ?_
  rintro e w1 ⟨rfl, H1⟩
  go_wp2_with fail
  refine (N1.out _ H1.out.2).mono ?_
  rintro e w2 ⟨rfl, H2⟩
  go_wp2_with fail
  refine (NB.out _ H2.out.2).mono ?_
  rintro e w3 ⟨x, y, a, na, ca, b, nb, cb, c, nc, cc, rfl, G3⟩
  go_wp2_with fail
  refine (N2.out _ G3.out.2.2.2).mono ?_
  rintro e w4 ⟨rfl, H4⟩
  go_wp2_with fail
  refine (ND.out _ H4.out.2).mono ?_
  rintro e w5 ⟨d, nd, cd, rfl, G5⟩
  go_wp2_with fail
  refine (NS.out _ G5.out.2.2).mono ?_
  rintro e w6 ⟨f, nf, cf, rfl, G6⟩
  obtain ⟨L, g1, g2, g3, g4⟩ := G6.out
  obtain ⟨⟨rfl, rfl⟩, -⟩ := G3.out
  obtain ⟨hC, hA⟩ := RES.out _ _ g4
  obtain ⟨m, hm⟩ : ∃ m : Mi, m = ⟨v0, v1, x, y, bA, bH, bJ, xd, v2, L, a, na, ca, b, nb, cb, c, nc, cc, d, nd, cd, f, nf, cf⟩ := ⟨_, rfl⟩
  have OW : Hid (m.Own W0.heap.size w6 ∧ m.val = rm.1.pv ∧ m.cells = #[.int .u64 (v0 : Int), .int .u64 (v1 : Int), .int .u64 (x : Int), .int .u64 (y : Int), .slice a na ca, .slice b nb cb, .slice c nc cc, .slice d nd cd, .int .u64 (v2 : Int), .slice f nf cf]) := by
    rw [hm]
    refine ⟨⟨((G3.out.2.1.past H4.out.1 (some_lt hpW)).past G5.out.2.1 (some_lt hpW)).past g3 (some_lt hpW), G5.out.1.past g3 (some_lt hpW), g1⟩, ?_, rfl⟩
    rw [HE.out.1]
    show Vm.mk v0 v1 x y bA bH bJ xd v2 (L.map Sn.val) = _
    rw [g2]
    rfl
  have z0 := block_cell hC 0
  have f0 := block_free hC 0
  have z1 := block_cell hC 1
  have f1 := block_free hC 1
  have z2 := block_cell hC 2
  have f2 := block_free hC 2
  have z3 := block_cell hC 3
  have f3 := block_free hC 3
  have z4 := block_cell hC 4
  have f4 := block_free hC 4
  have z5 := block_cell hC 5
  have f5 := block_free hC 5
  have z6 := block_cell hC 6
  have f6 := block_free hC 6
  have z7 := block_cell hC 7
  have f7 := block_free hC 7
  have z8 := block_cell hC 8
  have f8 := block_free hC 8
  have z9 := block_cell hC 9
  have f9 := block_free hC 9
  simp at z0 z1 z2 z3 z4 z5 z6 z7 z8 z9
  have FIN : Hid (∀ x0 x1 x2 x3 x4 x5 x6 x7 x8 x9, m.Own w.heap.size ((((((((((w6.setCell ⟨w.heap.size, 0, none⟩ x0).setCell ⟨w.heap.size, 1, none⟩ x1).setCell ⟨w.heap.size, 2, none⟩ x2).setCell ⟨w.heap.size, 3, none⟩ x3).setCell ⟨w.heap.size, 4, none⟩ x4).setCell ⟨w.heap.size, 5, none⟩ x5).setCell ⟨w.heap.size, 6, none⟩ x6).setCell ⟨w.heap.size, 7, none⟩ x7).setCell ⟨w.heap.size, 8, none⟩ x8).setCell ⟨w.heap.size, 9, none⟩ x9) ∧ m.val = rm.1.pv ∧ At_ lim p w rm.2 ((((((((((w6.setCell ⟨w.heap.size, 0, none⟩ x0).setCell ⟨w.heap.size, 1, none⟩ x1).setCell ⟨w.heap.size, 2, none⟩ x2).setCell ⟨w.heap.size, 3, none⟩ x3).setCell ⟨w.heap.size, 4, none⟩ x4).setCell ⟨w.heap.size, 5, none⟩ x5).setCell ⟨w.heap.size, 6, none⟩ x6).setCell ⟨w.heap.size, 7, none⟩ x7).setCell ⟨w.heap.size, 8, none⟩ x8).setCell ⟨w.heap.size, 9, none⟩ x9)) := fun x0 x1 x2 x3 x4 x5 x6 x7 x8 x9 => by
    have g : w6.grownBy ((((((((((w6.setCell ⟨w.heap.size, 0, none⟩ x0).setCell ⟨w.heap.size, 1, none⟩ x1).setCell ⟨w.heap.size, 2, none⟩ x2).setCell ⟨w.heap.size, 3, none⟩ x3).setCell ⟨w.heap.size, 4, none⟩ x4).setCell ⟨w.heap.size, 5, none⟩ x5).setCell ⟨w.heap.size, 6, none⟩ x6).setCell ⟨w.heap.size, 7, none⟩ x7).setCell ⟨w.heap.size, 8, none⟩ x8).setCell ⟨w.heap.size, 9, none⟩ x9) (some w.heap.size) := (grown_trans (row := some w.heap.size) (grown_trans (row := some w.heap.size) (grown_trans (row := some w.heap.size) (grown_trans (row := some w.heap.size) (grown_trans (row := some w.heap.size) (grown_trans (row := some w.heap.size) (grown_trans (row := some w.heap.size) (grown_trans (row := some w.heap.size) (grown_trans (row := some w.heap.size) (grown_set _ _ _ _) (grown_set _ _ _ _)) (grown_set _ _ _ _)) (grown_set _ _ _ _)) (grown_set _ _ _ _)) (grown_set _ _ _ _)) (grown_set _ _ _ _)) (grown_set _ _ _ _)) (grown_set _ _ _ _)) (grown_set _ _ _ _))
    have hs := HS0.out
    refine ⟨(OW.out.1.past g (some_lt (by omega))).lower (by omega), OW.out.2.1, ?_⟩
    rw [HE.out.2]
    exact hA.box hpw (Nat.le_refl _) g
  have HM := hide OW.out.2.2
  clear hC hA RES HW0 H0 H1 H2 H4 G3 G5 G6 HS0 N0 N1 N2 NB ND NS OW hm g1 g2 g3 g4
  go_wp2
  refine bodyPost_ret (v := .agg #[.int .u64 (v0 : Int), .int .u64 (v1 : Int), .int .u64 (x : Int), .int .u64 (y : Int), .slice a na ca, .slice b nb cb, .slice c nc cc, .slice d nd cd, .int .u64 (v2 : Int), .slice f nf cf]) (by simp [results, Tryz.results37, go_sem, z0, z1, z2, z3, z4, z5, z6, z7, z8, z9]) rfl ?_
  exact ⟨m, by rw [HM.out], FIN.out _ _ _ _ _ _ _ _ _ _⟩
end Go.Proofs.YtiijbboigebhcaaGreatDoor
namespace Go.Proofs.YtiijbboigebhcaaGreatDoor
open Go.RowKit Crc

/-- Do the numbers rise, each above the one ahead of it? -/
def rises {α : Type} (f : α → Nat) : Nat → List α → Bool
  | _, [] => true
  | a, x :: r => decide (a < f x) && rises f (f x) r
theorem below_trans1 {w W W' : World} (h : Below w.heap.size w W) (h' : Below W.heap.size W W') : Below w.heap.size w W' := h.trans (h'.mono h.size)
set_option maxRecDepth 10000 in
set_option maxHeartbeats 400000 in
theorem number_Ac (x : Ac) (w : World) : Calls Tryz.prog 89 #[.agg #[.int .u64 (x.a : Int), .int .u64 (x.b : Int), .int .u64 (x.c : Int), .int .u64 (x.d : Int)]] w fun e w' => e = .returned (.int .u64 (x.a : Int)) ∧ Hid (Below w.heap.size w w') := by
  have b1 : Hid (∀ o, Below w.heap.size w (w.alloc o)) := fun o => (Below.refl _ w).alloc (Nat.le_refl _) o
  go_enter Tryz.func89, Tryz.ntmps89
  go_wp2
  go_ret
  exact ⟨rfl, b1.out _⟩
theorem len_Ac (x : Ac) : x.cells.length = 4 := rfl
set_option maxRecDepth 10000 in
set_option maxHeartbeats 1600000 in
theorem rising_Ac {base : Nat} {w : World} {ao : Option Addr} {n cap : Nat} {L : List Ac} (most : Nat) (hl : L.length = n) (hn : n ≤ 1000) (h : Rw base w 63 4 Ac.cells (.slice ao n cap) L) : Calls Tryz.prog 88 #[.slice ao n cap, .int .i64 most, .func (.func 89) #[] #[]] w fun e w' => e = .returned (.bool (rises Ac.a 0 L && decide (n ≤ most))) ∧ Hid (Below w.heap.size w w') := by
  have HR := hide h
  have HL := hide hl
  clear h hl
  go_enter Tryz.func88, Tryz.ntmps88
  go_wp2
  go_loopw [7, 12] (fun v i wr => ∃ k : Nat, k ≤ n ∧ i = .int .i64 k ∧ ∃ a : Nat, v = .int .u64 (a : Int) ∧ Hid (Below w.heap.size w wr ∧ rises Ac.a a (L.drop k) = rises Ac.a 0 L)) (fun _ i _ => n - (intOf i).toNat)
  case atStart => exact ⟨0, by omega, rfl, 0, rfl, Below.refl _ _, rfl⟩
  case round =>
    obtain ⟨k, hk, rfl, a, rfl, HS⟩ := hrel
    by_cases hlt : k < n
    · obtain ⟨x, hx, hd⟩ : ∃ x, L[k]? = some x ∧ L.drop k = x :: L.drop (k + 1) := ⟨_, List.getElem?_eq_getElem (by rw [HL.out]; exact hlt), List.drop_eq_getElem_cons (by rw [HL.out]; exact hlt)⟩
      obtain ⟨g, rfl, hgl, -, -, hc⟩ := HR.out.at_ len_Ac hx
      have c0 := (HS.out.1.cell (p := ⟨g, k * 4 + 0, none⟩) hgl).trans (hc 0 _ rfl)
      have c1 := (HS.out.1.cell (p := ⟨g, k * 4 + 1, none⟩) hgl).trans (hc 1 _ rfl)
      have c2 := (HS.out.1.cell (p := ⟨g, k * 4 + 2, none⟩) hgl).trans (hc 2 _ rfl)
      have c3 := (HS.out.1.cell (p := ⟨g, k * 4 + 3, none⟩) hgl).trans (hc 3 _ rfl)
      simp only [Nat.add_zero] at c0
      have hgw : g < wr.heap.size := Nat.lt_of_lt_of_le hgl HS.out.1.size
      have HDR : Hid (rises Ac.a 0 L = (decide (a < x.a) && rises Ac.a x.a (L.drop (k + 1)))) := by
        show _ = _
        rw [← HS.out.2, hd, rises]
      have HB := hide HS.out.1
      have HNM : Hid (∀ W, Calls Tryz.prog 89 #[.agg #[.int .u64 (x.a : Int), .int .u64 (x.b : Int), .int .u64 (x.c : Int), .int .u64 (x.d : Int)]] W fun e w' => e = .returned (.int .u64 (x.a : Int)) ∧ Hid (Below W.heap.size W w')) := number_Ac x
      clear hc HS hd hx
      obtain ⟨W1, hW1⟩ : ∃ W1, wr.alloc (.cells #[.int .u64 (x.a : Int), .int .u64 (x.b : Int), .int .u64 (x.c : Int), .int .u64 (x.d : Int)] 63) = W1 := ⟨_, rfl⟩
      have q1 : W1.heap[wr.heap.size]? = some (.cells #[.int .u64 (x.a : Int), .int .u64 (x.b : Int), .int .u64 (x.c : Int), .int .u64 (x.d : Int)] 63 (0, 0)) := by rw [← hW1]; exact alloc_atN _ _
      have BW : Hid (Below w.heap.size w W1) := by rw [← hW1]; exact HB.out.alloc HB.out.size _
      have Q1 := hide q1
      have d0 := block_cell q1 0
      have d1 := block_cell q1 1
      have d2 := block_cell q1 2
      have d3 := block_cell q1 3
      simp at d0 d1 d2 d3
      have hwW : wr.heap.size < W1.heap.size := block_lt q1
      clear q1 HB
      by_cases hlt2 : a < x.a
      · have hle : ¬ ((x.a : Int) ≤ (a : Int)) := by omega
        have HDR : Hid (rises Ac.a x.a (L.drop (k + 1)) = rises Ac.a 0 L) := by
          show _ = _
          rw [HDR.out, decide_eq_true hlt2, Bool.true_and]
        go_wp2_with fail
        refine (HNM.out _).mono ?_
        rintro e w2 ⟨rfl, G2⟩
        have q2 := (G2.out.block _ hwW).trans Q1.out
        have B2 := hide (below_trans1 BW.out G2.out)
        clear d0 d1 d2 d3 hW1
        have d0 := block_cell q2 0
        have d1 := block_cell q2 1
        have d2 := block_cell q2 2
        have d3 := block_cell q2 3
        simp at d0 d1 d2 d3
        clear q2
        go_wp2_with fail
        refine (HNM.out _).mono ?_
        rintro e w3 ⟨rfl, G3⟩
        have B3 := hide (below_trans1 B2.out G3.out)
        clear d0 d1 d2 d3
        go_wp2
        go_roundw
        case rel => exact ⟨k + 1, by omega, by go_num, x.a, rfl, B3.out, HDR.out⟩
        case measure => simp [intOf]; omega
      · have hle : (x.a : Int) ≤ (a : Int) := by omega
        have HDR : Hid (rises Ac.a 0 L = false) := by
          show _ = _
          rw [HDR.out, decide_eq_false hlt2, Bool.false_and]
        go_wp2_with fail
        refine (HNM.out _).mono ?_
        rintro e w2 ⟨rfl, G2⟩
        have B2 := hide (below_trans1 BW.out G2.out)
        clear d0 d1 d2 d3 hW1
        go_wp2
        go_ret
        exact ⟨by rw [HDR.out]; rfl, B2.out⟩
    · obtain rfl : k = n := by omega
      have hr : rises Ac.a 0 L = true := by
        rw [← HS.out.2, List.drop_of_length_le (by rw [HL.out]; omega)]
        rfl
      have HRR := hide hr
      clear hr
      have hd : decide (k ≤ most) = decide ((k : Int) ≤ (most : Int)) := decide_eq_decide.2 (by omega)
      go_wp2
      go_ret
      exact ⟨by rw [HRR.out, Bool.true_and, hd]; rfl, HS.out.1⟩
end Go.Proofs.YtiijbboigebhcaaGreatDoor
