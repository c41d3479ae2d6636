import Derived.Test.YtiijbboigebhcaaGreatDoorNRdD
import Derived.Test.YtiijbboigebhcaaGreatDoorNRlS
namespace Go.Proofs.YtiijbboigebhcaaGreatDoor
open Go.RowKit Crc

theorem infoDe : (Tryz.prog.info? 58).map (fun i => (i.zero, i.size, i.bytes)) = some (some (.agg #[.int .u64 0, .int .u64 0, .int .u64 0, .int .u64 0, .int .u64 0, .int .u64 0, .int .u64 0, .int .i64 0, .int .u64 0, .int .u64 0, .int .u64 0, .int .u64 0, .string ⟨#[]⟩]), 13, 112) := by kernel_rfl
set_option maxRecDepth 10000 in
set_option maxHeartbeats 1600000 in
theorem readList_De {lim p : Nat} {w : World} {s : RS} (h : RdP lim w (some ⟨p, 0, none⟩) s) : Calls Tryz.prog 77 #[.pointer (some ⟨p, 0, none⟩), .int .i64 32, .func (.func 78) #[] #[]] w fun e w' => ∃ ao cap, e = .returned (.slice ao (rdC rdDe 32 s).1.length cap) ∧ Hid (Rw w.heap.size w' 58 13 De.cells (.slice ao (rdC rdDe 32 s).1.length cap) (rdC rdDe 32 s).1 ∧ At_ lim p w (rdC rdDe 32 s).2 w') := by
  obtain ⟨i0, hi0, hz0, hz1, hz2⟩ := info_parts infoDe
  have hpw := (At_.start h).pos.2
  have HC := hide (cnt_at (At_.start h) 32 (by omega) (by omega))
  have HLE := hide (cV_le s 32)
  have HLN := hide (rdL_len rdDe (cS s 32))
  have HE : Hid (rdC rdDe 32 s = rdL rdDe (cS s 32) (cV s 32)) := rfl
  generalize rdC rdDe 32 s = rc at *
  generalize cV s 32 = n at *
  clear h
  generalize cS s 32 = s1 at *
  have hn : n ≤ 32 := HLE.out
  go_enter Tryz.func77, Tryz.ntmps77
  go_wp2_with fail
  refine HC.out.mono ?_
  rintro e w1 ⟨rfl, H1⟩
  go_wp2
  go_loopw [7, 11] (fun v i wr => ∃ k : Nat, k ≤ n ∧ i = .int .i64 k ∧ ∃ ao cap, v = .slice ao k cap ∧ Hid (Rw w.heap.size wr 58 13 De.cells (.slice ao k cap) (rdL rdDe s1 k).1 ∧ At_ lim p w (rdL rdDe s1 k).2 wr)) (fun _ i _ => n - (intOf i).toNat)
  case atStart => exact ⟨0, by omega, rfl, none, 0, rfl, Rw.nil _ _ _ _ _, H1.out⟩
  case round =>
    obtain ⟨k, hk, rfl, ao, cap, rfl, HS⟩ := hrel
    clear H1 HC
    by_cases hlt : k < n
    · have HRV : Hid (Calls Tryz.prog 78 #[.pointer (some ⟨p, 0, none⟩)] wr fun e w1 => ∃ (a : Nat) (b : Nat) (c : Nat) (d : Nat) (e0 : Nat) (f : Nat) (g : Nat) (ph : Int) (p0 : Nat) (q0 : Nat) (r0 : Nat) (z0 : Nat) (t0 : ByteArray), e = .returned (.agg #[.int .u64 (a : Int), .int .u64 (b : Int), .int .u64 (c : Int), .int .u64 (d : Int), .int .u64 (e0 : Int), .int .u64 (f : Int), .int .u64 (g : Int), .int .i64 ph, .int .u64 (p0 : Int), .int .u64 (q0 : Int), .int .u64 (r0 : Int), .int .u64 (z0 : Int), .string t0]) ∧ Hid ((rdDe (rdL rdDe s1 k).2).1.cells = [.int .u64 (a : Int), .int .u64 (b : Int), .int .u64 (c : Int), .int .u64 (d : Int), .int .u64 (e0 : Int), .int .u64 (f : Int), .int .u64 (g : Int), .int .i64 ph, .int .u64 (p0 : Int), .int .u64 (q0 : Int), .int .u64 (r0 : Int), .int .u64 (z0 : Int), .string t0] ∧ At_ lim p wr (rdDe (rdL rdDe s1 k).2).2 w1)) :=
        (readDeal_any HS.out.2.1).mono fun _ _ ⟨he, G⟩ => ⟨_, _, _, _, _, _, _, _, _, _, _, _, _, he, rfl, G.out⟩
      go_wp2_with fail
      refine HRV.out.mono ?_
      rintro e w2 ⟨a, b, c, d, e0, f, g, ph, p0, q0, r0, z0, t0, rfl, G2⟩
      have hsz := Nat.le_trans HS.out.2.2.size G2.out.2.2.size
      have HOW : Hid (∀ o, (w2.alloc o).ownsRow w.heap.size 58 13 (.slice ao k cap) k (flat De.cells (rdL rdDe s1 k).1)) := fun o => by
        have r := (HS.out.1.kept G2.out.2.2 (.inr (fun e => absurd (World.ownsRow.lt HS.out.1 p e).1 (Nat.not_le.2 hpw)))).quiet (World.grownBy_alloc w2 o none)
        unfold Rw at r
        rw [HLN.out k] at r
        exact r
      have HNX : Hid (∀ (v' : Value) (w3 : World) (o : Obj), w3.ownsRow w.heap.size 58 13 v' (k + 1) (flat De.cells (rdL rdDe s1 k).1 ++ [.int .u64 (a : Int), .int .u64 (b : Int), .int .u64 (c : Int), .int .u64 (d : Int), .int .u64 (e0 : Int), .int .u64 (f : Int), .int .u64 (g : Int), .int .i64 ph, .int .u64 (p0 : Int), .int .u64 (q0 : Int), .int .u64 (r0 : Int), .int .u64 (z0 : Int), .string t0]) → (w2.alloc o).grownBy w3 (Value.slice ao k cap).ownBlock → Rw w.heap.size w3 58 13 De.cells v' (rdL rdDe s1 (k + 1)).1 ∧ At_ lim p w (rdL rdDe s1 (k + 1)).2 w3) := fun v' w3 o ho hg => by
        refine ⟨?_, ?_⟩
        · unfold Rw
          rw [HLN.out (k + 1), rdL, flat_snoc, G2.out.1]
          exact ho
        · have a1 := (HS.out.2.trans G2.out.2).alloc o
          cases hb : (Value.slice ao k cap).ownBlock with
          | none => rw [hb] at hg; exact a1.quiet hg
          | some g => rw [hb] at hg; exact a1.box hpw (World.ownsRow.lt HS.out.1 g hb).1 hg
      clear HRV
      go_wp2_with (first
        | (at_builtin; refine wpList_append_own _ rfl (.tmp 13) (.tmp 17) 28 rfl w.heap.size 58 i0 (.agg #[.int .u64 0, .int .u64 0, .int .u64 0, .int .u64 0, .int .u64 0, .int .u64 0, .int .u64 0, .int .i64 0, .int .u64 0, .int .u64 0, .int .u64 0, .int .u64 0, .string ⟨#[]⟩]) 13 112 Tryz.underlying28 hi0 hz0 hz1 hz2 rfl (by decide) (.slice ao k cap) k (flat De.cells (rdL rdDe s1 k).1) rfl (HOW.out _) ⟨w2.heap.size, 0, none⟩ 1 1 [.int .u64 (a : Int), .int .u64 (b : Int), .int .u64 (c : Int), .int .u64 (d : Int), .int .u64 (e0 : Int), .int .u64 (f : Int), .int .u64 (g : Int), .int .i64 ph, .int .u64 (p0 : Int), .int .u64 (q0 : Int), .int .u64 (r0 : Int), .int .u64 (z0 : Int), .string t0] rfl rfl (cells_newN _ _ _) (by simp [Value.oneCell']) (by unfold maxLen; omega) (by omega) (Nat.le_trans hsz (by simp)) ?_; intro v' w3 ho hg _; obtain ⟨g', cap', rfl⟩ := ownsRow_succN ho; have NX := hide (HNX.out _ _ _ ho hg); clear ho hg))
      go_roundw
      case rel => exact ⟨k + 1, by omega, by go_num, _, _, rfl, NX.out⟩
      case measure => simp [intOf]; omega
    · obtain rfl : k = n := by omega
      have hl : rc.1.length = k := by rw [HE.out]; exact HLN.out k
      have FIN := HS.out
      rw [← HE.out] at FIN
      have HF := hide FIN
      clear FIN HS
      go_wp2
      go_ret
      exact ⟨ao, cap, by rw [hl]; rfl, by rw [hl]; exact HF.out⟩
end Go.Proofs.YtiijbboigebhcaaGreatDoor
namespace Go.Proofs.YtiijbboigebhcaaGreatDoor
open Go.RowKit Crc

/-- A ledger's image, an image: their values as they are read. -/
structure Bk where
  (tot nx : Nat) (A : List Ac) (H : List Ho) (J : List En)
structure Im where
  (slot now : Nat) (b : Bk) (D : List De) (ends : Nat) (S : List (Nat × Nat × Nat × Nat × List Nat))
def bkA (s : RS) : List Ac × RS := rdC rdAc 64 (nS (nS s))
def bkH (s : RS) : List Ho × RS := rdC rdHo 64 (bkA s).2
def bkJ (s : RS) : List En × RS := rdC rdEn 64 (bkH s).2
def rdBk (s : RS) : Bk × RS := (⟨nV s, nV (nS s), (bkA s).1, (bkH s).1, (bkJ s).1⟩, (bkJ s).2)
def imB (s : RS) : Bk × RS := rdBk (nS (nS s))
def imD (s : RS) : List De × RS := rdC rdDe 32 (nS (imB s).2)
def imS (s : RS) : List (Nat × Nat × Nat × Nat × List Nat) × RS := rdC rdSn 16 (imD s).2
def rdIm (s : RS) : Im × RS := (⟨nV s, nV (nS s), (imB s).1, (imD s).1, nV (imB s).2, (imS s).1⟩, (imS s).2)
theorem pl_bkA {s : RS} (h : s.Pl) : (bkA s).2.Pl := by unfold bkA; exact pl_C pl_Ac 64 (pl_n (pl_n h))
theorem pl_bkH {s : RS} (h : s.Pl) : (bkH s).2.Pl := by
  have q := pl_bkA h
  unfold bkH
  generalize (bkA s).2 = x at *
  exact pl_C pl_Ho 64 q
theorem pl_bkJ {s : RS} (h : s.Pl) : (bkJ s).2.Pl := by
  have q := pl_bkH h
  unfold bkJ
  generalize (bkH s).2 = x at *
  exact pl_C pl_En 64 q
theorem pl_Bk {s : RS} (h : s.Pl) : (rdBk s).2.Pl := by
  have q := pl_bkJ h
  unfold rdBk
  generalize bkJ s = x at *
  exact q
theorem pl_imB {s : RS} (h : s.Pl) : (imB s).2.Pl := by
  have q := pl_n (pl_n h)
  unfold imB
  generalize nS (nS s) = x at *
  exact pl_Bk q
theorem pl_imD {s : RS} (h : s.Pl) : (imD s).2.Pl := by
  have q := pl_n (pl_imB h)
  unfold imD
  generalize nS (imB s).2 = x at *
  exact pl_C pl_De 32 q
theorem pl_imS {s : RS} (h : s.Pl) : (imS s).2.Pl := by
  have q := pl_imD h
  unfold imS
  generalize (imD s).2 = x at *
  exact pl_C pl_Sn 16 q
theorem pl_Im {s : RS} (h : s.Pl) : (rdIm s).2.Pl := by
  have q := pl_imS h
  unfold rdIm
  generalize imS s = x at *
  exact q
/-- The three lists of a ledger's image, in memory of their own. -/
structure OwnBk (base : Nat) (w : World) (va vh vj : Value) (A : List Ac) (H : List Ho) (J : List En) : Prop where
  a : Rw base w 63 4 Ac.cells va A
  h : Rw base w 65 3 Ho.cells vh H
  j : Rw base w 67 5 En.cells vj J
theorem Rw.past {α : Type} {base : Nat} {w w' : World} {e : TypeId} {z : Nat} {f : α → List Value} {v : Value} {L : List α} {row : Option Nat} (h : Rw base w e z f v L) (hg : w.grownBy w' row) (hr : ∀ g, row = some g → g < base) : Rw base w' e z f v L := h.kept hg (by
  cases e : v.ownBlock with
  | none => exact .inl rfl
  | some g => exact .inr (fun e2 => by have := (World.ownsRow.lt h g e).1; have := hr g e2.symm; omega))
theorem OwnBk.past {base : Nat} {w w' : World} {va vh vj : Value} {A : List Ac} {H : List Ho} {J : List En} {row : Option Nat} (h : OwnBk base w va vh vj A H J) (hg : w.grownBy w' row) (hr : ∀ g, row = some g → g < base) : OwnBk base w' va vh vj A H J := ⟨h.a.past hg hr, h.h.past hg hr, h.j.past hg hr⟩
theorem OwnBk.lower {base base' : Nat} {w : World} {va vh vj : Value} {A : List Ac} {H : List Ho} {J : List En} (h : OwnBk base w va vh vj A H J) (hb : base' ≤ base) : OwnBk base' w va vh vj A H J := ⟨h.a.lower hb, h.h.lower hb, h.j.lower hb⟩
theorem some_lt {p b : Nat} (h : p < b) : ∀ g, some p = some g → g < b := fun g e => by cases e; exact h
set_option maxRecDepth 10000 in
set_option maxHeartbeats 1600000 in
theorem readBook_any {lim p : Nat} {w : World} {s : RS} (h : RdP lim w (some ⟨p, 0, none⟩) s) : Calls Tryz.prog 76 #[.pointer (some ⟨p, 0, none⟩)] w fun e w' => ∃ (x y : Nat) (a : Option Addr) (na ca : Nat) (b : Option Addr) (nb cb : Nat) (c : Option Addr) (nc cc : Nat), e = .returned (.agg #[.int .u64 (x : Int), .int .u64 (y : Int), .slice a na ca, .slice b nb cb, .slice c nc cc]) ∧ Hid (x = (rdBk s).1.tot ∧ y = (rdBk s).1.nx ∧ OwnBk w.heap.size w' (.slice a na ca) (.slice b nb cb) (.slice c nc cc) (rdBk s).1.A (rdBk s).1.H (rdBk s).1.J ∧ At_ lim p w (rdBk s).2 w') := by
  have hpw := (At_.start h).pos.2
  obtain ⟨W0, hW0⟩ : ∃ W0, w.alloc (.cells #[.int .u64 0, .int .u64 0, .slice none 0 0, .slice none 0 0, .slice none 0 0] 27) = W0 := ⟨_, rfl⟩
  have s0 : W0.heap.size = w.heap.size + 1 := by rw [← hW0]; simp
  have a0 : At_ lim p w s W0 := by rw [← hW0]; exact (At_.start h).alloc _
  have q0 : W0.heap[w.heap.size]? = some (.cells #[.int .u64 0, .int .u64 0, .slice none 0 0, .slice none 0 0, .slice none 0 0] 27 (0, 0)) := by rw [← hW0]; exact alloc_atN _ _
  have RES : Hid (∀ s' W, At_ lim p W0 s' W → W.heap[w.heap.size]? = some (.cells #[.int .u64 0, .int .u64 0, .slice none 0 0, .slice none 0 0, .slice none 0 0] 27 (0, 0)) ∧ At_ lim p w s' W) := fun s' W hb => ⟨(hb.block (by omega) (by omega)).trans q0, a0.trans hb⟩
  have H0 := hide a0.again
  have HW0 := hide hW0
  have HS0 := hide s0
  have hpW : p < W0.heap.size := by omega
  have N0 : Hid (∀ W, At_ lim p W0 s W → Calls Tryz.prog 75 #[.pointer (some ⟨p, 0, none⟩)] W fun e w' => e = .returned (.int .u64 ((nV s : Nat) : Int)) ∧ Hid (At_ lim p W0 (nS s) w')) := fun W h => num_at h
  have N1 : Hid (∀ W, At_ lim p W0 (nS s) W → Calls Tryz.prog 75 #[.pointer (some ⟨p, 0, none⟩)] W fun e w' => e = .returned (.int .u64 ((nV (nS s) : Nat) : Int)) ∧ Hid (At_ lim p W0 (nS (nS s)) w')) := fun W h => num_at h
  have NAc : Hid (∀ W, At_ lim p W0 (nS (nS s)) W → Calls Tryz.prog 115 #[.pointer (some ⟨p, 0, none⟩), .int .i64 64, .func (.func 116) #[] #[]] W fun e w' => ∃ ao cap, e = .returned (.slice ao (bkA s).1.length cap) ∧ Hid (Rw W0.heap.size w' 63 4 Ac.cells (.slice ao (bkA s).1.length cap) (bkA s).1 ∧ W.grownBy w' (some p) ∧ At_ lim p W0 (bkA s).2 w')) := fun W hW => (readList_Ac hW.1).mono fun _ _ ⟨ao, cap, e, G⟩ => ⟨ao, cap, e, G.out.1.lower hW.2.size, G.out.2.2, hW.trans G.out.2⟩
  have NHo : Hid (∀ W, At_ lim p W0 (bkA s).2 W → Calls Tryz.prog 117 #[.pointer (some ⟨p, 0, none⟩), .int .i64 64, .func (.func 118) #[] #[]] W fun e w' => ∃ ao cap, e = .returned (.slice ao (bkH s).1.length cap) ∧ Hid (Rw W0.heap.size w' 65 3 Ho.cells (.slice ao (bkH s).1.length cap) (bkH s).1 ∧ W.grownBy w' (some p) ∧ At_ lim p W0 (bkH s).2 w')) := fun W hW => (readList_Ho hW.1).mono fun _ _ ⟨ao, cap, e, G⟩ => ⟨ao, cap, e, G.out.1.lower hW.2.size, G.out.2.2, hW.trans G.out.2⟩
  have NEn : Hid (∀ W, At_ lim p W0 (bkH s).2 W → Calls Tryz.prog 119 #[.pointer (some ⟨p, 0, none⟩), .int .i64 64, .func (.func 120) #[] #[]] W fun e w' => ∃ ao cap, e = .returned (.slice ao (bkJ s).1.length cap) ∧ Hid (Rw W0.heap.size w' 67 5 En.cells (.slice ao (bkJ s).1.length cap) (bkJ s).1 ∧ W.grownBy w' (some p) ∧ At_ lim p W0 (bkJ s).2 w')) := fun W hW => (readList_En hW.1).mono fun _ _ ⟨ao, cap, e, G⟩ => ⟨ao, cap, e, G.out.1.lower hW.2.size, G.out.2.2, hW.trans G.out.2⟩
  have HE : Hid ((rdBk s).1 = ⟨nV s, nV (nS s), (bkA s).1, (bkH s).1, (bkJ s).1⟩ ∧ (rdBk s).2 = (bkJ s).2) := ⟨rfl, rfl⟩
  clear h hW0 s0 a0 q0
  generalize rdBk s = rb at *
  generalize bkA s = xa at *
  generalize bkH s = xb at *
  generalize bkJ s = xc at *
  generalize nV (nS s) = y at *
  generalize nV s = x at *
  generalize nS (nS s) = s2 at *
  generalize nS s = s1 at *
  obtain ⟨xa, xs1⟩ := xa
  obtain ⟨xb, xs2⟩ := xb
  obtain ⟨xc, xs3⟩ := xc
  dsimp only at *
  generalize hla : xa.length = la at *
  generalize hlb : xb.length = lb at *
  generalize hlc : xc.length = lc at *
  go_enter Tryz.func76, Tryz.ntmps76
  go_wp2_with fail
  rw [HW0.out]
  refine (N0.out _ H0.out).mono ?_
  rintro e w1 ⟨rfl, H1⟩
  go_wp2_with fail
  refine (N1.out _ H1.out).mono ?_
  rintro e w2 ⟨rfl, H2⟩
  go_wp2_with fail
  refine (NAc.out _ H2.out).mono ?_
  rintro e w3 ⟨a, ca, rfl, G3⟩
  go_wp2_with fail
  refine (NHo.out _ G3.out.2.2).mono ?_
  rintro e w4 ⟨b, cb, rfl, G4⟩
  go_wp2_with fail
  refine (NEn.out _ G4.out.2.2).mono ?_
  rintro e w5 ⟨c, cc, rfl, G5⟩
  have RC : Hid (OwnBk W0.heap.size w5 (.slice a la ca) (.slice b lb cb) (.slice c lc cc) xa xb xc) := ⟨(G3.out.1.past G4.out.2.1 (some_lt hpW)).past G5.out.2.1 (some_lt hpW), G4.out.1.past G5.out.2.1 (some_lt hpW), G5.out.1⟩
  obtain ⟨hC, hA⟩ := RES.out _ _ G5.out.2.2
  have z0 := block_cell hC 0
  have f0 := block_free hC 0
  have z1 := block_cell hC 1
  have f1 := block_free hC 1
  have z2 := block_cell hC 2
  have f2 := block_free hC 2
  have z3 := block_cell hC 3
  have f3 := block_free hC 3
  have z4 := block_cell hC 4
  have f4 := block_free hC 4
  simp at z0 z1 z2 z3 z4
  have FIN : Hid (∀ x0 x1 x2 x3 x4, OwnBk w.heap.size (((((w5.setCell ⟨w.heap.size, 0, none⟩ x0).setCell ⟨w.heap.size, 1, none⟩ x1).setCell ⟨w.heap.size, 2, none⟩ x2).setCell ⟨w.heap.size, 3, none⟩ x3).setCell ⟨w.heap.size, 4, none⟩ x4) (.slice a la ca) (.slice b lb cb) (.slice c lc cc) xa xb xc ∧ At_ lim p w xs3 (((((w5.setCell ⟨w.heap.size, 0, none⟩ x0).setCell ⟨w.heap.size, 1, none⟩ x1).setCell ⟨w.heap.size, 2, none⟩ x2).setCell ⟨w.heap.size, 3, none⟩ x3).setCell ⟨w.heap.size, 4, none⟩ x4)) := fun x0 x1 x2 x3 x4 => by
    have g : w5.grownBy (((((w5.setCell ⟨w.heap.size, 0, none⟩ x0).setCell ⟨w.heap.size, 1, none⟩ x1).setCell ⟨w.heap.size, 2, none⟩ x2).setCell ⟨w.heap.size, 3, none⟩ x3).setCell ⟨w.heap.size, 4, none⟩ x4) (some w.heap.size) := (grown_trans (row := some w.heap.size) (grown_trans (row := some w.heap.size) (grown_trans (row := some w.heap.size) (grown_trans (row := some w.heap.size) (grown_set _ _ _ _) (grown_set _ _ _ _)) (grown_set _ _ _ _)) (grown_set _ _ _ _)) (grown_set _ _ _ _))
    have hs := HS0.out
    exact ⟨(RC.out.past g (some_lt (by omega))).lower (by omega), hA.box hpw (Nat.le_refl _) g⟩
  clear hC hA RES HW0 H0 H1 H2 G3 G4 G5 RC HS0 N0 N1 NAc NHo NEn
  go_wp2
  refine bodyPost_ret (v := .agg #[.int .u64 (x : Int), .int .u64 (y : Int), .slice a la ca, .slice b lb cb, .slice c lc cc]) (by simp [results, Tryz.results76, go_sem, z0, z1, z2, z3, z4]) rfl ?_
  refine ⟨x, y, a, la, ca, b, lb, cb, c, lc, cc, rfl, ?_⟩
  show _ ∧ _ ∧ _ ∧ _
  rw [HE.out.1, HE.out.2]
  exact ⟨rfl, rfl, FIN.out _ _ _ _ _⟩
end Go.Proofs.YtiijbboigebhcaaGreatDoor
