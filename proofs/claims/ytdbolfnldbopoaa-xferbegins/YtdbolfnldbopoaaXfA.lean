import Derived.Test.YtdbolfnldbopoaaBPf
import Derived.Test.YtdbolfnldbopoaaBPg
import Derived.Test.YtdbolfnldbopoaaBPh
import Derived.Test.YtdbolfnldbopoaaBAs
import Derived.Test.YtdbolfnldbopoaaBGs
import Derived.Test.YtdbolfnldbopoaaHWr
namespace Go.Proofs.Ytdbolfnldbopoaa
open Go.RowKit

def xferN : ByteArray := ⟨#[120, 102, 101, 114]⟩
set_option maxRecDepth 10000 in
set_option maxHeartbeats 800000 in
/-- refusal, whatever lies behind it. -/
theorem refusalX {w : World} (at_ : Int) {c : Int} {L : List Lk} {v : Value} (h : Chain w.heap.size w L v c) : Calls Try.prog 27 #[.int .i64 at_, v] w fun e w' => ∃ g, e = .returned (.iface 91 (.pointer (some ⟨g, 0, none⟩))) ∧ Hid (Chain w'.heap.size w' (⟨xferN, at_⟩ :: L) (.iface 91 (.pointer (some ⟨g, 0, none⟩))) c ∧ Below w.heap.size w w') := by
  obtain ⟨t, x, rfl, hx⟩ : ∃ t x, v = .iface t x ∧ x.cells = #[x] := by
    cases L with
    | nil => exact ⟨_, _, h, rfl⟩
    | cons l r => obtain ⟨g, u, rfl, _⟩ := h; exact ⟨_, _, rfl, rfl⟩
  have HH := hide h
  have HB : Hid (∀ o, Below w.heap.size w (w.alloc o)) := fun o => (Below.refl _ _).alloc (Nat.le_refl _) _
  have HC : Hid (∀ t', (w.alloc (.cells #[.string xferN, .int .i64 at_, .iface t x] t')).heap[w.heap.size]? = some (.cells #[.string xferN, .int .i64 at_, .iface t x] t' (0, 0))) := fun t => alloc_atK _ _
  clear h
  go_enter Try.func27, Try.ntmps27
  go_wp2
  go_ret
  exact ⟨_, rfl, ⟨_, _, rfl, block_lt (HC.out _), block_cell (HC.out _) 0, block_cell (HC.out _) 1, block_cell (HC.out _) 2, (Chain.below (HB.out _) HH.out).wide (HB.out _).size⟩, HB.out _⟩
theorem neq_err (g : Nat) (w : World) : (binOp BinOp.neq 27 (.iface 91 (.pointer (some ⟨g, 0, none⟩))) .nilIface).run Try.prog w = .ok (.bool true) w := by kernel_rfl
theorem Chain.otherP {n q : Nat} {W W' : World} (hg : W.grownBy W' (some q)) {o : Option Addr} (hq : W.cell? ⟨q, 0, none⟩ = some (.pointer o)) : ∀ {L : List Lk} {u : Value} {c : Int}, Chain n W L u c → Chain n W' L u c
  | [], _, _, h => h
  | l :: r, u, c, h => by
    obtain ⟨g, v, e, hlt, h0, h1, h2, h3⟩ := h
    have hne : g ≠ q := fun e => by rw [e, hq] at h0; cases h0
    have hne' : some g ≠ some q := fun e => hne (by cases e; rfl)
    exact ⟨g, v, e, hlt, hg.cell h0 hne', hg.cell h1 hne', hg.cell h2 hne', Chain.otherP hg hq h3⟩
/-- A seat's box. -/
def SBox (p : Nat) (W : World) : Prop := W.heap[p]? = some (.cells #[.pointer none, .int .i64 0] 56 (0, 0))
theorem SBox.kept {p : Nat} {W W' : World} (h : SBox p W) (hb : Below W.heap.size W W') : SBox p W' := (hb.block _ (block_lt h)).trans h
theorem sbox_fin {p : Nat} {w w3 : World} (hr : SBox p w3) (hp : w.heap.size ≤ p) (hb : Below w.heap.size w w3) (u0 u1 : Value) :
    Below w.heap.size w ((w3.setCell ⟨p, 0, none⟩ u0).setCell ⟨p, 1, none⟩ u1) ∧ (∀ {L : List Lk} {u : Value} {c : Int}, Chain w3.heap.size w3 L u c → Chain ((w3.setCell ⟨p, 0, none⟩ u0).setCell ⟨p, 1, none⟩ u1).heap.size ((w3.setCell ⟨p, 0, none⟩ u0).setCell ⟨p, 1, none⟩ u1) L u c) ∧ w3.grownBy ((w3.setCell ⟨p, 0, none⟩ u0).setCell ⟨p, 1, none⟩ u1) (some p) := by
  have hg : w3.grownBy ((w3.setCell ⟨p, 0, none⟩ u0).setCell ⟨p, 1, none⟩ u1) (some p) := grown_trans (grown_set w3 p 0 u0) (grown_set _ p 1 u1)
  have hs : ((w3.setCell ⟨p, 0, none⟩ u0).setCell ⟨p, 1, none⟩ u1).heap.size = w3.heap.size := by simp
  refine ⟨hb.grown hg hb.size (fun k hk => by cases hk; exact hp), fun h => ?_, hg⟩
  rw [hs]
  exact h.otherP hg (o := none) (block_cell hr 0)
set_option maxRecDepth 10000 in
set_option maxHeartbeats 1600000 in
theorem seat_bad (c : Cf) (hin : c.In) (k : Nat) (hk : badOf c.oks = (k : Int)) (me : Int) (w : World) : Calls Try.prog 14 #[.agg c.cells, .int .i64 me] w fun e w' => ∃ g, e = .returned (.tuple #[.agg #[.pointer none, .int .i64 0], .iface 91 (.pointer (some ⟨g, 0, none⟩))]) ∧ Hid (Chain w'.heap.size w' [⟨xferN, 0⟩, ⟨ballotN, (k : Int)⟩] (.iface 91 (.pointer (some ⟨g, 0, none⟩))) 180 ∧ Below w.heap.size w w') := by
  obtain ⟨W1, hW1⟩ : ∃ W1, (w.alloc (.cells c.cells 24)).alloc (.cells #[.pointer none, .int .i64 0] 56) = W1 := ⟨_, rfl⟩
  have hs1 : (w.alloc (.cells c.cells 24)).heap.size = w.heap.size + 1 := by simp
  have Q1 : Hid (SBox (w.heap.size + 1) W1) := by rw [← hW1, ← hs1]; exact alloc_atK _ _
  have B1 : Hid (Below w.heap.size w W1) := by rw [← hW1]; exact ((Below.refl _ w).alloc (Nat.le_refl _) _).alloc (by simp) _
  have C1 : W1.heap[w.heap.size]? = some (.cells c.cells 24 (0, 0)) := by
    rw [← hW1]
    exact (Below.heap_alloc _ _ _ (by simp)).trans (alloc_atK _ _)
  obtain ⟨z0, z1, z2, z3, z4, z5, z6, z7, z8, z9⟩ := cfg_cells C1
  have HNW : Hid (Calls Try.prog 26 #[.agg c.cells] W1 fun e w' => ∃ g, e = .returned (.tuple #[.pointer none, .iface 91 (.pointer (some ⟨g, 0, none⟩))]) ∧ Hid (Below W1.heap.size W1 w' ∧ Chain w'.heap.size w' [⟨ballotN, (k : Int)⟩] (.iface 91 (.pointer (some ⟨g, 0, none⟩))) 180)) := (new_any c hin W1).mono fun _ _ ⟨a, ev, h1, h2⟩ => by
    rcases h2.out.2 with ⟨h3, _⟩ | ⟨k', h3, h4, h5⟩
    · rw [hk] at h3; omega
    · have e : k' = k := by omega
      rw [e] at h5
      obtain ⟨g, u, e5, _⟩ := id h5
      rw [e5] at h5 h1
      rw [h4] at h1
      exact ⟨g, h1, h2.out.1, h5⟩
  clear hin hk
  have HW1 := hide hW1
  clear hW1 hs1 C1
  unfold Cf.cells at *
  generalize c.f = f at *
  generalize c.mb = mb at *
  generalize (c.delay : Int) = d at *
  generalize (c.win : Int) = wn at *
  generalize (c.every : Int) = ev at *
  generalize (c.beat : Int) = bt at *
  generalize (c.ep : Int) = ep at *
  generalize (c.em : Int) = em at *
  generalize (c.mn : Int) = mn at *
  generalize (c.ms : Int) = ms at *
  go_enter Try.func14, Try.ntmps14
  go_upto_region 1 with fail
  rw [HW1.out]
  clear HW1
  go_wp2_with fail
  refine HNW.out.mono ?_
  rintro e w2 ⟨g, rfl, G2⟩
  have Q2 := hide (Q1.out.kept G2.out.1)
  have B2 := hide (B1.out.trans (G2.out.1.mono B1.out.size))
  clear z0 z1 z2 z3 z4 z5 z6 z7 z8 z9 Q1 B1 HNW
  have hne := neq_err g
  go_wp2_with fail
  refine (refusalX 0 G2.out.2).mono ?_
  rintro e w3 ⟨g3, rfl, G3⟩
  have Q3 := hide (Q2.out.kept G3.out.2)
  have B3 := hide (B2.out.trans (G3.out.2.mono B2.out.size))
  clear Q2 B2 G2 hne
  have x0 : w3.cell? ⟨w.heap.size + 1, 0, none⟩ = some (.pointer none) := block_cell Q3.out 0
  have x1 : w3.cell? ⟨w.heap.size + 1, 1, none⟩ = some (.int .i64 0) := block_cell Q3.out 1
  have g0 := block_free Q3.out 0
  have g1 := block_free Q3.out 1
  have hl3 := block_lt Q3.out
  have FIN := hide (sbox_fin (w := w) Q3.out (by omega) B3.out)
  have CH3 := hide G3.out.1
  clear G3 B3 Q3
  go_wp2
  refine bodyPost_ret (v := .tuple #[.agg #[.pointer none, .int .i64 0], .iface 91 (.pointer (some ⟨g3, 0, none⟩))]) (by simp [results, Try.results14, go_sem, x0, x1]) rfl ?_
  obtain ⟨h1, h2, -⟩ := FIN.out (.pointer none) (.int .i64 0)
  exact ⟨g3, rfl, h2 CH3.out, h1⟩
set_option maxRecDepth 10000 in
set_option maxHeartbeats 1600000 in
theorem seat_node (c : Cf) (hin : c.In) (hk : badOf c.oks = -1) (me : Int) (hn : c.node me = false) (w : World) : Calls Try.prog 14 #[.agg c.cells, .int .i64 me] w fun e w' => ∃ g, e = .returned (.tuple #[.agg #[.pointer none, .int .i64 0], .iface 91 (.pointer (some ⟨g, 0, none⟩))]) ∧ Hid (Chain w'.heap.size w' [⟨xferN, 1⟩] (.iface 91 (.pointer (some ⟨g, 0, none⟩))) 182 ∧ Below w.heap.size w w') := by
  obtain ⟨W1, hW1⟩ : ∃ W1, (w.alloc (.cells c.cells 24)).alloc (.cells #[.pointer none, .int .i64 0] 56) = W1 := ⟨_, rfl⟩
  have hs1 : (w.alloc (.cells c.cells 24)).heap.size = w.heap.size + 1 := by simp
  have Q1 : Hid (SBox (w.heap.size + 1) W1) := by rw [← hW1, ← hs1]; exact alloc_atK _ _
  have B1 : Hid (Below w.heap.size w W1) := by rw [← hW1]; exact ((Below.refl _ w).alloc (Nat.le_refl _) _).alloc (by simp) _
  have C1 : W1.heap[w.heap.size]? = some (.cells c.cells 24 (0, 0)) := by
    rw [← hW1]
    exact (Below.heap_alloc _ _ _ (by simp)).trans (alloc_atK _ _)
  obtain ⟨z0, z1, z2, z3, z4, z5, z6, z7, z8, z9⟩ := cfg_cells C1
  have HNW : Hid (Calls Try.prog 26 #[.agg c.cells] W1 fun e w' => ∃ g, e = .returned (.tuple #[.pointer (some ⟨g, 0, none⟩), .nilIface]) ∧ Hid (Below W1.heap.size W1 w' ∧ PG w' (some ⟨g, 0, none⟩) c)) := (new_any c hin W1).mono fun _ _ ⟨a, ev, h1, h2⟩ => by
    rcases h2.out.2 with ⟨_, h3, h4⟩ | ⟨k', h3, _⟩
    · obtain ⟨g, rfl, h5⟩ := h4
      subst h3
      exact ⟨g, h1, h2.out.1, ⟨g, rfl, h5⟩⟩
    · rw [hk] at h3; omega
  have HND : Hid (∀ W a, PG W a c → Calls Try.prog 28 #[.pointer a, .int .i64 me] W fun e w' => e = .returned (.bool false) ∧ w' = W) := fun W a h => by rw [← hn]; exact node_live me h (cf_ok hk)
  clear hin hk hn
  have HW1 := hide hW1
  clear hW1 hs1 C1
  unfold Cf.cells at *
  generalize c.f = f at *
  generalize c.mb = mb at *
  generalize (c.delay : Int) = d at *
  generalize (c.win : Int) = wn at *
  generalize (c.every : Int) = ev at *
  generalize (c.beat : Int) = bt at *
  generalize (c.ep : Int) = ep at *
  generalize (c.em : Int) = em at *
  generalize (c.mn : Int) = mn at *
  generalize (c.ms : Int) = ms at *
  go_enter Try.func14, Try.ntmps14
  go_upto_region 1 with fail
  rw [HW1.out]
  clear HW1
  go_wp2_with fail
  refine HNW.out.mono ?_
  rintro e w2 ⟨g, rfl, G2⟩
  have Q2 := hide (Q1.out.kept G2.out.1)
  have B2 := hide (B1.out.trans (G2.out.1.mono B1.out.size))
  clear z0 z1 z2 z3 z4 z5 z6 z7 z8 z9 Q1 B1 HNW
  go_wp2_with fail
  refine (HND.out _ _ G2.out.2).mono ?_
  rintro e w2' ⟨rfl, rfl⟩
  go_wp2_with fail
  refine (refusalX (L := []) (c := 182) 1 rfl).mono ?_
  rintro e w3 ⟨g3, rfl, G3⟩
  have Q3 := hide (Q2.out.kept G3.out.2)
  have B3 := hide (B2.out.trans (G3.out.2.mono B2.out.size))
  clear Q2 B2 G2 HND
  have x0 : w3.cell? ⟨w.heap.size + 1, 0, none⟩ = some (.pointer none) := block_cell Q3.out 0
  have x1 : w3.cell? ⟨w.heap.size + 1, 1, none⟩ = some (.int .i64 0) := block_cell Q3.out 1
  have g0 := block_free Q3.out 0
  have g1 := block_free Q3.out 1
  have hl3 := block_lt Q3.out
  have FIN := hide (sbox_fin (w := w) Q3.out (by omega) B3.out)
  have CH3 := hide G3.out.1
  clear G3 B3 Q3
  go_wp2
  refine bodyPost_ret (v := .tuple #[.agg #[.pointer none, .int .i64 0], .iface 91 (.pointer (some ⟨g3, 0, none⟩))]) (by simp [results, Try.results14, go_sem, x0, x1]) rfl ?_
  obtain ⟨h1, h2, -⟩ := FIN.out (.pointer none) (.int .i64 0)
  exact ⟨g3, rfl, h2 CH3.out, h1⟩
set_option maxRecDepth 10000 in
set_option maxHeartbeats 1600000 in
theorem seat_ok (c : Cf) (hin : c.In) (hk : badOf c.oks = -1) (me : Int) (hn : c.node me = true) (w : World) : Calls Try.prog 14 #[.agg c.cells, .int .i64 me] w fun e w' => ∃ g, e = .returned (.tuple #[.agg #[.pointer (some ⟨g, 0, none⟩), .int .i64 me], .nilIface]) ∧ Hid (PG w' (some ⟨g, 0, none⟩) c ∧ Below w.heap.size w w') := by
  obtain ⟨W1, hW1⟩ : ∃ W1, (w.alloc (.cells c.cells 24)).alloc (.cells #[.pointer none, .int .i64 0] 56) = W1 := ⟨_, rfl⟩
  have hs1 : (w.alloc (.cells c.cells 24)).heap.size = w.heap.size + 1 := by simp
  have Q1 : Hid (SBox (w.heap.size + 1) W1) := by rw [← hW1, ← hs1]; exact alloc_atK _ _
  have B1 : Hid (Below w.heap.size w W1) := by rw [← hW1]; exact ((Below.refl _ w).alloc (Nat.le_refl _) _).alloc (by simp) _
  have C1 : W1.heap[w.heap.size]? = some (.cells c.cells 24 (0, 0)) := by
    rw [← hW1]
    exact (Below.heap_alloc _ _ _ (by simp)).trans (alloc_atK _ _)
  obtain ⟨z0, z1, z2, z3, z4, z5, z6, z7, z8, z9⟩ := cfg_cells C1
  have HNW : Hid (Calls Try.prog 26 #[.agg c.cells] W1 fun e w' => ∃ g, e = .returned (.tuple #[.pointer (some ⟨g, 0, none⟩), .nilIface]) ∧ Hid (Below W1.heap.size W1 w' ∧ PG w' (some ⟨g, 0, none⟩) c)) := (new_any c hin W1).mono fun _ _ ⟨a, ev, h1, h2⟩ => by
    rcases h2.out.2 with ⟨_, h3, h4⟩ | ⟨k', h3, _⟩
    · obtain ⟨g, rfl, h5⟩ := h4
      subst h3
      exact ⟨g, h1, h2.out.1, ⟨g, rfl, h5⟩⟩
    · rw [hk] at h3; omega
  have HND : Hid (∀ W a, PG W a c → Calls Try.prog 28 #[.pointer a, .int .i64 me] W fun e w' => e = .returned (.bool true) ∧ w' = W) := fun W a h => by rw [← hn]; exact node_live me h (cf_ok hk)
  have HPG : Hid (∀ W W' p g, SBox p W → W.grownBy W' (some p) → PG W (some ⟨g, 0, none⟩) c → PG W' (some ⟨g, 0, none⟩) c) := fun W W' p g hb hg h => by
    obtain ⟨q, e1, h2⟩ := h
    refine ⟨q, e1, (hg.block _ (block_lt h2) (fun e => ?_)).trans h2⟩
    unfold SBox at hb
    cases e
    rw [h2] at hb
    cases hb
  clear hin hk hn
  have HW1 := hide hW1
  clear hW1 hs1 C1
  unfold Cf.cells at *
  generalize c.f = f at *
  generalize c.mb = mb at *
  generalize (c.delay : Int) = d at *
  generalize (c.win : Int) = wn at *
  generalize (c.every : Int) = ev at *
  generalize (c.beat : Int) = bt at *
  generalize (c.ep : Int) = ep at *
  generalize (c.em : Int) = em at *
  generalize (c.mn : Int) = mn at *
  generalize (c.ms : Int) = ms at *
  go_enter Try.func14, Try.ntmps14
  go_upto_region 1 with fail
  rw [HW1.out]
  clear HW1
  go_wp2_with fail
  refine HNW.out.mono ?_
  rintro e w2 ⟨g, rfl, G2⟩
  have Q2 := hide (Q1.out.kept G2.out.1)
  have B2 := hide (B1.out.trans (G2.out.1.mono B1.out.size))
  clear z0 z1 z2 z3 z4 z5 z6 z7 z8 z9 Q1 B1 HNW
  go_wp2_with fail
  refine (HND.out _ _ G2.out.2).mono ?_
  rintro e w2' ⟨rfl, rfl⟩
  have Q3 := Q2
  have x0 : w2'.cell? ⟨w.heap.size + 1, 0, none⟩ = some (.pointer none) := block_cell Q3.out 0
  have x1 : w2'.cell? ⟨w.heap.size + 1, 1, none⟩ = some (.int .i64 0) := block_cell Q3.out 1
  have g0 := block_free Q3.out 0
  have g1 := block_free Q3.out 1
  have hl3 := block_lt Q3.out
  have FIN := hide (sbox_fin (w := w) Q2.out (by omega) B2.out)
  have H2 := hide G2.out.2
  clear G2 B2 Q3
  go_wp2
  refine bodyPost_ret (v := .tuple #[.agg #[.pointer (some ⟨g, 0, none⟩), .int .i64 me], .nilIface]) (by simp [results, Try.results14, go_sem, x0, x1]) rfl ?_
  obtain ⟨h1, -, h3⟩ := FIN.out (.pointer (some ⟨g, 0, none⟩)) (.int .i64 me)
  exact ⟨g, rfl, HPG.out _ _ _ _ Q2.out h3 H2.out, h1⟩
end Go.Proofs.Ytdbolfnldbopoaa
