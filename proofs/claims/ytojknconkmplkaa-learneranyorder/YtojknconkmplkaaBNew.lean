import Derived.Test.YtojknconkmplkaaMB
import Derived.Test.YtojknconkmplkaaBFld
import Derived.Test.YtojknconkmplkaaMA
import Derived.Deep.DeepCutAuto
namespace Go.Proofs.Ytojknconkmplkaa
open Go.RowKit

theorem fv_grownN {lim : Nat} {W W' : World} {ao : Option Addr} {L : List Lk} {b off q : Nat} (h : FV lim W ao L b off) (hg : W.grownBy W' (some q)) (hB : 0 < L.length → b ≠ q) : FV lim W' ao L b off :=
  ⟨h.ad, h.lt, h.le, fun i l hl => by
    have hp : 0 < L.length := by have := (List.getElem?_eq_some_iff.1 hl).1; omega
    have hne : some b ≠ some q := fun e => hB hp (by cases e; rfl)
    exact ⟨hg.cell (h.at_ i l hl).1 hne, hg.cell (h.at_ i l hl).2 hne⟩⟩
theorem fv_neN {w : World} {ao : Option Addr} {L : List Lk} {b off B : Nat} {lim : Nat} {cs : Array Value} {t : TypeId} (hf : FV lim w ao L b off) (hB : w.heap[B]? = some (.cells cs t (0, 0))) (hc : ∀ (i : Nat) (s : ByteArray), cs[i]? ≠ some (.string s)) : 0 < L.length → b ≠ B := fun h0 e => by
  have h1 := (hf.at_ 0 _ (List.getElem?_eq_getElem h0)).1
  rw [e, block_cell hB] at h1
  exact hc _ _ h1
theorem nos (i : Nat) (s : ByteArray) : (#[Value.slice none 0 0, .int .i64 0] : Array Value)[i]? ≠ some (.string s) := by
  rcases i with _ | _ | _
  · simp
  · simp
  · simp
def FBox (p : Nat) (W : World) : Prop := W.heap[p]? = some (.cells #[.slice none 0 0, .int .i64 0] 61 (0, 0))
theorem FBox.kept {p : Nat} {W W' : World} (h : FBox p W) (hb : Below W.heap.size W W') : FBox p W' := (hb.block _ (block_lt h)).trans h
theorem fbox_new (w : World) : FBox w.heap.size (w.alloc (.cells #[.slice none 0 0, .int .i64 0] 61)) := alloc_atK _ _
/-- The fault is laid into its box, which is block p. -/
theorem box_fin {p : Nat} {w w3 : World} {fo : Option Addr} {L : List Lk} {b off : Nat} (hr : FBox p w3) (hp : w.heap.size ≤ p) (hf : FV w3.heap.size w3 fo L b off) (hb : Below w.heap.size w w3) (u0 u1 : Value) :
    (∃ b off, FV ((w3.setCell ⟨p, 0, none⟩ u0).setCell ⟨p, 1, none⟩ u1).heap.size ((w3.setCell ⟨p, 0, none⟩ u0).setCell ⟨p, 1, none⟩ u1) fo L b off) ∧ Below w.heap.size w ((w3.setCell ⟨p, 0, none⟩ u0).setCell ⟨p, 1, none⟩ u1) ∧ w3.grownBy ((w3.setCell ⟨p, 0, none⟩ u0).setCell ⟨p, 1, none⟩ u1) (some p) := by
  have hg : w3.grownBy ((w3.setCell ⟨p, 0, none⟩ u0).setCell ⟨p, 1, none⟩ u1) (some p) := grown_trans (grown_set w3 p 0 u0) (grown_set _ p 1 u1)
  have hs : ((w3.setCell ⟨p, 0, none⟩ u0).setCell ⟨p, 1, none⟩ u1).heap.size = w3.heap.size := by simp
  refine ⟨⟨b, off, ?_⟩, hb.grown hg hb.size (fun k hk => by cases hk; exact hp), hg⟩
  rw [hs]
  exact fv_grownN hf hg (fv_neN hf hr nos)
def ballotN : ByteArray := ⟨#[98, 97, 108, 108, 111, 116]⟩
/-- What the reference's New hands out. -/
def RNewP (w : World) (gp : Value) (L : List Lk) (c : Int) (e : Ending) (w' : World) : Prop := ∃ fo fc, e = .returned (.tuple #[gp, .agg #[.slice fo L.length fc, .int .i64 c]]) ∧ Hid ((∃ b off, FV w'.heap.size w' fo L b off) ∧ Below w.heap.size w w')
set_option maxRecDepth 10000 in
set_option maxHeartbeats 800000 in
theorem refNew_bad (c : Cf) (k : Nat) (hk : badOf c.oks = (k : Int)) (w : World) : Calls Try.prog 26 #[.agg c.cells] w (RNewP w (.pointer none) [⟨ballotN, (k : Int)⟩] 180) := by
  have HNW : Hid (∀ W, Calls Try.prog 29 #[.string ballotN, .int .i64 (k : Int), .int .i64 180] W (FvP W [⟨ballotN, (k : Int)⟩] 180)) := fun W => new0 ballotN k 180 W
  have HFL : Hid (∀ W, Calls Try.prog 45 #[.agg c.cells] W fun e w' => e = .returned (.int .i64 (k : Int)) ∧ Below W.heap.size W w') := fun W => by rw [← hk]; exact refField c W
  unfold FvP at HNW
  unfold RNewP
  unfold ballotN at *
  obtain ⟨W1, hW1⟩ : ∃ W1, (w.alloc (.cells c.cells 24)).alloc (.cells #[.slice none 0 0, .int .i64 0] 61) = W1 := ⟨_, rfl⟩
  have hs1 : (w.alloc (.cells c.cells 24)).heap.size = w.heap.size + 1 := by simp
  have Q1 : Hid (FBox (w.heap.size + 1) W1) := by rw [← hW1, ← hs1]; exact fbox_new _
  have B1 : Hid (Below w.heap.size w W1) := by rw [← hW1]; exact ((Below.refl _ w).alloc (Nat.le_refl _) _).alloc (by simp) _
  have C1 : W1.heap[w.heap.size]? = some (.cells c.cells 24 (0, 0)) := by
    rw [← hW1]
    exact (Below.heap_alloc _ _ _ (by simp)).trans (alloc_atK _ _)
  have q0 : ∀ i, W1.cell? ⟨w.heap.size, i, none⟩ = c.cells[i]? := fun i => block_cell C1 i
  have z0 := q0 0
  have z1 := q0 1
  have z2 := q0 2
  have z3 := q0 3
  have z4 := q0 4
  have z5 := q0 5
  have z6 := q0 6
  have z7 := q0 7
  have z8 := q0 8
  have z9 := q0 9
  clear q0 hk hs1 C1
  unfold Cf.cells at *
  generalize c.f = f at *
  generalize c.mb = mb at *
  generalize (c.delay : Int) = d at *
  generalize (c.win : Int) = wn at *
  generalize (c.every : Int) = ev at *
  generalize (c.beat : Int) = bt at *
  generalize (c.ep : Int) = ep at *
  generalize (c.em : Int) = em at *
  generalize (c.mn : Int) = mn at *
  generalize (c.ms : Int) = ms at *
  simp at z0 z1 z2 z3 z4 z5 z6 z7 z8 z9
  have HW1 := hide hW1
  clear hW1
  go_enter Try.func26, Try.ntmps26
  go_upto_region 1 with fail
  rw [HW1.out]
  clear HW1
  go_wp2_with fail
  refine (HFL.out W1).mono ?_
  rintro e w2 ⟨rfl, hb2⟩
  have Q2 := hide (Q1.out.kept hb2)
  have B2 := hide (B1.out.trans (hb2.mono B1.out.size))
  clear hb2 Q1 B1 HFL z0 z1 z2 z3 z4 z5 z6 z7 z8 z9
  go_wp2_with fail
  refine (HNW.out w2).mono ?_
  rintro e w3 ⟨fo, fc, rfl, G3⟩
  obtain ⟨b, off, hf, hb3⟩ := G3.out
  have r3 := Q2.out.kept hb3
  have FIN := hide (box_fin (w := w) r3 (by omega) hf (B2.out.trans (hb3.mono B2.out.size)))
  have y0 := block_cell r3 0
  have y1 := block_cell r3 1
  have g0 := block_free r3 0
  have g1 := block_free r3 1
  simp at y0 y1
  have hl3 := block_lt r3
  clear r3 hf hb3 G3 B2 Q2 HNW
  go_wp2
  refine bodyPost_ret (v := .tuple #[.pointer none, .agg #[.slice fo 1 fc, .int .i64 180]]) (by simp [results, Try.results26, go_sem, y0, y1]) rfl ?_
  obtain ⟨h1, h2, -⟩ := FIN.out (.slice fo 1 fc) (.int .i64 180)
  exact ⟨fo, fc, rfl, h1, h2⟩
end Go.Proofs.Ytojknconkmplkaa
