import Derived.Test.YtmoklddfaocihaaDoorCvX
import Derived.Test.YtmoklddfaocihaaDoorCvL
namespace Go.Proofs.YtmoklddfaocihaaDoor
open Go.RowKit

theorem hand_ne {p : Pv} {k : Kn} {i d : Nat} {l : List Bool} {y : Int} (h : handF p k i d l = .error y) : y ≠ 0 := by
  unfold handF at h
  split at h
  · cases h; decide
  · split at h
    · cases h; decide
    · split at h
      · cases h
      · split at h
        · cases h; decide
        · cases h
theorem bind_ne {r : Except Int Kn} {f : Kn → Except Int Kn} {y : Int} (h : bindK r f = .error y) (h1 : ∀ z, r = .error z → z ≠ 0) (h2 : ∀ k z, f k = .error z → z ≠ 0) : y ≠ 0 := by
  cases r with
  | ok k => exact h2 k y h
  | error z => cases h; exact h1 y rfl
theorem vis_ne {p : Pv} {k : Kn} {i : Nat} {y : Int} (h : visitF p k i = .error y) : y ≠ 0 := by
  unfold visitF at h
  split at h
  · cases h; decide
  · split at h
    · cases h; decide
    · split at h
      · cases h; decide
      · split at h
        · cases h
        · split at h
          · exact hand_ne h
          · split at h
            · exact bind_ne h (fun z e => hand_ne e) (fun k z e => hand_ne e)
            · split at h
              · exact bind_ne h (fun z e => hand_ne e) (fun k z e => hand_ne e)
              · exact hand_ne h
theorem go_ne {p : Pv} {a y : Int} : ∀ {j : Nat}, goF p j = .error (a, y) → y ≠ 0
  | 0, h => by cases h
  | j + 1, h => by
    unfold goF at h
    split at h
    · rename_i z e
      cases h
      exact go_ne e
    · split at h
      · split at h
        · cases h
        · rename_i z e
          cases h
          exact vis_ne e
      · cases h
theorem ver_ne {p : Pv} {a y : Int} (h : verF p = .error (a, y)) : y ≠ 0 := by
  rw [verF_stat] at h
  cases e : statF p with
  | some z => rw [e] at h; cases h; exact stat_ne e
  | none => rw [e] at h; exact go_ne h
theorem sh_ne {p : Pv} {at_ a y : Int} (h : shF p at_ = .error (a, y)) : y ≠ 0 := by
  unfold shF at h
  split at h
  · rename_i z e
    cases h
    exact ver_ne e
  · split at h
    · cases h
    · cases h; decide
/-- The world of the law. -/
structure Lw (W : World) (g g' : Pg) (p : Pv) (lim cb : Nat) (w : World) : Prop where
  pb : w.heap[W.heap.size]? = some (.cells (g.cs p).toArray 27 (0, 0))
  cb : w.heap[cb]? = some (.cells (g'.cs p).toArray 27 (0, 0))
  k1 : g.Ok p W.heap.size w
  k2 : g'.Ok p lim w
  sp : Sp g' p lim w
  tab : Tab w
  le : lim ≤ w.heap.size
  le2 : W.heap.size ≤ w.heap.size
  bel : Below W.heap.size W w
theorem Lw.next {W : World} {g g' : Pg} {p : Pv} {lim cb : Nat} {w w' : World} (h : Lw W g g' p lim cb w) (hb : Below w.heap.size w w') : Lw W g g' p lim cb w' :=
  ⟨(hb.block _ (block_lt h.pb)).trans h.pb, (hb.block _ (block_lt h.cb)).trans h.cb, h.k1.kept hb h.le2, h.k2.kept hb h.le, h.sp.kept hb h.le, h.tab.below hb h.tab.z, Nat.le_trans h.le hb.size, Nat.le_trans h.le2 hb.size, h.bel.trans (hb.mono h.le2)⟩
theorem Lw.cells {W : World} {g g' : Pg} {p : Pv} {lim cb : Nat} {w : World} (h : Lw W g g' p lim cb w) : (w.cell? ⟨W.heap.size, 0, none⟩ = some (.slice g.ca p.nc g.cc) ∧ w.cell? ⟨W.heap.size, 1, none⟩ = some (.slice g.sa p.ns g.sc) ∧ w.cell? ⟨W.heap.size, 2, none⟩ = some (.int .i64 (p.en 0)) ∧ w.cell? ⟨W.heap.size, 3, none⟩ = some (.int .i64 (p.en 1)) ∧ w.cell? ⟨W.heap.size, 4, none⟩ = some (.int .i64 (p.en 2)) ∧ w.cell? ⟨W.heap.size, 5, none⟩ = some (.int .i64 (p.en 3)) ∧ w.cell? ⟨W.heap.size, 6, none⟩ = some (.int .i64 (p.en 4)) ∧ w.cell? ⟨W.heap.size, 7, none⟩ = some (.int .i64 (p.en 5)) ∧ w.cell? ⟨W.heap.size, 8, none⟩ = some (.slice g.ia p.n g.ic) ∧ W.heap.size < w.heap.size) ∧
    (w.cell? ⟨cb, 0, none⟩ = some (.slice g'.ca p.nc g'.cc) ∧ w.cell? ⟨cb, 1, none⟩ = some (.slice g'.sa p.ns g'.sc) ∧ w.cell? ⟨cb, 2, none⟩ = some (.int .i64 (p.en 0)) ∧ w.cell? ⟨cb, 3, none⟩ = some (.int .i64 (p.en 1)) ∧ w.cell? ⟨cb, 4, none⟩ = some (.int .i64 (p.en 2)) ∧ w.cell? ⟨cb, 5, none⟩ = some (.int .i64 (p.en 3)) ∧ w.cell? ⟨cb, 6, none⟩ = some (.int .i64 (p.en 4)) ∧ w.cell? ⟨cb, 7, none⟩ = some (.int .i64 (p.en 5)) ∧ w.cell? ⟨cb, 8, none⟩ = some (.slice g'.ia p.n g'.ic) ∧ cb < w.heap.size) :=
  ⟨⟨block_cell h.pb 0, block_cell h.pb 1, block_cell h.pb 2, block_cell h.pb 3, block_cell h.pb 4, block_cell h.pb 5, block_cell h.pb 6, block_cell h.pb 7, block_cell h.pb 8, block_lt h.pb⟩, ⟨block_cell h.cb 0, block_cell h.cb 1, block_cell h.cb 2, block_cell h.cb 3, block_cell h.cb 4, block_cell h.cb 5, block_cell h.cb 6, block_cell h.cb 7, block_cell h.cb 8, block_lt h.cb⟩⟩
/-- What an error of the program and a fault of the reference have in common. -/
def Er (w : World) (v f : Value) : Prop := (v = .nilIface ∧ f = .agg #[.slice none 0 0, .int .i64 0]) ∨ ∃ a y ao cap b off, f = .agg #[.slice ao 1 cap, .int .i64 y] ∧ y ≠ 0 ∧ Ft w.heap.size w v a y ∧ FV w.heap.size w ao [⟨⟨#[99, 111, 100, 101]⟩, a⟩] b off
theorem isT {w : World} {v f : Value} (h : Er w v f) : Calls Tryd.prog 10 #[v, f] w fun e w' => e = .returned (.bool true) ∧ Hid (Below w.heap.size w w') := by
  rcases h with ⟨rfl, rfl⟩ | ⟨a, y, ao, cap, b, off, rfl, hy, h1, h2⟩
  · exact is_any (L := []) (b := 0) (o := 0) 0 0 rfl (.inl ⟨rfl, rfl, rfl⟩) (FV.nil _ _ _ _ _)
  · exact is_any 1 cap rfl (.inr ⟨h1, by simp, by simp, hy⟩) h2
theorem Er.next {w w' : World} {v f : Value} (h : Er w v f) (hb : Below w.heap.size w w') : Er w' v f := by
  rcases h with ⟨rfl, rfl⟩ | ⟨a, y, ao, cap, b, off, rfl, hy, h1, h2⟩
  · exact .inl ⟨rfl, rfl⟩
  · exact .inr ⟨a, y, ao, cap, b, off, rfl, hy, h1.kept hb, h2.next hb⟩
/-- Verify of both: what they answer agrees. -/
theorem verifyBoth {W : World} {g g' : Pg} {p : Pv} {lim cb : Nat} {w : World} (h : Lw W g g' p lim cb w) :
    Calls Tryd.prog 40 #[.agg (g'.cs p).toArray] w fun e w' => ∃ v, e = .returned v ∧ Hid (Lw W g g' p lim cb w' ∧ ∀ w2, Lw W g g' p lim cb w2 → Below w'.heap.size w' w2 → Calls Tryd.prog 24 #[.agg (g.cs p).toArray] w2 fun e w3 => ∃ f1 f2, e = .returned (.agg #[f1, f2]) ∧ Hid (Lw W g g' p lim cb w3 ∧ Er w3 v (.agg #[f1, f2]))) := by
  refine (verifyC (h.k2.wide h.le) h.tab).mono ?_
  intro e w' hh
  cases hv : verF p with
  | ok k =>
    rw [hv] at hh
    obtain ⟨rfl, G⟩ := hh
    refine ⟨_, rfl, h.next G.out, fun w2 h2 hb => ?_⟩
    refine (verifyR (h2.k1.wide h2.le2)).mono ?_
    intro e w3 h3
    rw [hv] at h3
    obtain ⟨rfl, G3⟩ := h3
    exact ⟨_, _, rfl, h2.next G3.out, .inl ⟨rfl, rfl⟩⟩
  | error z =>
    obtain ⟨a, y⟩ := z
    rw [hv] at hh
    obtain ⟨g0, rfl, G⟩ := hh
    refine ⟨_, rfl, h.next G.out.2, fun w2 h2 hb => ?_⟩
    refine (verifyR (h2.k1.wide h2.le2)).mono ?_
    intro e w3 h3
    rw [hv] at h3
    obtain ⟨ao, cap, rfl, G3⟩ := h3
    obtain ⟨b, off, hf, hb3⟩ := G3.out
    exact ⟨_, _, rfl, h2.next hb3, .inr ⟨a, y, ao, cap, b, off, rfl, ver_ne hv, (G.out.1.kept hb).kept hb3, hf⟩⟩
end Go.Proofs.YtmoklddfaocihaaDoor
