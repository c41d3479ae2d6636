import Derived.Test.YtofddonhoakicaaDoorWRm
import Derived.Test.YtofddonhoakicaaDoorWRc
import Derived.Test.YtofddonhoakicaaDoorWRf
import Derived.Test.YtofddonhoakicaaDoorWBn
import Derived.Test.YtofddonhoakicaaDoorWRo
namespace Go.Proofs.YtofddonhoakicaaDoor
open Go.RowKit Crc

theorem below_trans1 {w W W' : World} (h : Below w.heap.size w W) (h' : Below W.heap.size W W') : Below w.heap.size w W' := h.trans (h'.mono h.size)
/-- A list of bytes, each in memory of its own. -/
structure OwnM (base : Nat) (w : World) (v : Value) (xs : List Value) (Ls : List (List Nat)) : Prop where
  row : w.ownsRow base 25 1 v Ls.length xs
  each : ∀ (i : Nat) (x : Value) (B : List Nat), xs[i]? = some x → Ls[i]? = some B → Owns base w x B
theorem OwnM.nil (base : Nat) (w : World) : OwnM base w (.slice none 0 0) [] [] := ⟨World.ownsRow_nil _ _ _ _, fun i x B h => by simp at h⟩
theorem OwnM.form {base : Nat} {w : World} {v : Value} {xs : List Value} {Ls : List (List Nat)} (h : OwnM base w v xs Ls) : ∃ ao c, v = .slice ao Ls.length c := by
  rcases h.row.2 with ⟨rfl, h0⟩ | ⟨g, cap, cur, rfl, _⟩
  · exact ⟨none, 0, by rw [h0]⟩
  · exact ⟨_, _, rfl⟩
theorem owns_row_ne {base b2 : Nat} {w : World} {x v : Value} {B : List Nat} {xs : List Value} {n : Nat} (h : Owns base w x B) (hr : w.ownsRow b2 25 1 v n xs) : x.ownBlock = none ∨ x.ownBlock ≠ v.ownBlock := by
  cases e : x.ownBlock with
  | none => exact .inl rfl
  | some g =>
    refine .inr (fun e2 => ?_)
    obtain ⟨cur2, h2⟩ := rowL_block hr g e2.symm
    rcases h.1.2 with ⟨rfl, _⟩ | ⟨g', cap, cur, rfl, _, hc, _⟩
    · cases e
    · have : g' = g := by simpa [Value.ownBlock] using e
      subst this
      rw [hc] at h2
      cases h2
theorem OwnM.quiet {base : Nat} {w w' : World} {v : Value} {xs : List Value} {Ls : List (List Nat)} (h : OwnM base w v xs Ls) (hg : w.grownBy w' none) : OwnM base w' v xs Ls :=
  ⟨h.row.kept hg (by cases v.ownBlock <;> simp), fun i x B h1 h2 => (h.each i x B h1 h2).quiet hg⟩
theorem OwnM.snoc {base : Nat} {w w2 : World} {v v' x : Value} {xs : List Value} {Ls : List (List Nat)} {B : List Nat} (h : OwnM base w v xs Ls) (hx : Owns base w x B)
    (hr : w2.ownsRow base 25 1 v' (Ls.length + 1) (xs ++ [x])) (he : w.grownBy w2 v.ownBlock) : OwnM base w2 v' (xs ++ [x]) (Ls ++ [B]) := by
  have hlen : xs.length = Ls.length := by have := h.row.1; omega
  refine ⟨by rw [List.length_append]; exact hr, fun i y C h2 h3 => ?_⟩
  rcases Nat.lt_or_ge i xs.length with hi | hi
  · rw [List.getElem?_append_left hi] at h2
    rw [List.getElem?_append_left (by omega)] at h3
    exact (h.each i y C h2 h3).kept he (owns_row_ne (h.each i y C h2 h3) h.row)
  · rw [List.getElem?_append_right hi] at h2
    rw [List.getElem?_append_right (by omega)] at h3
    have h0 : i - xs.length = 0 := by
      rcases Nat.eq_zero_or_pos (i - xs.length) with e | e
      · exact e
      · rw [List.getElem?_eq_none (by simp; omega)] at h2; cases h2
    rw [h0] at h2
    rw [show i - Ls.length = 0 by omega] at h3
    simp at h2 h3
    subst h2 h3
    exact hx.kept he (owns_row_ne hx h.row)
theorem OwnM.shows {base : Nat} {w : World} {ao : Option Addr} {n c : Nat} {xs : List Value} {Ls : List (List Nat)} (h : OwnM base w (.slice ao n c) xs Ls) (hl : n ≤ 140737488355328) : ShowsL w.heap.size w ao n c Ls := by
  have hlen : xs.length = Ls.length := by have := h.row.1; omega
  rcases h.row.2 with ⟨h1, h0⟩ | ⟨g, cap, cur, h1, hb, hc, hnc, _⟩
  · cases h1
    exact ⟨h0.symm, by omega, hl, 0, 0, fun h => by omega, fun h => by omega, fun i hi => by omega⟩
  · cases h1
    refine ⟨rfl, hnc, hl, g, 0, fun _ => rfl, fun _ => (Array.getElem?_eq_some_iff.1 hc).1, fun i hi => ?_⟩
    have hx := List.getElem?_eq_getElem (l := xs) (i := i) (by omega)
    have hB := List.getElem?_eq_getElem (l := Ls) (i := i) (by omega)
    obtain ⟨a, c, hv, hs, _⟩ := (h.each i _ _ hx hB).form
    have hcell := h.row.cellAt i (by omega)
    rw [hx, hv] at hcell
    refine ⟨a, _, c, by rw [Nat.zero_add]; exact hcell, ?_⟩
    rw [List.getD_eq_getElem?_getD, hB]
    exact hs
def RsInv (base : Nat) (w : World) (D : List Nat) (wr : World) (v : Value) (E : Nat) (xs : List Value) (Ls : List (List Nat)) (f : Nat) : Prop :=
  OwnM base wr v xs Ls ∧ Below base w wr ∧ frs (D.drop 21).length (D.drop 21) 0 = (Ls ++ (frs f (D.drop E) Ls.length).1, E - 21 + (frs f (D.drop E) Ls.length).2) ∧ D.length ≤ E + f
theorem RsInv.stop {base : Nat} {w : World} {D : List Nat} {wr : World} {v : Value} {E : Nat} {xs : List Value} {Ls : List (List Nat)} {f : Nat} (h : RsInv base w D wr v E xs Ls f) (h21 : 21 ≤ E) (hw : whole (D.drop E) Ls.length = none) (hb : base ≤ wr.heap.size) {V : World} (hV : Below wr.heap.size wr V) :
    (E : Int) = ((21 + (frs (D.drop 21).length (D.drop 21) 0).2 : Nat) : Int) ∧ OwnM base V v xs (frs (D.drop 21).length (D.drop 21) 0).1 ∧ Below base w V := by
  obtain ⟨h1, h2, h3, h4⟩ := h
  rw [frs_none _ _ _ hw] at h3
  rw [h3]
  exact ⟨by simp; omega, by rw [List.append_nil]; exact h1.quiet (below_none hV), h2.trans (hV.mono hb)⟩
theorem RsInv.stopL {base : Nat} {w : World} {D : List Nat} {wr : World} {v : Value} {E : Nat} {xs : List Value} {Ls : List (List Nat)} {f : Nat} (h : RsInv base w D wr v E xs Ls f) (hw : whole (D.drop E) Ls.length = none) : (frs (D.drop 21).length (D.drop 21) 0).1 = Ls := by
  have h3 := h.2.2.1
  rw [frs_none _ _ _ hw] at h3
  rw [h3]; simp
theorem RsInv.more {base : Nat} {w : World} {D : List Nat} {wr : World} {v : Value} {E : Nat} {xs : List Value} {Ls : List (List Nat)} {f z : Nat} (h : RsInv base w D wr v E xs Ls f) (h21 : 21 ≤ E) (hw : whole (D.drop E) Ls.length = some z) (hb : base ≤ wr.heap.size)
    {V V2 : World} {x v' : Value} (hV : Below wr.heap.size wr V) (hx : Owns wr.heap.size V x (((D.drop E).drop 12).take z)) {o : Obj}
    (hr : V2.ownsRow base 25 1 v' (Ls.length + 1) (xs ++ [x])) (he : Ext (V.alloc o) V2 v v') :
    ∃ f', RsInv base w D V2 v' (E + (16 + z)) (xs ++ [x]) (Ls ++ [((D.drop E).drop 12).take z]) f' := by
  obtain ⟨h1, h2, h3, h4⟩ := h
  have hlen := whole_len hw
  rw [List.length_drop] at hlen
  obtain ⟨f', rfl⟩ : ∃ f', f = f' + 1 := ⟨f - 1, by omega⟩
  refine ⟨f', ?_, ?_, ?_, by omega⟩
  · exact OwnM.snoc (w := V.alloc o) ((h1.quiet (below_none hV)).quiet (World.grownBy_alloc _ _ _)) ((hx.lower hb).quiet (World.grownBy_alloc _ _ _)) hr he.1
  · exact ((h2.trans (hV.mono hb)).alloc (by have := hV.size; omega) o).grown he.1 (by have := hV.size; simp; omega) (fun k hk => (h1.row.lt k hk).1)
  · rw [h3, frs_some _ _ _ _ hw]
    have e : (D.drop E).drop (16 + z) = D.drop (E + (16 + z)) := by rw [List.drop_drop]
    have e2 : ∀ X : List Nat, (Ls ++ [X]).length = Ls.length + 1 := fun X => by simp
    rw [e, e2]
    refine Prod.ext ?_ ?_
    · simp
    · show E - 21 + (16 + z + _) = E + (16 + z) - 21 + _
      omega
theorem whole_size {D : List Nat} {i z : Nat} (h : whole D i = some z) : z = hi (D.take 4) := by
  unfold whole at h
  split at h
  · cases h
  · split at h
    · cases h
    · split at h
      · cases h
      · split at h
        · cases h
        · split at h
          · cases h
          · split at h
            · cases h
            · split at h
              · cases h
              · cases h; rfl
/-- The base that was found so far. -/
def bAt (file k : Nat) (D : List Nat) : Int := if hdIs file D ∧ bsOf D < k then (bsOf D : Int) else -1
theorem bAt_zero (file : Nat) (D : List Nat) : bAt file 0 D = -1 := by unfold bAt; rw [if_neg (by omega)]
theorem bAt_hit {file k : Nat} {D : List Nat} (h : hdIs file D ∧ bsOf D = k) : bAt file (k + 1) D = k := by unfold bAt; rw [if_pos ⟨h.1, by omega⟩, h.2]
theorem bAt_miss {file k : Nat} {D : List Nat} (h : ¬ (hdIs file D ∧ bsOf D = k)) : bAt file (k + 1) D = bAt file k D := by
  unfold bAt
  by_cases h1 : hdIs file D ∧ bsOf D < k
  · rw [if_pos h1, if_pos ⟨h1.1, by omega⟩]
  · rw [if_neg h1, if_neg]
    rintro ⟨h2, h3⟩
    rcases Nat.lt_or_ge (bsOf D) k with h4 | h4
    · exact h1 ⟨h2, h4⟩
    · exact h ⟨h2, by omega⟩
theorem bAt_end (file : Nat) (D : List Nat) : bAt file 65 D = if hdIs file D then (bsOf D : Int) else -1 := by
  unfold bAt
  by_cases h : hdIs file D
  · rw [if_pos h, if_pos ⟨h, by have := hdIs_le h; omega⟩]
  · rw [if_neg h, if_neg (fun e => h e.1)]
theorem bAt_ge (file k : Nat) (D : List Nat) : -1 ≤ bAt file k D := by
  unfold bAt
  split
  · omega
  · omega
def RscR (base : Nat) (r : Option (Nat × List (List Nat) × Nat)) (e : Ending) (w' : World) : Prop :=
  match r with
  | none => e = .returned (.tuple #[.int .i64 0, .slice none 0 0, .int .i64 0, .int .i64 167])
  | some (k, Ls, g) => ∃ v xs, e = .returned (.tuple #[.int .i64 (k : Int), v, .int .i64 (g : Int), .int .i64 0]) ∧ OwnM base w' v xs Ls
end Go.Proofs.YtofddonhoakicaaDoor
