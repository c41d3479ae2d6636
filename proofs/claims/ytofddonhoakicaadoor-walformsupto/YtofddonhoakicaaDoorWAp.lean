import Derived.Test.YtofddonhoakicaaDoorWLs
namespace Go.Proofs.YtofddonhoakicaaDoor
open Go.RowKit Crc

theorem OwnL.at {base : Nat} {W : World} {ao : Option Addr} {n c : Nat} {xs : List Value} {Ls : List (List Nat)} (h : OwnL base W (.slice ao n c) xs Ls) {i : Nat} (hi : i < n) (hn : Ls.length = n) :
    ∃ gr, ao = some ⟨gr, 0, none⟩ ∧ ∃ a L, W.cell? ⟨gr, i, none⟩ = some (.slice a L L) ∧ xs[i]? = some (.slice a L L) ∧ L = (Ls.getD i []).length ∧ Bd base W (.slice a L L) (Ls.getD i []) := by
  have hlen : xs.length = Ls.length := by have := h.row.1; omega
  rcases h.row.2 with ⟨h1, h0⟩ | ⟨g, cap, cur, h1, hb, hc, hnc, _⟩
  · omega
  · cases h1
    have hx := List.getElem?_eq_getElem (l := xs) (i := i) (by omega)
    have hB := List.getElem?_eq_getElem (l := Ls) (i := i) (by omega)
    have hbd := h.each i _ _ hx hB
    have hcell := h.row.cellAt i (by omega)
    rw [hx] at hcell
    have hg : Ls.getD i [] = Ls[i] := by rw [List.getD_eq_getElem?_getD, hB]; rfl
    obtain ⟨a, L, hv, hL⟩ : ∃ a L, xs[i] = .slice a L L ∧ L = (Ls[i]).length := by
      rcases hbd.2 with e | ⟨g', e⟩
      · have := hbd.1.1
        rw [e] at this
        rcases this.2 with ⟨_, h0⟩ | ⟨_, _, _, e2, _⟩
        · exact ⟨none, 0, e, h0.symm⟩
        · cases e2
      · exact ⟨_, _, e, rfl⟩
    rw [hv] at hcell hx hbd
    refine ⟨g, rfl, a, L, hcell, hx, by rw [hg]; exact hL, by rw [hg]; exact hbd⟩
theorem bd_some {base : Nat} {W : World} {a : Option Addr} {L : Nat} {B : List Nat} (h : Bd base W (.slice a L L) B) (hL : L = B.length) (h0 : 0 < L) : ∃ g, a = some ⟨g, 0, none⟩ ∧ base ≤ g ∧ W.ownsRow base 5 1 (.slice (some ⟨g, 0, none⟩) L L) L (vals B) := by
  have h1 := h.1.1
  rw [← hL] at h1
  obtain ⟨g, cap, e, hb⟩ := own_shape h1 h0
  cases e
  exact ⟨g, rfl, hb, h1⟩
theorem OwnL.store {base : Nat} {W : World} {v : Value} {xs : List Value} {Ls : List (List Nat)} (h : OwnL base W v xs Ls) {i g L k c : Nat} (hx : xs[i]? = some (.slice (some ⟨g, 0, none⟩) L L)) (hi : i < Ls.length) (hL : L = (Ls.getD i []).length) (hc : c < 256)
    (hr : W.ownsRow base 5 1 (.slice (some ⟨g, 0, none⟩) L L) L (vals (Ls.getD i []))) :
    OwnL base (W.setCell ⟨g, k, none⟩ (.int .u8 (c : Int))) v xs (Ls.set i ((Ls.getD i []).set k c)) := by
  have hB := List.getElem?_eq_getElem (l := Ls) (i := i) hi
  have hg : Ls.getD i [] = Ls[i] := by rw [List.getD_eq_getElem?_getD, hB]; rfl
  have hbd := h.each i _ _ hx hB
  have hst := hr.stored k (.int .u8 (c : Int))
  have hne := bd_row_ne hbd h.row
  refine ⟨?_, fun j y B h1 h2 => ?_, h.apart⟩
  · rw [List.length_set]
    refine h.row.kept hst.2 ?_
    cases e : v.ownBlock with
    | none => exact .inl rfl
    | some q =>
      refine .inr (fun e2 => ?_)
      rcases hne with hne | hne
      · simp [Value.ownBlock] at hne
      · rw [e, e2] at hne; simp [Value.ownBlock] at hne
  · by_cases hj : j = i
    · subst hj
      rw [hx] at h1
      cases h1
      rw [List.getElem?_set_self hi] at h2
      cases h2
      refine ⟨⟨?_, ?_, ?_⟩, .inr ⟨g, by rw [List.length_set, ← hL]⟩⟩
      · rw [List.length_set, ← hL]
        have e : vals ((Ls.getD j []).set k c) = (vals (Ls.getD j [])).set k (.int .u8 (c : Int)) := by simp [vals, List.map_set]
        rw [e]
        exact hst.1
      · intro x hx2
        rcases List.mem_or_eq_of_mem_set hx2 with h3 | h3
        · exact hbd.1.2.1 x (by rw [← hg]; exact h3)
        · rw [h3]; exact hc
      · rw [List.length_set, hg]; exact hbd.1.2.2
    · rw [List.getElem?_set_ne (fun e => hj e.symm)] at h2
      refine (h.each j y B h1 h2).kept hst.2 ?_
      cases e : y.ownBlock with
      | none => exact .inl rfl
      | some q =>
        refine .inr (fun e2 => ?_)
        cases e2
        rcases Nat.lt_or_ge j i with h3 | h3
        · exact h.apart j i _ _ _ h3 h1 hx e rfl
        · exact h.apart i j _ _ _ (by omega) hx h1 rfl e
/-- The rows' state: how far they are written over. -/
def Fil (base : Nat) (w : World) (v : Value) (xs : List Value) (n i k : Nat) (Ls0 : List (List Nat)) (W : World) : Prop :=
  ∃ Ls, OwnL base W v xs Ls ∧ Ls.length = n ∧ Below base w W ∧ (∀ j, (Ls.getD j []).length = (Ls0.getD j []).length) ∧ (∀ j, j < i → ∀ m, m < (Ls.getD j []).length → (Ls.getD j []).getD m 0 = j % 200) ∧ ∀ m, m < k → (Ls.getD i []).getD m 0 = i % 200
theorem getD_setL (Ls : List (List Nat)) (i : Nat) (B : List Nat) (hi : i < Ls.length) (j : Nat) : (Ls.set i B).getD j [] = if j = i then B else Ls.getD j [] := by
  rw [List.getD_eq_getElem?_getD, List.getD_eq_getElem?_getD]
  by_cases h : j = i
  · subst h; rw [if_pos rfl, List.getElem?_set_self hi]; rfl
  · rw [if_neg h, List.getElem?_set_ne (fun e => h e.symm)]
theorem getD_setN (B : List Nat) (k c : Nat) (hk : k < B.length) (m : Nat) : (B.set k c).getD m 0 = if m = k then c else B.getD m 0 := by
  rw [List.getD_eq_getElem?_getD, List.getD_eq_getElem?_getD]
  by_cases h : m = k
  · subst h; rw [if_pos rfl, List.getElem?_set_self hk]; rfl
  · rw [if_neg h, List.getElem?_set_ne (fun e => h e.symm)]
theorem Fil.row {base : Nat} {w : World} {ao : Option Addr} {n c : Nat} {xs : List Value} {i k : Nat} {Ls0 : List (List Nat)} {W : World} (h : Fil base w (.slice ao n c) xs n i k Ls0 W) {j : Nat} (hj : j < n) :
    ∃ gr, ao = some ⟨gr, 0, none⟩ ∧ ∃ a L, W.cell? ⟨gr, j, none⟩ = some (.slice a L L) ∧ xs[j]? = some (.slice a L L) ∧ L = (Ls0.getD j []).length := by
  obtain ⟨Ls, h1, h2, h3, h4, h5, h6⟩ := h
  obtain ⟨gr, e, a, L, p1, p2, p3, p4⟩ := h1.at hj h2
  exact ⟨gr, e, a, L, p1, p2, by rw [← h4]; exact p3⟩
/-- One byte is written over. -/
theorem Fil.put {base : Nat} {w : World} {ao : Option Addr} {n c : Nat} {xs : List Value} {i k : Nat} {Ls0 : List (List Nat)} {W : World} (h : Fil base w (.slice ao n c) xs n i k Ls0 W) (hi : i < n) {a : Option Addr} {L : Nat} (hx : xs[i]? = some (.slice a L L)) (hk : k < L) :
    ∃ g, a = some ⟨g, 0, none⟩ ∧ (∃ u : Nat, W.cell? ⟨g, k, none⟩ = some (.int .u8 (u : Int))) ∧ W.frozen? ⟨g, k, none⟩ = false ∧ Fil base w (.slice ao n c) xs n i (k + 1) Ls0 (W.setCell ⟨g, k, none⟩ (.int .u8 ((i % 200 : Nat) : Int))) := by
  obtain ⟨Ls, h1, h2, h3, h4, h5, h6⟩ := h
  obtain ⟨gr, e, a', L', p1, p2, p3, p4⟩ := h1.at hi h2
  rw [hx] at p2
  cases p2
  obtain ⟨g, rfl, hbg, hr⟩ := bd_some p4 p3 (by omega)
  have hsto := h1.store (k := k) (c := i % 200) hx (by omega) p3 (by omega) hr
  refine ⟨g, rfl, ⟨_, owned_cells hr k hk⟩, hr.frozenAt _, _, hsto, by rw [List.length_set]; exact h2, h3.setCell (p := ⟨g, k, none⟩) hbg _, fun j => ?_, fun j hj m hm => ?_, fun m hm => ?_⟩
  · rw [getD_setL _ _ _ (by omega)]
    by_cases hji : j = i
    · subst hji; rw [if_pos rfl, List.length_set]; exact h4 j
    · rw [if_neg hji]; exact h4 j
  · rw [getD_setL _ _ _ (by omega), if_neg (by omega)] at hm ⊢
    exact h5 j hj m hm
  · rw [getD_setL _ _ _ (by omega), if_pos rfl, getD_setN _ _ _ (by omega)]
    by_cases hmk : m = k
    · rw [if_pos hmk]
    · rw [if_neg hmk]; exact h6 m (by omega)
theorem Fil.next {base : Nat} {w : World} {v : Value} {n : Nat} {xs : List Value} {i k : Nat} {Ls0 : List (List Nat)} {W : World} (h : Fil base w v xs n i k Ls0 W) (hk : (Ls0.getD i []).length ≤ k) : Fil base w v xs n (i + 1) 0 Ls0 W := by
  obtain ⟨Ls, h1, h2, h3, h4, h5, h6⟩ := h
  refine ⟨Ls, h1, h2, h3, h4, fun j hj m hm => ?_, fun m hm => by omega⟩
  rcases Nat.lt_or_ge j i with h7 | h7
  · exact h5 j h7 m hm
  · obtain rfl : j = i := by omega
    exact h6 m (by rw [h4] at hm; omega)
theorem Fil.quiet {base : Nat} {w : World} {v : Value} {n : Nat} {xs : List Value} {i k : Nat} {Ls0 : List (List Nat)} {W W' : World} (h : Fil base w v xs n i k Ls0 W) (hb : Below W.heap.size W W') (hbs : base ≤ w.heap.size) : Fil base w v xs n i k Ls0 W' := by
  obtain ⟨Ls, h1, h2, h3, h4, h5, h6⟩ := h
  exact ⟨Ls, h1.quiet (below_none hb), h2, h3.trans (hb.mono (by have := h3.size; omega)), h4, h5, h6⟩
theorem Fil.byte {base : Nat} {w : World} {ao : Option Addr} {n c : Nat} {xs : List Value} {Ls0 : List (List Nat)} {W : World} (h : Fil base w (.slice ao n c) xs n n 0 Ls0 W) {i k : Nat} (hi : i < n) {a : Option Addr} {L : Nat} (hx : xs[i]? = some (.slice a L L)) (hk : k < L) :
    ∃ g, a = some ⟨g, 0, none⟩ ∧ W.cell? ⟨g, k, none⟩ = some (.int .u8 ((i % 200 : Nat) : Int)) := by
  obtain ⟨Ls, h1, h2, h3, h4, h5, h6⟩ := h
  obtain ⟨gr, e, a', L', p1, p2, p3, p4⟩ := h1.at hi h2
  rw [hx] at p2
  cases p2
  obtain ⟨g, rfl, hbg, hr⟩ := bd_some p4 p3 (by omega)
  have := owned_cells hr k hk
  rw [h5 i hi k (by omega)] at this
  exact ⟨g, rfl, this⟩
theorem Fil.own {base : Nat} {w : World} {ao : Option Addr} {n c : Nat} {xs : List Value} {i' k' : Nat} {Ls0 : List (List Nat)} {W : World} (h : Fil base w (.slice ao n c) xs n i' k' Ls0 W) {i : Nat} (hi : i < n) {a : Option Addr} {L : Nat} (hx : xs[i]? = some (.slice a L L)) :
    ∃ B, L = B.length ∧ (∀ x ∈ B, x < 256) ∧ L ≤ 140737488355328 ∧ (a = none → L = 0 ∧ L = 0) ∧ ∀ b, a = some b → ∀ j u, (vals B)[j]? = some u → W.cell? (b.add j) = some u := by
  obtain ⟨Ls, h1, h2, h3, h4, h5, h6⟩ := h
  obtain ⟨gr, e, a', L', p1, p2, p3, p4⟩ := h1.at hi h2
  rw [hx] at p2
  cases p2
  refine ⟨_, p3, p4.1.2.1, by rw [p3]; exact p4.1.2.2, fun ha => ?_, fun b hb j u hj => ?_⟩
  · rcases Nat.eq_zero_or_pos L with h0 | h0
    · exact ⟨h0, h0⟩
    · obtain ⟨g, e2, _⟩ := bd_some p4 p3 h0
      rw [ha] at e2; cases e2
  · rcases Nat.eq_zero_or_pos L with h0 | h0
    · have : Ls.getD i [] = [] := List.eq_nil_of_length_eq_zero (by omega)
      rw [this] at hj; simp [vals] at hj
    · obtain ⟨g, e2, _, hr⟩ := bd_some p4 p3 h0
      rw [hb] at e2; cases e2
      exact hr.cells rfl j u hj
end Go.Proofs.YtofddonhoakicaaDoor
