import Derived.Test.YtcagbggnlfeadaaGreatDoorWFr
import Derived.Deep.RegionHeld
import Derived.Deep.RegionWith
namespace Go.Proofs.YtcagbggnlfeadaaGreatDoor
open Go.RowKit Crc

section
variable {P : Program} {ops : Array Oper} {rest : List Oper} {o : Oper} {a : Act} {Q : Exit → Act → World → Prop}
/-- As wpList_append_ext, and what lay there before stays where the list moved. -/
theorem wpList_append_moved (w : World) (hgd : o.guard = none) (s x : Operand) (t : TypeId)
    (ho : o.op = .call { callee := .builtin .append, args := #[s, x], argTypes := #[t, t] })
    (base : Nat) (e : TypeId) (i : TypeInfo) (z : Value) (size bytes : Nat) (ht : P.underlying t = some (.slice e)) (hi : P.info? e = some i) (hz : i.zero = some z)
    (hsize : i.size = size) (hby : i.bytes = bytes) (hzs : z.cells.size = size) (hsz : 0 < size)
    (v : Value) (n : Nat) (xs : List Value) (hs : a.eval s = v) (hown : w.ownsRow base e size v n xs)
    (ad : Addr) (m c : Nat) (news : List Value) (hx : a.eval x = .slice (some ad) m c) (hl : news.length = m * size) (hnews : ∀ j u, news[j]? = some u → w.cell? (ad.add j) = some u) (h1 : ∀ u ∈ news, u.oneCell' = true)
    (hm : 0 < m) (h63 : n + m ≤ maxLen) (hbytes : (n + m) * bytes ≤ 140737488355328) (hbase : base ≤ w.heap.size)
    (h : ∀ v' w', w'.ownsRow base e size v' (n + m) (xs ++ news) → Ext w w' v v' → (v'.ownBlock = v.ownBlock ∨ w.grownBy w' none) → wpList P ops Q rest (a.put o.dst v') w') : wpList P ops Q (o :: rest) a w := by
  rcases hown.2 with ⟨rfl, rfl⟩ | ⟨g, cap, cur, rfl, hbg, hg, hnc, hcm, hcs, htake⟩
  · have hxs : xs = [] := List.eq_nil_of_length_eq_zero (by have := hown.1; omega)
    subst hxs
    refine wpList_append_grows w hgd s x t ho e i z size bytes ht hi hz hsize hby hzs hsz none 0 0 [] hs (fun _ => ⟨rfl, rfl⟩) (by simp) (fun b hb => by cases hb) ad m c news hx hl hnews h1 (by omega) h63 hbytes ?_
    intro v' w' hown' hgrow
    refine h v' w' ?_ ⟨⟨hgrow.os, hgrow.tape, hgrow.output, hgrow.size, hgrow.block⟩, fun g hg => .inr (hown'.lt g hg).1⟩ (.inr hgrow)
    refine ⟨hown'.1, ?_⟩
    rcases hown'.2 with h0 | ⟨g, cap, cur, hv, hbg, rest⟩
    · exact .inl h0
    · exact .inr ⟨g, cap, cur, hv, by omega, rest⟩
  · by_cases hroom : n + m ≤ cap
    · refine wpList_append_own_spare w hgd s x t ho base e i size ht hi hsize g n cap xs hs hown ad m c news hx hl hnews h1 hroom ?_
      intro w' hown' hgrow
      exact h _ w' hown' ⟨hgrow, fun g' hg' => .inl hg'⟩ (.inl rfl)
    · have holds : ∀ b, some (⟨g, 0, none⟩ : Addr) = some b → ∀ j u, xs[j]? = some u → w.cell? (b.add j) = some u := by
        intro b hb j u hj
        cases hb
        exact hown.cells rfl j u hj
      refine wpList_append_grows w hgd s x t ho e i z size bytes ht hi hz hsize hby hzs hsz (some ⟨g, 0, none⟩) n cap xs hs (fun h => by cases h) hown.1 holds ad m c news hx hl hnews h1 (by omega) h63 hbytes ?_
      intro v' w' hown' hgrow
      refine h v' w' ?_ ⟨⟨hgrow.os, hgrow.tape, hgrow.output, hgrow.size, fun k hk _ => hgrow.block k hk (by simp)⟩, fun g hg => .inr (hown'.lt g hg).1⟩ (.inr hgrow)
      refine ⟨hown'.1, ?_⟩
      rcases hown'.2 with h0 | ⟨g, cap, cur, hv, hbg, rest⟩
      · exact .inl h0
      · exact .inr ⟨g, cap, cur, hv, by omega, rest⟩
end


theorem Tryz.infoL : (Tryz.prog.info? 37).map (fun i => (i.zero, i.size, i.bytes)) = some (some (.slice none 0 0), 1, 24) := by kernel_rfl

/-- Does a whole frame of that index begin here, and how long is its body? -/
def whole (D : List Nat) (i : Nat) : Option Nat :=
  if D.length < 16 then none
  else if ¬ low4 (Crc.sum (D.take 8)) = (D.drop 8).take 4 then none
  else if ¬ hi ((D.drop 4).take 4) = i then none
  else if 2147483647 < i then none
  else if 60000 < hi (D.take 4) then none
  else if D.length < 16 + hi (D.take 4) then none
  else if ¬ low4 (Crc.sum ((D.drop 12).take (hi (D.take 4)))) = (D.drop (12 + hi (D.take 4))).take 4 then none
  else some (hi (D.take 4))
/-- The bodies of the whole frames, and how many bytes these are. -/
def frs : Nat → List Nat → Nat → List (List Nat) × Nat
  | 0, _, _ => ([], 0)
  | f + 1, D, i => match whole D i with
    | none => ([], 0)
    | some z => ((D.drop 12).take z :: (frs f (D.drop (16 + z)) (i + 1)).1, 16 + z + (frs f (D.drop (16 + z)) (i + 1)).2)
theorem frs_none (f : Nat) (D : List Nat) (i : Nat) (h : whole D i = none) : frs f D i = ([], 0) := by
  cases f with
  | zero => rfl
  | succ f => simp only [frs, h]
theorem frs_some (f : Nat) (D : List Nat) (i z : Nat) (h : whole D i = some z) : frs (f + 1) D i = ((D.drop 12).take z :: (frs f (D.drop (16 + z)) (i + 1)).1, 16 + z + (frs f (D.drop (16 + z)) (i + 1)).2) := by
  simp only [frs, h]
theorem whole_len {D : List Nat} {i z : Nat} (h : whole D i = some z) : 16 + z ≤ D.length := by
  unfold whole at h
  split at h
  · cases h
  · split at h
    · cases h
    · split at h
      · cases h
      · split at h
        · cases h
        · split at h
          · cases h
          · split at h
            · cases h
            · split at h
              · cases h
              · cases h; omega

/-- Bytes in a block of their own that has no spare room. -/
def Bd (base : Nat) (w : World) (x : Value) (B : List Nat) : Prop := Owns base w x B ∧ (x = .slice none 0 0 ∨ ∃ g, x = .slice (some ⟨g, 0, none⟩) B.length B.length)
/-- A list of such bytes, each in a block of its own. -/
structure OwnL (base : Nat) (w : World) (v : Value) (xs : List Value) (Ls : List (List Nat)) : Prop where
  row : w.ownsRow base 37 1 v Ls.length xs
  each : ∀ (i : Nat) (x : Value) (B : List Nat), xs[i]? = some x → Ls[i]? = some B → Bd base w x B
  apart : ∀ (i j : Nat) (x y : Value) (g : Nat), i < j → xs[i]? = some x → xs[j]? = some y → x.ownBlock = some g → y.ownBlock ≠ some g
theorem OwnL.nil (base : Nat) (w : World) : OwnL base w (.slice none 0 0) [] [] := ⟨World.ownsRow_nil _ _ _ _, fun i x B h => by simp at h, fun i j x y g _ h => by simp at h⟩
theorem OwnL.form {base : Nat} {w : World} {v : Value} {xs : List Value} {Ls : List (List Nat)} (h : OwnL base w v xs Ls) : ∃ ao c, v = .slice ao Ls.length c := by
  rcases h.row.2 with ⟨rfl, h0⟩ | ⟨g, cap, cur, rfl, _⟩
  · exact ⟨none, 0, by rw [h0]⟩
  · exact ⟨_, _, rfl⟩
theorem bd_block {base : Nat} {w : World} {x : Value} {B : List Nat} (h : Bd base w x B) (g : Nat) (hg : x.ownBlock = some g) : base ≤ g ∧ g < w.heap.size ∧ ∃ cur, w.heap[g]? = some (.cells cur 5 (0, 0)) := by
  rcases h.1.1.2 with ⟨rfl, _⟩ | ⟨g', cap, cur, rfl, hb, hc, _⟩
  · cases hg
  · have : g' = g := by simpa [Value.ownBlock] using hg
    subst this
    exact ⟨hb, (Array.getElem?_eq_some_iff.1 hc).1, cur, hc⟩
theorem Bd.kept {base : Nat} {w w' : World} {x : Value} {B : List Nat} {row : Option Nat} (h : Bd base w x B) (hg : w.grownBy w' row) (hne : x.ownBlock = none ∨ x.ownBlock ≠ row) : Bd base w' x B := ⟨h.1.kept hg hne, h.2⟩
theorem rowL_block {base : Nat} {w : World} {v : Value} {xs : List Value} {n : Nat} (h : w.ownsRow base 37 1 v n xs) (g : Nat) (hg : v.ownBlock = some g) : ∃ cur, w.heap[g]? = some (.cells cur 37 (0, 0)) := by
  rcases h.2 with ⟨rfl, _⟩ | ⟨g', cap, cur, rfl, hb, hc, _⟩
  · cases hg
  · have : g' = g := by simpa [Value.ownBlock] using hg
    subst this
    exact ⟨cur, hc⟩
theorem bd_row_ne {base b2 : Nat} {w : World} {x v : Value} {B : List Nat} {xs : List Value} {n : Nat} (h : Bd base w x B) (hr : w.ownsRow b2 37 1 v n xs) : x.ownBlock = none ∨ x.ownBlock ≠ v.ownBlock := by
  cases e : x.ownBlock with
  | none => exact .inl rfl
  | some g =>
    refine .inr (fun e2 => ?_)
    obtain ⟨_, _, cur, h1⟩ := bd_block h g e
    obtain ⟨cur2, h2⟩ := rowL_block hr g e2.symm
    rw [h1] at h2
    cases h2
/-- Nothing of it has turned. -/
theorem OwnL.quiet {base : Nat} {w w' : World} {v : Value} {xs : List Value} {Ls : List (List Nat)} (h : OwnL base w v xs Ls) (hg : w.grownBy w' none) : OwnL base w' v xs Ls :=
  ⟨h.row.kept hg (by cases v.ownBlock <;> simp), fun i x B h1 h2 => (h.each i x B h1 h2).kept hg (by cases x.ownBlock <;> simp), h.apart⟩
/-- One more: its bytes are new; then its row was appended to. -/
theorem OwnL.snoc {base : Nat} {w w1 w2 : World} {v v' x : Value} {xs : List Value} {Ls : List (List Nat)} {B : List Nat} (h : OwnL base w v xs Ls) (hg : w.grownBy w1 none) (hx : Bd w.heap.size w1 x B) (hb : base ≤ w.heap.size)
    (hr : w2.ownsRow base 37 1 v' (Ls.length + 1) (xs ++ [x])) (he : w1.grownBy w2 v.ownBlock) : OwnL base w2 v' (xs ++ [x]) (Ls ++ [B]) := by
  have h1 := h.quiet hg
  have hlen : xs.length = Ls.length := by have := h.row.1; omega
  have hx' : Bd base w1 x B := ⟨hx.1.lower hb, hx.2⟩
  refine ⟨by rw [List.length_append]; exact hr, fun i y C h2 h3 => ?_, fun i j y z g hij h2 h3 h4 => ?_⟩
  · rcases Nat.lt_or_ge i xs.length with hi | hi
    · rw [List.getElem?_append_left hi] at h2
      rw [List.getElem?_append_left (by omega)] at h3
      exact (h1.each i y C h2 h3).kept he (bd_row_ne (h1.each i y C h2 h3) h1.row)
    · rw [List.getElem?_append_right hi] at h2
      rw [List.getElem?_append_right (by omega)] at h3
      have h0 : i - xs.length = 0 := by
        rcases Nat.eq_zero_or_pos (i - xs.length) with e | e
        · exact e
        · rw [List.getElem?_eq_none (by simp; omega)] at h2; cases h2
      rw [h0] at h2
      rw [show i - Ls.length = 0 by omega] at h3
      simp at h2 h3
      subst h2 h3
      exact hx'.kept he (bd_row_ne hx' h1.row)
  · rcases Nat.lt_or_ge j xs.length with hj | hj
    · rw [List.getElem?_append_left hj] at h3
      rw [List.getElem?_append_left (by omega)] at h2
      exact h.apart i j y z g hij h2 h3 h4
    · rw [List.getElem?_append_right hj] at h3
      have h0 : j - xs.length = 0 := by
        rcases Nat.eq_zero_or_pos (j - xs.length) with e | e
        · exact e
        · rw [List.getElem?_eq_none (by simp; omega)] at h3; cases h3
      rw [h0] at h3
      simp at h3
      subst h3
      rw [List.getElem?_append_left (by omega)] at h2
      intro e
      have hB := List.getElem?_eq_getElem (l := Ls) (i := i) (by omega)
      have h5 := (bd_block (h.each i y _ h2 hB) g h4).2.1
      have h6 := (bd_block hx g e).1
      omega
/-- What is in the list, as it is shown. -/
def ShowsL (lim : Nat) (w : World) (ao : Option Addr) (n cap : Nat) (Ls : List (List Nat)) : Prop :=
  n = Ls.length ∧ n ≤ cap ∧ n ≤ 140737488355328 ∧ ∃ b off, (0 < n → ao = some ⟨b, off, none⟩) ∧ (0 < n → b < lim) ∧ ∀ i, i < n → ∃ a m c, w.cell? ⟨b, off + i, none⟩ = some (.slice a m c) ∧ Shows lim w a m c (Ls.getD i [])
theorem OwnL.shows {base : Nat} {w : World} {ao : Option Addr} {n c : Nat} {xs : List Value} {Ls : List (List Nat)} (h : OwnL base w (.slice ao n c) xs Ls) (hl : n ≤ 140737488355328) : ShowsL w.heap.size w ao n c Ls := by
  have hlen : xs.length = Ls.length := by have := h.row.1; omega
  rcases h.row.2 with ⟨h1, h0⟩ | ⟨g, cap, cur, h1, hb, hc, hnc, _⟩
  · cases h1
    exact ⟨h0.symm, by omega, hl, 0, 0, fun h => by omega, fun h => by omega, fun i hi => by omega⟩
  · cases h1
    refine ⟨rfl, hnc, hl, g, 0, fun _ => rfl, fun _ => (Array.getElem?_eq_some_iff.1 hc).1, fun i hi => ?_⟩
    have hx := List.getElem?_eq_getElem (l := xs) (i := i) (by omega)
    have hB := List.getElem?_eq_getElem (l := Ls) (i := i) (by omega)
    obtain ⟨a, c, hv, hs, _⟩ := (h.each i _ _ hx hB).1.form
    have hcell := h.row.cellAt i (by omega)
    rw [hx, hv] at hcell
    refine ⟨a, _, c, by rw [Nat.zero_add]; exact hcell, ?_⟩
    rw [List.getD_eq_getElem?_getD, hB]
    exact hs
end Go.Proofs.YtcagbggnlfeadaaGreatDoor
