import Derived.Test.YtcfenjpdjogmdaaLT40
import Derived.Lib.SliceRun
import Derived.Laws.IdiomCopy
import Derived.Deep.RegionLaw
namespace Go.Proofs.Ytcfenjpdjogmdaa
open Go.RowKit

theorem run_clear1 {P : Program} (w : World) (t e ty : TypeId) (z u : Value) (ht : P.underlying t = some (.slice e)) (hv : ∀ w, (zeroValue e).run P w = .ok z w) (hz : z.cells = #[u]) (h1 : u.oneCell' = true) (b o n c : Nat) (hn : 0 < n)
    (hc : ∀ j, j < n → (w.cell? ⟨b, o + j, none⟩).isSome = true) (hf : ∀ j, j < n → w.frozen? ⟨b, o + j, none⟩ = false) :
    (Builtin.clear_ #[t] ty #[.slice (some ⟨b, o, none⟩) n c]).run P w = .ok (.tuple #[]) (w.setCells b o (List.replicate n u)) := by
  have hzc : (Builtin.zeroCells z.cells n).toList = List.replicate n u := by
    rw [hz]
    simp [Builtin.zeroCells]
    apply List.ext_getElem
    · simp
    · intro i h1 h2
      simp [Nat.mod_one]
  have hst := run_storeCells_cells (P := P) b o (List.replicate n u) 0 w (by simpa using hc) (by simpa using hf) (by intro v hv'; rw [List.eq_of_mem_replicate hv']; exact h1)
  simp only [Nat.add_zero] at hst
  obtain ⟨m, rfl⟩ : ∃ m, n = m + 1 := ⟨n - 1, by omega⟩
  simp [Builtin.clear_, run_underlying ht, hv, hzc, hst]
theorem zero_chg (w : World) : (zeroValue 122).run Try.prog w = .ok (.agg #[.nilFunc]) w := by kernel_rfl
theorem grown_setCellsL (b : Nat) : ∀ (vs : List Value) (o : Nat) (w : World), w.grownBy (w.setCells b o vs) (some b)
  | [], o, w => ⟨rfl, rfl, rfl, Nat.le_refl _, fun _ _ _ => rfl⟩
  | v :: r, o, w => by
    have h := grown_setCellsL b r (o + 1) (w.setCell ⟨b, o, none⟩ v)
    exact far_two (grown_set w b o v) h
/-- The cells ahead of what is written stay. -/
theorem setCells_low (b : Nat) {t : TypeId} : ∀ (vs : List Value) (o : Nat) (w : World) (cs : Array Value), w.heap[b]? = some (.cells cs t (0, 0)) → ∃ cs' : Array Value, (w.setCells b o vs).heap[b]? = some (.cells cs' t (0, 0)) ∧ cs'.size = cs.size ∧ ∀ i, i < o → cs'[i]? = cs[i]?
  | [], o, w, cs, h => ⟨cs, h, rfl, fun _ _ => rfl⟩
  | v :: r, o, w, cs, h => by
    obtain ⟨cs', h1, h2, h3⟩ := setCells_low b r (o + 1) (w.setCell ⟨b, o, none⟩ v) _ (heap_setCell_same w b o _ _ v h)
    refine ⟨cs', h1, by rw [h2]; simp, fun i hi => ?_⟩
    rw [h3 i (by omega), Array.getElem?_setIfInBounds, if_neg (by omega)]
set_option maxRecDepth 10000 in
set_option maxHeartbeats 3200000 in
/-- slices.Delete of all from n on. -/
theorem deleteC {w : World} {B : Nat} {ao : Option Addr} {cap L n : Nat} {xs : List Value} (h : w.ownsRow B 122 1 (.slice ao L cap) L xs) (hn : n ≤ L) (hL : L < 4611686018427387904) :
    Calls Try.prog 59 #[.slice ao L cap, .int .i64 (n : Nat), .int .i64 (L : Nat)] w fun e w' => e = .returned (.slice ao n cap) ∧ Hid (w'.ownsRow B 122 1 (.slice ao n cap) n (xs.take n) ∧ w.grownBy w' (Value.slice ao L cap).ownBlock) := by
  by_cases heq : n = L
  · subst heq
    have HE : Hid (w.ownsRow B 122 1 (.slice ao n cap) n (xs.take n) ∧ w.grownBy w (Value.slice ao n cap).ownBlock) := by
      refine ⟨?_, ⟨rfl, rfl, rfl, Nat.le_refl _, fun _ _ _ => rfl⟩⟩
      rw [List.take_of_length_le (by have := h.1; omega)]
      exact h
    have hcap : n ≤ cap := by
      rcases h.2 with ⟨e, e0⟩ | ⟨g, c, cur, e, _, _, q, _⟩
      · cases e; omega
      · cases e; exact q
    have haod : ao = none ∨ ∃ g, ao = some ⟨g, 0, none⟩ := by
      rcases h.2 with ⟨e, e0⟩ | ⟨g, c, cur, e, _⟩
      · cases e; exact .inl rfl
      · cases e; exact .inr ⟨g, rfl⟩
    have hnil : ao = none → n = 0 ∧ cap = 0 := by
      rintro rfl
      rcases h.2 with ⟨e, e0⟩ | ⟨g, c, cur, e, _⟩
      · cases e; exact ⟨rfl, rfl⟩
      · cases e
    have g0 : ((n : Int) == (n : Int)) = true := by simp
    clear h hn
    rcases haod with rfl | ⟨g, rfl⟩
    · obtain ⟨rfl, rfl⟩ := hnil rfl
      go_enter Try.func59, Try.ntmps59
      go_wp2
      go_ret
      exact ⟨rfl, HE⟩
    · go_enter Try.func59, Try.ntmps59
      go_wp2
      go_ret
      exact ⟨rfl, HE⟩
  · obtain ⟨i0, hi, hz0, hz1, hz2⟩ := info_parts infoChg
    obtain ⟨g, cur, rfl, hB, hq, hcap, hmx, hsz, htk⟩ : ∃ g cur, ao = some ⟨g, 0, none⟩ ∧ B ≤ g ∧ w.heap[g]? = some (.cells cur 122 (0, 0)) ∧ L ≤ cap ∧ cap ≤ maxLen ∧ cur.size = cap ∧ cur.toList.take L = xs := by
      rcases h.2 with ⟨e, e0⟩ | ⟨g, c, cur, e, q1, q2, q3, q4, q5, q6⟩
      · omega
      · cases e
        exact ⟨g, cur, rfl, q1, q2, q3, q4, by omega, by rw [← q6, Nat.mul_one]⟩
    have g0 : ((n : Int) == (L : Int)) = false := by simp; omega
    have hlt : n < L := by omega
    have hclr : ∀ ty, (Builtin.clear_ #[73] ty #[.slice (some ⟨g, n, none⟩) (L - n) (cap - n)]).run Try.prog w.drew = .ok (.tuple #[]) (w.drew.setCells g n (List.replicate (L - n) .nilFunc)) := fun ty =>
      run_clear1 w.drew 73 122 ty (.agg #[.nilFunc]) .nilFunc Try.underlying73 zero_chg rfl rfl g n (L - n) (cap - n) (by omega) (fun j hj => by
        have hc : w.drew.heap[g]? = some (.cells cur 122 (0, 0)) := hq
        rw [block_cell hc, Array.getElem?_eq_getElem (by omega)]
        rfl) (fun j hj => by
        have hc : w.drew.heap[g]? = some (.cells cur 122 (0, 0)) := hq
        exact block_free hc _)
    unfold maxLen at hmx
    have HE : Hid ((w.drew.setCells g n (List.replicate (L - n) .nilFunc)).ownsRow B 122 1 (.slice (some ⟨g, 0, none⟩) n cap) n (xs.take n) ∧ w.grownBy (w.drew.setCells g n (List.replicate (L - n) .nilFunc)) (some g)) := by
      have hc : w.drew.heap[g]? = some (.cells cur 122 (0, 0)) := hq
      obtain ⟨cs', h1, h2, h3⟩ := setCells_low g (List.replicate (L - n) .nilFunc) n w.drew cur hc
      have hg := grown_setCellsL g (List.replicate (L - n) .nilFunc) n w.drew
      refine ⟨⟨?_, .inr ⟨g, cap, cs', rfl, hB, h1, by omega, by unfold maxLen; omega, by omega, ?_⟩⟩, ⟨hg.os, hg.tape, hg.output, hg.size, hg.block⟩⟩
      · have := h.1
        rw [List.length_take]
        omega
      · rw [← htk, List.take_take, Nat.mul_one, Nat.min_eq_left (by omega)]
        apply List.ext_getElem?
        intro i
        by_cases hi2 : i < n
        · rw [List.getElem?_take_of_lt hi2, List.getElem?_take_of_lt hi2, Array.getElem?_toList, Array.getElem?_toList, h3 i hi2]
        · rw [List.getElem?_eq_none (by rw [List.length_take]; omega), List.getElem?_eq_none (by rw [List.length_take]; omega)]
    have hLn : ((L : Int) - (n : Int)) = ((L - n : Nat) : Int) := by omega
    have gl := block_lt hq
    have hcl0 := hclr 0
    obtain ⟨W9, hW9⟩ : ∃ W9, w.drew.setCells g n (List.replicate (L - n) .nilFunc) = W9 := ⟨_, rfl⟩
    rw [hW9] at hcl0 HE
    clear hW9 hclr
    clear h hn hB hsz htk heq hq cur
    go_enter Try.func59, Try.ntmps59
    go_upto_region 5 with fail
    have hnc : n ≤ cap := by omega
    have hn0 : (0 : Int) ≤ (n : Int) := by omega
    by_cases hcl : cap = L
    · subst hcl
      go_region_law (refine step_append_room rfl (.tmp 22) (.tmp 25) 73 rfl 122 i0 1 Try.underlying73 hi hz1 g 0 n cap (by simp [Act.eval, Act.put]) ⟨g, 0, none⟩ 0 0 [] (by simp [Act.eval, Act.put]) rfl (by simp) (by simp) (by omega) (by simp) ?_)
      rw [show w.drew.setCells g n [] = w.drew from rfl]
      go_wp2
      go_ret
      exact ⟨rfl, HE⟩
    · go_region_law (refine step_append_room rfl (.tmp 22) (.tmp 25) 73 rfl 122 i0 1 Try.underlying73 hi hz1 g 0 n cap (by simp [Act.eval, Act.put]) ⟨g, L, none⟩ 0 (cap - L) [] (by simp [Act.eval, Act.put]) rfl (by simp) (by simp) (by omega) (by simp) ?_)
      rw [show w.drew.setCells g n [] = w.drew from rfl]
      go_wp2
      go_ret
      exact ⟨rfl, HE⟩
end Go.Proofs.Ytcfenjpdjogmdaa
