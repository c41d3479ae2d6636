import Derived.Test.YtbfjeabngdiejaaDoorShows
import Derived.ArgAppend
namespace Go.Proofs.YtbfjeabngdiejaaDoor
open Go.RowKit Crc

theorem cell_three_new (w : World) (a b c : Value) (t : TypeId) : ∀ j u, [a, b, c][j]? = some u → (w.alloc (.cells #[a, b, c] t)).cell? ((⟨w.heap.size, 0, none⟩ : Addr).add j) = some u := by
  intro j u hj
  match j, hj with
  | 0, hj => simp at hj; subst hj; simp [Addr.add]
  | 1, hj => simp at hj; subst hj; simp [Addr.add]
  | 2, hj => simp at hj; subst hj; simp [Addr.add]
  | j + 3, hj => simp at hj
theorem one3 (a b c : Int) : ∀ u ∈ [Value.int .u8 a, .int .u8 b, .int .u8 c], u.oneCell' = true := by
  intro u hu; simp at hu; rcases hu with rfl | rfl | rfl <;> rfl

theorem grown_quiet {a b c : World} {row : Option Nat} (h : a.grownBy b row) (k : b.grownBy c none) : a.grownBy c row :=
  ⟨k.os.trans h.os, k.tape.trans h.tape, k.output.trans h.output, Nat.le_trans h.size k.size, fun i hi hr => (k.block i (Nat.lt_of_lt_of_le hi h.size) (by simp)).trans (h.block i hi hr)⟩
theorem grown_set (w : World) (g j : Nat) (u : Value) : w.grownBy (w.setCell ⟨g, j, none⟩ u) (some g) :=
  ⟨rfl, rfl, rfl, by simp, fun k _ hk => heap_setCell_other w ⟨g, j, none⟩ k u (fun e => hk (by simp [e]))⟩
theorem grown_far {a b : World} {row : Option Nat} {g j : Nat} {u : Value} (h : a.grownBy b row) (hg : a.heap.size ≤ g) : a.grownBy (b.setCell ⟨g, j, none⟩ u) row :=
  ⟨h.os, h.tape, h.output, by simpa using h.size, fun k hk hr => (heap_setCell_other b ⟨g, j, none⟩ k u (by simp; omega)).trans (h.block k hk hr)⟩
theorem grown_far_none {a b : World} {g j : Nat} {u : Value} (h : a.grownBy b none) (hg : a.heap.size ≤ g) : a.grownBy (b.setCell ⟨g, j, none⟩ u) none := grown_far h hg
theorem own_shape {w : World} {base n : Nat} {v : Value} {xs : List Value} (h : w.ownsRow base 5 1 v n xs) (hn : 0 < n) : ∃ g cap, v = .slice (some ⟨g, 0, none⟩) n cap ∧ base ≤ g := by
  rcases h.2 with ⟨_, h0⟩ | ⟨g, cap, cur, rfl, hbg, _⟩
  · omega
  · exact ⟨g, cap, rfl, hbg⟩
theorem last_cell {w : World} {base g k cap : Nat} {ys : List Value} {a b c : Value} (h : w.ownsRow base 5 1 (.slice (some ⟨g, 0, none⟩) (k + 3) cap) (k + 3) (ys ++ [a, b, c])) (hl : ys.length = k) : w.cell? ⟨g, k + 2, none⟩ = some c := by
  rw [h.cellAt (k + 2) (by omega), List.getElem?_append_right (by omega), show k + 2 - ys.length = 2 by omega]
  rfl

set_option maxHeartbeats 800000 in
theorem spoil_some (g n cap : Nat) (xs : List Value) (mk : Nat) (mi : Int) (base : Nat) (w : World) (hmi : mi = (mk : Int)) (hmk : mk < 200) (hl : n ≤ 140737488351232) (hown : w.ownsRow base 5 1 (.slice (some ⟨g, 0, none⟩) n cap) n xs)
  (hint : ∀ i, i < n → ∃ c : Int, xs[i]? = some (.int .u8 c)) :
    Calls Tryd.prog 13 #[.slice (some ⟨g, 0, none⟩) n cap, .int .u8 mi] w fun e w' => e = .returned (.tuple #[]) ∧ w.grownBy w' (some g) := by
  obtain ⟨i0, hi, hz0, hz1, hz2⟩ := info_parts Tryd.info5
  subst hmi
  have HO : Hid (w.ownsRow base 5 1 (.slice (some ⟨g, 0, none⟩) n cap) n xs) := hown
  have HI : Hid (∀ i, i < n → ∃ c : Int, xs[i]? = some (.int .u8 c)) := hint
  clear hown hint
  go_enter Tryd.func13, Tryd.ntmps13
  go_wp2
  go_loopw [4] (fun i wr => ∃ k : Nat, k ≤ n ∧ i = .int .i64 k ∧ Hid (∃ ys : List Value, wr.ownsRow base 5 1 (.slice (some ⟨g, 0, none⟩) n cap) n ys ∧ (∀ i, i < n → ∃ c : Int, ys[i]? = some (.int .u8 c)) ∧ w.grownBy wr (some g))) (fun i _ => n - (intOf i).toNat)
  case atStart => exact ⟨0, by omega, rfl, xs, HO.out, HI.out, ⟨rfl, rfl, rfl, Nat.le_refl _, fun _ _ _ => rfl⟩⟩
  case round =>
    clear HO HI
    obtain ⟨k, hk, rfl, HR⟩ := hrel
    obtain ⟨ys, hown, hint, hg⟩ := HR.out
    clear HR
    have HG : Hid (w.grownBy wr (some g)) := hg
    have HO : Hid (wr.ownsRow base 5 1 (.slice (some ⟨g, 0, none⟩) n cap) n ys) := hown
    have HI : Hid (∀ i, i < n → ∃ c : Int, ys[i]? = some (.int .u8 c)) := hint
    have hsz := hg.size
    clear hg hint
    by_cases hlt : k < n
    · obtain ⟨c, hc⟩ := HI.out k hlt
      have hck : wr.cell? ⟨g, k, none⟩ = some (.int .u8 c) := (hown.cellAt k (by omega)).trans hc
      have hfz := hown.frozenAt k
      clear hown hc
      go_wp2
      go_roundw
      case rel =>
        refine ⟨k + 1, by omega, by go_num, ys.set k _, (HO.out.stored _ _).1, fun i hi => ?_, grown_trans HG.out (HO.out.stored _ _).2⟩
        rw [List.getElem?_set]
        have hly : ys.length = n := by have := HO.out.1; omega
        split
        · rw [if_pos (by omega)]; exact ⟨_, rfl⟩
        · exact HI.out i hi
      case measure => simp [intOf]; omega
    · obtain rfl : k = n := by omega
      have hly : ys.length = k := by have := hown.1; omega
      by_cases hroom : k + 3 ≤ cap
      · clear hown
        go_wp2_with (first
          | (at_builtin; refine wpList_append_own_spare _ rfl (.tmp 21) (.tmp 27) 22 rfl base 5 i0 1 Tryd.underlying22 hi hz1 g k cap _ rfl (HO.out.alloc _) ⟨wr.heap.size, 0, none⟩ 3 3 [.int .u8 (mk : Int), .int .u8 ((mk : Int) + 1), .int .u8 ((mk : Int) + 2)] rfl rfl (cell_three_new _ _ _ _ _) (one3 _ _ _) (by omega) ?_; intro w1 hown1 hgrow1; have hlast := last_cell hown1 hly; have hfz1 := hown1.frozenAt (k + 2); clear hown1))
        go_end0
        exact ⟨rfl, grown_trans (grown_trans (grown_trans HG.out (World.grownBy_alloc _ _ _)) hgrow1) (grown_set w1 g (k + 2) _)⟩
      · have holds : ∀ b, some (⟨g, 0, none⟩ : Addr) = some b → ∀ j u, ys[j]? = some u → wr.cell? (b.add j) = some u := by
          intro b hb j u hj
          cases hb
          have hjl : j < ys.length := (List.getElem?_eq_some_iff.1 hj).1
          rw [add_at, Nat.zero_add, hown.cellAt j (by omega)]
          exact hj
        have HH : Hid (∀ (O : Obj) b, some (⟨g, 0, none⟩ : Addr) = some b → ∀ j u, ys[j]? = some u → (wr.alloc O).cell? (b.add j) = some u) := by
          intro O b hb j u hj
          exact (World.grownBy_alloc wr O none).cell (holds b hb j u hj) (by simp)
        clear hown holds
        go_wp2_with (first
          | (at_builtin; refine wpList_append_grows _ rfl (.tmp 21) (.tmp 27) 22 rfl 5 i0 (.int .u8 0) 1 1 Tryd.underlying22 hi hz0 hz1 hz2 rfl (by decide) (some ⟨g, 0, none⟩) k cap ys rfl (fun h => by cases h) (by omega) (HH.out _) ⟨wr.heap.size, 0, none⟩ 3 3 [.int .u8 (mk : Int), .int .u8 ((mk : Int) + 1), .int .u8 ((mk : Int) + 2)] rfl rfl (cell_three_new _ _ _ _ _) (one3 _ _ _) (by omega) (by unfold maxLen; omega) (by omega) ?_; intro v' w1 hown1 hgrow1; obtain ⟨g', cap', rfl, hg'⟩ := own_shape hown1 (by omega); have hlast := last_cell hown1 hly; have hfz1 := hown1.frozenAt (k + 2); clear hown1))
        go_end0
        refine ⟨rfl, grown_trans HG.out ?_⟩
        simp at hg'
        exact grown_far (grown_quiet (World.grownBy_alloc _ _ _) hgrow1) (by omega)

set_option maxHeartbeats 800000 in
theorem spoil_nil (mk : Nat) (mi : Int) (w : World) (hmi : mi = (mk : Int)) (hmk : mk < 200) :
    Calls Tryd.prog 13 #[.slice none 0 0, .int .u8 mi] w fun e w' => e = .returned (.tuple #[]) ∧ w.grownBy w' none := by
  obtain ⟨i0, hi, hz0, hz1, hz2⟩ := info_parts Tryd.info5
  subst hmi
  have hly : ([] : List Value).length = 0 := rfl
  go_enter Tryd.func13, Tryd.ntmps13
  go_wp2
  refine wp_loop_rounds 1 ?_
  rw [rounds_succ]
  go_wp2_with (first
    | (at_builtin; refine wpList_append_grows _ rfl (.tmp 21) (.tmp 27) 22 rfl 5 i0 (.int .u8 0) 1 1 Tryd.underlying22 hi hz0 hz1 hz2 rfl (by decide) none 0 0 [] rfl (fun _ => ⟨rfl, rfl⟩) (by simp) (fun b hb => by cases hb) ⟨w.heap.size, 0, none⟩ 3 3 [.int .u8 (mk : Int), .int .u8 ((mk : Int) + 1), .int .u8 ((mk : Int) + 2)] rfl rfl (cell_three_new _ _ _ _ _) (one3 _ _ _) (by omega) (by unfold maxLen; omega) (by omega) ?_; intro v' w1 hown1 hgrow1; obtain ⟨g', cap', rfl, hg'⟩ := own_shape hown1 (by omega); have hlast := last_cell hown1 hly; have hfz1 := hown1.frozenAt 2; clear hown1))
  go_end0
  refine ⟨rfl, ?_⟩
  simp at hg'
  exact grown_far_none (grown_quiet (World.grownBy_alloc _ _ _) hgrow1) (by omega)

theorem vals_int (B : List Nat) : ∀ i, i < B.length → ∃ c : Int, (vals B)[i]? = some (.int .u8 c) := by
  intro i hi
  refine ⟨((B[i]'hi : Nat) : Int), ?_⟩
  unfold vals
  rw [List.getElem?_map, List.getElem?_eq_getElem hi]
  rfl

theorem spoil_any {base : Nat} {w : World} {v : Value} {B : List Nat} (h : Owns base w v B) (hl : B.length ≤ 140737488351232) (mk : Nat) (mi : Int) (hmi : mi = (mk : Int)) (hmk : mk < 200) :
    Calls Tryd.prog 13 #[v, .int .u8 mi] w fun e w' => e = .returned (.tuple #[]) ∧ w.grownBy w' v.ownBlock := by
  rcases h.1.2 with ⟨rfl, _⟩ | ⟨g, cap, cur, rfl, _⟩
  · exact spoil_nil mk mi w hmi hmk
  · exact spoil_some g B.length cap (vals B) mk mi base w hmi hmk hl h.1 (vals_int B)
end Go.Proofs.YtbfjeabngdiejaaDoor
