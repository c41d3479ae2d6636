import Derived.Test.YtgdliomkdkjlaaaPBase
namespace Go.Proofs.Ytgdliomkdkjlaaa
open Go.RowKit Crc

set_option maxRecDepth 10000 in
set_option maxHeartbeats 800000 in
theorem spoil_some (g n cap : Nat) (xs : List Value) (mk : Nat) (mi : Int) (base : Nat) (w : World) (hmi : mi = (mk : Int)) (hmk : mk < 200) (hl : n ≤ 140737488351232) (hown : w.ownsRow base 5 1 (.slice (some ⟨g, 0, none⟩) n cap) n xs)
  (hint : ∀ i, i < n → ∃ c : Int, xs[i]? = some (.int .u8 c)) :
    Calls Try.prog 14 #[.slice (some ⟨g, 0, none⟩) n cap, .int .u8 mi] w fun e w' => e = .returned (.tuple #[]) ∧ w.grownBy w' (some g) := by
  obtain ⟨i0, hi, hz0, hz1, hz2⟩ := info_parts Try.info5
  subst hmi
  have HO : Hid (w.ownsRow base 5 1 (.slice (some ⟨g, 0, none⟩) n cap) n xs) := hown
  have HI : Hid (∀ i, i < n → ∃ c : Int, xs[i]? = some (.int .u8 c)) := hint
  clear hown hint
  go_enter Try.func14, Try.ntmps14
  go_wp2
  go_loopw [4] (fun i wr => ∃ k : Nat, k ≤ n ∧ i = .int .i64 k ∧ Hid (∃ ys : List Value, wr.ownsRow base 5 1 (.slice (some ⟨g, 0, none⟩) n cap) n ys ∧ (∀ i, i < n → ∃ c : Int, ys[i]? = some (.int .u8 c)) ∧ w.grownBy wr (some g))) (fun i _ => n - (intOf i).toNat)
  case atStart => exact ⟨0, by omega, rfl, xs, HO.out, HI.out, ⟨rfl, rfl, rfl, Nat.le_refl _, fun _ _ _ => rfl⟩⟩
  case round =>
    clear HO HI
    obtain ⟨k, hk, rfl, HR⟩ := hrel
    obtain ⟨ys, hown, hint, hg⟩ := HR.out
    clear HR
    have HG : Hid (w.grownBy wr (some g)) := hg
    have HO : Hid (wr.ownsRow base 5 1 (.slice (some ⟨g, 0, none⟩) n cap) n ys) := hown
    have HI : Hid (∀ i, i < n → ∃ c : Int, ys[i]? = some (.int .u8 c)) := hint
    have hsz := hg.size
    clear hg hint
    by_cases hlt : k < n
    · obtain ⟨c, hc⟩ := HI.out k hlt
      have hck : wr.cell? ⟨g, k, none⟩ = some (.int .u8 c) := (hown.cellAt k (by omega)).trans hc
      have hfz := hown.frozenAt k
      clear hown hc
      go_wp2
      go_roundw
      case rel =>
        refine ⟨k + 1, by omega, by go_num, ys.set k _, (HO.out.stored _ _).1, fun i hi => ?_, grown_trans HG.out (HO.out.stored _ _).2⟩
        rw [List.getElem?_set]
        have hly : ys.length = n := by have := HO.out.1; omega
        split
        · rw [if_pos (by omega)]; exact ⟨_, rfl⟩
        · exact HI.out i hi
      case measure => simp [intOf]; omega
    · obtain rfl : k = n := by omega
      have hly : ys.length = k := by have := hown.1; omega
      by_cases hroom : k + 3 ≤ cap
      · clear hown
        go_wp2_with (first
          | (at_builtin; refine wpList_append_own_spare _ rfl (.tmp 21) (.tmp 27) 29 rfl base 5 i0 1 Try.underlying29 hi hz1 g k cap _ rfl (HO.out.alloc _) ⟨wr.heap.size, 0, none⟩ 3 3 [.int .u8 (mk : Int), .int .u8 ((mk : Int) + 1), .int .u8 ((mk : Int) + 2)] rfl rfl (cell_three_new _ _ _ _ _) (one3 _ _ _) (by omega) ?_; intro w1 hown1 hgrow1; have hlast := last_cell hown1 hly; have hfz1 := hown1.frozenAt (k + 2); clear hown1))
        go_end0
        exact ⟨rfl, grown_trans (grown_trans (grown_trans HG.out (World.grownBy_alloc _ _ _)) hgrow1) (grown_set w1 g (k + 2) _)⟩
      · have holds : ∀ b, some (⟨g, 0, none⟩ : Addr) = some b → ∀ j u, ys[j]? = some u → wr.cell? (b.add j) = some u := by
          intro b hb j u hj
          cases hb
          have hjl : j < ys.length := (List.getElem?_eq_some_iff.1 hj).1
          rw [add_at, Nat.zero_add, hown.cellAt j (by omega)]
          exact hj
        have HH : Hid (∀ (O : Obj) b, some (⟨g, 0, none⟩ : Addr) = some b → ∀ j u, ys[j]? = some u → (wr.alloc O).cell? (b.add j) = some u) := by
          intro O b hb j u hj
          exact (World.grownBy_alloc wr O none).cell (holds b hb j u hj) (by simp)
        clear hown holds
        go_wp2_with (first
          | (at_builtin; refine wpList_append_grows _ rfl (.tmp 21) (.tmp 27) 29 rfl 5 i0 (.int .u8 0) 1 1 Try.underlying29 hi hz0 hz1 hz2 rfl (by decide) (some ⟨g, 0, none⟩) k cap ys rfl (fun h => by cases h) (by omega) (HH.out _) ⟨wr.heap.size, 0, none⟩ 3 3 [.int .u8 (mk : Int), .int .u8 ((mk : Int) + 1), .int .u8 ((mk : Int) + 2)] rfl rfl (cell_three_new _ _ _ _ _) (one3 _ _ _) (by omega) (by unfold maxLen; omega) (by omega) ?_; intro v' w1 hown1 hgrow1; obtain ⟨g', cap', rfl, hg'⟩ := own_shape hown1 (by omega); have hlast := last_cell hown1 hly; have hfz1 := hown1.frozenAt (k + 2); clear hown1))
        go_end0
        refine ⟨rfl, grown_trans HG.out ?_⟩
        simp at hg'
        exact grown_far (grown_quiet (World.grownBy_alloc _ _ _) hgrow1) (by omega)
set_option maxRecDepth 10000 in
set_option maxHeartbeats 800000 in
theorem spoil_nil (mk : Nat) (mi : Int) (w : World) (hmi : mi = (mk : Int)) (hmk : mk < 200) :
    Calls Try.prog 14 #[.slice none 0 0, .int .u8 mi] w fun e w' => e = .returned (.tuple #[]) ∧ w.grownBy w' none := by
  obtain ⟨i0, hi, hz0, hz1, hz2⟩ := info_parts Try.info5
  subst hmi
  have hly : ([] : List Value).length = 0 := rfl
  go_enter Try.func14, Try.ntmps14
  go_wp2
  refine wp_loop_rounds 1 ?_
  rw [rounds_succ]
  go_wp2_with (first
    | (at_builtin; refine wpList_append_grows _ rfl (.tmp 21) (.tmp 27) 29 rfl 5 i0 (.int .u8 0) 1 1 Try.underlying29 hi hz0 hz1 hz2 rfl (by decide) none 0 0 [] rfl (fun _ => ⟨rfl, rfl⟩) (by simp) (fun b hb => by cases hb) ⟨w.heap.size, 0, none⟩ 3 3 [.int .u8 (mk : Int), .int .u8 ((mk : Int) + 1), .int .u8 ((mk : Int) + 2)] rfl rfl (cell_three_new _ _ _ _ _) (one3 _ _ _) (by omega) (by unfold maxLen; omega) (by omega) ?_; intro v' w1 hown1 hgrow1; obtain ⟨g', cap', rfl, hg'⟩ := own_shape hown1 (by omega); have hlast := last_cell hown1 hly; have hfz1 := hown1.frozenAt 2; clear hown1))
  go_end0
  refine ⟨rfl, ?_⟩
  simp at hg'
  exact grown_far_none (grown_quiet (World.grownBy_alloc _ _ _) hgrow1) (by omega)
theorem spoil_any {base : Nat} {w : World} {v : Value} {B : List Nat} (h : Owns base w v B) (hl : B.length ≤ 140737488351232) (mk : Nat) (mi : Int) (hmi : mi = (mk : Int)) (hmk : mk < 200) :
    Calls Try.prog 14 #[v, .int .u8 mi] w fun e w' => e = .returned (.tuple #[]) ∧ w.grownBy w' v.ownBlock := by
  rcases h.1.2 with ⟨rfl, _⟩ | ⟨g, cap, cur, rfl, _⟩
  · exact spoil_nil mk mi w hmi hmk
  · exact spoil_some g B.length cap (vals B) mk mi base w hmi hmk hl h.1 (vals_int B)
end Go.Proofs.Ytgdliomkdkjlaaa
