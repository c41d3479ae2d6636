import Derived.Test.YtcagbggnlfeadaaGreatDoorWSc
namespace Go.Proofs.YtcagbggnlfeadaaGreatDoor
open Go.RowKit Crc

set_option maxRecDepth 10000 in
set_option maxHeartbeats 800000 in
theorem lend_any (b off : Nat) (ao : Option Addr) (B : List Nat) (n cap : Nat) (w : World) (hao : 0 < n → ao = some ⟨b, off, none⟩) (hn : n = B.length) (hl : n ≤ 140737488351232)
  (hbw : 0 < n → b < w.heap.size) (hc : ∀ i, i < n → w.cell? ⟨b, off + i, none⟩ = some (.int .u8 ((B.getD i 0 : Nat) : Int))) :
    Calls Tryz.prog 10 #[.slice ao n cap] w fun e w' => e = .returned (.slice (some ⟨w.heap.size, 0, none⟩) n (n + 3)) ∧
      w'.ownsRow w.heap.size 5 1 (.slice (some ⟨w.heap.size, 0, none⟩) (n + 3) (n + 3)) (n + 3) (vals B ++ vals [161, 162, 163]) ∧ Below w.heap.size w w' := by
  obtain ⟨i0, hi, hz0, hz1, hz2⟩ := info_parts Tryz.info5
  have HA : Hid (0 < n → ao = some ⟨b, off, none⟩) := hao
  have HN : Hid (n = B.length) := hn
  have HC : Hid (∀ i, i < n → w.cell? ⟨b, off + i, none⟩ = some (.int .u8 ((B.getD i 0 : Nat) : Int))) := hc
  have HB : Hid (0 < n → b < w.heap.size) := hbw
  clear hn hc hao hbw
  go_enter Tryz.func10, Tryz.ntmps10
  go_wp2_with (first
    | (at_make; refine wpList_make_own _ rfl _ _ 37 rfl w.heap.size 5 i0 (.int .u8 0) 1 Tryz.underlying37 hi hz0 hz1 .i64 .i64 _ (n + 3) rfl rfl (by omega) (by rw [hz2]; omega) (by unfold maxLen; omega) (Nat.le_refl _) ?_; intro w0 hown0 hgrow0))
  go_loopw [3, 4] (fun v i wr => ∃ k : Nat, k ≤ n ∧ i = .int .i64 k ∧ v = .slice (some ⟨w.heap.size, 0, none⟩) k (n + 3) ∧ wr.ownsRow w.heap.size 5 1 v k (vals (B.take k)) ∧ Below w.heap.size w wr)
    (fun _ i _ => n - (intOf i).toNat)
  case atStart => exact ⟨0, by omega, rfl, rfl, hown0, (Below.refl _ _).grown hgrow0 (Nat.le_refl _) (fun k h => by cases h)⟩
  case round =>
    obtain ⟨k, hk, rfl, rfl, hown, hnx⟩ := hrel
    clear hgrow0 hown0
    have hsize := hnx.size
    by_cases hlt : k < n
    · have hck := (hnx.cell (p := ⟨b, off + k, none⟩) (HB.out (by omega))).trans (HC.out k hlt)
      have HT : Hid (vals (B.take (k + 1)) = vals (B.take k) ++ [.int .u8 ((B.getD k 0 : Nat) : Int)]) := by
        show _ = _; rw [take_snoc B k (by have := HN.out; omega), vals_append, vals_one]
      obtain ⟨c, hcd⟩ : ∃ c, c = B.getD k 0 := ⟨_, rfl⟩
      rw [← hcd] at hck HT
      clear hcd
      obtain rfl := HA.out (by omega)
      go_wp2_with (first
        | (at_builtin; refine wpList_append_own_spare _ rfl (.tmp 15) (.tmp 20) 37 rfl w.heap.size 5 i0 1 Tryz.underlying37 hi hz1 w.heap.size k (n + 3) _ rfl (hown.alloc _) ⟨wr.heap.size, 0, none⟩ 1 1 [.int .u8 (c : Int)] rfl rfl (cell_one_new _ _ _) (Shade.one _ rfl) (by omega) ?_; intro w1 hown1 hgrow1))
      go_roundw
      case rel =>
        exact ⟨k + 1, by omega, by go_num, rfl, by rw [HT.out]; exact hown1, (hnx.alloc (by omega) _).grown hgrow1 (by simp; omega) (fun j hj => by cases hj; exact Nat.le_refl _)⟩
      case measure => simp [intOf]; omega
    · obtain rfl : k = n := by omega
      have hBk : B.take k = B := List.take_of_length_le (by have := HN.out; omega)
      rw [hBk] at hown
      clear hBk
      go_wp2_with (first
        | (at_builtin; refine wpList_append_own_spare _ rfl (.tmp 22) (.tmp 23) 37 rfl w.heap.size 5 i0 1 Tryz.underlying37 hi hz1 w.heap.size k (k + 3) _ rfl (hown.alloc _) ⟨wr.heap.size, 0, none⟩ 3 3 [.int .u8 161, .int .u8 162, .int .u8 163] rfl rfl (cell_three_new _ _ _ _ _) (one3 _ _ _) (by omega) ?_; intro w1 hown1 hgrow1))
      go_ret
      exact ⟨rfl, hown1, (hnx.alloc (by omega) _).grown hgrow1 (by simp; omega) (fun j hj => by cases hj; exact Nat.le_refl _)⟩
/-- Bytes that were lent: in a block of their own, three marks behind them. -/
def LentW (w : World) (g n : Nat) (B : List Nat) : Prop := n = B.length ∧ w.ownsRow g 5 1 (.slice (some ⟨g, 0, none⟩) (n + 3) (n + 3)) (n + 3) (vals B ++ vals [161, 162, 163])
theorem lend_sh {lim : Nat} {w : World} {ao : Option Addr} {n cap : Nat} {B : List Nat} (h : Shows lim w ao n cap B) (hlim : lim ≤ w.heap.size) (hl : n ≤ 140737488351232) :
    Calls Tryz.prog 10 #[.slice ao n cap] w fun e w' => e = .returned (.slice (some ⟨w.heap.size, 0, none⟩) n (n + 3)) ∧ LentW w' w.heap.size n B ∧ Below w.heap.size w w' := by
  obtain ⟨h1, h2, h3, h4, b, off, h5, h6, h7⟩ := h
  exact (lend_any b off ao B n cap w h5 h1 hl (fun h => Nat.lt_of_lt_of_le (h6 h) hlim) h7).mono fun e w' ⟨p, q, r⟩ => ⟨p, ⟨h1, q⟩, r⟩
theorem LentW.owns {w : World} {g n : Nat} {B : List Nat} (h : LentW w g n B) (hB : ∀ x ∈ B, x < 256) (hl : n ≤ 140737488351232) : Owns g w (.slice (some ⟨g, 0, none⟩) n (n + 3)) B := by
  obtain ⟨h1, h2⟩ := h
  obtain ⟨cur, p1, p2, p3, p4⟩ := own_block h2
  refine ⟨?_, hB, by omega⟩
  rw [← h1]
  refine owns_of (Nat.le_refl _) p1 p2 (by unfold maxLen; omega) (by omega) ?_
  have : cur.toList.take n = (cur.toList.take (n + 3)).take n := by rw [List.take_take, Nat.min_eq_left (by omega)]
  rw [this, p4, List.take_append_of_le_length (by rw [vals_len]; omega), List.take_of_length_le (by rw [vals_len]; omega)]
theorem LentW.shows {w : World} {g n : Nat} {B : List Nat} (h : LentW w g n B) (hB : ∀ x ∈ B, x < 256) (hl : n ≤ 140737488351232) : Shows w.heap.size w (some ⟨g, 0, none⟩) n (n + 3) B := by
  obtain ⟨ao, c, h1, h2, _⟩ := (h.owns hB hl).form
  cases h1
  rw [← h.1] at h2
  exact h2
theorem LentW.lt {w : World} {g n : Nat} {B : List Nat} (h : LentW w g n B) : g < w.heap.size := owned_lt2 h.2
theorem LentW.kept {w w' : World} {g n : Nat} {B : List Nat} {row : Option Nat} (h : LentW w g n B) (hg : w.grownBy w' row) (hr : row ≠ some g) : LentW w' g n B :=
  ⟨h.1, h.2.kept hg (.inr (by simpa [Value.ownBlock] using fun e => hr e.symm))⟩
end Go.Proofs.YtcagbggnlfeadaaGreatDoor
