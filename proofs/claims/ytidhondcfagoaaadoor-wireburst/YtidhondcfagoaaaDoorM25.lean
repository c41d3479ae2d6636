import Derived.Test.YtidhondcfagoaaaDoorM1
import Derived.Test.YtidhondcfagoaaaDoorM0
namespace Go.Proofs.YtidhondcfagoaaaDoor
open Go.RowKit Crc

end Go.Proofs.YtidhondcfagoaaaDoor
namespace Go.Proofs.YtidhondcfagoaaaDoor
open Go.RowKit Crc

set_option maxRecDepth 10000 in
set_option maxHeartbeats 800000 in
theorem lend_any (b off : Nat) (ao : Option Addr) (B : List Nat) (n cap : Nat) (w : World) (hao : 0 < n → ao = some ⟨b, off, none⟩) (hn : n = B.length) (hl : n ≤ 140737488355328)
  (hbw : 0 < n → b < w.heap.size) (hc : ∀ i, i < n → w.cell? ⟨b, off + i, none⟩ = some (.int .u8 ((B.getD i 0 : Nat) : Int))) :
    Calls Tryd.prog 5 #[.slice ao n cap] w fun e w' => e = .returned (.slice (some ⟨w.heap.size, 0, none⟩) n (n + 4)) ∧
      w'.ownsRow w.heap.size 5 1 (.slice (some ⟨w.heap.size, 0, none⟩) (n + 4) (n + 4)) (n + 4) (vals (B ++ marksTo 4)) ∧ Below w.heap.size w w' := by
  obtain ⟨i0, hi, hz0, hz1, hz2⟩ := info_parts Tryd.info5
  have HA : Hid (0 < n → ao = some ⟨b, off, none⟩) := hao
  have HN : Hid (n = B.length) := hn
  have HC : Hid (∀ i, i < n → w.cell? ⟨b, off + i, none⟩ = some (.int .u8 ((B.getD i 0 : Nat) : Int))) := hc
  have HB : Hid (0 < n → b < w.heap.size) := hbw
  clear hn hc hao hbw
  go_enter Tryd.func5, Tryd.ntmps5
  go_wp2_with (first
    | (at_make; refine wpList_make_own _ rfl _ _ 22 rfl w.heap.size 5 i0 (.int .u8 0) 1 Tryd.underlying22 hi hz0 hz1 .i64 .i64 _ (n + 4) rfl rfl (by omega) (by rw [hz2]; omega) (by unfold maxLen; omega) (Nat.le_refl _) ?_; intro w0 hown0 hgrow0))
  go_loopw [3, 4] (fun v i wr => ∃ k : Nat, k ≤ n ∧ i = .int .i64 k ∧ v = .slice (some ⟨w.heap.size, 0, none⟩) k (n + 4) ∧ wr.ownsRow w.heap.size 5 1 v k (vals (B.take k)) ∧ Below w.heap.size w wr)
    (fun _ i _ => n - (intOf i).toNat)
  case atStart => exact ⟨0, by omega, rfl, rfl, hown0, (Below.refl _ _).grown hgrow0 (Nat.le_refl _) (fun k h => by cases h)⟩
  case round =>
    obtain ⟨k, hk, rfl, rfl, hown, hnx⟩ := hrel
    clear hgrow0 hown0
    have hsize := hnx.size
    by_cases hlt : k < n
    · have hck := (hnx.cell (p := ⟨b, off + k, none⟩) (HB.out (by omega))).trans (HC.out k hlt)
      have HT : Hid (vals (B.take (k + 1)) = vals (B.take k) ++ [.int .u8 ((B.getD k 0 : Nat) : Int)]) := by
        show _ = _; rw [take_snoc B k (by have := HN.out; omega), vals_append, vals_one]
      obtain ⟨c, hcd⟩ : ∃ c, c = B.getD k 0 := ⟨_, rfl⟩
      rw [← hcd] at hck HT
      clear hcd
      obtain rfl := HA.out (by omega)
      go_wp2_with (first
        | (at_builtin; refine wpList_append_own_spare _ rfl (.tmp 16) (.tmp 21) 22 rfl w.heap.size 5 i0 1 Tryd.underlying22 hi hz1 w.heap.size k (n + 4) _ rfl (hown.alloc _) ⟨wr.heap.size, 0, none⟩ 1 1 [.int .u8 (c : Int)] rfl rfl (cell_one_new _ _ _) (Shade.one _ rfl) (by omega) ?_; intro w1 hown1 hgrow1))
      go_roundw
      case rel =>
        exact ⟨k + 1, by omega, by go_num, rfl, by rw [HT.out]; exact hown1, (hnx.alloc (by omega) _).grown hgrow1 (by simp; omega) (fun j hj => by cases hj; exact Nat.le_refl _)⟩
      case measure => simp [intOf]; omega
    · obtain rfl : k = n := by omega
      have hBk : B.take k = B := List.take_of_length_le (by have := HN.out; omega)
      rw [hBk] at hown
      clear hBk
      go_wp2
      go_loopw [3, 5] (fun v i wr => ∃ j : Nat, j ≤ 4 ∧ i = .int .i64 j ∧ v = .slice (some ⟨w.heap.size, 0, none⟩) (k + j) (k + 4) ∧ wr.ownsRow w.heap.size 5 1 v (k + j) (vals (B ++ marksTo j)) ∧ Below w.heap.size w wr)
        (fun _ i _ => 4 - (intOf i).toNat)
      case atStart => exact ⟨0, by omega, rfl, rfl, by simpa [marksTo] using hown, hnx⟩
      case round =>
        clear hown hnx hsize
        obtain ⟨j, hj, rfl, rfl, hown, hnx⟩ := hrel
        have hsize := hnx.size
        by_cases hj4 : j < 4
        · have HT : Hid (vals (B ++ marksTo (j + 1)) = vals (B ++ marksTo j) ++ [.int .u8 ((160 : Int) + (j : Int))]) := by
            show _ = _; rw [marksTo_succ, ← List.append_assoc, vals_append, vals_one]; simp
          go_wp2_with (first
            | (at_builtin; refine wpList_append_own_spare _ rfl (.tmp 27) (.tmp 31) 22 rfl w.heap.size 5 i0 1 Tryd.underlying22 hi hz1 w.heap.size (k + j) (k + 4) _ rfl (hown.alloc _) ⟨wr.heap.size, 0, none⟩ 1 1 [.int .u8 ((160 : Int) + (j : Int))] rfl rfl (cell_one_new _ _ _) (Shade.one _ rfl) (by omega) ?_; intro w1 hown1 hgrow1))
          go_roundw
          case rel =>
            exact ⟨j + 1, by omega, by go_num, by rw [Nat.add_assoc], by rw [HT.out, ← Nat.add_assoc]; exact hown1, (hnx.alloc (by omega) _).grown hgrow1 (by simp; omega) (fun j hj => by cases hj; exact Nat.le_refl _)⟩
          case measure => simp [intOf]; omega
        · obtain rfl : j = 4 := by omega
          go_wp2
          go_ret
          exact ⟨rfl, hown, hnx⟩
end Go.Proofs.YtidhondcfagoaaaDoor
