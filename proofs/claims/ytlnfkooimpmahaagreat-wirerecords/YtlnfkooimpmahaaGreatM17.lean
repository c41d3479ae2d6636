import Derived.Test.YtlnfkooimpmahaaGreatM0
namespace Go.Proofs.YtlnfkooimpmahaaGreat
open Go.RowKit Crc

set_option maxRecDepth 10000 in
set_option maxHeartbeats 800000 in
theorem lend_any (b off : Nat) (ao : Option Addr) (B : List Nat) (n cap : Nat) (w : World) (hao : 0 < n → ao = some ⟨b, off, none⟩) (hn : n = B.length) (hl : n ≤ 140737488355328)
  (hbw : 0 < n → b < w.heap.size) (hc : ∀ i, i < n → w.cell? ⟨b, off + i, none⟩ = some (.int .u8 ((B.getD i 0 : Nat) : Int))) :
    Calls Tryz.prog 21 #[.slice ao n cap] w fun e w' => e = .returned (.slice (some ⟨w.heap.size, 0, none⟩) n (n + 4)) ∧
      w'.ownsRow w.heap.size 5 1 (.slice (some ⟨w.heap.size, 0, none⟩) (n + 4) (n + 4)) (n + 4) (vals (B ++ marksTo 4)) ∧ Below w.heap.size w w' := by
  obtain ⟨i0, hi, hz0, hz1, hz2⟩ := info_parts Tryz.info5
  have HA : Hid (0 < n → ao = some ⟨b, off, none⟩) := hao
  have HN : Hid (n = B.length) := hn
  have HC : Hid (∀ i, i < n → w.cell? ⟨b, off + i, none⟩ = some (.int .u8 ((B.getD i 0 : Nat) : Int))) := hc
  have HB : Hid (0 < n → b < w.heap.size) := hbw
  clear hn hc hao hbw
  go_enter Tryz.func21, Tryz.ntmps21
  go_wp2_with (first
    | (at_make; refine wpList_make_own _ rfl _ _ 29 rfl w.heap.size 5 i0 (.int .u8 0) 1 Tryz.underlying29 hi hz0 hz1 .i64 .i64 _ (n + 4) rfl rfl (by omega) (by rw [hz2]; omega) (by unfold maxLen; omega) (Nat.le_refl _) ?_; intro w0 hown0 hgrow0))
  go_loopw [3, 4] (fun v i wr => ∃ k : Nat, k ≤ n ∧ i = .int .i64 k ∧ v = .slice (some ⟨w.heap.size, 0, none⟩) k (n + 4) ∧ wr.ownsRow w.heap.size 5 1 v k (vals (B.take k)) ∧ Below w.heap.size w wr)
    (fun _ i _ => n - (intOf i).toNat)
  case atStart => exact ⟨0, by omega, rfl, rfl, hown0, (Below.refl _ _).grown hgrow0 (Nat.le_refl _) (fun k h => by cases h)⟩
  case round =>
    obtain ⟨k, hk, rfl, rfl, hown, hnx⟩ := hrel
    clear hgrow0 hown0
    have hsize := hnx.size
    by_cases hlt : k < n
    · have hck := (hnx.cell (p := ⟨b, off + k, none⟩) (HB.out (by omega))).trans (HC.out k hlt)
      have HT : Hid (vals (B.take (k + 1)) = vals (B.take k) ++ [.int .u8 ((B.getD k 0 : Nat) : Int)]) := by
        show _ = _; rw [take_snoc B k (by have := HN.out; omega), vals_append, vals_one]
      obtain ⟨c, hcd⟩ : ∃ c, c = B.getD k 0 := ⟨_, rfl⟩
      rw [← hcd] at hck HT
      clear hcd
      obtain rfl := HA.out (by omega)
      go_wp2_with (first
        | (at_builtin; refine wpList_append_own_spare _ rfl (.tmp 16) (.tmp 21) 29 rfl w.heap.size 5 i0 1 Tryz.underlying29 hi hz1 w.heap.size k (n + 4) _ rfl (hown.alloc _) ⟨wr.heap.size, 0, none⟩ 1 1 [.int .u8 (c : Int)] rfl rfl (cell_one_new _ _ _) (Shade.one _ rfl) (by omega) ?_; intro w1 hown1 hgrow1))
      go_roundw
      case rel =>
        exact ⟨k + 1, by omega, by go_num, rfl, by rw [HT.out]; exact hown1, (hnx.alloc (by omega) _).grown hgrow1 (by simp; omega) (fun j hj => by cases hj; exact Nat.le_refl _)⟩
      case measure => simp [intOf]; omega
    · obtain rfl : k = n := by omega
      have hBk : B.take k = B := List.take_of_length_le (by have := HN.out; omega)
      rw [hBk] at hown
      clear hBk
      go_wp2
      go_loopw [3, 5] (fun v i wr => ∃ j : Nat, j ≤ 4 ∧ i = .int .i64 j ∧ v = .slice (some ⟨w.heap.size, 0, none⟩) (k + j) (k + 4) ∧ wr.ownsRow w.heap.size 5 1 v (k + j) (vals (B ++ marksTo j)) ∧ Below w.heap.size w wr)
        (fun _ i _ => 4 - (intOf i).toNat)
      case atStart => exact ⟨0, by omega, rfl, rfl, by simpa [marksTo] using hown, hnx⟩
      case round =>
        clear hown hnx hsize
        obtain ⟨j, hj, rfl, rfl, hown, hnx⟩ := hrel
        have hsize := hnx.size
        by_cases hj4 : j < 4
        · have HT : Hid (vals (B ++ marksTo (j + 1)) = vals (B ++ marksTo j) ++ [.int .u8 ((160 : Int) + (j : Int))]) := by
            show _ = _; rw [marksTo_succ, ← List.append_assoc, vals_append, vals_one]; simp
          go_wp2_with (first
            | (at_builtin; refine wpList_append_own_spare _ rfl (.tmp 27) (.tmp 31) 29 rfl w.heap.size 5 i0 1 Tryz.underlying29 hi hz1 w.heap.size (k + j) (k + 4) _ rfl (hown.alloc _) ⟨wr.heap.size, 0, none⟩ 1 1 [.int .u8 ((160 : Int) + (j : Int))] rfl rfl (cell_one_new _ _ _) (Shade.one _ rfl) (by omega) ?_; intro w1 hown1 hgrow1))
          go_roundw
          case rel =>
            exact ⟨j + 1, by omega, by go_num, by rw [Nat.add_assoc], by rw [HT.out, ← Nat.add_assoc]; exact hown1, (hnx.alloc (by omega) _).grown hgrow1 (by simp; omega) (fun j hj => by cases hj; exact Nat.le_refl _)⟩
          case measure => simp [intOf]; omega
        · obtain rfl : j = 4 := by omega
          go_wp2
          go_ret
          exact ⟨rfl, hown, hnx⟩
end Go.Proofs.YtlnfkooimpmahaaGreat
namespace Go.Proofs.YtlnfkooimpmahaaGreat
open Go.RowKit Crc

/-- The lent copy, as it lies. -/
def Lent (wi : World) (gc n : Nat) (B : List Nat) : Prop := n = B.length ∧ wi.ownsRow gc 5 1 (.slice (some ⟨gc, 0, none⟩) (n + 4) (n + 4)) (n + 4) (vals (B ++ marksTo 4))
theorem Lent.next {wi w' : World} {gc n : Nat} {B : List Nat} {row : Option Nat} (h : Lent wi gc n B) (hg : wi.grownBy w' row) (hr : row ≠ some gc) : Lent w' gc n B :=
  ⟨h.1, h.2.kept hg (.inr (by simpa [Value.ownBlock] using fun e => hr e.symm))⟩
theorem Lent.shows {wi : World} {gc n : Nat} {B : List Nat} (h : Lent wi gc n B) (hB : ∀ x ∈ B, x < 256) (hl : n ≤ 140737488355328) : Shows wi.heap.size wi (some ⟨gc, 0, none⟩) n (n + 4) B := by
  refine ⟨h.1, by omega, hl, hB, gc, 0, fun _ => rfl, fun _ => owned_lt2 h.2, fun i hi => ?_⟩
  have := owned_cells h.2 i (by omega)
  rw [List.getD_eq_getElem?_getD, List.getElem?_append_left (by have := h.1; omega)] at this
  rw [Nat.zero_add, this, List.getD_eq_getElem?_getD]
theorem lend_sh {lim : Nat} {ao : Option Addr} {B : List Nat} {n cap : Nat} {w : World} (h : Shows lim w ao n cap B) (hl : lim ≤ w.heap.size) :
    Calls Tryz.prog 21 #[.slice ao n cap] w fun e w' => e = .returned (.slice (some ⟨w.heap.size, 0, none⟩) n (n + 4)) ∧ Lent w' w.heap.size n B ∧ Below w.heap.size w w' := by
  obtain ⟨h1, h2, h3, h4, b, off, h5, h6, h7⟩ := h
  exact (lend_any b off ao B n cap w h5 h1 h3 (fun h => Nat.lt_of_lt_of_le (h6 h) hl) h7).mono fun e w' ⟨p, q, r⟩ => ⟨p, ⟨h1, q⟩, r⟩
end Go.Proofs.YtlnfkooimpmahaaGreat
namespace Go.Proofs.YtlnfkooimpmahaaGreat
open Go.RowKit Crc

set_option maxRecDepth 10000 in
set_option maxHeartbeats 800000 in
theorem kept_any (b off g : Nat) (ao : Option Addr) (B : List Nat) (n cap : Nat) (w : World) (hao : 0 < n → ao = some ⟨b, off, none⟩) (hn : n = B.length) (hl : n ≤ 140737488355328)
  (hc : ∀ i, i < n → w.cell? ⟨b, off + i, none⟩ = some (.int .u8 ((B.getD i 0 : Nat) : Int)))
  (hg : ∀ i, i < n + 4 → w.cell? ⟨g, i, none⟩ = some (.int .u8 (((B ++ marksTo 4).getD i 0 : Nat) : Int))) :
    Calls Tryz.prog 11 #[.slice (some ⟨g, 0, none⟩) n (n + 4), .slice ao n cap] w fun e w' => e = .returned (.bool true) ∧ ∃ q, w' = w.drewN q := by
  have HA : Hid (0 < n → ao = some ⟨b, off, none⟩) := hao
  have HN : Hid (n = B.length) := hn
  have HC : Hid (∀ i, i < n → w.cell? ⟨b, off + i, none⟩ = some (.int .u8 ((B.getD i 0 : Nat) : Int))) := hc
  have HG : Hid (∀ i, i < n + 4 → w.cell? ⟨g, i, none⟩ = some (.int .u8 (((B ++ marksTo 4).getD i 0 : Nat) : Int))) := hg
  clear hn hc hg hao
  go_enter Tryz.func11, Tryz.ntmps11
  go_wp2
  go_loopw [6] (fun i wr => ∃ k q : Nat, k ≤ n + 4 ∧ i = .int .i64 k ∧ wr = w.drewN q) (fun i _ => n + 4 - (intOf i).toNat)
  case atStart => exact ⟨0, 0, by omega, rfl, rfl⟩
  case round =>
    obtain ⟨k, q, hk, rfl, rfl⟩ := hrel
    by_cases hlt : k < n + 4
    · have hgk := HG.out k hlt
      by_cases hkn : k < n
      · have hck := HC.out k hkn
        have e : (B ++ marksTo 4).getD k 0 = B.getD k 0 := by
          rw [List.getD_eq_getElem?_getD, List.getD_eq_getElem?_getD, List.getElem?_append_left (by have := HN.out; omega)]
        rw [e] at hgk
        clear e
        obtain ⟨c, hcd⟩ : ∃ c, c = B.getD k 0 := ⟨_, rfl⟩
        rw [← hcd] at hck hgk
        clear hcd
        obtain rfl := HA.out (by omega)
        have hd : decide ((k : Int) < (n : Int)) = true := by simp; omega
        have hd2 : decide (n ≤ k) = false := by simp; omega
        go_wp2
        go_quiet (fail)
        go_wp2
        go_roundw
        case rel => exact ⟨k + 1, _, by omega, by go_num, rfl⟩
        case measure => simp [intOf]; omega
      · obtain ⟨j, rfl⟩ : ∃ j, k = n + j := ⟨k - n, by omega⟩
        have e : (B ++ marksTo 4).getD (n + j) 0 = 160 + j := by
          have hj : j < 4 := by omega
          rw [List.getD_eq_getElem?_getD, List.getElem?_append_right (by have := HN.out; omega), show n + j - B.length = j by have := HN.out; omega]
          simp [marksTo, hj]
        rw [e] at hgk
        clear e
        have hd : decide ((n : Int) + (j : Int) < (n : Int)) = false := by simp; omega
        have hd2 : decide ((n : Int) ≤ (n : Int) + (j : Int)) = true := by simp; omega
        go_wp2
        go_quiet (fail)
        go_wp2
        go_roundw
        case rel => exact ⟨n + j + 1, _, by omega, by go_num, rfl⟩
        case measure => simp [intOf]; omega
    · go_wp2
      go_ret
      exact ⟨rfl, q, rfl⟩
theorem kept_sh {lim gc : Nat} {ao : Option Addr} {B : List Nat} {n cap : Nat} {w : World} (h : Shows lim w ao n cap B) (hc : Lent w gc n B) :
    Calls Tryz.prog 11 #[.slice (some ⟨gc, 0, none⟩) n (n + 4), .slice ao n cap] w fun e w' => e = .returned (.bool true) ∧ ∃ q, w' = w.drewN q := by
  obtain ⟨h1, h2, h3, h4, b, off, h5, h6, h7⟩ := h
  exact kept_any b off gc ao B n cap w h5 h1 h3 h7 (fun i hi => owned_cells hc.2 i hi)
end Go.Proofs.YtlnfkooimpmahaaGreat
