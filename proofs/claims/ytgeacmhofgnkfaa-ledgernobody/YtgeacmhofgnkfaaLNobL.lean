import Derived.Test.YtgeacmhofgnkfaaLNobB
import Derived.Maps.AppendAt
import Derived.Deep.DeepAppendRoom
namespace Go.Proofs.Ytgeacmhofgnkfaa
open Go.RowKit

theorem infoShare : (Try.prog.info? 108).map (fun i => (i.zero, i.size, i.bytes)) = some (some (.agg #[.int .u64 0, .int .u64 0]), 2, 16) := by kernel_rfl

/-- Shares that came in. -/
def ShP (lim : Nat) (W : World) (so : Option Addr) (n : Nat) : Prop :=
  n ≤ 8796093022208 ∧ ∃ b off, (0 < n → so = some ⟨b, off, none⟩) ∧ (0 < n → b < lim) ∧ ∀ i, i < n → ∃ x y : Int, W.cell? ⟨b, off + i * 2, none⟩ = some (.int .u64 x) ∧ W.cell? ⟨b, off + i * 2 + 1, none⟩ = some (.int .u64 y)

theorem ShP.below {lim : Nat} {W W' : World} {so : Option Addr} {n : Nat} (h : ShP lim W so n) (hb : Below lim W W') : ShP lim W' so n := by
  obtain ⟨h1, b, off, h2, h3, h4⟩ := h
  refine ⟨h1, b, off, h2, h3, fun i hi => ?_⟩
  obtain ⟨x, y, hx, hy⟩ := h4 i hi
  exact ⟨x, y, (hb.cell (p := ⟨b, _, none⟩) (h3 (by omega))).trans hx, (hb.cell (p := ⟨b, _, none⟩) (h3 (by omega))).trans hy⟩

theorem cell_two_new (W : World) (x y : Value) (t : TypeId) : ∀ (j : Nat) (u : Value), [x, y][j]? = some u → (W.alloc (.cells #[x, y] t)).cell? (Addr.add ⟨W.heap.size, 0, none⟩ j) = some u := by
  intro j u hu
  have := World.cell?_alloc_new W #[x, y] t j
  have he : Addr.add ⟨W.heap.size, 0, none⟩ j = ⟨W.heap.size, j, none⟩ := by
    simp only [Addr.add]
    split <;> simp_all
  rw [he, this]
  simpa using hu

set_option maxRecDepth 10000 in
set_option maxHeartbeats 800000 in
theorem lendShares_any {w : World} {so : Option Addr} {n : Nat} (cap : Nat) (h : ShP w.heap.size w so n) :
    Calls Try.prog 27 #[.slice so n cap] w fun e w' => (∃ so' n' c', e = .returned (.slice so' n' c')) ∧ Below w.heap.size w w' := by
  obtain ⟨i0, hi, hz0, hz1, hz2⟩ := info_parts infoShare
  obtain ⟨hn, b, off, hao, hbw, hc⟩ := h
  have HA : Hid (0 < n → so = some ⟨b, off, none⟩) := hao
  have HC : Hid (∀ i, i < n → ∃ x y : Int, w.cell? ⟨b, off + i * 2, none⟩ = some (.int .u64 x) ∧ w.cell? ⟨b, off + i * 2 + 1, none⟩ = some (.int .u64 y)) := hc
  have HB : Hid (0 < n → b < w.heap.size) := hbw
  clear hc hao hbw
  go_enter Try.func27, Try.ntmps27
  go_wp2_with (first
    | (at_make; refine wpList_make_own _ rfl _ _ 44 rfl w.heap.size 108 i0 (.agg #[.int .u64 0, .int .u64 0]) 2 Try.underlying44 hi hz0 hz1 .i64 .i64 _ (n + 3) rfl rfl (by omega) (by rw [hz2]; omega) (by unfold maxLen; omega) (Nat.le_refl _) ?_; intro w0 hown0 hgrow0))
  go_loopw [3, 4] (fun v i wr => ∃ k : Nat, k ≤ n ∧ i = .int .i64 k ∧ v = .slice (some ⟨w.heap.size, 0, none⟩) k (n + 3) ∧ (∃ xs, wr.ownsRow w.heap.size 108 2 v k xs) ∧ Below w.heap.size w wr)
    (fun _ i _ => n - (intOf i).toNat)
  case atStart => exact ⟨0, by omega, rfl, rfl, ⟨_, hown0⟩, (Below.refl _ _).grown hgrow0 (Nat.le_refl _) (fun k h => by cases h)⟩
  case round =>
    obtain ⟨k, hk, rfl, rfl, ⟨xs, hown⟩, hnx⟩ := hrel
    clear hgrow0 hown0
    have hsize := hnx.size
    by_cases hlt : k < n
    · obtain ⟨x, y, hx, hy⟩ := HC.out k hlt
      have hckx := (hnx.cell (p := ⟨b, _, none⟩) (HB.out (by omega))).trans hx
      have hcky := (hnx.cell (p := ⟨b, _, none⟩) (HB.out (by omega))).trans hy
      clear hx hy
      obtain rfl := HA.out (by omega)
      go_wp2_with (first
        | (at_builtin; refine wpList_append_own_spare _ rfl (.tmp 16) (.tmp 21) 44 rfl w.heap.size 108 i0 2 Try.underlying44 hi hz1 w.heap.size k (n + 3) _ rfl (hown.alloc _) ⟨wr.heap.size, 0, none⟩ 1 1 [.int .u64 x, .int .u64 y] rfl rfl (cell_two_new _ _ _ _) (by simp [Value.oneCell']) (by omega) ?_; intro w1 hown1 hgrow1))
      go_roundw
      case rel =>
        exact ⟨k + 1, by omega, by go_num, rfl, ⟨_, hown1⟩, (hnx.alloc (by omega) _).grown hgrow1 (by simp; omega) (fun j hj => by cases hj; exact Nat.le_refl _)⟩
      case measure => simp [intOf]; omega
    · obtain rfl : k = n := by omega
      go_wp2
      go_loopw [3, 5] (fun v i wr => ∃ j : Nat, j ≤ 3 ∧ i = .int .i64 j ∧ v = .slice (some ⟨w.heap.size, 0, none⟩) (k + j) (k + 3) ∧ (∃ xs, wr.ownsRow w.heap.size 108 2 v (k + j) xs) ∧ Below w.heap.size w wr)
        (fun _ i _ => 3 - (intOf i).toNat)
      case atStart => exact ⟨0, by omega, rfl, rfl, ⟨_, hown⟩, hnx⟩
      case round =>
        clear hown hnx hsize xs
        obtain ⟨j, hj, rfl, rfl, ⟨xs, hown⟩, hnx⟩ := hrel
        have hsize := hnx.size
        by_cases hj4 : j < 3
        · go_wp2_with (first
            | (at_builtin; refine wpList_append_own_spare _ rfl (.tmp 27) (.tmp 32) 44 rfl w.heap.size 108 i0 2 Try.underlying44 hi hz1 w.heap.size (k + j) (k + 3) _ rfl (hown.alloc _) ⟨wr.heap.size, 0, none⟩ 1 1 [.int .u64 ((160 : Int) + (j : Int)), .int .u64 0] rfl rfl (cell_two_new _ _ _ _) (by simp [Value.oneCell']) (by omega) ?_; intro w1 hown1 hgrow1))
          go_roundw
          case rel =>
            exact ⟨j + 1, by omega, by go_num, by rw [Nat.add_assoc], ⟨_, by rw [← Nat.add_assoc]; exact hown1⟩, (hnx.alloc (by omega) _).grown hgrow1 (by simp; omega) (fun j hj => by cases hj; exact Nat.le_refl _)⟩
          case measure => simp [intOf]; omega
        · obtain rfl : j = 3 := by omega
          go_wp2
          go_ret
          exact ⟨⟨_, _, _, rfl⟩, hnx⟩
end Go.Proofs.Ytgeacmhofgnkfaa
