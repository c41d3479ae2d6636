import Derived.Test.YtcagbggnlfeadaaGreatDoorWnB
import Derived.Deep.DeepAppendRoom
namespace Go.Proofs.YtcagbggnlfeadaaGreatDoor
open Go.RowKit Crc

theorem row_quietW {base size k : Nat} {e : TypeId} {w w' : World} {v : Value} {xs : List Value} (h : w.ownsRow base e size v k xs) (hg : w.grownBy w' none) : w'.ownsRow base e size v k xs := by
  refine h.kept hg ?_
  cases e : v.ownBlock with
  | none => exact .inl rfl
  | some g => exact .inr (by simp)
theorem Shows.belowN {lim k : Nat} {w w' : World} {ao : Option Addr} {n cap : Nat} {B : List Nat} (h : Shows lim w ao n cap B) (hb : Below k w w') (hk : lim ≤ k) : Shows lim w' ao n cap B := by
  obtain ⟨h1, h2, h3, h4, b, off, h5, h6, h7⟩ := h
  exact ⟨h1, h2, h3, h4, b, off, h5, h6, fun i hi => (hb.cell (p := ⟨b, off + i, none⟩) (by have := h6 (by omega); show b < k; omega)).trans (h7 i hi)⟩
set_option maxRecDepth 10000 in
set_option maxHeartbeats 800000 in
/-- lend, whatever becomes of it: new memory. -/
theorem lendN {lim : Nat} {ao : Option Addr} {B : List Nat} {n cap : Nat} {w : World} (h : Shows lim w ao n cap B) (hlw : lim ≤ w.heap.size) :
    Calls Tryz.prog 10 #[.slice ao n cap] w fun e w' => ∃ g, e = .returned (.slice (some ⟨g, 0, none⟩) n (n + 3)) ∧ Hid (Below w.heap.size w w') := by
  obtain ⟨hn, -, hl, -, b, off, hao, hbl, hc⟩ := h
  obtain ⟨i0, hi, hz0, hz1, hz2⟩ := info_parts Tryz.info5
  have HA : Hid (0 < n → ao = some ⟨b, off, none⟩) := hao
  have HC : Hid (∀ i, i < n → w.cell? ⟨b, off + i, none⟩ = some (.int .u8 ((B.getD i 0 : Nat) : Int))) := hc
  have HB : Hid (0 < n → b < w.heap.size) := fun e => Nat.lt_of_lt_of_le (hbl e) hlw
  clear hn hc hao hbl
  go_enter Tryz.func10, Tryz.ntmps10
  go_wp2_with (first
    | (at_make; refine wpList_make_own _ rfl _ _ 37 rfl w.heap.size 5 i0 (.int .u8 0) 1 Tryz.underlying37 hi hz0 hz1 .i64 .i64 _ (n + 3) rfl rfl (by omega) (by rw [hz2]; omega) (by unfold maxLen; omega) (Nat.le_refl _) ?_; intro w0 hown0 hgrow0))
  go_loopw [3, 4] (fun v i wr => ∃ (k : Nat) (xs : List Value), k ≤ n ∧ i = .int .i64 k ∧ v = .slice (some ⟨w.heap.size, 0, none⟩) k (n + 3) ∧ Hid (wr.ownsRow w.heap.size 5 1 (.slice (some ⟨w.heap.size, 0, none⟩) k (n + 3)) k xs ∧ Below w.heap.size w wr))
    (fun _ i _ => n - (intOf i).toNat)
  case atStart => exact ⟨0, [], by omega, rfl, rfl, hown0, (Below.refl _ _).grown hgrow0 (Nat.le_refl _) (fun k h => by cases h)⟩
  case round =>
    obtain ⟨k, xs, hk, rfl, rfl, HS⟩ := hrel
    clear hgrow0 hown0
    have hown := HS.out.1
    have HNX : Hid (∀ w1 o, (wr.alloc o).grownBy w1 (some w.heap.size) → Below w.heap.size w w1) := fun w1 o hg => by
      have hb := HS.out.2.alloc HS.out.2.size o
      exact hb.grown hg hb.size (fun j hj => by cases hj; exact Nat.le_refl _)
    by_cases hlt : k < n
    · have hck := (HS.out.2.cell (p := ⟨b, off + k, none⟩) (HB.out (by omega))).trans (HC.out k hlt)
      generalize ((B.getD k 0 : Nat) : Int) = ch at *
      obtain rfl := HA.out (by omega)
      go_wp2_with (first
        | (at_builtin; refine wpList_append_own_spare _ rfl (.tmp 15) (.tmp 20) 37 rfl w.heap.size 5 i0 1 Tryz.underlying37 hi hz1 w.heap.size k (n + 3) _ rfl (hown.alloc _) ⟨wr.heap.size, 0, none⟩ 1 1 [.int .u8 ch] rfl rfl (cell_one_new _ _ _) (Shade.one _ rfl) (by omega) ?_; intro w1 hown1 hgrow1))
      go_roundw
      case rel => exact ⟨k + 1, _, by omega, by go_num, rfl, hown1, HNX.out _ _ hgrow1⟩
      case measure => simp [intOf]; omega
    · obtain rfl : k = n := by omega
      go_wp2_with (first
        | (at_builtin; refine wpList_append_own_spare _ rfl (.tmp 22) (.tmp 23) 37 rfl w.heap.size 5 i0 1 Tryz.underlying37 hi hz1 w.heap.size k (k + 3) _ rfl (hown.alloc _) ⟨wr.heap.size, 0, none⟩ 3 3 [.int .u8 161, .int .u8 162, .int .u8 163] rfl rfl (cell_three_new _ _ _ _ _) (one3 _ _ _) (by omega) ?_; intro w1 hown1 hgrow1))
      go_ret
      exact ⟨_, rfl, HNX.out _ _ hgrow1⟩
set_option maxRecDepth 10000 in
set_option maxHeartbeats 1600000 in
theorem lendAllN {lim : Nat} {w : World} {ao : Option Addr} {n cap : Nat} {Ls : List (List Nat)} (h : ShowsL lim w ao n cap Ls) (hlw : lim ≤ w.heap.size) (hn : n ≤ 5864062014805) :
    Calls Tryz.prog 19 #[.slice ao n cap] w fun e w' => ∃ g, e = .returned (.slice (some ⟨g, 0, none⟩) n (n + 1)) ∧ Hid (Below w.heap.size w w') := by
  obtain ⟨i0, hi, hz0, hz1, hz2⟩ := info_parts Tryz.infoL
  obtain ⟨-, -, -, b, off, hao, hbl, hc⟩ := h
  have HA : Hid (0 < n → ao = some ⟨b, off, none⟩) := hao
  have HC : Hid (∀ i, i < n → ∃ a m c, w.cell? ⟨b, off + i, none⟩ = some (.slice a m c) ∧ Shows lim w a m c (Ls.getD i [])) := hc
  have HB : Hid (0 < n → b < w.heap.size) := fun e => Nat.lt_of_lt_of_le (hbl e) hlw
  clear hc hao hbl
  go_enter Tryz.func19, Tryz.ntmps19
  go_wp2_with (first
    | (at_make; refine wpList_make_own _ rfl _ _ 31 rfl w.heap.size 37 i0 (.slice none 0 0) 1 Tryz.underlying31 hi hz0 hz1 .i64 .i64 _ (n + 1) rfl rfl (by omega) (by rw [hz2]; omega) (by unfold maxLen; omega) (Nat.le_refl _) ?_; intro w0 hown0 hgrow0))
  go_loopw [3, 4] (fun v i wr => ∃ (k : Nat) (xs : List Value), k ≤ n ∧ i = .int .i64 k ∧ v = .slice (some ⟨w.heap.size, 0, none⟩) k (n + 1) ∧ Hid (wr.ownsRow w.heap.size 37 1 (.slice (some ⟨w.heap.size, 0, none⟩) k (n + 1)) k xs ∧ Below w.heap.size w wr))
    (fun _ i _ => n - (intOf i).toNat)
  case atStart => exact ⟨0, [], by omega, rfl, rfl, hown0, (Below.refl _ _).grown hgrow0 (Nat.le_refl _) (fun k h => by cases h)⟩
  case round =>
    obtain ⟨k, xs, hk, rfl, rfl, HS⟩ := hrel
    clear hgrow0 hown0
    by_cases hlt : k < n
    · obtain ⟨a, m, c, hck0, hsh⟩ := HC.out k hlt
      have hck := (HS.out.2.cell (p := ⟨b, off + k, none⟩) (HB.out (by omega))).trans hck0
      have HLN : Hid (Calls Tryz.prog 10 #[.slice a m c] wr fun e w' => ∃ g, e = .returned (.slice (some ⟨g, 0, none⟩) m (m + 3)) ∧ Hid ((∀ o, (w'.alloc o).ownsRow w.heap.size 37 1 (.slice (some ⟨w.heap.size, 0, none⟩) k (n + 1)) k xs) ∧ ∀ o w3, (w'.alloc o).grownBy w3 (some w.heap.size) → Below w.heap.size w w3)) := by
        refine (lendN (hsh.belowN HS.out.2 hlw) (Nat.le_trans hlw HS.out.2.size)).mono ?_
        rintro e w' ⟨g, rfl, G⟩
        refine ⟨g, rfl, fun o => row_quietW (row_quietW HS.out.1 (below_none G.out)) (World.grownBy_alloc _ _ none), fun o w3 hg => ?_⟩
        have b2 := HS.out.2.trans (G.out.mono HS.out.2.size)
        have b3 := b2.alloc b2.size o
        exact b3.grown hg b3.size (fun j hj => by cases hj; exact Nat.le_refl _)
      obtain rfl := HA.out (by omega)
      clear hck0 hsh HS
      go_wp2_with (first
        | (go_at_call 10; refine HLN.out.mono ?_; rintro e w2 ⟨g, rfl, G⟩)
        | (at_builtin; refine wpList_append_own_spare _ rfl (.tmp 15) (.tmp 21) 31 rfl w.heap.size 37 i0 1 Tryz.underlying31 hi hz1 w.heap.size k (n + 1) _ rfl (G.out.1 _) ⟨w2.heap.size, 0, none⟩ 1 1 [.slice (some ⟨g, 0, none⟩) m (m + 3)] rfl rfl (cell_one_new _ _ _) (Shade.one _ rfl) (by omega) ?_; intro w3 ho hg))
      go_roundw
      case rel => exact ⟨k + 1, _, by omega, by go_num, rfl, ho, G.out.2 _ _ hg⟩
      case measure => simp [intOf]; omega
    · obtain rfl : k = n := by omega
      have HR : Hid (∀ o o', ((wr.alloc o).alloc o').ownsRow w.heap.size 37 1 (.slice (some ⟨w.heap.size, 0, none⟩) k (k + 1)) k xs) := fun o o' => row_quietW (row_quietW HS.out.1 (World.grownBy_alloc _ _ none)) (World.grownBy_alloc _ _ none)
      have HT : Hid (∀ o o' w3, ((wr.alloc o).alloc o').grownBy w3 (some w.heap.size) → Below w.heap.size w w3) := fun o o' w3 hg => by
        have b2 := HS.out.2.alloc HS.out.2.size o
        have b3 := b2.alloc b2.size o'
        exact b3.grown hg b3.size (fun j hj => by cases hj; exact Nat.le_refl _)
      clear HS HC HA HB
      have HCN : Hid (∀ o x t, ∀ j u, [x][j]? = some u → ((wr.alloc o).alloc (.cells #[x] t)).cell? ((⟨wr.heap.size + 1, 0, none⟩ : Addr).add j) = some u) := fun o x t => by
        have := cell_one_new (wr.alloc o) x t
        simpa using this
      go_wp2_with (first
        | (at_builtin; refine wpList_append_own_spare _ rfl (.tmp 23) (.tmp 25) 31 rfl w.heap.size 37 i0 1 Tryz.underlying31 hi hz1 w.heap.size k (k + 1) _ rfl (HR.out _ _) ⟨wr.heap.size + 1, 0, none⟩ 1 1 [.slice (some ⟨wr.heap.size, 0, none⟩) 2 2] rfl rfl (HCN.out _ _ _) (Shade.one _ rfl) (by omega) ?_; intro w3 ho hg))
      go_ret
      exact ⟨_, rfl, HT.out _ _ _ hg⟩
end Go.Proofs.YtcagbggnlfeadaaGreatDoor
