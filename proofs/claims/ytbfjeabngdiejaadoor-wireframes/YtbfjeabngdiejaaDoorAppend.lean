import Derived.Test.YtbfjeabngdiejaaDoorCopied
namespace Go.Proofs.YtbfjeabngdiejaaDoor
open Go.RowKit Crc

/-- The lowest s bytes of v, the high one first: the first j of them. -/
def bigTo (v s : Nat) : Nat → List Nat
  | 0 => []
  | j + 1 => bigTo v s j ++ [v / 2 ^ (8 * (s - 1 - j)) % 256]
def big (v s : Nat) : List Nat := bigTo v s s

theorem big_byte (v k : Nat) : Value.int .u8 ((v / 2 ^ k % 256 : Nat) : Int) = .int .u8 ((v : Int) / (2 : Int) ^ k % (256 : Int)) := by
  congr 1
theorem grown_trans {a b c : World} {row : Option Nat} (h : a.grownBy b row) (k : b.grownBy c row) : a.grownBy c row :=
  ⟨k.os.trans h.os, k.tape.trans h.tape, k.output.trans h.output, Nat.le_trans h.size k.size, fun i hi hr => (k.block i (Nat.lt_of_lt_of_le hi h.size) hr).trans (h.block i hi hr)⟩

set_option maxHeartbeats 800000 in
theorem append_any (g n cap v s : Nat) (vi si : Int) (xs : List Value) (w : World) (hvi : vi = (v : Int)) (hsi : si = (s : Int)) (hs : s ≤ 8) (hroom : n + s ≤ cap)
  (hown : w.ownsRow g 5 1 (.slice (some ⟨g, 0, none⟩) n cap) n xs) :
    Calls Tryd.prog 16 #[.slice (some ⟨g, 0, none⟩) n cap, .int .u64 vi, .int .i64 si] w fun e w' => e = .returned (.slice (some ⟨g, 0, none⟩) (n + s) cap) ∧
      w'.ownsRow g 5 1 (.slice (some ⟨g, 0, none⟩) (n + s) cap) (n + s) (xs ++ vals (big v s)) ∧ w.grownBy w' (some g) := by
  obtain ⟨i0, hi, hz0, hz1, hz2⟩ := info_parts Tryd.info5
  subst hvi
  subst hsi
  go_enter Tryd.func16, Tryd.ntmps16
  go_wp2
  go_loopw [0, 7] (fun sl i wr => ∃ j : Nat, j ≤ s ∧ i = .int .i64 ((s : Int) - 1 - (j : Int)) ∧ sl = .slice (some ⟨g, 0, none⟩) (n + j) cap ∧ wr.ownsRow g 5 1 sl (n + j) (xs ++ vals (bigTo v s j)) ∧ w.grownBy wr (some g))
    (fun _ i _ => (intOf i + 1).toNat)
  case atStart => exact ⟨0, by omega, by go_num, rfl, by simpa [bigTo, vals] using hown, ⟨rfl, rfl, rfl, Nat.le_refl _, fun _ _ _ => rfl⟩⟩
  case round =>
    clear hown
    obtain ⟨j, hj, rfl, rfl, hown, hnx⟩ := hrel
    by_cases hlt : j < s
    · obtain ⟨i, hi'⟩ : ∃ i : Nat, i + j + 1 = s := ⟨s - 1 - j, by omega⟩
      have he : (s : Int) - 1 - (j : Int) = (i : Int) := by omega
      have HI : Hid (i = s - 1 - j) := by show _ = _; omega
      have hi8 : i ≤ 7 := by omega
      have HT : Hid (vals (bigTo v s (j + 1)) = vals (bigTo v s j) ++ [.int .u8 ((v : Int) / (2 : Int) ^ (8 * i) % (256 : Int))]) := by
        show _ = _
        simp only [bigTo]
        rw [vals_append, vals_one, ← HI.out, big_byte]
      clear hi'
      go_wp2_with (first
        | (at_builtin; refine wpList_append_own_spare _ rfl (.tmp 14) (.tmp 20) 22 rfl g 5 i0 1 Tryd.underlying22 hi hz1 g (n + j) cap _ rfl (hown.alloc _) ⟨wr.heap.size, 0, none⟩ 1 1 [.int .u8 ((v : Int) / (2 : Int) ^ (8 * i) % (256 : Int))] rfl rfl (cell_one_new _ _ _) (Shade.one _ rfl) (by omega) ?_; intro w1 hown1 hgrow1))
      go_roundw
      case rel =>
        exact ⟨j + 1, by omega, by have := HI.out; go_num, by rw [Nat.add_assoc], by rw [HT.out, ← List.append_assoc, ← Nat.add_assoc]; exact hown1, grown_trans (grown_trans hnx (World.grownBy_alloc _ _ _)) hgrow1⟩
      case measure => simp [intOf]; omega
    · obtain rfl : j = s := by omega
      go_wp2
      go_ret
      exact ⟨rfl, hown, hnx⟩
end Go.Proofs.YtbfjeabngdiejaaDoor
