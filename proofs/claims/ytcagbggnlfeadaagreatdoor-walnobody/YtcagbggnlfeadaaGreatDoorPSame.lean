import Derived.Test.YtcagbggnlfeadaaGreatDoorPBase
namespace Go.Proofs.YtcagbggnlfeadaaGreatDoor
open Go.RowKit Crc

set_option maxRecDepth 10000 in
set_option maxHeartbeats 400000 in
theorem same_walk (b1 o1 b2 o2 : Nat) (a1 a2 : Option Addr) (B : List Nat) (n c1 c2 : Nat) (w : World) (hl : n ≤ 140737488355328) (h1 : 0 < n → a1 = some ⟨b1, o1, none⟩) (h2 : 0 < n → a2 = some ⟨b2, o2, none⟩)
  (k1 : ∀ i, i < n → w.cell? ⟨b1, o1 + i, none⟩ = some (.int .u8 ((B.getD i 0 : Nat) : Int))) (k2 : ∀ i, i < n → w.cell? ⟨b2, o2 + i, none⟩ = some (.int .u8 ((B.getD i 0 : Nat) : Int))) :
    Calls Tryz.prog 48 #[.slice a1 n c1, .slice a2 n c2] w fun e w' => e = .returned (.bool true) ∧ ∃ q, w' = w.drewN q := by
  have H1 : Hid (0 < n → a1 = some ⟨b1, o1, none⟩) := h1
  have H2 : Hid (0 < n → a2 = some ⟨b2, o2, none⟩) := h2
  have K1 : Hid (∀ i, i < n → w.cell? ⟨b1, o1 + i, none⟩ = some (.int .u8 ((B.getD i 0 : Nat) : Int))) := k1
  have K2 : Hid (∀ i, i < n → w.cell? ⟨b2, o2 + i, none⟩ = some (.int .u8 ((B.getD i 0 : Nat) : Int))) := k2
  clear h1 h2 k1 k2
  go_enter Tryz.func48, Tryz.ntmps48
  go_wp2
  go_loopw [5] (fun i wr => ∃ k q : Nat, k ≤ n ∧ i = .int .i64 k ∧ wr = w.drewN q) (fun i _ => n - (intOf i).toNat)
  case atStart => exact ⟨0, 0, by omega, rfl, rfl⟩
  case round =>
    obtain ⟨k, q, hk, rfl, rfl⟩ := hrel
    by_cases hlt : k < n
    · obtain rfl := H1.out (by omega)
      obtain rfl := H2.out (by omega)
      have g1 := K1.out k hlt
      have g2 := K2.out k hlt
      generalize B.getD k 0 = c at *
      go_wp2
      go_quiet (fail)
      go_wp2
      go_roundw
      case rel => exact ⟨k + 1, _, by omega, by go_num, rfl⟩
      case measure => simp [intOf]; omega
    · go_wp2
      go_ret
      exact ⟨rfl, q, rfl⟩
theorem same_any {l1 l2 : Nat} {a1 a2 : Option Addr} {B : List Nat} {n1 n2 c1 c2 : Nat} {w : World} (h1 : Shows l1 w a1 n1 c1 B) (h2 : Shows l2 w a2 n2 c2 B) :
    Calls Tryz.prog 48 #[.slice a1 n1 c1, .slice a2 n2 c2] w fun e w' => e = .returned (.bool true) ∧ ∃ q, w' = w.drewN q := by
  obtain ⟨p1, _, p3, _, b, off, p5, _, p7⟩ := h1
  obtain ⟨q1, _, _, _, b', off', q5, _, q7⟩ := h2
  obtain rfl : n1 = n2 := by omega
  exact same_walk b off b' off' a1 a2 B n1 c1 c2 w p3 p5 q5 p7 q7
end Go.Proofs.YtcagbggnlfeadaaGreatDoor
