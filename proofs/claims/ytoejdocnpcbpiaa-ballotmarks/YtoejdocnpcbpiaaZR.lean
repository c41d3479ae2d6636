import Derived.Test.YtoejdocnpcbpiaaZA
namespace Go.Proofs.Ytoejdocnpcbpiaa
open Go.RowKit

set_option maxRecDepth 100000 in
set_option maxHeartbeats 1000000 in
theorem reverseZ (B g cap n a b : Nat) (D0 : Nat → Nat) (hn : n < 2305843009213693952) (hab : a < b) (hbn : b ≤ n) (w : World) (hr : RowF w g cap n D0) (hB : B ≤ g) :
    Calls Try.prog 27 #[.slice (some ⟨g, 0, none⟩) n cap, .int .i64 (a : Nat), .int .i64 (b : Nat)] w fun e w' => e = .returned (.tuple #[]) ∧ Hid (∃ D, ZS B w g cap n a b D0 w' D) := by
  obtain ⟨l, rfl⟩ : ∃ l, b = l + 1 := ⟨b - 1, by omega⟩
  have I0 : Hid (∃ D, ZS B w g cap n a (l + 1) D0 w D) := ⟨D0, ZS.begin _ _ hr hB⟩
  clear hr hB
  go_enter Try.func27, Try.ntmps27
  go_wp2
  go_loopw [6, 7] (fun i j wr => ∃ p q : Nat, a ≤ p ∧ p ≤ q + 1 ∧ q ≤ l ∧ i = .int .i64 (p : Nat) ∧ j = .int .i64 (q : Nat) ∧ Hid (∃ D, ZS B w g cap n a (l + 1) D0 wr D)) (fun i j _ => (intOf j - intOf i).toNat)
  case atStart => exact ⟨a, l, Nat.le_refl _, by omega, Nat.le_refl _, rfl, by go_num, I0.out⟩
  case round =>
    obtain ⟨p, q, h1, h2, h3, rfl, rfl, HJ⟩ := hrel
    clear I0
    by_cases hlt : p < q
    · obtain ⟨s, rfl⟩ : ∃ s, q = s + 1 := ⟨q - 1, by omega⟩
      obtain ⟨D, hZ⟩ := HJ.out
      obtain ⟨x, hx⟩ : ∃ x, D p = x := ⟨_, rfl⟩
      obtain ⟨z, hz⟩ : ∃ z, D (s + 1) = z := ⟨_, rfl⟩
      have NX : Hid (∀ V, ZS B w g cap n a (l + 1) D0 V D → ∃ D', ZS B w g cap n a (l + 1) D0 ((V.setCell ⟨g, p, none⟩ (.int .u64 (z : Int))).setCell ⟨g, s + 1, none⟩ (.int .u64 (x : Int))) D') := fun V hV => by
        refine ⟨swp D p (s + 1), ?_⟩
        have h := hV.swap (i := p) (j := s + 1) (by omega) (by omega) (by omega) (by omega)
        rw [hx, hz] at h
        exact h
      have a0 : wr.cell? ⟨g, p, none⟩ = some (.int .u64 (x : Int)) := by rw [← hx]; exact hZ.row.cell (by omega)
      have a1 : wr.cell? ⟨g, s + 1, none⟩ = some (.int .u64 (z : Int)) := by rw [← hz]; exact hZ.row.cell (by omega)
      have a2 : g < wr.heap.size := hZ.row.lt
      have a3 := hZ.row.free p
      have a4 := hZ.row.free (s + 1)
      have HZ := hide hZ
      clear hZ HJ hx hz
      go_upto_region 3 with fail
      go_region
      go_wp2
      go_roundw
      case rel => exact ⟨p + 1, s, by omega, by omega, by omega, by go_num, by go_num, NX.out _ HZ.out.drew⟩
      case measure => simp [intOf]; omega
    · have FIN := hide HJ.out
      clear HJ
      go_wp2
      go_end0
      exact ⟨rfl, FIN.out⟩
end Go.Proofs.Ytoejdocnpcbpiaa
