import Derived.Test.YthbpacilceemlaaM27
namespace Go.Proofs.Ythbpacilceemlaa
open Go.RowKit Crc

set_option maxRecDepth 10000 in
set_option maxHeartbeats 800000 in
theorem kept_any (b off g : Nat) (ao : Option Addr) (B : List Nat) (n cap : Nat) (w : World) (hao : 0 < n → ao = some ⟨b, off, none⟩) (hn : n = B.length) (hl : n ≤ 140737488355328)
  (hc : ∀ i, i < n → w.cell? ⟨b, off + i, none⟩ = some (.int .u8 ((B.getD i 0 : Nat) : Int)))
  (hg : ∀ i, i < n + 4 → w.cell? ⟨g, i, none⟩ = some (.int .u8 (((B ++ marksTo 4).getD i 0 : Nat) : Int))) :
    Calls Try.prog 14 #[.slice (some ⟨g, 0, none⟩) n (n + 4), .slice ao n cap] w fun e w' => e = .returned (.bool true) ∧ ∃ q, w' = w.drewN q := by
  have HA : Hid (0 < n → ao = some ⟨b, off, none⟩) := hao
  have HN : Hid (n = B.length) := hn
  have HC : Hid (∀ i, i < n → w.cell? ⟨b, off + i, none⟩ = some (.int .u8 ((B.getD i 0 : Nat) : Int))) := hc
  have HG : Hid (∀ i, i < n + 4 → w.cell? ⟨g, i, none⟩ = some (.int .u8 (((B ++ marksTo 4).getD i 0 : Nat) : Int))) := hg
  clear hn hc hg hao
  go_enter Try.func14, Try.ntmps14
  go_wp2
  go_loopw [6] (fun i wr => ∃ k q : Nat, k ≤ n + 4 ∧ i = .int .i64 k ∧ wr = w.drewN q) (fun i _ => n + 4 - (intOf i).toNat)
  case atStart => exact ⟨0, 0, by omega, rfl, rfl⟩
  case round =>
    obtain ⟨k, q, hk, rfl, rfl⟩ := hrel
    by_cases hlt : k < n + 4
    · have hgk := HG.out k hlt
      by_cases hkn : k < n
      · have hck := HC.out k hkn
        have e : (B ++ marksTo 4).getD k 0 = B.getD k 0 := by
          rw [List.getD_eq_getElem?_getD, List.getD_eq_getElem?_getD, List.getElem?_append_left (by have := HN.out; omega)]
        rw [e] at hgk
        clear e
        obtain ⟨c, hcd⟩ : ∃ c, c = B.getD k 0 := ⟨_, rfl⟩
        rw [← hcd] at hck hgk
        clear hcd
        obtain rfl := HA.out (by omega)
        have hd : decide ((k : Int) < (n : Int)) = true := by simp; omega
        have hd2 : decide (n ≤ k) = false := by simp; omega
        go_wp2
        go_quiet (fail)
        go_wp2
        go_roundw
        case rel => exact ⟨k + 1, _, by omega, by go_num, rfl⟩
        case measure => simp [intOf]; omega
      · obtain ⟨j, rfl⟩ : ∃ j, k = n + j := ⟨k - n, by omega⟩
        have e : (B ++ marksTo 4).getD (n + j) 0 = 160 + j := by
          have hj : j < 4 := by omega
          rw [List.getD_eq_getElem?_getD, List.getElem?_append_right (by have := HN.out; omega), show n + j - B.length = j by have := HN.out; omega]
          simp [marksTo, hj]
        rw [e] at hgk
        clear e
        have hd : decide ((n : Int) + (j : Int) < (n : Int)) = false := by simp; omega
        have hd2 : decide ((n : Int) ≤ (n : Int) + (j : Int)) = true := by simp; omega
        go_wp2
        go_quiet (fail)
        go_wp2
        go_roundw
        case rel => exact ⟨n + j + 1, _, by omega, by go_num, rfl⟩
        case measure => simp [intOf]; omega
    · go_wp2
      go_ret
      exact ⟨rfl, q, rfl⟩
theorem kept_sh {lim gc : Nat} {ao : Option Addr} {B : List Nat} {n cap : Nat} {w : World} (h : Shows lim w ao n cap B) (hc : Lent w gc n B) :
    Calls Try.prog 14 #[.slice (some ⟨gc, 0, none⟩) n (n + 4), .slice ao n cap] w fun e w' => e = .returned (.bool true) ∧ ∃ q, w' = w.drewN q := by
  obtain ⟨h1, h2, h3, h4, b, off, h5, h6, h7⟩ := h
  exact kept_any b off gc ao B n cap w h5 h1 h3 h7 (fun i hi => owned_cells hc.2 i hi)
end Go.Proofs.Ythbpacilceemlaa
