import Derived.Test.YtbfjeabngdiejaaDoorRefUnD
namespace Go.Proofs.YtbfjeabngdiejaaDoor
open Go.RowKit Crc

theorem refun_bad {lim : Nat} {ao : Option Addr} {B : List Nat} {n cap : Nat} {w : World} (h : Shows lim w ao n cap B) (hlim : lim ≤ w.heap.size) (hbad : (ff B).2 ≠ 0) :
    Calls Tryd.prog 23 #[.slice ao n cap] w fun e w' => e = .returned (badV (ff B)) ∧ Below w.heap.size w w' := by
  obtain ⟨hn, hcap, hl, hB, b, off, hao, hbl, hc⟩ := h
  by_cases h1 : 65507 < n
  · have e : ff B = (65507, 21) := by unfold ff; rw [← hn, if_pos h1]
    rw [e]
    exact un_long ao n cap w h1 hl
  by_cases h2 : n < 12
  · have e : ff B = (n, 20) := by unfold ff; rw [← hn, if_neg h1, if_pos h2]
    rw [e]
    exact un_short ao n cap w h2
  obtain rfl := hao (by omega)
  have hbw : b < w.heap.size := Nat.lt_of_lt_of_le (hbl (by omega)) hlim
  have eh := hi2 B (by omega)
  have g0 := getD_lt B hB 0
  have g1 := getD_lt B hB 1
  have k0 := hc 0 (by omega)
  have k1 := hc 1 (by omega)
  have k2 := hc 2 (by omega)
  by_cases h3 : hi (B.take 2) ≠ 20813
  · have e : ff B = (0, 22) := by unfold ff; rw [← hn, if_neg h1, if_neg h2, if_pos h3]
    rw [e]
    exact un_magic b off n cap (B.getD 0 0) (B.getD 1 0) w hbw (by omega) (by omega) k0 k1 (by omega)
  have m0 : B.getD 0 0 = 81 := by omega
  have m1 : B.getD 1 0 = 77 := by omega
  rw [m0] at k0
  rw [m1] at k1
  by_cases h4 : B.getD 2 0 ≠ 1
  · have e : ff B = (2, 23) := by unfold ff; rw [← hn, if_neg h1, if_neg h2, if_neg h3, if_pos h4]
    rw [e]
    exact un_version b off n cap (B.getD 2 0) w hbw (by omega) (by omega) k0 k1 k2 h4
  have m2 : B.getD 2 0 = 1 := by omega
  rw [m2] at k2
  have eL := hi4 B (by omega)
  by_cases h5 : n = 12 + hi ((B.drop 4).take 4)
  · have e : ff B = if Crc.sum (B.take (B.length - 4)) ≠ lowOf B then (B.length - 4, 24) else (0, 0) := by
      unfold ff; rw [← hn, if_neg h1, if_neg h2, if_neg h3, if_neg h4, if_neg (by omega), if_neg (by omega)]
    by_cases h6 : Crc.sum (B.take (B.length - 4)) ≠ lowOf B
    · rw [if_pos h6] at e
      rw [e]
      obtain ⟨L, hL⟩ : ∃ L, L = hi ((B.drop 4).take 4) := ⟨_, rfl⟩
      rw [← hL] at h5 eL
      subst h5
      have e4 : B.length - 4 = 8 + L := by omega
      unfold lowOf at h6
      rw [e4, show 8 + L + 1 = 9 + L by omega, show 8 + L + 2 = 10 + L by omega, show 8 + L + 3 = 11 + L by omega] at h6
      rw [e4]
      exact un_sum b off B L cap w hn.symm hbw (by omega) hcap hB hc ⟨m0, m1, m2⟩ eL h6
    · rw [if_neg h6] at e
      rw [e] at hbad
      simp at hbad
  · have e : ff B = if n < 12 + (((B.getD 4 0 * 256 + B.getD 5 0) * 256 + B.getD 6 0) * 256 + B.getD 7 0) then (n, 20) else (12 + (((B.getD 4 0 * 256 + B.getD 5 0) * 256 + B.getD 6 0) * 256 + B.getD 7 0), 28) := by
      unfold ff; rw [← hn, if_neg h1, if_neg h2, if_neg h3, if_neg h4, ← eL]
      by_cases h6 : n < 12 + hi ((B.drop 4).take 4)
      · rw [if_pos h6, if_pos h6]
      · rw [if_neg h6, if_neg h6, if_pos (by omega)]
    rw [e]
    exact un_len b off n cap _ _ _ _ w hbw (by omega) (by omega) k0 k1 k2 (hc 4 (by omega)) (hc 5 (by omega)) (hc 6 (by omega)) (hc 7 (by omega)) (getD_lt B hB 4) (getD_lt B hB 5) (getD_lt B hB 6) (getD_lt B hB 7) (by rw [← eL]; exact h5)

theorem refun_good {lim : Nat} {ao : Option Addr} {B : List Nat} {n cap : Nat} {w : World} (h : Shows lim w ao n cap B) (hlim : lim ≤ w.heap.size) (hok : (ff B).2 = 0) :
    Calls Tryd.prog 23 #[.slice ao n cap] w fun e w' => ∃ v, e = .returned (.tuple #[.int .i64 (B.getD 3 0 : Nat), v, .agg #[.int .i64 0, .int .i64 0]]) ∧ Owns w.heap.size w' v ((B.drop 8).take (n - 12)) ∧ Below w.heap.size w w' := by
  obtain ⟨hn, hcap, hl, hB, b, off, hao, hbl, hc⟩ := h
  obtain ⟨h12, hmax, _, hmag, hver, hlen, hsum⟩ := ff_ok hok
  obtain rfl := hao (by omega)
  have hbw : b < w.heap.size := Nat.lt_of_lt_of_le (hbl (by omega)) hlim
  have eh := hi2 B (by omega)
  have g0 := getD_lt B hB 0
  have g1 := getD_lt B hB 1
  have eL := hi4 B (by omega)
  obtain ⟨L, hL⟩ : ∃ L, L = hi ((B.drop 4).take 4) := ⟨_, rfl⟩
  rw [← hL] at hlen eL
  obtain rfl : n = 12 + L := by omega
  have e4 : B.length - 4 = 8 + L := by omega
  unfold lowOf at hsum
  rw [e4, show 8 + L + 1 = 9 + L by omega, show 8 + L + 2 = 10 + L by omega, show 8 + L + 3 = 11 + L by omega] at hsum
  rw [show 12 + L - 12 = L by omega]
  exact un_good b off B L cap w hlen hbw (by omega) hcap hB hc ⟨by omega, by omega, hver⟩ eL hsum
end Go.Proofs.YtbfjeabngdiejaaDoor
