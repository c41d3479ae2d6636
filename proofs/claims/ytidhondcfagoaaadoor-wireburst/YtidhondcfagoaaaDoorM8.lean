import Derived.Test.YtidhondcfagoaaaDoorM7
import Derived.Test.YtidhondcfagoaaaDoorM4
namespace Go.Proofs.YtidhondcfagoaaaDoor
open Go.RowKit Crc

/-- A number at the head of bytes, behind i of its bytes: the number, its bytes, the reason. -/
def numGo : List Nat → Nat → Nat → Nat × Nat × Int
  | [], _, _ => (0, 0, 20)
  | c :: r, i, n => if i = 9 ∧ 1 < c then (0, 0, 26) else if 128 ≤ c then numGo r (i + 1) (n + c % 128 * 2 ^ (7 * i)) else if c = 0 ∧ 0 < i then (0, 0, 26) else (n + c % 128 * 2 ^ (7 * i), i + 1, 0)
def numAt (B : List Nat) : Nat × Nat × Int := numGo B 0 0

theorem and127 (c : Nat) (h : c < 256) : bits .and .u8 (c : Int) (127 : Int) = ((c % 128 : Nat) : Int) := by
  rw [show (127 : Int) = ((127 : Nat) : Int) from rfl, u8_and_nat _ _ (by omega) (by omega)]
  congr 1
  have := Nat.and_two_pow_sub_one_eq_mod c 7
  simpa using this

theorem numGo_at (B : List Nat) (k x : Nat) (hk : k < B.length) : numGo (B.drop k) k x = if k = 9 ∧ 1 < B.getD k 0 then (0, 0, 26) else if 128 ≤ B.getD k 0 then numGo (B.drop (k + 1)) (k + 1) (x + B.getD k 0 % 128 * 2 ^ (7 * k)) else if B.getD k 0 = 0 ∧ 0 < k then (0, 0, 26) else (x + B.getD k 0 % 128 * 2 ^ (7 * k), k + 1, 0) := by
  rw [List.drop_eq_getElem_cons hk, List.getD_eq_getElem?_getD, List.getElem?_eq_getElem hk]
  rfl
theorem numGo_end (B : List Nat) (k x : Nat) (hk : B.length ≤ k) : numGo (B.drop k) k x = (0, 0, 20) := by
  rw [List.drop_eq_nil_of_le hk]; rfl
theorem or_num (x d E : Nat) (hE : E ≤ 63) (hx : x < 2 ^ E) (hf : d * 2 ^ E < 18446744073709551616) : bits .or .u64 (x : Int) (IntKind.u64.wrap ((d : Int) * 2 ^ E)) = ((x + d * 2 ^ E : Nat) : Int) := by
  have hx2 : x < 18446744073709551616 := Nat.lt_of_lt_of_le hx (Nat.le_trans (Nat.pow_le_pow_right (by omega) hE) (by decide))
  have e : (d : Int) * 2 ^ E = ((d * 2 ^ E : Nat) : Int) := by simp
  rw [e]
  have ew : IntKind.u64.wrap ((d * 2 ^ E : Nat) : Int) = ((d * 2 ^ E : Nat) : Int) := by
    generalize d * 2 ^ E = m at *
    simp [IntKind.wrap, IntKind.bits, IntKind.signed]
    omega
  rw [ew, u64_or_nat _ _ hx2 hf, or_add x d E hx]

set_option maxRecDepth 10000 in
set_option maxHeartbeats 1600000 in
theorem numAhead_any {lim : Nat} {w : World} {ao : Option Addr} {n cap : Nat} {B : List Nat} (h : Shows lim w ao n cap B) :
    Calls Tryd.prog 76 #[.slice ao n cap] w fun e w' => e = .returned (.tuple #[.int .u64 ((numAt B).1 : Nat), .int .i64 ((numAt B).2.1 : Nat), .int .i64 (numAt B).2.2]) ∧ w' = w := by
  obtain ⟨h1, h2, h3, h4, b, off, h5, h6, h7⟩ := h
  have HN := hide h1
  have HA := hide h5
  have HC := hide h7
  have HB := hide h4
  clear h1 h5 h6 h7 h4
  go_enter Tryd.func76, Tryd.ntmps76
  go_wp2
  go_loop [5, 10] (fun s i => ∃ k x : Nat, k ≤ n ∧ k ≤ 9 ∧ i = .int .i64 k ∧ s = .int .u64 x ∧ Hid (x < 2 ^ (7 * k) ∧ numGo (B.drop k) k x = numAt B)) (fun _ i => n - (intOf i).toNat)
  case atStart => exact ⟨0, 0, Nat.zero_le _, by omega, rfl, rfl, by simp, rfl⟩
  case round =>
    obtain ⟨k, x, hk, hk9, rfl, rfl, HX⟩ := hrel
    by_cases hlt : k < n
    · have hck := HC.out k hlt
      obtain rfl := HA.out (by omega)
      have hcb : B.getD k 0 < 256 := getD_lt B HB.out k
      have hgo := numGo_at B k x (by have := HN.out; omega)
      rw [HX.out.2] at hgo
      obtain ⟨c, hcd⟩ : ∃ c, c = B.getD k 0 := ⟨_, rfl⟩
      rw [← hcd] at hck hcb hgo
      have HGO := hide hgo
      clear hcd hgo
      have hand := and127 c hcb
      obtain ⟨d, hdd⟩ : ∃ d, d = c % 128 := ⟨_, rfl⟩
      rw [← hdd] at hand
      have HD := hide hdd
      have hd128 : d < 128 := by omega
      have hdc : d ≤ c := by rw [hdd]; exact Nat.mod_le _ _
      clear hdd
      by_cases h9 : k = 9 ∧ 1 < c
      · have HF : Hid (numAt B = (0, 0, 26)) := by have := HGO.out; rw [if_pos h9] at this; exact this
        obtain ⟨rfl, hc1⟩ := h9
        have d1 : decide ((1 : Int) < (c : Int)) = true := by simp; omega
        clear HGO HX HD hand
        go_wp2
        go_ret3
        exact ⟨by rw [HF.out]; rfl, rfl⟩
      · have hfit : d * 2 ^ (7 * k) < 18446744073709551616 := by
          rcases Nat.lt_or_ge k 9 with h | h
          · have h1 : 2 ^ (7 * k) ≤ 2 ^ 56 := Nat.pow_le_pow_right (by omega) (by omega)
            have h2 : d * 2 ^ (7 * k) ≤ 127 * 2 ^ 56 := Nat.mul_le_mul (by omega) h1
            omega
          · obtain rfl : k = 9 := by omega
            have : d ≤ 1 := by omega
            have : d * 2 ^ (7 * 9) ≤ 1 * 2 ^ (7 * 9) := Nat.mul_le_mul_right _ this
            omega
        have hor := or_num x d (7 * k) (by omega) HX.out.1 hfit
        obtain ⟨y, hy⟩ : ∃ y, y = x + d * 2 ^ (7 * k) := ⟨_, rfl⟩
        rw [← hy] at hor
        have HGO2 : Hid (numAt B = if 128 ≤ c then numGo (B.drop (k + 1)) (k + 1) y else if c = 0 ∧ 0 < k then (0, 0, 26) else (y, k + 1, 0)) := by
          have h := HGO.out
          rw [if_neg h9, ← HD.out, ← hy] at h
          exact h
        have HY : Hid (y < 2 ^ (7 * (k + 1))) := by
          have h1 := HX.out.1
          show y < _
          rw [hy, show 7 * (k + 1) = 7 * k + 7 by omega, Nat.pow_add]
          have h2 : d * 2 ^ (7 * k) ≤ 127 * 2 ^ (7 * k) := Nat.mul_le_mul_right _ (by omega)
          omega
        have HYD := hide hy
        have HXL := hide HX.out.1
        obtain ⟨E, hE⟩ : ∃ E : Nat, E = 7 * k := ⟨_, rfl⟩
        have he : (7 : Int) * (k : Int) = (E : Int) := by omega
        rw [← hE] at hor
        have HEE := hide hE
        clear HGO HX HD hfit hy hE
        by_cases h128 : 128 ≤ c
        · have d128 : decide ((128 : Int) ≤ (c : Int)) = true := by simp; omega
          have hk8 : k ≤ 8 := by omega
          have hne : ((k : Int) == 9) = false := by simp; omega
          have HR : Hid (y < 2 ^ (7 * (k + 1)) ∧ numGo (B.drop (k + 1)) (k + 1) y = numAt B) := by
            refine ⟨HY.out, ?_⟩
            have h := HGO2.out
            rw [if_pos h128] at h
            exact h.symm
          clear HGO2 HY h9
          go_wp2
          go_round
          case rel => exact ⟨k + 1, y, by omega, by omega, by go_num, rfl, HR⟩
          case measure => simp [intOf]; omega
        · have d128 : decide ((128 : Int) ≤ (c : Int)) = false := by simp; omega
          by_cases hz : c = 0 ∧ 0 < k
          · have HF : Hid (numAt B = (0, 0, 26)) := by have := HGO2.out; rw [if_neg h128, if_pos hz] at this; exact this
            obtain ⟨rfl, hk0⟩ := hz
            have dk : decide ((0 : Int) < (k : Int)) = true := by simp; omega
            clear HGO2 HY h9
            by_cases hk' : k = 9
            · subst hk'
              go_wp2
              go_ret3
              exact ⟨by rw [HF.out]; rfl, rfl⟩
            · have hne : ((k : Int) == 9) = false := by simp; omega
              go_wp2
              go_ret3
              exact ⟨by rw [HF.out]; rfl, rfl⟩
          · have HF : Hid (numAt B = (y, k + 1, 0)) := by have := HGO2.out; rw [if_neg h128, if_neg hz] at this; exact this
            clear HGO2 HY
            by_cases hk' : k = 9
            · subst hk'
              have hc0 : ((c : Int) == 0) = false := by simp; omega
              have d1 : decide ((1 : Int) < (c : Int)) = false := by simp; omega
              have hor9 : bits .or .u64 (x : Int) (IntKind.u64.wrap ((d : Int) * 9223372036854775808)) = (y : Int) := by
                have h := hor
                rw [HEE.out] at h
                exact h
              clear hz h9 hor
              go_wp2
              go_ret3
              exact ⟨by rw [HF.out]; rfl, rfl⟩
            · have hne : ((k : Int) == 9) = false := by simp; omega
              clear h9
              by_cases hc0 : c = 0
              · subst hc0
                obtain rfl : k = 0 := by omega
                obtain rfl : x = 0 := by have := HXL.out; simp at this; exact this
                obtain rfl : d = 0 := by omega
                obtain rfl : y = 0 := HYD.out
                obtain rfl : E = 0 := HEE.out
                clear hz hor he hand hne
                simp at hck
                go_wp2
                go_ret3
                exact ⟨by rw [HF.out]; rfl, rfl⟩
              · have hc0' : ((c : Int) == 0) = false := by simp; omega
                clear hz
                go_wp2
                go_ret3
                exact ⟨by rw [HF.out]; rfl, rfl⟩
    · have HF : Hid (numAt B = (0, 0, 20)) := by
        have h1 := HX.out.2
        rw [numGo_end B k x (by have := HN.out; omega)] at h1
        exact h1.symm
      clear HX
      go_wp2
      go_ret3
      exact ⟨by rw [HF.out]; rfl, rfl⟩
end Go.Proofs.YtidhondcfagoaaaDoor
namespace Go.Proofs.YtidhondcfagoaaaDoor
open Go.RowKit Crc

theorem numGo_ok : ∀ (B : List Nat) (i n : Nat), i ≤ 9 → n < 2 ^ (7 * i) → (numGo B i n).1 < 18446744073709551616 ∧ (numGo B i n).2.1 ≤ i + B.length ∧ (numGo B i n).2.1 ≤ 10 ∧ ((numGo B i n).2.2 ≠ 0 → (numGo B i n).1 = 0 ∧ (numGo B i n).2.1 = 0)
  | [], i, n, hi, hn => by simp [numGo]
  | c :: r, i, n, hi, hn => by
    have hstep : n + c % 128 * 2 ^ (7 * i) < 2 ^ (7 * (i + 1)) := by
      rw [show 7 * (i + 1) = 7 * i + 7 by omega, Nat.pow_add]
      have h2 : c % 128 * 2 ^ (7 * i) ≤ 127 * 2 ^ (7 * i) := Nat.mul_le_mul_right _ (by omega)
      omega
    rw [numGo]
    split
    · simp
    · rename_i h9
      split
      · rename_i h128
        have := numGo_ok r (i + 1) (n + c % 128 * 2 ^ (7 * i)) (by omega) hstep
        refine ⟨this.1, ?_, this.2.2⟩
        have h2 := this.2.1
        simp only [List.length_cons]
        omega
      · split
        · simp
        · refine ⟨?_, by simp only [List.length_cons]; omega, by show i + 1 ≤ 10; omega, fun h => absurd rfl h⟩
          show n + c % 128 * 2 ^ (7 * i) < _
          rcases Nat.lt_or_ge i 9 with h | h
          · have h1 : 2 ^ (7 * (i + 1)) ≤ 2 ^ 63 := Nat.pow_le_pow_right (by omega) (by omega)
            omega
          · obtain rfl : i = 9 := by omega
            have : c % 128 ≤ 1 := by omega
            have : c % 128 * 2 ^ (7 * 9) ≤ 1 * 2 ^ (7 * 9) := Nat.mul_le_mul_right _ this
            omega
theorem numAt_ok (B : List Nat) : (numAt B).1 < 18446744073709551616 ∧ (numAt B).2.1 ≤ B.length ∧ (numAt B).2.1 ≤ 10 ∧ ((numAt B).2.2 ≠ 0 → (numAt B).1 = 0 ∧ (numAt B).2.1 = 0) := by
  have := numGo_ok B 0 0 (by omega) (by simp)
  simpa [numAt] using this

/-- A length at the head of bytes. -/
def countAt (B : List Nat) (most : Int) : Nat × Nat × Int :=
  if (numAt B).2.2 ≠ 0 then (0, 0, (numAt B).2.2) else if most < ((numAt B).1 : Int) then (0, 0, 21) else ((numAt B).1, (numAt B).2.1, 0)
/-- Bytes with their number ahead. -/
def blobAt (B : List Nat) (most : Int) : List Nat × Nat × Int :=
  if (countAt B most).2.2 ≠ 0 then ([], 0, (countAt B most).2.2) else if B.length < (countAt B most).2.1 + (countAt B most).1 then ([], 0, 20) else ((B.drop (countAt B most).2.1).take (countAt B most).1, (countAt B most).2.1 + (countAt B most).1, 0)

set_option maxRecDepth 10000 in
set_option maxHeartbeats 800000 in
theorem countAhead_any {lim : Nat} {w : World} {ao : Option Addr} {n cap : Nat} {B : List Nat} (h : Shows lim w ao n cap B) (most : Int) (hm1 : -9223372036854775808 ≤ most) (hm2 : most < 9223372036854775808) :
    Calls Tryd.prog 74 #[.slice ao n cap, .int .i64 most] w fun e w' => e = .returned (.tuple #[.int .i64 ((countAt B most).1 : Nat), .int .i64 ((countAt B most).2.1 : Nat), .int .i64 (countAt B most).2.2]) ∧ ∃ q, w' = w.drewN q := by
  have HNA := hide (numAhead_any h)
  obtain ⟨k1, k2, k3, _⟩ := numAt_ok B
  have HCA : Hid (countAt B most = if (numAt B).2.2 ≠ 0 then (0, 0, (numAt B).2.2) else if most < ((numAt B).1 : Int) then (0, 0, 21) else ((numAt B).1, (numAt B).2.1, 0)) := rfl
  clear h
  generalize hr : numAt B = r at *
  clear hr
  obtain ⟨x, z, y⟩ := r
  simp only at k1 k2 k3
  by_cases hy : y = 0
  · subst hy
    by_cases hmx : most < (x : Int)
    · have HF : Hid (countAt B most = (0, 0, 21)) := by have := HCA.out; simp [hmx] at this; exact this
      clear HCA
      by_cases hm0 : most < 0
      · have d0 : decide (most < 0) = true := by simp; omega
        go_enter Tryd.func74, Tryd.ntmps74
        go_wp2_with fail
        refine HNA.out.mono ?_
        rintro e w1 ⟨rfl, rfl⟩
        go_wp2
        go_ret3
        exact ⟨by rw [HF.out]; rfl, 0, rfl⟩
      · have d0 : decide (most < 0) = false := by simp; omega
        have e0 : most % 18446744073709551616 = most := by omega
        have d1 : decide (most < (x : Int)) = true := by simp; omega
        go_enter Tryd.func74, Tryd.ntmps74
        go_wp2_with fail
        refine HNA.out.mono ?_
        rintro e w1 ⟨rfl, rfl⟩
        go_wp2
        go_ret3
        exact ⟨by rw [HF.out]; rfl, 0, rfl⟩
    · have HF : Hid (countAt B most = (x, z, 0)) := by have := HCA.out; simp [hmx] at this; exact this
      have d0 : decide (most < 0) = false := by simp; omega
      have e0 : most % 18446744073709551616 = most := by omega
      have d1 : decide (most < (x : Int)) = false := by simp; omega
      have hx63 : (x : Int) < 9223372036854775808 := by omega
      clear HCA
      go_enter Tryd.func74, Tryd.ntmps74
      go_wp2_with fail
      refine HNA.out.mono ?_
      rintro e w1 ⟨rfl, rfl⟩
      go_wp2
      go_ret3
      exact ⟨by rw [HF.out]; rfl, 0, rfl⟩
  · have HF : Hid (countAt B most = (0, 0, y)) := by have := HCA.out; simp [hy] at this; exact this
    have hyb : (y == 0) = false := by simp [hy]
    clear HCA hy
    go_enter Tryd.func74, Tryd.ntmps74
    go_wp2_with fail
    refine HNA.out.mono ?_
    rintro e w1 ⟨rfl, rfl⟩
    go_wp2
    go_ret3
    exact ⟨by rw [HF.out]; rfl, 0, rfl⟩
end Go.Proofs.YtidhondcfagoaaaDoor
