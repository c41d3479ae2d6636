import Derived.Test.YtldhafpeigdloaaGreatDoorM2
import Derived.Test.YtldhafpeigdloaaGreatDoorM1
import Derived.Lib.AppendStr
import Derived.Laws.RangeAny
import Derived.Laws.BytesString
namespace Go.Proofs.YtldhafpeigdloaaGreatDoor
open Go.RowKit Crc

def aheadV (B : List Nat) (k : Nat) : List Nat := if B.length < k then [] else B.take k
def aheadW (B : List Nat) (k : Nat) : Int := if B.length < k then 20 else 0
theorem rest_len {s : RS} (h : s.sound) : s.rest.length = s.B.length - s.pos := by
  unfold RS.rest restB; rw [if_pos (show s.made = true ∧ s.why = 0 from h), List.length_drop]
theorem rest_lt {lim : Nat} {w : World} {p : Nat} {s : RS} (h : RdS lim w p s) : (∀ x ∈ s.rest, x < 256) ∧ s.rest.length ≤ 140737488355328 := by
  obtain ⟨ao, cap, hb, hS, hp, hl⟩ := h
  unfold RS.rest restB
  split
  · exact ⟨fun x hx => hS.2.2.2.1 x (List.mem_of_mem_drop hx), by have := hS.2.2.1; rw [List.length_drop]; omega⟩
  · simp
theorem RdS.limp {lim : Nat} {w : World} {p : Nat} {s : RS} (h : RdS lim w p s) : lim ≤ p := by obtain ⟨ao, cap, hb, hS, hp, hl⟩ := h; exact hl
theorem RdS.pos {lim : Nat} {w : World} {p : Nat} {s : RS} (h : RdS lim w p s) : s.pos ≤ s.B.length := by obtain ⟨ao, cap, hb, hS, hp, hl⟩ := h; exact hp
theorem grown_from {a b : World} {q : Nat} {row : Option Nat} (h : (a.drewN q).grownBy b row) : a.grownBy b row := ⟨h.os, h.tape, h.output, h.size, h.block⟩

set_option maxRecDepth 10000 in
set_option maxHeartbeats 800000 in
theorem fixed_any (lim p : Nat) (s : RS) (k : Nat) (ki : Int) (w : World) (hki : ki = (k : Int)) (hk : 0 < k) (hk8 : k ≤ 8) (hR : RdS lim w p s) :
    Calls Tryz.prog 145 #[.pointer (some ⟨p, 0, none⟩), .int .i64 ki] w fun e w' => e = .returned (.int .u64 (hi (aheadV s.rest k) : Nat)) ∧ RdS lim w' p (s.step k (aheadW s.rest k)) ∧ w.grownBy w' (some p) := by
  subst hki
  have HRS := hide (rest_any lim p s.made s.place s.why s.B s.pos w hR)
  have HST := hide (fun q => step_any lim p s k k (aheadW s.rest k) (w.drewN q) (Rd.world hR rfl) rfl (by
    intro h1 h2
    have h3 := rest_len h1
    have h4 := hR.pos
    unfold aheadW at h2
    split at h2
    · cases h2
    · omega))
  have HL := hide hR.limp
  clear hR
  go_enter Tryz.func145, Tryz.ntmps145
  go_wp2_with fail
  refine HRS.out.mono ?_
  rintro e w1 ⟨a1, n1, c1, rfl, hs1, q, rfl⟩
  have HS1 := hide (hs1.world (w' := w.drewN q) rfl)
  have HN1 : Hid (n1 = s.rest.length) := hs1.1
  clear hs1
  go_wp2_with fail
  refine (bytesAhead_any k hk hk8 HS1.out).mono ?_
  rintro e w2 ⟨a2, n2, c2, rfl, hs2, hn2, rfl⟩
  have HS2 : Hid (Shows lim (w.drewN q) a2 n2 c2 (aheadV s.rest k)) := by unfold aheadV; rw [← HN1.out]; exact hs2
  have HW : Hid ((if n1 < k then (20 : Int) else 0) = aheadW s.rest k) := by show _ = _; unfold aheadW; rw [HN1.out]
  rw [HW.out]
  clear hs2 HS1 HW
  go_wp2_with fail
  refine (HST.out q).mono ?_
  rintro e w3 ⟨rfl, hr3, hg3⟩
  have HR3 := hide hr3
  have HG3 := hide hg3
  have HS3 := hide (HS2.out.kept hg3 (fun g hg => by cases hg; exact HL.out))
  clear hr3 hg3
  go_wp2_with fail
  refine (high_sh HS3.out hn2).mono ?_
  rintro e w4 ⟨rfl, rfl⟩
  go_wp2
  go_ret
  exact ⟨rfl, HR3.out, grown_from HG3.out⟩

theorem hi_take_lt {B : List Nat} {k : Nat} (h : ∀ x ∈ B, x < 256) : hi (aheadV B k) < 256 ^ k := by
  unfold aheadV
  split
  · exact Nat.pow_pos (by omega)
  · have := hi_lt (B.take k) (fun x hx => h x (List.mem_of_mem_take hx))
    rw [List.length_take, Nat.min_eq_left (by omega)] at this
    exact this

set_option maxRecDepth 10000 in
set_option maxHeartbeats 400000 in
theorem rU8_any (lim p : Nat) (s : RS) (w : World) (hR : RdS lim w p s) :
    Calls Tryz.prog 136 #[.pointer (some ⟨p, 0, none⟩)] w fun e w' => e = .returned (.int .u8 (hi (aheadV s.rest 1) : Nat)) ∧ RdS lim w' p (s.step 1 (aheadW s.rest 1)) ∧ w.grownBy w' (some p) := by
  have hlt := hi_take_lt (k := 1) (rest_lt hR).1
  have HF := hide (fixed_any lim p s 1 1 w rfl (by omega) (by omega) hR)
  clear hR
  generalize hi (aheadV s.rest 1) = x at *
  have hm : (x : Int) % 256 = (x : Int) := by omega
  go_enter Tryz.func136, Tryz.ntmps136
  go_wp2_with fail
  refine HF.out.mono ?_
  rintro e w1 ⟨rfl, hr, hg⟩
  go_wp2
  go_ret
  exact ⟨by go_num, hr, hg⟩
/-- A truth at the head of bytes. -/
def flagV (B : List Nat) : Bool := match B with | [] => false | c :: _ => c == 1
def flagW (B : List Nat) : Int := match B with | [] => 20 | c :: _ => if 1 < c then 26 else 0

set_option maxRecDepth 10000 in
set_option maxHeartbeats 400000 in
theorem flagAhead_any {lim : Nat} {w : World} {ao : Option Addr} {n cap : Nat} {B : List Nat} (h : Shows lim w ao n cap B) :
    Calls Tryz.prog 144 #[.slice ao n cap] w fun e w' => e = .returned (.tuple #[.bool (flagV B), .int .i64 (flagW B)]) ∧ ∃ q, w' = w.drewN q := by
  obtain ⟨h1, h2, h3, h4, b, off, h5, h6, h7⟩ := h
  cases B with
  | nil =>
    simp at h1
    subst h1
    clear h5 h6
    go_enter Tryz.func144, Tryz.ntmps144
    go_wp2
    go_ret2
    exact ⟨rfl, 0, rfl⟩
  | cons c r =>
    have hn : 0 < n := by simp at h1; omega
    obtain rfl := h5 hn
    have hc := h7 0 hn
    simp at hc
    have hc256 := h4 c (by simp)
    have hz : ((n : Int) == 0) = false := by simp; omega
    have hni : (0 : Int) < (n : Int) := by omega
    clear h1 h5 h6 h7 h4
    by_cases hb : 1 < c
    · have d : decide ((1 : Int) < (c : Int)) = true := by simp; omega
      have HV : Hid (flagV (c :: r) = false) := by show _ = _; simp [flagV]; omega
      have HW : Hid (flagW (c :: r) = 26) := by show _ = _; simp [flagW, hb]
      go_enter Tryz.func144, Tryz.ntmps144
      go_wp2
      go_ret2
      exact ⟨by rw [HV.out, HW.out]; rfl, 0, rfl⟩
    · have d : decide ((1 : Int) < (c : Int)) = false := by simp; omega
      have HV : Hid (flagV (c :: r) = ((c : Int) == 1)) := by
        show _ = _
        show (c == 1) = _
        rw [Bool.eq_iff_iff, beq_iff_eq, beq_iff_eq]; omega
      have HW : Hid (flagW (c :: r) = 0) := by show _ = _; simp [flagW, hb]
      go_enter Tryz.func144, Tryz.ntmps144
      go_wp2
      go_ret2
      exact ⟨by rw [HV.out, HW.out]; rfl, 0, rfl⟩
end Go.Proofs.YtldhafpeigdloaaGreatDoor
namespace Go.Proofs.YtldhafpeigdloaaGreatDoor
open Go.RowKit Crc

/-- A number at the head of bytes, behind i of its bytes: the number, its bytes, the reason. -/
def numGo : List Nat → Nat → Nat → Nat × Nat × Int
  | [], _, _ => (0, 0, 20)
  | c :: r, i, n => if i = 9 ∧ 1 < c then (0, 0, 26) else if 128 ≤ c then numGo r (i + 1) (n + c % 128 * 2 ^ (7 * i)) else if c = 0 ∧ 0 < i then (0, 0, 26) else (n + c % 128 * 2 ^ (7 * i), i + 1, 0)
def numAt (B : List Nat) : Nat × Nat × Int := numGo B 0 0

theorem and127 (c : Nat) (h : c < 256) : bits .and .u8 (c : Int) (127 : Int) = ((c % 128 : Nat) : Int) := by
  rw [show (127 : Int) = ((127 : Nat) : Int) from rfl, u8_and_nat _ _ (by omega) (by omega)]
  congr 1
  have := Nat.and_two_pow_sub_one_eq_mod c 7
  simpa using this

theorem numGo_at (B : List Nat) (k x : Nat) (hk : k < B.length) : numGo (B.drop k) k x = if k = 9 ∧ 1 < B.getD k 0 then (0, 0, 26) else if 128 ≤ B.getD k 0 then numGo (B.drop (k + 1)) (k + 1) (x + B.getD k 0 % 128 * 2 ^ (7 * k)) else if B.getD k 0 = 0 ∧ 0 < k then (0, 0, 26) else (x + B.getD k 0 % 128 * 2 ^ (7 * k), k + 1, 0) := by
  rw [List.drop_eq_getElem_cons hk, List.getD_eq_getElem?_getD, List.getElem?_eq_getElem hk]
  rfl
theorem numGo_end (B : List Nat) (k x : Nat) (hk : B.length ≤ k) : numGo (B.drop k) k x = (0, 0, 20) := by
  rw [List.drop_eq_nil_of_le hk]; rfl
theorem or_num (x d E : Nat) (hE : E ≤ 63) (hx : x < 2 ^ E) (hf : d * 2 ^ E < 18446744073709551616) : bits .or .u64 (x : Int) (IntKind.u64.wrap ((d : Int) * 2 ^ E)) = ((x + d * 2 ^ E : Nat) : Int) := by
  have hx2 : x < 18446744073709551616 := Nat.lt_of_lt_of_le hx (Nat.le_trans (Nat.pow_le_pow_right (by omega) hE) (by decide))
  have e : (d : Int) * 2 ^ E = ((d * 2 ^ E : Nat) : Int) := by simp
  rw [e]
  have ew : IntKind.u64.wrap ((d * 2 ^ E : Nat) : Int) = ((d * 2 ^ E : Nat) : Int) := by
    generalize d * 2 ^ E = m at *
    simp [IntKind.wrap, IntKind.bits, IntKind.signed]
    omega
  rw [ew, u64_or_nat _ _ hx2 hf, or_add x d E hx]

set_option maxRecDepth 10000 in
set_option maxHeartbeats 1600000 in
theorem numAhead_any {lim : Nat} {w : World} {ao : Option Addr} {n cap : Nat} {B : List Nat} (h : Shows lim w ao n cap B) :
    Calls Tryz.prog 143 #[.slice ao n cap] w fun e w' => e = .returned (.tuple #[.int .u64 ((numAt B).1 : Nat), .int .i64 ((numAt B).2.1 : Nat), .int .i64 (numAt B).2.2]) ∧ w' = w := by
  obtain ⟨h1, h2, h3, h4, b, off, h5, h6, h7⟩ := h
  have HN := hide h1
  have HA := hide h5
  have HC := hide h7
  have HB := hide h4
  clear h1 h5 h6 h7 h4
  go_enter Tryz.func143, Tryz.ntmps143
  go_wp2
  go_loop [5, 10] (fun s i => ∃ k x : Nat, k ≤ n ∧ k ≤ 9 ∧ i = .int .i64 k ∧ s = .int .u64 x ∧ Hid (x < 2 ^ (7 * k) ∧ numGo (B.drop k) k x = numAt B)) (fun _ i => n - (intOf i).toNat)
  case atStart => exact ⟨0, 0, Nat.zero_le _, by omega, rfl, rfl, by simp, rfl⟩
  case round =>
    obtain ⟨k, x, hk, hk9, rfl, rfl, HX⟩ := hrel
    by_cases hlt : k < n
    · have hck := HC.out k hlt
      obtain rfl := HA.out (by omega)
      have hcb : B.getD k 0 < 256 := getD_lt B HB.out k
      have hgo := numGo_at B k x (by have := HN.out; omega)
      rw [HX.out.2] at hgo
      obtain ⟨c, hcd⟩ : ∃ c, c = B.getD k 0 := ⟨_, rfl⟩
      rw [← hcd] at hck hcb hgo
      have HGO := hide hgo
      clear hcd hgo
      have hand := and127 c hcb
      obtain ⟨d, hdd⟩ : ∃ d, d = c % 128 := ⟨_, rfl⟩
      rw [← hdd] at hand
      have HD := hide hdd
      have hd128 : d < 128 := by omega
      have hdc : d ≤ c := by rw [hdd]; exact Nat.mod_le _ _
      clear hdd
      by_cases h9 : k = 9 ∧ 1 < c
      · have HF : Hid (numAt B = (0, 0, 26)) := by have := HGO.out; rw [if_pos h9] at this; exact this
        obtain ⟨rfl, hc1⟩ := h9
        have d1 : decide ((1 : Int) < (c : Int)) = true := by simp; omega
        clear HGO HX HD hand
        go_wp2
        go_ret3
        exact ⟨by rw [HF.out]; rfl, rfl⟩
      · have hfit : d * 2 ^ (7 * k) < 18446744073709551616 := by
          rcases Nat.lt_or_ge k 9 with h | h
          · have h1 : 2 ^ (7 * k) ≤ 2 ^ 56 := Nat.pow_le_pow_right (by omega) (by omega)
            have h2 : d * 2 ^ (7 * k) ≤ 127 * 2 ^ 56 := Nat.mul_le_mul (by omega) h1
            omega
          · obtain rfl : k = 9 := by omega
            have : d ≤ 1 := by omega
            have : d * 2 ^ (7 * 9) ≤ 1 * 2 ^ (7 * 9) := Nat.mul_le_mul_right _ this
            omega
        have hor := or_num x d (7 * k) (by omega) HX.out.1 hfit
        obtain ⟨y, hy⟩ : ∃ y, y = x + d * 2 ^ (7 * k) := ⟨_, rfl⟩
        rw [← hy] at hor
        have HGO2 : Hid (numAt B = if 128 ≤ c then numGo (B.drop (k + 1)) (k + 1) y else if c = 0 ∧ 0 < k then (0, 0, 26) else (y, k + 1, 0)) := by
          have h := HGO.out
          rw [if_neg h9, ← HD.out, ← hy] at h
          exact h
        have HY : Hid (y < 2 ^ (7 * (k + 1))) := by
          have h1 := HX.out.1
          show y < _
          rw [hy, show 7 * (k + 1) = 7 * k + 7 by omega, Nat.pow_add]
          have h2 : d * 2 ^ (7 * k) ≤ 127 * 2 ^ (7 * k) := Nat.mul_le_mul_right _ (by omega)
          omega
        have HYD := hide hy
        have HXL := hide HX.out.1
        obtain ⟨E, hE⟩ : ∃ E : Nat, E = 7 * k := ⟨_, rfl⟩
        have he : (7 : Int) * (k : Int) = (E : Int) := by omega
        rw [← hE] at hor
        have HEE := hide hE
        clear HGO HX HD hfit hy hE
        by_cases h128 : 128 ≤ c
        · have d128 : decide ((128 : Int) ≤ (c : Int)) = true := by simp; omega
          have hk8 : k ≤ 8 := by omega
          have hne : ((k : Int) == 9) = false := by simp; omega
          have HR : Hid (y < 2 ^ (7 * (k + 1)) ∧ numGo (B.drop (k + 1)) (k + 1) y = numAt B) := by
            refine ⟨HY.out, ?_⟩
            have h := HGO2.out
            rw [if_pos h128] at h
            exact h.symm
          clear HGO2 HY h9
          go_wp2
          go_round
          case rel => exact ⟨k + 1, y, by omega, by omega, by go_num, rfl, HR⟩
          case measure => simp [intOf]; omega
        · have d128 : decide ((128 : Int) ≤ (c : Int)) = false := by simp; omega
          by_cases hz : c = 0 ∧ 0 < k
          · have HF : Hid (numAt B = (0, 0, 26)) := by have := HGO2.out; rw [if_neg h128, if_pos hz] at this; exact this
            obtain ⟨rfl, hk0⟩ := hz
            have dk : decide ((0 : Int) < (k : Int)) = true := by simp; omega
            clear HGO2 HY h9
            by_cases hk' : k = 9
            · subst hk'
              go_wp2
              go_ret3
              exact ⟨by rw [HF.out]; rfl, rfl⟩
            · have hne : ((k : Int) == 9) = false := by simp; omega
              go_wp2
              go_ret3
              exact ⟨by rw [HF.out]; rfl, rfl⟩
          · have HF : Hid (numAt B = (y, k + 1, 0)) := by have := HGO2.out; rw [if_neg h128, if_neg hz] at this; exact this
            clear HGO2 HY
            by_cases hk' : k = 9
            · subst hk'
              have hc0 : ((c : Int) == 0) = false := by simp; omega
              have d1 : decide ((1 : Int) < (c : Int)) = false := by simp; omega
              have hor9 : bits .or .u64 (x : Int) (IntKind.u64.wrap ((d : Int) * 9223372036854775808)) = (y : Int) := by
                have h := hor
                rw [HEE.out] at h
                exact h
              clear hz h9 hor
              go_wp2
              go_ret3
              exact ⟨by rw [HF.out]; rfl, rfl⟩
            · have hne : ((k : Int) == 9) = false := by simp; omega
              clear h9
              by_cases hc0 : c = 0
              · subst hc0
                obtain rfl : k = 0 := by omega
                obtain rfl : x = 0 := by have := HXL.out; simp at this; exact this
                obtain rfl : d = 0 := by omega
                obtain rfl : y = 0 := HYD.out
                obtain rfl : E = 0 := HEE.out
                clear hz hor he hand hne
                simp at hck
                go_wp2
                go_ret3
                exact ⟨by rw [HF.out]; rfl, rfl⟩
              · have hc0' : ((c : Int) == 0) = false := by simp; omega
                clear hz
                go_wp2
                go_ret3
                exact ⟨by rw [HF.out]; rfl, rfl⟩
    · have HF : Hid (numAt B = (0, 0, 20)) := by
        have h1 := HX.out.2
        rw [numGo_end B k x (by have := HN.out; omega)] at h1
        exact h1.symm
      clear HX
      go_wp2
      go_ret3
      exact ⟨by rw [HF.out]; rfl, rfl⟩
end Go.Proofs.YtldhafpeigdloaaGreatDoor
namespace Go.Proofs.YtldhafpeigdloaaGreatDoor
open Go.RowKit Crc

theorem numGo_ok : ∀ (B : List Nat) (i n : Nat), i ≤ 9 → n < 2 ^ (7 * i) → (numGo B i n).1 < 18446744073709551616 ∧ (numGo B i n).2.1 ≤ i + B.length ∧ (numGo B i n).2.1 ≤ 10 ∧ ((numGo B i n).2.2 ≠ 0 → (numGo B i n).1 = 0 ∧ (numGo B i n).2.1 = 0)
  | [], i, n, hi, hn => by simp [numGo]
  | c :: r, i, n, hi, hn => by
    have hstep : n + c % 128 * 2 ^ (7 * i) < 2 ^ (7 * (i + 1)) := by
      rw [show 7 * (i + 1) = 7 * i + 7 by omega, Nat.pow_add]
      have h2 : c % 128 * 2 ^ (7 * i) ≤ 127 * 2 ^ (7 * i) := Nat.mul_le_mul_right _ (by omega)
      omega
    rw [numGo]
    split
    · simp
    · rename_i h9
      split
      · rename_i h128
        have := numGo_ok r (i + 1) (n + c % 128 * 2 ^ (7 * i)) (by omega) hstep
        refine ⟨this.1, ?_, this.2.2⟩
        have h2 := this.2.1
        simp only [List.length_cons]
        omega
      · split
        · simp
        · refine ⟨?_, by simp only [List.length_cons]; omega, by show i + 1 ≤ 10; omega, fun h => absurd rfl h⟩
          show n + c % 128 * 2 ^ (7 * i) < _
          rcases Nat.lt_or_ge i 9 with h | h
          · have h1 : 2 ^ (7 * (i + 1)) ≤ 2 ^ 63 := Nat.pow_le_pow_right (by omega) (by omega)
            omega
          · obtain rfl : i = 9 := by omega
            have : c % 128 ≤ 1 := by omega
            have : c % 128 * 2 ^ (7 * 9) ≤ 1 * 2 ^ (7 * 9) := Nat.mul_le_mul_right _ this
            omega
theorem numAt_ok (B : List Nat) : (numAt B).1 < 18446744073709551616 ∧ (numAt B).2.1 ≤ B.length ∧ (numAt B).2.1 ≤ 10 ∧ ((numAt B).2.2 ≠ 0 → (numAt B).1 = 0 ∧ (numAt B).2.1 = 0) := by
  have := numGo_ok B 0 0 (by omega) (by simp)
  simpa [numAt] using this

/-- A length at the head of bytes. -/
def countAt (B : List Nat) (most : Int) : Nat × Nat × Int :=
  if (numAt B).2.2 ≠ 0 then (0, 0, (numAt B).2.2) else if most < ((numAt B).1 : Int) then (0, 0, 21) else ((numAt B).1, (numAt B).2.1, 0)
/-- Bytes with their number ahead. -/
def blobAt (B : List Nat) (most : Int) : List Nat × Nat × Int :=
  if (countAt B most).2.2 ≠ 0 then ([], 0, (countAt B most).2.2) else if B.length < (countAt B most).2.1 + (countAt B most).1 then ([], 0, 20) else ((B.drop (countAt B most).2.1).take (countAt B most).1, (countAt B most).2.1 + (countAt B most).1, 0)

set_option maxRecDepth 10000 in
set_option maxHeartbeats 800000 in
theorem countAhead_any {lim : Nat} {w : World} {ao : Option Addr} {n cap : Nat} {B : List Nat} (h : Shows lim w ao n cap B) (most : Int) (hm1 : -9223372036854775808 ≤ most) (hm2 : most < 9223372036854775808) :
    Calls Tryz.prog 141 #[.slice ao n cap, .int .i64 most] w fun e w' => e = .returned (.tuple #[.int .i64 ((countAt B most).1 : Nat), .int .i64 ((countAt B most).2.1 : Nat), .int .i64 (countAt B most).2.2]) ∧ ∃ q, w' = w.drewN q := by
  have HNA := hide (numAhead_any h)
  obtain ⟨k1, k2, k3, _⟩ := numAt_ok B
  have HCA : Hid (countAt B most = if (numAt B).2.2 ≠ 0 then (0, 0, (numAt B).2.2) else if most < ((numAt B).1 : Int) then (0, 0, 21) else ((numAt B).1, (numAt B).2.1, 0)) := rfl
  clear h
  generalize hr : numAt B = r at *
  clear hr
  obtain ⟨x, z, y⟩ := r
  simp only at k1 k2 k3
  by_cases hy : y = 0
  · subst hy
    by_cases hmx : most < (x : Int)
    · have HF : Hid (countAt B most = (0, 0, 21)) := by have := HCA.out; simp [hmx] at this; exact this
      clear HCA
      by_cases hm0 : most < 0
      · have d0 : decide (most < 0) = true := by simp; omega
        go_enter Tryz.func141, Tryz.ntmps141
        go_wp2_with fail
        refine HNA.out.mono ?_
        rintro e w1 ⟨rfl, rfl⟩
        go_wp2
        go_ret3
        exact ⟨by rw [HF.out]; rfl, 0, rfl⟩
      · have d0 : decide (most < 0) = false := by simp; omega
        have e0 : most % 18446744073709551616 = most := by omega
        have d1 : decide (most < (x : Int)) = true := by simp; omega
        go_enter Tryz.func141, Tryz.ntmps141
        go_wp2_with fail
        refine HNA.out.mono ?_
        rintro e w1 ⟨rfl, rfl⟩
        go_wp2
        go_ret3
        exact ⟨by rw [HF.out]; rfl, 0, rfl⟩
    · have HF : Hid (countAt B most = (x, z, 0)) := by have := HCA.out; simp [hmx] at this; exact this
      have d0 : decide (most < 0) = false := by simp; omega
      have e0 : most % 18446744073709551616 = most := by omega
      have d1 : decide (most < (x : Int)) = false := by simp; omega
      have hx63 : (x : Int) < 9223372036854775808 := by omega
      clear HCA
      go_enter Tryz.func141, Tryz.ntmps141
      go_wp2_with fail
      refine HNA.out.mono ?_
      rintro e w1 ⟨rfl, rfl⟩
      go_wp2
      go_ret3
      exact ⟨by rw [HF.out]; rfl, 0, rfl⟩
  · have HF : Hid (countAt B most = (0, 0, y)) := by have := HCA.out; simp [hy] at this; exact this
    have hyb : (y == 0) = false := by simp [hy]
    clear HCA hy
    go_enter Tryz.func141, Tryz.ntmps141
    go_wp2_with fail
    refine HNA.out.mono ?_
    rintro e w1 ⟨rfl, rfl⟩
    go_wp2
    go_ret3
    exact ⟨by rw [HF.out]; rfl, 0, rfl⟩
end Go.Proofs.YtldhafpeigdloaaGreatDoor
namespace Go.Proofs.YtldhafpeigdloaaGreatDoor
open Go.RowKit Crc

theorem shows_part {lim : Nat} {w : World} {ao : Option Addr} {n cap : Nat} {B : List Nat} (h : Shows lim w ao n cap B) {b off k m : Nat} (hao : ao = some ⟨b, off, none⟩) (hk : k + m ≤ n) (hkc : 0 < n) : Shows lim w (some ⟨b, off + k, none⟩) m (cap - k) ((B.drop k).take m) := by
  obtain ⟨h1, h2, h3, h4, b', off', h5, h6, h7⟩ := h
  have e := h5 hkc
  rw [hao] at e
  cases e
  refine ⟨by rw [List.length_take, List.length_drop]; omega, by omega, by omega, fun x hx => h4 x (List.mem_of_mem_drop (List.mem_of_mem_take hx)), b, off + k, fun _ => rfl, fun _ => h6 hkc, fun i hi => ?_⟩
  rw [getD_take hi, getD_drop, Nat.add_assoc]
  exact h7 (k + i) (by omega)

theorem countAt_ok (B : List Nat) (most : Int) : (countAt B most).2.1 ≤ B.length ∧ (countAt B most).2.1 ≤ 10 ∧ ((countAt B most).2.2 = 0 → 0 ≤ most → ((countAt B most).1 : Int) ≤ most) ∧ ((countAt B most).2.2 = 0 → 0 ≤ most) ∧ ((countAt B most).2.2 ≠ 0 → (countAt B most).1 = 0 ∧ (countAt B most).2.1 = 0) := by
  have h := numAt_ok B
  unfold countAt
  split
  · rename_i h1; simp [h1]
  · split
    · simp
    · rename_i h2
      refine ⟨h.2.1, h.2.2.1, fun _ _ => ?_, fun _ => ?_, fun h => absurd rfl h⟩
      · show ((numAt B).1 : Int) ≤ most; omega
      · omega

set_option maxRecDepth 10000 in
set_option maxHeartbeats 800000 in
theorem blobAhead_any {lim : Nat} {w : World} {ao : Option Addr} {n cap : Nat} {B : List Nat} (h : Shows lim w ao n cap B) (most : Int) (hm1 : -9223372036854775808 ≤ most) (hm2 : most < 9223372036854775808) :
    Calls Tryz.prog 138 #[.slice ao n cap, .int .i64 most] w fun e w' => ∃ a2 n2 c2, e = .returned (.tuple #[.slice a2 n2 c2, .int .i64 ((blobAt B most).2.1 : Nat), .int .i64 (blobAt B most).2.2]) ∧ Shows lim w a2 n2 c2 (blobAt B most).1 ∧ ∃ q, w' = w.drewN q := by
  have HCO := hide (countAhead_any h most hm1 hm2)
  obtain ⟨k2, k3, k4, k5, _⟩ := countAt_ok B most
  have HBA : Hid (blobAt B most = if (countAt B most).2.2 ≠ 0 then ([], 0, (countAt B most).2.2) else if B.length < (countAt B most).2.1 + (countAt B most).1 then ([], 0, 20) else ((B.drop (countAt B most).2.1).take (countAt B most).1, (countAt B most).2.1 + (countAt B most).1, 0)) := rfl
  have HS := hide h
  have hcap := h.2.1
  have hn47 := h.2.2.1
  have HN := hide h.1
  clear h
  generalize hr : countAt B most = r at *
  clear hr
  obtain ⟨x, z, y⟩ := r
  simp only at k2 k3 k4 k5
  by_cases hy : y = 0
  · subst hy
    have k6 : (x : Int) ≤ most := k4 rfl (k5 rfl)
    have k7 := HN.out
    rw [← k7] at k2
    clear k4 k5 k7
    have hx63 : (x : Int) < 9223372036854775808 := by omega
    have hzn : (z : Int) ≤ (n : Int) := by omega
    by_cases hsx : n < z + x
    · have HF : Hid (blobAt B most = ([], 0, 20)) := by have h1 := HBA.out; have h2 := HN.out; rw [← h2] at h1; simp [hsx] at h1; exact h1
      have d1 : decide ((n : Int) - (z : Int) < (x : Int)) = true := by simp; omega
      clear HBA
      go_enter Tryz.func138, Tryz.ntmps138
      go_wp2_with fail
      refine HCO.out.mono ?_
      rintro e w1 ⟨rfl, q, rfl⟩
      go_wp2
      go_ret3
      exact ⟨_, _, _, by rw [HF.out]; rfl, by rw [HF.out]; exact shows_none, q, rfl⟩
    · have HF : Hid (blobAt B most = ((B.drop z).take x, z + x, 0)) := by have h1 := HBA.out; have h2 := HN.out; rw [← h2] at h1; simp [hsx] at h1; exact h1
      have d1 : decide ((n : Int) - (z : Int) < (x : Int)) = false := by simp; omega
      have hzx : (z : Int) + (x : Int) ≤ (cap : Int) := by omega
      have hz0 : (0 : Int) ≤ (z : Int) := by omega
      have hzz : (z : Int) ≤ (z : Int) + (x : Int) := by omega
      clear HBA
      by_cases hn0 : n = 0
      · have HB0 : Hid (B = []) := List.eq_nil_of_length_eq_zero (by have := HN.out; omega)
        obtain rfl : z = 0 := by omega
        obtain rfl : x = 0 := by omega
        clear hsx hzx hz0 hzz hzn hx63 k6 k2 k3 d1
        subst hn0
        go_enter Tryz.func138, Tryz.ntmps138
        go_wp2_with fail
        refine HCO.out.mono ?_
        rintro e w1 ⟨rfl, q, rfl⟩
        go_wp2
        go_ret3
        exact ⟨_, _, _, by rw [HF.out]; rfl, by rw [HF.out, HB0.out]; exact shows_none, q, rfl⟩
      · obtain ⟨b, off, hao⟩ : ∃ b off, ao = some ⟨b, off, none⟩ := by
          obtain ⟨_, _, _, _, b, off, h5, _, _⟩ := HS.out
          exact ⟨b, off, h5 (by omega)⟩
        subst hao
        have HFI := hide (shows_part HS.out rfl (k := z) (m := x) (by omega) (by omega))
        by_cases hce : cap = z
        · subst hce
          obtain rfl : x = 0 := by omega
          go_enter Tryz.func138, Tryz.ntmps138
          go_wp2_with fail
          refine HCO.out.mono ?_
          rintro e w1 ⟨rfl, q, rfl⟩
          go_wp2
          go_ret3
          exact ⟨_, _, _, by rw [HF.out]; rfl, by rw [HF.out, List.take_zero]; exact shows_none, q, rfl⟩
        · go_enter Tryz.func138, Tryz.ntmps138
          go_wp2_with fail
          refine HCO.out.mono ?_
          rintro e w1 ⟨rfl, q, rfl⟩
          go_wp2
          go_ret3
          exact ⟨_, _, _, by rw [HF.out]; rfl, by rw [HF.out, Nat.add_sub_cancel_left]; exact HFI.out, q, rfl⟩
  · have HF : Hid (blobAt B most = ([], 0, y)) := by have h1 := HBA.out; simp [hy] at h1; exact h1
    have hyb : (y == 0) = false := by simp [hy]
    clear HBA hy k4 k5
    go_enter Tryz.func138, Tryz.ntmps138
    go_wp2_with fail
    refine HCO.out.mono ?_
    rintro e w1 ⟨rfl, q, rfl⟩
    go_wp2
    go_ret3
    exact ⟨_, _, _, by rw [HF.out]; rfl, by rw [HF.out]; exact shows_none, q, rfl⟩

/-- A field whose size is no more than what is left may be stepped over. -/
theorem step_fits {lim : Nat} {w : World} {p : Nat} {s : RS} (hR : RdS lim w p s) {z : Nat} (hz : z ≤ s.rest.length) : s.sound → s.pos + z ≤ s.B.length := by
  intro h
  have h3 := rest_len h
  have h4 := hR.pos
  omega

set_option maxRecDepth 10000 in
set_option maxHeartbeats 800000 in
theorem rNum_any (lim p : Nat) (s : RS) (w : World) (hR : RdS lim w p s) :
    Calls Tryz.prog 133 #[.pointer (some ⟨p, 0, none⟩)] w fun e w' => e = .returned (.int .u64 ((numAt s.rest).1 : Nat)) ∧ RdS lim w' p (s.step (numAt s.rest).2.1 (numAt s.rest).2.2) ∧ w.grownBy w' (some p) := by
  have HRS := hide (rest_any lim p s.made s.place s.why s.B s.pos w hR)
  have HST := hide (fun q => step_any lim p s (numAt s.rest).2.1 (numAt s.rest).2.1 (numAt s.rest).2.2 (w.drewN q) (Rd.world hR rfl) rfl (fun h _ => step_fits hR (numAt_ok s.rest).2.1 h))
  clear hR
  go_enter Tryz.func133, Tryz.ntmps133
  go_wp2_with fail
  refine HRS.out.mono ?_
  rintro e w1 ⟨a1, n1, c1, rfl, hs1, q, rfl⟩
  have HS1 := hide (hs1.world (w' := w.drewN q) rfl)
  clear hs1
  go_wp2_with fail
  refine (numAhead_any HS1.out).mono ?_
  rintro e w2 ⟨rfl, rfl⟩
  clear HS1
  go_wp2_with fail
  refine (HST.out q).mono ?_
  rintro e w3 ⟨rfl, hr3, hg3⟩
  go_wp2
  go_ret
  exact ⟨rfl, hr3, grown_from hg3⟩

set_option maxRecDepth 10000 in
set_option maxHeartbeats 800000 in
theorem rFlag_any (lim p : Nat) (s : RS) (w : World) (hR : RdS lim w p s) :
    Calls Tryz.prog 134 #[.pointer (some ⟨p, 0, none⟩)] w fun e w' => e = .returned (.bool (flagV s.rest)) ∧ RdS lim w' p (s.step 1 (flagW s.rest)) ∧ w.grownBy w' (some p) := by
  have HRS := hide (rest_any lim p s.made s.place s.why s.B s.pos w hR)
  have HST := hide (fun q => step_any lim p s 1 1 (flagW s.rest) (w.drewN q) (Rd.world hR rfl) rfl (by
    intro h h0
    refine step_fits hR ?_ h
    revert h0
    cases s.rest with
    | nil => intro h0; cases h0
    | cons c r => intro _; simp))
  clear hR
  go_enter Tryz.func134, Tryz.ntmps134
  go_wp2_with fail
  refine HRS.out.mono ?_
  rintro e w1 ⟨a1, n1, c1, rfl, hs1, q, rfl⟩
  have HS1 : Hid (Shows lim (w.drewN q) a1 n1 c1 s.rest) := hs1.world (w' := w.drewN q) rfl
  clear hs1
  go_wp2_with fail
  refine (flagAhead_any HS1.out).mono ?_
  rintro e w2 ⟨rfl, q2, rfl⟩
  clear HS1
  go_wp2_with fail
  refine (HST.out _).mono ?_
  rintro e w3 ⟨rfl, hr3, hg3⟩
  go_wp2
  go_ret
  exact ⟨rfl, hr3, grown_from hg3⟩

set_option maxRecDepth 10000 in
set_option maxHeartbeats 800000 in
theorem rCount_any (lim p : Nat) (s : RS) (most : Int) (w : World) (hR : RdS lim w p s) (hm1 : -9223372036854775808 ≤ most) (hm2 : most < 9223372036854775808) :
    Calls Tryz.prog 131 #[.pointer (some ⟨p, 0, none⟩), .int .i64 most] w fun e w' => e = .returned (.int .i64 ((countAt s.rest most).1 : Nat)) ∧ RdS lim w' p (s.step (countAt s.rest most).2.1 (countAt s.rest most).2.2) ∧ w.grownBy w' (some p) := by
  have HRS := hide (rest_any lim p s.made s.place s.why s.B s.pos w hR)
  have HST := hide (fun q => step_any lim p s (countAt s.rest most).2.1 (countAt s.rest most).2.1 (countAt s.rest most).2.2 (w.drewN q) (Rd.world hR rfl) rfl (fun h _ => step_fits hR (countAt_ok s.rest most).1 h))
  clear hR
  go_enter Tryz.func131, Tryz.ntmps131
  go_wp2_with fail
  refine HRS.out.mono ?_
  rintro e w1 ⟨a1, n1, c1, rfl, hs1, q, rfl⟩
  have HS1 : Hid (Shows lim (w.drewN q) a1 n1 c1 s.rest) := hs1.world (w' := w.drewN q) rfl
  clear hs1
  go_wp2_with fail
  refine (countAhead_any HS1.out most hm1 hm2).mono ?_
  rintro e w2 ⟨rfl, q2, rfl⟩
  clear HS1
  go_wp2_with fail
  refine (HST.out _).mono ?_
  rintro e w3 ⟨rfl, hr3, hg3⟩
  go_wp2
  go_ret
  exact ⟨rfl, hr3, grown_from hg3⟩

theorem RdS.kept {lim : Nat} {w w' : World} {p : Nat} {s : RS} {row : Option Nat} (h : RdS lim w p s) (hg : w.grownBy w' row) (hr : ∀ g, row = some g → lim ≤ g ∧ g ≠ p) : RdS lim w' p s := by
  obtain ⟨ao, cap, hb, hS, hp, hl⟩ := h
  exact ⟨ao, cap, (hg.block p (block_lt hb) (fun e => (hr p e.symm).2 rfl)).trans hb, hS.kept hg (fun g e => (hr g e).1), hp, hl⟩
theorem RdS.plt {lim : Nat} {w : World} {p : Nat} {s : RS} (h : RdS lim w p s) : p < w.heap.size := by obtain ⟨ao, cap, hb, hS, hp, hl⟩ := h; exact block_lt hb
theorem copied_sh {lim : Nat} {w : World} {ao : Option Addr} {n cap : Nat} {B : List Nat} (h : Shows lim w ao n cap B) (hlw : lim ≤ w.heap.size) :
    Calls Tryz.prog 39 #[.slice ao n cap] w fun e w' => ∃ v, e = .returned v ∧ (v = .slice none 0 0 ∨ v = .slice (some ⟨w.heap.size, 0, none⟩) n n) ∧ (0 < n → v ≠ .slice none 0 0) ∧ Fresh w w' v B := by
  obtain ⟨h1, h2, h3, h4, b, off, h5, h6, h7⟩ := h
  exact copied_any b off ao B n cap w h5 h1 h3 (fun h => Nat.lt_of_lt_of_le (h6 h) hlw) h7
theorem blobAt_ok (B : List Nat) (most : Int) : (blobAt B most).2.1 ≤ B.length := by
  unfold blobAt
  split
  · simp
  · split
    · simp
    · rename_i h; show _ + _ ≤ _; omega

set_option maxRecDepth 10000 in
set_option maxHeartbeats 800000 in
theorem rBlob_any (lim p : Nat) (s : RS) (most : Int) (w : World) (hR : RdS lim w p s) (hm1 : -9223372036854775808 ≤ most) (hm2 : most < 9223372036854775808) :
    Calls Tryz.prog 129 #[.pointer (some ⟨p, 0, none⟩), .int .i64 most] w fun e w' => ∃ v, e = .returned v ∧ Owns w.heap.size w' v (blobAt s.rest most).1 ∧ (v = .slice none 0 0 ∨ ∃ g, w.heap.size ≤ g ∧ v = .slice (some ⟨g, 0, none⟩) (blobAt s.rest most).1.length (blobAt s.rest most).1.length) ∧ RdS lim w' p (s.step (blobAt s.rest most).2.1 (blobAt s.rest most).2.2) ∧ w.grownBy w' (some p) := by
  have HRS := hide (rest_any lim p s.made s.place s.why s.B s.pos w hR)
  have HST := hide (fun q => step_any lim p s (blobAt s.rest most).2.1 (blobAt s.rest most).2.1 (blobAt s.rest most).2.2 (w.drewN q) (Rd.world hR rfl) rfl (fun h _ => step_fits hR (blobAt_ok s.rest most) h))
  have HL := hide hR.limp
  have HP := hide hR.plt
  clear hR
  go_enter Tryz.func129, Tryz.ntmps129
  go_wp2_with fail
  refine HRS.out.mono ?_
  rintro e w1 ⟨a1, n1, c1, rfl, hs1, q, rfl⟩
  have HS1 : Hid (Shows lim (w.drewN q) a1 n1 c1 s.rest) := hs1.world (w' := w.drewN q) rfl
  clear hs1
  go_wp2_with fail
  refine (blobAhead_any HS1.out most hm1 hm2).mono ?_
  rintro e w2 ⟨a2, n2, c2, rfl, hs2, q2, rfl⟩
  have HS2 : Hid (∀ q, Shows lim (w.drewN q) a2 n2 c2 (blobAt s.rest most).1) := fun q => hs2.world rfl
  have HN2 := hide hs2.1
  clear HS1 hs2
  go_wp2_with fail
  refine (HST.out _).mono ?_
  rintro e w3 ⟨rfl, hr3, hg3⟩
  have HR3 := hide hr3
  have HG3 := hide (grown_from hg3)
  have HS3 := hide ((HS2.out 0).kept (w := w.drewN 0) (w' := w3) (row := some p) ⟨HG3.out.os, HG3.out.tape, HG3.out.output, HG3.out.size, HG3.out.block⟩ (fun g hg => by cases hg; exact HL.out))
  have HLW : Hid (lim ≤ w3.heap.size) := by have h1 := HR3.out.plt; have h2 := HL.out; show _ ≤ _; omega
  clear hr3 hg3
  go_wp2_with fail
  refine (copied_sh HS3.out HLW.out).mono ?_
  rintro e w4 ⟨v, rfl, hv, _, hfr⟩
  go_wp2
  go_ret
  have hsz := HG3.out.size
  have hgb := below_none hfr.2
  have hbB : ∀ x ∈ (blobAt s.rest most).1, x < 256 := HS3.out.2.2.2.1
  have hbL : (blobAt s.rest most).1.length ≤ 140737488355328 := by rw [← HN2.out]; exact HS3.out.2.2.1
  have ho : Owns w3.heap.size w4 v (blobAt s.rest most).1 := ⟨hfr.1, hbB, hbL⟩
  refine ⟨v, rfl, ho.lower hsz, ?_, HR3.out.kept hgb (fun g hg => by cases hg), grown_quiet HG3.out hgb⟩
  rw [← HN2.out]
  rcases hv with h | h
  · exact .inl h
  · exact .inr ⟨_, hsz, h⟩
end Go.Proofs.YtldhafpeigdloaaGreatDoor
namespace Go.Proofs.YtldhafpeigdloaaGreatDoor
open Go.RowKit Crc

/-- A text's bytes. -/
def strB (s : ByteArray) : List Nat := s.data.toList.map (·.toNat)
theorem strB_len (s : ByteArray) : (strB s).length = s.size := by simp [strB]
theorem strB_lt (s : ByteArray) : ∀ x ∈ strB s, x < 256 := by
  intro x hx
  simp only [strB, List.mem_map] at hx
  obtain ⟨b, _, rfl⟩ := hx
  exact b.toNat_lt
theorem strB_vals (s : ByteArray) : vals (strB s) = Go.Lib.strCells s := by
  simp [vals, strB, Go.Lib.strCells]

theorem run_append_string_ext {P : Program} {w : World} (base : Nat) (t u ty e : TypeId) (i : TypeInfo) (ht : P.underlying t = some (.slice e)) (hu : P.underlying u = some .string) (hi : P.info? e = some i) (hz : i.zero = some (.int .u8 0))
    (hsize : i.size = 1) (hby : i.bytes = 1)
    (v : Value) (n : Nat) (xs : List Value) (hown : w.ownsRow base e 1 v n xs) (s : ByteArray) (hbytes : n + s.size ≤ 140737488355328) (hbase : base ≤ w.heap.size) :
    ∃ v' w', (Builtin.append_ #[t, u] ty #[v, .string s]).run P w = .ok v' w' ∧ w'.ownsRow base e 1 v' (n + s.size) (xs ++ Go.Lib.strCells s) ∧ Ext w w' v v' := by
  have h63 : n + s.size ≤ maxLen := by unfold maxLen; omega
  obtain ⟨v', w', hr, ho, hg, _⟩ := Go.Lib.run_append_own_string (P := P) w base t u ty e i ht hu hi hz hsize hby v n xs hown s h63 hbytes hbase
  refine ⟨v', w', hr, ho, hg, ?_⟩
  have hxl : xs.length = n := by simpa using hown.1
  rcases hown.2 with ⟨rfl, rfl⟩ | ⟨g, cap, cur, rfl, hbg, hgg, hnc, hcm, hcs, htake⟩
  · have hx : xs = [] := List.eq_nil_of_length_eq_zero hxl
    subst hx
    obtain ⟨v2, w2, hr2, ho2, _, _⟩ := Go.Lib.run_append_own_string (P := P) w w.heap.size t u ty e i ht hu hi hz hsize hby (.slice none 0 0) 0 [] (World.ownsRow_nil w _ _ _) s h63 hbytes (Nat.le_refl _)
    rw [hr] at hr2
    cases hr2
    exact fun g hg => .inr (ho2.lt g hg).1
  · by_cases hroom : n + s.size ≤ cap
    · have hr2 := Go.Lib.run_append_room_string (P := P) w t u ty e i ht hu hi hsize g n cap cur hgg s hroom (by omega)
      rw [hr] at hr2
      cases hr2
      exact fun g' hg' => .inl hg'
    · have holds : ∀ j u, xs[j]? = some u → w.cell? ((⟨g, 0, none⟩ : Addr).add j) = some u := hown.cells (g := g) rfl
      have hr2 := Go.Lib.run_append_grow_string (P := P) w t u ty e i (.int .u8 0) ht hu hi hz ⟨g, 0, none⟩ n cap xs (by rw [hsize]; simpa using hxl) holds s (by omega) (by unfold maxLen at h63; omega) (by rw [hby]; exact growslice_fits (by omega) (by omega))
      rw [hr] at hr2
      cases hr2
      intro g' hg'
      simp [Value.ownBlock] at hg'
      exact .inr (by omega)

theorem wpList_append_string_ext {P : Program} (w : World) {ops : Array Oper} {rest : List Oper} {o : Oper} {a : Act} {Q : Exit → Act → World → Prop} (hgd : o.guard = none) (sl x : Operand) (t u : TypeId)
    (ho : o.op = .call { callee := .builtin .append, args := #[sl, x], argTypes := #[t, u] })
    (base : Nat) (e : TypeId) (i : TypeInfo) (ht : P.underlying t = some (.slice e)) (hu : P.underlying u = some .string) (hi : P.info? e = some i) (hz : i.zero = some (.int .u8 0))
    (hsize : i.size = 1) (hby : i.bytes = 1)
    (v : Value) (n : Nat) (xs : List Value) (hs : a.eval sl = v) (hown : w.ownsRow base e 1 v n xs) (s : ByteArray) (hx : a.eval x = .string s)
    (hbytes : n + s.size ≤ 140737488355328) (hbase : base ≤ w.heap.size)
    (h : ∀ v' w', w'.ownsRow base e 1 v' (n + s.size) (xs ++ Go.Lib.strCells s) → Ext w w' v v' → wpList P ops Q rest (a.put o.dst v') w') : wpList P ops Q (o :: rest) a w := by
  refine wpList_plain hgd fun K hK => ?_
  obtain ⟨v', w', hr, h2, h3⟩ := run_append_string_ext (P := P) (w := w) base t u o.type e i ht hu hi hz hsize hby v n xs hown s hbytes hbase
  unfold Oper.wp execOp
  simp only [ho, resolve, invoke, builtin, Sem.run_bind, Sem.run_pure, Result.andThen_ok, List.map_toArray, List.map_cons, List.map_nil, hs, hx, hr]
  exact hK _ _ (h v' w' h2 h3)

def Ascii (s : ByteArray) : Prop := ∀ i (h : i < s.size), (s[i]'h).toNat < 128

end Go.Proofs.YtldhafpeigdloaaGreatDoor
namespace Go.Proofs.YtldhafpeigdloaaGreatDoor
open Go.RowKit Crc
variable {K : Kd}

theorem Wr.alloc {base : Nat} {w : World} {p : Nat} {made : Bool} {place why most : Int} {L : List Nat} (h : Wr K base w p made place why most L) (o : Obj) : Wr K base (w.alloc o) p made place why most L := by
  obtain ⟨v, hb, hO, hne⟩ := h
  exact ⟨v, (Below.heap_alloc w o p (block_lt hb)).trans hb, hO.quiet (World.grownBy_alloc w o none), hne⟩

end Go.Proofs.YtldhafpeigdloaaGreatDoor
