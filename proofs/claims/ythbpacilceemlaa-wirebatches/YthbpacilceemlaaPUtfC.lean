import Derived.Test.YthbpacilceemlaaM10
import Derived.Test.YthbpacilceemlaaM11
namespace Go.Proofs.Ythbpacilceemlaa
open Go.RowKit Crc

theorem wr64_nat {n : Nat} (h : n < 9223372036854775808) : wrap64 (n : Int) = (n : Int) := by
  unfold wrap64
  omega
theorem utfC_succ (b : Nat → Nat) (j : Nat) : utfC b (j + 1) = true ↔ utfC b j = true ∧ 128 ≤ b (j + 1) ∧ b (j + 1) < 192 := by simp [utfC]
theorem utfC_mono (b : Nat → Nat) : ∀ {k j : Nat}, utfC b k = true → j ≤ k → utfC b j = true
  | 0, j, h, hj => by obtain rfl : j = 0 := by omega
                      exact h
  | k + 1, j, h, hj => by
    by_cases e : j = k + 1
    · subst e; exact h
    · exact utfC_mono b ((utfC_succ b k).1 h).1 (by omega)
theorem utfB_at (s : ByteArray) (pos j : Nat) (h : pos + j < s.size) : (s[pos + j]'h).toNat = utfB s pos j := by
  unfold utfB
  have e : s.get! (pos + j) = s[pos + j]'h := by
    simp [ByteArray.get!, getElem!_pos, h]
    rfl
  rw [e]
theorem utfK_short {n k v0 least : Nat} {b : Nat → Nat} (h : n ≤ k) : utfK n k v0 least b = 0 := by rw [utfK_eq, if_pos h]
theorem utfK_cont {n k v0 least : Nat} {b : Nat → Nat} (h : ¬ utfC b k = true) : utfK n k v0 least b = 0 := by
  rw [utfK_eq, if_neg h]
  split <;> rfl
theorem utfK_bad {n k v0 least : Nat} {b : Nat → Nat} (h : utfBad (utfV v0 b k) least) : utfK n k v0 least b = 0 := by
  rw [utfK_eq, if_pos h]
  split
  · rfl
  · split <;> rfl
theorem utfK_good {n k v0 least : Nat} {b : Nat → Nat} (h1 : ¬ n ≤ k) (h2 : utfC b k = true) (h3 : ¬ utfBad (utfV v0 b k) least) : utfK n k v0 least b = k + 1 := by rw [utfK_eq, if_neg h1, if_pos h2, if_neg h3]

set_option maxRecDepth 10000 in
set_option maxHeartbeats 1600000 in
theorem utf8_any (s : ByteArray) (w : World) (hs47 : s.size ≤ 140737488355328) :
    Calls Try.prog 96 #[.string s] w fun e w' => e = .returned (.bool (utf8Ok s)) ∧ w' = w := by
  obtain ⟨R, hR⟩ : ∃ R, R = utf8Ok s := ⟨_, rfl⟩
  rw [← hR]
  have HRR := hide hR
  clear hR
  have hs : (s.size : Int) ≤ 140737488355328 := by omega
  go_enter Try.func96, Try.ntmps96
  go_wp2
  go_loop [3] (fun i => ∃ pos : Nat, pos ≤ s.size ∧ i = .int .i64 pos ∧ Hid (UtfAt s pos)) (fun i => s.size - (intOf i).toNat)
  case atStart => exact ⟨0, Nat.zero_le _, rfl, UtfAt.start s⟩
  case round =>
    obtain ⟨pos, hpl, rfl, HU⟩ := hrel
    by_cases hp : pos < s.size
    · have hx0 : (s[pos]'hp).toNat = utfB s pos 0 := utfB_at s pos 0 hp
      have hc256 := utfB_lt s pos 0
      have HFB := hide (fun (h : utfW s pos = 0) => HU.out.bad hp h)
      have HFN := hide (fun (h : utfW s pos ≠ 0) => HU.out.next hp h)
      have HWW : Hid (utfW s pos = utfN (s.size - pos) (utfB s pos)) := rfl
      have HBJ := hide (fun j h => utfB_at s pos j h)
      obtain ⟨b, hb⟩ : ∃ b, b = utfB s pos := ⟨_, rfl⟩
      rw [← hb] at hx0 hc256 HWW HBJ
      have HBL : Hid (∀ j, b j < 256) := by rw [hb]; exact utfB_lt s pos
      obtain ⟨c, hc⟩ : ∃ c, c = b 0 := ⟨_, rfl⟩
      rw [← hc] at hx0 hc256
      have HC := hide hc
      have hwc : wrap64 (c : Int) = (c : Int) := wr64_nat (by omega)
      clear hb hc HU
      by_cases k1 : c < 128
      · have d1 : (c : Int) < 128 := by omega
        have HN : Hid (UtfAt s (pos + 1)) := by
          have h1 : utfW s pos = 1 := HWW.out.trans (utfN1 (by rw [← HC.out]; exact k1))
          have h2 := HFN.out (fun h => by have := h1.symm.trans h; cases this)
          rewrite [h1] at h2
          exact h2
        clear k1 HFB HFN HWW HBJ
        go_wp2
        go_round
        case rel => exact ⟨pos + 1, by omega, by go_num, HN⟩
        case measure => simp [intOf]; omega
      · have d1 : decide ((c : Int) < 128) = false := by simp; omega
        have d1' : decide (c < 128) = false := by simp; omega
        by_cases kk : 192 ≤ c ∧ c < 224
        · have HKK : Hid (utfW s pos = utfK (s.size - pos) 1 (c - 192) 128 b) := by
            have h1 := HWW.out.trans (utfN2 (by rw [← HC.out]; exact kk))
            rewrite [← HC.out] at h1
            exact h1
          obtain ⟨v0, hv0⟩ : ∃ v0, v0 = c - 192 := ⟨_, rfl⟩
          rw [← hv0] at HKK
          have hcv : (c : Int) - 192 = (v0 : Int) := by omega
          have hv32 : v0 < 32 := by omega
          have e1 : decide ((192 : Int) ≤ (c : Int)) = true := by simp; omega
          have e1' : decide (192 ≤ c) = true := by simp; omega
          have e2 : decide ((c : Int) < 224) = true := by simp; omega
          have e2' : decide (c < 224) = true := by simp; omega
          clear kk hv0 HWW
          by_cases hsh : s.size - pos ≤ 1
          · have HF := hide (HFB.out (HKK.out.trans (utfK_short hsh)))
            have hge : (s.size : Int) ≤ (pos : Int) + 1 := by omega
            have hge' : decide (s.size ≤ pos + 1) = true := by simp; omega
            clear HFB HFN HKK HBJ hsh
            go_wp2
            go_ret
            exact ⟨by rewrite [HRR.out, HF.out]; rfl, rfl⟩
          · have hlt : (pos : Int) + 1 < (s.size : Int) := by omega
            have hlt' : decide (s.size ≤ pos + 1) = false := by simp; omega
            have HSH := hide hsh
            clear hsh
            go_wp2
            go_loop [6, 8] (fun v j => ∃ m V : Nat, m ≤ 1 ∧ j = .int .i64 ((m + 1 : Nat) : Int) ∧ v = .int .i64 V ∧ V < 16777216 ∧ Hid (V = utfV v0 b m ∧ utfC b m = true ∧ V < 32 * 64 ^ m)) (fun _ j => 3 - (intOf j).toNat)
            case atStart => exact ⟨0, v0, by omega, rfl, rfl, by omega, rfl, rfl, by simpa using hv32⟩
            case round =>
              obtain ⟨m, V, hm, rfl, rfl, hV, HV⟩ := hrel
              obtain ⟨j, hj⟩ : ∃ j, j = m + 1 := ⟨_, rfl⟩
              rw [← hj]
              have HJ := hide hj
              by_cases hjk : m < 1
              · have hjle : (j : Int) ≤ 1 := by omega
                have hEs : pos + j < s.size := by omega
                have hEi : (pos : Int) + (j : Int) < (s.size : Int) := by omega
                have hEi0 : (0 : Int) ≤ (pos : Int) + (j : Int) := by omega
                have hxe : (s[pos + j]'hEs).toNat = b j := HBJ.out j hEs
                have hd256 := HBL.out j
                obtain ⟨dd, hdd⟩ : ∃ dd, dd = b j := ⟨_, rfl⟩
                rw [← hdd] at hxe hd256
                have HDD := hide hdd
                have hwd : wrap64 (dd : Int) = (dd : Int) := wr64_nat (by omega)
                clear hj hdd hx0 hcv hwc d1 d1' hc256 hv32 HBL k1 hlt' e1 e1' e2 e2' hlt hp hpl
                by_cases hcc : 128 ≤ dd ∧ dd < 192
                · have q1 : decide ((dd : Int) < 128) = false := by simp; omega
                  have q1' : decide (dd < 128) = false := by simp; omega
                  have q2 : decide ((192 : Int) ≤ (dd : Int)) = false := by simp; omega
                  have q2' : decide (192 ≤ dd) = false := by simp; omega
                  obtain ⟨V', hV'⟩ : ∃ V', V' = V * 64 + dd - 128 := ⟨_, rfl⟩
                  have hv' : (V : Int) * 64 + (dd : Int) - 128 = (V' : Int) := by omega
                  have HV2 : Hid (V' = utfV v0 b (m + 1) ∧ utfC b (m + 1) = true ∧ V' < 32 * 64 ^ (m + 1)) := by
                    have h1 := HV.out
                    have h2 := HDD.out
                    have h3 := HJ.out
                    refine ⟨?_, (utfC_succ b m).2 ⟨h1.2.1, ?_⟩, ?_⟩
                    · rw [hV', h1.1, h2, h3]; rfl
                    · rw [← h3, ← h2]; exact hcc
                    · have h4 : V + 1 ≤ 32 * 64 ^ m := h1.2.2
                      rw [Nat.pow_succ]
                      omega
                  have hVb : V' < 16777216 := by
                    have h1 := HV2.out.2.2
                    have h2 : 64 ^ (m + 1) ≤ 64 ^ 3 := Nat.pow_le_pow_right (by omega) (by omega)
                    omega
                  clear hcc hV' HV
                  go_wp2
                  go_round
                  case rel => exact ⟨m + 1, V', by omega, by have := HJ.out; go_num, rfl, hVb, HV2⟩
                  case measure => have := HJ.out; simp [intOf]; omega
                · have HF := hide (HFB.out (by
                    refine HKK.out.trans (utfK_cont (fun h => hcc ?_))
                    have h1 := ((utfC_succ b m).1 (utfC_mono b h (show m + 1 ≤ 1 by omega))).2
                    rewrite [HDD.out, HJ.out]
                    exact h1))
                  have HO : Hid (decide ((dd : Int) < 128) = true ∨ decide ((dd : Int) < 128) = false ∧ decide ((192 : Int) ≤ (dd : Int)) = true) := by
                    show _ ∨ _
                    by_cases h : dd < 128
                    · exact .inl (by simp; omega)
                    · exact .inr ⟨by simp; omega, by simp; omega⟩
                  clear HFB HFN HKK HBJ HV hcc
                  rcases HO.out with q1 | ⟨q1, q2⟩
                  all_goals
                    have q1' := q1
                    go_wp2
                    go_ret
                    exact ⟨by rewrite [HRR.out, HF.out]; rfl, rfl⟩
              · obtain rfl : m = 1 := by omega
                subst hj
                have hVV := HV.out.1
                by_cases hbad : utfBad V 128
                · have HF := hide (HFB.out (HKK.out.trans (utfK_bad (by rewrite [← hVV]; exact hbad))))
                  unfold utfBad at hbad
                  have HO : Hid (decide ((V : Int) < 128) = true ∨ decide ((V : Int) < 128) = false ∧ (decide ((1114111 : Int) < (V : Int)) = true ∨ decide ((1114111 : Int) < (V : Int)) = false ∧ decide ((55296 : Int) ≤ (V : Int)) = true ∧ decide ((V : Int) < 57344) = true)) := by
                    show _ ∨ _
                    by_cases h : V < 128
                    · exact .inl (by simp; omega)
                    · refine .inr ⟨by simp; omega, ?_⟩
                      by_cases h2 : 1114111 < V
                      · exact .inl (by simp; omega)
                      · exact .inr ⟨by simp; omega, by simp; omega, by simp; omega⟩
                  clear HFB HFN HKK HBJ HV hbad hVV
                  rcases HO.out with q1 | ⟨q1, q2 | ⟨q2, q3, q4⟩⟩
                  all_goals
                    go_wp2
                    go_ret
                    exact ⟨by rewrite [HRR.out, HF.out]; rfl, rfl⟩
                · have HN : Hid (UtfAt s (pos + 2)) := by
                    have h1 : utfW s pos = 1 + 1 := HKK.out.trans (utfK_good HSH.out HV.out.2.1 (by rewrite [← hVV]; exact hbad))
                    have h2 := HFN.out (fun h => by have := h1.symm.trans h; cases this)
                    rewrite [h1] at h2
                    exact h2
                  unfold utfBad at hbad
                  have q1 : decide ((V : Int) < 128) = false := by simp; omega
                  have q2 : decide ((1114111 : Int) < (V : Int)) = false := by simp; omega
                  have HO : Hid (decide ((55296 : Int) ≤ (V : Int)) = false ∨ decide ((55296 : Int) ≤ (V : Int)) = true ∧ decide ((V : Int) < 57344) = false) := by
                    show _ ∨ _
                    by_cases h : 55296 ≤ V
                    · exact .inr ⟨by simp; omega, by simp; omega⟩
                    · exact .inl (by simp; omega)
                  have hle : pos + 2 ≤ s.size := by have := HSH.out; omega
                  clear HFB HFN HKK HBJ HV hbad hVV
                  rcases HO.out with q3 | ⟨q3, q4⟩
                  all_goals
                    go_wp2
                    go_round
                    case rel => exact ⟨pos + 2, hle, by go_num, HN⟩
                    case measure => simp [intOf]; omega
        · have HK2 := hide kk
          clear kk
          by_cases kk : 224 ≤ c ∧ c < 240
          · have HKK : Hid (utfW s pos = utfK (s.size - pos) 2 (c - 224) 2048 b) := by
              have h1 := HWW.out.trans (utfN3 (by rw [← HC.out]; exact kk))
              rewrite [← HC.out] at h1
              exact h1
            obtain ⟨v0, hv0⟩ : ∃ v0, v0 = c - 224 := ⟨_, rfl⟩
            rw [← hv0] at HKK
            have hcv : (c : Int) - 224 = (v0 : Int) := by omega
            have hv32 : v0 < 32 := by omega
            have e1 : decide ((192 : Int) ≤ (c : Int)) = true := by simp; omega
            have e1' : decide (192 ≤ c) = true := by simp; omega
            have e2 : decide ((c : Int) < 224) = false := by simp; omega
            have e2' : decide (c < 224) = false := by simp; omega
            have e3 : decide ((224 : Int) ≤ (c : Int)) = true := by simp; omega
            have e3' : decide (224 ≤ c) = true := by simp; omega
            have e4 : decide ((c : Int) < 240) = true := by simp; omega
            have e4' : decide (c < 240) = true := by simp; omega
            clear kk hv0 HWW
            by_cases hsh : s.size - pos ≤ 2
            · have HF := hide (HFB.out (HKK.out.trans (utfK_short hsh)))
              have hge : (s.size : Int) ≤ (pos : Int) + 2 := by omega
              have hge' : decide (s.size ≤ pos + 2) = true := by simp; omega
              clear HFB HFN HKK HBJ hsh
              go_wp2
              go_ret
              exact ⟨by rewrite [HRR.out, HF.out]; rfl, rfl⟩
            · have hlt : (pos : Int) + 2 < (s.size : Int) := by omega
              have hlt' : decide (s.size ≤ pos + 2) = false := by simp; omega
              have HSH := hide hsh
              clear hsh
              go_wp2
              go_loop [6, 8] (fun v j => ∃ m V : Nat, m ≤ 2 ∧ j = .int .i64 ((m + 1 : Nat) : Int) ∧ v = .int .i64 V ∧ V < 16777216 ∧ Hid (V = utfV v0 b m ∧ utfC b m = true ∧ V < 32 * 64 ^ m)) (fun _ j => 4 - (intOf j).toNat)
              case atStart => exact ⟨0, v0, by omega, rfl, rfl, by omega, rfl, rfl, by simpa using hv32⟩
              case round =>
                obtain ⟨m, V, hm, rfl, rfl, hV, HV⟩ := hrel
                obtain ⟨j, hj⟩ : ∃ j, j = m + 1 := ⟨_, rfl⟩
                rw [← hj]
                have HJ := hide hj
                by_cases hjk : m < 2
                · have hjle : (j : Int) ≤ 2 := by omega
                  have hEs : pos + j < s.size := by omega
                  have hEi : (pos : Int) + (j : Int) < (s.size : Int) := by omega
                  have hEi0 : (0 : Int) ≤ (pos : Int) + (j : Int) := by omega
                  have hxe : (s[pos + j]'hEs).toNat = b j := HBJ.out j hEs
                  have hd256 := HBL.out j
                  obtain ⟨dd, hdd⟩ : ∃ dd, dd = b j := ⟨_, rfl⟩
                  rw [← hdd] at hxe hd256
                  have HDD := hide hdd
                  have hwd : wrap64 (dd : Int) = (dd : Int) := wr64_nat (by omega)
                  clear hj hdd hx0 hcv hwc d1 d1' hc256 hv32 HBL k1 hlt' e1 e1' e2 e2' e3 e3' e4 e4' hlt hp hpl
                  by_cases hcc : 128 ≤ dd ∧ dd < 192
                  · have q1 : decide ((dd : Int) < 128) = false := by simp; omega
                    have q1' : decide (dd < 128) = false := by simp; omega
                    have q2 : decide ((192 : Int) ≤ (dd : Int)) = false := by simp; omega
                    have q2' : decide (192 ≤ dd) = false := by simp; omega
                    obtain ⟨V', hV'⟩ : ∃ V', V' = V * 64 + dd - 128 := ⟨_, rfl⟩
                    have hv' : (V : Int) * 64 + (dd : Int) - 128 = (V' : Int) := by omega
                    have HV2 : Hid (V' = utfV v0 b (m + 1) ∧ utfC b (m + 1) = true ∧ V' < 32 * 64 ^ (m + 1)) := by
                      have h1 := HV.out
                      have h2 := HDD.out
                      have h3 := HJ.out
                      refine ⟨?_, (utfC_succ b m).2 ⟨h1.2.1, ?_⟩, ?_⟩
                      · rw [hV', h1.1, h2, h3]; rfl
                      · rw [← h3, ← h2]; exact hcc
                      · have h4 : V + 1 ≤ 32 * 64 ^ m := h1.2.2
                        rw [Nat.pow_succ]
                        omega
                    have hVb : V' < 16777216 := by
                      have h1 := HV2.out.2.2
                      have h2 : 64 ^ (m + 1) ≤ 64 ^ 3 := Nat.pow_le_pow_right (by omega) (by omega)
                      omega
                    clear hcc hV' HV
                    go_wp2
                    go_round
                    case rel => exact ⟨m + 1, V', by omega, by have := HJ.out; go_num, rfl, hVb, HV2⟩
                    case measure => have := HJ.out; simp [intOf]; omega
                  · have HF := hide (HFB.out (by
                      refine HKK.out.trans (utfK_cont (fun h => hcc ?_))
                      have h1 := ((utfC_succ b m).1 (utfC_mono b h (show m + 1 ≤ 2 by omega))).2
                      rewrite [HDD.out, HJ.out]
                      exact h1))
                    have HO : Hid (decide ((dd : Int) < 128) = true ∨ decide ((dd : Int) < 128) = false ∧ decide ((192 : Int) ≤ (dd : Int)) = true) := by
                      show _ ∨ _
                      by_cases h : dd < 128
                      · exact .inl (by simp; omega)
                      · exact .inr ⟨by simp; omega, by simp; omega⟩
                    clear HFB HFN HKK HBJ HV hcc
                    rcases HO.out with q1 | ⟨q1, q2⟩
                    all_goals
                      have q1' := q1
                      go_wp2
                      go_ret
                      exact ⟨by rewrite [HRR.out, HF.out]; rfl, rfl⟩
                · obtain rfl : m = 2 := by omega
                  subst hj
                  have hVV := HV.out.1
                  by_cases hbad : utfBad V 2048
                  · have HF := hide (HFB.out (HKK.out.trans (utfK_bad (by rewrite [← hVV]; exact hbad))))
                    unfold utfBad at hbad
                    have HO : Hid (decide ((V : Int) < 2048) = true ∨ decide ((V : Int) < 2048) = false ∧ (decide ((1114111 : Int) < (V : Int)) = true ∨ decide ((1114111 : Int) < (V : Int)) = false ∧ decide ((55296 : Int) ≤ (V : Int)) = true ∧ decide ((V : Int) < 57344) = true)) := by
                      show _ ∨ _
                      by_cases h : V < 2048
                      · exact .inl (by simp; omega)
                      · refine .inr ⟨by simp; omega, ?_⟩
                        by_cases h2 : 1114111 < V
                        · exact .inl (by simp; omega)
                        · exact .inr ⟨by simp; omega, by simp; omega, by simp; omega⟩
                    clear HFB HFN HKK HBJ HV hbad hVV
                    rcases HO.out with q1 | ⟨q1, q2 | ⟨q2, q3, q4⟩⟩
                    all_goals
                      go_wp2
                      go_ret
                      exact ⟨by rewrite [HRR.out, HF.out]; rfl, rfl⟩
                  · have HN : Hid (UtfAt s (pos + 3)) := by
                      have h1 : utfW s pos = 2 + 1 := HKK.out.trans (utfK_good HSH.out HV.out.2.1 (by rewrite [← hVV]; exact hbad))
                      have h2 := HFN.out (fun h => by have := h1.symm.trans h; cases this)
                      rewrite [h1] at h2
                      exact h2
                    unfold utfBad at hbad
                    have q1 : decide ((V : Int) < 2048) = false := by simp; omega
                    have q2 : decide ((1114111 : Int) < (V : Int)) = false := by simp; omega
                    have HO : Hid (decide ((55296 : Int) ≤ (V : Int)) = false ∨ decide ((55296 : Int) ≤ (V : Int)) = true ∧ decide ((V : Int) < 57344) = false) := by
                      show _ ∨ _
                      by_cases h : 55296 ≤ V
                      · exact .inr ⟨by simp; omega, by simp; omega⟩
                      · exact .inl (by simp; omega)
                    have hle : pos + 3 ≤ s.size := by have := HSH.out; omega
                    clear HFB HFN HKK HBJ HV hbad hVV
                    rcases HO.out with q3 | ⟨q3, q4⟩
                    all_goals
                      go_wp2
                      go_round
                      case rel => exact ⟨pos + 3, hle, by go_num, HN⟩
                      case measure => simp [intOf]; omega
          · have HK3 := hide kk
            clear kk
            by_cases kk : 240 ≤ c ∧ c < 248
            · have HKK : Hid (utfW s pos = utfK (s.size - pos) 3 (c - 240) 65536 b) := by
                have h1 := HWW.out.trans (utfN4 (by rw [← HC.out]; exact kk))
                rewrite [← HC.out] at h1
                exact h1
              obtain ⟨v0, hv0⟩ : ∃ v0, v0 = c - 240 := ⟨_, rfl⟩
              rw [← hv0] at HKK
              have hcv : (c : Int) - 240 = (v0 : Int) := by omega
              have hv32 : v0 < 32 := by omega
              have e1 : decide ((192 : Int) ≤ (c : Int)) = true := by simp; omega
              have e1' : decide (192 ≤ c) = true := by simp; omega
              have e2 : decide ((c : Int) < 224) = false := by simp; omega
              have e2' : decide (c < 224) = false := by simp; omega
              have e3 : decide ((224 : Int) ≤ (c : Int)) = true := by simp; omega
              have e3' : decide (224 ≤ c) = true := by simp; omega
              have e4 : decide ((c : Int) < 240) = false := by simp; omega
              have e4' : decide (c < 240) = false := by simp; omega
              have e5 : decide ((240 : Int) ≤ (c : Int)) = true := by simp; omega
              have e5' : decide (240 ≤ c) = true := by simp; omega
              have e6 : decide ((c : Int) < 248) = true := by simp; omega
              have e6' : decide (c < 248) = true := by simp; omega
              clear kk hv0 HWW
              by_cases hsh : s.size - pos ≤ 3
              · have HF := hide (HFB.out (HKK.out.trans (utfK_short hsh)))
                have hge : (s.size : Int) ≤ (pos : Int) + 3 := by omega
                have hge' : decide (s.size ≤ pos + 3) = true := by simp; omega
                clear HFB HFN HKK HBJ hsh
                go_wp2
                go_ret
                exact ⟨by rewrite [HRR.out, HF.out]; rfl, rfl⟩
              · have hlt : (pos : Int) + 3 < (s.size : Int) := by omega
                have hlt' : decide (s.size ≤ pos + 3) = false := by simp; omega
                have HSH := hide hsh
                clear hsh
                go_wp2
                go_loop [6, 8] (fun v j => ∃ m V : Nat, m ≤ 3 ∧ j = .int .i64 ((m + 1 : Nat) : Int) ∧ v = .int .i64 V ∧ V < 16777216 ∧ Hid (V = utfV v0 b m ∧ utfC b m = true ∧ V < 32 * 64 ^ m)) (fun _ j => 5 - (intOf j).toNat)
                case atStart => exact ⟨0, v0, by omega, rfl, rfl, by omega, rfl, rfl, by simpa using hv32⟩
                case round =>
                  obtain ⟨m, V, hm, rfl, rfl, hV, HV⟩ := hrel
                  obtain ⟨j, hj⟩ : ∃ j, j = m + 1 := ⟨_, rfl⟩
                  rw [← hj]
                  have HJ := hide hj
                  by_cases hjk : m < 3
                  · have hjle : (j : Int) ≤ 3 := by omega
                    have hEs : pos + j < s.size := by omega
                    have hEi : (pos : Int) + (j : Int) < (s.size : Int) := by omega
                    have hEi0 : (0 : Int) ≤ (pos : Int) + (j : Int) := by omega
                    have hxe : (s[pos + j]'hEs).toNat = b j := HBJ.out j hEs
                    have hd256 := HBL.out j
                    obtain ⟨dd, hdd⟩ : ∃ dd, dd = b j := ⟨_, rfl⟩
                    rw [← hdd] at hxe hd256
                    have HDD := hide hdd
                    have hwd : wrap64 (dd : Int) = (dd : Int) := wr64_nat (by omega)
                    clear hj hdd hx0 hcv hwc d1 d1' hc256 hv32 HBL k1 hlt' e1 e1' e2 e2' e3 e3' e4 e4' e5 e5' e6 e6' hlt hp hpl
                    by_cases hcc : 128 ≤ dd ∧ dd < 192
                    · have q1 : decide ((dd : Int) < 128) = false := by simp; omega
                      have q1' : decide (dd < 128) = false := by simp; omega
                      have q2 : decide ((192 : Int) ≤ (dd : Int)) = false := by simp; omega
                      have q2' : decide (192 ≤ dd) = false := by simp; omega
                      obtain ⟨V', hV'⟩ : ∃ V', V' = V * 64 + dd - 128 := ⟨_, rfl⟩
                      have hv' : (V : Int) * 64 + (dd : Int) - 128 = (V' : Int) := by omega
                      have HV2 : Hid (V' = utfV v0 b (m + 1) ∧ utfC b (m + 1) = true ∧ V' < 32 * 64 ^ (m + 1)) := by
                        have h1 := HV.out
                        have h2 := HDD.out
                        have h3 := HJ.out
                        refine ⟨?_, (utfC_succ b m).2 ⟨h1.2.1, ?_⟩, ?_⟩
                        · rw [hV', h1.1, h2, h3]; rfl
                        · rw [← h3, ← h2]; exact hcc
                        · have h4 : V + 1 ≤ 32 * 64 ^ m := h1.2.2
                          rw [Nat.pow_succ]
                          omega
                      have hVb : V' < 16777216 := by
                        have h1 := HV2.out.2.2
                        have h2 : 64 ^ (m + 1) ≤ 64 ^ 3 := Nat.pow_le_pow_right (by omega) (by omega)
                        omega
                      clear hcc hV' HV
                      go_wp2
                      go_round
                      case rel => exact ⟨m + 1, V', by omega, by have := HJ.out; go_num, rfl, hVb, HV2⟩
                      case measure => have := HJ.out; simp [intOf]; omega
                    · have HF := hide (HFB.out (by
                        refine HKK.out.trans (utfK_cont (fun h => hcc ?_))
                        have h1 := ((utfC_succ b m).1 (utfC_mono b h (show m + 1 ≤ 3 by omega))).2
                        rewrite [HDD.out, HJ.out]
                        exact h1))
                      have HO : Hid (decide ((dd : Int) < 128) = true ∨ decide ((dd : Int) < 128) = false ∧ decide ((192 : Int) ≤ (dd : Int)) = true) := by
                        show _ ∨ _
                        by_cases h : dd < 128
                        · exact .inl (by simp; omega)
                        · exact .inr ⟨by simp; omega, by simp; omega⟩
                      clear HFB HFN HKK HBJ HV hcc
                      rcases HO.out with q1 | ⟨q1, q2⟩
                      all_goals
                        have q1' := q1
                        go_wp2
                        go_ret
                        exact ⟨by rewrite [HRR.out, HF.out]; rfl, rfl⟩
                  · obtain rfl : m = 3 := by omega
                    subst hj
                    have hVV := HV.out.1
                    by_cases hbad : utfBad V 65536
                    · have HF := hide (HFB.out (HKK.out.trans (utfK_bad (by rewrite [← hVV]; exact hbad))))
                      unfold utfBad at hbad
                      have HO : Hid (decide ((V : Int) < 65536) = true ∨ decide ((V : Int) < 65536) = false ∧ (decide ((1114111 : Int) < (V : Int)) = true ∨ decide ((1114111 : Int) < (V : Int)) = false ∧ decide ((55296 : Int) ≤ (V : Int)) = true ∧ decide ((V : Int) < 57344) = true)) := by
                        show _ ∨ _
                        by_cases h : V < 65536
                        · exact .inl (by simp; omega)
                        · refine .inr ⟨by simp; omega, ?_⟩
                          by_cases h2 : 1114111 < V
                          · exact .inl (by simp; omega)
                          · exact .inr ⟨by simp; omega, by simp; omega, by simp; omega⟩
                      clear HFB HFN HKK HBJ HV hbad hVV
                      rcases HO.out with q1 | ⟨q1, q2 | ⟨q2, q3, q4⟩⟩
                      all_goals
                        go_wp2
                        go_ret
                        exact ⟨by rewrite [HRR.out, HF.out]; rfl, rfl⟩
                    · have HN : Hid (UtfAt s (pos + 4)) := by
                        have h1 : utfW s pos = 3 + 1 := HKK.out.trans (utfK_good HSH.out HV.out.2.1 (by rewrite [← hVV]; exact hbad))
                        have h2 := HFN.out (fun h => by have := h1.symm.trans h; cases this)
                        rewrite [h1] at h2
                        exact h2
                      unfold utfBad at hbad
                      have q1 : decide ((V : Int) < 65536) = false := by simp; omega
                      have q2 : decide ((1114111 : Int) < (V : Int)) = false := by simp; omega
                      have HO : Hid (decide ((55296 : Int) ≤ (V : Int)) = false ∨ decide ((55296 : Int) ≤ (V : Int)) = true ∧ decide ((V : Int) < 57344) = false) := by
                        show _ ∨ _
                        by_cases h : 55296 ≤ V
                        · exact .inr ⟨by simp; omega, by simp; omega⟩
                        · exact .inl (by simp; omega)
                      have hle : pos + 4 ≤ s.size := by have := HSH.out; omega
                      clear HFB HFN HKK HBJ HV hbad hVV
                      rcases HO.out with q3 | ⟨q3, q4⟩
                      all_goals
                        go_wp2
                        go_round
                        case rel => exact ⟨pos + 4, hle, by go_num, HN⟩
                        case measure => simp [intOf]; omega
            · have h2 := HK2.out
              have h3 := HK3.out
              have HF := hide (HFB.out (HWW.out.trans (utfN0 (by rw [← HC.out]; exact k1) (by rw [← HC.out]; omega))))
              clear HFB HFN HWW HBJ HBL
              by_cases k5 : c < 192
              · have e1 : decide ((192 : Int) ≤ (c : Int)) = false := by simp; omega
                have e1' : decide (192 ≤ c) = false := by simp; omega
                have e3 : decide ((224 : Int) ≤ (c : Int)) = false := by simp; omega
                have e3' : decide (224 ≤ c) = false := by simp; omega
                have e5 : decide ((240 : Int) ≤ (c : Int)) = false := by simp; omega
                have e5' : decide (240 ≤ c) = false := by simp; omega
                clear k5 kk h2 h3 k1
                go_wp2
                go_ret
                exact ⟨by rewrite [HRR.out, HF.out]; rfl, rfl⟩
              · have e1 : decide ((192 : Int) ≤ (c : Int)) = true := by simp; omega
                have e1' : decide (192 ≤ c) = true := by simp; omega
                have e2 : decide ((c : Int) < 224) = false := by simp; omega
                have e2' : decide (c < 224) = false := by simp; omega
                have e3 : decide ((224 : Int) ≤ (c : Int)) = true := by simp; omega
                have e3' : decide (224 ≤ c) = true := by simp; omega
                have e4 : decide ((c : Int) < 240) = false := by simp; omega
                have e4' : decide (c < 240) = false := by simp; omega
                have e5 : decide ((240 : Int) ≤ (c : Int)) = true := by simp; omega
                have e5' : decide (240 ≤ c) = true := by simp; omega
                have e6 : decide ((c : Int) < 248) = false := by simp; omega
                have e6' : decide (c < 248) = false := by simp; omega
                clear k5 kk h2 h3 k1
                go_wp2
                go_ret
                exact ⟨by rewrite [HRR.out, HF.out]; rfl, rfl⟩
    · have HF := hide (HU.out.done hp)
      clear HU
      go_wp2
      go_ret
      exact ⟨by rewrite [HRR.out, HF.out]; rfl, rfl⟩
end Go.Proofs.Ythbpacilceemlaa
