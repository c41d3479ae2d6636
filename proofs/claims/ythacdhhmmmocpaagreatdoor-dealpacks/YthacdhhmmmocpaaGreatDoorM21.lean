import Derived.Test.YthacdhhmmmocpaaGreatDoorM18
import Derived.Test.YthacdhhmmmocpaaGreatDoorPRefFix
import Derived.Test.YthacdhhmmmocpaaGreatDoorM17
import Derived.Test.YthacdhhmmmocpaaGreatDoorM13
namespace Go.Proofs.YthacdhhmmmocpaaGreatDoor
open Go.RowKit Crc

theorem wr64_nat {n : Nat} (h : n < 9223372036854775808) : wrap64 (n : Int) = (n : Int) := by
  unfold wrap64
  omega
theorem utfC_succ (b : Nat → Nat) (j : Nat) : utfC b (j + 1) = true ↔ utfC b j = true ∧ 128 ≤ b (j + 1) ∧ b (j + 1) < 192 := by simp [utfC]
theorem utfC_mono (b : Nat → Nat) : ∀ {k j : Nat}, utfC b k = true → j ≤ k → utfC b j = true
  | 0, j, h, hj => by obtain rfl : j = 0 := by omega
                      exact h
  | k + 1, j, h, hj => by
    by_cases e : j = k + 1
    · subst e; exact h
    · exact utfC_mono b ((utfC_succ b k).1 h).1 (by omega)
theorem utfB_at (s : ByteArray) (pos j : Nat) (h : pos + j < s.size) : (s[pos + j]'h).toNat = utfB s pos j := by
  unfold utfB
  have e : s.get! (pos + j) = s[pos + j]'h := by
    simp [ByteArray.get!, getElem!_pos, h]
    rfl
  rw [e]
theorem utfK_short {n k v0 least : Nat} {b : Nat → Nat} (h : n ≤ k) : utfK n k v0 least b = 0 := by rw [utfK_eq, if_pos h]
theorem utfK_cont {n k v0 least : Nat} {b : Nat → Nat} (h : ¬ utfC b k = true) : utfK n k v0 least b = 0 := by
  rw [utfK_eq, if_neg h]
  split <;> rfl
theorem utfK_bad {n k v0 least : Nat} {b : Nat → Nat} (h : utfBad (utfV v0 b k) least) : utfK n k v0 least b = 0 := by
  rw [utfK_eq, if_pos h]
  split
  · rfl
  · split <;> rfl
theorem utfK_good {n k v0 least : Nat} {b : Nat → Nat} (h1 : ¬ n ≤ k) (h2 : utfC b k = true) (h3 : ¬ utfBad (utfV v0 b k) least) : utfK n k v0 least b = k + 1 := by rw [utfK_eq, if_neg h1, if_pos h2, if_neg h3]

set_option maxRecDepth 10000 in
set_option maxHeartbeats 1600000 in
theorem utf8_any (s : ByteArray) (w : World) (hs47 : s.size ≤ 140737488355328) :
    Calls Tryz.prog 30 #[.string s] w fun e w' => e = .returned (.bool (utf8Ok s)) ∧ w' = w := by
  obtain ⟨R, hR⟩ : ∃ R, R = utf8Ok s := ⟨_, rfl⟩
  rw [← hR]
  have HRR := hide hR
  clear hR
  have hs : (s.size : Int) ≤ 140737488355328 := by omega
  go_enter Tryz.func30, Tryz.ntmps30
  go_wp2
  go_loop [3] (fun i => ∃ pos : Nat, pos ≤ s.size ∧ i = .int .i64 pos ∧ Hid (UtfAt s pos)) (fun i => s.size - (intOf i).toNat)
  case atStart => exact ⟨0, Nat.zero_le _, rfl, UtfAt.start s⟩
  case round =>
    obtain ⟨pos, hpl, rfl, HU⟩ := hrel
    by_cases hp : pos < s.size
    · have hx0 : (s[pos]'hp).toNat = utfB s pos 0 := utfB_at s pos 0 hp
      have hc256 := utfB_lt s pos 0
      have HFB := hide (fun (h : utfW s pos = 0) => HU.out.bad hp h)
      have HFN := hide (fun (h : utfW s pos ≠ 0) => HU.out.next hp h)
      have HWW : Hid (utfW s pos = utfN (s.size - pos) (utfB s pos)) := rfl
      have HBJ := hide (fun j h => utfB_at s pos j h)
      obtain ⟨b, hb⟩ : ∃ b, b = utfB s pos := ⟨_, rfl⟩
      rw [← hb] at hx0 hc256 HWW HBJ
      have HBL : Hid (∀ j, b j < 256) := by rw [hb]; exact utfB_lt s pos
      obtain ⟨c, hc⟩ : ∃ c, c = b 0 := ⟨_, rfl⟩
      rw [← hc] at hx0 hc256
      have HC := hide hc
      have hwc : wrap64 (c : Int) = (c : Int) := wr64_nat (by omega)
      clear hb hc HU
      by_cases k1 : c < 128
      · have d1 : (c : Int) < 128 := by omega
        have HN : Hid (UtfAt s (pos + 1)) := by
          have h1 : utfW s pos = 1 := HWW.out.trans (utfN1 (by rw [← HC.out]; exact k1))
          have h2 := HFN.out (fun h => by have := h1.symm.trans h; cases this)
          rewrite [h1] at h2
          exact h2
        clear k1 HFB HFN HWW HBJ
        go_wp2
        go_round
        case rel => exact ⟨pos + 1, by omega, by go_num, HN⟩
        case measure => simp [intOf]; omega
      · have d1 : decide ((c : Int) < 128) = false := by simp; omega
        have d1' : decide (c < 128) = false := by simp; omega
        by_cases kk : 192 ≤ c ∧ c < 224
        · have HKK : Hid (utfW s pos = utfK (s.size - pos) 1 (c - 192) 128 b) := by
            have h1 := HWW.out.trans (utfN2 (by rw [← HC.out]; exact kk))
            rewrite [← HC.out] at h1
            exact h1
          obtain ⟨v0, hv0⟩ : ∃ v0, v0 = c - 192 := ⟨_, rfl⟩
          rw [← hv0] at HKK
          have hcv : (c : Int) - 192 = (v0 : Int) := by omega
          have hv32 : v0 < 32 := by omega
          have e1 : decide ((192 : Int) ≤ (c : Int)) = true := by simp; omega
          have e1' : decide (192 ≤ c) = true := by simp; omega
          have e2 : decide ((c : Int) < 224) = true := by simp; omega
          have e2' : decide (c < 224) = true := by simp; omega
          clear kk hv0 HWW
          by_cases hsh : s.size - pos ≤ 1
          · have HF := hide (HFB.out (HKK.out.trans (utfK_short hsh)))
            have hge : (s.size : Int) ≤ (pos : Int) + 1 := by omega
            have hge' : decide (s.size ≤ pos + 1) = true := by simp; omega
            clear HFB HFN HKK HBJ hsh
            go_wp2
            go_ret
            exact ⟨by rewrite [HRR.out, HF.out]; rfl, rfl⟩
          · have hlt : (pos : Int) + 1 < (s.size : Int) := by omega
            have hlt' : decide (s.size ≤ pos + 1) = false := by simp; omega
            have HSH := hide hsh
            clear hsh
            go_wp2
            go_loop [6, 8] (fun v j => ∃ m V : Nat, m ≤ 1 ∧ j = .int .i64 ((m + 1 : Nat) : Int) ∧ v = .int .i64 V ∧ V < 16777216 ∧ Hid (V = utfV v0 b m ∧ utfC b m = true ∧ V < 32 * 64 ^ m)) (fun _ j => 3 - (intOf j).toNat)
            case atStart => exact ⟨0, v0, by omega, rfl, rfl, by omega, rfl, rfl, by simpa using hv32⟩
            case round =>
              obtain ⟨m, V, hm, rfl, rfl, hV, HV⟩ := hrel
              obtain ⟨j, hj⟩ : ∃ j, j = m + 1 := ⟨_, rfl⟩
              rw [← hj]
              have HJ := hide hj
              by_cases hjk : m < 1
              · have hjle : (j : Int) ≤ 1 := by omega
                have hEs : pos + j < s.size := by omega
                have hEi : (pos : Int) + (j : Int) < (s.size : Int) := by omega
                have hEi0 : (0 : Int) ≤ (pos : Int) + (j : Int) := by omega
                have hxe : (s[pos + j]'hEs).toNat = b j := HBJ.out j hEs
                have hd256 := HBL.out j
                obtain ⟨dd, hdd⟩ : ∃ dd, dd = b j := ⟨_, rfl⟩
                rw [← hdd] at hxe hd256
                have HDD := hide hdd
                have hwd : wrap64 (dd : Int) = (dd : Int) := wr64_nat (by omega)
                clear hj hdd hx0 hcv hwc d1 d1' hc256 hv32 HBL k1 hlt' e1 e1' e2 e2' hlt hp hpl
                by_cases hcc : 128 ≤ dd ∧ dd < 192
                · have q1 : decide ((dd : Int) < 128) = false := by simp; omega
                  have q1' : decide (dd < 128) = false := by simp; omega
                  have q2 : decide ((192 : Int) ≤ (dd : Int)) = false := by simp; omega
                  have q2' : decide (192 ≤ dd) = false := by simp; omega
                  obtain ⟨V', hV'⟩ : ∃ V', V' = V * 64 + dd - 128 := ⟨_, rfl⟩
                  have hv' : (V : Int) * 64 + (dd : Int) - 128 = (V' : Int) := by omega
                  have HV2 : Hid (V' = utfV v0 b (m + 1) ∧ utfC b (m + 1) = true ∧ V' < 32 * 64 ^ (m + 1)) := by
                    have h1 := HV.out
                    have h2 := HDD.out
                    have h3 := HJ.out
                    refine ⟨?_, (utfC_succ b m).2 ⟨h1.2.1, ?_⟩, ?_⟩
                    · rw [hV', h1.1, h2, h3]; rfl
                    · rw [← h3, ← h2]; exact hcc
                    · have h4 : V + 1 ≤ 32 * 64 ^ m := h1.2.2
                      rw [Nat.pow_succ]
                      omega
                  have hVb : V' < 16777216 := by
                    have h1 := HV2.out.2.2
                    have h2 : 64 ^ (m + 1) ≤ 64 ^ 3 := Nat.pow_le_pow_right (by omega) (by omega)
                    omega
                  clear hcc hV' HV
                  go_wp2
                  go_round
                  case rel => exact ⟨m + 1, V', by omega, by have := HJ.out; go_num, rfl, hVb, HV2⟩
                  case measure => have := HJ.out; simp [intOf]; omega
                · have HF := hide (HFB.out (by
                    refine HKK.out.trans (utfK_cont (fun h => hcc ?_))
                    have h1 := ((utfC_succ b m).1 (utfC_mono b h (show m + 1 ≤ 1 by omega))).2
                    rewrite [HDD.out, HJ.out]
                    exact h1))
                  have HO : Hid (decide ((dd : Int) < 128) = true ∨ decide ((dd : Int) < 128) = false ∧ decide ((192 : Int) ≤ (dd : Int)) = true) := by
                    show _ ∨ _
                    by_cases h : dd < 128
                    · exact .inl (by simp; omega)
                    · exact .inr ⟨by simp; omega, by simp; omega⟩
                  clear HFB HFN HKK HBJ HV hcc
                  rcases HO.out with q1 | ⟨q1, q2⟩
                  all_goals
                    have q1' := q1
                    go_wp2
                    go_ret
                    exact ⟨by rewrite [HRR.out, HF.out]; rfl, rfl⟩
              · obtain rfl : m = 1 := by omega
                subst hj
                have hVV := HV.out.1
                by_cases hbad : utfBad V 128
                · have HF := hide (HFB.out (HKK.out.trans (utfK_bad (by rewrite [← hVV]; exact hbad))))
                  unfold utfBad at hbad
                  have HO : Hid (decide ((V : Int) < 128) = true ∨ decide ((V : Int) < 128) = false ∧ (decide ((1114111 : Int) < (V : Int)) = true ∨ decide ((1114111 : Int) < (V : Int)) = false ∧ decide ((55296 : Int) ≤ (V : Int)) = true ∧ decide ((V : Int) < 57344) = true)) := by
                    show _ ∨ _
                    by_cases h : V < 128
                    · exact .inl (by simp; omega)
                    · refine .inr ⟨by simp; omega, ?_⟩
                      by_cases h2 : 1114111 < V
                      · exact .inl (by simp; omega)
                      · exact .inr ⟨by simp; omega, by simp; omega, by simp; omega⟩
                  clear HFB HFN HKK HBJ HV hbad hVV
                  rcases HO.out with q1 | ⟨q1, q2 | ⟨q2, q3, q4⟩⟩
                  all_goals
                    go_wp2
                    go_ret
                    exact ⟨by rewrite [HRR.out, HF.out]; rfl, rfl⟩
                · have HN : Hid (UtfAt s (pos + 2)) := by
                    have h1 : utfW s pos = 1 + 1 := HKK.out.trans (utfK_good HSH.out HV.out.2.1 (by rewrite [← hVV]; exact hbad))
                    have h2 := HFN.out (fun h => by have := h1.symm.trans h; cases this)
                    rewrite [h1] at h2
                    exact h2
                  unfold utfBad at hbad
                  have q1 : decide ((V : Int) < 128) = false := by simp; omega
                  have q2 : decide ((1114111 : Int) < (V : Int)) = false := by simp; omega
                  have HO : Hid (decide ((55296 : Int) ≤ (V : Int)) = false ∨ decide ((55296 : Int) ≤ (V : Int)) = true ∧ decide ((V : Int) < 57344) = false) := by
                    show _ ∨ _
                    by_cases h : 55296 ≤ V
                    · exact .inr ⟨by simp; omega, by simp; omega⟩
                    · exact .inl (by simp; omega)
                  have hle : pos + 2 ≤ s.size := by have := HSH.out; omega
                  clear HFB HFN HKK HBJ HV hbad hVV
                  rcases HO.out with q3 | ⟨q3, q4⟩
                  all_goals
                    go_wp2
                    go_round
                    case rel => exact ⟨pos + 2, hle, by go_num, HN⟩
                    case measure => simp [intOf]; omega
        · have HK2 := hide kk
          clear kk
          by_cases kk : 224 ≤ c ∧ c < 240
          · have HKK : Hid (utfW s pos = utfK (s.size - pos) 2 (c - 224) 2048 b) := by
              have h1 := HWW.out.trans (utfN3 (by rw [← HC.out]; exact kk))
              rewrite [← HC.out] at h1
              exact h1
            obtain ⟨v0, hv0⟩ : ∃ v0, v0 = c - 224 := ⟨_, rfl⟩
            rw [← hv0] at HKK
            have hcv : (c : Int) - 224 = (v0 : Int) := by omega
            have hv32 : v0 < 32 := by omega
            have e1 : decide ((192 : Int) ≤ (c : Int)) = true := by simp; omega
            have e1' : decide (192 ≤ c) = true := by simp; omega
            have e2 : decide ((c : Int) < 224) = false := by simp; omega
            have e2' : decide (c < 224) = false := by simp; omega
            have e3 : decide ((224 : Int) ≤ (c : Int)) = true := by simp; omega
            have e3' : decide (224 ≤ c) = true := by simp; omega
            have e4 : decide ((c : Int) < 240) = true := by simp; omega
            have e4' : decide (c < 240) = true := by simp; omega
            clear kk hv0 HWW
            by_cases hsh : s.size - pos ≤ 2
            · have HF := hide (HFB.out (HKK.out.trans (utfK_short hsh)))
              have hge : (s.size : Int) ≤ (pos : Int) + 2 := by omega
              have hge' : decide (s.size ≤ pos + 2) = true := by simp; omega
              clear HFB HFN HKK HBJ hsh
              go_wp2
              go_ret
              exact ⟨by rewrite [HRR.out, HF.out]; rfl, rfl⟩
            · have hlt : (pos : Int) + 2 < (s.size : Int) := by omega
              have hlt' : decide (s.size ≤ pos + 2) = false := by simp; omega
              have HSH := hide hsh
              clear hsh
              go_wp2
              go_loop [6, 8] (fun v j => ∃ m V : Nat, m ≤ 2 ∧ j = .int .i64 ((m + 1 : Nat) : Int) ∧ v = .int .i64 V ∧ V < 16777216 ∧ Hid (V = utfV v0 b m ∧ utfC b m = true ∧ V < 32 * 64 ^ m)) (fun _ j => 4 - (intOf j).toNat)
              case atStart => exact ⟨0, v0, by omega, rfl, rfl, by omega, rfl, rfl, by simpa using hv32⟩
              case round =>
                obtain ⟨m, V, hm, rfl, rfl, hV, HV⟩ := hrel
                obtain ⟨j, hj⟩ : ∃ j, j = m + 1 := ⟨_, rfl⟩
                rw [← hj]
                have HJ := hide hj
                by_cases hjk : m < 2
                · have hjle : (j : Int) ≤ 2 := by omega
                  have hEs : pos + j < s.size := by omega
                  have hEi : (pos : Int) + (j : Int) < (s.size : Int) := by omega
                  have hEi0 : (0 : Int) ≤ (pos : Int) + (j : Int) := by omega
                  have hxe : (s[pos + j]'hEs).toNat = b j := HBJ.out j hEs
                  have hd256 := HBL.out j
                  obtain ⟨dd, hdd⟩ : ∃ dd, dd = b j := ⟨_, rfl⟩
                  rw [← hdd] at hxe hd256
                  have HDD := hide hdd
                  have hwd : wrap64 (dd : Int) = (dd : Int) := wr64_nat (by omega)
                  clear hj hdd hx0 hcv hwc d1 d1' hc256 hv32 HBL k1 hlt' e1 e1' e2 e2' e3 e3' e4 e4' hlt hp hpl
                  by_cases hcc : 128 ≤ dd ∧ dd < 192
                  · have q1 : decide ((dd : Int) < 128) = false := by simp; omega
                    have q1' : decide (dd < 128) = false := by simp; omega
                    have q2 : decide ((192 : Int) ≤ (dd : Int)) = false := by simp; omega
                    have q2' : decide (192 ≤ dd) = false := by simp; omega
                    obtain ⟨V', hV'⟩ : ∃ V', V' = V * 64 + dd - 128 := ⟨_, rfl⟩
                    have hv' : (V : Int) * 64 + (dd : Int) - 128 = (V' : Int) := by omega
                    have HV2 : Hid (V' = utfV v0 b (m + 1) ∧ utfC b (m + 1) = true ∧ V' < 32 * 64 ^ (m + 1)) := by
                      have h1 := HV.out
                      have h2 := HDD.out
                      have h3 := HJ.out
                      refine ⟨?_, (utfC_succ b m).2 ⟨h1.2.1, ?_⟩, ?_⟩
                      · rw [hV', h1.1, h2, h3]; rfl
                      · rw [← h3, ← h2]; exact hcc
                      · have h4 : V + 1 ≤ 32 * 64 ^ m := h1.2.2
                        rw [Nat.pow_succ]
                        omega
                    have hVb : V' < 16777216 := by
                      have h1 := HV2.out.2.2
                      have h2 : 64 ^ (m + 1) ≤ 64 ^ 3 := Nat.pow_le_pow_right (by omega) (by omega)
                      omega
                    clear hcc hV' HV
                    go_wp2
                    go_round
                    case rel => exact ⟨m + 1, V', by omega, by have := HJ.out; go_num, rfl, hVb, HV2⟩
                    case measure => have := HJ.out; simp [intOf]; omega
                  · have HF := hide (HFB.out (by
                      refine HKK.out.trans (utfK_cont (fun h => hcc ?_))
                      have h1 := ((utfC_succ b m).1 (utfC_mono b h (show m + 1 ≤ 2 by omega))).2
                      rewrite [HDD.out, HJ.out]
                      exact h1))
                    have HO : Hid (decide ((dd : Int) < 128) = true ∨ decide ((dd : Int) < 128) = false ∧ decide ((192 : Int) ≤ (dd : Int)) = true) := by
                      show _ ∨ _
                      by_cases h : dd < 128
                      · exact .inl (by simp; omega)
                      · exact .inr ⟨by simp; omega, by simp; omega⟩
                    clear HFB HFN HKK HBJ HV hcc
                    rcases HO.out with q1 | ⟨q1, q2⟩
                    all_goals
                      have q1' := q1
                      go_wp2
                      go_ret
                      exact ⟨by rewrite [HRR.out, HF.out]; rfl, rfl⟩
                · obtain rfl : m = 2 := by omega
                  subst hj
                  have hVV := HV.out.1
                  by_cases hbad : utfBad V 2048
                  · have HF := hide (HFB.out (HKK.out.trans (utfK_bad (by rewrite [← hVV]; exact hbad))))
                    unfold utfBad at hbad
                    have HO : Hid (decide ((V : Int) < 2048) = true ∨ decide ((V : Int) < 2048) = false ∧ (decide ((1114111 : Int) < (V : Int)) = true ∨ decide ((1114111 : Int) < (V : Int)) = false ∧ decide ((55296 : Int) ≤ (V : Int)) = true ∧ decide ((V : Int) < 57344) = true)) := by
                      show _ ∨ _
                      by_cases h : V < 2048
                      · exact .inl (by simp; omega)
                      · refine .inr ⟨by simp; omega, ?_⟩
                        by_cases h2 : 1114111 < V
                        · exact .inl (by simp; omega)
                        · exact .inr ⟨by simp; omega, by simp; omega, by simp; omega⟩
                    clear HFB HFN HKK HBJ HV hbad hVV
                    rcases HO.out with q1 | ⟨q1, q2 | ⟨q2, q3, q4⟩⟩
                    all_goals
                      go_wp2
                      go_ret
                      exact ⟨by rewrite [HRR.out, HF.out]; rfl, rfl⟩
                  · have HN : Hid (UtfAt s (pos + 3)) := by
                      have h1 : utfW s pos = 2 + 1 := HKK.out.trans (utfK_good HSH.out HV.out.2.1 (by rewrite [← hVV]; exact hbad))
                      have h2 := HFN.out (fun h => by have := h1.symm.trans h; cases this)
                      rewrite [h1] at h2
                      exact h2
                    unfold utfBad at hbad
                    have q1 : decide ((V : Int) < 2048) = false := by simp; omega
                    have q2 : decide ((1114111 : Int) < (V : Int)) = false := by simp; omega
                    have HO : Hid (decide ((55296 : Int) ≤ (V : Int)) = false ∨ decide ((55296 : Int) ≤ (V : Int)) = true ∧ decide ((V : Int) < 57344) = false) := by
                      show _ ∨ _
                      by_cases h : 55296 ≤ V
                      · exact .inr ⟨by simp; omega, by simp; omega⟩
                      · exact .inl (by simp; omega)
                    have hle : pos + 3 ≤ s.size := by have := HSH.out; omega
                    clear HFB HFN HKK HBJ HV hbad hVV
                    rcases HO.out with q3 | ⟨q3, q4⟩
                    all_goals
                      go_wp2
                      go_round
                      case rel => exact ⟨pos + 3, hle, by go_num, HN⟩
                      case measure => simp [intOf]; omega
          · have HK3 := hide kk
            clear kk
            by_cases kk : 240 ≤ c ∧ c < 248
            · have HKK : Hid (utfW s pos = utfK (s.size - pos) 3 (c - 240) 65536 b) := by
                have h1 := HWW.out.trans (utfN4 (by rw [← HC.out]; exact kk))
                rewrite [← HC.out] at h1
                exact h1
              obtain ⟨v0, hv0⟩ : ∃ v0, v0 = c - 240 := ⟨_, rfl⟩
              rw [← hv0] at HKK
              have hcv : (c : Int) - 240 = (v0 : Int) := by omega
              have hv32 : v0 < 32 := by omega
              have e1 : decide ((192 : Int) ≤ (c : Int)) = true := by simp; omega
              have e1' : decide (192 ≤ c) = true := by simp; omega
              have e2 : decide ((c : Int) < 224) = false := by simp; omega
              have e2' : decide (c < 224) = false := by simp; omega
              have e3 : decide ((224 : Int) ≤ (c : Int)) = true := by simp; omega
              have e3' : decide (224 ≤ c) = true := by simp; omega
              have e4 : decide ((c : Int) < 240) = false := by simp; omega
              have e4' : decide (c < 240) = false := by simp; omega
              have e5 : decide ((240 : Int) ≤ (c : Int)) = true := by simp; omega
              have e5' : decide (240 ≤ c) = true := by simp; omega
              have e6 : decide ((c : Int) < 248) = true := by simp; omega
              have e6' : decide (c < 248) = true := by simp; omega
              clear kk hv0 HWW
              by_cases hsh : s.size - pos ≤ 3
              · have HF := hide (HFB.out (HKK.out.trans (utfK_short hsh)))
                have hge : (s.size : Int) ≤ (pos : Int) + 3 := by omega
                have hge' : decide (s.size ≤ pos + 3) = true := by simp; omega
                clear HFB HFN HKK HBJ hsh
                go_wp2
                go_ret
                exact ⟨by rewrite [HRR.out, HF.out]; rfl, rfl⟩
              · have hlt : (pos : Int) + 3 < (s.size : Int) := by omega
                have hlt' : decide (s.size ≤ pos + 3) = false := by simp; omega
                have HSH := hide hsh
                clear hsh
                go_wp2
                go_loop [6, 8] (fun v j => ∃ m V : Nat, m ≤ 3 ∧ j = .int .i64 ((m + 1 : Nat) : Int) ∧ v = .int .i64 V ∧ V < 16777216 ∧ Hid (V = utfV v0 b m ∧ utfC b m = true ∧ V < 32 * 64 ^ m)) (fun _ j => 5 - (intOf j).toNat)
                case atStart => exact ⟨0, v0, by omega, rfl, rfl, by omega, rfl, rfl, by simpa using hv32⟩
                case round =>
                  obtain ⟨m, V, hm, rfl, rfl, hV, HV⟩ := hrel
                  obtain ⟨j, hj⟩ : ∃ j, j = m + 1 := ⟨_, rfl⟩
                  rw [← hj]
                  have HJ := hide hj
                  by_cases hjk : m < 3
                  · have hjle : (j : Int) ≤ 3 := by omega
                    have hEs : pos + j < s.size := by omega
                    have hEi : (pos : Int) + (j : Int) < (s.size : Int) := by omega
                    have hEi0 : (0 : Int) ≤ (pos : Int) + (j : Int) := by omega
                    have hxe : (s[pos + j]'hEs).toNat = b j := HBJ.out j hEs
                    have hd256 := HBL.out j
                    obtain ⟨dd, hdd⟩ : ∃ dd, dd = b j := ⟨_, rfl⟩
                    rw [← hdd] at hxe hd256
                    have HDD := hide hdd
                    have hwd : wrap64 (dd : Int) = (dd : Int) := wr64_nat (by omega)
                    clear hj hdd hx0 hcv hwc d1 d1' hc256 hv32 HBL k1 hlt' e1 e1' e2 e2' e3 e3' e4 e4' e5 e5' e6 e6' hlt hp hpl
                    by_cases hcc : 128 ≤ dd ∧ dd < 192
                    · have q1 : decide ((dd : Int) < 128) = false := by simp; omega
                      have q1' : decide (dd < 128) = false := by simp; omega
                      have q2 : decide ((192 : Int) ≤ (dd : Int)) = false := by simp; omega
                      have q2' : decide (192 ≤ dd) = false := by simp; omega
                      obtain ⟨V', hV'⟩ : ∃ V', V' = V * 64 + dd - 128 := ⟨_, rfl⟩
                      have hv' : (V : Int) * 64 + (dd : Int) - 128 = (V' : Int) := by omega
                      have HV2 : Hid (V' = utfV v0 b (m + 1) ∧ utfC b (m + 1) = true ∧ V' < 32 * 64 ^ (m + 1)) := by
                        have h1 := HV.out
                        have h2 := HDD.out
                        have h3 := HJ.out
                        refine ⟨?_, (utfC_succ b m).2 ⟨h1.2.1, ?_⟩, ?_⟩
                        · rw [hV', h1.1, h2, h3]; rfl
                        · rw [← h3, ← h2]; exact hcc
                        · have h4 : V + 1 ≤ 32 * 64 ^ m := h1.2.2
                          rw [Nat.pow_succ]
                          omega
                      have hVb : V' < 16777216 := by
                        have h1 := HV2.out.2.2
                        have h2 : 64 ^ (m + 1) ≤ 64 ^ 3 := Nat.pow_le_pow_right (by omega) (by omega)
                        omega
                      clear hcc hV' HV
                      go_wp2
                      go_round
                      case rel => exact ⟨m + 1, V', by omega, by have := HJ.out; go_num, rfl, hVb, HV2⟩
                      case measure => have := HJ.out; simp [intOf]; omega
                    · have HF := hide (HFB.out (by
                        refine HKK.out.trans (utfK_cont (fun h => hcc ?_))
                        have h1 := ((utfC_succ b m).1 (utfC_mono b h (show m + 1 ≤ 3 by omega))).2
                        rewrite [HDD.out, HJ.out]
                        exact h1))
                      have HO : Hid (decide ((dd : Int) < 128) = true ∨ decide ((dd : Int) < 128) = false ∧ decide ((192 : Int) ≤ (dd : Int)) = true) := by
                        show _ ∨ _
                        by_cases h : dd < 128
                        · exact .inl (by simp; omega)
                        · exact .inr ⟨by simp; omega, by simp; omega⟩
                      clear HFB HFN HKK HBJ HV hcc
                      rcases HO.out with q1 | ⟨q1, q2⟩
                      all_goals
                        have q1' := q1
                        go_wp2
                        go_ret
                        exact ⟨by rewrite [HRR.out, HF.out]; rfl, rfl⟩
                  · obtain rfl : m = 3 := by omega
                    subst hj
                    have hVV := HV.out.1
                    by_cases hbad : utfBad V 65536
                    · have HF := hide (HFB.out (HKK.out.trans (utfK_bad (by rewrite [← hVV]; exact hbad))))
                      unfold utfBad at hbad
                      have HO : Hid (decide ((V : Int) < 65536) = true ∨ decide ((V : Int) < 65536) = false ∧ (decide ((1114111 : Int) < (V : Int)) = true ∨ decide ((1114111 : Int) < (V : Int)) = false ∧ decide ((55296 : Int) ≤ (V : Int)) = true ∧ decide ((V : Int) < 57344) = true)) := by
                        show _ ∨ _
                        by_cases h : V < 65536
                        · exact .inl (by simp; omega)
                        · refine .inr ⟨by simp; omega, ?_⟩
                          by_cases h2 : 1114111 < V
                          · exact .inl (by simp; omega)
                          · exact .inr ⟨by simp; omega, by simp; omega, by simp; omega⟩
                      clear HFB HFN HKK HBJ HV hbad hVV
                      rcases HO.out with q1 | ⟨q1, q2 | ⟨q2, q3, q4⟩⟩
                      all_goals
                        go_wp2
                        go_ret
                        exact ⟨by rewrite [HRR.out, HF.out]; rfl, rfl⟩
                    · have HN : Hid (UtfAt s (pos + 4)) := by
                        have h1 : utfW s pos = 3 + 1 := HKK.out.trans (utfK_good HSH.out HV.out.2.1 (by rewrite [← hVV]; exact hbad))
                        have h2 := HFN.out (fun h => by have := h1.symm.trans h; cases this)
                        rewrite [h1] at h2
                        exact h2
                      unfold utfBad at hbad
                      have q1 : decide ((V : Int) < 65536) = false := by simp; omega
                      have q2 : decide ((1114111 : Int) < (V : Int)) = false := by simp; omega
                      have HO : Hid (decide ((55296 : Int) ≤ (V : Int)) = false ∨ decide ((55296 : Int) ≤ (V : Int)) = true ∧ decide ((V : Int) < 57344) = false) := by
                        show _ ∨ _
                        by_cases h : 55296 ≤ V
                        · exact .inr ⟨by simp; omega, by simp; omega⟩
                        · exact .inl (by simp; omega)
                      have hle : pos + 4 ≤ s.size := by have := HSH.out; omega
                      clear HFB HFN HKK HBJ HV hbad hVV
                      rcases HO.out with q3 | ⟨q3, q4⟩
                      all_goals
                        go_wp2
                        go_round
                        case rel => exact ⟨pos + 4, hle, by go_num, HN⟩
                        case measure => simp [intOf]; omega
            · have h2 := HK2.out
              have h3 := HK3.out
              have HF := hide (HFB.out (HWW.out.trans (utfN0 (by rw [← HC.out]; exact k1) (by rw [← HC.out]; omega))))
              clear HFB HFN HWW HBJ HBL
              by_cases k5 : c < 192
              · have e1 : decide ((192 : Int) ≤ (c : Int)) = false := by simp; omega
                have e1' : decide (192 ≤ c) = false := by simp; omega
                have e3 : decide ((224 : Int) ≤ (c : Int)) = false := by simp; omega
                have e3' : decide (224 ≤ c) = false := by simp; omega
                have e5 : decide ((240 : Int) ≤ (c : Int)) = false := by simp; omega
                have e5' : decide (240 ≤ c) = false := by simp; omega
                clear k5 kk h2 h3 k1
                go_wp2
                go_ret
                exact ⟨by rewrite [HRR.out, HF.out]; rfl, rfl⟩
              · have e1 : decide ((192 : Int) ≤ (c : Int)) = true := by simp; omega
                have e1' : decide (192 ≤ c) = true := by simp; omega
                have e2 : decide ((c : Int) < 224) = false := by simp; omega
                have e2' : decide (c < 224) = false := by simp; omega
                have e3 : decide ((224 : Int) ≤ (c : Int)) = true := by simp; omega
                have e3' : decide (224 ≤ c) = true := by simp; omega
                have e4 : decide ((c : Int) < 240) = false := by simp; omega
                have e4' : decide (c < 240) = false := by simp; omega
                have e5 : decide ((240 : Int) ≤ (c : Int)) = true := by simp; omega
                have e5' : decide (240 ≤ c) = true := by simp; omega
                have e6 : decide ((c : Int) < 248) = false := by simp; omega
                have e6' : decide (c < 248) = false := by simp; omega
                clear k5 kk h2 h3 k1
                go_wp2
                go_ret
                exact ⟨by rewrite [HRR.out, HF.out]; rfl, rfl⟩
    · have HF := hide (HU.out.done hp)
      clear HU
      go_wp2
      go_ret
      exact ⟨by rewrite [HRR.out, HF.out]; rfl, rfl⟩
end Go.Proofs.YthacdhhmmmocpaaGreatDoor
namespace Go.Proofs.YthacdhhmmmocpaaGreatDoor
open Go.RowKit Crc
variable {K : Kd}

/-! The writer's methods once more, with what they touch: the writer's own block and its list's. -/
/-- The blocks of a writer: its own, and its list's (which lies in cell j). -/
def Foot (w : World) (p j k : Nat) : Prop := k = p ∨ ∃ u, w.cell? ⟨p, j, none⟩ = some u ∧ u.ownBlock = some k
/-- Nothing but these was touched; what is new of them is new memory. -/
structure Tch (j : Nat) (w w' : World) (p : Nat) : Prop where
  os : w'.os = w.os
  tape : w'.tape = w.tape
  output : w'.output = w.output
  size : w.heap.size ≤ w'.heap.size
  keep : ∀ k, k < w.heap.size → ¬ Foot w p j k → w'.heap[k]? = w.heap[k]?
  foot : ∀ k, Foot w' p j k → Foot w p j k ∨ w.heap.size ≤ k
theorem Foot.old {w w1 : World} {p j k : Nat} (hb : Below w.heap.size w w1) (hp : p < w.heap.size) : Foot w1 p j k ↔ Foot w p j k := by
  unfold Foot
  rw [hb.cell (p := ⟨p, j, none⟩) hp]
theorem Tch.from {j p : Nat} {w w1 w2 : World} (hb : Below w.heap.size w w1) (hp : p < w.heap.size) (h : Tch j w1 w2 p) : Tch j w w2 p :=
  ⟨h.os.trans hb.os, h.tape.trans hb.tape, h.output.trans hb.output, Nat.le_trans hb.size h.size, fun k hk hf => (h.keep k (Nat.lt_of_lt_of_le hk hb.size) (fun e => hf ((Foot.old hb hp).1 e))).trans (hb.block k hk),
   fun k hk => (h.foot k hk).elim (fun e => .inl ((Foot.old hb hp).1 e)) (fun e => .inr (Nat.le_trans hb.size e))⟩
theorem Tch.row {j p : Nat} {w w' : World} (hg : w.grownBy w' (some p)) (hc : w'.cell? ⟨p, j, none⟩ = w.cell? ⟨p, j, none⟩) : Tch j w w' p :=
  ⟨hg.os, hg.tape, hg.output, hg.size, fun k hk hf => hg.block k hk (fun e => hf (.inl (by cases e; rfl))), fun k hk => .inl (by unfold Foot at hk ⊢; rwa [hc] at hk)⟩
theorem Tch.refl (j p : Nat) (w : World) : Tch j w w p := ⟨rfl, rfl, rfl, Nat.le_refl _, fun _ _ _ => rfl, fun _ h => .inl h⟩
structure BT (lim : Nat) (w w' : World) (p : Nat) : Prop where
  below : Below lim w w'
  touch : Tch 4 w w' p
theorem BT.from {lim p : Nat} {w w1 w2 : World} (hb : Below w.heap.size w w1) (hp : p < w.heap.size) (hl : lim ≤ w.heap.size) (h : BT lim w1 w2 p) : BT lim w w2 p :=
  ⟨(hb.mono hl).trans h.below, Tch.from hb hp h.touch⟩
theorem wr_afterx {base lim : Nat} {w w2 : World} {p : Nat} {made : Bool} {place why most : Int} {v v' : Value} {L : List Nat} (hb : w.heap[p]? = some (.cells (List.toArray (.bool made :: .int .i64 place :: .int .i64 why :: .int .i64 most :: v :: K.R)) K.t (0, 0)))
    (hne : v.ownBlock ≠ some p) (hO0 : ∀ g, v.ownBlock = some g → base ≤ g) (hE : Ext w w2 v v') (hO : Owns base w2 v' L) (hl1 : lim ≤ base) (hl2 : lim ≤ p) :
    Wr K base (w2.setCell ⟨p, 4, none⟩ v') p made place why most L ∧ BT lim w (w2.setCell ⟨p, 4, none⟩ v') p := by
  obtain ⟨h1, h2⟩ := wr_after hb hne hO0 hE hO hl1 hl2
  have c4 := block_cell hb 4
  simp at c4
  have hp := block_lt hb
  have hb2 : w2.heap[p]? = some (.cells (List.toArray (.bool made :: .int .i64 place :: .int .i64 why :: .int .i64 most :: v :: K.R)) K.t (0, 0)) := (hE.1.block p hp (fun e => hne e.symm)).trans hb
  have hb3 : (w2.setCell ⟨p, 4, none⟩ v').heap[p]? = some (.cells (List.toArray (.bool made :: .int .i64 place :: .int .i64 why :: .int .i64 most :: v' :: K.R)) K.t (0, 0)) := by
    rw [heap_setCell_same w2 p 4 _ _ v' hb2]; rfl
  refine ⟨h1, h2, h2.os, h2.tape, h2.output, by simpa using hE.1.size, fun k hk hf => ?_, fun k hk => ?_⟩
  · have h3 := heap_setCell_other w2 ⟨p, 4, none⟩ k v' (fun e => hf (.inl (by simpa using e)))
    exact h3.trans (hE.1.block k hk (fun e => hf (.inr ⟨v, c4, e.symm⟩)))
  · rcases hk with rfl | ⟨u, hu, hg⟩
    · exact .inl (.inl rfl)
    · have h4 := block_cell hb3 4
      rw [hu] at h4
      simp at h4
      subst h4
      rcases hE.2 k hg with h | h
      · exact .inl (.inr ⟨v, c4, h⟩)
      · exact .inr h
set_option maxRecDepth 10000 in
set_option maxHeartbeats 400000 in
theorem textFault_ok (s : ByteArray) (most : Int) (w : World) (hs : utf8Ok s = true) (hl : (s.size : Int) ≤ most) :
    Calls Tryz.prog 50 #[.string s, .int .i64 most] w fun e w' => e = .returned (.int .i64 0) ∧ ∃ pos, w' = w.iter s pos := by
  have HT : Hid (Calls Tryz.prog 72 #[.string s] w fun e w' => e = .returned (.bool true) ∧ ∃ pos, w' = w.iter s pos) := by rw [← hs]; exact isText_any s w
  have d : decide (most < (s.size : Int)) = false := by simp; omega
  clear hs
  go_enter Tryz.func50, Tryz.ntmps50
  go_wp2_with fail
  refine HT.out.mono ?_
  rintro e w1 ⟨rfl, pos, rfl⟩
  go_wp2
  go_ret
  exact ⟨rfl, pos, rfl⟩

theorem fixed_goodx (base lim p v s : Nat) (vi si place most : Int) (L : List Nat) (w : World) (hvi : vi = (v : Int)) (hsi : si = (s : Int)) (hs : s ≤ 8) (hW : Wr K base w p true place 0 most L) (hm : most ≤ 65507) (hfit : ((L.length + s : Nat) : Int) ≤ most) (hbs : base ≤ w.heap.size) (hl1 : lim ≤ base) (hl2 : lim ≤ p) :
    Calls Tryz.prog 47 #[.pointer (some ⟨p, 0, none⟩), .int .u64 vi, .int .i64 si] w fun e w' => e = .returned (.tuple #[]) ∧ Wr K base w' p true place 0 most (L ++ big v s) ∧ BT lim w w' p := by
  obtain ⟨u, hb, hO, hne⟩ := hW
  obtain ⟨ao, cap, rfl, hS, _⟩ := hO.form
  have c0 := block_cell hb 0
  have c2 := block_cell hb 2
  have c3 := block_cell hb 3
  have c4 := block_cell hb 4
  simp at c0 c2 c3 c4
  have HTK : Hid (Calls Tryz.prog 48 #[.pointer (some ⟨p, 0, none⟩), .int .i64 si, .int .i64 0] w fun e w' => e = .returned (.bool true) ∧ ∃ q, w' = w.drewN q) := takes_good p most ao L.length cap si w c0 c2 c3 c4 hm (by omega) (by omega)
  have HAP : Hid (∀ q, Calls Tryz.prog 69 #[.slice ao L.length cap, .int .u64 vi, .int .i64 si] (w.drewN q) fun e w' => ∃ v', e = .returned v' ∧ Owns base w' v' (L ++ big v s) ∧ Ext (w.drewN q) w' (.slice ao L.length cap) v') :=
    fun q => appendHigh_any base v s _ vi si L (w.drewN q) hvi hsi hs (hO.drew q) (by omega) hbs
  have HFIN : Hid (∀ (q : Nat) (w2 : World) (v' : Value), Owns base w2 v' (L ++ big v s) → Ext (w.drewN q) w2 (.slice ao L.length cap) v' → Wr K base (w2.setCell ⟨p, 4, none⟩ v') p true place 0 most (L ++ big v s) ∧ BT lim w (w2.setCell ⟨p, 4, none⟩ v') p) := by
    intro q w2 v' ho he
    have he' : Ext w w2 (.slice ao L.length cap) v' := ⟨⟨he.1.os, he.1.tape, he.1.output, he.1.size, he.1.block⟩, he.2⟩
    exact wr_afterx hb hne (fun g hg => (hO.1.lt g hg).1) he' ho hl1 hl2
  have HCL : Hid (∀ (q : Nat) (w2 : World) (v' : Value), Ext (w.drewN q) w2 (.slice ao L.length cap) v' → w2.cell? ⟨p, 4, none⟩ = some (.slice ao L.length cap) ∧ w2.frozen? ⟨p, 4, none⟩ = false) := by
    intro q w2 v' he
    exact wr_cell hb hne (show Ext w w2 (.slice ao L.length cap) v' from ⟨⟨he.1.os, he.1.tape, he.1.output, he.1.size, he.1.block⟩, he.2⟩)
  clear hb hO hne hS c0 c2 c3 hvi hsi
  go_enter Tryz.func47, Tryz.ntmps47
  go_wp2_with fail
  refine HTK.out.mono ?_
  rintro e w1 ⟨rfl, q, rfl⟩
  go_wp2_with fail
  refine (HAP.out q).mono ?_
  rintro e w2 ⟨v', rfl, ho, he⟩
  obtain ⟨k4, f4⟩ := HCL.out q w2 v' he
  have HF2 := HFIN.out q w2 v' ho he
  obtain ⟨a', c', rfl, _, _⟩ := ho.form
  have HF2' : Hid (Wr K base (w2.setCell ⟨p, 4, none⟩ (.slice a' (L ++ big v s).length c')) p true place 0 most (L ++ big v s) ∧ BT lim w (w2.setCell ⟨p, 4, none⟩ (.slice a' (L ++ big v s).length c')) p) := HF2
  clear HF2 ho he HFIN HCL HAP HTK c4
  generalize (L ++ big v s).length = m at *
  go_wp2
  go_end0
  exact ⟨rfl, HF2'.out⟩

theorem wU8_goodx (base lim p v : Nat) (vi place most : Int) (L : List Nat) (w : World) (hvi : vi = (v : Int)) (hv : v < 256) (hW : Wr K base w p true place 0 most L) (hm : most ≤ 65507) (hfit : ((L.length + 1 : Nat) : Int) ≤ most) (hbs : base ≤ w.heap.size) (hl1 : lim ≤ base) (hl2 : lim ≤ p) :
    Calls Tryz.prog 18 #[.pointer (some ⟨p, 0, none⟩), .int .u8 vi] w fun e w' => e = .returned (.tuple #[]) ∧ Wr K base w' p true place 0 most (L ++ big v 1) ∧ BT lim w w' p := by
  have HF : Hid (Calls Tryz.prog 47 #[.pointer (some ⟨p, 0, none⟩), .int .u64 vi, .int .i64 1] w fun e w' => e = .returned (.tuple #[]) ∧ Wr K base w' p true place 0 most (L ++ big v 1) ∧ BT lim w w' p) := fixed_goodx base lim p v 1 vi 1 place most L w hvi rfl (by omega) hW hm hfit hbs hl1 hl2
  have h0 : 0 ≤ vi := by omega
  have h1 : vi < 256 := by omega
  clear hW hvi
  go_enter Tryz.func18, Tryz.ntmps18
  go_wp2_with fail
  refine HF.out.mono ?_
  rintro e w1 ⟨rfl, hr⟩
  have HR : Hid (Wr K base w1 p true place 0 most (L ++ big v 1) ∧ BT lim w w1 p) := hr
  clear hr
  go_wp2
  go_end0
  exact ⟨rfl, HR.out⟩

theorem wr_openx {base lim p : Nat} {w : World} {place most : Int} {L : List Nat} (hW : Wr K base w p true place 0 most L) (hm : most ≤ 65507) (hlen : (L.length : Int) ≤ most) (hl1 : lim ≤ base) (hl2 : lim ≤ p) :
    ∃ (ao : Option Addr) (cap : Nat), w.cell? ⟨p, 4, none⟩ = some (.slice ao L.length cap) ∧ Owns base w (.slice ao L.length cap) L ∧
      (∀ sz : Int, sz ≤ most - (L.length : Int) → Calls Tryz.prog 48 #[.pointer (some ⟨p, 0, none⟩), .int .i64 sz, .int .i64 0] w fun e w' => e = .returned (.bool true) ∧ ∃ q, w' = w.drewN q) ∧
      (∀ (w2 : World) (v' : Value) (L' : List Nat), Owns base w2 v' L' → Ext w w2 (.slice ao L.length cap) v' → w2.cell? ⟨p, 4, none⟩ = some (.slice ao L.length cap) ∧ w2.frozen? ⟨p, 4, none⟩ = false ∧ Wr K base (w2.setCell ⟨p, 4, none⟩ v') p true place 0 most L' ∧ BT lim w (w2.setCell ⟨p, 4, none⟩ v') p) := by
  obtain ⟨u, hb, hO, hne⟩ := hW
  obtain ⟨ao, cap, rfl, hS, _⟩ := hO.form
  have c0 := block_cell hb 0
  have c2 := block_cell hb 2
  have c3 := block_cell hb 3
  have c4 := block_cell hb 4
  simp at c0 c2 c3 c4
  refine ⟨ao, cap, c4, hO, fun sz hsz => takes_good p most ao L.length cap sz w c0 c2 c3 c4 hm hlen hsz, fun w2 v' L' ho he => ?_⟩
  obtain ⟨k4, f4⟩ := wr_cell hb hne he
  exact ⟨k4, f4, wr_afterx hb hne (fun g hg => (hO.1.lt g hg).1) he ho hl1 hl2⟩

theorem wNum_goodx (base lim p v : Nat) (vi place most : Int) (L : List Nat) (w : World) (hvi : vi = (v : Int)) (hv : v < 18446744073709551616) (hW : Wr K base w p true place 0 most L) (hm : most ≤ 65507) (hfit : ((L.length + (numB v).length : Nat) : Int) ≤ most) (hbs : base ≤ w.heap.size) (hl1 : lim ≤ base) (hl2 : lim ≤ p) :
    Calls Tryz.prog 21 #[.pointer (some ⟨p, 0, none⟩), .int .u64 vi] w fun e w' => e = .returned (.tuple #[]) ∧ Wr K base w' p true place 0 most (L ++ numB v) ∧ BT lim w w' p := by
  obtain ⟨ao, cap, c4, hO, htk, hfin⟩ := wr_openx hW hm (by omega) hl1 hl2
  have HNS : Hid (Calls Tryz.prog 49 #[.int .u64 vi] w fun e w' => e = .returned (.int .i64 ((numB v).length : Nat)) ∧ w' = w) := numSize_any v vi w hvi hv
  have HTK : Hid (Calls Tryz.prog 48 #[.pointer (some ⟨p, 0, none⟩), .int .i64 ((numB v).length : Nat), .int .i64 0] w fun e w' => e = .returned (.bool true) ∧ ∃ q, w' = w.drewN q) := htk _ (by omega)
  have HAP : Hid (∀ q, Calls Tryz.prog 51 #[.slice ao L.length cap, .int .u64 vi] (w.drewN q) fun e w' => ∃ v', e = .returned v' ∧ Owns base w' v' (L ++ numB v) ∧ Ext (w.drewN q) w' (.slice ao L.length cap) v') :=
    fun q => appendNum_any base _ L v vi (w.drewN q) hvi hv (hO.drew q) (by omega) hbs
  have HFIN := hide hfin
  clear hfin htk hO hW hvi
  generalize (numB v).length = ns at *
  go_enter Tryz.func21, Tryz.ntmps21
  go_wp2_with fail
  refine HNS.out.mono ?_
  rintro e w0 ⟨rfl, rfl⟩
  go_wp2_with fail
  refine HTK.out.mono ?_
  rintro e w1 ⟨rfl, q, rfl⟩
  go_wp2_with fail
  refine (HAP.out q).mono ?_
  rintro e w2 ⟨v', rfl, ho, he⟩
  obtain ⟨k4, f4, hr⟩ := HFIN.out w2 v' _ ho (ext_drew he)
  obtain ⟨a', c', rfl, _, _⟩ := ho.form
  have HR := hide hr
  clear hr ho he HFIN HAP HTK HNS c4
  generalize (L ++ numB v).length = m at *
  go_wp2
  go_end0
  exact ⟨rfl, HR.out⟩

theorem wText_goodx (base lim p : Nat) (s : ByteArray) (cm place most : Int) (L : List Nat) (w : World) (hs : utf8Ok s = true) (hcm : (s.size : Int) ≤ cm) (hW : Wr K base w p true place 0 most L) (hm : most ≤ 65507) (hfit : ((L.length + (numB s.size).length + s.size : Nat) : Int) ≤ most) (hbs : base ≤ w.heap.size) (hl1 : lim ≤ base) (hl2 : lim ≤ p) :
    Calls Tryz.prog 20 #[.pointer (some ⟨p, 0, none⟩), .string s, .int .i64 cm] w fun e w' => e = .returned (.tuple #[]) ∧ Wr K base w' p true place 0 most (L ++ numB s.size ++ strB s) ∧ BT lim w w' p := by
  obtain ⟨i0, hi, hz0, hz1, hz2⟩ := info_parts Tryz.info5
  have hlw : lim ≤ w.heap.size := by omega
  have HTF := hide (textFault_ok s cm w hs hcm)
  have HNS : Hid (Calls Tryz.prog 49 #[.int .u64 (s.size : Int)] w fun e w' => e = .returned (.int .i64 ((numB s.size).length : Nat)) ∧ w' = w) := numSize_any s.size _ w rfl (by omega)
  have HOP := hide (fun (w1 : World) (pos : Nat) (h : w1 = w.iter s pos) => wr_openx (K := K) (lim := lim) (w := w1) (place := place) (most := most) (L := L) (by rw [h]; exact hW.alloc (.stringIter s pos)) hm (by omega) hl1 hl2)
  have HBI : Hid (∀ pos, Below w.heap.size w (w.iter s pos) ∧ base ≤ (w.iter s pos).heap.size) := fun pos => ⟨(Below.refl _ w).alloc (Nat.le_refl _) _, by unfold World.iter; simp; omega⟩
  have HPL : Hid (p < w.heap.size) := by obtain ⟨u, hb, _⟩ := hW; exact block_lt hb
  have HLW := hide hlw
  have hnl : (numB s.size).length ≤ 10 := numTo_len 9 s.size
  have hsz : s.size ≤ 65507 := by omega
  have HST := hide (strB_vals s)
  have HSL := hide (strB_len s)
  clear hW hs
  generalize hns : (numB s.size).length = ns at *
  have HNS2 := hide hns
  clear hns
  go_enter Tryz.func20, Tryz.ntmps20
  go_wp2_with fail
  refine HNS.out.mono ?_
  rintro e w0 ⟨rfl, rfl⟩
  go_wp2_with fail
  refine HTF.out.mono ?_
  rintro e w1 ⟨rfl, pos, hw1⟩
  obtain ⟨ao, cap, c4, hO, htk, hfin⟩ := HOP.out w1 pos hw1
  obtain ⟨hbel, hbs1⟩ := HBI.out pos
  rw [← hw1] at hbel hbs1
  have HFIN := hide hfin
  have HTK : Hid (Calls Tryz.prog 48 #[.pointer (some ⟨p, 0, none⟩), .int .i64 ((ns : Int) + (s.size : Int)), .int .i64 0] w1 fun e w' => e = .returned (.bool true) ∧ ∃ q, w' = w1.drewN q) := htk _ (by omega)
  have HAP : Hid (∀ q, Calls Tryz.prog 51 #[.slice ao L.length cap, .int .u64 (s.size : Int)] (w1.drewN q) fun e w' => ∃ v', e = .returned v' ∧ Owns base w' v' (L ++ numB s.size) ∧ Ext (w1.drewN q) w' (.slice ao L.length cap) v') :=
    fun q => appendNum_any base _ L s.size _ (w1.drewN q) rfl (by omega) (hO.drew q) (by omega) hbs1
  have HBEL := hide hbel
  have HBS : Hid (∀ (w2 : World) (v' : Value), Ext w1 w2 (.slice ao L.length cap) v' → base ≤ w2.heap.size) := fun w2 v' he => Nat.le_trans hbs1 he.1.size
  clear hfin htk hO hw1 HOP HBI hbel hbs1 HNS HTF
  go_wp2_with fail
  refine HTK.out.mono ?_
  rintro e w3 ⟨rfl, q, rfl⟩
  go_wp2_with fail
  refine (HAP.out q).mono ?_
  rintro e w2 ⟨v', rfl, ho, he⟩
  have HE := hide (ext_drew he)
  have HO := hide ho
  obtain ⟨a', c', rfl, hs', _⟩ := ho.form
  have hll : (L ++ numB s.size).length = L.length + ns := by rw [List.length_append, HNS2.out]
  have hbd : (L ++ numB s.size).length ≤ 65507 := by omega
  clear ho he hs' HAP HTK hll
  generalize hm' : (L ++ numB s.size).length = m at *
  have HOW : Hid (w2.ownsRow base 5 1 (.slice a' m c') m (vals (L ++ numB s.size))) := by
    have h := HO.out.1
    rw [hm'] at h
    exact h
  have HMM := hide hm'
  clear hm'
  go_wp2_with (first
    | (at_builtin; refine wpList_append_string_ext _ rfl (.tmp 26) (.tmp 27) 26 9 rfl base 5 i0 Tryz.underlying26 Tryz.underlying9 hi hz0 hz1 hz2 _ m (vals (L ++ numB s.size)) rfl HOW.out s rfl (by omega) (HBS.out w2 _ HE.out) ?_; intro v' w3 hown3 hext3; have HO3 : Hid (Owns base w3 v' (L ++ numB s.size ++ strB s)) := owns_join HO.out (strB_lt s) (by rw [HMM.out, HSL.out]; omega) (by rw [HMM.out, HSL.out, HST.out]; exact hown3); obtain ⟨k4, f4, hr⟩ := HFIN.out w3 v' _ HO3.out (HE.out.trans hext3); obtain ⟨a3, c3, rfl, _, _⟩ := HO3.out.form; have HR := hide hr; clear hr hown3 hext3))
  go_end0
  refine ⟨rfl, ?_⟩
  first
    | exact ⟨HR.out.1, BT.from HBEL.out HPL.out HLW.out HR.out.2⟩
    | (rw [show L.length + ((numB s.size).length + (strB s).length) = (L ++ numB s.size ++ strB s).length by simp]; exact ⟨HR.out.1, BT.from HBEL.out HPL.out HLW.out HR.out.2⟩)

end Go.Proofs.YthacdhhmmmocpaaGreatDoor
