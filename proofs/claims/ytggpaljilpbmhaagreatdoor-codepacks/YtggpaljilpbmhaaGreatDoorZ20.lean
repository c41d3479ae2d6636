import Derived.Test.YtggpaljilpbmhaaGreatDoorZ19
namespace Go.Proofs.YtggpaljilpbmhaaGreatDoor
open Go.RowKit Crc

theorem drop_drop_pos (B : List Nat) (pos k : Nat) : (B.drop pos).getD k 0 = B.getD (pos + k) 0 := by
 rw [List.getD_eq_getElem?_getD, List.getElem?_drop, ← List.getD_eq_getElem?_getD]
theorem RS.rest_eq {s : RS} (hs : s.sound) : s.rest = s.B.drop s.pos := by unfold RS.rest restB; rw [if_pos (show s.made = true ∧ s.why = 0 from hs)]
theorem RS.step_fail {s : RS} (hs : s.sound) (z : Nat) {y : Int} (hy : y ≠ 0) : s.step z y = { s with why := y, place := s.pos, pos := s.pos } := by unfold RS.step; rw [if_pos hs, if_neg hy]
theorem RS.step_ok {s : RS} (hs : s.sound) (z : Nat) : s.step z 0 = { s with pos := s.pos + z } := by unfold RS.step; rw [if_pos hs]; rfl

set_option maxRecDepth 10000 in
set_option maxHeartbeats 3200000 in
theorem refNum_any (d p : Nat) (s : RS) (w : World) (hR : RefS d w p s) :
  Calls Tryz.prog 133 #[.pointer (some ⟨p, 0, none⟩)] w fun e w' => e = .returned (.int .u64 ((numAt s.rest).1 : Nat)) ∧ RefS d w' p (s.step (numAt s.rest).2.1 (numAt s.rest).2.2) ∧ w.grownBy w' (some p) := by
 by_cases hs : s.sound
 ·have HDD := hide (dead_sound d p s w hR hs)
  have hpl := hR.posle
  have HFA := hide (fun q code => refFail_any d p s code s.pos (w.drewN q) (hR.world rfl) hpl)
  have HMV := hide (fun q k hk => (hR.world (w' := w.drewN q) rfl).moved k hk)
  have HRE := hide (RS.rest_eq hs)
  have HSF := hide (fun z y => RS.step_fail (s := s) hs z (y := y))
  have HSO := hide (fun z => RS.step_ok (s := s) hs z)
  obtain ⟨ao, cap, hb, h1, h2, h3, h4, h5, h6, h7⟩ := hR
  have HA := hide h5
  have HC := hide h7
  have HB := hide h3
  have c1 := block_cell hb 1
  have c2 := block_cell hb 2
  have f2 := block_free hb 2
  simp at c1 c2
  have HN0 : Hid (numGo (s.rest.drop 0) 0 0 = numAt s.rest) := rfl
  obtain ⟨R, hRd⟩ : ∃ R, R = s.rest := ⟨_, rfl⟩
  rw [← hRd] at HN0 HRE ⊢
  clear hb h1 h3 h4 h5 h6 h7 hs hRd
  go_enter Tryz.func133, Tryz.ntmps133
  go_wp2_with fail
  refine HDD.out.mono ?_
  rintro e wa ⟨rfl, rfl⟩
  go_wp2_with fail
  go_loopw [3, 4] (fun v i wr => ∃ j x q : Nat, j ≤ 9 ∧ i = .int .i64 j ∧ v = .int .u64 x ∧ wr = wa.drewN q ∧ Hid (x < 2 ^ (7 * j) ∧ numGo (R.drop j) j x = numAt R)) (fun _ i _ => 10 - (intOf i).toNat)
  case atStart => exact ⟨0, 0, 0, by omega, rfl, rfl, rfl, by simp, HN0.out⟩
  case round =>
   obtain ⟨k, x, q, hk9, rfl, rfl, rfl, HX⟩ := hrel
   have he : IntKind.i64.wrap ((s.pos : Int) + (k : Int)) = ((s.pos + k : Nat) : Int) := by rw [← Int.natCast_add]; exact wrap64_nat (by omega)
   by_cases hlt : s.pos + k < s.B.length
   ·have hck := HC.out (s.pos + k) hlt
    obtain rfl := HA.out (by omega)
    have hcb : s.B.getD (s.pos + k) 0 < 256 := getD_lt s.B HB.out _
    have hgo := numGo_at R k x (by rw [HRE.out, List.length_drop]; omega)
    rw [HX.out.2] at hgo
    have hgd : R.getD k 0 = s.B.getD (s.pos + k) 0 := by rw [HRE.out]; exact drop_drop_pos _ _ _
    rw [hgd] at hgo
    obtain ⟨c, hcd⟩ : ∃ c, c = s.B.getD (s.pos + k) 0 := ⟨_, rfl⟩
    rw [← hcd] at hck hcb hgo
    have HGO := hide hgo
    have hEl : ((s.pos + k : Nat) : Int) < (s.B.length : Int) := by omega
    have HFB := hide (show s.pos + (k + 1) ≤ s.B.length by omega)
    have HPK : Hid ((s.pos : Int) + (k : Int) + 1 ≤ 140737488355328) := by show _ ≤ _; omega
    have HMK := hide (fun q => HMV.out q (k + 1) HFB.out)
    generalize hE : s.pos + k = E at *
    have dE : decide (s.B.length ≤ E) = false := by simp; omega
    have HE := hide hE
    clear hcd hgo hgd hE HMV hlt hpl
    have hki : (k : Int) < 10 := by omega
    by_cases h9 : k = 9 ∧ 1 < c
    ·have HF : Hid (numAt R = (0, 0, 26)) := by have := HGO.out; rw [if_pos h9] at this; exact this
     have k9 : ((k : Int) == 9) = true := by simp; omega
     have d1 : decide ((1 : Int) < (c : Int)) = true := by simp; omega
     clear HGO HX h9
     go_wp2_with fail
     go_quiet (fail)
     go_wp2_with fail
     go_quiet (fail)
     go_wp2_with fail
     refine (HFA.out _ _).mono ?_
     rintro e w2 ⟨rfl, h8, h9⟩
     go_wp2
     go_ret
     refine ⟨by rw [HF.out]; rfl, ?_, grown_from h9⟩
     rw [HF.out, HSF.out _ _ (by decide)]
     exact h8
    ·by_cases hz : c = 0 ∧ 0 < k
     ·have HF : Hid (numAt R = (0, 0, 26)) := by have := HGO.out; rw [if_neg h9, if_neg (by omega), if_pos hz] at this; exact this
      obtain ⟨rfl, hk0⟩ := hz
      have dk : decide ((0 : Int) < (k : Int)) = true := by simp; omega
      have dk2 : decide (0 < k) = true := by simp; omega
      have HD9 : Hid (((k : Int) == 9) = true ∨ ((k : Int) == 9) = false) := by show _ ∨ _; cases h : ((k : Int) == 9) <;> simp
      clear HGO HX h9
      simp at hck
      rcases HD9.out with k9 | k9
      all_goals
       go_wp2_with fail
       go_quiet (fail)
       go_wp2_with fail
       go_quiet (fail)
       go_wp2_with fail
       refine (HFA.out _ _).mono ?_
       rintro e w2 ⟨rfl, h8, h9⟩
       go_wp2
       go_ret
       refine ⟨by rw [HF.out]; rfl, ?_, grown_from h9⟩
       rw [HF.out, HSF.out _ _ (by decide)]
       exact h8
     ·have hfit : c % 128 * 2 ^ (7 * k) < 18446744073709551616 := by
       rcases Nat.lt_or_ge k 9 with h | h
       ·have h1 : 2 ^ (7 * k) ≤ 2 ^ 56 := Nat.pow_le_pow_right (by omega) (by omega)
        have h2 : c % 128 * 2 ^ (7 * k) ≤ 127 * 2 ^ 56 := Nat.mul_le_mul (by omega) h1
        omega
       ·obtain rfl : k = 9 := by omega
        have : c % 128 ≤ 1 := by omega
        have : c % 128 * 2 ^ (7 * 9) ≤ 1 * 2 ^ (7 * 9) := Nat.mul_le_mul_right _ this
        omega
      have HGO2 : Hid (numAt R = if 128 ≤ c then numGo (R.drop (k + 1)) (k + 1) (x + c % 128 * 2 ^ (7 * k)) else (x + c % 128 * 2 ^ (7 * k), k + 1, 0)) := by
       have h := HGO.out
       rw [if_neg h9, if_neg hz] at h
       exact h
      obtain ⟨y, hy⟩ : ∃ y, y = x + c % 128 * 2 ^ (7 * k) := ⟨_, rfl⟩
      have HY : Hid (y < 2 ^ (7 * (k + 1))) := by
       have h1 := HX.out.1
       show y < _
       rw [hy, show 7 * (k + 1) = 7 * k + 7 by omega, Nat.pow_add]
       have h2 : c % 128 * 2 ^ (7 * k) ≤ 127 * 2 ^ (7 * k) := Nat.mul_le_mul_right _ (by omega)
       omega
      have hyl : y < 18446744073709551616 := by
       rcases Nat.lt_or_ge k 9 with h | h
       ·have h1 := HY.out
        have h2 : 2 ^ (7 * (k + 1)) ≤ 2 ^ 63 := Nat.pow_le_pow_right (by omega) (by omega)
        omega
       ·obtain rfl : k = 9 := by omega
        have h1 := HX.out.1
        have : c % 128 ≤ 1 := by omega
        have : c % 128 * 2 ^ (7 * 9) ≤ 1 * 2 ^ (7 * 9) := Nat.mul_le_mul_right _ this
        omega
      rw [← hy] at HGO2
      have HYD := hide hy
      obtain ⟨m, hm⟩ : ∃ m, m = c % 128 := ⟨_, rfl⟩
      have hmod : (c : Int) % 128 = (m : Int) := by omega
      have hm128 : m < 128 := by omega
      obtain ⟨V, hV⟩ : ∃ V : Nat, V = 7 * k := ⟨_, rfl⟩
      have he7 : (7 : Int) * (k : Int) = (V : Int) := by omega
      have hV63 : V ≤ 63 := by omega
      obtain ⟨Z, hZ⟩ : ∃ Z : Nat, Z = m * 2 ^ V := ⟨_, rfl⟩
      have hsh : IntKind.u64.wrap ((m : Int) * 2 ^ V) = (Z : Int) := by
       rw [show (m : Int) * 2 ^ V = ((m * 2 ^ V : Nat) : Int) by simp, ← hZ]
       exact wrapu64_nat (by rw [hZ, hm, hV]; exact hfit)
      have hyz : x + Z = y := by rw [hy, hZ, hm, hV]
      have hadd : (x : Int) + (Z : Int) = (y : Int) := by omega
      have hyi : (y : Int) < 18446744073709551616 := by omega
      have HK9 : Hid (k = 9 ∧ c = 1 ∨ k ≠ 9 ∧ c ≠ 0 ∨ k = 0 ∧ c = 0) := by show _ ∨ _; omega
      clear HGO HX h9 hz hm hV hZ hfit hy hyz hyl
      have HMK2 : Hid (∀ q, RefS d ((wa.drewN q).setCell ⟨p, 2, none⟩ (.int .i64 ((E : Int) + 1))) p { s with pos := s.pos + (k + 1) } ∧ (wa.drewN q).grownBy ((wa.drewN q).setCell ⟨p, 2, none⟩ (.int .i64 ((E : Int) + 1))) (some p)) := by
       intro q
       have h1 := HMK.out q
       have h2 : (s.pos : Int) + ((k + 1 : Nat) : Int) = (E : Int) + 1 := by have := HE.out; omega
       rw [h2] at h1
       exact h1
      have hE47 : (E : Int) + 1 ≤ 140737488355328 := by have := HE.out; have := HPK.out; omega
      clear HMK HPK
      by_cases h128 : 128 ≤ c
      ·have HR : Hid (y < 2 ^ (7 * (k + 1)) ∧ numGo (R.drop (k + 1)) (k + 1) y = numAt R) := by
        refine ⟨HY.out, ?_⟩
        have h := HGO2.out
        rw [if_pos h128] at h
        exact h.symm
       have hk8 : k ≤ 8 := by have := HK9.out; omega
       have k9 : ((k : Int) == 9) = false := by simp; omega
       have z0 : ((c : Int) == 0) = false := by simp; omega
       have d128 : decide ((c : Int) < 128) = false := by simp; omega
       have d128' : decide (c < 128) = false := by simp; omega
       clear HMK2 HGO2 HY HK9
       go_wp2_with fail
       go_quiet (fail)
       go_wp2_with fail
       go_quiet (fail)
       go_wp2
       go_roundw
       case rel => exact ⟨k + 1, y, _, by omega, by go_num, rfl, rfl, HR⟩
       case measure => simp [intOf]; omega
      ·have HF : Hid (numAt R = (y, k + 1, 0)) := by
        have h := HGO2.out
        rw [if_neg h128] at h
        exact h
       have d128 : decide ((c : Int) < 128) = true := by simp; omega
       have d128' : decide (c < 128) = true := by simp; omega
       clear HGO2 HY
       rcases HK9.out with h | h | h
       ·have k9 : ((k : Int) == 9) = true := by simp; omega
        have z0 : ((c : Int) == 0) = false := by simp; omega
        have d1 : decide ((1 : Int) < (c : Int)) = false := by simp; omega
        have d1' : decide (1 < c) = false := by simp; omega
        clear h HK9
        go_wp2_with fail
        go_quiet (fail)
        go_wp2_with fail
        go_quiet (fail)
        go_wp2
        go_ret
        obtain ⟨g1, g2⟩ := HMK2.out _
        refine ⟨by rw [HF.out]; rfl, ?_, grown_from g2⟩
        rw [HF.out, HSO.out]
        exact g1
       ·have k9 : ((k : Int) == 9) = false := by simp; omega
        have z0 : ((c : Int) == 0) = false := by simp; omega
        clear h HK9
        go_wp2_with fail
        go_quiet (fail)
        go_wp2_with fail
        go_quiet (fail)
        go_wp2
        go_ret
        obtain ⟨g1, g2⟩ := HMK2.out _
        refine ⟨by rw [HF.out]; rfl, ?_, grown_from g2⟩
        rw [HF.out, HSO.out]
        exact g1
       ·have k9 : ((k : Int) == 9) = false := by simp; omega
        have z0 : ((c : Int) == 0) = true := by simp; omega
        have dk : decide ((0 : Int) < (k : Int)) = false := by simp; omega
        have dk2 : decide (0 < k) = false := by simp; omega
        clear h HK9
        go_wp2_with fail
        go_quiet (fail)
        go_wp2_with fail
        go_quiet (fail)
        go_wp2
        go_ret
        obtain ⟨g1, g2⟩ := HMK2.out _
        refine ⟨by rw [HF.out]; rfl, ?_, grown_from g2⟩
        rw [HF.out, HSO.out]
        exact g1
   ·have HF : Hid (numAt R = (0, 0, 20)) := by
     have h1 := HX.out.2
     rw [numGo_end R k x (by rw [HRE.out, List.length_drop]; omega)] at h1
     exact h1.symm
    generalize hE : s.pos + k = E at *
    have dE : decide ((s.B.length : Int) ≤ (E : Int)) = true := by simp; omega
    have hki : (k : Int) < 10 := by omega
    clear HX hE
    go_wp2_with fail
    go_quiet (fail)
    go_wp2_with fail
    refine (HFA.out _ _).mono ?_
    rintro e w2 ⟨rfl, h8, h9⟩
    go_wp2
    go_ret
    refine ⟨by rw [HF.out]; rfl, ?_, grown_from h9⟩
    rw [HF.out, HSF.out _ _ (by decide)]
    exact h8
 ·have HDD := hide (dead_not d p s w hR hs)
  have HE : Hid (numAt s.rest = (0, 0, 20) ∧ ∀ z y, s.step z y = s) := by
   have hrest : s.rest = [] := restB_sound hs
   exact ⟨by rw [hrest]; rfl, fun z y => by unfold RS.step; rw [if_neg hs]⟩
  have HR := hide hR
  clear hR hs
  go_enter Tryz.func133, Tryz.ntmps133
  go_wp2_with fail
  refine HDD.out.mono ?_
  rintro e wa ⟨rfl, rfl⟩
  go_wp2
  go_ret
  refine ⟨by rw [HE.out.1]; rfl, ?_, ⟨rfl, rfl, rfl, Nat.le_refl _, fun _ _ _ => rfl⟩⟩
  rw [HE.out.2]
  exact HR.out
end Go.Proofs.YtggpaljilpbmhaaGreatDoor
namespace Go.Proofs.YtggpaljilpbmhaaGreatDoor
open Go.RowKit Crc

theorem RS.step_not {s : RS} (hs : ¬ s.sound) (z : Nat) (y : Int) : s.step z y = s := by unfold RS.step; rw [if_neg hs]
theorem RS.rest_not {s : RS} (hs : ¬ s.sound) : s.rest = [] := restB_sound hs
theorem RS.sound_ok {s : RS} (hs : s.sound) (z : Nat) : (s.step z 0).sound := by rw [RS.step_ok hs]; exact hs
theorem RS.unsound {s : RS} (z : Nat) {y : Int} (hy : y ≠ 0) : ¬ (s.step z y).sound := by
 by_cases hs : s.sound
 ·rw [RS.step_fail hs z hy]; exact fun h => hy h.2
 ·rw [RS.step_not hs]; exact hs
/-- Gone back to the field's beginning, and refused. -/
theorem RS.step_back {s : RS} (hs : s.sound) (z z' : Nat) {y : Int} (hy : y ≠ 0) : { s.step z 0 with why := y, place := (s.pos : Int), pos := s.pos } = s.step z' y := by rw [RS.step_ok hs, RS.step_fail hs z' hy]
theorem RS.step_B (s : RS) (z : Nat) (y : Int) : (s.step z y).B = s.B := by unfold RS.step; split <;> (try split) <;> rfl

set_option maxRecDepth 10000 in
set_option maxHeartbeats 1600000 in
theorem refCount_any (d p : Nat) (s : RS) (most : Int) (w : World) (hR : RefS d w p s) (hm1 : -9223372036854775808 ≤ most) (hm2 : most < 9223372036854775808) :
  Calls Tryz.prog 92 #[.pointer (some ⟨p, 0, none⟩), .int .i64 most] w fun e w' => e = .returned (.int .i64 ((countAt s.rest most).1 : Nat)) ∧ RefS d w' p (s.step (countAt s.rest most).2.1 (countAt s.rest most).2.2) ∧ w.grownBy w' (some p) := by
 have HNM := hide (refNum_any d p s w hR)
 have hpl := hR.posle
 obtain ⟨ao, cap, hb, -⟩ := id hR
 have c2 := block_cell hb 2
 simp at c2
 clear hb hR
 have hok := numAt_ok s.rest
 have HCA : Hid (countAt s.rest most = if (numAt s.rest).2.2 ≠ 0 then (0, 0, (numAt s.rest).2.2) else if most < ((numAt s.rest).1 : Int) then (0, 0, 21) else ((numAt s.rest).1, (numAt s.rest).2.1, 0)) := rfl
 have HEM : Hid ((numAt s.rest).2.2 = 0 → s.sound) := by
  intro h
  by_cases hs : s.sound
  ·exact hs
  ·rw [RS.rest_not hs] at h; cases h
 obtain ⟨⟨v, z, y⟩, ht⟩ : ∃ t, t = numAt s.rest := ⟨_, rfl⟩
 rw [← ht] at HNM hok HCA HEM
 simp only at HNM hok HCA HEM
 obtain ⟨ct, hct⟩ : ∃ t, t = countAt s.rest most := ⟨_, rfl⟩
 rw [← hct] at HCA ⊢
 clear ht hct
 by_cases hy : y = 0
 ·have hs : s.sound := HEM.out hy
  subst hy
  have HS := hide (RS.sound_ok hs z)
  have HBK := hide (RS.step_back hs z 0 (y := 21) (by decide))
  have HPB := hide (show s.pos ≤ (s.step z 0).B.length by rw [RS.step_B]; exact hpl)
  have hvl := hok.1
  clear hok hs hpl HEM
  by_cases hmv : most < (v : Int)
  ·have HCT : Hid (ct = (0, 0, 21)) := by
    have := HCA.out
    rw [if_neg (by simp), if_pos hmv] at this
    exact this
   clear HCA
   have HO : Hid (decide (most < 0) = true ∨ decide (most < 0) = false ∧ 0 ≤ most) := by
    show _ ∨ _
    by_cases h : most < 0
    ·exact .inl (by simp [h])
    ·exact .inr ⟨by simp; omega, by omega⟩
   rcases HO.out with h0 | ⟨h0, h0'⟩
   ·clear hmv
    go_enter Tryz.func92, Tryz.ntmps92
    go_wp2_with fail
    refine HNM.out.mono ?_
    rintro e w1 ⟨rfl, h1, h2⟩
    have HDD := hide (dead_sound d p _ w1 h1 HS.out)
    have HFA := hide (refFail_any d p _ 21 s.pos w1 h1 HPB.out)
    have H2 := hide h2
    clear h1 h2
    go_wp2_with fail
    refine HDD.out.mono ?_
    rintro e w2 ⟨rfl, rfl⟩
    go_wp2_with fail
    refine HFA.out.mono ?_
    rintro e w3 ⟨rfl, h3, h4⟩
    go_wp2
    go_ret
    refine ⟨by rw [HCT.out]; rfl, ?_, grown_trans (row := some p) H2.out h4⟩
    rw [HCT.out, ← HBK.out]
    exact h3
   ·obtain ⟨M, rfl⟩ : ∃ M : Nat, most = (M : Int) := ⟨most.toNat, by omega⟩
    have hcv : IntKind.u64.wrap (M : Int) = (M : Int) := wrapu64_nat (by omega)
    have dM : decide ((M : Int) < (v : Int)) = true := by simp; omega
    have dM' : decide (M < v) = true := by simp; omega
    clear hmv h0'
    go_enter Tryz.func92, Tryz.ntmps92
    go_wp2_with fail
    refine HNM.out.mono ?_
    rintro e w1 ⟨rfl, h1, h2⟩
    have HDD := hide (dead_sound d p _ w1 h1 HS.out)
    have HFA := hide (refFail_any d p _ 21 s.pos w1 h1 HPB.out)
    have H2 := hide h2
    clear h1 h2
    go_wp2_with fail
    refine HDD.out.mono ?_
    rintro e w2 ⟨rfl, rfl⟩
    go_wp2_with fail
    refine HFA.out.mono ?_
    rintro e w3 ⟨rfl, h3, h4⟩
    go_wp2
    go_ret
    refine ⟨by rw [HCT.out]; rfl, ?_, grown_trans (row := some p) H2.out h4⟩
    rw [HCT.out, ← HBK.out]
    exact h3
  ·have HCT : Hid (ct = (v, z, 0)) := by
    have := HCA.out
    rw [if_neg (by simp), if_neg hmv] at this
    exact this
   obtain ⟨M, rfl⟩ : ∃ M : Nat, most = (M : Int) := ⟨most.toNat, by omega⟩
   have hcv : IntKind.u64.wrap (M : Int) = (M : Int) := wrapu64_nat (by omega)
   have h0 : decide ((M : Int) < 0) = false := by simp
   have dM : decide ((M : Int) < (v : Int)) = false := by simp; omega
   have dM' : decide (M < v) = false := by simp; omega
   have hv63 : (v : Int) < 9223372036854775808 := by omega
   have hvw : IntKind.i64.wrap (v : Int) = (v : Int) := wrap64_nat (by omega)
   clear HCA hmv
   go_enter Tryz.func92, Tryz.ntmps92
   go_wp2_with fail
   refine HNM.out.mono ?_
   rintro e w1 ⟨rfl, h1, h2⟩
   have HDD := hide (dead_sound d p _ w1 h1 HS.out)
   have H1 := hide h1
   have H2 := hide h2
   clear h1 h2
   go_wp2_with fail
   refine HDD.out.mono ?_
   rintro e w2 ⟨rfl, rfl⟩
   go_wp2
   go_ret
   refine ⟨by rw [HCT.out]; rfl, ?_, H2.out⟩
   rw [HCT.out]
   exact H1.out
 ·have HCT : Hid (ct = (0, 0, y)) := by
   have := HCA.out
   rw [if_pos hy] at this
   exact this
  obtain ⟨rfl, rfl⟩ := hok.2.2.2 hy
  have HN := hide (RS.unsound (s := s) 0 hy)
  clear HCA hok HEM hpl hy
  go_enter Tryz.func92, Tryz.ntmps92
  go_wp2_with fail
  refine HNM.out.mono ?_
  rintro e w1 ⟨rfl, h1, h2⟩
  have HDD := hide (dead_not d p _ w1 h1 HN.out)
  have H1 := hide h1
  have H2 := hide h2
  clear h1 h2
  go_wp2_with fail
  refine HDD.out.mono ?_
  rintro e w2 ⟨rfl, rfl⟩
  go_wp2
  go_ret
  refine ⟨by rw [HCT.out]; rfl, ?_, H2.out⟩
  rw [HCT.out]
  exact H1.out
end Go.Proofs.YtggpaljilpbmhaaGreatDoor
