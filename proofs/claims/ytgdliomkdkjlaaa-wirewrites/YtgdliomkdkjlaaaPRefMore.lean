import Derived.Test.YtgdliomkdkjlaaaPRefNum
namespace Go.Proofs.Ytgdliomkdkjlaaa
open Go.RowKit Crc

theorem RS.step_not {s : RS} (hs : ¬ s.sound) (z : Nat) (y : Int) : s.step z y = s := by unfold RS.step; rw [if_neg hs]
theorem RS.rest_not {s : RS} (hs : ¬ s.sound) : s.rest = [] := restB_sound hs
theorem RS.sound_ok {s : RS} (hs : s.sound) (z : Nat) : (s.step z 0).sound := by rw [RS.step_ok hs]; exact hs
theorem RS.unsound {s : RS} (z : Nat) {y : Int} (hy : y ≠ 0) : ¬ (s.step z y).sound := by
  by_cases hs : s.sound
  · rw [RS.step_fail hs z hy]; exact fun h => hy h.2
  · rw [RS.step_not hs]; exact hs
/-- Gone back to the field's beginning, and refused. -/
theorem RS.step_back {s : RS} (hs : s.sound) (z z' : Nat) {y : Int} (hy : y ≠ 0) : { s.step z 0 with why := y, place := (s.pos : Int), pos := s.pos } = s.step z' y := by rw [RS.step_ok hs, RS.step_fail hs z' hy]
theorem RS.step_B (s : RS) (z : Nat) (y : Int) : (s.step z y).B = s.B := by unfold RS.step; split <;> (try split) <;> rfl

set_option maxRecDepth 10000 in
set_option maxHeartbeats 1600000 in
theorem refFlag_any (d p : Nat) (s : RS) (w : World) (hR : RefS d w p s) :
    Calls Try.prog 53 #[.pointer (some ⟨p, 0, none⟩)] w fun e w' => e = .returned (.bool (flagV s.rest)) ∧ RefS d w' p (s.step 1 (flagW s.rest)) ∧ w.grownBy w' (some p) := by
  have HFX := hide (refFixed_any d p s 1 1 w rfl (by omega) (by omega) hR)
  have hpl := hR.posle
  obtain ⟨ao, cap, hb, -⟩ := id hR
  have c2 := block_cell hb 2
  simp at c2
  clear hb hR
  rcases hr : s.rest with _ | ⟨c, r⟩
  · have HV : Hid (hi (aheadV s.rest 1) = 0 ∧ aheadW s.rest 1 = 20) := by rw [hr]; exact ⟨rfl, rfl⟩
    obtain ⟨v, hv⟩ : ∃ v, v = hi (aheadV s.rest 1) := ⟨_, rfl⟩
    rw [HV.out.2, ← hv] at HFX
    obtain rfl : v = 0 := by rw [hv]; exact HV.out.1
    have HN := hide (RS.unsound (s := s) 1 (y := 20) (by decide))
    clear hv hr HV
    go_enter Try.func53, Try.ntmps53
    go_wp2_with fail
    refine HFX.out.mono ?_
    rintro e w1 ⟨rfl, h1, h2⟩
    have HDD := hide (dead_not d p _ w1 h1 HN.out)
    have H1 := hide h1
    have H2 := hide h2
    clear h1 h2
    go_wp2_with fail
    refine HDD.out.mono ?_
    rintro e w2 ⟨rfl, rfl⟩
    go_wp2
    go_ret
    exact ⟨rfl, H1.out, H2.out⟩
  · have hs : s.sound := by
      by_cases hs : s.sound
      · exact hs
      · rw [RS.rest_not hs] at hr; cases hr
    have hv1 : hi (aheadV s.rest 1) = c := by rw [hr]; simp [aheadV, hi]
    have hw1 : aheadW s.rest 1 = 0 := by rw [hr]; simp [aheadW]
    rw [hv1, hw1] at HFX
    have HS := hide (RS.sound_ok hs 1)
    have HBK := hide (RS.step_back hs 1 1 (y := 26) (by decide))
    have HPB := hide (show s.pos ≤ (s.step 1 0).B.length by rw [RS.step_B]; exact hpl)
    have HV : Hid (flagV (c :: r) = (c == 1) ∧ flagW (c :: r) = if 1 < c then 26 else 0) := ⟨rfl, rfl⟩
    clear hv1 hw1 hr hs hpl
    by_cases hc : 1 < c
    · have d1 : decide ((1 : Int) < (c : Int)) = true := by simp; omega
      have d1' : decide (1 < c) = true := by simp; omega
      have HW : Hid (flagV (c :: r) = false ∧ flagW (c :: r) = 26) := ⟨by rw [HV.out.1]; simp; omega, by rw [HV.out.2, if_pos hc]⟩
      clear HV hc
      go_enter Try.func53, Try.ntmps53
      go_wp2_with fail
      refine HFX.out.mono ?_
      rintro e w1 ⟨rfl, h1, h2⟩
      have HDD := hide (dead_sound d p _ w1 h1 HS.out)
      have HFA := hide (refFail_any d p _ 26 s.pos w1 h1 HPB.out)
      have H2 := hide h2
      clear h1 h2
      go_wp2_with fail
      refine HDD.out.mono ?_
      rintro e w2 ⟨rfl, rfl⟩
      go_wp2_with fail
      refine HFA.out.mono ?_
      rintro e w3 ⟨rfl, h3, h4⟩
      go_wp2
      go_ret
      refine ⟨by rw [HW.out.1]; rfl, ?_, grown_trans (row := some p) H2.out h4⟩
      rw [HW.out.2, ← HBK.out]
      exact h3
    · have d1 : decide ((1 : Int) < (c : Int)) = false := by simp; omega
      have d1' : decide (1 < c) = false := by simp; omega
      have HW : Hid (flagV (c :: r) = ((c : Int) == 1) ∧ flagW (c :: r) = 0) := ⟨by rw [HV.out.1, Bool.eq_iff_iff]; simp; omega, by rw [HV.out.2, if_neg hc]⟩
      clear HV hc
      go_enter Try.func53, Try.ntmps53
      go_wp2_with fail
      refine HFX.out.mono ?_
      rintro e w1 ⟨rfl, h1, h2⟩
      have HDD := hide (dead_sound d p _ w1 h1 HS.out)
      have H1 := hide h1
      have H2 := hide h2
      clear h1 h2
      go_wp2_with fail
      refine HDD.out.mono ?_
      rintro e w2 ⟨rfl, rfl⟩
      go_wp2
      go_ret
      refine ⟨by rw [HW.out.1]; rfl, ?_, H2.out⟩
      rw [HW.out.2]
      exact H1.out

set_option maxRecDepth 10000 in
set_option maxHeartbeats 1600000 in
theorem refCount_any (d p : Nat) (s : RS) (most : Int) (w : World) (hR : RefS d w p s) (hm1 : -9223372036854775808 ≤ most) (hm2 : most < 9223372036854775808) :
    Calls Try.prog 55 #[.pointer (some ⟨p, 0, none⟩), .int .i64 most] w fun e w' => e = .returned (.int .i64 ((countAt s.rest most).1 : Nat)) ∧ RefS d w' p (s.step (countAt s.rest most).2.1 (countAt s.rest most).2.2) ∧ w.grownBy w' (some p) := by
  have HNM := hide (refNum_any d p s w hR)
  have hpl := hR.posle
  obtain ⟨ao, cap, hb, -⟩ := id hR
  have c2 := block_cell hb 2
  simp at c2
  clear hb hR
  have hok := numAt_ok s.rest
  have HCA : Hid (countAt s.rest most = if (numAt s.rest).2.2 ≠ 0 then (0, 0, (numAt s.rest).2.2) else if most < ((numAt s.rest).1 : Int) then (0, 0, 21) else ((numAt s.rest).1, (numAt s.rest).2.1, 0)) := rfl
  have HEM : Hid ((numAt s.rest).2.2 = 0 → s.sound) := by
    intro h
    by_cases hs : s.sound
    · exact hs
    · rw [RS.rest_not hs] at h; cases h
  obtain ⟨⟨v, z, y⟩, ht⟩ : ∃ t, t = numAt s.rest := ⟨_, rfl⟩
  rw [← ht] at HNM hok HCA HEM
  simp only at HNM hok HCA HEM
  obtain ⟨ct, hct⟩ : ∃ t, t = countAt s.rest most := ⟨_, rfl⟩
  rw [← hct] at HCA ⊢
  clear ht hct
  by_cases hy : y = 0
  · have hs : s.sound := HEM.out hy
    subst hy
    have HS := hide (RS.sound_ok hs z)
    have HBK := hide (RS.step_back hs z 0 (y := 21) (by decide))
    have HPB := hide (show s.pos ≤ (s.step z 0).B.length by rw [RS.step_B]; exact hpl)
    have hvl := hok.1
    clear hok hs hpl HEM
    by_cases hmv : most < (v : Int)
    · have HCT : Hid (ct = (0, 0, 21)) := by
        have := HCA.out
        rw [if_neg (by simp), if_pos hmv] at this
        exact this
      clear HCA
      have HO : Hid (decide (most < 0) = true ∨ decide (most < 0) = false ∧ 0 ≤ most) := by
        show _ ∨ _
        by_cases h : most < 0
        · exact .inl (by simp [h])
        · exact .inr ⟨by simp; omega, by omega⟩
      rcases HO.out with h0 | ⟨h0, h0'⟩
      · clear hmv
        go_enter Try.func55, Try.ntmps55
        go_wp2_with fail
        refine HNM.out.mono ?_
        rintro e w1 ⟨rfl, h1, h2⟩
        have HDD := hide (dead_sound d p _ w1 h1 HS.out)
        have HFA := hide (refFail_any d p _ 21 s.pos w1 h1 HPB.out)
        have H2 := hide h2
        clear h1 h2
        go_wp2_with fail
        refine HDD.out.mono ?_
        rintro e w2 ⟨rfl, rfl⟩
        go_wp2_with fail
        refine HFA.out.mono ?_
        rintro e w3 ⟨rfl, h3, h4⟩
        go_wp2
        go_ret
        refine ⟨by rw [HCT.out]; rfl, ?_, grown_trans (row := some p) H2.out h4⟩
        rw [HCT.out, ← HBK.out]
        exact h3
      · obtain ⟨M, rfl⟩ : ∃ M : Nat, most = (M : Int) := ⟨most.toNat, by omega⟩
        have hcv : IntKind.u64.wrap (M : Int) = (M : Int) := wrapu64_nat (by omega)
        have dM : decide ((M : Int) < (v : Int)) = true := by simp; omega
        have dM' : decide (M < v) = true := by simp; omega
        clear hmv h0'
        go_enter Try.func55, Try.ntmps55
        go_wp2_with fail
        refine HNM.out.mono ?_
        rintro e w1 ⟨rfl, h1, h2⟩
        have HDD := hide (dead_sound d p _ w1 h1 HS.out)
        have HFA := hide (refFail_any d p _ 21 s.pos w1 h1 HPB.out)
        have H2 := hide h2
        clear h1 h2
        go_wp2_with fail
        refine HDD.out.mono ?_
        rintro e w2 ⟨rfl, rfl⟩
        go_wp2_with fail
        refine HFA.out.mono ?_
        rintro e w3 ⟨rfl, h3, h4⟩
        go_wp2
        go_ret
        refine ⟨by rw [HCT.out]; rfl, ?_, grown_trans (row := some p) H2.out h4⟩
        rw [HCT.out, ← HBK.out]
        exact h3
    · have HCT : Hid (ct = (v, z, 0)) := by
        have := HCA.out
        rw [if_neg (by simp), if_neg hmv] at this
        exact this
      obtain ⟨M, rfl⟩ : ∃ M : Nat, most = (M : Int) := ⟨most.toNat, by omega⟩
      have hcv : IntKind.u64.wrap (M : Int) = (M : Int) := wrapu64_nat (by omega)
      have h0 : decide ((M : Int) < 0) = false := by simp
      have dM : decide ((M : Int) < (v : Int)) = false := by simp; omega
      have dM' : decide (M < v) = false := by simp; omega
      have hv63 : (v : Int) < 9223372036854775808 := by omega
      have hvw : IntKind.i64.wrap (v : Int) = (v : Int) := wrap64_nat (by omega)
      clear HCA hmv
      go_enter Try.func55, Try.ntmps55
      go_wp2_with fail
      refine HNM.out.mono ?_
      rintro e w1 ⟨rfl, h1, h2⟩
      have HDD := hide (dead_sound d p _ w1 h1 HS.out)
      have H1 := hide h1
      have H2 := hide h2
      clear h1 h2
      go_wp2_with fail
      refine HDD.out.mono ?_
      rintro e w2 ⟨rfl, rfl⟩
      go_wp2
      go_ret
      refine ⟨by rw [HCT.out]; rfl, ?_, H2.out⟩
      rw [HCT.out]
      exact H1.out
  · have HCT : Hid (ct = (0, 0, y)) := by
      have := HCA.out
      rw [if_pos hy] at this
      exact this
    obtain ⟨rfl, rfl⟩ := hok.2.2.2 hy
    have HN := hide (RS.unsound (s := s) 0 hy)
    clear HCA hok HEM hpl hy
    go_enter Try.func55, Try.ntmps55
    go_wp2_with fail
    refine HNM.out.mono ?_
    rintro e w1 ⟨rfl, h1, h2⟩
    have HDD := hide (dead_not d p _ w1 h1 HN.out)
    have H1 := hide h1
    have H2 := hide h2
    clear h1 h2
    go_wp2_with fail
    refine HDD.out.mono ?_
    rintro e w2 ⟨rfl, rfl⟩
    go_wp2
    go_ret
    refine ⟨by rw [HCT.out]; rfl, ?_, H2.out⟩
    rw [HCT.out]
    exact H1.out
end Go.Proofs.Ytgdliomkdkjlaaa
