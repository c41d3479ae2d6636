import Derived.Test.YthacdhhmmmocpaaGreatDoorM19
namespace Go.Proofs.YthacdhhmmmocpaaGreatDoor
open Go.RowKit Crc

theorem RefS.world {d : Nat} {w w' : World} {p : Nat} {s : RS} (h : RefS d w p s) (he : w'.heap = w.heap) : RefS d w' p s := by
  obtain ⟨ao, cap, hb, h1, h2, h3, h4, h5, h6, h7⟩ := h
  refine ⟨ao, cap, by rw [he]; exact hb, h1, h2, h3, h4, h5, h6, fun i hi => ?_⟩
  exact (World.cell?_of_block (w := w) (w' := w') (a := ⟨d, i, none⟩) (by rw [he])).trans (h7 i hi)
theorem RefS.posle {d : Nat} {w : World} {p : Nat} {s : RS} (h : RefS d w p s) : s.pos ≤ s.B.length := by obtain ⟨ao, cap, hb, h1, h2, h3, h4, _⟩ := h; exact h4
/-- The place moved on. -/
theorem RefS.moved {d : Nat} {w : World} {p : Nat} {s : RS} (h : RefS d w p s) (k : Nat) (hk : s.pos + k ≤ s.B.length) :
    RefS d (w.setCell ⟨p, 2, none⟩ (.int .i64 ((s.pos : Int) + (k : Int)))) p { s with pos := s.pos + k } ∧ w.grownBy (w.setCell ⟨p, 2, none⟩ (.int .i64 ((s.pos : Int) + (k : Int)))) (some p) := by
  obtain ⟨ao, cap, hb, h1, h2, h3, h4, h5, h6, h7⟩ := h
  refine ⟨⟨ao, cap, ?_, h1, h2, h3, hk, h5, h6, fun i hi => ?_⟩, grown_set _ _ _ _⟩
  · rw [heap_setCell_same w p 2 _ _ _ hb]; simp
  · exact (grown_set w p 2 _).cell (h7 i hi) (fun e => h6 (by simp only at hi; omega) (by cases e; rfl))

theorem wrap64_nat {n : Nat} (h : n < 9223372036854775808) : IntKind.i64.wrap (n : Int) = (n : Int) := by
  have h1 : (n : Int) < 9223372036854775808 := by omega
  simp [IntKind.wrap, IntKind.bits, IntKind.signed]
  omega
theorem wrapu64_nat {n : Nat} (h : n < 18446744073709551616) : IntKind.u64.wrap (n : Int) = (n : Int) := by
  have h1 : (n : Int) < 18446744073709551616 := by omega
  simp [IntKind.wrap, IntKind.bits, IntKind.signed]
  omega

set_option maxRecDepth 10000 in
set_option maxHeartbeats 1600000 in
theorem refFixed_any (d p : Nat) (s : RS) (k : Nat) (ki : Int) (w : World) (hki : ki = (k : Int)) (hk : 0 < k) (hk8 : k ≤ 8) (hR : RefS d w p s) :
    Calls Tryz.prog 41 #[.pointer (some ⟨p, 0, none⟩), .int .i64 ki] w fun e w' => e = .returned (.int .u64 (hi (aheadV s.rest k) : Nat)) ∧ RefS d w' p (s.step k (aheadW s.rest k)) ∧ w.grownBy w' (some p) := by
  subst hki
  by_cases hs : s.sound
  · have HDD := hide (dead_sound d p s w hR hs)
    have HLE := hide (refLeft_any d p s w hR (fun h => by rw [hs.1] at h; cases h))
    have hpl := hR.posle
    have hrest : s.rest = s.B.drop s.pos := by unfold RS.rest restB; rw [if_pos (show s.made = true ∧ s.why = 0 from hs)]
    by_cases hsh : s.B.length - s.pos < k
    · have HE : Hid (hi (aheadV s.rest k) = 0 ∧ aheadW s.rest k = 20) := by
        have : s.rest.length < k := by rw [hrest, List.length_drop]; exact hsh
        exact ⟨by unfold aheadV; rw [if_pos this]; rfl, by unfold aheadW; rw [if_pos this]⟩
      have HS : Hid (s.step k 20 = { s with why := 20, place := s.pos, pos := s.pos }) := by unfold RS.step; rw [if_pos hs]; rfl
      have HFA := hide (fun q => refFail_any d p s 20 s.pos (w.drewN q) (hR.world rfl) hpl)
      obtain ⟨ao, cap, hb, -⟩ := hR
      have c2 := block_cell hb 2
      simp at c2
      have HL : Hid (((s.B.length - s.pos : Nat) : Int) < (k : Int)) := by show _ < _; omega
      generalize hm : s.B.length - s.pos = m at *
      have h1 := HL.out
      generalize hq : s.pos = pos at *
      clear hb hrest hsh hs hpl hm
      go_enter Tryz.func41, Tryz.ntmps41
      go_wp2_with fail
      refine HDD.out.mono ?_
      rintro e w1 ⟨rfl, rfl⟩
      go_wp2_with fail
      refine HLE.out.mono ?_
      rintro e w1 ⟨rfl, q, rfl⟩
      go_wp2_with fail
      refine (HFA.out q).mono ?_
      rintro e w2 ⟨rfl, h5, h6⟩
      go_wp2
      go_ret
      refine ⟨by rw [HE.out.1]; rfl, ?_, grown_from h6⟩
      rw [HE.out.2, HS.out]
      exact h5
    · have hnl : ¬ s.rest.length < k := by rw [hrest, List.length_drop]; exact hsh
      have HE : Hid (aheadV s.rest k = (s.B.drop s.pos).take k ∧ aheadW s.rest k = 0) := by
        exact ⟨by unfold aheadV; rw [if_neg hnl, hrest], by unfold aheadW; rw [if_neg hnl]⟩
      have HS : Hid (s.step k 0 = { s with pos := s.pos + k }) := by unfold RS.step; rw [if_pos hs]; rfl
      have HMV := hide (fun q => (hR.world (w' := w.drewN q) rfl).moved k (by omega))
      have HB : Hid (∀ x ∈ s.B, x < 256) := by obtain ⟨ao, cap, hb, h1, h2, h3, -⟩ := hR; exact h3
      obtain ⟨ao, cap, hb, h1, h2, h3, h4, h5, h6, h7⟩ := hR
      obtain rfl := h5 (by omega)
      have HC := hide h7
      have c1 := block_cell hb 1
      have c2 := block_cell hb 2
      have f2 := block_free hb 2
      simp at c1 c2
      have HLn := hide (show s.pos + k ≤ s.B.length by omega)
      have hL : ¬ (((s.B.length - s.pos : Nat) : Int) < (k : Int)) := by omega
      have hn47 : (s.B.length : Int) ≤ 140737488355328 := by omega
      have hpk : (s.pos : Int) + (k : Int) ≤ (s.B.length : Int) := by omega
      generalize hm : s.B.length - s.pos = m at *
      clear hb hrest hsh hs hpl hm h1 h2 h3 h4 h5 h6 h7 hnl
      go_enter Tryz.func41, Tryz.ntmps41
      go_wp2_with fail
      refine HDD.out.mono ?_
      rintro e wa ⟨rfl, rfl⟩
      go_wp2_with fail
      refine HLE.out.mono ?_
      rintro e w1 ⟨rfl, q, rfl⟩
      go_wp2_with fail
      go_loopw [5, 6] (fun v i wr => ∃ j x q : Nat, j ≤ k ∧ i = .int .i64 j ∧ v = .int .u64 x ∧ wr = wa.drewN q ∧ Hid (x = hi ((s.B.drop s.pos).take j))) (fun _ i _ => k - (intOf i).toNat)
      case atStart => exact ⟨0, 0, q, Nat.zero_le _, rfl, rfl, rfl, by show _ = _; simp [hi]⟩
      case round =>
        obtain ⟨j, x, q, hj, rfl, rfl, rfl, HX⟩ := hrel
        by_cases hlt : j < k
        · have hcj := HC.out (s.pos + j) (by have := HLn.out; omega)
          have hcb : s.B.getD (s.pos + j) 0 < 256 := getD_lt s.B HB.out _
          have hst := hi_step (s.B.drop s.pos) j (by rw [List.length_drop]; have := HLn.out; omega)
          rw [← HX.out] at hst
          have hgd : (s.B.drop s.pos).getD j 0 = s.B.getD (s.pos + j) 0 := by rw [List.getD_eq_getElem?_getD, List.getElem?_drop, ← List.getD_eq_getElem?_getD]
          rw [hgd] at hst
          obtain ⟨c, hcd⟩ : ∃ c, c = s.B.getD (s.pos + j) 0 := ⟨_, rfl⟩
          rw [← hcd] at hcj hcb hst
          have hxl : x < 72057594037927936 := by
            have h1 := hi_lt ((s.B.drop s.pos).take j) (fun x hx => HB.out x (List.mem_of_mem_drop (List.mem_of_mem_take hx)))
            rw [← HX.out, List.length_take] at h1
            have h2 : 256 ^ min j (s.B.drop s.pos).length ≤ 256 ^ 7 := Nat.pow_le_pow_right (by omega) (by omega)
            omega
          have HS1 : Hid (x * 256 + c = hi ((s.B.drop s.pos).take (j + 1))) := hst.symm
          have hEl : ((s.pos + j : Nat) : Int) < (s.B.length : Int) := by have := HLn.out; omega
          have he : IntKind.i64.wrap ((s.pos : Int) + (j : Int)) = ((s.pos + j : Nat) : Int) := by rw [← Int.natCast_add]; exact wrap64_nat (by omega)
          have hx1 : IntKind.u64.wrap ((x : Int) * 256) = ((x * 256 : Nat) : Int) := by rw [show (x : Int) * 256 = ((x * 256 : Nat) : Int) by omega]; exact wrapu64_nat (by omega)
          have hx2 : IntKind.u64.wrap (((x * 256 : Nat) : Int) + (c : Int)) = ((x * 256 + c : Nat) : Int) := by rw [← Int.natCast_add]; exact wrapu64_nat (by omega)
          have hcp : IntKind.u64.wrap (c : Int) = (c : Int) := wrapu64_nat (by omega)
          generalize hE : s.pos + j = E at *
          generalize hX : x * 256 = X at *
          generalize hY : X + c = Y at *
          have HY := hide hY
          clear hst hcd HX hgd hE hX hY
          have hji : (j : Int) < (k : Int) := by omega
          have hcc : (c : Int) < 256 := by omega
          go_wp2_with fail
          go_quiet (fail)
          go_wp2
          go_roundw
          case rel => exact ⟨j + 1, Y, _, by omega, by go_num, rfl, rfl, HS1⟩
          case measure => simp [intOf]; omega
        · obtain rfl : j = k := by omega
          have HFX : Hid (x = hi (aheadV s.rest j)) := by
            show _ = _
            rw [HX.out, HE.out.1]
          have HMQ := hide (HMV.out q)
          have hpk2 : (s.pos : Int) + (j : Int) ≤ 140737488355328 := by omega
          clear HX HC HMV
          go_wp2
          go_ret
          refine ⟨by rw [← HFX.out]; rfl, ?_, grown_from HMQ.out.2⟩
          rw [HE.out.2, HS.out]
          exact HMQ.out.1
  · have HDD := hide (dead_not d p s w hR hs)
    have HE : Hid (hi (aheadV s.rest k) = 0 ∧ ∀ y, s.step k y = s) := by
      have hrest : s.rest = [] := restB_sound hs
      refine ⟨?_, fun y => by unfold RS.step; rw [if_neg hs]⟩
      rw [hrest]
      unfold aheadV
      split <;> simp [hi]
    have HR := hide hR
    clear hR hs
    go_enter Tryz.func41, Tryz.ntmps41
    go_wp2_with fail
    refine HDD.out.mono ?_
    rintro e wa ⟨rfl, rfl⟩
    go_wp2
    go_ret
    refine ⟨by rw [HE.out.1]; rfl, ?_, ⟨rfl, rfl, rfl, Nat.le_refl _, fun _ _ _ => rfl⟩⟩
    rw [HE.out.2]
    exact HR.out
end Go.Proofs.YthacdhhmmmocpaaGreatDoor
