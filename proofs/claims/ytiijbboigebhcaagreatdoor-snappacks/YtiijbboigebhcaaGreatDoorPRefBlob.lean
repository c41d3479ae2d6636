import Derived.Test.YtiijbboigebhcaaGreatDoorM4
import Derived.Deep.RegionHeld
namespace Go.Proofs.YtiijbboigebhcaaGreatDoor
open Go.RowKit Crc

theorem cell_block_lt {w : World} {b o : Nat} {v : Value} (h : w.cell? ⟨b, o, none⟩ = some v) : b < w.heap.size := World.block_lt_of_cell? w _ h
/-- Copy of a part of the reader's bytes, wherever the walk says that it lies. -/
theorem copy_part (d o n cap : Nat) (ao : Option Addr) (B : List Nat) (w : World) (hao : 0 < n → ao = some ⟨d, o, none⟩) (hd : 0 < n → d < w.heap.size) (hl : o + n ≤ B.length) (h47 : B.length ≤ 140737488355328) (hB : ∀ x ∈ B, x < 256)
    (hc : ∀ i, i < B.length → w.cell? ⟨d, i, none⟩ = some (.int .u8 ((B.getD i 0 : Nat) : Int))) :
    Calls Tryz.prog 82 #[.slice ao n cap] w fun e w' => ∃ v, e = .returned v ∧ Owns w.heap.size w' v ((B.drop o).take n) ∧ Below w.heap.size w w' :=
  copy_walk d o ao _ n cap w hao (by rw [List.length_take, List.length_drop]; omega) (by omega) (fun x hx => hB x (List.mem_of_mem_drop (List.mem_of_mem_take hx))) hd
    (fun i hi => by
      rw [hc (o + i) (by omega)]
      rw [List.getD_eq_getElem?_getD, List.getD_eq_getElem?_getD, List.getElem?_take, if_pos hi, List.getElem?_drop])

set_option maxRecDepth 10000 in
set_option maxHeartbeats 3200000 in
theorem refBlob_any (d p : Nat) (s : RS) (most : Int) (w : World) (hR : RefS d w p s) (hm1 : -9223372036854775808 ≤ most) (hm2 : most < 9223372036854775808) :
    Calls Tryz.prog 85 #[.pointer (some ⟨p, 0, none⟩), .int .i64 most] w fun e w' => ∃ v, e = .returned v ∧ Owns w.heap.size w' v (blobAt s.rest most).1 ∧ RefS d w' p (s.step (blobAt s.rest most).2.1 (blobAt s.rest most).2.2) ∧ w.grownBy w' (some p) := by
  have HCN := hide (refCount_any d p s most w hR hm1 hm2)
  have hpl := hR.posle
  obtain ⟨ao, cap, hb, -⟩ := id hR
  have c2 := block_cell hb 2
  simp at c2
  clear hb hR
  have hok := countAt_ok s.rest most
  have hbb : blobAt s.rest most = if (countAt s.rest most).2.2 ≠ 0 then ([], 0, (countAt s.rest most).2.2) else if s.rest.length < (countAt s.rest most).2.1 + (countAt s.rest most).1 then ([], 0, 20) else ((s.rest.drop (countAt s.rest most).2.1).take (countAt s.rest most).1, (countAt s.rest most).2.1 + (countAt s.rest most).1, 0) := rfl
  have HEM : Hid ((countAt s.rest most).2.2 = 0 → s.sound) := by
    intro h
    by_cases hs : s.sound
    · exact hs
    · rw [RS.rest_not hs] at h; cases h
  obtain ⟨⟨n, z, y⟩, ht⟩ : ∃ t, t = countAt s.rest most := ⟨_, rfl⟩
  rw [← ht] at HCN hok hbb HEM
  simp only at HCN hok hbb HEM
  have HBB := hide hbb
  obtain ⟨bt, hbt⟩ : ∃ t, t = blobAt s.rest most := ⟨_, rfl⟩
  rw [← hbt] at HBB ⊢
  clear ht hbt hbb
  by_cases hy : y = 0
  · have hs : s.sound := HEM.out hy
    subst hy
    have HS := hide (RS.sound_ok hs z)
    have HS1 := hide (RS.step_ok hs z)
    have HRE := hide (RS.rest_eq hs)
    have HRL := hide (rest_len hs)
    have HBK := hide (RS.step_back hs z 0 (y := 20) (by decide))
    have HOK := hide (fun a => RS.step_ok hs a)
    have HPB := hide (show s.pos ≤ (s.step z 0).B.length by rw [RS.step_B]; exact hpl)
    have HSP : Hid ((s.step z 0).pos = s.pos + z ∧ (s.step z 0).B = s.B ∧ (s.step z 0).made = s.made) := by rw [HS1.out]; exact ⟨rfl, rfl, rfl⟩
    have HMD := hide hs.1
    have HZ := hide (show s.pos + z ≤ s.B.length by have h1 := hok.1; rw [rest_len hs] at h1; omega)
    clear hok hs hpl HEM
    by_cases hfit : s.rest.length < z + n
    · have HBT : Hid (bt = ([], 0, 20)) := by
        have := HBB.out
        rw [if_neg (by simp), if_pos hfit] at this
        exact this
      have HLT : Hid (s.B.length - (s.pos + z) < n) := by show _ < _; have := HRL.out; have := HZ.out; omega
      clear HBB hfit
      go_enter Tryz.func85, Tryz.ntmps85
      go_wp2_with fail
      refine HCN.out.mono ?_
      rintro e w1 ⟨rfl, h1, h2⟩
      have HDD := hide (dead_sound d p _ w1 h1 HS.out)
      have HLE := hide (refLeft_any d p _ w1 h1 (fun h => by rw [HSP.out.2.2, HMD.out] at h; cases h))
      rw [HSP.out.1, HSP.out.2.1] at HLE
      have HFA := hide (fun q => refFail_any d p _ 20 s.pos (w1.drewN q) (h1.world rfl) HPB.out)
      have H2 := hide h2
      clear h1 h2
      obtain ⟨L, hL⟩ : ∃ L, L = s.B.length - (s.pos + z) := ⟨_, rfl⟩
      rw [← hL] at HLE HLT
      have dL : decide ((L : Int) < (n : Int)) = true := by have := HLT.out; simp; omega
      have dL' : decide (L < n) = true := by have := HLT.out; simp; omega
      clear hL
      go_wp2_with fail
      refine HDD.out.mono ?_
      rintro e w2 ⟨rfl, rfl⟩
      go_wp2_with fail
      refine HLE.out.mono ?_
      rintro e w2 ⟨rfl, q, rfl⟩
      go_wp2_with fail
      refine (HFA.out q).mono ?_
      rintro e w3 ⟨rfl, h3, h4⟩
      go_wp2
      go_ret
      refine ⟨_, rfl, ?_, ?_, grown_trans (row := some p) H2.out (grown_from h4)⟩
      · rw [HBT.out]
        exact Owns.nil _ _
      · rw [HBT.out, ← HBK.out]
        exact h3
    · have HBT : Hid (bt = ((s.B.drop (s.pos + z)).take n, z + n, 0)) := by
        have := HBB.out
        rw [if_neg (by simp), if_neg hfit] at this
        rw [HRE.out, List.drop_drop] at this
        exact this
      have HON : Hid (s.pos + z + n ≤ s.B.length) := by show _ ≤ _; have := HRL.out; have := HZ.out; omega
      have HST : Hid ({ s.step z 0 with pos := (s.step z 0).pos + n } = s.step (z + n) 0) := by
        show _ = _
        rw [HS1.out, HOK.out, Nat.add_assoc]
      clear HBB hfit HBK HPB
      obtain ⟨o, ho⟩ : ∃ o, o = s.pos + z := ⟨_, rfl⟩
      rw [← ho] at HSP HBT HON HZ
      have HO := hide ho
      clear ho
      go_enter Tryz.func85, Tryz.ntmps85
      go_wp2_with fail
      refine HCN.out.mono ?_
      rintro e w1 ⟨rfl, h1, h2⟩
      have HDD := hide (dead_sound d p _ w1 h1 HS.out)
      have HLE := hide (refLeft_any d p _ w1 h1 (fun h => by rw [HSP.out.2.2, HMD.out] at h; cases h))
      rw [HSP.out.1, HSP.out.2.1] at HLE
      have H1 := hide h1
      have H2 := hide h2
      obtain ⟨a1, cap1, hb1, ⟨g1, g1'⟩, g2, g3, g4, g5, g6, g7⟩ := h1
      rw [HSP.out.2.1] at hb1 g1 g1' g2 g3 g4 g5 g6 g7
      rw [HSP.out.1] at hb1 g4
      have HP := hide (block_lt hb1)
      have k1 := block_cell hb1 1
      have k2 := block_cell hb1 2
      have f2 := block_free hb1 2
      simp at k1 k2
      have HCP : Hid (∀ q a n' c', (0 < n → a = some ⟨d, o, none⟩) → n' = n → Calls Tryz.prog 82 #[.slice a n' c'] (w1.drewN q) fun e w' => ∃ v, e = .returned v ∧ Owns w1.heap.size w' v ((s.B.drop o).take n) ∧ Below w1.heap.size w1 w' ∧ (∀ j, w'.cell? ⟨p, j, none⟩ = w1.cell? ⟨p, j, none⟩) ∧ w'.frozen? ⟨p, 2, none⟩ = false) := by
        intro q a n' c' hao hn'
        subst hn'
        refine (copy_part d o n' c' a s.B (w1.drewN q) hao (fun h => ?_) HON.out g2 g3 g7).mono ?_
        · exact cell_block_lt (g7 0 (by have := HON.out; omega))
        · rintro e w' ⟨v, rfl, h3, h4⟩
          have hb : Below w1.heap.size w1 w' := ⟨h4.os, h4.tape, h4.output, h4.size, h4.block⟩
          exact ⟨v, rfl, h3, hb, fun j => hb.cell (p := ⟨p, j, none⟩) HP.out, block_free ((hb.block p HP.out).trans hb1) 2⟩
      obtain ⟨L, hL⟩ : ∃ L, L = s.B.length - o := ⟨_, rfl⟩
      rw [← hL] at HLE
      have dL : decide ((L : Int) < (n : Int)) = false := by have := HON.out; simp; omega
      have dL' : decide (L < n) = false := by have := HON.out; simp; omega
      have HFIN : Hid (∀ v w3, Owns w1.heap.size w3 v ((s.B.drop o).take n) → Below w1.heap.size w1 w3 → Owns w.heap.size (w3.setCell ⟨p, 2, none⟩ (.int .i64 ((o : Int) + (n : Int)))) v bt.1 ∧ RefS d (w3.setCell ⟨p, 2, none⟩ (.int .i64 ((o : Int) + (n : Int)))) p (s.step bt.2.1 bt.2.2) ∧ w.grownBy (w3.setCell ⟨p, 2, none⟩ (.int .i64 ((o : Int) + (n : Int)))) (some p)) := by
        intro v w3 hO hB
        have hg : w1.grownBy w3 none := below_none hB
        have hR3 : RefS d w3 p (s.step z 0) := H1.out.kept hg (by simp) (by simp)
        have hmv := hR3.moved n (by rw [HSP.out.1, HSP.out.2.1]; exact HON.out)
        rw [HSP.out.1] at hmv
        rw [HBT.out]
        refine ⟨(hO.lower H2.out.size).kept (grown_set _ _ _ _) ?_, ?_, ?_⟩
        · obtain ⟨a0, c0, rfl, _, (⟨rfl, _⟩ | ⟨g, rfl, hg, _⟩)⟩ := hO.form
          · exact .inl rfl
          · refine .inr (fun e => ?_)
            have e' : g = p := by simpa [Value.ownBlock] using e
            have := HP.out
            omega
        · have h5 := hmv.1
          rw [show ({ s.step z 0 with pos := o + n } : RS) = { s.step z 0 with pos := (s.step z 0).pos + n } by rw [HSP.out.1], HST.out] at h5
          exact h5
        · exact grown_trans (row := some p) (grown_quiet H2.out hg) hmv.2
      have hon : (o : Int) + (n : Int) ≤ (s.B.length : Int) := by have := HON.out; omega
      have hon47 : (s.B.length : Int) ≤ 140737488355328 := by omega
      have hocap : (o : Int) + (n : Int) ≤ (cap1 : Int) := by omega
      have ho0 : (0 : Int) ≤ (o : Int) + (n : Int) := by omega
      have hoo : (o : Int) ≤ (o : Int) + (n : Int) := by omega
      have hw : IntKind.i64.wrap ((o : Int) + (n : Int)) = ((o + n : Nat) : Int) := by rw [← Int.natCast_add]; exact wrap64_nat (by have := HON.out; omega)
      clear hb1 g3 g4 g5 g6 g7 h2 hL
      rcases g1' with rfl | ⟨rfl, rfl, hB0⟩
      · by_cases hce : cap1 = o
        · obtain rfl : n = 0 := by have := HON.out; omega
          obtain rfl : o = cap1 := hce.symm
          have hw0 : IntKind.i64.wrap ((o : Int) + 0) = (o : Int) := by rw [Int.add_zero]; exact wrap64_nat (by omega)
          have hw1 : IntKind.i64.wrap (o : Int) = (o : Int) := wrap64_nat (by omega)
          have hq0 : (0 : Int) ≤ (o : Int) := by omega
          have hq1 : ((o : Int)).toNat = o := by omega
          have hq2 : (o : Int) ≤ 140737488355328 := by omega
          clear hw hocap ho0 hoo hon g1
          go_wp2_with fail
          refine HDD.out.mono ?_
          rintro e w2 ⟨rfl, rfl⟩
          go_wp2_with fail
          refine HLE.out.mono ?_
          rintro e w2 ⟨rfl, q, rfl⟩
          go_wp2_with fail
          go_region_held (fun w' => w'.cell? ⟨p, 1, none⟩ = some (.slice (some ⟨d, 0, none⟩) s.B.length o) ∧ w'.cell? ⟨p, 2, none⟩ = some (.int .i64 (o : Int))) (go_keep)
            ((go_at_call 82; refine (HCP.out _ _ _ _ ?_ ?_).mono ?_; (intro h; omega); (first | rfl | omega); rintro e w3 ⟨v, rfl, hO3, hB3, hcs, hf3⟩; have hx1 := (hcs 1).trans k1; have hx2 := (hcs 2).trans k2))
          all_goals go_wp2
          all_goals go_ret
          all_goals exact ⟨v, rfl, HFIN.out v w3 hO3 hB3⟩
        · go_wp2_with fail
          refine HDD.out.mono ?_
          rintro e w2 ⟨rfl, rfl⟩
          go_wp2_with fail
          refine HLE.out.mono ?_
          rintro e w2 ⟨rfl, q, rfl⟩
          go_wp2_with fail
          go_region_held (fun w' => w'.cell? ⟨p, 1, none⟩ = some (.slice (some ⟨d, 0, none⟩) s.B.length cap1) ∧ w'.cell? ⟨p, 2, none⟩ = some (.int .i64 (o : Int))) (go_keep)
            ((go_at_call 82; refine (HCP.out _ _ _ _ ?_ ?_).mono ?_; (intro _; rfl); (first | rfl | omega); rintro e w3 ⟨v, rfl, hO3, hB3, hcs, hf3⟩; have hx1 := (hcs 1).trans k1; have hx2 := (hcs 2).trans k2))
          all_goals go_wp2
          all_goals go_ret
          all_goals exact ⟨v, rfl, HFIN.out v w3 hO3 hB3⟩
      · rw [hB0] at k1
        obtain rfl : n = 0 := by have := HON.out; omega
        obtain rfl : o = 0 := by have := HON.out; omega
        have k2 : w1.cell? ⟨p, 2, none⟩ = some (.int .i64 0) := k2
        go_wp2_with fail
        refine HDD.out.mono ?_
        rintro e w2 ⟨rfl, rfl⟩
        go_wp2_with fail
        refine HLE.out.mono ?_
        rintro e w2 ⟨rfl, q, rfl⟩
        go_wp2_with fail
        go_region_held (fun w' => w'.cell? ⟨p, 1, none⟩ = some (.slice none 0 0) ∧ w'.cell? ⟨p, 2, none⟩ = some (.int .i64 0)) (go_keep)
          ((go_at_call 82; refine (HCP.out _ _ _ _ ?_ ?_).mono ?_; (intro h; omega); (first | rfl | omega); rintro e w3 ⟨v, rfl, hO3, hB3, hcs, hf3⟩; have hx1 := (hcs 1).trans k1; have hx2 := (hcs 2).trans k2))
        all_goals go_wp2
        all_goals go_ret
        all_goals exact ⟨v, rfl, HFIN.out v w3 hO3 hB3⟩
  · have HBT : Hid (bt = ([], 0, y)) := by
      have := HBB.out
      rw [if_pos hy] at this
      exact this
    obtain ⟨rfl, rfl⟩ := hok.2.2.2.2 hy
    have HN := hide (RS.unsound (s := s) 0 hy)
    clear HBB hok HEM hpl hy
    go_enter Tryz.func85, Tryz.ntmps85
    go_wp2_with fail
    refine HCN.out.mono ?_
    rintro e w1 ⟨rfl, h1, h2⟩
    have HDD := hide (dead_not d p _ w1 h1 HN.out)
    have H1 := hide h1
    have H2 := hide h2
    clear h1 h2
    go_wp2_with fail
    refine HDD.out.mono ?_
    rintro e w2 ⟨rfl, rfl⟩
    go_wp2
    go_ret
    refine ⟨_, rfl, ?_, ?_, H2.out⟩
    · rw [HBT.out]
      exact Owns.nil _ _
    · rw [HBT.out]
      exact H1.out
end Go.Proofs.YtiijbboigebhcaaGreatDoor
