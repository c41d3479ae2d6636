import Derived.Test.YthacdhhmmmocpaaGreatDoorM42
import Derived.Test.YthacdhhmmmocpaaGreatDoorM21
import Derived.Test.YthacdhhmmmocpaaGreatDoorPRdNil
namespace Go.Proofs.YthacdhhmmmocpaaGreatDoor
open Go.RowKit Crc

theorem strOf_size (L : List Nat) : (strOf L).size = L.length := by
  have h := foldl_push (L.map (fun (x : Nat) => (x : Int))) ByteArray.empty
  have h2 : (strOf L).data.toList.length = L.length := by
    unfold strOf
    rw [h]
    simp
  rw [Array.length_toList] at h2
  exact h2
theorem strOf_nil : strOf [] = ByteArray.empty := rfl
/-- A step that is taken back. -/
theorem RS.step_twice {s : RS} (hs : s.sound) (z z' : Nat) {y : Int} (hy : y ≠ 0) : { s.step z 0 with why := y, place := (s.pos : Int), pos := s.pos } = s.step z' y := RS.step_back hs z z' hy

set_option maxRecDepth 10000 in
set_option maxHeartbeats 1600000 in
theorem refText_any (d p : Nat) (s : RS) (most : Int) (w : World) (hR : RefS d w p s) (hm1 : -9223372036854775808 ≤ most) (hm2 : most < 9223372036854775808) (ok : Bool) (hok : ok = utf8Ok (strOf (blobAt s.rest most).1)) :
    Calls Tryz.prog 44 #[.pointer (some ⟨p, 0, none⟩), .int .i64 most] w fun e w' => e = .returned (.string (textAt s.rest most ok).1) ∧ RefS d w' p (s.step (textAt s.rest most ok).2.1 (textAt s.rest most ok).2.2) ∧ w.grownBy w' (some p) := by
  have HBB := hide (refBlob_any d p s most w hR hm1 hm2)
  have hpl := hR.posle
  obtain ⟨ao, cap, hb, -⟩ := id hR
  have c2 := block_cell hb 2
  simp at c2
  clear hb hR
  have HTA : Hid (textAt s.rest most ok = if (blobAt s.rest most).2.2 ≠ 0 then (ByteArray.empty, 0, (blobAt s.rest most).2.2) else if ok then (strOf (blobAt s.rest most).1, (blobAt s.rest most).2.1, 0) else (ByteArray.empty, 0, 27)) := rfl
  have HEM : Hid ((blobAt s.rest most).2.2 = 0 → s.sound) := by
    intro h
    by_cases hs : s.sound
    · exact hs
    · rw [RS.rest_not hs] at h; cases h
  have HNE : Hid ((blobAt s.rest most).2.2 ≠ 0 → (blobAt s.rest most).1 = []) := by
    intro h
    unfold blobAt at h ⊢
    split
    · rfl
    · split
      · rfl
      · rename_i h1 h2
        rw [if_neg h1, if_neg h2] at h
        exact absurd rfl h
  obtain ⟨tt, htt⟩ : ∃ t, t = textAt s.rest most ok := ⟨_, rfl⟩
  rw [← htt] at HTA ⊢
  obtain ⟨⟨L, z, y⟩, ht⟩ : ∃ t, t = blobAt s.rest most := ⟨_, rfl⟩
  rw [← ht] at HBB HTA HEM HNE hok
  simp only at HBB HTA HEM HNE hok
  have HOK := hide hok
  clear ht htt hok
  by_cases hy : y = 0
  · have hs : s.sound := HEM.out hy
    subst hy
    have HS := hide (RS.sound_ok hs z)
    have HBK := hide (RS.step_back hs z 0 (y := 27) (by decide))
    have HPB := hide (show s.pos ≤ (s.step z 0).B.length by rw [RS.step_B]; exact hpl)
    clear hs hpl HEM HNE
    go_enter Tryz.func44, Tryz.ntmps44
    go_wp2_with fail
    refine HBB.out.mono ?_
    rintro e w1 ⟨v, rfl, hO, h1, h2⟩
    obtain ⟨a1, c1, rfl, hs1, _⟩ := hO.form
    have hcv := run_str hs1
    have HU : Hid (Calls Tryz.prog 30 #[.string (strOf L)] w1 fun e w' => e = .returned (.bool ok) ∧ w' = w1) := by
      rw [HOK.out]
      exact utf8_any (strOf L) w1 (by rw [strOf_size]; exact hs1.2.2.1)
    have HDD := hide (dead_sound d p _ w1 h1 HS.out)
    have HFA := hide (refFail_any d p _ 27 s.pos w1 h1 HPB.out)
    have H1 := hide h1
    have H2 := hide h2
    have HTT : Hid (ok = true ∧ tt = (strOf L, z, 0) ∨ ok = false ∧ tt = (ByteArray.empty, 0, 27)) := by
      have h := HTA.out
      show _ ∨ _
      cases ok with
      | true => exact .inl ⟨rfl, by simpa using h⟩
      | false => exact .inr ⟨rfl, by simpa using h⟩
    clear hO hs1 h1 h2 HTA HOK
    generalize strOf L = S at *
    go_wp2_with fail
    refine HDD.out.mono ?_
    rintro e w2 ⟨rfl, rfl⟩
    go_wp2_with fail
    refine HU.out.mono ?_
    rintro e w2 ⟨rfl, rfl⟩
    rcases HTT.out with ⟨rfl, ht⟩ | ⟨rfl, ht⟩
    · have HT := hide ht
      clear ht HTT
      go_wp2
      go_ret
      refine ⟨by rewrite [HT.out]; rfl, ?_, H2.out⟩
      rewrite [HT.out]
      exact H1.out
    · have HT := hide ht
      clear ht HTT
      go_wp2_with fail
      refine HFA.out.mono ?_
      rintro e w3 ⟨rfl, h3, h4⟩
      go_wp2
      go_ret
      refine ⟨by rewrite [HT.out]; rfl, ?_, grown_trans (row := some p) H2.out h4⟩
      rewrite [HT.out, ← HBK.out]
      exact h3
  · obtain rfl : L = [] := HNE.out hy
    have HT : Hid (tt = (ByteArray.empty, 0, y)) := by
      have h := HTA.out
      rw [if_pos hy] at h
      exact h
    have HN := hide (RS.unsound (s := s) z hy)
    have HZ : Hid (s.step z y = s.step 0 y) := by
      show _ = _
      unfold RS.step
      split <;> rfl
    clear HTA HEM hpl hy HNE HOK
    go_enter Tryz.func44, Tryz.ntmps44
    go_wp2_with fail
    refine HBB.out.mono ?_
    rintro e w1 ⟨v, rfl, hO, h1, h2⟩
    obtain ⟨a1, c1, rfl, hs1, _⟩ := hO.form
    have hcv := run_str hs1
    rw [strOf_nil] at hcv
    simp only [List.length_nil] at hcv
    have HDD := hide (dead_not d p _ w1 h1 HN.out)
    have H1 := hide h1
    have H2 := hide h2
    clear hO hs1 h1 h2
    go_wp2_with fail
    refine HDD.out.mono ?_
    rintro e w2 ⟨rfl, rfl⟩
    go_wp2
    go_ret
    refine ⟨by rewrite [HT.out]; rfl, ?_, H2.out⟩
    rewrite [HT.out, ← HZ.out]
    exact H1.out
end Go.Proofs.YthacdhhmmmocpaaGreatDoor
