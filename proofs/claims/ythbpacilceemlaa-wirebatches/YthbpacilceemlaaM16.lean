import Derived.Test.YthbpacilceemlaaPRefNum
import Derived.Test.YthbpacilceemlaaM8
namespace Go.Proofs.Ythbpacilceemlaa
open Go.RowKit Crc

theorem RS.step_not {s : RS} (hs : ¬ s.sound) (z : Nat) (y : Int) : s.step z y = s := by unfold RS.step; rw [if_neg hs]
theorem RS.rest_not {s : RS} (hs : ¬ s.sound) : s.rest = [] := restB_sound hs
theorem RS.sound_ok {s : RS} (hs : s.sound) (z : Nat) : (s.step z 0).sound := by rw [RS.step_ok hs]; exact hs
theorem RS.unsound {s : RS} (z : Nat) {y : Int} (hy : y ≠ 0) : ¬ (s.step z y).sound := by
  by_cases hs : s.sound
  · rw [RS.step_fail hs z hy]; exact fun h => hy h.2
  · rw [RS.step_not hs]; exact hs
/-- Gone back to the field's beginning, and refused. -/
theorem RS.step_back {s : RS} (hs : s.sound) (z z' : Nat) {y : Int} (hy : y ≠ 0) : { s.step z 0 with why := y, place := (s.pos : Int), pos := s.pos } = s.step z' y := by rw [RS.step_ok hs, RS.step_fail hs z' hy]
theorem RS.step_B (s : RS) (z : Nat) (y : Int) : (s.step z y).B = s.B := by unfold RS.step; split <;> (try split) <;> rfl

set_option maxRecDepth 10000 in
set_option maxHeartbeats 1600000 in
theorem refFlag_any (d p : Nat) (s : RS) (w : World) (hR : RefS d w p s) :
    Calls Try.prog 59 #[.pointer (some ⟨p, 0, none⟩)] w fun e w' => e = .returned (.bool (flagV s.rest)) ∧ RefS d w' p (s.step 1 (flagW s.rest)) ∧ w.grownBy w' (some p) := by
  have HFX := hide (refFixed_any d p s 1 1 w rfl (by omega) (by omega) hR)
  have hpl := hR.posle
  obtain ⟨ao, cap, hb, -⟩ := id hR
  have c2 := block_cell hb 2
  simp at c2
  clear hb hR
  rcases hr : s.rest with _ | ⟨c, r⟩
  · have HV : Hid (hi (aheadV s.rest 1) = 0 ∧ aheadW s.rest 1 = 20) := by rw [hr]; exact ⟨rfl, rfl⟩
    obtain ⟨v, hv⟩ : ∃ v, v = hi (aheadV s.rest 1) := ⟨_, rfl⟩
    rw [HV.out.2, ← hv] at HFX
    obtain rfl : v = 0 := by rw [hv]; exact HV.out.1
    have HN := hide (RS.unsound (s := s) 1 (y := 20) (by decide))
    clear hv hr HV
    go_enter Try.func59, Try.ntmps59
    go_wp2_with fail
    refine HFX.out.mono ?_
    rintro e w1 ⟨rfl, h1, h2⟩
    have HDD := hide (dead_not d p _ w1 h1 HN.out)
    have H1 := hide h1
    have H2 := hide h2
    clear h1 h2
    go_wp2_with fail
    refine HDD.out.mono ?_
    rintro e w2 ⟨rfl, rfl⟩
    go_wp2
    go_ret
    exact ⟨rfl, H1.out, H2.out⟩
  · have hs : s.sound := by
      by_cases hs : s.sound
      · exact hs
      · rw [RS.rest_not hs] at hr; cases hr
    have hv1 : hi (aheadV s.rest 1) = c := by rw [hr]; simp [aheadV, hi]
    have hw1 : aheadW s.rest 1 = 0 := by rw [hr]; simp [aheadW]
    rw [hv1, hw1] at HFX
    have HS := hide (RS.sound_ok hs 1)
    have HBK := hide (RS.step_back hs 1 1 (y := 26) (by decide))
    have HPB := hide (show s.pos ≤ (s.step 1 0).B.length by rw [RS.step_B]; exact hpl)
    have HV : Hid (flagV (c :: r) = (c == 1) ∧ flagW (c :: r) = if 1 < c then 26 else 0) := ⟨rfl, rfl⟩
    clear hv1 hw1 hr hs hpl
    by_cases hc : 1 < c
    · have d1 : decide ((1 : Int) < (c : Int)) = true := by simp; omega
      have d1' : decide (1 < c) = true := by simp; omega
      have HW : Hid (flagV (c :: r) = false ∧ flagW (c :: r) = 26) := ⟨by rw [HV.out.1]; simp; omega, by rw [HV.out.2, if_pos hc]⟩
      clear HV hc
      go_enter Try.func59, Try.ntmps59
      go_wp2_with fail
      refine HFX.out.mono ?_
      rintro e w1 ⟨rfl, h1, h2⟩
      have HDD := hide (dead_sound d p _ w1 h1 HS.out)
      have HFA := hide (refFail_any d p _ 26 s.pos w1 h1 HPB.out)
      have H2 := hide h2
      clear h1 h2
      go_wp2_with fail
      refine HDD.out.mono ?_
      rintro e w2 ⟨rfl, rfl⟩
      go_wp2_with fail
      refine HFA.out.mono ?_
      rintro e w3 ⟨rfl, h3, h4⟩
      go_wp2
      go_ret
      refine ⟨by rw [HW.out.1]; rfl, ?_, grown_trans (row := some p) H2.out h4⟩
      rw [HW.out.2, ← HBK.out]
      exact h3
    · have d1 : decide ((1 : Int) < (c : Int)) = false := by simp; omega
      have d1' : decide (1 < c) = false := by simp; omega
      have HW : Hid (flagV (c :: r) = ((c : Int) == 1) ∧ flagW (c :: r) = 0) := ⟨by rw [HV.out.1, Bool.eq_iff_iff]; simp; omega, by rw [HV.out.2, if_neg hc]⟩
      clear HV hc
      go_enter Try.func59, Try.ntmps59
      go_wp2_with fail
      refine HFX.out.mono ?_
      rintro e w1 ⟨rfl, h1, h2⟩
      have HDD := hide (dead_sound d p _ w1 h1 HS.out)
      have H1 := hide h1
      have H2 := hide h2
      clear h1 h2
      go_wp2_with fail
      refine HDD.out.mono ?_
      rintro e w2 ⟨rfl, rfl⟩
      go_wp2
      go_ret
      refine ⟨by rw [HW.out.1]; rfl, ?_, H2.out⟩
      rw [HW.out.2]
      exact H1.out

set_option maxRecDepth 10000 in
set_option maxHeartbeats 1600000 in
theorem refCount_any (d p : Nat) (s : RS) (most : Int) (w : World) (hR : RefS d w p s) (hm1 : -9223372036854775808 ≤ most) (hm2 : most < 9223372036854775808) :
    Calls Try.prog 61 #[.pointer (some ⟨p, 0, none⟩), .int .i64 most] w fun e w' => e = .returned (.int .i64 ((countAt s.rest most).1 : Nat)) ∧ RefS d w' p (s.step (countAt s.rest most).2.1 (countAt s.rest most).2.2) ∧ w.grownBy w' (some p) := by
  have HNM := hide (refNum_any d p s w hR)
  have hpl := hR.posle
  obtain ⟨ao, cap, hb, -⟩ := id hR
  have c2 := block_cell hb 2
  simp at c2
  clear hb hR
  have hok := numAt_ok s.rest
  have HCA : Hid (countAt s.rest most = if (numAt s.rest).2.2 ≠ 0 then (0, 0, (numAt s.rest).2.2) else if most < ((numAt s.rest).1 : Int) then (0, 0, 21) else ((numAt s.rest).1, (numAt s.rest).2.1, 0)) := rfl
  have HEM : Hid ((numAt s.rest).2.2 = 0 → s.sound) := by
    intro h
    by_cases hs : s.sound
    · exact hs
    · rw [RS.rest_not hs] at h; cases h
  obtain ⟨⟨v, z, y⟩, ht⟩ : ∃ t, t = numAt s.rest := ⟨_, rfl⟩
  rw [← ht] at HNM hok HCA HEM
  simp only at HNM hok HCA HEM
  obtain ⟨ct, hct⟩ : ∃ t, t = countAt s.rest most := ⟨_, rfl⟩
  rw [← hct] at HCA ⊢
  clear ht hct
  by_cases hy : y = 0
  · have hs : s.sound := HEM.out hy
    subst hy
    have HS := hide (RS.sound_ok hs z)
    have HBK := hide (RS.step_back hs z 0 (y := 21) (by decide))
    have HPB := hide (show s.pos ≤ (s.step z 0).B.length by rw [RS.step_B]; exact hpl)
    have hvl := hok.1
    clear hok hs hpl HEM
    by_cases hmv : most < (v : Int)
    · have HCT : Hid (ct = (0, 0, 21)) := by
        have := HCA.out
        rw [if_neg (by simp), if_pos hmv] at this
        exact this
      clear HCA
      have HO : Hid (decide (most < 0) = true ∨ decide (most < 0) = false ∧ 0 ≤ most) := by
        show _ ∨ _
        by_cases h : most < 0
        · exact .inl (by simp [h])
        · exact .inr ⟨by simp; omega, by omega⟩
      rcases HO.out with h0 | ⟨h0, h0'⟩
      · clear hmv
        go_enter Try.func61, Try.ntmps61
        go_wp2_with fail
        refine HNM.out.mono ?_
        rintro e w1 ⟨rfl, h1, h2⟩
        have HDD := hide (dead_sound d p _ w1 h1 HS.out)
        have HFA := hide (refFail_any d p _ 21 s.pos w1 h1 HPB.out)
        have H2 := hide h2
        clear h1 h2
        go_wp2_with fail
        refine HDD.out.mono ?_
        rintro e w2 ⟨rfl, rfl⟩
        go_wp2_with fail
        refine HFA.out.mono ?_
        rintro e w3 ⟨rfl, h3, h4⟩
        go_wp2
        go_ret
        refine ⟨by rw [HCT.out]; rfl, ?_, grown_trans (row := some p) H2.out h4⟩
        rw [HCT.out, ← HBK.out]
        exact h3
      · obtain ⟨M, rfl⟩ : ∃ M : Nat, most = (M : Int) := ⟨most.toNat, by omega⟩
        have hcv : IntKind.u64.wrap (M : Int) = (M : Int) := wrapu64_nat (by omega)
        have dM : decide ((M : Int) < (v : Int)) = true := by simp; omega
        have dM' : decide (M < v) = true := by simp; omega
        clear hmv h0'
        go_enter Try.func61, Try.ntmps61
        go_wp2_with fail
        refine HNM.out.mono ?_
        rintro e w1 ⟨rfl, h1, h2⟩
        have HDD := hide (dead_sound d p _ w1 h1 HS.out)
        have HFA := hide (refFail_any d p _ 21 s.pos w1 h1 HPB.out)
        have H2 := hide h2
        clear h1 h2
        go_wp2_with fail
        refine HDD.out.mono ?_
        rintro e w2 ⟨rfl, rfl⟩
        go_wp2_with fail
        refine HFA.out.mono ?_
        rintro e w3 ⟨rfl, h3, h4⟩
        go_wp2
        go_ret
        refine ⟨by rw [HCT.out]; rfl, ?_, grown_trans (row := some p) H2.out h4⟩
        rw [HCT.out, ← HBK.out]
        exact h3
    · have HCT : Hid (ct = (v, z, 0)) := by
        have := HCA.out
        rw [if_neg (by simp), if_neg hmv] at this
        exact this
      obtain ⟨M, rfl⟩ : ∃ M : Nat, most = (M : Int) := ⟨most.toNat, by omega⟩
      have hcv : IntKind.u64.wrap (M : Int) = (M : Int) := wrapu64_nat (by omega)
      have h0 : decide ((M : Int) < 0) = false := by simp
      have dM : decide ((M : Int) < (v : Int)) = false := by simp; omega
      have dM' : decide (M < v) = false := by simp; omega
      have hv63 : (v : Int) < 9223372036854775808 := by omega
      have hvw : IntKind.i64.wrap (v : Int) = (v : Int) := wrap64_nat (by omega)
      clear HCA hmv
      go_enter Try.func61, Try.ntmps61
      go_wp2_with fail
      refine HNM.out.mono ?_
      rintro e w1 ⟨rfl, h1, h2⟩
      have HDD := hide (dead_sound d p _ w1 h1 HS.out)
      have H1 := hide h1
      have H2 := hide h2
      clear h1 h2
      go_wp2_with fail
      refine HDD.out.mono ?_
      rintro e w2 ⟨rfl, rfl⟩
      go_wp2
      go_ret
      refine ⟨by rw [HCT.out]; rfl, ?_, H2.out⟩
      rw [HCT.out]
      exact H1.out
  · have HCT : Hid (ct = (0, 0, y)) := by
      have := HCA.out
      rw [if_pos hy] at this
      exact this
    obtain ⟨rfl, rfl⟩ := hok.2.2.2 hy
    have HN := hide (RS.unsound (s := s) 0 hy)
    clear HCA hok HEM hpl hy
    go_enter Try.func61, Try.ntmps61
    go_wp2_with fail
    refine HNM.out.mono ?_
    rintro e w1 ⟨rfl, h1, h2⟩
    have HDD := hide (dead_not d p _ w1 h1 HN.out)
    have H1 := hide h1
    have H2 := hide h2
    clear h1 h2
    go_wp2_with fail
    refine HDD.out.mono ?_
    rintro e w2 ⟨rfl, rfl⟩
    go_wp2
    go_ret
    refine ⟨by rw [HCT.out]; rfl, ?_, H2.out⟩
    rw [HCT.out]
    exact H1.out
end Go.Proofs.Ythbpacilceemlaa
namespace Go.Proofs.Ythbpacilceemlaa
open Go.RowKit Crc

/-- The text of bytes. -/
def strOf (L : List Nat) : ByteArray := (L.map (fun (x : Nat) => (x : Int))).foldl (fun r n => r.push (UInt8.ofNat n.toNat)) ByteArray.empty
theorem foldl_push (L : List Int) : ∀ acc : ByteArray, (L.foldl (fun r n => r.push (UInt8.ofNat n.toNat)) acc).data.toList = acc.data.toList ++ L.map (fun n => UInt8.ofNat n.toNat) := by
  induction L with
  | nil => intro acc; simp
  | cons n r ih => intro acc; rw [List.foldl_cons, ih]; simp [ByteArray.push]
theorem strOf_strB (s : ByteArray) : strOf (strB s) = s := by
  have h := foldl_push ((strB s).map (fun (x : Nat) => (x : Int))) ByteArray.empty
  have h2 : (strOf (strB s)).data.toList = s.data.toList := by
    unfold strOf
    rw [h]
    simp [strB, Function.comp_def]
  have h3 : (strOf (strB s)).data = s.data := Array.ext' h2
  cases hs : strOf (strB s) with
  | mk d => cases s with | mk d' => rw [hs] at h3; simp at h3; rw [h3]

theorem run_str {lim : Nat} {w : World} {ao : Option Addr} {n cap : Nat} {B : List Nat} (h : Shows lim w ao n cap B) :
    (convert 29 9 (.slice ao n cap)).run Try.prog w = .ok (.string (strOf B)) w := by
  rw [run_convert_bytes_string w 29 9 5 ao n cap Try.underlying29 Try.underlying5 Try.underlying9]
  obtain ⟨h1, h2, h3, h4, b, off, h5, h6, h7⟩ := h
  cases ao with
  | none =>
    have hn : n = 0 := by
      rcases Nat.eq_zero_or_pos n with h | h
      · exact h
      · have := h5 h; cases this
    obtain rfl : B = [] := List.eq_nil_of_length_eq_zero (by omega)
    simp [Conv.bytesToString, strOf, Sem.run_pure]
  | some ad =>
    have hl := run_loadCells_list (P := Try.prog) (w := w) ad (vals B) (by
      intro j v hj
      have hj2 := (vals_get B j v hj).1
      have := h5 (by omega)
      cases this
      exact vals_cell (fun i hi => h7 i (by omega)) j v hj)
    rw [vals_len, ← h1] at hl
    have e : vals B = (B.map (fun (x : Nat) => (x : Int))).map (Value.int .u8) := by simp [vals]
    rw [e] at hl
    exact run_bytesToString w ad n cap _ hl

def textAt (B : List Nat) (most : Int) (ok : Bool) : ByteArray × Nat × Int :=
  if (blobAt B most).2.2 ≠ 0 then (ByteArray.empty, 0, (blobAt B most).2.2) else if ok then (strOf (blobAt B most).1, (blobAt B most).2.1, 0) else (ByteArray.empty, 0, 27)

set_option maxRecDepth 10000 in
set_option maxHeartbeats 800000 in
theorem textAhead_any {lim : Nat} {w : World} {ao : Option Addr} {n cap : Nat} {B : List Nat} (h : Shows lim w ao n cap B) (most : Int) (hm1 : -9223372036854775808 ≤ most) (hm2 : most < 9223372036854775808) (ok : Bool)
    (hT : ∀ wx : World, Calls Try.prog 114 #[.string (strOf (blobAt B most).1)] wx fun e w' => e = .returned (.bool ok) ∧ ∃ pos, w' = wx.iter (strOf (blobAt B most).1) pos) :
    Calls Try.prog 106 #[.slice ao n cap, .int .i64 most] w fun e w' => e = .returned (.tuple #[.string (textAt B most ok).1, .int .i64 ((textAt B most ok).2.1 : Nat), .int .i64 (textAt B most ok).2.2]) ∧ Below w.heap.size w w' := by
  have HBL := hide (blobAhead_any h most hm1 hm2)
  have HT := hide hT
  have HTA : Hid (textAt B most ok = if (blobAt B most).2.2 ≠ 0 then (ByteArray.empty, 0, (blobAt B most).2.2) else if ok then (strOf (blobAt B most).1, (blobAt B most).2.1, 0) else (ByteArray.empty, 0, 27)) := rfl
  clear h hT
  generalize hr : blobAt B most = r at *
  clear hr
  obtain ⟨L, z, y⟩ := r
  simp only at HBL HT HTA
  by_cases hy : y = 0
  · subst hy
    cases ok
    · have HF : Hid (textAt B most false = (ByteArray.empty, 0, 27)) := by have h1 := HTA.out; simp at h1; exact h1
      clear HTA
      go_enter Try.func106, Try.ntmps106
      go_wp2_with fail
      refine HBL.out.mono ?_
      rintro e w1 ⟨a2, n2, c2, rfl, hs2, q, rfl⟩
      have hcv := run_str (hs2.world (w' := w.drewN q) rfl)
      clear hs2
      generalize strOf L = S at *
      go_wp2_with fail
      refine (HT.out _).mono ?_
      rintro e w2 ⟨rfl, pos, rfl⟩
      go_wp2
      go_ret3
      exact ⟨by rw [HF.out]; rfl, (Below.alloc (a := w) (w := w.drewN q) ⟨rfl, rfl, rfl, Nat.le_refl _, fun _ _ => rfl⟩ (Nat.le_refl _) _)⟩
    · have HF : Hid (textAt B most true = (strOf L, z, 0)) := by have h1 := HTA.out; simp at h1; exact h1
      clear HTA
      go_enter Try.func106, Try.ntmps106
      go_wp2_with fail
      refine HBL.out.mono ?_
      rintro e w1 ⟨a2, n2, c2, rfl, hs2, q, rfl⟩
      have hcv := run_str (hs2.world (w' := w.drewN q) rfl)
      clear hs2
      generalize strOf L = S at *
      go_wp2_with fail
      refine (HT.out _).mono ?_
      rintro e w2 ⟨rfl, pos, rfl⟩
      go_wp2
      go_ret3
      exact ⟨by rw [HF.out]; rfl, (Below.alloc (a := w) (w := w.drewN q) ⟨rfl, rfl, rfl, Nat.le_refl _, fun _ _ => rfl⟩ (Nat.le_refl _) _)⟩
  · have HF : Hid (textAt B most ok = (ByteArray.empty, 0, y)) := by have h1 := HTA.out; simp [hy] at h1; exact h1
    have hyb : (y == 0) = false := by simp [hy]
    clear HTA hy
    go_enter Try.func106, Try.ntmps106
    go_wp2_with fail
    refine HBL.out.mono ?_
    rintro e w1 ⟨a2, n2, c2, rfl, hs2, q, rfl⟩
    clear hs2
    go_wp2
    go_ret3
    exact ⟨by rw [HF.out]; rfl, rfl, rfl, rfl, Nat.le_refl _, fun _ _ => rfl⟩

theorem textAt_ok (B : List Nat) (most : Int) (ok : Bool) : (textAt B most ok).2.1 ≤ B.length := by
  unfold textAt
  split
  · simp
  · split
    · exact blobAt_ok B most
    · simp

set_option maxRecDepth 10000 in
set_option maxHeartbeats 800000 in
theorem rText_any (lim p : Nat) (s : RS) (most : Int) (w : World) (hR : RdS lim w p s) (hm1 : -9223372036854775808 ≤ most) (hm2 : most < 9223372036854775808) (ok : Bool)
    (hT : ∀ wx : World, Calls Try.prog 114 #[.string (strOf (blobAt s.rest most).1)] wx fun e w' => e = .returned (.bool ok) ∧ ∃ pos, w' = wx.iter (strOf (blobAt s.rest most).1) pos) :
    Calls Try.prog 64 #[.pointer (some ⟨p, 0, none⟩), .int .i64 most] w fun e w' => e = .returned (.string (textAt s.rest most ok).1) ∧ RdS lim w' p (s.step (textAt s.rest most ok).2.1 (textAt s.rest most ok).2.2) ∧ w.grownBy w' (some p) := by
  have HRS := hide (rest_any lim p s.made s.place s.why s.B s.pos w hR)
  have HST : Hid (∀ wx, RdS lim wx p s → Calls Try.prog 100 #[.pointer (some ⟨p, 0, none⟩), .int .i64 ((textAt s.rest most ok).2.1 : Nat), .int .i64 (textAt s.rest most ok).2.2] wx fun e w' => e = .returned (.tuple #[]) ∧ RdS lim w' p (s.step (textAt s.rest most ok).2.1 (textAt s.rest most ok).2.2) ∧ wx.grownBy w' (some p)) :=
    fun wx hx => step_any lim p s (textAt s.rest most ok).2.1 (textAt s.rest most ok).2.1 (textAt s.rest most ok).2.2 wx hx rfl (fun h _ => step_fits hx (textAt_ok s.rest most ok) h)
  have HT := hide hT
  have HR := hide hR
  clear hR hT
  go_enter Try.func64, Try.ntmps64
  go_wp2_with fail
  refine HRS.out.mono ?_
  rintro e w1 ⟨a1, n1, c1, rfl, hs1, q, rfl⟩
  have HS1 : Hid (Shows lim (w.drewN q) a1 n1 c1 s.rest) := hs1.world (w' := w.drewN q) rfl
  clear hs1
  go_wp2_with fail
  refine (textAhead_any HS1.out most hm1 hm2 ok HT.out).mono ?_
  rintro e w2 ⟨rfl, hb2⟩
  have HG2 := hide (grown_from (below_none hb2))
  have HR2 := hide (HR.out.kept HG2.out (fun g hg => by cases hg))
  clear HS1 hb2
  go_wp2_with fail
  refine (HST.out _ HR2.out).mono ?_
  rintro e w3 ⟨rfl, hr3, hg3⟩
  have HR3 := hide hr3
  have HG3 := hide hg3
  clear hr3 hg3
  go_wp2
  go_ret
  refine ⟨rfl, HR3.out, ?_⟩
  have h1 := HG2.out
  exact grown_trans ⟨h1.os, h1.tape, h1.output, h1.size, fun k hk _ => h1.block k hk (by simp)⟩ HG3.out
end Go.Proofs.Ythbpacilceemlaa
