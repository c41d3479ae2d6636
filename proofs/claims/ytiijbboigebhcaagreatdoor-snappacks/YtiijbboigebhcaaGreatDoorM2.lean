import Derived.Test.YtiijbboigebhcaaGreatDoorM0
import Derived.Test.YtiijbboigebhcaaGreatDoorM1
namespace Go.Proofs.YtiijbboigebhcaaGreatDoor
open Go.RowKit Crc

set_option maxRecDepth 10000 in
set_option maxHeartbeats 800000 in
theorem copied_any (b off : Nat) (ao : Option Addr) (B : List Nat) (n cap : Nat) (w : World) (hao : 0 < n → ao = some ⟨b, off, none⟩) (hn : n = B.length) (hl : n ≤ 140737488355328)
  (hbw : 0 < n → b < w.heap.size) (hc : ∀ i, i < n → w.cell? ⟨b, off + i, none⟩ = some (.int .u8 ((B.getD i 0 : Nat) : Int))) :
    Calls Tryz.prog 65 #[.slice ao n cap] w fun e w' => ∃ v, e = .returned v ∧ (v = .slice none 0 0 ∨ v = .slice (some ⟨w.heap.size, 0, none⟩) n n) ∧ (0 < n → v ≠ .slice none 0 0) ∧ Fresh w w' v B := by
  obtain ⟨i0, hi, hz0, hz1, hz2⟩ := info_parts Tryz.info5
  by_cases h0 : n = 0
  · subst h0
    have hB : B = [] := List.eq_nil_of_length_eq_zero hn.symm
    clear hn hc hao hbw
    go_enter Tryz.func65, Tryz.ntmps65
    go_wp2
    go_ret
    subst hB
    exact ⟨_, rfl, .inl rfl, fun h => by omega, World.ownsRow_nil _ _ _ _, Below.refl _ _⟩
  · obtain rfl := hao (by omega)
    have hbw' := hbw (by omega)
    have hne : ((n : Int) == 0) = false := by simp; omega
    have HN : Hid (n = B.length) := hn
    have HC : Hid (∀ i, i < n → w.cell? ⟨b, off + i, none⟩ = some (.int .u8 ((B.getD i 0 : Nat) : Int))) := hc
    clear hn hc hao hbw
    go_enter Tryz.func65, Tryz.ntmps65
    have HS : Hid (∀ w0 : World, w.grownBy w0 none → ∀ j v, (vals B)[j]? = some v → w0.cell? ((⟨b, off, none⟩ : Addr).add j) = some v) := by
      intro w0 hg j v hj
      exact hg.cell (vals_cell (fun i hi => HC.out i (by have := HN.out; omega)) j v hj) (by simp)
    have hlen : (vals B).length = Nat.min n n := by rw [vals_len]; exact HN.out.symm.trans (Nat.min_self n).symm
    have hlB : (vals B).length = n := by rw [vals_len]; exact HN.out.symm
    go_wp2_with (first
      | (at_make; refine wpList_make_full _ rfl _ _ 36 rfl w.heap.size 5 i0 (.int .u8 0) 1 Tryz.underlying36 hi hz0 hz1 .i64 .i64 _ _ n rfl rfl rfl rfl (by rw [hz2]; omega) (by unfold maxLen; omega) (Nat.le_refl _) ?_; intro w0 hown0 hgrow0; obtain ⟨cur, hg0, hcs, _, _⟩ := own_block hown0)
      | (refine wpList_copy_own rfl (.tmp 10) (.tmp 11) 36 36 rfl 5 Tryz.underlying36 size5 w.heap.size 0 n n ⟨b, off, none⟩ n cap rfl rfl cur 5 hg0 (vals B) hlen (HS.out w0 hgrow0) (by rw [hlB]; omega) (vals_one' B) ?_))
    go_ret
    refine ⟨_, rfl, .inr rfl, fun _ => by simp, ?_, below_setRow ((Below.refl _ _).grown hgrow0 (Nat.le_refl _) (fun k h => by cases h)) (Nat.le_refl _) _⟩
    rw [← HN.out]
    refine owns_of (Nat.le_refl _) (setRow_heap w0 w.heap.size _ _ 5 _ hg0) ?_ (by unfold maxLen; omega) (Nat.le_refl _) ?_
    · simp; omega
    · have : cur.toList.drop n = [] := List.drop_eq_nil_of_le (by simp; omega)
      simp [this]
      exact List.take_of_length_le (by omega)
end Go.Proofs.YtiijbboigebhcaaGreatDoor
namespace Go.Proofs.YtiijbboigebhcaaGreatDoor
open Go.RowKit Crc

theorem numGo_ok : ∀ (B : List Nat) (i n : Nat), i ≤ 9 → n < 2 ^ (7 * i) → (numGo B i n).1 < 18446744073709551616 ∧ (numGo B i n).2.1 ≤ i + B.length ∧ (numGo B i n).2.1 ≤ 10 ∧ ((numGo B i n).2.2 ≠ 0 → (numGo B i n).1 = 0 ∧ (numGo B i n).2.1 = 0)
  | [], i, n, hi, hn => by simp [numGo]
  | c :: r, i, n, hi, hn => by
    have hstep : n + c % 128 * 2 ^ (7 * i) < 2 ^ (7 * (i + 1)) := by
      rw [show 7 * (i + 1) = 7 * i + 7 by omega, Nat.pow_add]
      have h2 : c % 128 * 2 ^ (7 * i) ≤ 127 * 2 ^ (7 * i) := Nat.mul_le_mul_right _ (by omega)
      omega
    rw [numGo]
    split
    · simp
    · rename_i h9
      split
      · rename_i h128
        have := numGo_ok r (i + 1) (n + c % 128 * 2 ^ (7 * i)) (by omega) hstep
        refine ⟨this.1, ?_, this.2.2⟩
        have h2 := this.2.1
        simp only [List.length_cons]
        omega
      · split
        · simp
        · refine ⟨?_, by simp only [List.length_cons]; omega, by show i + 1 ≤ 10; omega, fun h => absurd rfl h⟩
          show n + c % 128 * 2 ^ (7 * i) < _
          rcases Nat.lt_or_ge i 9 with h | h
          · have h1 : 2 ^ (7 * (i + 1)) ≤ 2 ^ 63 := Nat.pow_le_pow_right (by omega) (by omega)
            omega
          · obtain rfl : i = 9 := by omega
            have : c % 128 ≤ 1 := by omega
            have : c % 128 * 2 ^ (7 * 9) ≤ 1 * 2 ^ (7 * 9) := Nat.mul_le_mul_right _ this
            omega
theorem numAt_ok (B : List Nat) : (numAt B).1 < 18446744073709551616 ∧ (numAt B).2.1 ≤ B.length ∧ (numAt B).2.1 ≤ 10 ∧ ((numAt B).2.2 ≠ 0 → (numAt B).1 = 0 ∧ (numAt B).2.1 = 0) := by
  have := numGo_ok B 0 0 (by omega) (by simp)
  simpa [numAt] using this

/-- A length at the head of bytes. -/
def countAt (B : List Nat) (most : Int) : Nat × Nat × Int :=
  if (numAt B).2.2 ≠ 0 then (0, 0, (numAt B).2.2) else if most < ((numAt B).1 : Int) then (0, 0, 21) else ((numAt B).1, (numAt B).2.1, 0)
/-- Bytes with their number ahead. -/
def blobAt (B : List Nat) (most : Int) : List Nat × Nat × Int :=
  if (countAt B most).2.2 ≠ 0 then ([], 0, (countAt B most).2.2) else if B.length < (countAt B most).2.1 + (countAt B most).1 then ([], 0, 20) else ((B.drop (countAt B most).2.1).take (countAt B most).1, (countAt B most).2.1 + (countAt B most).1, 0)

set_option maxRecDepth 10000 in
set_option maxHeartbeats 800000 in
theorem countAhead_any {lim : Nat} {w : World} {ao : Option Addr} {n cap : Nat} {B : List Nat} (h : Shows lim w ao n cap B) (most : Int) (hm1 : -9223372036854775808 ≤ most) (hm2 : most < 9223372036854775808) :
    Calls Tryz.prog 133 #[.slice ao n cap, .int .i64 most] w fun e w' => e = .returned (.tuple #[.int .i64 ((countAt B most).1 : Nat), .int .i64 ((countAt B most).2.1 : Nat), .int .i64 (countAt B most).2.2]) ∧ ∃ q, w' = w.drewN q := by
  have HNA := hide (numAhead_any h)
  obtain ⟨k1, k2, k3, _⟩ := numAt_ok B
  have HCA : Hid (countAt B most = if (numAt B).2.2 ≠ 0 then (0, 0, (numAt B).2.2) else if most < ((numAt B).1 : Int) then (0, 0, 21) else ((numAt B).1, (numAt B).2.1, 0)) := rfl
  clear h
  generalize hr : numAt B = r at *
  clear hr
  obtain ⟨x, z, y⟩ := r
  simp only at k1 k2 k3
  by_cases hy : y = 0
  · subst hy
    by_cases hmx : most < (x : Int)
    · have HF : Hid (countAt B most = (0, 0, 21)) := by have := HCA.out; simp [hmx] at this; exact this
      clear HCA
      by_cases hm0 : most < 0
      · have d0 : decide (most < 0) = true := by simp; omega
        go_enter Tryz.func133, Tryz.ntmps133
        go_wp2_with fail
        refine HNA.out.mono ?_
        rintro e w1 ⟨rfl, rfl⟩
        go_wp2
        go_ret3
        exact ⟨by rw [HF.out]; rfl, 0, rfl⟩
      · have d0 : decide (most < 0) = false := by simp; omega
        have e0 : most % 18446744073709551616 = most := by omega
        have d1 : decide (most < (x : Int)) = true := by simp; omega
        go_enter Tryz.func133, Tryz.ntmps133
        go_wp2_with fail
        refine HNA.out.mono ?_
        rintro e w1 ⟨rfl, rfl⟩
        go_wp2
        go_ret3
        exact ⟨by rw [HF.out]; rfl, 0, rfl⟩
    · have HF : Hid (countAt B most = (x, z, 0)) := by have := HCA.out; simp [hmx] at this; exact this
      have d0 : decide (most < 0) = false := by simp; omega
      have e0 : most % 18446744073709551616 = most := by omega
      have d1 : decide (most < (x : Int)) = false := by simp; omega
      have hx63 : (x : Int) < 9223372036854775808 := by omega
      clear HCA
      go_enter Tryz.func133, Tryz.ntmps133
      go_wp2_with fail
      refine HNA.out.mono ?_
      rintro e w1 ⟨rfl, rfl⟩
      go_wp2
      go_ret3
      exact ⟨by rw [HF.out]; rfl, 0, rfl⟩
  · have HF : Hid (countAt B most = (0, 0, y)) := by have := HCA.out; simp [hy] at this; exact this
    have hyb : (y == 0) = false := by simp [hy]
    clear HCA hy
    go_enter Tryz.func133, Tryz.ntmps133
    go_wp2_with fail
    refine HNA.out.mono ?_
    rintro e w1 ⟨rfl, rfl⟩
    go_wp2
    go_ret3
    exact ⟨by rw [HF.out]; rfl, 0, rfl⟩
end Go.Proofs.YtiijbboigebhcaaGreatDoor
namespace Go.Proofs.YtiijbboigebhcaaGreatDoor
open Go.RowKit Crc

theorem shows_part {lim : Nat} {w : World} {ao : Option Addr} {n cap : Nat} {B : List Nat} (h : Shows lim w ao n cap B) {b off k m : Nat} (hao : ao = some ⟨b, off, none⟩) (hk : k + m ≤ n) (hkc : 0 < n) : Shows lim w (some ⟨b, off + k, none⟩) m (cap - k) ((B.drop k).take m) := by
  obtain ⟨h1, h2, h3, h4, b', off', h5, h6, h7⟩ := h
  have e := h5 hkc
  rw [hao] at e
  cases e
  refine ⟨by rw [List.length_take, List.length_drop]; omega, by omega, by omega, fun x hx => h4 x (List.mem_of_mem_drop (List.mem_of_mem_take hx)), b, off + k, fun _ => rfl, fun _ => h6 hkc, fun i hi => ?_⟩
  rw [getD_take hi, getD_drop, Nat.add_assoc]
  exact h7 (k + i) (by omega)

theorem countAt_ok (B : List Nat) (most : Int) : (countAt B most).2.1 ≤ B.length ∧ (countAt B most).2.1 ≤ 10 ∧ ((countAt B most).2.2 = 0 → 0 ≤ most → ((countAt B most).1 : Int) ≤ most) ∧ ((countAt B most).2.2 = 0 → 0 ≤ most) ∧ ((countAt B most).2.2 ≠ 0 → (countAt B most).1 = 0 ∧ (countAt B most).2.1 = 0) := by
  have h := numAt_ok B
  unfold countAt
  split
  · rename_i h1; simp [h1]
  · split
    · simp
    · rename_i h2
      refine ⟨h.2.1, h.2.2.1, fun _ _ => ?_, fun _ => ?_, fun h => absurd rfl h⟩
      · show ((numAt B).1 : Int) ≤ most; omega
      · omega

set_option maxRecDepth 10000 in
set_option maxHeartbeats 800000 in
theorem blobAhead_any {lim : Nat} {w : World} {ao : Option Addr} {n cap : Nat} {B : List Nat} (h : Shows lim w ao n cap B) (most : Int) (hm1 : -9223372036854775808 ≤ most) (hm2 : most < 9223372036854775808) :
    Calls Tryz.prog 134 #[.slice ao n cap, .int .i64 most] w fun e w' => ∃ a2 n2 c2, e = .returned (.tuple #[.slice a2 n2 c2, .int .i64 ((blobAt B most).2.1 : Nat), .int .i64 (blobAt B most).2.2]) ∧ Shows lim w a2 n2 c2 (blobAt B most).1 ∧ ∃ q, w' = w.drewN q := by
  have HCO := hide (countAhead_any h most hm1 hm2)
  obtain ⟨k2, k3, k4, k5, _⟩ := countAt_ok B most
  have HBA : Hid (blobAt B most = if (countAt B most).2.2 ≠ 0 then ([], 0, (countAt B most).2.2) else if B.length < (countAt B most).2.1 + (countAt B most).1 then ([], 0, 20) else ((B.drop (countAt B most).2.1).take (countAt B most).1, (countAt B most).2.1 + (countAt B most).1, 0)) := rfl
  have HS := hide h
  have hcap := h.2.1
  have hn47 := h.2.2.1
  have HN := hide h.1
  clear h
  generalize hr : countAt B most = r at *
  clear hr
  obtain ⟨x, z, y⟩ := r
  simp only at k2 k3 k4 k5
  by_cases hy : y = 0
  · subst hy
    have k6 : (x : Int) ≤ most := k4 rfl (k5 rfl)
    have k7 := HN.out
    rw [← k7] at k2
    clear k4 k5 k7
    have hx63 : (x : Int) < 9223372036854775808 := by omega
    have hzn : (z : Int) ≤ (n : Int) := by omega
    by_cases hsx : n < z + x
    · have HF : Hid (blobAt B most = ([], 0, 20)) := by have h1 := HBA.out; have h2 := HN.out; rw [← h2] at h1; simp [hsx] at h1; exact h1
      have d1 : decide ((n : Int) - (z : Int) < (x : Int)) = true := by simp; omega
      clear HBA
      go_enter Tryz.func134, Tryz.ntmps134
      go_wp2_with fail
      refine HCO.out.mono ?_
      rintro e w1 ⟨rfl, q, rfl⟩
      go_wp2
      go_ret3
      exact ⟨_, _, _, by rw [HF.out]; rfl, by rw [HF.out]; exact shows_none, q, rfl⟩
    · have HF : Hid (blobAt B most = ((B.drop z).take x, z + x, 0)) := by have h1 := HBA.out; have h2 := HN.out; rw [← h2] at h1; simp [hsx] at h1; exact h1
      have d1 : decide ((n : Int) - (z : Int) < (x : Int)) = false := by simp; omega
      have hzx : (z : Int) + (x : Int) ≤ (cap : Int) := by omega
      have hz0 : (0 : Int) ≤ (z : Int) := by omega
      have hzz : (z : Int) ≤ (z : Int) + (x : Int) := by omega
      clear HBA
      by_cases hn0 : n = 0
      · have HB0 : Hid (B = []) := List.eq_nil_of_length_eq_zero (by have := HN.out; omega)
        obtain rfl : z = 0 := by omega
        obtain rfl : x = 0 := by omega
        clear hsx hzx hz0 hzz hzn hx63 k6 k2 k3 d1
        subst hn0
        go_enter Tryz.func134, Tryz.ntmps134
        go_wp2_with fail
        refine HCO.out.mono ?_
        rintro e w1 ⟨rfl, q, rfl⟩
        go_wp2
        go_ret3
        exact ⟨_, _, _, by rw [HF.out]; rfl, by rw [HF.out, HB0.out]; exact shows_none, q, rfl⟩
      · obtain ⟨b, off, hao⟩ : ∃ b off, ao = some ⟨b, off, none⟩ := by
          obtain ⟨_, _, _, _, b, off, h5, _, _⟩ := HS.out
          exact ⟨b, off, h5 (by omega)⟩
        subst hao
        have HFI := hide (shows_part HS.out rfl (k := z) (m := x) (by omega) (by omega))
        by_cases hce : cap = z
        · subst hce
          obtain rfl : x = 0 := by omega
          go_enter Tryz.func134, Tryz.ntmps134
          go_wp2_with fail
          refine HCO.out.mono ?_
          rintro e w1 ⟨rfl, q, rfl⟩
          go_wp2
          go_ret3
          exact ⟨_, _, _, by rw [HF.out]; rfl, by rw [HF.out, List.take_zero]; exact shows_none, q, rfl⟩
        · go_enter Tryz.func134, Tryz.ntmps134
          go_wp2_with fail
          refine HCO.out.mono ?_
          rintro e w1 ⟨rfl, q, rfl⟩
          go_wp2
          go_ret3
          exact ⟨_, _, _, by rw [HF.out]; rfl, by rw [HF.out, Nat.add_sub_cancel_left]; exact HFI.out, q, rfl⟩
  · have HF : Hid (blobAt B most = ([], 0, y)) := by have h1 := HBA.out; simp [hy] at h1; exact h1
    have hyb : (y == 0) = false := by simp [hy]
    clear HBA hy k4 k5
    go_enter Tryz.func134, Tryz.ntmps134
    go_wp2_with fail
    refine HCO.out.mono ?_
    rintro e w1 ⟨rfl, q, rfl⟩
    go_wp2
    go_ret3
    exact ⟨_, _, _, by rw [HF.out]; rfl, by rw [HF.out]; exact shows_none, q, rfl⟩

/-- A field whose size is no more than what is left may be stepped over. -/
theorem step_fits {lim : Nat} {w : World} {p : Nat} {s : RS} (hR : RdS lim w p s) {z : Nat} (hz : z ≤ s.rest.length) : s.sound → s.pos + z ≤ s.B.length := by
  intro h
  have h3 := rest_len h
  have h4 := hR.pos
  omega

set_option maxRecDepth 10000 in
set_option maxHeartbeats 800000 in
theorem rNum_any (lim p : Nat) (s : RS) (w : World) (hR : RdS lim w p s) :
    Calls Tryz.prog 75 #[.pointer (some ⟨p, 0, none⟩)] w fun e w' => e = .returned (.int .u64 ((numAt s.rest).1 : Nat)) ∧ RdS lim w' p (s.step (numAt s.rest).2.1 (numAt s.rest).2.2) ∧ w.grownBy w' (some p) := by
  have HRS := hide (rest_any lim p s.made s.place s.why s.B s.pos w hR)
  have HST := hide (fun q => step_any lim p s (numAt s.rest).2.1 (numAt s.rest).2.1 (numAt s.rest).2.2 (w.drewN q) (Rd.world hR rfl) rfl (fun h _ => step_fits hR (numAt_ok s.rest).2.1 h))
  clear hR
  go_enter Tryz.func75, Tryz.ntmps75
  go_wp2_with fail
  refine HRS.out.mono ?_
  rintro e w1 ⟨a1, n1, c1, rfl, hs1, q, rfl⟩
  have HS1 := hide (hs1.world (w' := w.drewN q) rfl)
  clear hs1
  go_wp2_with fail
  refine (numAhead_any HS1.out).mono ?_
  rintro e w2 ⟨rfl, rfl⟩
  clear HS1
  go_wp2_with fail
  refine (HST.out q).mono ?_
  rintro e w3 ⟨rfl, hr3, hg3⟩
  go_wp2
  go_ret
  exact ⟨rfl, hr3, grown_from hg3⟩

set_option maxRecDepth 10000 in
set_option maxHeartbeats 800000 in
theorem rCount_any (lim p : Nat) (s : RS) (most : Int) (w : World) (hR : RdS lim w p s) (hm1 : -9223372036854775808 ≤ most) (hm2 : most < 9223372036854775808) :
    Calls Tryz.prog 121 #[.pointer (some ⟨p, 0, none⟩), .int .i64 most] w fun e w' => e = .returned (.int .i64 ((countAt s.rest most).1 : Nat)) ∧ RdS lim w' p (s.step (countAt s.rest most).2.1 (countAt s.rest most).2.2) ∧ w.grownBy w' (some p) := by
  have HRS := hide (rest_any lim p s.made s.place s.why s.B s.pos w hR)
  have HST := hide (fun q => step_any lim p s (countAt s.rest most).2.1 (countAt s.rest most).2.1 (countAt s.rest most).2.2 (w.drewN q) (Rd.world hR rfl) rfl (fun h _ => step_fits hR (countAt_ok s.rest most).1 h))
  clear hR
  go_enter Tryz.func121, Tryz.ntmps121
  go_wp2_with fail
  refine HRS.out.mono ?_
  rintro e w1 ⟨a1, n1, c1, rfl, hs1, q, rfl⟩
  have HS1 : Hid (Shows lim (w.drewN q) a1 n1 c1 s.rest) := hs1.world (w' := w.drewN q) rfl
  clear hs1
  go_wp2_with fail
  refine (countAhead_any HS1.out most hm1 hm2).mono ?_
  rintro e w2 ⟨rfl, q2, rfl⟩
  clear HS1
  go_wp2_with fail
  refine (HST.out _).mono ?_
  rintro e w3 ⟨rfl, hr3, hg3⟩
  go_wp2
  go_ret
  exact ⟨rfl, hr3, grown_from hg3⟩

theorem RdS.kept {lim : Nat} {w w' : World} {p : Nat} {s : RS} {row : Option Nat} (h : RdS lim w p s) (hg : w.grownBy w' row) (hr : ∀ g, row = some g → lim ≤ g ∧ g ≠ p) : RdS lim w' p s := by
  obtain ⟨ao, cap, hb, hS, hp, hl⟩ := h
  exact ⟨ao, cap, (hg.block p (block_lt hb) (fun e => (hr p e.symm).2 rfl)).trans hb, hS.kept hg (fun g e => (hr g e).1), hp, hl⟩
theorem RdS.plt {lim : Nat} {w : World} {p : Nat} {s : RS} (h : RdS lim w p s) : p < w.heap.size := by obtain ⟨ao, cap, hb, hS, hp, hl⟩ := h; exact block_lt hb
theorem copied_sh {lim : Nat} {w : World} {ao : Option Addr} {n cap : Nat} {B : List Nat} (h : Shows lim w ao n cap B) (hlw : lim ≤ w.heap.size) :
    Calls Tryz.prog 65 #[.slice ao n cap] w fun e w' => ∃ v, e = .returned v ∧ (v = .slice none 0 0 ∨ v = .slice (some ⟨w.heap.size, 0, none⟩) n n) ∧ (0 < n → v ≠ .slice none 0 0) ∧ Fresh w w' v B := by
  obtain ⟨h1, h2, h3, h4, b, off, h5, h6, h7⟩ := h
  exact copied_any b off ao B n cap w h5 h1 h3 (fun h => Nat.lt_of_lt_of_le (h6 h) hlw) h7
theorem blobAt_ok (B : List Nat) (most : Int) : (blobAt B most).2.1 ≤ B.length := by
  unfold blobAt
  split
  · simp
  · split
    · simp
    · rename_i h; show _ + _ ≤ _; omega

set_option maxRecDepth 10000 in
set_option maxHeartbeats 800000 in
theorem rBlob_any (lim p : Nat) (s : RS) (most : Int) (w : World) (hR : RdS lim w p s) (hm1 : -9223372036854775808 ≤ most) (hm2 : most < 9223372036854775808) :
    Calls Tryz.prog 122 #[.pointer (some ⟨p, 0, none⟩), .int .i64 most] w fun e w' => ∃ v, e = .returned v ∧ Owns w.heap.size w' v (blobAt s.rest most).1 ∧ (v = .slice none 0 0 ∨ ∃ g, w.heap.size ≤ g ∧ v = .slice (some ⟨g, 0, none⟩) (blobAt s.rest most).1.length (blobAt s.rest most).1.length) ∧ RdS lim w' p (s.step (blobAt s.rest most).2.1 (blobAt s.rest most).2.2) ∧ w.grownBy w' (some p) := by
  have HRS := hide (rest_any lim p s.made s.place s.why s.B s.pos w hR)
  have HST := hide (fun q => step_any lim p s (blobAt s.rest most).2.1 (blobAt s.rest most).2.1 (blobAt s.rest most).2.2 (w.drewN q) (Rd.world hR rfl) rfl (fun h _ => step_fits hR (blobAt_ok s.rest most) h))
  have HL := hide hR.limp
  have HP := hide hR.plt
  clear hR
  go_enter Tryz.func122, Tryz.ntmps122
  go_wp2_with fail
  refine HRS.out.mono ?_
  rintro e w1 ⟨a1, n1, c1, rfl, hs1, q, rfl⟩
  have HS1 : Hid (Shows lim (w.drewN q) a1 n1 c1 s.rest) := hs1.world (w' := w.drewN q) rfl
  clear hs1
  go_wp2_with fail
  refine (blobAhead_any HS1.out most hm1 hm2).mono ?_
  rintro e w2 ⟨a2, n2, c2, rfl, hs2, q2, rfl⟩
  have HS2 : Hid (∀ q, Shows lim (w.drewN q) a2 n2 c2 (blobAt s.rest most).1) := fun q => hs2.world rfl
  have HN2 := hide hs2.1
  clear HS1 hs2
  go_wp2_with fail
  refine (HST.out _).mono ?_
  rintro e w3 ⟨rfl, hr3, hg3⟩
  have HR3 := hide hr3
  have HG3 := hide (grown_from hg3)
  have HS3 := hide ((HS2.out 0).kept (w := w.drewN 0) (w' := w3) (row := some p) ⟨HG3.out.os, HG3.out.tape, HG3.out.output, HG3.out.size, HG3.out.block⟩ (fun g hg => by cases hg; exact HL.out))
  have HLW : Hid (lim ≤ w3.heap.size) := by have h1 := HR3.out.plt; have h2 := HL.out; show _ ≤ _; omega
  clear hr3 hg3
  go_wp2_with fail
  refine (copied_sh HS3.out HLW.out).mono ?_
  rintro e w4 ⟨v, rfl, hv, _, hfr⟩
  go_wp2
  go_ret
  have hsz := HG3.out.size
  have hgb := below_none hfr.2
  have hbB : ∀ x ∈ (blobAt s.rest most).1, x < 256 := HS3.out.2.2.2.1
  have hbL : (blobAt s.rest most).1.length ≤ 140737488355328 := by rw [← HN2.out]; exact HS3.out.2.2.1
  have ho : Owns w3.heap.size w4 v (blobAt s.rest most).1 := ⟨hfr.1, hbB, hbL⟩
  refine ⟨v, rfl, ho.lower hsz, ?_, HR3.out.kept hgb (fun g hg => by cases hg), grown_quiet HG3.out hgb⟩
  rw [← HN2.out]
  rcases hv with h | h
  · exact .inl h
  · exact .inr ⟨_, hsz, h⟩
end Go.Proofs.YtiijbboigebhcaaGreatDoor
namespace Go.Proofs.YtiijbboigebhcaaGreatDoor
open Go.RowKit Crc

set_option maxRecDepth 10000 in
set_option maxHeartbeats 800000 in
theorem copy_walk (b off : Nat) (ao : Option Addr) (B : List Nat) (n cap : Nat) (w : World) (hao : 0 < n → ao = some ⟨b, off, none⟩) (hn : n = B.length) (hl : n ≤ 140737488355328) (hB : ∀ x ∈ B, x < 256)
  (hbw : 0 < n → b < w.heap.size) (hc : ∀ i, i < n → w.cell? ⟨b, off + i, none⟩ = some (.int .u8 ((B.getD i 0 : Nat) : Int))) :
    Calls Tryz.prog 82 #[.slice ao n cap] w fun e w' => ∃ v, e = .returned v ∧ Owns w.heap.size w' v B ∧ Below w.heap.size w w' := by
  obtain ⟨i0, hi, hz0, hz1, hz2⟩ := info_parts Tryz.info5
  have HA : Hid (0 < n → ao = some ⟨b, off, none⟩) := hao
  have HN : Hid (n = B.length) := hn
  have HB : Hid (∀ x ∈ B, x < 256) := hB
  have HW : Hid (0 < n → b < w.heap.size) := hbw
  have HC : Hid (∀ i, i < n → w.cell? ⟨b, off + i, none⟩ = some (.int .u8 ((B.getD i 0 : Nat) : Int))) := hc
  clear hao hn hB hbw hc
  go_enter Tryz.func82, Tryz.ntmps82
  go_wp2
  go_loopw [3, 4] (fun v i wr => ∃ k : Nat, k ≤ n ∧ i = .int .i64 k ∧ Hid (Owns w.heap.size wr v (B.take k)) ∧ Below w.heap.size w wr) (fun _ i _ => n - (intOf i).toNat)
  case atStart => exact ⟨0, by omega, rfl, by rw [List.take_zero]; exact Owns.nil _ _, Below.refl _ _⟩
  case round =>
    obtain ⟨k, hk, rfl, HO, hnx⟩ := hrel
    have hsize := hnx.size
    by_cases hlt : k < n
    · have hck := (hnx.cell (p := ⟨b, off + k, none⟩) (HW.out (by omega))).trans (HC.out k hlt)
      obtain rfl := HA.out (by omega)
      have hcb := getD_lt B HB.out k
      have htl : (B.take k).length = k := by rw [List.length_take]; have := HN.out; omega
      have hown : wr.ownsRow w.heap.size 5 1 u3 k (vals (B.take k)) := by have := HO.out.1; rw [htl] at this; exact this
      have HTS : Hid (B.take (k + 1) = B.take k ++ [B.getD k 0]) := take_snoc B k (by have := HN.out; omega)
      obtain ⟨c, hcd⟩ : ∃ c, c = B.getD k 0 := ⟨_, rfl⟩
      rw [← hcd] at hck hcb HTS
      clear hcd
      have HTL : Hid ((B.take k).length = k) := htl
      have HHO : Hid (wr.ownsRow w.heap.size 5 1 u3 k (vals (B.take k))) := hown
      clear htl hown
      go_wp2_with (first
        | (at_builtin; refine wpList_append_own _ rfl (.tmp 11) (.tmp 16) 36 rfl w.heap.size 5 i0 (.int .u8 0) 1 1 Tryz.underlying36 hi hz0 hz1 hz2 rfl (by decide) u3 k (vals (B.take k)) rfl (HHO.out.alloc _) ⟨wr.heap.size, 0, none⟩ 1 1 [.int .u8 (c : Int)] rfl rfl (cell_one_new _ _ _) (Shade.one _ rfl) (by unfold maxLen; omega) (by omega) (by simp; omega) ?_; intro v' w1 hown1 hgrow1 _))
      go_roundw
      case rel =>
        refine ⟨k + 1, by omega, by go_num, ?_, (hnx.alloc (by omega) _).grown hgrow1 (by simp; omega) (fun j hj => (HHO.out.lt j hj).1)⟩
        show Owns _ _ _ _
        rw [HTS.out]
        exact HO.out.snoc hcb (by rw [HTL.out]; omega) (by rw [HTL.out]; exact hown1)
      case measure => simp [intOf]; omega
    · have HTS : Hid (B.take k = B) := List.take_of_length_le (by have := HN.out; omega)
      go_wp2
      go_ret
      exact ⟨_, rfl, by have := HO.out; rw [HTS.out] at this; exact this, hnx⟩
theorem copy_any {lim : Nat} {ao : Option Addr} {B : List Nat} {n cap : Nat} {w : World} (h : Shows lim w ao n cap B) (hl : lim ≤ w.heap.size) :
    Calls Tryz.prog 82 #[.slice ao n cap] w fun e w' => ∃ v, e = .returned v ∧ Owns w.heap.size w' v B ∧ Below w.heap.size w w' := by
  obtain ⟨h1, h2, h3, h4, b, off, h5, h6, h7⟩ := h
  exact copy_walk b off ao B n cap w h5 h1 h3 h4 (fun h => Nat.lt_of_lt_of_le (h6 h) hl) h7
end Go.Proofs.YtiijbboigebhcaaGreatDoor
namespace Go.Proofs.YtiijbboigebhcaaGreatDoor
open Go.RowKit Crc

/-- Nil, or a block's. -/
def NilOr (ao : Option Addr) (cap d n : Nat) : Prop := ao = some ⟨d, 0, none⟩ ∨ ao = none ∧ cap = 0 ∧ n = 0
/-- The reference's reader as it lies: its bytes in block d. -/
def RefS (d : Nat) (w : World) (p : Nat) (s : RS) : Prop :=
  ∃ ao cap, w.heap[p]? = some (.cells #[.bool s.made, .slice ao s.B.length cap, .int .i64 (s.pos : Int), .int .i64 s.why, .int .i64 s.place] 151 (0, 0)) ∧ (s.B.length ≤ cap ∧ NilOr ao cap d s.B.length) ∧ s.B.length ≤ 140737488355328 ∧ (∀ x ∈ s.B, x < 256) ∧ s.pos ≤ s.B.length ∧
    (0 < s.B.length → ao = some ⟨d, 0, none⟩) ∧ (0 < s.B.length → d ≠ p) ∧ ∀ i, i < s.B.length → w.cell? ⟨d, i, none⟩ = some (.int .u8 ((s.B.getD i 0 : Nat) : Int))
theorem RefS.kept {d : Nat} {w w' : World} {p : Nat} {s : RS} {row : Option Nat} (h : RefS d w p s) (hg : w.grownBy w' row) (hp : row ≠ some p) (hd : row ≠ some d) : RefS d w' p s := by
  obtain ⟨ao, cap, hb, h1, h2, h3, h4, h5, h6, h7⟩ := h
  refine ⟨ao, cap, ?_, h1, h2, h3, h4, h5, h6, fun i hi => ?_⟩
  · rw [hg.block p (block_lt hb) (fun e => hp e.symm)]; exact hb
  · exact hg.cell (h7 i hi) (fun e => hd e.symm)

set_option maxRecDepth 10000 in
theorem dead_sound (d p : Nat) (s : RS) (w : World) (hR : RefS d w p s) (hs : s.sound) :
    Calls Tryz.prog 41 #[.pointer (some ⟨p, 0, none⟩)] w fun e w' => e = .returned (.bool false) ∧ w' = w := by
  obtain ⟨ao, cap, hb, -⟩ := hR
  have c0 := block_cell hb 0
  have c3 := block_cell hb 3
  simp at c0 c3
  rw [hs.1] at c0
  rw [hs.2] at c3
  clear hb hs
  go_enter Tryz.func41, Tryz.ntmps41
  go_wp2
  go_ret
  exact ⟨rfl, rfl⟩

set_option maxRecDepth 10000 in
theorem dead_not (d p : Nat) (s : RS) (w : World) (hR : RefS d w p s) (hs : ¬ s.sound) :
    Calls Tryz.prog 41 #[.pointer (some ⟨p, 0, none⟩)] w fun e w' => e = .returned (.bool true) ∧ w' = w := by
  obtain ⟨ao, cap, hb, -⟩ := hR
  have c0 := block_cell hb 0
  have c3 := block_cell hb 3
  simp at c0 c3
  clear hb
  unfold RS.sound at hs
  by_cases hm : s.made = true
  · rw [hm] at c0
    generalize s.why = why at *
    have hwb : (why != 0) = true := by simp; intro h; exact hs ⟨hm, h⟩
    clear hs hm
    go_enter Tryz.func41, Tryz.ntmps41
    go_wp2
    go_ret
    exact ⟨rfl, rfl⟩
  · have hm : s.made = false := by simpa using hm
    rw [hm] at c0
    clear hm hs c3
    go_enter Tryz.func41, Tryz.ntmps41
    go_wp2
    go_ret
    exact ⟨rfl, rfl⟩

set_option maxRecDepth 10000 in
theorem refLeft_any (d p : Nat) (s : RS) (w : World) (hR : RefS d w p s) (hz : s.made = false → s.B.length = s.pos) :
    Calls Tryz.prog 83 #[.pointer (some ⟨p, 0, none⟩)] w fun e w' => e = .returned (.int .i64 ((s.B.length - s.pos : Nat) : Int)) ∧ ∃ q, w' = w.drewN q := by
  obtain ⟨ao, cap, hb, h1, h2, h3, h4, -⟩ := hR
  have c0 := block_cell hb 0
  have c1 := block_cell hb 1
  have c2 := block_cell hb 2
  simp at c0 c1 c2
  clear hb h1
  have HE : Hid ((s.B.length : Int) - (s.pos : Int) = ((s.B.length - s.pos : Nat) : Int)) := by show _ = _; omega
  by_cases hm : s.made = true
  · rw [hm] at c0
    clear hz hm
    generalize s.B.length = n at *
    generalize s.pos = pos at *
    have h0 : (pos : Int) ≤ (n : Int) := by omega
    go_enter Tryz.func83, Tryz.ntmps83
    go_wp2_with fail
    go_quiet (fail)
    go_wp2
    go_ret
    exact ⟨by rw [← HE.out]; rfl, _, rfl⟩
  · have hm : s.made = false := by simpa using hm
    have hz := hz hm
    rw [hm] at c0
    have HZ : Hid (s.B.length - s.pos = 0) := by show _ = _; omega
    clear hz hm
    go_enter Tryz.func83, Tryz.ntmps83
    go_wp2
    go_ret
    exact ⟨by rw [HZ.out]; rfl, 0, rfl⟩

set_option maxRecDepth 10000 in
theorem refFail_any (d p : Nat) (s : RS) (code : Int) (at_ : Nat) (w : World) (hR : RefS d w p s) (ha : at_ ≤ s.B.length) :
    Calls Tryz.prog 84 #[.pointer (some ⟨p, 0, none⟩), .int .i64 code, .int .i64 (at_ : Int)] w fun e w' => e = .returned (.tuple #[]) ∧ RefS d w' p { s with why := code, place := at_, pos := at_ } ∧ w.grownBy w' (some p) := by
  obtain ⟨ao, cap, hb, h1, h2, h3, h4, h5, h6, h7⟩ := hR
  have f2 := block_free hb 2
  have f3 := block_free hb 3
  have f4 := block_free hb 4
  have c2 := block_cell hb 2
  have c3 := block_cell hb 3
  have c4 := block_cell hb 4
  simp at c2 c3 c4
  have HF : Hid (RefS d (((w.setCell ⟨p, 2, none⟩ (.int .i64 (at_ : Int))).setCell ⟨p, 3, none⟩ (.int .i64 code)).setCell ⟨p, 4, none⟩ (.int .i64 (at_ : Int))) p { s with why := code, place := at_, pos := at_ } ∧ w.grownBy (((w.setCell ⟨p, 2, none⟩ (.int .i64 (at_ : Int))).setCell ⟨p, 3, none⟩ (.int .i64 code)).setCell ⟨p, 4, none⟩ (.int .i64 (at_ : Int))) (some p)) := by
    have hg : w.grownBy (((w.setCell ⟨p, 2, none⟩ (.int .i64 (at_ : Int))).setCell ⟨p, 3, none⟩ (.int .i64 code)).setCell ⟨p, 4, none⟩ (.int .i64 (at_ : Int))) (some p) := grown_trans (row := some p) (grown_trans (row := some p) (grown_set w _ _ _) (grown_set _ _ _ _)) (grown_set _ _ _ _)
    refine ⟨⟨ao, cap, ?_, h1, h2, h3, ha, h5, h6, fun i hi => ?_⟩, hg⟩
    · have hb1 : (w.setCell ⟨p, 2, none⟩ (.int .i64 (at_ : Int))).heap[p]? = some (.cells #[.bool s.made, .slice ao s.B.length cap, .int .i64 (at_ : Int), .int .i64 s.why, .int .i64 s.place] 151 (0, 0)) := by
        rw [heap_setCell_same w p 2 _ _ _ hb]; simp
      have hb2 : ((w.setCell ⟨p, 2, none⟩ (.int .i64 (at_ : Int))).setCell ⟨p, 3, none⟩ (.int .i64 code)).heap[p]? = some (.cells #[.bool s.made, .slice ao s.B.length cap, .int .i64 (at_ : Int), .int .i64 code, .int .i64 s.place] 151 (0, 0)) := by
        rw [heap_setCell_same _ p 3 _ _ _ hb1]; simp
      rw [heap_setCell_same _ p 4 _ _ _ hb2]; simp
    · exact hg.cell (h7 i hi) (fun e => h6 (by simp only at hi; omega) (by cases e; rfl))
  clear hb h1 h2 h3 h4 h5 h6 h7 ha
  go_enter Tryz.func84, Tryz.ntmps84
  go_wp2
  go_end0
  exact ⟨rfl, HF.out⟩
end Go.Proofs.YtiijbboigebhcaaGreatDoor
namespace Go.Proofs.YtiijbboigebhcaaGreatDoor
open Go.RowKit Crc

theorem RefS.world {d : Nat} {w w' : World} {p : Nat} {s : RS} (h : RefS d w p s) (he : w'.heap = w.heap) : RefS d w' p s := by
  obtain ⟨ao, cap, hb, h1, h2, h3, h4, h5, h6, h7⟩ := h
  refine ⟨ao, cap, by rw [he]; exact hb, h1, h2, h3, h4, h5, h6, fun i hi => ?_⟩
  exact (World.cell?_of_block (w := w) (w' := w') (a := ⟨d, i, none⟩) (by rw [he])).trans (h7 i hi)
theorem RefS.posle {d : Nat} {w : World} {p : Nat} {s : RS} (h : RefS d w p s) : s.pos ≤ s.B.length := by obtain ⟨ao, cap, hb, h1, h2, h3, h4, _⟩ := h; exact h4
/-- The place moved on. -/
theorem RefS.moved {d : Nat} {w : World} {p : Nat} {s : RS} (h : RefS d w p s) (k : Nat) (hk : s.pos + k ≤ s.B.length) :
    RefS d (w.setCell ⟨p, 2, none⟩ (.int .i64 ((s.pos : Int) + (k : Int)))) p { s with pos := s.pos + k } ∧ w.grownBy (w.setCell ⟨p, 2, none⟩ (.int .i64 ((s.pos : Int) + (k : Int)))) (some p) := by
  obtain ⟨ao, cap, hb, h1, h2, h3, h4, h5, h6, h7⟩ := h
  refine ⟨⟨ao, cap, ?_, h1, h2, h3, hk, h5, h6, fun i hi => ?_⟩, grown_set _ _ _ _⟩
  · rw [heap_setCell_same w p 2 _ _ _ hb]; simp
  · exact (grown_set w p 2 _).cell (h7 i hi) (fun e => h6 (by simp only at hi; omega) (by cases e; rfl))

theorem wrap64_nat {n : Nat} (h : n < 9223372036854775808) : IntKind.i64.wrap (n : Int) = (n : Int) := by
  have h1 : (n : Int) < 9223372036854775808 := by omega
  simp [IntKind.wrap, IntKind.bits, IntKind.signed]
  omega
theorem wrapu64_nat {n : Nat} (h : n < 18446744073709551616) : IntKind.u64.wrap (n : Int) = (n : Int) := by
  have h1 : (n : Int) < 18446744073709551616 := by omega
  simp [IntKind.wrap, IntKind.bits, IntKind.signed]
  omega

set_option maxRecDepth 10000 in
set_option maxHeartbeats 1600000 in
theorem refFixed_any (d p : Nat) (s : RS) (k : Nat) (ki : Int) (w : World) (hki : ki = (k : Int)) (hk : 0 < k) (hk8 : k ≤ 8) (hR : RefS d w p s) :
    Calls Tryz.prog 40 #[.pointer (some ⟨p, 0, none⟩), .int .i64 ki] w fun e w' => e = .returned (.int .u64 (hi (aheadV s.rest k) : Nat)) ∧ RefS d w' p (s.step k (aheadW s.rest k)) ∧ w.grownBy w' (some p) := by
  subst hki
  by_cases hs : s.sound
  · have HDD := hide (dead_sound d p s w hR hs)
    have HLE := hide (refLeft_any d p s w hR (fun h => by rw [hs.1] at h; cases h))
    have hpl := hR.posle
    have hrest : s.rest = s.B.drop s.pos := by unfold RS.rest restB; rw [if_pos (show s.made = true ∧ s.why = 0 from hs)]
    by_cases hsh : s.B.length - s.pos < k
    · have HE : Hid (hi (aheadV s.rest k) = 0 ∧ aheadW s.rest k = 20) := by
        have : s.rest.length < k := by rw [hrest, List.length_drop]; exact hsh
        exact ⟨by unfold aheadV; rw [if_pos this]; rfl, by unfold aheadW; rw [if_pos this]⟩
      have HS : Hid (s.step k 20 = { s with why := 20, place := s.pos, pos := s.pos }) := by unfold RS.step; rw [if_pos hs]; rfl
      have HFA := hide (fun q => refFail_any d p s 20 s.pos (w.drewN q) (hR.world rfl) hpl)
      obtain ⟨ao, cap, hb, -⟩ := hR
      have c2 := block_cell hb 2
      simp at c2
      have HL : Hid (((s.B.length - s.pos : Nat) : Int) < (k : Int)) := by show _ < _; omega
      generalize hm : s.B.length - s.pos = m at *
      have h1 := HL.out
      generalize hq : s.pos = pos at *
      clear hb hrest hsh hs hpl hm
      go_enter Tryz.func40, Tryz.ntmps40
      go_wp2_with fail
      refine HDD.out.mono ?_
      rintro e w1 ⟨rfl, rfl⟩
      go_wp2_with fail
      refine HLE.out.mono ?_
      rintro e w1 ⟨rfl, q, rfl⟩
      go_wp2_with fail
      refine (HFA.out q).mono ?_
      rintro e w2 ⟨rfl, h5, h6⟩
      go_wp2
      go_ret
      refine ⟨by rw [HE.out.1]; rfl, ?_, grown_from h6⟩
      rw [HE.out.2, HS.out]
      exact h5
    · have hnl : ¬ s.rest.length < k := by rw [hrest, List.length_drop]; exact hsh
      have HE : Hid (aheadV s.rest k = (s.B.drop s.pos).take k ∧ aheadW s.rest k = 0) := by
        exact ⟨by unfold aheadV; rw [if_neg hnl, hrest], by unfold aheadW; rw [if_neg hnl]⟩
      have HS : Hid (s.step k 0 = { s with pos := s.pos + k }) := by unfold RS.step; rw [if_pos hs]; rfl
      have HMV := hide (fun q => (hR.world (w' := w.drewN q) rfl).moved k (by omega))
      have HB : Hid (∀ x ∈ s.B, x < 256) := by obtain ⟨ao, cap, hb, h1, h2, h3, -⟩ := hR; exact h3
      obtain ⟨ao, cap, hb, h1, h2, h3, h4, h5, h6, h7⟩ := hR
      obtain rfl := h5 (by omega)
      have HC := hide h7
      have c1 := block_cell hb 1
      have c2 := block_cell hb 2
      have f2 := block_free hb 2
      simp at c1 c2
      have HLn := hide (show s.pos + k ≤ s.B.length by omega)
      have hL : ¬ (((s.B.length - s.pos : Nat) : Int) < (k : Int)) := by omega
      have hn47 : (s.B.length : Int) ≤ 140737488355328 := by omega
      have hpk : (s.pos : Int) + (k : Int) ≤ (s.B.length : Int) := by omega
      generalize hm : s.B.length - s.pos = m at *
      clear hb hrest hsh hs hpl hm h1 h2 h3 h4 h5 h6 h7 hnl
      go_enter Tryz.func40, Tryz.ntmps40
      go_wp2_with fail
      refine HDD.out.mono ?_
      rintro e wa ⟨rfl, rfl⟩
      go_wp2_with fail
      refine HLE.out.mono ?_
      rintro e w1 ⟨rfl, q, rfl⟩
      go_wp2_with fail
      go_loopw [5, 6] (fun v i wr => ∃ j x q : Nat, j ≤ k ∧ i = .int .i64 j ∧ v = .int .u64 x ∧ wr = wa.drewN q ∧ Hid (x = hi ((s.B.drop s.pos).take j))) (fun _ i _ => k - (intOf i).toNat)
      case atStart => exact ⟨0, 0, q, Nat.zero_le _, rfl, rfl, rfl, by show _ = _; simp [hi]⟩
      case round =>
        obtain ⟨j, x, q, hj, rfl, rfl, rfl, HX⟩ := hrel
        by_cases hlt : j < k
        · have hcj := HC.out (s.pos + j) (by have := HLn.out; omega)
          have hcb : s.B.getD (s.pos + j) 0 < 256 := getD_lt s.B HB.out _
          have hst := hi_step (s.B.drop s.pos) j (by rw [List.length_drop]; have := HLn.out; omega)
          rw [← HX.out] at hst
          have hgd : (s.B.drop s.pos).getD j 0 = s.B.getD (s.pos + j) 0 := by rw [List.getD_eq_getElem?_getD, List.getElem?_drop, ← List.getD_eq_getElem?_getD]
          rw [hgd] at hst
          obtain ⟨c, hcd⟩ : ∃ c, c = s.B.getD (s.pos + j) 0 := ⟨_, rfl⟩
          rw [← hcd] at hcj hcb hst
          have hxl : x < 72057594037927936 := by
            have h1 := hi_lt ((s.B.drop s.pos).take j) (fun x hx => HB.out x (List.mem_of_mem_drop (List.mem_of_mem_take hx)))
            rw [← HX.out, List.length_take] at h1
            have h2 : 256 ^ min j (s.B.drop s.pos).length ≤ 256 ^ 7 := Nat.pow_le_pow_right (by omega) (by omega)
            omega
          have HS1 : Hid (x * 256 + c = hi ((s.B.drop s.pos).take (j + 1))) := hst.symm
          have hEl : ((s.pos + j : Nat) : Int) < (s.B.length : Int) := by have := HLn.out; omega
          have he : IntKind.i64.wrap ((s.pos : Int) + (j : Int)) = ((s.pos + j : Nat) : Int) := by rw [← Int.natCast_add]; exact wrap64_nat (by omega)
          have hx1 : IntKind.u64.wrap ((x : Int) * 256) = ((x * 256 : Nat) : Int) := by rw [show (x : Int) * 256 = ((x * 256 : Nat) : Int) by omega]; exact wrapu64_nat (by omega)
          have hx2 : IntKind.u64.wrap (((x * 256 : Nat) : Int) + (c : Int)) = ((x * 256 + c : Nat) : Int) := by rw [← Int.natCast_add]; exact wrapu64_nat (by omega)
          have hcp : IntKind.u64.wrap (c : Int) = (c : Int) := wrapu64_nat (by omega)
          generalize hE : s.pos + j = E at *
          generalize hX : x * 256 = X at *
          generalize hY : X + c = Y at *
          have HY := hide hY
          clear hst hcd HX hgd hE hX hY
          have hji : (j : Int) < (k : Int) := by omega
          have hcc : (c : Int) < 256 := by omega
          go_wp2_with fail
          go_quiet (fail)
          go_wp2
          go_roundw
          case rel => exact ⟨j + 1, Y, _, by omega, by go_num, rfl, rfl, HS1⟩
          case measure => simp [intOf]; omega
        · obtain rfl : j = k := by omega
          have HFX : Hid (x = hi (aheadV s.rest j)) := by
            show _ = _
            rw [HX.out, HE.out.1]
          have HMQ := hide (HMV.out q)
          have hpk2 : (s.pos : Int) + (j : Int) ≤ 140737488355328 := by omega
          clear HX HC HMV
          go_wp2
          go_ret
          refine ⟨by rw [← HFX.out]; rfl, ?_, grown_from HMQ.out.2⟩
          rw [HE.out.2, HS.out]
          exact HMQ.out.1
  · have HDD := hide (dead_not d p s w hR hs)
    have HE : Hid (hi (aheadV s.rest k) = 0 ∧ ∀ y, s.step k y = s) := by
      have hrest : s.rest = [] := restB_sound hs
      refine ⟨?_, fun y => by unfold RS.step; rw [if_neg hs]⟩
      rw [hrest]
      unfold aheadV
      split <;> simp [hi]
    have HR := hide hR
    clear hR hs
    go_enter Tryz.func40, Tryz.ntmps40
    go_wp2_with fail
    refine HDD.out.mono ?_
    rintro e wa ⟨rfl, rfl⟩
    go_wp2
    go_ret
    refine ⟨by rw [HE.out.1]; rfl, ?_, ⟨rfl, rfl, rfl, Nat.le_refl _, fun _ _ _ => rfl⟩⟩
    rw [HE.out.2]
    exact HR.out
end Go.Proofs.YtiijbboigebhcaaGreatDoor
