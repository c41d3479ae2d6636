import Derived.Test.YtcfenjpdjogmdaaLT08
import Derived.Test.YtcfenjpdjogmdaaLT13
namespace Go.Proofs.Ytcfenjpdjogmdaa
open Go.RowKit

theorem and_leZ (x m : Int) (hm : 0 ≤ m) (hm2 : m < 18446744073709551616) : 0 ≤ bits .and .u64 x m ∧ bits .and .u64 x m ≤ m := by
  have hM : (m % ((2 ^ IntKind.u64.bits : Nat) : Int)).toNat = m.toNat := by
    rw [Int.emod_eq_of_lt hm (by simpa [IntKind.bits] using hm2)]
  have hle : (x % ((2 ^ IntKind.u64.bits : Nat) : Int)).toNat &&& (m % ((2 ^ IntKind.u64.bits : Nat) : Int)).toNat ≤ m.toNat := by rw [hM]; exact Nat.and_le_right
  unfold bits
  simp only [BitVec.toNat_and, BitVec.toNat_ofInt]
  generalize (x % ((2 ^ IntKind.u64.bits : Nat) : Int)).toNat &&& (m % ((2 ^ IntKind.u64.bits : Nat) : Int)).toNat = r at *
  have hw : IntKind.u64.wrap (r : Int) = (r : Int) := IntWalk.u64_in _ ⟨by omega, by omega⟩
  rw [hw]
  constructor <;> omega
set_option maxRecDepth 10000 in
theorem lenZ (x : Nat) (h1 : 0 < x) (h2 : x < 256) : ∃ v : Nat, 2 ^ v ≤ 2 * x ∧ v ≤ 8 ∧ ∀ w : World, Calls Try.prog 82 #[.int .u64 (x : Nat)] w fun e w' => e = .returned (.int .i64 (v : Nat)) ∧ w' = w := by
  obtain ⟨v, g1, g2, g3⟩ := len64Z x h1 h2
  refine ⟨v, g1, g2, fun w => ?_⟩
  have H := hide (g3 w)
  clear g1 g2 g3
  go_enter Try.func82, Try.ntmps82
  go_wp2_with fail
  refine H.out.mono ?_
  rintro e w' ⟨rfl, rfl⟩
  go_wp2
  go_ret
  exact ⟨rfl, rfl⟩
set_option maxRecDepth 10000 in
set_option maxHeartbeats 1000000 in
theorem powZ (x : Nat) (h1 : 0 < x) (h2 : x < 256) : ∃ M : Nat, M ≤ 2 * x ∧ 0 < M ∧ ∀ w : World, Calls Try.prog 95 #[.int .i64 (x : Nat)] w fun e w' => e = .returned (.int .u64 (M : Nat)) ∧ w' = w := by
  obtain ⟨v, g1, g2, g3⟩ := lenZ x h1 h2
  refine ⟨2 ^ v, g1, Nat.two_pow_pos v, fun w => ?_⟩
  have H := hide (g3 w)
  clear g1 g3
  have HV : v = 0 ∨ v = 1 ∨ v = 2 ∨ v = 3 ∨ v = 4 ∨ v = 5 ∨ v = 6 ∨ v = 7 ∨ v = 8 := by omega
  have hxw : IntKind.u64.wrap (x : Int) = (x : Int) := IntWalk.u64_in _ ⟨by omega, by omega⟩
  rcases HV with rfl | rfl | rfl | rfl | rfl | rfl | rfl | rfl | rfl
  all_goals
    go_enter Try.func95, Try.ntmps95
    go_wp2_with fail
    refine H.out.mono ?_
    rintro e w' ⟨rfl, rfl⟩
    go_wp2
    go_ret
    exact ⟨rfl, rfl⟩
end Go.Proofs.Ytcfenjpdjogmdaa
namespace Go.Proofs.Ytcfenjpdjogmdaa
open Go.RowKit

/-- [a, i] is in order but for the place j, and what lies behind j is more. -/
def InsR (a i j : Nat) (D : Nat → Nat) : Prop := (∀ p q, a ≤ p → p ≤ q → q ≤ i → p ≠ j → q ≠ j → D p ≤ D q) ∧ ∀ q, j < q → q ≤ i → D j ≤ D q
theorem InsR.start {a i : Nat} {D : Nat → Nat} (h : SortR a i D) : InsR a i i D := ⟨fun p q h1 h2 h3 h4 h5 => h p q h1 h2 (by omega), fun q h1 h2 => by omega⟩
theorem InsR.done {a i j : Nat} {D : Nat → Nat} (h : InsR a i j D) (hji : j ≤ i) (h1 : j = a ∨ ¬ D j < D (j - 1)) : SortR a (i + 1) D := fun p q k1 k2 k3 => by
  by_cases e1 : p = j
  · by_cases e2 : q = j
    · rw [e1, e2]; exact Nat.le_refl _
    · rw [e1]; exact h.2 q (by omega) (by omega)
  · by_cases e2 : q = j
    · rw [e2]
      rcases h1 with h1 | h1
      · omega
      · have := h.1 p (j - 1) k1 (by omega) (by omega) e1 (by omega)
        omega
    · exact h.1 p q k1 k2 (by omega) e1 e2
theorem InsR.step {a i j : Nat} {D : Nat → Nat} (h : InsR a i (j + 1) D) (hj : a ≤ j) (hji : j + 1 ≤ i) (hl : D (j + 1) < D j) : InsR a i j (swp D (j + 1) j) := by
  have e1 : swp D (j + 1) j (j + 1) = D j := swp_l _ _ _
  have e2 : swp D (j + 1) j j = D (j + 1) := swp_r _ _ _
  have eo : ∀ k, k ≠ j + 1 → k ≠ j → swp D (j + 1) j k = D k := fun k k1 k2 => swp_o D k1 k2
  refine ⟨fun p q k1 k2 k3 k4 k5 => ?_, fun q k1 k2 => ?_⟩
  · by_cases f1 : p = j + 1
    · rw [f1, e1]
      by_cases f2 : q = j + 1
      · rw [f2, e1]; exact Nat.le_refl _
      · rw [eo q f2 k5]; exact h.1 j q hj (by omega) k3 (by omega) f2
    · rw [eo p f1 k4]
      by_cases f2 : q = j + 1
      · rw [f2, e1]; exact h.1 p j k1 (by omega) (by omega) f1 (by omega)
      · rw [eo q f2 k5]; exact h.1 p q k1 k2 k3 f1 f2
  · rw [e2]
    by_cases f2 : q = j + 1
    · rw [f2, e1]; omega
    · rw [eo q f2 (by omega)]; exact h.2 q (by omega) k2
set_option maxRecDepth 100000 in
set_option maxHeartbeats 4000000 in
theorem isortZ (B g cap n a b : Nat) (D0 : Nat → Nat) (hn : n < 4611686018427387904) (hab : a ≤ b) (hbn : b ≤ n) (w : World) (hr : RowF w g cap n D0) (hB : B ≤ g) :
    Calls Try.prog 83 #[.slice (some ⟨g, 0, none⟩) n cap, .int .i64 (a : Nat), .int .i64 (b : Nat)] w fun e w' => e = .returned (.tuple #[]) ∧ Hid (∃ D, SortR a b D ∧ ZS B w g cap n a b D0 w' D) := by
  have HL := hide lessZ
  have I0 : Hid (∃ D, SortR a (a + 1) D ∧ ZS B w g cap n a b D0 w D) := ⟨D0, SortR.none _ (by omega), ZS.begin a b hr hB⟩
  have ha1 : IntKind.i64.wrap ((a : Int) + 1) = ((a + 1 : Nat) : Int) := by rw [IntWalk.i64_in _ ⟨by omega, by omega⟩]; omega
  clear hr hB
  go_enter Try.func83, Try.ntmps83
  go_wp2
  go_loopw [6] (fun i wr => ∃ k : Nat, a + 1 ≤ k ∧ (k ≤ b ∨ k = a + 1) ∧ i = .int .i64 (k : Nat) ∧ Hid (∃ D, SortR a k D ∧ ZS B w g cap n a b D0 wr D)) (fun i _ => b - (intOf i).toNat)
  case atStart => exact ⟨a + 1, Nat.le_refl _, .inr rfl, by go_num, I0.out⟩
  case round =>
    obtain ⟨k, hk, hkb, rfl, HJ⟩ := hrel
    clear I0 ha1
    by_cases hlt : k < b
    · have HI : Hid (∃ D, InsR a k k D ∧ ZS B w g cap n a b D0 wr D) := by
        obtain ⟨D, h1, h2⟩ := HJ.out
        exact ⟨D, InsR.start h1, h2⟩
      clear HJ
      go_wp2
      go_loopw [7] (fun j wr => ∃ p : Nat, a ≤ p ∧ p ≤ k ∧ j = .int .i64 (p : Nat) ∧ Hid (∃ D, InsR a k p D ∧ ZS B w g cap n a b D0 wr D)) (fun j _ => (intOf j).toNat)
      case atStart => exact ⟨k, by omega, Nat.le_refl _, rfl, HI.out⟩
      case round =>
        obtain ⟨p, hpa, hp, rfl, HQ⟩ := hrel
        clear HI
        obtain ⟨D, hI, hZ⟩ := HQ.out
        clear HQ
        by_cases hpe : p = a
        · have FIN : Hid (∀ q, ∃ D, SortR a (k + 1) D ∧ ZS B w g cap n a b D0 (wr.drewN q) D) := fun q => ⟨D, hI.done hp (.inl hpe), hZ.drewN q⟩
          have d1 : ¬ a < p := by omega
          clear hI hZ hpe
          go_upto_region 4 with fail
          go_quiet (fail)
          go_wp2
          go_roundw
          case rel => exact ⟨k + 1, by omega, by omega, by go_num, FIN.out _⟩
          case measure => simp [intOf]; omega
        · obtain ⟨q, rfl⟩ : ∃ q, p = q + 1 := ⟨p - 1, by omega⟩
          have d1 : (a : Int) < (q : Int) + 1 := by omega
          obtain ⟨x, hx⟩ : ∃ x, D (q + 1) = x := ⟨_, rfl⟩
          obtain ⟨z, hz⟩ : ∃ z, D q = z := ⟨_, rfl⟩
          have y0 : wr.cell? ⟨g, q + 1, none⟩ = some (.int .u64 (x : Int)) := by rw [← hx]; exact hZ.row.cell (by omega)
          have y1 : wr.cell? ⟨g, q, none⟩ = some (.int .u64 (z : Int)) := by rw [← hz]; exact hZ.row.cell (by omega)
          have hgl : g < wr.heap.size := hZ.row.lt
          have hqn : q + 1 < n := by omega
          have HZ := hide hZ
          by_cases hxz : x < z
          · have hd : x < z := hxz
            have NX : Hid (∀ V, ZS B w g cap n a b D0 V D → ∃ D, InsR a k q D ∧ ZS B w g cap n a b D0 ((V.setCell ⟨g, q + 1, none⟩ (.int .u64 (z : Int))).setCell ⟨g, q, none⟩ (.int .u64 (x : Int))) D) := fun V hV => by
              refine ⟨_, hI.step (by omega) hp (by rw [hx, hz]; exact hxz), ?_⟩
              have h := hV.swap (i := q + 1) (j := q) (by omega) (by omega) (by omega) (by omega)
              rw [hx, hz] at h
              exact h
            clear hI hZ hx hz hxz
            go_upto_region 4 with fail
            go_quiet (first | (go_at_call 89; refine Calls.quiet_of_same (HL.out _ _ _)))
            go_upto_region 6 with fail
            have HI4 := hide (HZ.out.drewN nq)
            have a0 : (wr.drewN nq).cell? ⟨g, q + 1, none⟩ = some (.int .u64 (x : Int)) := by simpa using y0
            have a1 : (wr.drewN nq).cell? ⟨g, q, none⟩ = some (.int .u64 (z : Int)) := by simpa using y1
            have a2 : g < (wr.drewN nq).heap.size := by simpa using hgl
            have a3 := HI4.out.row.free (q + 1)
            have a4 := HI4.out.row.free q
            clear y0 y1 hgl HZ
            generalize wr.drewN nq = W4 at *
            go_region
            go_wp2
            go_roundw
            case rel => exact ⟨q, by omega, by omega, by go_num, NX.out _ HI4.out.drew⟩
            case measure => simp [intOf]
          · have hd : ¬ x < z := hxz
            have FIN : Hid (∀ q, ∃ D, SortR a (k + 1) D ∧ ZS B w g cap n a b D0 (wr.drewN q) D) := fun m => ⟨D, hI.done hp (.inr (by simp only [Nat.add_sub_cancel]; rw [hx, hz]; exact hxz)), hZ.drewN m⟩
            clear hI hZ hx hz hxz
            go_upto_region 4 with fail
            go_quiet (first | (go_at_call 89; refine Calls.quiet_of_same (HL.out _ _ _)))
            go_wp2
            go_roundw
            case rel => exact ⟨k + 1, by omega, by omega, by go_num, FIN.out _⟩
            case measure => simp [intOf]; omega
    · have FIN : Hid (∃ D, SortR a b D ∧ ZS B w g cap n a b D0 wr D) := by
        obtain ⟨D, h1, h2⟩ := HJ.out
        exact ⟨D, fun i j k1 k2 k3 => h1 i j k1 k2 (by omega), h2⟩
      clear HJ
      go_wp2
      go_end0
      exact ⟨rfl, FIN.out⟩
end Go.Proofs.Ytcfenjpdjogmdaa
namespace Go.Proofs.Ytcfenjpdjogmdaa
open Go.RowKit

set_option maxRecDepth 100000 in
set_option maxHeartbeats 4000000 in
theorem siftZ (B g cap n lo hi first : Nat) (D0 : Nat → Nat) (hn : n < 2305843009213693952) (hlo : lo ≤ hi) (hbn : first + hi ≤ n) (w : World) (hr : RowF w g cap n D0) (hB : B ≤ g) (hH : Heap (lo + 1) hi first D0) :
    Calls Try.prog 94 #[.slice (some ⟨g, 0, none⟩) n cap, .int .i64 (lo : Nat), .int .i64 (hi : Nat), .int .i64 (first : Nat)] w fun e w' => e = .returned (.tuple #[]) ∧ Hid (∃ D, Heap lo hi first D ∧ ZS B w g cap n first (first + hi) D0 w' D) := by
  have HL := hide lessZ
  have I0 : Hid (∃ D, HeapBut lo hi first lo D ∧ ZS B w g cap n first (first + hi) D0 w D) := ⟨D0, hH.but, ZS.begin _ _ hr hB⟩
  clear hr hB hH
  go_enter Try.func94, Try.ntmps94
  go_wp2
  go_loopw [8, 9] (fun i _ wr => ∃ r : Nat, lo ≤ r ∧ r ≤ hi ∧ i = .int .i64 (r : Nat) ∧ Hid (∃ D, HeapBut lo hi first r D ∧ ZS B w g cap n first (first + hi) D0 wr D)) (fun i _ _ => hi - (intOf i).toNat)
  case atStart => exact ⟨lo, Nat.le_refl _, hlo, rfl, I0.out⟩
  case round =>
    obtain ⟨r, hlr, hrh, rfl, HJ⟩ := hrel
    clear I0
    obtain ⟨D, hI, hZ⟩ := HJ.out
    clear HJ
    by_cases hc : 2 * r + 1 < hi
    · have HZ := hide hZ
      have HI := hide hI
      have hgl : g < wr.heap.size := hZ.row.lt
      clear hZ hI
      obtain ⟨c, hce⟩ : ∃ c, 2 * r + 1 = c := ⟨_, rfl⟩
      obtain ⟨fr, hfe⟩ : ∃ fr, first + r = fr := ⟨_, rfl⟩
      obtain ⟨fc, hge⟩ : ∃ fc, first + c = fc := ⟨_, rfl⟩
      have HCE := hide (And.intro hce (And.intro hfe hge))
      have i1 : 2 * (r : Int) + 1 = (c : Int) := by omega
      have i2 : (first : Int) + (r : Int) = (fr : Int) := by omega
      have i3 : (first : Int) + (c : Int) = (fc : Int) := by omega
      have i4 : (first : Int) + ((c : Int) + 1) = (fc : Int) + 1 := by omega
      have i5 : c < hi := by omega
      have i6 : fc < n := by omega
      have i7 : fr < n := by omega
      have i9 : (fc : Int) < (n : Int) := by omega
      have i10 : (fr : Int) < (n : Int) := by omega
      have w1 : IntKind.i64.wrap ((c : Int) + 1) = (c : Int) + 1 := IntWalk.i64_in _ ⟨by omega, by omega⟩
      have w2 : IntKind.i64.wrap (fc : Int) = (fc : Int) := IntWalk.i64_in _ ⟨by omega, by omega⟩
      have w3 : IntKind.i64.wrap (fr : Int) = (fr : Int) := IntWalk.i64_in _ ⟨by omega, by omega⟩
      have w4 : IntKind.i64.wrap ((fc : Int) + 1) = (fc : Int) + 1 := IntWalk.i64_in _ ⟨by omega, by omega⟩
      clear hce hfe hge
      obtain ⟨y, hY⟩ : ∃ y, D fc = y := ⟨_, rfl⟩
      have y0 : wr.cell? ⟨g, fc, none⟩ = some (.int .u64 (y : Int)) := by rw [← hY]; exact HZ.out.row.cell (by omega)
      by_cases hc1 : c + 1 < hi
      · obtain ⟨z, hZ0⟩ : ∃ z, D (fc + 1) = z := ⟨_, rfl⟩
        have y1 : wr.cell? ⟨g, fc + 1, none⟩ = some (.int .u64 (z : Int)) := by rw [← hZ0]; exact HZ.out.row.cell (by have := HCE.out; omega)
        have i8 : fc + 1 < n := by have := HCE.out; omega
        have i11 : (fc : Int) + 1 < (n : Int) := by omega
        have i12 : (0 : Int) ≤ (fc : Int) + 1 := by omega
        have hc2 : (c : Int) + 1 < (hi : Int) := by omega
        by_cases hyz : y < z
        · have HMX : Hid (∀ m, 1 ≤ m → m < hi → (m - 1) / 2 = r → D (first + m) ≤ D (fc + 1)) := fun m h1 h2 h3 => by
            have h4 := HCE.out
            have : first + m = fc ∨ first + m = fc + 1 := by omega
            rcases this with e | e
            · rw [e, hY, hZ0]; omega
            · rw [e]; exact Nat.le_refl _
          go_upto_region 3 with fail
          go_quiet (first | (go_at_call 89; refine Calls.quiet_of_same (HL.out _ _ _)))
          obtain ⟨x, hx⟩ : ∃ x, D fr = x := ⟨_, rfl⟩
          have y3 : (wr.drewN nq).cell? ⟨g, fr, none⟩ = some (.int .u64 (x : Int)) := by rw [← hx]; exact (HZ.out.drewN nq).row.cell (by omega)
          have y4 : (wr.drewN nq).cell? ⟨g, fc + 1, none⟩ = some (.int .u64 (z : Int)) := by rw [← hZ0]; exact (HZ.out.drewN nq).row.cell (by omega)
          have y5 : g < (wr.drewN nq).heap.size := HZ.out.row.lt
          have HZ2 := hide (HZ.out.drewN nq)
          clear HZ y0 y1 hgl
          generalize wr.drewN nq = W3 at *
          by_cases hxz : x < z
          · have hd : x < z := hxz
            have NX : Hid (∀ V, ZS B w g cap n first (first + hi) D0 V D → ∃ D, HeapBut lo hi first (c + 1) D ∧ ZS B w g cap n first (first + hi) D0 ((V.setCell ⟨g, fr, none⟩ (.int .u64 (z : Int))).setCell ⟨g, fc + 1, none⟩ (.int .u64 (x : Int))) D) := fun V hV => by
              have h4 := HCE.out
              have e1 : first + r = fr := by omega
              have e2 : first + (c + 1) = fc + 1 := by omega
              have h5 := HI.out.down (k := c + 1) hlr (by omega) (by omega) (by omega) (by rw [e2]; exact HMX.out) (by rw [e1, e2, hx, hZ0]; exact hxz)
              rw [e1, e2] at h5
              refine ⟨_, h5, ?_⟩
              have h := hV.swap (i := fr) (j := fc + 1) (by omega) (by omega) (by omega) (by omega)
              rw [hx, hZ0] at h
              exact h
            clear HI HMX hx hxz hY hZ0
            go_upto_region 5 with fail
            go_quiet (first | (go_at_call 89; refine Calls.quiet_of_same (HL.out _ _ _)))
            go_upto_region 6 with fail
            have HI4 := hide (HZ2.out.drewN nq)
            have a0 : (W3.drewN nq).cell? ⟨g, fr, none⟩ = some (.int .u64 (x : Int)) := by simpa using y3
            have a1 : (W3.drewN nq).cell? ⟨g, fc + 1, none⟩ = some (.int .u64 (z : Int)) := by simpa using y4
            have a2 : g < (W3.drewN nq).heap.size := by simpa using y5
            have a3 := HI4.out.row.free fr
            have a4 := HI4.out.row.free (fc + 1)
            clear y3 y4 y5 HZ2
            generalize W3.drewN nq = W4 at *
            go_region
            go_wp2
            go_roundw
            case rel => exact ⟨c + 1, by have := HCE.out; omega, by have := HCE.out; omega, by go_num, NX.out _ HI4.out.drew⟩
            case measure => simp [intOf]; have := HCE.out; omega
          · have hd : ¬ x < z := hxz
            have FIN : Hid (∀ q, ∃ D, Heap lo hi first D ∧ ZS B w g cap n first (first + hi) D0 (W3.drewN q) D) := fun q => ⟨D, HI.out.done (fun m h1 h2 h3 => by
              have h4 := HMX.out m h1 h2 h3
              have e1 : first + r = fr := by have := HCE.out; omega
              rw [e1, hx]
              rw [hZ0] at h4
              omega), HZ2.out.drewN q⟩
            clear HI HMX hx hxz hY hZ0
            go_upto_region 5 with fail
            go_quiet (first | (go_at_call 89; refine Calls.quiet_of_same (HL.out _ _ _)))
            go_wp2
            refine bodyPost_ret (results_none rfl _ _ _) rfl ?_
            exact ⟨rfl, FIN.out _⟩
        · have HMX : Hid (∀ m, 1 ≤ m → m < hi → (m - 1) / 2 = r → D (first + m) ≤ D fc) := fun m h1 h2 h3 => by
            have h4 := HCE.out
            have : first + m = fc ∨ first + m = fc + 1 := by omega
            rcases this with e | e
            · rw [e]; exact Nat.le_refl _
            · rw [e, hY, hZ0]; omega
          go_upto_region 3 with fail
          go_quiet (first | (go_at_call 89; refine Calls.quiet_of_same (HL.out _ _ _)))
          obtain ⟨x, hx⟩ : ∃ x, D fr = x := ⟨_, rfl⟩
          have y3 : (wr.drewN nq).cell? ⟨g, fr, none⟩ = some (.int .u64 (x : Int)) := by rw [← hx]; exact (HZ.out.drewN nq).row.cell (by omega)
          have y4 : (wr.drewN nq).cell? ⟨g, fc, none⟩ = some (.int .u64 (y : Int)) := by rw [← hY]; exact (HZ.out.drewN nq).row.cell (by omega)
          have y5 : g < (wr.drewN nq).heap.size := HZ.out.row.lt
          have HZ2 := hide (HZ.out.drewN nq)
          clear HZ y0 y1 hgl
          generalize wr.drewN nq = W3 at *
          by_cases hxz : x < y
          · have hd : x < y := hxz
            have NX : Hid (∀ V, ZS B w g cap n first (first + hi) D0 V D → ∃ D, HeapBut lo hi first (c) D ∧ ZS B w g cap n first (first + hi) D0 ((V.setCell ⟨g, fr, none⟩ (.int .u64 (y : Int))).setCell ⟨g, fc, none⟩ (.int .u64 (x : Int))) D) := fun V hV => by
              have h4 := HCE.out
              have e1 : first + r = fr := by omega
              have e2 : first + (c) = fc := by omega
              have h5 := HI.out.down (k := c) hlr (by omega) (by omega) (by omega) (by rw [e2]; exact HMX.out) (by rw [e1, e2, hx, hY]; exact hxz)
              rw [e1, e2] at h5
              refine ⟨_, h5, ?_⟩
              have h := hV.swap (i := fr) (j := fc) (by omega) (by omega) (by omega) (by omega)
              rw [hx, hY] at h
              exact h
            clear HI HMX hx hxz hY hZ0
            go_upto_region 5 with fail
            go_quiet (first | (go_at_call 89; refine Calls.quiet_of_same (HL.out _ _ _)))
            go_upto_region 6 with fail
            have HI4 := hide (HZ2.out.drewN nq)
            have a0 : (W3.drewN nq).cell? ⟨g, fr, none⟩ = some (.int .u64 (x : Int)) := by simpa using y3
            have a1 : (W3.drewN nq).cell? ⟨g, fc, none⟩ = some (.int .u64 (y : Int)) := by simpa using y4
            have a2 : g < (W3.drewN nq).heap.size := by simpa using y5
            have a3 := HI4.out.row.free fr
            have a4 := HI4.out.row.free (fc)
            clear y3 y4 y5 HZ2
            generalize W3.drewN nq = W4 at *
            go_region
            go_wp2
            go_roundw
            case rel => exact ⟨c, by have := HCE.out; omega, by have := HCE.out; omega, by go_num, NX.out _ HI4.out.drew⟩
            case measure => simp [intOf]; have := HCE.out; omega
          · have hd : ¬ x < y := hxz
            have FIN : Hid (∀ q, ∃ D, Heap lo hi first D ∧ ZS B w g cap n first (first + hi) D0 (W3.drewN q) D) := fun q => ⟨D, HI.out.done (fun m h1 h2 h3 => by
              have h4 := HMX.out m h1 h2 h3
              have e1 : first + r = fr := by have := HCE.out; omega
              rw [e1, hx]
              rw [hY] at h4
              omega), HZ2.out.drewN q⟩
            clear HI HMX hx hxz hY hZ0
            go_upto_region 5 with fail
            go_quiet (first | (go_at_call 89; refine Calls.quiet_of_same (HL.out _ _ _)))
            go_wp2
            refine bodyPost_ret (results_none rfl _ _ _) rfl ?_
            exact ⟨rfl, FIN.out _⟩
      · have HMX : Hid (∀ m, 1 ≤ m → m < hi → (m - 1) / 2 = r → D (first + m) ≤ D fc) := fun m h1 h2 h3 => by
          have h4 := HCE.out
          have : first + m = fc := by omega
          rw [this]
          exact Nat.le_refl _
        have hc2 : ¬ (c : Int) + 1 < (hi : Int) := by omega
        have y1 := y0
        have hZ0 := hY
        go_upto_region 3 with fail
        go_quiet (fail)
        obtain ⟨x, hx⟩ : ∃ x, D fr = x := ⟨_, rfl⟩
        have y3 : (wr.drewN nq).cell? ⟨g, fr, none⟩ = some (.int .u64 (x : Int)) := by rw [← hx]; exact (HZ.out.drewN nq).row.cell (by omega)
        have y4 : (wr.drewN nq).cell? ⟨g, fc, none⟩ = some (.int .u64 (y : Int)) := by rw [← hY]; exact (HZ.out.drewN nq).row.cell (by omega)
        have y5 : g < (wr.drewN nq).heap.size := HZ.out.row.lt
        have HZ2 := hide (HZ.out.drewN nq)
        clear HZ y0 y1 hgl
        generalize wr.drewN nq = W3 at *
        by_cases hxz : x < y
        · have hd : x < y := hxz
          have NX : Hid (∀ V, ZS B w g cap n first (first + hi) D0 V D → ∃ D, HeapBut lo hi first (c) D ∧ ZS B w g cap n first (first + hi) D0 ((V.setCell ⟨g, fr, none⟩ (.int .u64 (y : Int))).setCell ⟨g, fc, none⟩ (.int .u64 (x : Int))) D) := fun V hV => by
            have h4 := HCE.out
            have e1 : first + r = fr := by omega
            have e2 : first + (c) = fc := by omega
            have h5 := HI.out.down (k := c) hlr (by omega) (by omega) (by omega) (by rw [e2]; exact HMX.out) (by rw [e1, e2, hx, hY]; exact hxz)
            rw [e1, e2] at h5
            refine ⟨_, h5, ?_⟩
            have h := hV.swap (i := fr) (j := fc) (by omega) (by omega) (by omega) (by omega)
            rw [hx, hY] at h
            exact h
          clear HI HMX hx hxz hY hZ0
          go_upto_region 5 with fail
          go_quiet (first | (go_at_call 89; refine Calls.quiet_of_same (HL.out _ _ _)))
          go_upto_region 6 with fail
          have HI4 := hide (HZ2.out.drewN nq)
          have a0 : (W3.drewN nq).cell? ⟨g, fr, none⟩ = some (.int .u64 (x : Int)) := by simpa using y3
          have a1 : (W3.drewN nq).cell? ⟨g, fc, none⟩ = some (.int .u64 (y : Int)) := by simpa using y4
          have a2 : g < (W3.drewN nq).heap.size := by simpa using y5
          have a3 := HI4.out.row.free fr
          have a4 := HI4.out.row.free (fc)
          clear y3 y4 y5 HZ2
          generalize W3.drewN nq = W4 at *
          go_region
          go_wp2
          go_roundw
          case rel => exact ⟨c, by have := HCE.out; omega, by have := HCE.out; omega, by go_num, NX.out _ HI4.out.drew⟩
          case measure => simp [intOf]; have := HCE.out; omega
        · have hd : ¬ x < y := hxz
          have FIN : Hid (∀ q, ∃ D, Heap lo hi first D ∧ ZS B w g cap n first (first + hi) D0 (W3.drewN q) D) := fun q => ⟨D, HI.out.done (fun m h1 h2 h3 => by
            have h4 := HMX.out m h1 h2 h3
            have e1 : first + r = fr := by have := HCE.out; omega
            rw [e1, hx]
            rw [hY] at h4
            omega), HZ2.out.drewN q⟩
          clear HI HMX hx hxz hY hZ0
          go_upto_region 5 with fail
          go_quiet (first | (go_at_call 89; refine Calls.quiet_of_same (HL.out _ _ _)))
          go_wp2
          refine bodyPost_ret (results_none rfl _ _ _) rfl ?_
          exact ⟨rfl, FIN.out _⟩
    · have FIN : Hid (∃ D, Heap lo hi first D ∧ ZS B w g cap n first (first + hi) D0 wr D) := ⟨D, hI.done (fun c h1 h2 h3 => by omega), hZ⟩
      clear hI hZ
      go_wp2
      go_end0
      exact ⟨rfl, FIN.out⟩
end Go.Proofs.Ytcfenjpdjogmdaa
namespace Go.Proofs.Ytcfenjpdjogmdaa
open Go.RowKit

/-- A heap of k, and behind it what was taken out of it, in order. -/
structure PopR (first hi k : Nat) (D : Nat → Nat) : Prop where
  hp : Heap 0 k first D
  st : SortR (first + k) (first + hi) D
  le : ∀ p q, p < k → k ≤ q → q < hi → D (first + p) ≤ D (first + q)
theorem PopR.start {first hi : Nat} {D : Nat → Nat} (h : Heap 0 hi first D) : PopR first hi hi D := ⟨h, SortR.none _ (by omega), fun p q h1 h2 h3 => by omega⟩
theorem PopR.top {first hi i : Nat} {D : Nat → Nat} (h : PopR first hi (i + 1) D) : Heap 1 i first (swp D first (first + i)) := fun c h1 h2 h3 => by
  rw [swp_o D (by omega) (by omega), swp_o D (by omega) (by omega)]
  exact h.hp c h1 (by omega) (by omega)
theorem PopR.step {first hi i : Nat} {D D2 : Nat → Nat} (h : PopR first hi (i + 1) D) (hp : PermR first (first + i) (swp D first (first + i)) D2) (hh : Heap 0 i first D2) : PopR first hi i D2 := by
  have e0 : D2 (first + i) = D first := by rw [hp.out (.inr (Nat.le_refl _))]; exact swp_r _ _ _
  have et : ∀ q, i < q → D2 (first + q) = D (first + q) := fun q hq => by
    rw [hp.out (.inr (by omega))]
    exact swp_o D (by omega) (by omega)
  have hmax : ∀ p, p < i → D2 (first + p) ≤ D first := fun p hpi => by
    obtain ⟨j, j1, j2, j3⟩ := hp.at_ (i := first + p) (by omega) (by omega)
    rw [j3]
    by_cases e : j = first
    · rw [e, swp_l]
      exact h.hp.top i (by omega)
    · rw [swp_o D e (by omega)]
      have := h.hp.top (j - first) (by omega)
      rw [show first + (j - first) = j by omega] at this
      exact this
  have hall : ∀ p q, p < i → i < q → q < hi → D2 (first + p) ≤ D (first + q) := fun p q h1 h2 h3 => by
    have := h.le 0 q (by omega) (by omega) h3
    exact Nat.le_trans (hmax p h1) this
  refine ⟨hh, fun p q h1 h2 h3 => ?_, fun p q h1 h2 h3 => ?_⟩
  · obtain ⟨p, rfl⟩ : ∃ p', p = first + p' := ⟨p - first, by omega⟩
    obtain ⟨q, rfl⟩ : ∃ q', q = first + q' := ⟨q - first, by omega⟩
    by_cases e1 : p = i
    · rw [e1, e0]
      by_cases e2 : q = i
      · rw [e2, e0]; exact Nat.le_refl _
      · rw [et q (by omega)]
        exact h.le 0 q (by omega) (by omega) (by omega)
    · rw [et p (by omega), et q (by omega)]
      exact h.st (first + p) (first + q) (by omega) h2 h3
  · by_cases e2 : q = i
    · rw [e2, e0]; exact hmax p h1
    · rw [et q (by omega)]
      exact hall p q h1 (by omega) h3
def dn (k : Nat) : Int := (k : Int) - 1
theorem dn_zero : dn 0 = -1 := rfl
theorem dn_succ (m : Nat) : dn (m + 1) = (m : Int) := by unfold dn; omega
set_option maxRecDepth 100000 in
set_option maxHeartbeats 1000000 in
theorem heapZ (B g cap n a b : Nat) (D0 : Nat → Nat) (hn : n < 2305843009213693952) (hab : a < b) (hbn : b ≤ n) (w : World) (hr : RowF w g cap n D0) (hB : B ≤ g) :
    Calls Try.prog 84 #[.slice (some ⟨g, 0, none⟩) n cap, .int .i64 (a : Nat), .int .i64 (b : Nat)] w fun e w' => e = .returned (.tuple #[]) ∧ Hid (∃ D, SortR a b D ∧ ZS B w g cap n a b D0 w' D) := by
  obtain ⟨hi, hbe⟩ : ∃ hi, a + hi = b := ⟨b - a, by omega⟩
  have HS := hide (fun (lo h : Nat) (D : Nat → Nat) (h1 : lo ≤ h) (h2 : a + h ≤ n) (V : World) (h3 : RowF V g cap n D) (h4 : Heap (lo + 1) h a D) => siftZ B g cap n lo h a D hn h1 h2 V h3 hB h4)
  have HS0 : Hid (∀ (h : Nat) (D : Nat → Nat), a + h ≤ n → ∀ V : World, RowF V g cap n D → Heap 1 h a D → Calls Try.prog 94 #[.slice (some ⟨g, 0, none⟩) n cap, .int .i64 0, .int .i64 (h : Nat), .int .i64 (a : Nat)] V fun e w' => e = .returned (.tuple #[]) ∧ Hid (∃ D', Heap 0 h a D' ∧ ZS B V g cap n a (a + h) D w' D')) := fun h D h2 V h3 h4 => siftZ B g cap n 0 h a D hn (Nat.zero_le _) h2 V h3 hB h4
  obtain ⟨k0, hk0⟩ : ∃ k0, (hi - 1) / 2 = k0 := ⟨_, rfl⟩
  have I0 : Hid (∃ D, Heap (k0 + 1) hi a D ∧ ZS B w g cap n a b D0 w D) := ⟨D0, fun c h1 h2 h3 => by omega, ZS.begin _ _ hr hB⟩
  have j0 : (b : Int) - (a : Int) = (hi : Int) := by omega
  have j1 : ((hi : Int) - 1) / 2 = (k0 : Int) := by omega
  have j2 : (0 : Int) ≤ (hi : Int) - 1 := by omega
  have j3 : k0 < hi := by omega
  clear hr hB
  go_enter Try.func84, Try.ntmps84
  go_wp2
  have J1 := hide j1
  clear j0 j1 j2
  go_loopw [9] (fun i wr => ∃ k : Nat, k ≤ k0 + 1 ∧ i = .int .i64 (dn k) ∧ Hid (∃ D, Heap k hi a D ∧ ZS B w g cap n a b D0 wr D)) (fun i _ => (intOf i + 1).toNat)
  case atStart => exact ⟨k0 + 1, Nat.le_refl _, by rw [dn_succ, ← J1.out], I0.out⟩
  case round =>
    obtain ⟨k, hk, rfl, HJ⟩ := hrel
    clear I0
    cases k with
    | succ m =>
      rw [dn_succ]
      obtain ⟨D, hH, hZ⟩ := HJ.out
      have HC := hide (HS.out m hi D (by omega) (by omega) wr hZ.row hH)
      have HZ := hide hZ
      clear hH hZ HJ
      go_wp2_with fail
      refine HC.out.mono ?_
      rintro e w2 ⟨rfl, G⟩
      have NX : Hid (∃ D, Heap m hi a D ∧ ZS B w g cap n a b D0 w2 D) := by
        obtain ⟨D2, g1, g2⟩ := G.out
        exact ⟨D2, g1, HZ.out.call g2 (Nat.le_refl _) (by omega)⟩
      clear HC HZ G
      go_wp2
      go_roundw
      case rel => exact ⟨m, by omega, rfl, NX.out⟩
      case measure => simp [intOf]
    | zero =>
      rw [dn_zero]
      have I1 : Hid (∃ D, PopR a hi hi D ∧ ZS B w g cap n a b D0 wr D) := by
        obtain ⟨D, h1, h2⟩ := HJ.out
        exact ⟨D, PopR.start h1, h2⟩
      clear HJ HS
      go_wp2
      go_loopw [10] (fun i wr => ∃ k : Nat, k ≤ hi ∧ i = .int .i64 (dn k) ∧ Hid (∃ D, PopR a hi k D ∧ ZS B w g cap n a b D0 wr D)) (fun i _ => (intOf i + 1).toNat)
      case atStart => exact ⟨hi, Nat.le_refl _, rfl, I1.out⟩
      case round =>
        obtain ⟨k, hk, rfl, HJ⟩ := hrel
        clear I1
        cases k with
        | succ m =>
          rw [dn_succ]
          obtain ⟨D, hH, hZ⟩ := HJ.out
          obtain ⟨fm, hfm⟩ : ∃ fm, a + m = fm := ⟨_, rfl⟩
          obtain ⟨x, hx⟩ : ∃ x, D a = x := ⟨_, rfl⟩
          obtain ⟨z, hz⟩ : ∃ z, D fm = z := ⟨_, rfl⟩
          have NX : Hid (∀ V, ZS B w g cap n a b D0 V D → ∃ D', D' = swp D a fm ∧ Heap 1 m a D' ∧ ZS B w g cap n a b D0 ((V.setCell ⟨g, a, none⟩ (.int .u64 (z : Int))).setCell ⟨g, fm, none⟩ (.int .u64 (x : Int))) D') := fun V hV => by
            refine ⟨_, rfl, ?_, ?_⟩
            · have h := hH.top
              rw [hfm] at h
              exact h
            · have h := hV.swap (i := a) (j := fm) (by omega) (by omega) (by omega) (by omega)
              rw [hx, hz] at h
              exact h
          have NY : Hid (∀ D2, PermR a (a + m) (swp D a fm) D2 → Heap 0 m a D2 → PopR a hi m D2) := fun D2 h1 h2 => hH.step (by rw [hfm]; rw [hfm] at h1; exact h1) h2
          have i1 : (a : Int) + (m : Int) = (fm : Int) := by omega
          have i2 : fm < n := by omega
          have i3 : a < n := by omega
          have i4 : a + m ≤ n := by omega
          have i5 : a + m ≤ b := by omega
          have a0 : wr.cell? ⟨g, a, none⟩ = some (.int .u64 (x : Int)) := by rw [← hx]; exact hZ.row.cell i3
          have a1 : wr.cell? ⟨g, fm, none⟩ = some (.int .u64 (z : Int)) := by rw [← hz]; exact hZ.row.cell i2
          have a2 : g < wr.heap.size := hZ.row.lt
          have a3 := hZ.row.free a
          have a4 := hZ.row.free fm
          have HZ := hide hZ
          clear hH hZ HJ hx hz
          by_cases hm : a = fm
          · subst hm
            have exz : x = z := by rw [a0] at a1; cases a1; omega
            subst exz
            clear hfm a1 a4
            go_upto_region 10 with fail
            go_region
            obtain ⟨D', e', hH', hZ'⟩ := NX.out _ HZ.out.drew
            have HC := hide (HS0.out m D' i4 _ hZ'.row hH')
            have HZ' := hide hZ'
            have HE := hide e'
            clear hH' hZ' e' NX HZ a0 a2 a3
            go_wp2_with fail
            refine HC.out.mono ?_
            rintro e w2 ⟨rfl, G⟩
            have NZ : Hid (∃ D, PopR a hi m D ∧ ZS B w g cap n a b D0 w2 D) := by
              obtain ⟨D2, g1, g2⟩ := G.out
              exact ⟨D2, NY.out D2 (by rw [← HE.out]; exact g2.perm) g1, HZ'.out.call g2 (Nat.le_refl _) i5⟩
            clear HC HZ' G HE NY
            go_wp2
            go_roundw
            case rel => exact ⟨m, by omega, rfl, NZ.out⟩
            case measure => simp [intOf]
          · have hne : a ≠ fm := hm
            clear hfm
            go_upto_region 10 with fail
            go_region
            obtain ⟨D', e', hH', hZ'⟩ := NX.out _ HZ.out.drew
            have HC := hide (HS0.out m D' i4 _ hZ'.row hH')
            have HZ' := hide hZ'
            have HE := hide e'
            clear hH' hZ' e' NX HZ a0 a1 a2 a3 a4
            go_wp2_with fail
            refine HC.out.mono ?_
            rintro e w2 ⟨rfl, G⟩
            have NZ : Hid (∃ D, PopR a hi m D ∧ ZS B w g cap n a b D0 w2 D) := by
              obtain ⟨D2, g1, g2⟩ := G.out
              exact ⟨D2, NY.out D2 (by rw [← HE.out]; exact g2.perm) g1, HZ'.out.call g2 (Nat.le_refl _) i5⟩
            clear HC HZ' G HE NY
            go_wp2
            go_roundw
            case rel => exact ⟨m, by omega, rfl, NZ.out⟩
            case measure => simp [intOf]
        | zero =>
          rw [dn_zero]
          have FIN : Hid (∃ D, SortR a b D ∧ ZS B w g cap n a b D0 wr D) := by
            obtain ⟨D, h1, h2⟩ := HJ.out
            refine ⟨D, ?_, h2⟩
            have h := h1.st
            rw [Nat.add_zero, hbe] at h
            exact h
          clear HJ
          go_wp2
          go_end0
          exact ⟨rfl, FIN.out⟩
end Go.Proofs.Ytcfenjpdjogmdaa
