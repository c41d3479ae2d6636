import Derived.Test.YteafdpmblbbpnaaLS09
import Derived.Test.YteafdpmblbbpnaaLS15
namespace Go.Proofs.Yteafdpmblbbpnaa
open Go.RowKit

theorem and_leZ (x m : Int) (hm : 0 ≤ m) (hm2 : m < 18446744073709551616) : 0 ≤ bits .and .u64 x m ∧ bits .and .u64 x m ≤ m := by
  have hM : (m % ((2 ^ IntKind.u64.bits : Nat) : Int)).toNat = m.toNat := by
    rw [Int.emod_eq_of_lt hm (by simpa [IntKind.bits] using hm2)]
  have hle : (x % ((2 ^ IntKind.u64.bits : Nat) : Int)).toNat &&& (m % ((2 ^ IntKind.u64.bits : Nat) : Int)).toNat ≤ m.toNat := by rw [hM]; exact Nat.and_le_right
  unfold bits
  simp only [BitVec.toNat_and, BitVec.toNat_ofInt]
  generalize (x % ((2 ^ IntKind.u64.bits : Nat) : Int)).toNat &&& (m % ((2 ^ IntKind.u64.bits : Nat) : Int)).toNat = r at *
  have hw : IntKind.u64.wrap (r : Int) = (r : Int) := IntWalk.u64_in _ ⟨by omega, by omega⟩
  rw [hw]
  constructor <;> omega
set_option maxRecDepth 10000 in
theorem lenZ (x : Nat) (h1 : 0 < x) (h2 : x < 256) : ∃ v : Nat, 2 ^ v ≤ 2 * x ∧ v ≤ 8 ∧ ∀ w : World, Calls Try.prog 72 #[.int .u64 (x : Nat)] w fun e w' => e = .returned (.int .i64 (v : Nat)) ∧ w' = w := by
  obtain ⟨v, g1, g2, g3⟩ := len64Z x h1 h2
  refine ⟨v, g1, g2, fun w => ?_⟩
  have H := hide (g3 w)
  clear g1 g2 g3
  go_enter Try.func72, Try.ntmps72
  go_wp2_with fail
  refine H.out.mono ?_
  rintro e w' ⟨rfl, rfl⟩
  go_wp2
  go_ret
  exact ⟨rfl, rfl⟩
set_option maxRecDepth 10000 in
set_option maxHeartbeats 1000000 in
theorem powZ (x : Nat) (h1 : 0 < x) (h2 : x < 256) : ∃ M : Nat, M ≤ 2 * x ∧ 0 < M ∧ ∀ w : World, Calls Try.prog 92 #[.int .i64 (x : Nat)] w fun e w' => e = .returned (.int .u64 (M : Nat)) ∧ w' = w := by
  obtain ⟨v, g1, g2, g3⟩ := lenZ x h1 h2
  refine ⟨2 ^ v, g1, Nat.two_pow_pos v, fun w => ?_⟩
  have H := hide (g3 w)
  clear g1 g3
  have HV : v = 0 ∨ v = 1 ∨ v = 2 ∨ v = 3 ∨ v = 4 ∨ v = 5 ∨ v = 6 ∨ v = 7 ∨ v = 8 := by omega
  have hxw : IntKind.u64.wrap (x : Int) = (x : Int) := IntWalk.u64_in _ ⟨by omega, by omega⟩
  rcases HV with rfl | rfl | rfl | rfl | rfl | rfl | rfl | rfl | rfl
  all_goals
    go_enter Try.func92, Try.ntmps92
    go_wp2_with fail
    refine H.out.mono ?_
    rintro e w' ⟨rfl, rfl⟩
    go_wp2
    go_ret
    exact ⟨rfl, rfl⟩
end Go.Proofs.Yteafdpmblbbpnaa
namespace Go.Proofs.Yteafdpmblbbpnaa
open Go.RowKit

/-- [a, i] is in order but for the place j, and what lies behind j is more. -/
def InsR (a i j : Nat) (D : Nat → Nat) : Prop := (∀ p q, a ≤ p → p ≤ q → q ≤ i → p ≠ j → q ≠ j → D p ≤ D q) ∧ ∀ q, j < q → q ≤ i → D j ≤ D q
theorem InsR.start {a i : Nat} {D : Nat → Nat} (h : SortR a i D) : InsR a i i D := ⟨fun p q h1 h2 h3 h4 h5 => h p q h1 h2 (by omega), fun q h1 h2 => by omega⟩
theorem InsR.done {a i j : Nat} {D : Nat → Nat} (h : InsR a i j D) (hji : j ≤ i) (h1 : j = a ∨ ¬ D j < D (j - 1)) : SortR a (i + 1) D := fun p q k1 k2 k3 => by
  by_cases e1 : p = j
  · by_cases e2 : q = j
    · rw [e1, e2]; exact Nat.le_refl _
    · rw [e1]; exact h.2 q (by omega) (by omega)
  · by_cases e2 : q = j
    · rw [e2]
      rcases h1 with h1 | h1
      · omega
      · have := h.1 p (j - 1) k1 (by omega) (by omega) e1 (by omega)
        omega
    · exact h.1 p q k1 k2 (by omega) e1 e2
theorem InsR.step {a i j : Nat} {D : Nat → Nat} (h : InsR a i (j + 1) D) (hj : a ≤ j) (hji : j + 1 ≤ i) (hl : D (j + 1) < D j) : InsR a i j (swp D (j + 1) j) := by
  have e1 : swp D (j + 1) j (j + 1) = D j := swp_l _ _ _
  have e2 : swp D (j + 1) j j = D (j + 1) := swp_r _ _ _
  have eo : ∀ k, k ≠ j + 1 → k ≠ j → swp D (j + 1) j k = D k := fun k k1 k2 => swp_o D k1 k2
  refine ⟨fun p q k1 k2 k3 k4 k5 => ?_, fun q k1 k2 => ?_⟩
  · by_cases f1 : p = j + 1
    · rw [f1, e1]
      by_cases f2 : q = j + 1
      · rw [f2, e1]; exact Nat.le_refl _
      · rw [eo q f2 k5]; exact h.1 j q hj (by omega) k3 (by omega) f2
    · rw [eo p f1 k4]
      by_cases f2 : q = j + 1
      · rw [f2, e1]; exact h.1 p j k1 (by omega) (by omega) f1 (by omega)
      · rw [eo q f2 k5]; exact h.1 p q k1 k2 k3 f1 f2
  · rw [e2]
    by_cases f2 : q = j + 1
    · rw [f2, e1]; omega
    · rw [eo q f2 (by omega)]; exact h.2 q (by omega) k2
set_option maxRecDepth 100000 in
set_option maxHeartbeats 4000000 in
theorem isortZ (B g cap n a b : Nat) (D0 : Nat → Nat) (hn : n < 4611686018427387904) (hab : a ≤ b) (hbn : b ≤ n) (w : World) (hr : RowF w g cap n D0) (hB : B ≤ g) :
    Calls Try.prog 80 #[.slice (some ⟨g, 0, none⟩) n cap, .int .i64 (a : Nat), .int .i64 (b : Nat)] w fun e w' => e = .returned (.tuple #[]) ∧ Hid (∃ D, SortR a b D ∧ ZS B w g cap n a b D0 w' D) := by
  have HL := hide lessZ
  have I0 : Hid (∃ D, SortR a (a + 1) D ∧ ZS B w g cap n a b D0 w D) := ⟨D0, SortR.none _ (by omega), ZS.begin a b hr hB⟩
  have ha1 : IntKind.i64.wrap ((a : Int) + 1) = ((a + 1 : Nat) : Int) := by rw [IntWalk.i64_in _ ⟨by omega, by omega⟩]; omega
  clear hr hB
  go_enter Try.func80, Try.ntmps80
  go_wp2
  go_loopw [6] (fun i wr => ∃ k : Nat, a + 1 ≤ k ∧ (k ≤ b ∨ k = a + 1) ∧ i = .int .i64 (k : Nat) ∧ Hid (∃ D, SortR a k D ∧ ZS B w g cap n a b D0 wr D)) (fun i _ => b - (intOf i).toNat)
  case atStart => exact ⟨a + 1, Nat.le_refl _, .inr rfl, by go_num, I0.out⟩
  case round =>
    obtain ⟨k, hk, hkb, rfl, HJ⟩ := hrel
    clear I0 ha1
    by_cases hlt : k < b
    · have HI : Hid (∃ D, InsR a k k D ∧ ZS B w g cap n a b D0 wr D) := by
        obtain ⟨D, h1, h2⟩ := HJ.out
        exact ⟨D, InsR.start h1, h2⟩
      clear HJ
      go_wp2
      go_loopw [7] (fun j wr => ∃ p : Nat, a ≤ p ∧ p ≤ k ∧ j = .int .i64 (p : Nat) ∧ Hid (∃ D, InsR a k p D ∧ ZS B w g cap n a b D0 wr D)) (fun j _ => (intOf j).toNat)
      case atStart => exact ⟨k, by omega, Nat.le_refl _, rfl, HI.out⟩
      case round =>
        obtain ⟨p, hpa, hp, rfl, HQ⟩ := hrel
        clear HI
        obtain ⟨D, hI, hZ⟩ := HQ.out
        clear HQ
        by_cases hpe : p = a
        · have FIN : Hid (∀ q, ∃ D, SortR a (k + 1) D ∧ ZS B w g cap n a b D0 (wr.drewN q) D) := fun q => ⟨D, hI.done hp (.inl hpe), hZ.drewN q⟩
          have d1 : ¬ a < p := by omega
          clear hI hZ hpe
          go_upto_region 4 with fail
          go_quiet (fail)
          go_wp2
          go_roundw
          case rel => exact ⟨k + 1, by omega, by omega, by go_num, FIN.out _⟩
          case measure => simp [intOf]; omega
        · obtain ⟨q, rfl⟩ : ∃ q, p = q + 1 := ⟨p - 1, by omega⟩
          have d1 : (a : Int) < (q : Int) + 1 := by omega
          obtain ⟨x, hx⟩ : ∃ x, D (q + 1) = x := ⟨_, rfl⟩
          obtain ⟨z, hz⟩ : ∃ z, D q = z := ⟨_, rfl⟩
          have y0 : wr.cell? ⟨g, q + 1, none⟩ = some (.int .u64 (x : Int)) := by rw [← hx]; exact hZ.row.cell (by omega)
          have y1 : wr.cell? ⟨g, q, none⟩ = some (.int .u64 (z : Int)) := by rw [← hz]; exact hZ.row.cell (by omega)
          have hgl : g < wr.heap.size := hZ.row.lt
          have hqn : q + 1 < n := by omega
          have HZ := hide hZ
          by_cases hxz : x < z
          · have hd : x < z := hxz
            have NX : Hid (∀ V, ZS B w g cap n a b D0 V D → ∃ D, InsR a k q D ∧ ZS B w g cap n a b D0 ((V.setCell ⟨g, q + 1, none⟩ (.int .u64 (z : Int))).setCell ⟨g, q, none⟩ (.int .u64 (x : Int))) D) := fun V hV => by
              refine ⟨_, hI.step (by omega) hp (by rw [hx, hz]; exact hxz), ?_⟩
              have h := hV.swap (i := q + 1) (j := q) (by omega) (by omega) (by omega) (by omega)
              rw [hx, hz] at h
              exact h
            clear hI hZ hx hz hxz
            go_upto_region 4 with fail
            go_quiet (first | (go_at_call 86; refine Calls.quiet_of_same (HL.out _ _ _)))
            go_upto_region 6 with fail
            have HI4 := hide (HZ.out.drewN nq)
            have a0 : (wr.drewN nq).cell? ⟨g, q + 1, none⟩ = some (.int .u64 (x : Int)) := by simpa using y0
            have a1 : (wr.drewN nq).cell? ⟨g, q, none⟩ = some (.int .u64 (z : Int)) := by simpa using y1
            have a2 : g < (wr.drewN nq).heap.size := by simpa using hgl
            have a3 := HI4.out.row.free (q + 1)
            have a4 := HI4.out.row.free q
            clear y0 y1 hgl HZ
            generalize wr.drewN nq = W4 at *
            go_region
            go_wp2
            go_roundw
            case rel => exact ⟨q, by omega, by omega, by go_num, NX.out _ HI4.out.drew⟩
            case measure => simp [intOf]
          · have hd : ¬ x < z := hxz
            have FIN : Hid (∀ q, ∃ D, SortR a (k + 1) D ∧ ZS B w g cap n a b D0 (wr.drewN q) D) := fun m => ⟨D, hI.done hp (.inr (by simp only [Nat.add_sub_cancel]; rw [hx, hz]; exact hxz)), hZ.drewN m⟩
            clear hI hZ hx hz hxz
            go_upto_region 4 with fail
            go_quiet (first | (go_at_call 86; refine Calls.quiet_of_same (HL.out _ _ _)))
            go_wp2
            go_roundw
            case rel => exact ⟨k + 1, by omega, by omega, by go_num, FIN.out _⟩
            case measure => simp [intOf]; omega
    · have FIN : Hid (∃ D, SortR a b D ∧ ZS B w g cap n a b D0 wr D) := by
        obtain ⟨D, h1, h2⟩ := HJ.out
        exact ⟨D, fun i j k1 k2 k3 => h1 i j k1 k2 (by omega), h2⟩
      clear HJ
      go_wp2
      go_end0
      exact ⟨rfl, FIN.out⟩
end Go.Proofs.Yteafdpmblbbpnaa
