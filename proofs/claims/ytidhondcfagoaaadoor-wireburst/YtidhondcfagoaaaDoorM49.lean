import Derived.Test.YtidhondcfagoaaaDoorM46
import Derived.Test.YtidhondcfagoaaaDoorM47
namespace Go.Proofs.YtidhondcfagoaaaDoor
open Go.RowKit Crc

def low4 (s : Nat) : List Nat := [s % 256, s / 256 % 256, s / 65536 % 256, s / 16777216]
def headB (kind : Nat) (B : List Nat) : List Nat := [81, 77] ++ [1, kind] ++ big B.length 4 ++ B
def frameB (kind : Nat) (B : List Nat) : List Nat := headB kind B ++ low4 (Crc.sum (headB kind B))

set_option maxRecDepth 10000 in
set_option maxHeartbeats 400000 in
theorem frame_long (k : Int) (ao : Option Addr) (n cap : Nat) (w : World) (h : 65495 < n) (hl : n ≤ 140737488355328) :
    Calls Tryd.prog 4 #[.int .u8 k, .slice ao n cap] w fun e w' => ∃ v, e = .returned (.tuple #[.slice none 0 0, v]) ∧ IsFault w' v 65507 21 ∧ Below w.heap.size w w' := by
  go_enter Tryd.func4, Tryd.ntmps4
  go_wp2_with fail
  refine (refusal_any _ _ _).mono ?_
  rintro e w2 ⟨v, rfl, rfl, hf, hb⟩
  go_wp2
  go_ret2
  exact ⟨_, rfl, hf, hb⟩

theorem big2 : big 20813 2 = [81, 77] := by decide
theorem headB_lt (k : Nat) (B : List Nat) (hk : k < 256) (hB : ∀ x ∈ B, x < 256) : ∀ x ∈ headB k B, x < 256 := by
  intro x hx
  simp only [headB, List.mem_append, List.mem_cons, List.not_mem_nil, or_false] at hx
  rcases hx with (((rfl | rfl) | rfl | rfl) | hx) | hx
  all_goals first | omega | exact hB x hx | exact bigTo_lt _ _ _ x hx
theorem headB_len (k : Nat) (B : List Nat) : (headB k B).length = 8 + B.length := by
  simp [headB, big, big_len]; omega

theorem vals_low4 (S : Nat) : vals (low4 S) = [.int .u8 ((S : Int) % (256 : Int)), .int .u8 ((S : Int) / (256 : Int) % (256 : Int)), .int .u8 ((S : Int) / (65536 : Int) % (256 : Int)), .int .u8 ((S : Int) / (16777216 : Int))] := by
  simp [vals, low4]

set_option maxRecDepth 10000 in
set_option maxHeartbeats 1600000 in
theorem frame_some (k : Nat) (b off : Nat) (B : List Nat) (n cap : Nat) (w : World) (hn : n = B.length) (hl : n ≤ 65495) (hk : k < 256) (hB : ∀ x ∈ B, x < 256) (hbw : b < w.heap.size) (h0 : 0 < w.heap.size) (hT : Table w)
  (hc : ∀ i, i < n → w.cell? ⟨b, off + i, none⟩ = some (.int .u8 ((B.getD i 0 : Nat) : Int))) :
    Calls Tryd.prog 4 #[.int .u8 k, .slice (some ⟨b, off, none⟩) n cap] w fun e w' => e = .returned (.tuple #[.slice (some ⟨w.heap.size, 0, none⟩) (12 + n) (12 + n), .nilIface]) ∧
      w'.ownsRow w.heap.size 5 1 (.slice (some ⟨w.heap.size, 0, none⟩) (12 + n) (12 + n)) (12 + n) (vals (frameB k B)) ∧ Below w.heap.size w w' := by
  obtain ⟨i0, hi, hz0, hz1, hz2⟩ := info_parts Tryd.info5
  have HS : Hid (∀ w1 : World, Below w.heap.size w w1 → ∀ j v, (vals B)[j]? = some v → w1.cell? ((⟨b, off, none⟩ : Addr).add j) = some v) := by
    intro w1 hb
    exact vals_cell (fun i hi => (hb.cell (p := ⟨b, off + i, none⟩) hbw).trans (hc i (by omega)))
  have HT : Hid (∀ w1 : World, Below w.heap.size w w1 → Table w1) := fun w1 hb i hi => (hb.cell (p := ⟨0, i, none⟩) h0).trans (hT i hi)
  have HN : Hid (n = B.length) := hn
  have HB : Hid (∀ x ∈ B, x < 256) := hB
  clear hn hc hT hB hbw h0
  go_enter Tryd.func4, Tryd.ntmps4
  go_wp2_with (first
    | (at_make; refine wpList_make_own _ rfl _ _ 22 rfl w.heap.size 5 i0 (.int .u8 0) 1 Tryd.underlying22 hi hz0 hz1 .i64 .i64 _ (12 + n) rfl rfl (by omega) (by rw [hz2]; omega) (by unfold maxLen; omega) (Nat.le_refl _) ?_; intro w0 hown0 hgrow0))
  go_wp2_with fail
  refine (append_any w.heap.size 0 (12 + n) 20813 2 _ _ [] w0 rfl rfl (by omega) (by omega) hown0).mono ?_
  rintro e w1 ⟨rfl, hown1, hgrow1⟩
  rw [big2] at hown1
  go_wp2_with (first
    | (at_builtin; refine wpList_append_own_spare _ rfl (.tmp 18) (.tmp 20) 22 rfl w.heap.size 5 i0 1 Tryd.underlying22 hi hz1 w.heap.size 2 (12 + n) _ rfl (hown1.alloc _) ⟨w1.heap.size, 0, none⟩ 2 2 [.int .u8 1, .int .u8 (k : Int)] rfl rfl (cell_two_new _ _ _ _) (one2 _ _) (by omega) ?_; intro w2 hown2 hgrow2))
  have hb0 : Below w.heap.size w w0 := (Below.refl _ _).grown hgrow0 (Nat.le_refl _) (fun k h => by cases h)
  have hs0 := hb0.size
  have hb1 : Below w.heap.size w w1 := hb0.grown hgrow1 (by omega) (fun k h => by cases h; exact Nat.le_refl _)
  have hs1 := hb1.size
  have hb2 : Below w.heap.size w w2 := (hb1.alloc (by omega) _).grown hgrow2 (by simp; omega) (fun k h => by cases h; exact Nat.le_refl _)
  have hs2 := hb2.size
  clear hown0 hown1 hgrow0 hgrow1 hgrow2 hb0 hb1 hs0 hs1
  refine (append_any w.heap.size 4 (12 + n) n 4 _ _ _ w2 rfl rfl (by omega) (by omega) hown2).mono ?_
  rintro e w3 ⟨rfl, hown3, hgrow3⟩
  have hb3 : Below w.heap.size w w3 := hb2.grown hgrow3 (by omega) (fun k h => by cases h; exact Nat.le_refl _)
  have hs3 := hb3.size
  have hsrc := HS.out w3 hb3
  have HSR : Hid (∀ j v, (vals B)[j]? = some v → w3.cell? ((⟨b, off, none⟩ : Addr).add j) = some v) := hsrc
  clear hsrc hown2 hgrow3 hb2 hs2
  go_wp2_with (first
    | (at_builtin; refine wpList_append_own_spare _ rfl (.tmp 27) (.tmp 28) 22 rfl w.heap.size 5 i0 1 Tryd.underlying22 hi hz1 w.heap.size 8 (12 + n) _ rfl hown3 ⟨b, off, none⟩ n cap (vals B) rfl (by rw [vals_len]; have := HN.out; omega) HSR.out (vals_one' B) (by omega) ?_; intro w4 hown4 hgrow4))
  have hb4 : Below w.heap.size w w4 := hb3.grown hgrow4 (by omega) (fun k h => by cases h; exact Nat.le_refl _)
  have hs4 := hb4.size
  have HH : Hid (w4.ownsRow w.heap.size 5 1 (.slice (some ⟨w.heap.size, 0, none⟩) (8 + n) (12 + n)) (8 + n) (vals (headB k B))) := by
    show w4.ownsRow _ _ _ _ _ _
    have e : vals (headB k B) = [] ++ vals [81, 77] ++ [.int .u8 1, .int .u8 (k : Int)] ++ vals (big n 4) ++ vals B := by
      unfold headB; rw [vals_append, vals_append, vals_append, HN.out]; rfl
    rw [e]; exact hown4
  clear hown4 hown3 hgrow4 hb3 hs3 HSR
  have HCL : Hid (∀ i, i < 8 + n → w4.cell? ⟨w.heap.size, 0 + i, none⟩ = some (.int .u8 (((headB k B).getD i 0 : Nat) : Int))) := by
    intro i hi; rw [Nat.zero_add]; exact owned_cells HH.out i hi
  refine (sum_any w.heap.size 0 _ (headB k B) (8 + n) (12 + n) w4 (fun _ => rfl) (by rw [headB_len]; have := HN.out; omega) (by omega) (headB_lt k B hk HB.out) (HT.out w4 hb4) HCL.out).mono ?_
  rintro e w5 ⟨rfl, rfl⟩
  have hSlt : Crc.sum (headB k B) < 4294967296 := xor_lt32 _ _ (sumFrom_lt _ _ (by omega) (headB_lt k B hk HB.out)) (by omega)
  have HE : Hid (vals (frameB k B) = vals (headB k B) ++ [.int .u8 (((Crc.sum (headB k B) : Nat) : Int) % (256 : Int)), .int .u8 (((Crc.sum (headB k B) : Nat) : Int) / (256 : Int) % (256 : Int)), .int .u8 (((Crc.sum (headB k B) : Nat) : Int) / (65536 : Int) % (256 : Int)), .int .u8 (((Crc.sum (headB k B) : Nat) : Int) / (16777216 : Int))]) := by
    show _ = _; unfold frameB; rw [vals_append, vals_low4]
  clear HCL
  generalize Crc.sum (headB k B) = S at *
  go_wp2_with (first
    | (at_builtin; refine wpList_append_own_spare _ rfl (.tmp 32) (.tmp 44) 22 rfl w.heap.size 5 i0 1 Tryd.underlying22 hi hz1 w.heap.size (8 + n) (12 + n) _ rfl (HH.out.alloc _) ⟨w5.heap.size, 0, none⟩ 4 4 [.int .u8 ((S : Int) % (256 : Int)), .int .u8 ((S : Int) / (256 : Int) % (256 : Int)), .int .u8 ((S : Int) / (65536 : Int) % (256 : Int)), .int .u8 ((S : Int) / (16777216 : Int))] rfl rfl (cell_four_new _ _ _ _ _ _) (one4 _ _ _ _) (by omega) ?_; intro w6 hown6 hgrow6))
  go_ret2
  refine ⟨by rw [show 8 + n + 4 = 12 + n by omega]; rfl, ?_, (hb4.alloc (by omega) _).grown hgrow6 (by simp; omega) (fun k h => by cases h; exact Nat.le_refl _)⟩
  rw [HE.out]
  rw [show 12 + n = 8 + n + 4 by omega] at hown6 ⊢
  exact hown6
end Go.Proofs.YtidhondcfagoaaaDoor
namespace Go.Proofs.YtidhondcfagoaaaDoor
open Go.RowKit Crc

theorem flip_bits (c r : Nat) (hr : r < 8) (hc : c < 256) : bits .xor .u8 (c : Int) ((2 : Int) ^ r % (256 : Int)) = ((c ^^^ 2 ^ r : Nat) : Int) := by
  have h2 : 2 ^ r < 256 := Nat.lt_of_lt_of_le (Nat.pow_lt_pow_right (by omega) hr) (by decide)
  have e : (2 : Int) ^ r % (256 : Int) = ((2 ^ r : Nat) : Int) := by
    have : (2 : Int) ^ r = ((2 ^ r : Nat) : Int) := by rw [Int.natCast_pow]; rfl
    rw [this]
    generalize 2 ^ r = q at *
    omega
  rw [e]
  exact u8_xor_nat c (2 ^ r) hc h2

set_option maxRecDepth 10000 in
set_option maxHeartbeats 400000 in
theorem flip_walk (g n cap j r c : Nat) (bit : Int) (w : World) (hj : j < n) (hr : r < 8) (hb : bit = (8 * j + r : Nat)) (hn : n ≤ 140737488355328) (hcl : c < 256) (hc : w.cell? ⟨g, j, none⟩ = some (.int .u8 (c : Int))) (hf : w.frozen? ⟨g, j, none⟩ = false) :
    Calls Tryd.prog 8 #[.slice (some ⟨g, 0, none⟩) n cap, .int .i64 bit] w fun e w' => e = .returned (.tuple #[]) ∧ w' = w.setCell ⟨g, j, none⟩ (.int .u8 ((c ^^^ 2 ^ r : Nat) : Int)) := by
  have HX : Hid (bits .xor .u8 (c : Int) ((2 : Int) ^ r % (256 : Int)) = ((c ^^^ 2 ^ r : Nat) : Int)) := flip_bits c r hr hcl
  have e3 : bit / 8 = (j : Int) := by omega
  have e4 : bit % 8 = (r : Int) := by omega
  have b1 : 0 ≤ bit := by omega
  have b2 : bit ≤ 1125899906842624 := by omega
  clear hb
  go_enter Tryd.func8, Tryd.ntmps8
  go_wp2
  go_end0
  exact ⟨rfl, by rw [HX.out]⟩

/-- The bytes with one bit turned. -/
def flipB (F : List Nat) (j r : Nat) : List Nat := F.set j (F.getD j 0 ^^^ 2 ^ r)
theorem vals_set (F : List Nat) (j x : Nat) : vals (F.set j x) = (vals F).set j (.int .u8 (x : Int)) := by simp [vals, List.map_set]
theorem flipB_len (F : List Nat) (j r : Nat) : (flipB F j r).length = F.length := by simp [flipB]
theorem flipB_lt (F : List Nat) (j r : Nat) (hr : r < 8) (hF : ∀ x ∈ F, x < 256) : ∀ x ∈ flipB F j r, x < 256 := by
  intro x hx
  rcases List.mem_or_eq_of_mem_set hx with h | rfl
  · exact hF x h
  · have h2 : 2 ^ r < 256 := Nat.lt_of_lt_of_le (Nat.pow_lt_pow_right (by omega) hr) (by decide)
    exact Nat.xor_lt_two_pow (n := 8) (getD_lt F hF j) h2

theorem flip_any (base g n : Nat) (F : List Nat) (bit : Int) (w : World) (hF : ∀ x ∈ F, x < 256) (hn : n ≤ 140737488355328) (h0 : 0 ≤ bit) (h1 : bit < 8 * (n : Int))
  (hown : w.ownsRow base 5 1 (.slice (some ⟨g, 0, none⟩) n n) n (vals F)) :
    Calls Tryd.prog 8 #[.slice (some ⟨g, 0, none⟩) n n, .int .i64 bit] w fun e w' => e = .returned (.tuple #[]) ∧
      ∃ j r, j < n ∧ r < 8 ∧ w'.ownsRow base 5 1 (.slice (some ⟨g, 0, none⟩) n n) n (vals (flipB F j r)) ∧ w.grownBy w' (some g) := by
  obtain ⟨B, rfl⟩ := Int.eq_ofNat_of_zero_le h0
  have hj : B / 8 < n := by omega
  refine (flip_walk g n n (B / 8) (B % 8) (F.getD (B / 8) 0) _ w hj (by omega) (by omega) hn (getD_lt F hF _) (owned_cells hown _ hj) (hown.frozenAt _)).mono ?_
  rintro e w' ⟨rfl, rfl⟩
  refine ⟨rfl, B / 8, B % 8, hj, by omega, ?_, (hown.stored _ _).2⟩
  have := (hown.stored (B / 8) (.int .u8 ((F.getD (B / 8) 0 ^^^ 2 ^ (B % 8) : Nat) : Int))).1
  unfold flipB
  rw [vals_set]
  exact this
end Go.Proofs.YtidhondcfagoaaaDoor
namespace Go.Proofs.YtidhondcfagoaaaDoor
open Go.RowKit Crc

/-- The number of ones among the lowest k bits, by twos. -/
def par : Nat → Nat → Nat
  | 0, _ => 0
  | k + 1, x => (x % 2 + par k (x / 2)) % 2
theorem par_lt : ∀ k x, par k x < 2
  | 0, _ => by simp [par]
  | k + 1, x => by simp only [par]; omega
theorem par_zero : ∀ k, par k 0 = 0
  | 0 => rfl
  | k + 1 => by simp [par, par_zero k]
theorem xor_half (a b : Nat) : (a ^^^ b) / 2 = (a / 2) ^^^ (b / 2) := by
  have := Nat.shiftRight_xor_distrib (a := a) (b := b) (i := 1)
  simpa [Nat.shiftRight_eq_div_pow] using this
theorem par_xor : ∀ k a b, par k (a ^^^ b) = (par k a + par k b) % 2
  | 0, _, _ => rfl
  | k + 1, a, b => by
    simp only [par]
    rw [xor_mod2, xor_half, par_xor k]
    omega
theorem par_add : ∀ j k c y, c < 2 ^ j → par (j + k) (c + 2 ^ j * y) = (par j c + par k y) % 2
  | 0, k, c, y, h => by
    have : c = 0 := by simpa using h
    subst this
    have := par_lt k y
    simp [par]; omega
  | j + 1, k, c, y, h => by
    have e : j + 1 + k = (j + k) + 1 := by omega
    rw [e]
    simp only [par]
    have h1 : (c + 2 ^ (j + 1) * y) % 2 = c % 2 := by rw [Nat.pow_succ, Nat.mul_assoc, Nat.mul_comm (2 ^ j), Nat.mul_assoc]; omega
    have h2 : (c + 2 ^ (j + 1) * y) / 2 = c / 2 + 2 ^ j * y := by
      rw [Nat.pow_succ, show 2 ^ j * 2 * y = 2 * (2 ^ j * y) by rw [Nat.mul_comm (2 ^ j) 2, Nat.mul_assoc]]
      generalize 2 ^ j * y = q
      omega
    rw [h1, h2, par_add j k (c / 2) y (by rw [Nat.pow_succ] at h; omega)]
    omega
def P (x : Nat) : Nat := par 32 x
theorem P_byte (c : Nat) (h : c < 256) : P c = par 8 c := by
  have := par_add 8 24 c 0 h
  rw [par_zero] at this
  have h2 := par_lt 8 c
  unfold P
  rw [show (32 : Nat) = 8 + 24 by omega, show c = c + 2 ^ 8 * 0 by omega, this]
  simp; omega
theorem P_lo4 (c0 c1 c2 c3 : Nat) (h0 : c0 < 256) (h1 : c1 < 256) (h2 : c2 < 256) (h3 : c3 < 256) : P (lo4 c0 c1 c2 c3) = (P c0 + P c1 + P c2 + P c3) % 2 := by
  rw [P_byte c0 h0, P_byte c1 h1, P_byte c2 h2, P_byte c3 h3]
  have a3 := par_add 8 0 c3 0 h3
  have a2 := par_add 8 8 c2 c3 h2
  have a1 := par_add 8 16 c1 (c2 + 2 ^ 8 * c3) h1
  have a0 := par_add 8 24 c0 (c1 + 2 ^ 8 * (c2 + 2 ^ 8 * c3)) h0
  unfold P
  rw [show lo4 c0 c1 c2 c3 = c0 + 2 ^ 8 * (c1 + 2 ^ 8 * (c2 + 2 ^ 8 * c3)) by unfold lo4; omega]
  simp only [Nat.reduceAdd] at a0 a1 a2 a3
  rw [a0, a1, a2]
  omega
theorem P_L (x : Nat) (h : x < 4294967296) : P (L x) = P x := by
  have hs := par_add 32 1 x 0 h
  simp only [Nat.mul_zero, Nat.add_zero, par_zero] at hs
  have e : par 33 x = (x % 2 + par 32 (x / 2)) % 2 := rfl
  have hl := par_lt 32 x
  have hl2 := par_lt 32 (x / 2)
  unfold P L
  rw [par_xor, Nat.shiftRight_eq_div_pow, show x / 2 ^ 1 = x / 2 by omega]
  have hc : par 32 2197175160 = 1 := by decide
  rw [show (32 + 1 : Nat) = 33 by omega, e] at hs
  by_cases hx : x % 2 = 1
  · rw [if_pos hx, hc]; omega
  · rw [if_neg hx, par_zero]; omega
theorem P_L8 (x : Nat) (h : x < 4294967296) : P (L8 x) = P x := by
  have l1 := L_lt x h
  have l2 := L_lt _ l1
  have l3 := L_lt _ l2
  have l4 := L_lt _ l3
  have l5 := L_lt _ l4
  have l6 := L_lt _ l5
  have l7 := L_lt _ l6
  unfold L8 L4
  rw [P_L _ l7, P_L _ l6, P_L _ l5, P_L _ l4, P_L _ l3, P_L _ l2, P_L _ l1, P_L _ h]

/-- .. of bytes. -/
def PB : List Nat → Nat
  | [] => 0
  | c :: r => (P c + PB r) % 2
theorem PB_lt : ∀ B, PB B < 2
  | [] => by simp [PB]
  | c :: r => by simp only [PB]; omega
theorem PB_append (A B : List Nat) : PB (A ++ B) = (PB A + PB B) % 2 := by
  induction A with
  | nil => have := PB_lt B; simp [PB]; omega
  | cons c r ih => simp only [List.cons_append, PB, ih]; omega
theorem P_sumFrom : ∀ (B : List Nat) (s : Nat), s < 4294967296 → (∀ x ∈ B, x < 256) → P (sumFrom s B) = (P s + PB B) % 2 := by
  intro B
  induction B with
  | nil => intro s _ _; have := par_lt 32 s; simp [sumFrom, PB]; unfold P; omega
  | cons c r ih =>
    intro s hs hB
    have hc := hB c (by simp)
    have hx := xor_lt32 s c hs (by omega)
    have := ih (L8 (s ^^^ c)) (L8_lt _ hx) (fun x hx => hB x (by simp [hx]))
    show P (sumFrom (L8 (s ^^^ c)) r) = _
    rw [this, P_L8 _ hx]
    unfold P at *
    rw [par_xor]
    simp only [PB]
    unfold P
    omega
theorem P_sum (B : List Nat) (hB : ∀ x ∈ B, x < 256) : P (Crc.sum B) = PB B := by
  have h := P_sumFrom B 4294967295 (by omega) hB
  unfold Crc.sum
  have hp : par 32 4294967295 = 0 := by decide
  have hl := PB_lt B
  unfold P at *
  rw [par_xor, h, hp]
  omega

theorem split4 (B : List Nat) (h : 4 ≤ B.length) : B = B.take (B.length - 4) ++ [B.getD (B.length - 4) 0, B.getD (B.length - 4 + 1) 0, B.getD (B.length - 4 + 2) 0, B.getD (B.length - 4 + 3) 0] := by
  have e := (List.take_append_drop (B.length - 4) B).symm
  have h4 : (B.drop (B.length - 4)).length = 4 := by rw [List.length_drop]; omega
  have g : ∀ i, (B.drop (B.length - 4)).getD i 0 = B.getD (B.length - 4 + i) 0 := fun i => getD_drop
  match hm : B.drop (B.length - 4), h4 with
  | [a, b, c, d], _ =>
    have g0 := g 0
    have g1 := g 1
    have g2 := g 2
    have g3 := g 3
    rw [hm] at g0 g1 g2 g3
    simp only [Nat.add_zero] at g0
    rw [← g0, ← g1, ← g2, ← g3]
    rw [hm] at e
    exact e

/-- What is taken has an even number of ones. -/
theorem even_of_ok (B : List Nat) (hB : ∀ x ∈ B, x < 256) (h : (ff B).2 = 0) : PB B = 0 := by
  obtain ⟨h12, _, _, _, _, _, hsum⟩ := ff_ok h
  have e := split4 B (by omega)
  have hp := P_sum (B.take (B.length - 4)) (fun x hx => hB x (List.mem_of_mem_take hx))
  rw [hsum] at hp
  unfold lowOf at hp
  rw [P_lo4 _ _ _ _ (getD_lt B hB _) (getD_lt B hB _) (getD_lt B hB _) (getD_lt B hB _)] at hp
  rw [e, PB_append]
  simp only [PB]
  omega

theorem P_pow (r : Nat) (h : r < 8) : P (2 ^ r) = 1 := by
  have : ∀ r, r < 8 → P (2 ^ r) = 1 := by decide
  exact this r h
theorem PB_set (x : Nat) (hx : ∀ c, P (c ^^^ x) = (P c + 1) % 2) : ∀ (F : List Nat) (j : Nat), j < F.length → PB (F.set j (F.getD j 0 ^^^ x)) = (PB F + 1) % 2
  | [], j, h => by simp at h
  | c :: r, 0, _ => by
    simp only [List.set_cons_zero, PB, List.getD_cons_zero]
    rw [hx]; omega
  | c :: r, j + 1, h => by
    simp only [List.set_cons_succ, PB, List.getD_cons_succ]
    rw [PB_set x hx r j (by simpa using h)]; omega
theorem PB_flip (F : List Nat) (j r : Nat) (hj : j < F.length) (hr : r < 8) : PB (flipB F j r) = (PB F + 1) % 2 := by
  refine PB_set _ (fun c => ?_) F j hj
  have := P_pow r hr
  unfold P at *
  rw [par_xor, this]
end Go.Proofs.YtidhondcfagoaaaDoor
namespace Go.Proofs.YtidhondcfagoaaaDoor
open Go.RowKit Crc

theorem big4 (v : Nat) : big v 4 = [v / 16777216 % 256, v / 65536 % 256, v / 256 % 256, v % 256] := by
  simp [big, bigTo]
theorem headB_eq (k : Nat) (B : List Nat) : headB k B = 81 :: 77 :: 1 :: k :: B.length / 16777216 % 256 :: B.length / 65536 % 256 :: B.length / 256 % 256 :: B.length % 256 :: B := by
  unfold headB; rw [big4]; rfl
theorem sum_lt (B : List Nat) (hB : ∀ x ∈ B, x < 256) : Crc.sum B < 4294967296 := xor_lt32 _ _ (sumFrom_lt _ _ (by omega) hB) (by omega)
theorem frameB_len (k : Nat) (B : List Nat) : (frameB k B).length = 12 + B.length := by
  unfold frameB; rw [List.length_append, headB_len]; simp [low4]; omega
theorem frameB_lt (k : Nat) (B : List Nat) (hk : k < 256) (hB : ∀ x ∈ B, x < 256) : ∀ x ∈ frameB k B, x < 256 := by
  intro x hx
  have hS := sum_lt _ (headB_lt k B hk hB)
  unfold frameB at hx
  rcases List.mem_append.1 hx with h | h
  · exact headB_lt k B hk hB x h
  · simp only [low4, List.mem_cons, List.not_mem_nil, or_false] at h
    rcases h with rfl | rfl | rfl | rfl <;> omega
theorem frameB_eq (k : Nat) (B : List Nat) : frameB k B = 81 :: 77 :: 1 :: k :: B.length / 16777216 % 256 :: B.length / 65536 % 256 :: B.length / 256 % 256 :: B.length % 256 :: (B ++ low4 (Crc.sum (headB k B))) := by
  unfold frameB; rw [headB_eq]; rfl
theorem frameB_kind (k : Nat) (B : List Nat) : (frameB k B).getD 3 0 = k := by rw [frameB_eq]; rfl
theorem frameB_body (k : Nat) (B : List Nat) : ((frameB k B).drop 8).take B.length = B := by
  rw [frameB_eq]
  simp
theorem frameB_head (k : Nat) (B : List Nat) : (frameB k B).take (8 + B.length) = headB k B := by
  unfold frameB
  rw [← headB_len k B, List.take_left']
  rfl
theorem frameB_low (k : Nat) (B : List Nat) (hk : k < 256) (hB : ∀ x ∈ B, x < 256) : lowOf (frameB k B) = Crc.sum (headB k B) := by
  have hS := sum_lt _ (headB_lt k B hk hB)
  have hl := headB_len k B
  have g : ∀ i, (frameB k B).getD (8 + B.length + i) 0 = (low4 (Crc.sum (headB k B))).getD i 0 := by
    intro i
    unfold frameB
    rw [List.getD_eq_getElem?_getD, List.getElem?_append_right (by omega), ← List.getD_eq_getElem?_getD, show 8 + B.length + i - (headB k B).length = i by omega]
  unfold lowOf
  rw [frameB_len, show 12 + B.length - 4 = 8 + B.length + 0 by omega, g 0]
  simp only [Nat.add_zero]
  rw [g 1, g 2, g 3]
  generalize Crc.sum (headB k B) = S at *
  simp only [low4, lo4, List.getD_cons_zero, List.getD_cons_succ]
  omega
theorem frame_good (k : Nat) (B : List Nat) (hk : k < 256) (hB : ∀ x ∈ B, x < 256) (hl : B.length ≤ 65495) : ff (frameB k B) = (0, 0) := by
  have h2 : hi ((frameB k B).take 2) = 20813 := by rw [frameB_eq]; rfl
  have h3 : (frameB k B).getD 2 0 = 1 := by rw [frameB_eq]; rfl
  have h4 : hi (((frameB k B).drop 4).take 4) = B.length := by
    rw [frameB_eq]
    simp only [List.drop_succ_cons, List.drop_zero, List.take_succ_cons, List.take_zero, hi, List.foldl_cons, List.foldl_nil]
    omega
  unfold ff
  rw [frameB_len, h2, h3, h4, if_neg (by omega), if_neg (by omega), if_neg (by simp), if_neg (by simp), if_neg (by omega), if_neg (by omega),
    show 12 + B.length - 4 = 8 + B.length by omega, frameB_head, frameB_low k B hk hB, if_neg (by simp)]
end Go.Proofs.YtidhondcfagoaaaDoor
namespace Go.Proofs.YtidhondcfagoaaaDoor
open Go.RowKit Crc

theorem Lk_add (x a : Nat) : ∀ b, Lk x (a + b) = Lk (Lk x a) b
  | 0 => rfl
  | b + 1 => by show L (Lk x (a + b)) = L (Lk (Lk x a) b); rw [Lk_add x a b]
theorem Lk_shift : ∀ k y, Lk (2 ^ k * y) k = y
  | 0, y => by simp [Lk]
  | k + 1, y => by
    show L (Lk (2 ^ (k + 1) * y) k) = y
    rw [Nat.pow_succ, Nat.mul_assoc, Lk_shift k, L_even]
theorem Lk_zero : ∀ k, Lk 0 k = 0
  | 0 => rfl
  | k + 1 => by show L (Lk 0 k) = 0; rw [Lk_zero k]; rfl
theorem mul_xor (k a b : Nat) : 2 ^ k * (a ^^^ b) = 2 ^ k * a ^^^ 2 ^ k * b := by
  have h := Nat.shiftLeft_xor_distrib (a := a) (b := b) (i := k)
  simpa [Nat.shiftLeft_eq, Nat.mul_comm] using h
theorem xor_high (k c y : Nat) (h : c < 2 ^ k) : c ^^^ 2 ^ k * y = c + 2 ^ k * y := by
  have h1 : (c ^^^ 2 ^ k * y) % 2 ^ k = c := by
    rw [Nat.xor_mod_two_pow, Nat.mul_mod_right, Nat.xor_zero, Nat.mod_eq_of_lt h]
  have h2 : (c ^^^ 2 ^ k * y) / 2 ^ k = y := by
    rw [← Nat.shiftRight_eq_div_pow, Nat.shiftRight_xor_distrib, Nat.shiftRight_eq_div_pow, Nat.shiftRight_eq_div_pow, Nat.div_eq_of_lt h, Nat.zero_xor, Nat.mul_div_cancel_left _ (Nat.two_pow_pos k)]
  have := Nat.div_add_mod (c ^^^ 2 ^ k * y) (2 ^ k)
  rw [h1, h2] at this
  omega

/-- The bytes as one number, the first lowest. -/
def V : List Nat → Nat
  | [] => 0
  | c :: r => c ^^^ 2 ^ 8 * V r
theorem sumFrom_V : ∀ (B : List Nat) (s : Nat), sumFrom s B = Lk (s ^^^ V B) (8 * B.length)
  | [], s => by simp [sumFrom, V, Lk]
  | c :: r, s => by
    show sumFrom (L8 (s ^^^ c)) r = _
    rw [sumFrom_V r, List.length_cons, show 8 * (r.length + 1) = 8 + 8 * r.length by omega, Lk_add]
    congr 1
    show _ = Lk (s ^^^ (c ^^^ 2 ^ 8 * V r)) 8
    rw [← Nat.xor_assoc, Lk_xor, Lk_shift]
    rfl
theorem V_four (a b c d : Nat) (ha : a < 256) (hb : b < 256) (hc : c < 256) : V [a, b, c, d] = lo4 a b c d := by
  show a ^^^ 2 ^ 8 * (b ^^^ 2 ^ 8 * (c ^^^ 2 ^ 8 * (d ^^^ 2 ^ 8 * 0))) = _
  rw [xor_high 8 a _ ha, xor_high 8 b _ hb, xor_high 8 c _ hc]
  unfold lo4
  simp only [Nat.mul_zero, Nat.xor_zero]
  omega
theorem sumFrom_app (s : Nat) (A B : List Nat) : sumFrom s (A ++ B) = sumFrom (sumFrom s A) B := by simp [sumFrom]

/-- What is taken leaves one remainder. -/
theorem rest_of_ok (B : List Nat) (hB : ∀ x ∈ B, x < 256) (h : (ff B).2 = 0) : sumFrom 4294967295 B = Lk 4294967295 32 := by
  obtain ⟨h12, _, _, _, _, _, hsum⟩ := ff_ok h
  have e := split4 B (by omega)
  unfold lowOf at hsum
  have h0 := getD_lt B hB (B.length - 4)
  have h1 := getD_lt B hB (B.length - 4 + 1)
  have h2 := getD_lt B hB (B.length - 4 + 2)
  rw [e, sumFrom_app, sumFrom_V [_, _, _, _], V_four _ _ _ _ h0 h1 h2, ← hsum]
  unfold Crc.sum
  rw [← Nat.xor_assoc, Nat.xor_self, Nat.zero_xor]
  rfl

theorem L_inj (x : Nat) (hx : x < 4294967296) (h : L x = 0) : x = 0 := by
  unfold L at h
  rw [Nat.shiftRight_eq_div_pow] at h
  by_cases ho : x % 2 = 1
  · rw [if_pos ho] at h
    have : x / 2 ^ 1 = 2197175160 := by
      have h' := congrArg (· ^^^ 2197175160) h
      simp only [Nat.xor_assoc, Nat.xor_self, Nat.xor_zero, Nat.zero_xor] at h'
      exact h'
    omega
  · rw [if_neg ho, Nat.xor_zero] at h
    omega
theorem Lk_lt (x : Nat) (hx : x < 4294967296) : ∀ k, Lk x k < 4294967296
  | 0 => hx
  | k + 1 => L_lt _ (Lk_lt x hx k)
theorem Lk_inj (x : Nat) (hx : x < 4294967296) : ∀ k, Lk x k = 0 → x = 0
  | 0, h => h
  | k + 1, h => Lk_inj x hx k (L_inj _ (Lk_lt x hx k) h)

/-- A burst of at most 32 bits is seen. -/
theorem burst (F G : List Nat) (at_ t : Nat) (hF : ∀ x ∈ F, x < 256) (hG : ∀ x ∈ G, x < 256) (hl : G.length = F.length) (ht : t < 4294967296) (ha : at_ ≤ 8 * F.length)
    (hV : V G = V F ^^^ 2 ^ at_ * t) (okF : (ff F).2 = 0) (okG : (ff G).2 = 0) : t = 0 := by
  have hf := rest_of_ok F hF okF
  have hg := rest_of_ok G hG okG
  rw [sumFrom_V] at hf hg
  rw [hl, hV, ← Nat.xor_assoc, Lk_xor, hf] at hg
  have h0 : Lk (2 ^ at_ * t) (8 * F.length) = 0 := by
    have h' := congrArg (Lk 4294967295 32 ^^^ ·) hg
    simp only [← Nat.xor_assoc, Nat.xor_self, Nat.zero_xor] at h'
    exact h'
  rw [show 8 * F.length = at_ + (8 * F.length - at_) by omega, Lk_add, Lk_shift] at h0
  exact Lk_inj t ht _ h0

theorem V_set (x : Nat) : ∀ (F : List Nat) (j : Nat), j < F.length → V (F.set j (F.getD j 0 ^^^ x)) = V F ^^^ 2 ^ (8 * j) * x
  | [], j, h => by simp at h
  | c :: r, 0, _ => by
    simp only [List.set_cons_zero, V, List.getD_cons_zero, Nat.mul_zero, Nat.pow_zero, Nat.one_mul]
    rw [Nat.xor_assoc, Nat.xor_comm x, ← Nat.xor_assoc]
  | c :: r, j + 1, h => by
    simp only [List.set_cons_succ, V, List.getD_cons_succ]
    rw [V_set x r j (by simpa using h), mul_xor, ← Nat.mul_assoc, ← Nat.pow_add, ← Nat.xor_assoc, show 8 + 8 * j = 8 * (j + 1) by omega]
theorem V_flip (F : List Nat) (j r : Nat) (hj : j < F.length) : V (flipB F j r) = V F ^^^ 2 ^ (8 * j + r) := by
  unfold flipB
  rw [V_set _ F j hj, ← Nat.pow_add]

/-- The lowest i bits, and one more. -/
theorem low_succ (t i : Nat) : t % 2 ^ (i + 1) = (t % 2 ^ i) ^^^ 2 ^ i * (t / 2 ^ i % 2) := by
  rw [xor_high i _ _ (Nat.mod_lt _ (Nat.two_pow_pos i)), Nat.pow_succ, Nat.mod_mul]
theorem V_next (F G : List Nat) (at_ t i : Nat) (hV : V G = V F ^^^ 2 ^ at_ * (t % 2 ^ i)) (hj : at_ + i < 8 * G.length) (hb : t / 2 ^ i % 2 = 1) :
    V (flipB G ((at_ + i) / 8) ((at_ + i) % 8)) = V F ^^^ 2 ^ at_ * (t % 2 ^ (i + 1)) := by
  rw [V_flip G _ _ (by omega), hV, show 8 * ((at_ + i) / 8) + (at_ + i) % 8 = at_ + i by omega, low_succ, hb, Nat.mul_one, mul_xor, ← Nat.pow_add, Nat.xor_assoc]
theorem V_same (t i : Nat) (hb : t / 2 ^ i % 2 = 0) : t % 2 ^ (i + 1) = t % 2 ^ i := by
  rw [low_succ, hb, Nat.mul_zero, Nat.xor_zero]
theorem low_pos (t i : Nat) (hb : t / 2 ^ i % 2 = 1) : t % 2 ^ (i + 1) ≠ 0 := by
  rw [low_succ, xor_high i _ _ (Nat.mod_lt _ (Nat.two_pow_pos i)), hb]
  have := Nat.two_pow_pos i
  omega
theorem low_lt (t i : Nat) (hi : i ≤ 32) : t % 2 ^ i < 4294967296 :=
  Nat.lt_of_lt_of_le (Nat.mod_lt _ (Nat.two_pow_pos i)) (Nat.pow_le_pow_right (by omega) hi)

theorem flip_at (base g n B : Nat) (F : List Nat) (w : World) (hF : ∀ x ∈ F, x < 256) (hn : n ≤ 140737488355328) (h1 : B < 8 * n)
  (hown : w.ownsRow base 5 1 (.slice (some ⟨g, 0, none⟩) n n) n (vals F)) :
    Calls Tryd.prog 8 #[.slice (some ⟨g, 0, none⟩) n n, .int .i64 (B : Int)] w fun e w' => e = .returned (.tuple #[]) ∧
      w'.ownsRow base 5 1 (.slice (some ⟨g, 0, none⟩) n n) n (vals (flipB F (B / 8) (B % 8))) ∧ w.grownBy w' (some g) := by
  have hj : B / 8 < n := by omega
  refine (flip_walk g n n (B / 8) (B % 8) (F.getD (B / 8) 0) _ w hj (by omega) (by omega) hn (getD_lt F hF _) (owned_cells hown _ hj) (hown.frozenAt _)).mono ?_
  rintro e w' ⟨rfl, rfl⟩
  refine ⟨rfl, ?_, (hown.stored _ _).2⟩
  have := (hown.stored (B / 8) (.int .u8 ((F.getD (B / 8) 0 ^^^ 2 ^ (B % 8) : Nat) : Int))).1
  unfold flipB
  rw [vals_set]
  exact this
end Go.Proofs.YtidhondcfagoaaaDoor
