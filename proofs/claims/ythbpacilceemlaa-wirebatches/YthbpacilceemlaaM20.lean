import Derived.Test.YthbpacilceemlaaM17
namespace Go.Proofs.Ythbpacilceemlaa
open Go.RowKit Crc

theorem hi_snoc (l : List Nat) (c : Nat) : hi (l ++ [c]) = hi l * 256 + c := by simp [hi, List.foldl_append]
theorem hi_bigTo (v s : Nat) : ∀ j, j ≤ s → hi (bigTo v s j) = v / 2 ^ (8 * (s - j)) % 256 ^ j
  | 0, _ => by simp [bigTo, hi, Nat.mod_one]
  | j + 1, h => by
    rw [bigTo, hi_snoc, hi_bigTo v s j (by omega), show s - (j + 1) = s - 1 - j by omega, show 8 * (s - j) = 8 * (s - 1 - j) + 8 by omega, Nat.pow_add, ← Nat.div_div_eq_div_mul]
    generalize v / 2 ^ (8 * (s - 1 - j)) = u
    have e1 : (256 : Nat) ^ (j + 1) = 256 * 256 ^ j := by rw [Nat.pow_succ, Nat.mul_comm]
    have e2 : (2 : Nat) ^ 8 = 256 := rfl
    rw [e1, e2, Nat.mod_mul]
    omega
theorem hi_big (v s : Nat) (h : v < 256 ^ s) : hi (big v s) = v := by
  unfold big
  rw [hi_bigTo v s s (Nat.le_refl _), Nat.sub_self]
  simp [Nat.mod_eq_of_lt h]
theorem ahead_big (v s : Nat) (R : List Nat) (h : v < 256 ^ s) : hi (aheadV (big v s ++ R) s) = v ∧ aheadW (big v s ++ R) s = 0 := by
  have hl : (big v s).length = s := big_len v s s
  unfold aheadV aheadW
  rw [List.length_append, hl, if_neg (by omega), if_neg (by omega)]
  refine ⟨?_, rfl⟩
  rw [List.take_append_of_le_length (by omega), List.take_of_length_le (by omega)]
  exact hi_big v s h

theorem numGo_numTo : ∀ (f v i n : Nat) (R : List Nat), f + i = 9 → v * 2 ^ (7 * i) < 18446744073709551616 → (0 < v ∨ i = 0) → numGo (numTo f v ++ R) i n = (n + v * 2 ^ (7 * i), i + (numTo f v).length, 0)
  | 0, v, i, n, R, hf, hv, h0 => by
    obtain rfl : i = 9 := by omega
    have h1 : v = 1 := by omega
    subst h1
    simp [numTo, numGo]
  | f + 1, v, i, n, R, hf, hv, h0 => by
    have hi9 : ¬ i = 9 := by omega
    rw [numTo]
    by_cases hs : v < 128
    · rw [if_pos hs]
      simp only [List.cons_append, List.nil_append, numGo, List.length_cons, List.length_nil]
      rw [if_neg (by omega), if_neg (by omega), if_neg (by omega), Nat.mod_eq_of_lt hs]
    · rw [if_neg hs]
      simp only [List.cons_append, numGo, List.length_cons]
      rw [if_neg (by omega), if_pos (by omega)]
      have e : v % 128 * 2 ^ (7 * i) + v / 128 * 2 ^ (7 * (i + 1)) = v * 2 ^ (7 * i) := by
        rw [show 7 * (i + 1) = 7 + 7 * i by omega, Nat.pow_add, ← Nat.mul_assoc, ← Nat.add_mul]
        congr 1
        have : (2 : Nat) ^ 7 = 128 := rfl
        rw [this]
        omega
      have hm : (v % 128 + 128) % 128 = v % 128 := by omega
      rw [hm, numGo_numTo f (v / 128) (i + 1) _ R (by omega) (by omega) (.inl (by omega))]
      rw [Nat.add_assoc n, e]
      congr 2
      omega
theorem numAt_numB (v : Nat) (R : List Nat) (hv : v < 18446744073709551616) : numAt (numB v ++ R) = (v, (numB v).length, 0) := by
  unfold numAt numB
  rw [numGo_numTo 9 v 0 0 R rfl (by simpa using hv) (.inr rfl)]
  simp
theorem countAt_numB (v : Nat) (R : List Nat) (most : Int) (hv : v < 18446744073709551616) (hm : (v : Int) ≤ most) : countAt (numB v ++ R) most = (v, (numB v).length, 0) := by
  unfold countAt
  rw [numAt_numB v R hv]
  rw [if_neg (by simp), if_neg (by simp; omega)]
theorem blobAt_numB (B R : List Nat) (most : Int) (hv : B.length < 18446744073709551616) (hm : (B.length : Int) ≤ most) : blobAt (numB B.length ++ (B ++ R)) most = (B, (numB B.length).length + B.length, 0) := by
  unfold blobAt
  rw [countAt_numB _ _ _ hv hm]
  simp only
  rw [if_neg (by simp), if_neg (by simp)]
  rw [List.drop_left, List.take_left]
theorem flag_big (b : Bool) (R : List Nat) : flagV (big (if b then 1 else 0) 1 ++ R) = b ∧ flagW (big (if b then 1 else 0) 1 ++ R) = 0 := by
  cases b <;> exact ⟨rfl, rfl⟩
end Go.Proofs.Ythbpacilceemlaa
namespace Go.Proofs.Ythbpacilceemlaa
open Go.RowKit Crc

set_option maxRecDepth 10000 in
set_option maxHeartbeats 400000 in
theorem groups_any (v : Nat) (vi : Int) (w : World) (hvi : vi = (v : Int)) (hv : v < 18446744073709551616) :
    Calls Try.prog 70 #[.int .u64 vi] w fun e w' => e = .returned (.int .i64 ((numB v).length : Nat)) ∧ w' = w := by
  subst hvi
  go_enter Try.func70, Try.ntmps70
  go_wp2
  go_loop [0, 3] (fun a b => ∃ x k : Nat, x < 18446744073709551616 ∧ k ≤ 20 ∧ a = .int .u64 x ∧ b = .int .i64 k ∧ Hid (k + (numB x).length = (numB v).length + 1)) (fun a _ => (intOf a).toNat)
  case atStart => exact ⟨v, 1, hv, by omega, rfl, rfl, by show _ = _; omega⟩
  case round =>
    obtain ⟨x, k, hx, hk, rfl, rfl, HR⟩ := hrel
    by_cases hlt : x < 128
    · have HF : Hid (k = (numB v).length) := by have h := HR.out; rw [numB_small x hlt] at h; simp at h; exact h
      have d : decide ((127 : Int) < (x : Int)) = false := by simp; omega
      go_wp2
      go_ret
      exact ⟨by rw [← HF.out]; rfl, rfl⟩
    · have HF : Hid (k + 1 + (numB (x / 128)).length = (numB v).length + 1) := by have h := HR.out; rw [numB_big x hlt hx] at h; simp at h; show _ = _; omega
      have hb : k + 1 ≤ 20 := by have h1 := HF.out; have h2 := numTo_len 9 v; have h3 := numTo_pos 9 (x / 128); unfold numB at h1; omega
      have d : decide ((127 : Int) < (x : Int)) = true := by simp; omega
      clear HR
      go_wp2
      go_round
      case rel => exact ⟨x / 128, k + 1, by omega, hb, by go_num, by go_num, HF⟩
      case measure => simp [intOf]; omega

instance (s : ByteArray) : Decidable (Ascii s) := inferInstanceAs (Decidable (∀ i (h : i < s.size), (s[i]'h).toNat < 128))

set_option maxRecDepth 10000 in
set_option maxHeartbeats 400000 in
theorem ascii_any (s : ByteArray) (w : World) (hb : s.size ≤ 9223372036854775807) :
    Calls Try.prog 71 #[.string s] w fun e w' => e = .returned (.bool (decide (Ascii s))) ∧ w' = w := by
  go_enter Try.func71, Try.ntmps71
  go_wp2
  go_loop [3] (fun i => ∃ k : Nat, k ≤ s.size ∧ i = .int .i64 k ∧ Hid (∀ j (h : j < s.size), j < k → (s[j]'h).toNat < 128)) (fun i => s.size - (intOf i).toNat)
  case atStart => exact ⟨0, Nat.zero_le _, rfl, fun j h hj => by omega⟩
  case round =>
    obtain ⟨k, hk, rfl, HR⟩ := hrel
    by_cases hlt : k < s.size
    · obtain ⟨c, hc⟩ : ∃ c, c = (s[k]'hlt).toNat := ⟨_, rfl⟩
      by_cases h128 : c < 128
      · have HR2 : Hid (∀ j (h : j < s.size), j < k + 1 → (s[j]'h).toNat < 128) := by
          intro j h hj
          by_cases e : j = k
          · subst e; omega
          · exact HR.out j h (by omega)
        clear HR
        go_wp2
        go_round
        case rel => exact ⟨k + 1, by omega, by go_num, HR2⟩
        case measure => simp [intOf]; omega
      · have HF : Hid (decide (Ascii s) = false) := by
          show _ = _
          simp
          intro h
          have := h k hlt
          omega
        clear HR
        go_wp2
        go_ret
        exact ⟨by rw [HF.out]; rfl, rfl⟩
    · have HF : Hid (decide (Ascii s) = true) := by
        show _ = _
        simp
        intro j h
        exact HR.out j h (by omega)
      clear HR
      go_wp2
      go_ret
      exact ⟨by rw [HF.out]; rfl, rfl⟩

/-- A field of a script. -/
structure Fl where
  K : Int
  N : Nat
  I : Int
  bo : Option Addr
  bn : Nat
  bc : Nat
  B : List Nat
  S : ByteArray
  M : Int
def Fl.cells (f : Fl) : Array Value := #[.int .i64 f.K, .int .u64 (f.N : Int), .int .i64 f.I, .slice f.bo f.bn f.bc, .string f.S, .int .i64 f.M]
/-- What is laid down of a field, if it may be. -/
def Fl.enc (f : Fl) : Option (List Nat) :=
  if f.K = 1 then some (big (f.N % 256) 1) else if f.K = 2 then some (big (f.N % 65536) 2) else if f.K = 3 then some (big (f.N % 4294967296) 4) else if f.K = 4 then some (big f.N 8) else
  if f.K = 5 then some (numB f.N) else if f.K = 6 then some (big (if f.N % 2 = 1 then 1 else 0) 1) else
  if f.K = 7 then (if f.I < 0 ∨ f.M < f.I then none else some (numB f.I.toNat)) else
  if f.K = 8 then (if f.M < (f.bn : Int) then none else some (numB f.bn ++ f.B)) else
  if f.K = 9 then (if f.M < (f.S.size : Int) ∨ ¬ Ascii f.S then none else some (numB f.S.size ++ strB f.S)) else some []
def sizeI (X : Option (List Nat)) : Int := match X with | none => -1 | some X => (X.length : Int)
/-- The field as it lies, and its bounds. -/
structure Fl.Ok (lim : Nat) (w : World) (f : Fl) : Prop where
  hN : f.N < 18446744073709551616
  hK1 : -9223372036854775808 ≤ f.K
  hK2 : f.K < 9223372036854775808
  hI1 : -9223372036854775808 ≤ f.I
  hI2 : f.I < 9223372036854775808
  hM1 : -9223372036854775808 ≤ f.M
  hM2 : f.M < 9223372036854775808
  hB : Shows lim w f.bo f.bn f.bc f.B
  hS : f.S.size ≤ 140737488355328

theorem big_length (v s : Nat) : (big v s).length = s := big_len v s s
theorem below_alloc (w : World) (o : Obj) : Below w.heap.size w (w.alloc o) := (Below.refl _ w).alloc (Nat.le_refl _) o
theorem below_drewN {B : Nat} {a w : World} {q : Nat} (h : Below B a w) : Below B a (w.drewN q) := ⟨h.os, h.tape, h.output, h.size, h.block⟩

set_option maxRecDepth 10000 in
set_option maxHeartbeats 1600000 in
theorem size_low (lim : Nat) (f : Fl) (w : World) (hf : f.Ok lim w) (h8 : ¬ f.K = 8) (h9 : ¬ f.K = 9) :
    Calls Try.prog 21 #[.agg f.cells] w fun e w' => e = .returned (.int .i64 (sizeI f.enc)) ∧ Below w.heap.size w w' := by
  obtain ⟨hN, hK1, hK2, hI1, hI2, hM1, hM2, hB, hS⟩ := hf
  obtain ⟨K, N, I, bo, bn, bc, B, S, M⟩ := f
  simp only at hN hK1 hK2 hI1 hI2 hM1 hM2 hB hS h8 h9
  unfold Fl.cells
  simp only
  have hbn := hB.2.2.1
  have HBN := hide hB.1
  clear hB
  have HBA : Hid (∀ o q, Below w.heap.size w ((w.alloc o).drewN q)) := fun o q => below_drewN (below_alloc w o)
  have HBB : Hid (∀ o, Below w.heap.size w (w.alloc o)) := fun o => below_alloc w o
  by_cases h1 : K = 1
  · subst h1
    clear h8 h9
    have HE : Hid (sizeI (Fl.enc ⟨1, N, I, bo, bn, bc, B, S, M⟩) = 1) := by show _ = _; simp [Fl.enc, sizeI, big_length]
    go_enter Try.func21, Try.ntmps21
    go_wp2
    go_ret
    exact ⟨by rw [HE.out]; rfl, HBB.out _⟩
  by_cases h2 : K = 2
  · subst h2
    clear h8 h9
    have HE : Hid (sizeI (Fl.enc ⟨2, N, I, bo, bn, bc, B, S, M⟩) = 2) := by show _ = _; simp [Fl.enc, sizeI, big_length]
    clear h1
    go_enter Try.func21, Try.ntmps21
    go_wp2
    go_ret
    exact ⟨by rw [HE.out]; rfl, HBB.out _⟩
  by_cases h3 : K = 3
  · subst h3
    clear h8 h9
    have HE : Hid (sizeI (Fl.enc ⟨3, N, I, bo, bn, bc, B, S, M⟩) = 4) := by show _ = _; simp [Fl.enc, sizeI, big_length]
    clear h1 h2
    go_enter Try.func21, Try.ntmps21
    go_wp2
    go_ret
    exact ⟨by rw [HE.out]; rfl, HBB.out _⟩
  by_cases h4 : K = 4
  · subst h4
    clear h8 h9
    have HE : Hid (sizeI (Fl.enc ⟨4, N, I, bo, bn, bc, B, S, M⟩) = 8) := by show _ = _; simp [Fl.enc, sizeI, big_length]
    clear h1 h2 h3
    go_enter Try.func21, Try.ntmps21
    go_wp2
    go_ret
    exact ⟨by rw [HE.out]; rfl, HBB.out _⟩
  by_cases h5 : K = 5
  · subst h5
    clear h8 h9
    have HE : Hid (sizeI (Fl.enc ⟨5, N, I, bo, bn, bc, B, S, M⟩) = ((numB N).length : Nat)) := by show _ = _; simp [Fl.enc, sizeI]
    have HG := hide (fun wx => groups_any N N wx rfl hN)
    clear h1 h2 h3 h4
    go_enter Try.func21, Try.ntmps21
    go_wp2_with fail
    refine (HG.out _).mono ?_
    rintro e w1 ⟨rfl, rfl⟩
    go_wp2
    go_ret
    exact ⟨by rw [HE.out]; rfl, HBB.out _⟩
  by_cases h6 : K = 6
  · subst h6
    clear h8 h9
    have HE : Hid (sizeI (Fl.enc ⟨6, N, I, bo, bn, bc, B, S, M⟩) = 1) := by show _ = _; simp [Fl.enc, sizeI, big_length]
    clear h1 h2 h3 h4 h5
    go_enter Try.func21, Try.ntmps21
    go_wp2
    go_ret
    exact ⟨by rw [HE.out]; rfl, HBB.out _⟩
  by_cases h7 : K = 7
  · subst h7
    clear h8 h9
    clear h1 h2 h3 h4 h5 h6
    by_cases hI : I < 0
    · have HE : Hid (sizeI (Fl.enc ⟨7, N, I, bo, bn, bc, B, S, M⟩) = -1) := by show _ = _; simp [Fl.enc, sizeI, hI]
      have d : decide (I < 0) = true := by simp [hI]
      go_enter Try.func21, Try.ntmps21
      go_wp2
      go_ret
      exact ⟨by rw [HE.out]; rfl, HBB.out _⟩
    · have d : decide (I < 0) = false := by simp; omega
      by_cases hIM : M < I
      · have HE : Hid (sizeI (Fl.enc ⟨7, N, I, bo, bn, bc, B, S, M⟩) = -1) := by show _ = _; simp [Fl.enc, sizeI, hIM]
        have d2 : decide (M < I) = true := by simp [hIM]
        go_enter Try.func21, Try.ntmps21
        go_wp2
        go_ret
        exact ⟨by rw [HE.out]; rfl, HBB.out _⟩
      · have HE : Hid (sizeI (Fl.enc ⟨7, N, I, bo, bn, bc, B, S, M⟩) = ((numB I.toNat).length : Nat)) := by show _ = _; simp [Fl.enc, sizeI, hIM, hI]
        have d2 : decide (M < I) = false := by simp; omega
        have HG := hide (fun wx => groups_any I.toNat I wx (by omega) (by omega))
        have hI0 : 0 ≤ I := by omega
        have e0 : I % 18446744073709551616 = I := by omega
        go_enter Try.func21, Try.ntmps21
        go_wp2_with fail
        refine (HG.out _).mono ?_
        rintro e w1 ⟨rfl, rfl⟩
        go_wp2
        go_ret
        exact ⟨by rw [HE.out]; rfl, HBB.out _⟩
  have HE : Hid (sizeI (Fl.enc ⟨K, N, I, bo, bn, bc, B, S, M⟩) = 0) := by show _ = _; simp [Fl.enc, sizeI, h1, h2, h3, h4, h5, h6, h7, h8, h9]
  have e1 : (K == 1) = false := by simp [h1]
  have e2 : (K == 2) = false := by simp [h2]
  have e3 : (K == 3) = false := by simp [h3]
  have e4 : (K == 4) = false := by simp [h4]
  have e5 : (K == 5) = false := by simp [h5]
  have e6 : (K == 6) = false := by simp [h6]
  have e7 : (K == 7) = false := by simp [h7]
  have e8 : (K == 8) = false := by simp [h8]
  have e9 : (K == 9) = false := by simp [h9]
  clear h1 h2 h3 h4 h5 h6 h7 h8 h9
  go_enter Try.func21, Try.ntmps21
  go_wp2
  go_ret
  exact ⟨by rw [HE.out]; rfl, HBB.out _⟩
end Go.Proofs.Ythbpacilceemlaa
