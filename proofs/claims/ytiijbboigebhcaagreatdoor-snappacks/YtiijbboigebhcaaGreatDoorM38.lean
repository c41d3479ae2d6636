import Derived.Test.YtiijbboigebhcaaGreatDoorM4
import Derived.Test.YtiijbboigebhcaaGreatDoorM37
import Derived.Test.YtiijbboigebhcaaGreatDoorM5
import Derived.Test.YtiijbboigebhcaaGreatDoorM2
import Derived.Lib.AppendStr
import Derived.Test.YtiijbboigebhcaaGreatDoorM7
import Derived.Lib.ConvBytes
import Derived.Test.YtiijbboigebhcaaGreatDoorM0
namespace Go.Proofs.YtiijbboigebhcaaGreatDoor
open Go.RowKit Crc

theorem hi_snoc (l : List Nat) (c : Nat) : hi (l ++ [c]) = hi l * 256 + c := by simp [hi, List.foldl_append]
theorem hi_bigTo (v s : Nat) : ∀ j, j ≤ s → hi (bigTo v s j) = v / 2 ^ (8 * (s - j)) % 256 ^ j
  | 0, _ => by simp [bigTo, hi, Nat.mod_one]
  | j + 1, h => by
    rw [bigTo, hi_snoc, hi_bigTo v s j (by omega), show s - (j + 1) = s - 1 - j by omega, show 8 * (s - j) = 8 * (s - 1 - j) + 8 by omega, Nat.pow_add, ← Nat.div_div_eq_div_mul]
    generalize v / 2 ^ (8 * (s - 1 - j)) = u
    have e1 : (256 : Nat) ^ (j + 1) = 256 * 256 ^ j := by rw [Nat.pow_succ, Nat.mul_comm]
    have e2 : (2 : Nat) ^ 8 = 256 := rfl
    rw [e1, e2, Nat.mod_mul]
    omega
theorem hi_big (v s : Nat) (h : v < 256 ^ s) : hi (big v s) = v := by
  unfold big
  rw [hi_bigTo v s s (Nat.le_refl _), Nat.sub_self]
  simp [Nat.mod_eq_of_lt h]
theorem ahead_big (v s : Nat) (R : List Nat) (h : v < 256 ^ s) : hi (aheadV (big v s ++ R) s) = v ∧ aheadW (big v s ++ R) s = 0 := by
  have hl : (big v s).length = s := big_len v s s
  unfold aheadV aheadW
  rw [List.length_append, hl, if_neg (by omega), if_neg (by omega)]
  refine ⟨?_, rfl⟩
  rw [List.take_append_of_le_length (by omega), List.take_of_length_le (by omega)]
  exact hi_big v s h

theorem numGo_numTo : ∀ (f v i n : Nat) (R : List Nat), f + i = 9 → v * 2 ^ (7 * i) < 18446744073709551616 → (0 < v ∨ i = 0) → numGo (numTo f v ++ R) i n = (n + v * 2 ^ (7 * i), i + (numTo f v).length, 0)
  | 0, v, i, n, R, hf, hv, h0 => by
    obtain rfl : i = 9 := by omega
    have h1 : v = 1 := by omega
    subst h1
    simp [numTo, numGo]
  | f + 1, v, i, n, R, hf, hv, h0 => by
    have hi9 : ¬ i = 9 := by omega
    rw [numTo]
    by_cases hs : v < 128
    · rw [if_pos hs]
      simp only [List.cons_append, List.nil_append, numGo, List.length_cons, List.length_nil]
      rw [if_neg (by omega), if_neg (by omega), if_neg (by omega), Nat.mod_eq_of_lt hs]
    · rw [if_neg hs]
      simp only [List.cons_append, numGo, List.length_cons]
      rw [if_neg (by omega), if_pos (by omega)]
      have e : v % 128 * 2 ^ (7 * i) + v / 128 * 2 ^ (7 * (i + 1)) = v * 2 ^ (7 * i) := by
        rw [show 7 * (i + 1) = 7 + 7 * i by omega, Nat.pow_add, ← Nat.mul_assoc, ← Nat.add_mul]
        congr 1
        have : (2 : Nat) ^ 7 = 128 := rfl
        rw [this]
        omega
      have hm : (v % 128 + 128) % 128 = v % 128 := by omega
      rw [hm, numGo_numTo f (v / 128) (i + 1) _ R (by omega) (by omega) (.inl (by omega))]
      rw [Nat.add_assoc n, e]
      congr 2
      omega
theorem numAt_numB (v : Nat) (R : List Nat) (hv : v < 18446744073709551616) : numAt (numB v ++ R) = (v, (numB v).length, 0) := by
  unfold numAt numB
  rw [numGo_numTo 9 v 0 0 R rfl (by simpa using hv) (.inr rfl)]
  simp
theorem countAt_numB (v : Nat) (R : List Nat) (most : Int) (hv : v < 18446744073709551616) (hm : (v : Int) ≤ most) : countAt (numB v ++ R) most = (v, (numB v).length, 0) := by
  unfold countAt
  rw [numAt_numB v R hv]
  rw [if_neg (by simp), if_neg (by simp; omega)]
theorem blobAt_numB (B R : List Nat) (most : Int) (hv : B.length < 18446744073709551616) (hm : (B.length : Int) ≤ most) : blobAt (numB B.length ++ (B ++ R)) most = (B, (numB B.length).length + B.length, 0) := by
  unfold blobAt
  rw [countAt_numB _ _ _ hv hm]
  simp only
  rw [if_neg (by simp), if_neg (by simp)]
  rw [List.drop_left, List.take_left]
theorem flag_big (b : Bool) (R : List Nat) : flagV (big (if b then 1 else 0) 1 ++ R) = b ∧ flagW (big (if b then 1 else 0) 1 ++ R) = 0 := by
  cases b <;> exact ⟨rfl, rfl⟩
end Go.Proofs.YtiijbboigebhcaaGreatDoor
namespace Go.Proofs.YtiijbboigebhcaaGreatDoor
open Go.RowKit Crc

instance (s : ByteArray) : Decidable (Ascii s) := inferInstanceAs (Decidable (∀ i (h : i < s.size), (s[i]'h).toNat < 128))

/-- A field of a script. -/
structure Fl where
  K : Int
  N : Nat
  I : Int
  bo : Option Addr
  bn : Nat
  bc : Nat
  B : List Nat
  S : ByteArray
  M : Int
def Fl.cells (f : Fl) : Array Value := #[.int .i64 f.K, .int .u64 (f.N : Int), .int .i64 f.I, .slice f.bo f.bn f.bc, .string f.S, .int .i64 f.M]
/-- What is laid down of a field, if it may be. -/
def Fl.enc (f : Fl) : Option (List Nat) :=
  if f.K = 1 then some (big (f.N % 256) 1) else if f.K = 2 then some (big (f.N % 65536) 2) else if f.K = 3 then some (big (f.N % 4294967296) 4) else if f.K = 4 then some (big f.N 8) else
  if f.K = 5 then some (numB f.N) else if f.K = 6 then some (big (if f.N % 2 = 1 then 1 else 0) 1) else
  if f.K = 7 then (if f.I < 0 ∨ f.M < f.I then none else some (numB f.I.toNat)) else
  if f.K = 8 then (if f.M < (f.bn : Int) then none else some (numB f.bn ++ f.B)) else
  if f.K = 9 then (if f.M < (f.S.size : Int) ∨ ¬ Ascii f.S then none else some (numB f.S.size ++ strB f.S)) else some []
def sizeI (X : Option (List Nat)) : Int := match X with | none => -1 | some X => (X.length : Int)
/-- The field as it lies, and its bounds. -/
structure Fl.Ok (lim : Nat) (w : World) (f : Fl) : Prop where
  hN : f.N < 18446744073709551616
  hK1 : -9223372036854775808 ≤ f.K
  hK2 : f.K < 9223372036854775808
  hI1 : -9223372036854775808 ≤ f.I
  hI2 : f.I < 9223372036854775808
  hM1 : -9223372036854775808 ≤ f.M
  hM2 : f.M < 9223372036854775808
  hB : Shows lim w f.bo f.bn f.bc f.B
  hS : f.S.size ≤ 140737488355328

theorem big_length (v s : Nat) : (big v s).length = s := big_len v s s
theorem below_alloc (w : World) (o : Obj) : Below w.heap.size w (w.alloc o) := (Below.refl _ w).alloc (Nat.le_refl _) o
theorem below_drewN {B : Nat} {a w : World} {q : Nat} (h : Below B a w) : Below B a (w.drewN q) := ⟨h.os, h.tape, h.output, h.size, h.block⟩

end Go.Proofs.YtiijbboigebhcaaGreatDoor
namespace Go.Proofs.YtiijbboigebhcaaGreatDoor
open Go.RowKit Crc

def WS0 : WS := ⟨false, 0, 0, 0, [], KW⟩
def WrP (base : Nat) (w : World) (po : Option Addr) (s : WS) : Prop := (po = none ∧ s = WS0) ∨ ∃ p, po = some ⟨p, 0, none⟩ ∧ WrS base w p s
def TchP (w w' : World) (po : Option Addr) : Prop := (po = none ∧ w.grownBy w' none) ∨ ∃ p, po = some ⟨p, 0, none⟩ ∧ Tch 4 w w' p
/-- What holds of every writer that was made: its bound, and that it is kept. -/
def WS.Inv (s : WS) : Prop := s.made = true → s.most ≤ 65507 ∧ (s.L.length : Int) ≤ s.most
theorem WS0_not : ¬ WS0.sound := fun h => by cases h.1
theorem WS.put_inv {s : WS} (h : s.Inv) (F : List Nat) (y : Int) : (s.put F y).Inv := by
  unfold WS.put
  split
  · rename_i hs
    split
    · exact h
    · split
      · exact h
      · intro hm
        have h1 := h hm
        refine ⟨h1.1, ?_⟩
        simp only [List.length_append]
        omega
  · exact h
theorem wrP_some {base : Nat} {w : World} {po : Option Addr} {s : WS} (h : WrP base w po s) (hs : s.sound) : ∃ p, po = some ⟨p, 0, none⟩ ∧ WrS base w p s := by
  rcases h with ⟨_, rfl⟩ | h
  · exact absurd hs WS0_not
  · exact h
/-- What the good road gives, as a state. -/
theorem wrP_good {base lim p : Nat} {w w' : World} {s : WS} {F : List Nat} (ht : s.takes F 0) (h : Wr s.K base w' p true s.place 0 s.most (s.L ++ F) ∧ BT lim w w' p) : WrP base w' (some ⟨p, 0, none⟩) (s.put F 0) ∧ TchP w w' (some ⟨p, 0, none⟩) := by
  refine ⟨.inr ⟨p, rfl, ?_⟩, .inr ⟨p, rfl, h.2.touch⟩⟩
  rw [WS.put_takes ht]
  show Wr s.K base w' p s.made s.place s.why s.most (s.L ++ F)
  rw [ht.1.1, ht.1.2]
  exact h.1
theorem wrS_open {base p : Nat} {w : World} {s : WS} (h : WrS base w p s) (hs : s.sound) : Wr s.K base w p true s.place 0 s.most s.L := by
  have h1 : Wr s.K base w p s.made s.place s.why s.most s.L := h
  rwa [hs.1, hs.2] at h1

set_option maxRecDepth 10000 in
theorem takes_nil (sz y : Int) (w : World) :
    Calls Tryz.prog 96 #[.pointer none, .int .i64 sz, .int .i64 y] w fun e w' => e = .returned (.bool false) ∧ w' = w := by
  go_enter Tryz.func96, Tryz.ntmps96
  go_wp2
  go_ret
  exact ⟨rfl, rfl⟩
theorem takes_noP {base : Nat} {w : World} {po : Option Addr} {s : WS} (hW : WrP base w po s) (hi : s.Inv) (F : List Nat) (sz y : Int) (hno : ¬ s.takes F y) (hsz : y = 0 → sz = (F.length : Int)) :
    Calls Tryz.prog 96 #[.pointer po, .int .i64 sz, .int .i64 y] w fun e w' => e = .returned (.bool false) ∧ Hid (WrP base w' po (s.put F y) ∧ TchP w w' po) := by
  rcases hW with ⟨rfl, rfl⟩ | ⟨p, rfl, hW⟩
  · refine (takes_nil sz y w).mono ?_
    rintro e w' ⟨rfl, rfl⟩
    exact ⟨rfl, .inl ⟨rfl, WS.put_not WS0_not _ _⟩, .inl ⟨rfl, rfl, rfl, rfl, Nat.le_refl _, fun _ _ _ => rfl⟩⟩
  · refine (takes_no base p s F sz y w hW hno hsz hi).mono ?_
    rintro e w' ⟨rfl, h1, h2⟩
    exact ⟨rfl, .inr ⟨p, rfl, h1⟩, .inr ⟨p, rfl, h2⟩⟩

set_option maxRecDepth 10000 in
set_option maxHeartbeats 400000 in
theorem fixed_no {base : Nat} {w : World} {po : Option Addr} {s : WS} (hW : WrP base w po s) (hi : s.Inv) (F : List Nat) (vi si : Int) (hsi : si = (F.length : Int)) (hno : ¬ s.takes F 0) :
    Calls Tryz.prog 56 #[.pointer po, .int .u64 vi, .int .i64 si] w fun e w' => e = .returned (.tuple #[]) ∧ Hid (WrP base w' po (s.put F 0) ∧ TchP w w' po) := by
  have HT := hide (takes_noP hW hi F si 0 hno (fun _ => hsi))
  clear hW hi hsi hno
  go_enter Tryz.func56, Tryz.ntmps56
  go_wp2_with fail
  refine HT.out.mono ?_
  rintro e w1 ⟨rfl, H⟩
  go_wp2
  go_end0
  exact ⟨rfl, H⟩

set_option maxRecDepth 10000 in
set_option maxHeartbeats 400000 in
theorem wU8P {base : Nat} {w : World} {po : Option Addr} {s : WS} (hW : WrP base w po s) (hi : s.Inv) (hbs : base ≤ w.heap.size) (v : Nat) (vi : Int) (hvi : vi = (v : Int)) (hv : v < 256) :
    Calls Tryz.prog 22 #[.pointer po, .int .u8 vi] w fun e w' => e = .returned (.tuple #[]) ∧ Hid (WrP base w' po (s.put (big v 1) 0) ∧ TchP w w' po) := by
  by_cases ht : s.takes (big v 1) 0
  · obtain ⟨p, rfl, hWp⟩ := wrP_some hW ht.1
    have hfit := ht.2.2
    rw [big_length] at hfit
    refine (wU8_goodx base 0 p v vi s.place s.most s.L w hvi hv (wrS_open hWp ht.1) (hi ht.1.1).1 hfit hbs (Nat.zero_le _) (Nat.zero_le _)).mono ?_
    rintro e w' ⟨rfl, h⟩
    exact ⟨rfl, wrP_good ht h⟩
  · have HF := hide (fixed_no hW hi (big v 1) vi 1 (by rw [big_length]; rfl) ht)
    have h0 : 0 ≤ vi := by omega
    have h1 : vi < 256 := by omega
    clear hW hi hvi ht
    go_enter Tryz.func22, Tryz.ntmps22
    go_wp2_with fail
    refine HF.out.mono ?_
    rintro e w1 ⟨rfl, H⟩
    go_wp2
    go_end0
    exact ⟨rfl, H⟩

set_option maxRecDepth 10000 in
set_option maxHeartbeats 400000 in
theorem wU32P {base : Nat} {w : World} {po : Option Addr} {s : WS} (hW : WrP base w po s) (hi : s.Inv) (hbs : base ≤ w.heap.size) (v : Nat) (vi : Int) (hvi : vi = (v : Int)) (hv : v < 4294967296) :
    Calls Tryz.prog 21 #[.pointer po, .int .u32 vi] w fun e w' => e = .returned (.tuple #[]) ∧ Hid (WrP base w' po (s.put (big v 4) 0) ∧ TchP w w' po) := by
  by_cases ht : s.takes (big v 4) 0
  · obtain ⟨p, rfl, hWp⟩ := wrP_some hW ht.1
    have hfit := ht.2.2
    rw [big_length] at hfit
    refine (wU32_goodx base 0 p v vi s.place s.most s.L w hvi hv (wrS_open hWp ht.1) (hi ht.1.1).1 hfit hbs (Nat.zero_le _) (Nat.zero_le _)).mono ?_
    rintro e w' ⟨rfl, h⟩
    exact ⟨rfl, wrP_good ht h⟩
  · have HF := hide (fixed_no hW hi (big v 4) vi 4 (by rw [big_length]; rfl) ht)
    have h0 : 0 ≤ vi := by omega
    have h1 : vi < 4294967296 := by omega
    clear hW hi hvi ht
    go_enter Tryz.func21, Tryz.ntmps21
    go_wp2_with fail
    refine HF.out.mono ?_
    rintro e w1 ⟨rfl, H⟩
    go_wp2
    go_end0
    exact ⟨rfl, H⟩

set_option maxRecDepth 10000 in
set_option maxHeartbeats 400000 in
theorem wNumP {base : Nat} {w : World} {po : Option Addr} {s : WS} (hW : WrP base w po s) (hi : s.Inv) (hbs : base ≤ w.heap.size) (v : Nat) (vi : Int) (hvi : vi = (v : Int)) (hv : v < 18446744073709551616) :
    Calls Tryz.prog 98 #[.pointer po, .int .u64 vi] w fun e w' => e = .returned (.tuple #[]) ∧ Hid (WrP base w' po (s.put (numB v) 0) ∧ TchP w w' po) := by
  by_cases ht : s.takes (numB v) 0
  · obtain ⟨p, rfl, hWp⟩ := wrP_some hW ht.1
    refine (wNum_goodx base 0 p v vi s.place s.most s.L w hvi hv (wrS_open hWp ht.1) (hi ht.1.1).1 ht.2.2 hbs (Nat.zero_le _) (Nat.zero_le _)).mono ?_
    rintro e w' ⟨rfl, h⟩
    exact ⟨rfl, wrP_good ht h⟩
  · have HT := hide (takes_noP hW hi (numB v) ((numB v).length : Nat) 0 ht (fun _ => rfl))
    have HNS : Hid (Calls Tryz.prog 125 #[.int .u64 vi] w fun e w' => e = .returned (.int .i64 ((numB v).length : Nat)) ∧ w' = w) := numSize_any v vi w hvi hv
    clear hW hi hvi ht
    go_enter Tryz.func98, Tryz.ntmps98
    go_wp2_with fail
    refine HNS.out.mono ?_
    rintro e w0 ⟨rfl, rfl⟩
    go_wp2_with fail
    refine HT.out.mono ?_
    rintro e w1 ⟨rfl, H⟩
    go_wp2
    go_end0
    exact ⟨rfl, H⟩

/-- Why a length may not be. -/
def cntY (n most : Int) : Int := if n < 0 ∨ most < n then 21 else 0
set_option maxRecDepth 10000 in
set_option maxHeartbeats 400000 in
theorem countFault_any (n most : Int) (w : World) :
    Calls Tryz.prog 127 #[.int .i64 n, .int .i64 most] w fun e w' => e = .returned (.int .i64 (cntY n most)) ∧ w' = w := by
  by_cases h : n < 0 ∨ most < n
  · have HC : Hid (cntY n most = 21) := by unfold cntY; rw [if_pos h]; rfl
    have HO : Hid (decide (n < 0) = true ∨ decide (n < 0) = false ∧ decide (most < n) = true) := by
      show _ ∨ _
      by_cases h0 : n < 0
      · exact .inl (by simp [h0])
      · exact .inr ⟨by simp; omega, by simp; omega⟩
    clear h
    rcases HO.out with d0 | ⟨d0, d1⟩
    all_goals
      go_enter Tryz.func127, Tryz.ntmps127
      go_wp2
      go_ret
      exact ⟨by rw [HC.out]; rfl, rfl⟩
  · have HC : Hid (cntY n most = 0) := by unfold cntY; rw [if_neg h]; rfl
    refine (countFault_good n most w (by omega) (by omega)).mono ?_
    rintro e w' ⟨rfl, rfl⟩
    exact ⟨by rw [HC.out], rfl⟩

set_option maxRecDepth 10000 in
set_option maxHeartbeats 400000 in
theorem wCountP {base : Nat} {w : World} {po : Option Addr} {s : WS} (hW : WrP base w po s) (hi : s.Inv) (hbs : base ≤ w.heap.size) (n cm : Int) (hn1 : -9223372036854775808 ≤ n) (hn2 : n < 9223372036854775808) :
    Calls Tryz.prog 105 #[.pointer po, .int .i64 n, .int .i64 cm] w fun e w' => e = .returned (.tuple #[]) ∧ Hid (WrP base w' po (s.put (numB n.toNat) (cntY n cm)) ∧ TchP w w' po) := by
  by_cases ht : s.takes (numB n.toNat) (cntY n cm)
  · obtain ⟨p, rfl, hWp⟩ := wrP_some hW ht.1
    have hy := ht.2.1
    have hc : ¬ (n < 0 ∨ cm < n) := by
      intro h
      unfold cntY at hy
      rw [if_pos h] at hy
      cases hy
    rw [hy] at ht ⊢
    refine (wCount_goodx base 0 p n.toNat n cm s.place s.most s.L w (by omega) (by omega) (by omega) (wrS_open hWp ht.1) (hi ht.1.1).1 ht.2.2 hbs (Nat.zero_le _) (Nat.zero_le _)).mono ?_
    rintro e w' ⟨rfl, h⟩
    exact ⟨rfl, wrP_good ht h⟩
  · obtain ⟨u, hu⟩ : ∃ u : Nat, IntKind.u64.wrap n = (u : Int) ∧ u < 18446744073709551616 := by
      refine ⟨(n % 18446744073709551616).toNat, ?_, by omega⟩
      simp [IntKind.wrap, IntKind.bits, IntKind.signed]
      omega
    have HT := hide (takes_noP hW hi (numB n.toNat) ((numB u).length : Nat) (cntY n cm) ht (fun hy => by
      have hc : ¬ (n < 0 ∨ cm < n) := by
        intro h
        unfold cntY at hy
        rw [if_pos h] at hy
        cases hy
      have : u = n.toNat := by
        have h1 := hu.1
        simp [IntKind.wrap, IntKind.bits, IntKind.signed] at h1
        omega
      rw [this]))
    have HNS : Hid (Calls Tryz.prog 125 #[.int .u64 (IntKind.u64.wrap n)] w fun e w' => e = .returned (.int .i64 ((numB u).length : Nat)) ∧ w' = w) := numSize_any u _ w hu.1 hu.2
    have HNS2 : Hid (Calls Tryz.prog 125 #[.int .u64 (n % 18446744073709551616)] w fun e w' => e = .returned (.int .i64 ((numB u).length : Nat)) ∧ w' = w) := numSize_any u _ w (by have h1 := hu.1; simp [IntKind.wrap, IntKind.bits, IntKind.signed] at h1; exact h1) hu.2
    have HCF := hide (countFault_any n cm w)
    clear hW hi ht hu
    go_enter Tryz.func105, Tryz.ntmps105
    go_wp2_with fail
    first
      | refine HNS.out.mono ?_
      | refine HNS2.out.mono ?_
    rintro e w0 ⟨rfl, rfl⟩
    go_wp2_with fail
    refine HCF.out.mono ?_
    rintro e w0 ⟨rfl, rfl⟩
    go_wp2_with fail
    refine HT.out.mono ?_
    rintro e w1 ⟨rfl, H⟩
    go_wp2
    go_end0
    exact ⟨rfl, H⟩
end Go.Proofs.YtiijbboigebhcaaGreatDoor
namespace Go.Proofs.YtiijbboigebhcaaGreatDoor
open Go.RowKit Crc

theorem Shows.sep {lim : Nat} {w w' : World} {row : Option Nat} {ao : Option Addr} {n cap : Nat} {B : List Nat} (h : Shows lim w ao n cap B) (hg : w.grownBy w' row) (hs : ∀ g, row = some g → ∀ b off, ao = some ⟨b, off, none⟩ → b ≠ g) : Shows lim w' ao n cap B := by
  obtain ⟨h1, h2, h3, h4, b, off, h5, h6, h7⟩ := h
  refine ⟨h1, h2, h3, h4, b, off, h5, h6, fun i hi => ?_⟩
  exact hg.cell (h7 i hi) (fun e => hs b e.symm b off (h5 (by omega)) rfl)

set_option maxRecDepth 10000 in
set_option maxHeartbeats 800000 in
theorem wBlobP {base blim : Nat} {w : World} {po : Option Addr} {s : WS} (hW : WrP base w po s) (hi : s.Inv) (hbs : base ≤ w.heap.size) (bo : Option Addr) (n bcap : Nat) (B : List Nat) (cm : Int) (hS : Shows blim w bo n bcap B)
    (hsep : ∀ p u g, po = some ⟨p, 0, none⟩ → w.cell? ⟨p, 4, none⟩ = some u → u.ownBlock = some g → ∀ b off, bo = some ⟨b, off, none⟩ → b ≠ g) :
    Calls Tryz.prog 106 #[.pointer po, .slice bo n bcap, .int .i64 cm] w fun e w' => e = .returned (.tuple #[]) ∧ Hid (WrP base w' po (s.put (numB n ++ B) (cntY n cm)) ∧ TchP w w' po) := by
  have hn47 := hS.2.2.1
  have hnB := hS.1
  have HCF := hide (countFault_any n cm w)
  have HNS : Hid (Calls Tryz.prog 125 #[.int .u64 (n : Int)] w fun e w' => e = .returned (.int .i64 ((numB n).length : Nat)) ∧ w' = w) := numSize_any n _ w rfl (by omega)
  by_cases ht : s.takes (numB n ++ B) (cntY n cm)
  · obtain ⟨p, rfl, hWp⟩ := wrP_some hW ht.1
    have hy := ht.2.1
    have hc : ¬ ((n : Int) < 0 ∨ cm < n) := by
      intro h
      unfold cntY at hy
      rw [if_pos h] at hy
      cases hy
    rw [hy] at ht ⊢
    have hfit := ht.2.2
    rw [List.length_append, ← hnB] at hfit
    refine (wBlob_genx base 0 p bo n bcap blim B cm s.place s.most s.L w hS (fun u v' w2 hu he => hS.sep he.1 (fun g hg => hsep p u g rfl hu hg)) (by omega) (wrS_open hWp ht.1) (hi ht.1.1).1 (by omega) hbs (Nat.zero_le _) (Nat.zero_le _)).mono ?_
    rintro e w' ⟨rfl, h⟩
    rw [List.append_assoc] at h
    exact ⟨rfl, wrP_good ht h⟩
  · have HT := hide (takes_noP hW hi (numB n ++ B) (((numB n).length : Nat) + (n : Int)) (cntY n cm) ht (fun _ => by rw [List.length_append, ← hnB]; omega))
    have hnl : (numB n).length ≤ 10 := numTo_len 9 n
    generalize (numB n).length = ns at *
    clear hW hi ht hS hsep hnB
    go_enter Tryz.func106, Tryz.ntmps106
    go_wp2_with fail
    refine HNS.out.mono ?_
    rintro e w0 ⟨rfl, rfl⟩
    go_wp2_with fail
    refine HCF.out.mono ?_
    rintro e w0 ⟨rfl, rfl⟩
    go_wp2_with fail
    refine HT.out.mono ?_
    rintro e w1 ⟨rfl, H⟩
    go_wp2
    go_end0
    exact ⟨rfl, H⟩

/-- Why a text may not be. -/
def txtY (S : ByteArray) (most : Int) : Int := if most < (S.size : Int) then 21 else if utf8Ok S = true then 0 else 27
theorem WrP.below {base : Nat} {w w' : World} {po : Option Addr} {s : WS} (h : WrP base w po s) (hb : Below w.heap.size w w') : WrP base w' po s := by
  rcases h with ⟨rfl, rfl⟩ | ⟨p, rfl, v, hbk, hO, hne⟩
  · exact .inl ⟨rfl, rfl⟩
  · exact .inr ⟨p, rfl, v, (hb.block p (block_lt hbk)).trans hbk, hO.quiet (below_none hb), hne⟩
theorem TchP.below {w w1 w2 : World} {po : Option Addr} (hb : Below w.heap.size w w1) (hp : ∀ p, po = some ⟨p, 0, none⟩ → p < w.heap.size) (h : TchP w1 w2 po) : TchP w w2 po := by
  rcases h with ⟨rfl, hg⟩ | ⟨p, rfl, h⟩
  · exact .inl ⟨rfl, grown_trans (below_none hb) hg⟩
  · exact .inr ⟨p, rfl, Tch.from hb (hp p rfl) h⟩
theorem WrP.plt {base : Nat} {w : World} {po : Option Addr} {s : WS} (h : WrP base w po s) : ∀ p, po = some ⟨p, 0, none⟩ → p < w.heap.size := by
  intro p hp
  rcases h with ⟨rfl, _⟩ | ⟨p', rfl, v, hbk, _⟩
  · cases hp
  · cases hp; exact block_lt hbk

end Go.Proofs.YtiijbboigebhcaaGreatDoor
namespace Go.Proofs.YtiijbboigebhcaaGreatDoor
open Go.RowKit Crc

set_option maxRecDepth 10000 in
set_option maxHeartbeats 800000 in
theorem refNumB (v0 : Nat) (vi : Int) (w : World) (hvi : vi = (v0 : Int)) (hv0 : v0 < 18446744073709551616) :
    Calls Tryz.prog 70 #[.int .u64 vi] w fun e w' => ∃ v', e = .returned v' ∧ Owns w.heap.size w' v' (numB v0) ∧ Below w.heap.size w w' := by
  obtain ⟨i0, hi, hz0, hz1, hz2⟩ := info_parts Tryz.info5
  subst hvi
  go_enter Tryz.func70, Tryz.ntmps70
  go_wp2
  go_loopw [0, 3] (fun i sl wr => ∃ v j : Nat, v < 18446744073709551616 ∧ j ≤ 10 ∧ i = .int .u64 v ∧ Hid (∃ L, Owns w.heap.size wr sl L ∧ L.length = j ∧ numB v0 = L ++ numB v ∧ v < 128 ^ (10 - j)) ∧ Below w.heap.size w wr) (fun i _ _ => (intOf i).toNat)
  case atStart => exact ⟨v0, 0, hv0, by omega, rfl, ⟨[], Owns.nil _ _, rfl, rfl, by omega⟩, Below.refl _ _⟩
  case round =>
    obtain ⟨v, j, hv, hj, rfl, HL, hnx⟩ := hrel
    have hsize := hnx.size
    obtain ⟨L, hO, hlj, hnb, hvp⟩ := HL.out
    have HO := hide hO
    have HHO : Hid (wr.ownsRow w.heap.size 5 1 u3 j (vals L)) := by
      show wr.ownsRow _ _ _ _ _ _
      have := hO.1; rw [hlj] at this; exact this
    have HLJ := hide hlj
    clear hO
    by_cases hb : v < 128
    · have HF : Hid (numB v0 = L ++ [v]) := by show _ = _; rw [hnb, numB_small v hb]
      have d : decide ((127 : Int) < (v : Int)) = false := by simp; omega
      have d' : decide (127 < v) = false := by simp; omega
      have hw8 : IntKind.u8.wrap (v : Int) = (v : Int) := by simp [IntKind.wrap, IntKind.bits, IntKind.signed]; omega
      clear HL hnb hlj hvp
      go_wp2_with (first
        | (at_builtin; refine wpList_append_own _ rfl (.tmp 15) (.tmp 18) 36 rfl w.heap.size 5 i0 (.int .u8 0) 1 1 Tryz.underlying36 hi hz0 hz1 hz2 rfl (by decide) u3 j (vals L) rfl (HHO.out.alloc _) ⟨wr.heap.size, 0, none⟩ 1 1 [.int .u8 (v : Int)] rfl rfl (by first | exact cell_one_new _ _ _ | (rw [show ((v : Int) % 256) = (v : Int) by omega]; exact cell_one_new _ _ _)) (Shade.one _ rfl) (by unfold maxLen; omega) (by omega) (by simp; omega) ?_; intro v' w1 hown1 hgrow1 _))
      go_ret
      refine ⟨v', rfl, ?_, (hnx.alloc (by omega) _).grown hgrow1 (by simp; omega) (fun j hj => (HHO.out.lt j hj).1)⟩
      rw [HF.out]
      exact HO.out.snoc (by omega) (by rw [HLJ.out]; omega) (by rw [HLJ.out]; exact hown1)
    · have hj9 : j < 10 := by
        rcases Nat.lt_or_ge j 10 with h | h
        · exact h
        · obtain rfl : j = 10 := by omega
          have h2 : v < 128 ^ 0 := hvp
          rw [Nat.pow_zero] at h2
          omega
      obtain ⟨x, hx⟩ : ∃ x, x = v % 128 := ⟨_, rfl⟩
      obtain ⟨y, hy⟩ : ∃ y, y = v / 128 := ⟨_, rfl⟩
      have hx128 : x < 128 := by omega
      have hxi : (v : Int) % 128 = (x : Int) := by omega
      have hyi : (v : Int) / 128 = (y : Int) := by omega
      have HF : Hid (Owns w.heap.size wr u3 L → ∀ w1 v', Owns w.heap.size w1 v' (L ++ [x + 128]) → ∃ L', Owns w.heap.size w1 v' L' ∧ L'.length = j + 1 ∧ numB v0 = L' ++ numB y ∧ y < 128 ^ (10 - (j + 1))) := by
        intro _ w1 v' h
        refine ⟨L ++ [x + 128], h, by simp [hlj], ?_, ?_⟩
        · rw [hnb, numB_big v hb hv, ← hx, ← hy, List.append_assoc]
          rfl
        · rw [show 10 - j = (10 - (j + 1)) + 1 by omega, Nat.pow_succ] at hvp
          rw [hy]
          exact Nat.div_lt_of_lt_mul (by rw [Nat.mul_comm]; exact hvp)
      have hylt : y < v := by omega
      have hy64 : y < 18446744073709551616 := by omega
      have d : decide ((127 : Int) < (v : Int)) = true := by simp; omega
      have d' : decide (127 < v) = true := by simp; omega
      have hw8 : IntKind.u8.wrap (x : Int) = (x : Int) := by simp [IntKind.wrap, IntKind.bits, IntKind.signed]; omega
      obtain ⟨z, hz⟩ : ∃ z, z = x + 128 := ⟨_, rfl⟩
      have hxe : ((x : Int) + 128) = (z : Int) := by omega
      have hx256 : (z : Int) < 256 := by omega
      have HZ := hide hz
      clear HL hnb hlj hvp hx hy hb hz
      go_wp2_with (first
        | (at_builtin; refine wpList_append_own _ rfl (.tmp 6) (.tmp 11) 36 rfl w.heap.size 5 i0 (.int .u8 0) 1 1 Tryz.underlying36 hi hz0 hz1 hz2 rfl (by decide) u3 j (vals L) rfl (HHO.out.alloc _) ⟨wr.heap.size, 0, none⟩ 1 1 [.int .u8 (z : Int)] rfl rfl (cell_one_new _ _ _) (Shade.one _ rfl) (by unfold maxLen; omega) (by omega) (by simp; omega) ?_; intro v' w1 hown1 hgrow1 _))
      go_roundw
      case rel =>
        refine ⟨y, j + 1, hy64, by omega, rfl, HF.out HO.out _ _ ?_, (hnx.alloc (by omega) _).grown hgrow1 (by simp; omega) (fun j hj => (HHO.out.lt j hj).1)⟩
        rw [← HZ.out]
        exact HO.out.snoc (by omega) (by rw [HLJ.out]; omega) (by rw [HLJ.out]; exact hown1)
      case measure => simp [intOf]; omega

theorem ownx_far {base : Nat} {w : World} {v : Value} {B : List Nat} (h : Owns base w v B) : ∀ g, v.ownBlock = some g → base ≤ g := by
  intro g hg
  obtain ⟨a0, c0, rfl, _, (⟨rfl, _⟩ | ⟨g', rfl, hb, _⟩)⟩ := h.form
  · cases hg
  · have : g' = g := by simpa [Value.ownBlock] using hg
    omega
end Go.Proofs.YtiijbboigebhcaaGreatDoor
namespace Go.Proofs.YtiijbboigebhcaaGreatDoor
open Go.RowKit Crc

end Go.Proofs.YtiijbboigebhcaaGreatDoor
namespace Go.Proofs.YtiijbboigebhcaaGreatDoor
open Go.RowKit Crc

theorem bytesW_below (w : World) (e : TypeId) (s : ByteArray) : Below w.heap.size w (Go.Lib.bytesWorld w e s) := by
  refine ⟨rfl, rfl, rfl, ?_, fun j hj => Go.Lib.bytesWorld_at_old w e s j hj⟩
  rw [Go.Lib.bytesWorld_size]; omega

theorem strB_getD (S : ByteArray) (i : Nat) (hi : i < S.size) : (strB S).getD i 0 = (S.data.toList.getD i 0).toNat := by
  have h : i < S.data.toList.length := by simpa using hi
  simp [strB, List.getD, List.getElem?_eq_getElem h]
theorem bytesW_shows (w : World) (S : ByteArray) (hS : S.size ≤ 140737488355328) : Shows (w.heap.size + 1) (Go.Lib.bytesWorld w 5 S) (some ⟨w.heap.size, 0, none⟩) S.size (grownCap w S.size 0 5) (strB S) := by
  refine ⟨(strB_len S).symm, ?_, hS, strB_lt S, w.heap.size, 0, fun _ => rfl, by omega, fun i hi => ?_⟩
  · have := grownCap_ge w S.size 0 5; omega
  · rw [Nat.zero_add, Go.Lib.bytesWorld_cell w 5 S i hi, strB_getD S i hi]

end Go.Proofs.YtiijbboigebhcaaGreatDoor
namespace Go.Proofs.YtiijbboigebhcaaGreatDoor
open Go.RowKit Crc

theorem below_drewX {l : Nat} {w w1 : World} (h : Below l w w1) : Below l w w1.drew := ⟨h.os, h.tape, h.output, h.size, h.block⟩
/-- What Bytes shows and tells. -/
def WS.shown (s : WS) : List Nat := if s.sound then s.L else []
def WS.errC (s : WS) : Int := if s.made = true then s.why else 3
def WS.errA (s : WS) : Int := if s.made = true then s.place else 0
theorem WS.errC_not {s : WS} (hs : ¬ s.sound) : s.errC ≠ 0 := by
  unfold WS.errC
  split
  · rename_i h; exact fun h2 => hs ⟨h, h2⟩
  · decide
theorem WS.errC_sound {s : WS} (hs : s.sound) : s.errC = 0 := by unfold WS.errC; rw [if_pos hs.1]; exact hs.2

set_option maxRecDepth 10000 in
set_option maxHeartbeats 400000 in
theorem wBytes_nil (w : World) :
    Calls Tryz.prog 24 #[.pointer none] w fun e w' => ∃ x, e = .returned (.tuple #[.slice none 0 0, x]) ∧ ErrV w' x 3 0 ∧ Below w.heap.size w w' := by
  go_enter Tryz.func24, Tryz.ntmps24
  go_wp2_with fail
  refine (refusal_any 0 3 w).mono ?_
  rintro e w1 ⟨v, rfl, hv, hf, hb⟩
  have HF := hide (And.intro hf hb)
  clear hv hf hb
  go_wp2
  go_ret2
  exact ⟨v, rfl, .inr ⟨HF.out.1, by decide⟩, HF.out.2⟩

set_option maxRecDepth 10000 in
set_option maxHeartbeats 400000 in
theorem wBytes_not (base p : Nat) (s : WS) (w : World) (hW : WrS base w p s) (hs : ¬ s.sound) (hz : s.sound → s.place = 0) :
    Calls Tryz.prog 24 #[.pointer (some ⟨p, 0, none⟩)] w fun e w' => ∃ x, e = .returned (.tuple #[.slice none 0 0, x]) ∧ ErrV w' x s.errC s.errA ∧ Below w.heap.size w w' := by
  obtain ⟨u, hb, hO, hne⟩ := hW
  have c0 := block_cell hb 0
  have c1 := block_cell hb 1
  have c2 := block_cell hb 2
  simp at c0 c1 c2
  have HT := hide (toldF_any p s.made s.place s.why w c0 c1 c2 (fun h1 h2 => hz ⟨h1, h2⟩))
  have HE : Hid (s.errC = (if s.made = true then s.why else 3) ∧ s.errA = (if s.made = true then s.place else 0)) := ⟨rfl, rfl⟩
  rw [← HE.out.1, ← HE.out.2] at HT
  have HN := hide (WS.errC_not hs)
  generalize s.errC = ec at *
  generalize s.errA = ea at *
  clear hb hO hne c0 c1 c2 hz HE hs
  go_enter Tryz.func24, Tryz.ntmps24
  go_wp2_with fail
  refine HT.out.mono ?_
  rintro e w1 ⟨v, rfl, hv, hb1⟩
  obtain ⟨g, rfl⟩ := errV_some hv HN.out
  have HF := hide (And.intro hv hb1)
  clear hv hb1
  go_wp2
  go_ret2
  exact ⟨_, rfl, HF.out.1, HF.out.2⟩

theorem wBytesP {base : Nat} {w : World} {po : Option Addr} {s : WS} (hW : WrP base w po s) (hz : s.sound → s.place = 0) :
    Calls Tryz.prog 24 #[.pointer po] w fun e w' => ∃ v x, e = .returned (.tuple #[v, x]) ∧ Hid (Owns w.heap.size w' v s.shown ∧ ErrV w' x s.errC s.errA ∧ Below w.heap.size w w') := by
  by_cases hs : s.sound
  · obtain ⟨p, rfl, hWp⟩ := wrP_some hW hs
    refine (wBytes_good base p s.place s.most s.L w (wrS_open hWp hs)).mono ?_
    rintro e w' ⟨v, rfl, h1, h2⟩
    refine ⟨v, _, rfl, ?_, .inl ⟨rfl, WS.errC_sound hs, ?_⟩, h2⟩
    · unfold WS.shown; rw [if_pos hs]; exact h1
    · unfold WS.errA; rw [if_pos hs.1]; exact hz hs
  · have hsh : s.shown = [] := by unfold WS.shown; rw [if_neg hs]
    rw [hsh]
    rcases hW with ⟨rfl, rfl⟩ | ⟨p, rfl, hW⟩
    · refine (wBytes_nil w).mono ?_
      rintro e w' ⟨x, rfl, h1, h2⟩
      exact ⟨_, x, rfl, Owns.nil _ _, h1, h2⟩
    · refine (wBytes_not base p s w hW hs hz).mono ?_
      rintro e w' ⟨x, rfl, h1, h2⟩
      exact ⟨_, x, rfl, Owns.nil _ _, h1, h2⟩

end Go.Proofs.YtiijbboigebhcaaGreatDoor
namespace Go.Proofs.YtiijbboigebhcaaGreatDoor
open Go.RowKit Crc

end Go.Proofs.YtiijbboigebhcaaGreatDoor
namespace Go.Proofs.YtiijbboigebhcaaGreatDoor
open Go.RowKit Crc

end Go.Proofs.YtiijbboigebhcaaGreatDoor
namespace Go.Proofs.YtiijbboigebhcaaGreatDoor
open Go.RowKit Crc

/-- The lent copy, as it lies. -/
def Lent (wi : World) (gc n : Nat) (B : List Nat) : Prop := n = B.length ∧ wi.ownsRow gc 5 1 (.slice (some ⟨gc, 0, none⟩) (n + 4) (n + 4)) (n + 4) (vals (B ++ marksTo 4))
theorem Lent.next {wi w' : World} {gc n : Nat} {B : List Nat} {row : Option Nat} (h : Lent wi gc n B) (hg : wi.grownBy w' row) (hr : row ≠ some gc) : Lent w' gc n B :=
  ⟨h.1, h.2.kept hg (.inr (by simpa [Value.ownBlock] using fun e => hr e.symm))⟩
theorem Lent.shows {wi : World} {gc n : Nat} {B : List Nat} (h : Lent wi gc n B) (hB : ∀ x ∈ B, x < 256) (hl : n ≤ 140737488355328) : Shows wi.heap.size wi (some ⟨gc, 0, none⟩) n (n + 4) B := by
  refine ⟨h.1, by omega, hl, hB, gc, 0, fun _ => rfl, fun _ => owned_lt2 h.2, fun i hi => ?_⟩
  have := owned_cells h.2 i (by omega)
  rw [List.getD_eq_getElem?_getD, List.getElem?_append_left (by have := h.1; omega)] at this
  rw [Nat.zero_add, this, List.getD_eq_getElem?_getD]
end Go.Proofs.YtiijbboigebhcaaGreatDoor
namespace Go.Proofs.YtiijbboigebhcaaGreatDoor
open Go.RowKit Crc

end Go.Proofs.YtiijbboigebhcaaGreatDoor
