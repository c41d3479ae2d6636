import Derived.Test.YtldhafpeigdloaaGreatDoorM6
import Derived.Test.YtldhafpeigdloaaGreatDoorPXN
import Derived.Test.YtldhafpeigdloaaGreatDoorM4
import Derived.Lib.AppendStr
import Derived.Test.YtldhafpeigdloaaGreatDoorM0
namespace Go.Proofs.YtldhafpeigdloaaGreatDoor
open Go.RowKit Crc

theorem hi_snoc (l : List Nat) (c : Nat) : hi (l ++ [c]) = hi l * 256 + c := by simp [hi, List.foldl_append]
theorem hi_bigTo (v s : Nat) : ∀ j, j ≤ s → hi (bigTo v s j) = v / 2 ^ (8 * (s - j)) % 256 ^ j
  | 0, _ => by simp [bigTo, hi, Nat.mod_one]
  | j + 1, h => by
    rw [bigTo, hi_snoc, hi_bigTo v s j (by omega), show s - (j + 1) = s - 1 - j by omega, show 8 * (s - j) = 8 * (s - 1 - j) + 8 by omega, Nat.pow_add, ← Nat.div_div_eq_div_mul]
    generalize v / 2 ^ (8 * (s - 1 - j)) = u
    have e1 : (256 : Nat) ^ (j + 1) = 256 * 256 ^ j := by rw [Nat.pow_succ, Nat.mul_comm]
    have e2 : (2 : Nat) ^ 8 = 256 := rfl
    rw [e1, e2, Nat.mod_mul]
    omega
theorem hi_big (v s : Nat) (h : v < 256 ^ s) : hi (big v s) = v := by
  unfold big
  rw [hi_bigTo v s s (Nat.le_refl _), Nat.sub_self]
  simp [Nat.mod_eq_of_lt h]
theorem ahead_big (v s : Nat) (R : List Nat) (h : v < 256 ^ s) : hi (aheadV (big v s ++ R) s) = v ∧ aheadW (big v s ++ R) s = 0 := by
  have hl : (big v s).length = s := big_len v s s
  unfold aheadV aheadW
  rw [List.length_append, hl, if_neg (by omega), if_neg (by omega)]
  refine ⟨?_, rfl⟩
  rw [List.take_append_of_le_length (by omega), List.take_of_length_le (by omega)]
  exact hi_big v s h

theorem numGo_numTo : ∀ (f v i n : Nat) (R : List Nat), f + i = 9 → v * 2 ^ (7 * i) < 18446744073709551616 → (0 < v ∨ i = 0) → numGo (numTo f v ++ R) i n = (n + v * 2 ^ (7 * i), i + (numTo f v).length, 0)
  | 0, v, i, n, R, hf, hv, h0 => by
    obtain rfl : i = 9 := by omega
    have h1 : v = 1 := by omega
    subst h1
    simp [numTo, numGo]
  | f + 1, v, i, n, R, hf, hv, h0 => by
    have hi9 : ¬ i = 9 := by omega
    rw [numTo]
    by_cases hs : v < 128
    · rw [if_pos hs]
      simp only [List.cons_append, List.nil_append, numGo, List.length_cons, List.length_nil]
      rw [if_neg (by omega), if_neg (by omega), if_neg (by omega), Nat.mod_eq_of_lt hs]
    · rw [if_neg hs]
      simp only [List.cons_append, numGo, List.length_cons]
      rw [if_neg (by omega), if_pos (by omega)]
      have e : v % 128 * 2 ^ (7 * i) + v / 128 * 2 ^ (7 * (i + 1)) = v * 2 ^ (7 * i) := by
        rw [show 7 * (i + 1) = 7 + 7 * i by omega, Nat.pow_add, ← Nat.mul_assoc, ← Nat.add_mul]
        congr 1
        have : (2 : Nat) ^ 7 = 128 := rfl
        rw [this]
        omega
      have hm : (v % 128 + 128) % 128 = v % 128 := by omega
      rw [hm, numGo_numTo f (v / 128) (i + 1) _ R (by omega) (by omega) (.inl (by omega))]
      rw [Nat.add_assoc n, e]
      congr 2
      omega
theorem numAt_numB (v : Nat) (R : List Nat) (hv : v < 18446744073709551616) : numAt (numB v ++ R) = (v, (numB v).length, 0) := by
  unfold numAt numB
  rw [numGo_numTo 9 v 0 0 R rfl (by simpa using hv) (.inr rfl)]
  simp
theorem countAt_numB (v : Nat) (R : List Nat) (most : Int) (hv : v < 18446744073709551616) (hm : (v : Int) ≤ most) : countAt (numB v ++ R) most = (v, (numB v).length, 0) := by
  unfold countAt
  rw [numAt_numB v R hv]
  rw [if_neg (by simp), if_neg (by simp; omega)]
theorem blobAt_numB (B R : List Nat) (most : Int) (hv : B.length < 18446744073709551616) (hm : (B.length : Int) ≤ most) : blobAt (numB B.length ++ (B ++ R)) most = (B, (numB B.length).length + B.length, 0) := by
  unfold blobAt
  rw [countAt_numB _ _ _ hv hm]
  simp only
  rw [if_neg (by simp), if_neg (by simp)]
  rw [List.drop_left, List.take_left]
theorem flag_big (b : Bool) (R : List Nat) : flagV (big (if b then 1 else 0) 1 ++ R) = b ∧ flagW (big (if b then 1 else 0) 1 ++ R) = 0 := by
  cases b <;> exact ⟨rfl, rfl⟩
end Go.Proofs.YtldhafpeigdloaaGreatDoor
namespace Go.Proofs.YtldhafpeigdloaaGreatDoor
open Go.RowKit Crc

instance (s : ByteArray) : Decidable (Ascii s) := inferInstanceAs (Decidable (∀ i (h : i < s.size), (s[i]'h).toNat < 128))

/-- A field of a script. -/
structure Fl where
  K : Int
  N : Nat
  I : Int
  bo : Option Addr
  bn : Nat
  bc : Nat
  B : List Nat
  S : ByteArray
  M : Int
def Fl.cells (f : Fl) : Array Value := #[.int .i64 f.K, .int .u64 (f.N : Int), .int .i64 f.I, .slice f.bo f.bn f.bc, .string f.S, .int .i64 f.M]
/-- What is laid down of a field, if it may be. -/
def Fl.enc (f : Fl) : Option (List Nat) :=
  if f.K = 1 then some (big (f.N % 256) 1) else if f.K = 2 then some (big (f.N % 65536) 2) else if f.K = 3 then some (big (f.N % 4294967296) 4) else if f.K = 4 then some (big f.N 8) else
  if f.K = 5 then some (numB f.N) else if f.K = 6 then some (big (if f.N % 2 = 1 then 1 else 0) 1) else
  if f.K = 7 then (if f.I < 0 ∨ f.M < f.I then none else some (numB f.I.toNat)) else
  if f.K = 8 then (if f.M < (f.bn : Int) then none else some (numB f.bn ++ f.B)) else
  if f.K = 9 then (if f.M < (f.S.size : Int) ∨ ¬ Ascii f.S then none else some (numB f.S.size ++ strB f.S)) else some []
def sizeI (X : Option (List Nat)) : Int := match X with | none => -1 | some X => (X.length : Int)
/-- The field as it lies, and its bounds. -/
structure Fl.Ok (lim : Nat) (w : World) (f : Fl) : Prop where
  hN : f.N < 18446744073709551616
  hK1 : -9223372036854775808 ≤ f.K
  hK2 : f.K < 9223372036854775808
  hI1 : -9223372036854775808 ≤ f.I
  hI2 : f.I < 9223372036854775808
  hM1 : -9223372036854775808 ≤ f.M
  hM2 : f.M < 9223372036854775808
  hB : Shows lim w f.bo f.bn f.bc f.B
  hS : f.S.size ≤ 140737488355328

theorem big_length (v s : Nat) : (big v s).length = s := big_len v s s
theorem below_alloc (w : World) (o : Obj) : Below w.heap.size w (w.alloc o) := (Below.refl _ w).alloc (Nat.le_refl _) o
theorem below_drewN {B : Nat} {a w : World} {q : Nat} (h : Below B a w) : Below B a (w.drewN q) := ⟨h.os, h.tape, h.output, h.size, h.block⟩

end Go.Proofs.YtldhafpeigdloaaGreatDoor
namespace Go.Proofs.YtldhafpeigdloaaGreatDoor
open Go.RowKit Crc

def WS0 : WS := ⟨false, 0, 0, 0, [], KW⟩
def WrP (base : Nat) (w : World) (po : Option Addr) (s : WS) : Prop := (po = none ∧ s = WS0) ∨ ∃ p, po = some ⟨p, 0, none⟩ ∧ WrS base w p s
def TchP (w w' : World) (po : Option Addr) : Prop := (po = none ∧ w.grownBy w' none) ∨ ∃ p, po = some ⟨p, 0, none⟩ ∧ Tch 4 w w' p
/-- What holds of every writer that was made: its bound, and that it is kept. -/
def WS.Inv (s : WS) : Prop := s.made = true → s.most ≤ 65507 ∧ (s.L.length : Int) ≤ s.most
theorem WS0_not : ¬ WS0.sound := fun h => by cases h.1
theorem WS.put_inv {s : WS} (h : s.Inv) (F : List Nat) (y : Int) : (s.put F y).Inv := by
  unfold WS.put
  split
  · rename_i hs
    split
    · exact h
    · split
      · exact h
      · intro hm
        have h1 := h hm
        refine ⟨h1.1, ?_⟩
        simp only [List.length_append]
        omega
  · exact h
theorem wrP_some {base : Nat} {w : World} {po : Option Addr} {s : WS} (h : WrP base w po s) (hs : s.sound) : ∃ p, po = some ⟨p, 0, none⟩ ∧ WrS base w p s := by
  rcases h with ⟨_, rfl⟩ | h
  · exact absurd hs WS0_not
  · exact h
/-- What the good road gives, as a state. -/
theorem wrP_good {base lim p : Nat} {w w' : World} {s : WS} {F : List Nat} (ht : s.takes F 0) (h : Wr s.K base w' p true s.place 0 s.most (s.L ++ F) ∧ BT lim w w' p) : WrP base w' (some ⟨p, 0, none⟩) (s.put F 0) ∧ TchP w w' (some ⟨p, 0, none⟩) := by
  refine ⟨.inr ⟨p, rfl, ?_⟩, .inr ⟨p, rfl, h.2.touch⟩⟩
  rw [WS.put_takes ht]
  show Wr s.K base w' p s.made s.place s.why s.most (s.L ++ F)
  rw [ht.1.1, ht.1.2]
  exact h.1
theorem wrS_open {base p : Nat} {w : World} {s : WS} (h : WrS base w p s) (hs : s.sound) : Wr s.K base w p true s.place 0 s.most s.L := by
  have h1 : Wr s.K base w p s.made s.place s.why s.most s.L := h
  rwa [hs.1, hs.2] at h1

set_option maxRecDepth 10000 in
theorem takes_nil (sz y : Int) (w : World) :
    Calls Tryz.prog 105 #[.pointer none, .int .i64 sz, .int .i64 y] w fun e w' => e = .returned (.bool false) ∧ w' = w := by
  go_enter Tryz.func105, Tryz.ntmps105
  go_wp2
  go_ret
  exact ⟨rfl, rfl⟩
theorem takes_noP {base : Nat} {w : World} {po : Option Addr} {s : WS} (hW : WrP base w po s) (hi : s.Inv) (F : List Nat) (sz y : Int) (hno : ¬ s.takes F y) (hsz : y = 0 → sz = (F.length : Int)) :
    Calls Tryz.prog 105 #[.pointer po, .int .i64 sz, .int .i64 y] w fun e w' => e = .returned (.bool false) ∧ Hid (WrP base w' po (s.put F y) ∧ TchP w w' po) := by
  rcases hW with ⟨rfl, rfl⟩ | ⟨p, rfl, hW⟩
  · refine (takes_nil sz y w).mono ?_
    rintro e w' ⟨rfl, rfl⟩
    exact ⟨rfl, .inl ⟨rfl, WS.put_not WS0_not _ _⟩, .inl ⟨rfl, rfl, rfl, rfl, Nat.le_refl _, fun _ _ _ => rfl⟩⟩
  · refine (takes_no base p s F sz y w hW hno hsz hi).mono ?_
    rintro e w' ⟨rfl, h1, h2⟩
    exact ⟨rfl, .inr ⟨p, rfl, h1⟩, .inr ⟨p, rfl, h2⟩⟩

set_option maxRecDepth 10000 in
set_option maxHeartbeats 400000 in
theorem fixed_no {base : Nat} {w : World} {po : Option Addr} {s : WS} (hW : WrP base w po s) (hi : s.Inv) (F : List Nat) (vi si : Int) (hsi : si = (F.length : Int)) (hno : ¬ s.takes F 0) :
    Calls Tryz.prog 108 #[.pointer po, .int .u64 vi, .int .i64 si] w fun e w' => e = .returned (.tuple #[]) ∧ Hid (WrP base w' po (s.put F 0) ∧ TchP w w' po) := by
  have HT := hide (takes_noP hW hi F si 0 hno (fun _ => hsi))
  clear hW hi hsi hno
  go_enter Tryz.func108, Tryz.ntmps108
  go_wp2_with fail
  refine HT.out.mono ?_
  rintro e w1 ⟨rfl, H⟩
  go_wp2
  go_end0
  exact ⟨rfl, H⟩

set_option maxRecDepth 10000 in
set_option maxHeartbeats 400000 in
theorem wU8P {base : Nat} {w : World} {po : Option Addr} {s : WS} (hW : WrP base w po s) (hi : s.Inv) (hbs : base ≤ w.heap.size) (v : Nat) (vi : Int) (hvi : vi = (v : Int)) (hv : v < 256) :
    Calls Tryz.prog 104 #[.pointer po, .int .u8 vi] w fun e w' => e = .returned (.tuple #[]) ∧ Hid (WrP base w' po (s.put (big v 1) 0) ∧ TchP w w' po) := by
  by_cases ht : s.takes (big v 1) 0
  · obtain ⟨p, rfl, hWp⟩ := wrP_some hW ht.1
    have hfit := ht.2.2
    rw [big_length] at hfit
    refine (wU8_goodx base 0 p v vi s.place s.most s.L w hvi hv (wrS_open hWp ht.1) (hi ht.1.1).1 hfit hbs (Nat.zero_le _) (Nat.zero_le _)).mono ?_
    rintro e w' ⟨rfl, h⟩
    exact ⟨rfl, wrP_good ht h⟩
  · have HF := hide (fixed_no hW hi (big v 1) vi 1 (by rw [big_length]; rfl) ht)
    have h0 : 0 ≤ vi := by omega
    have h1 : vi < 256 := by omega
    clear hW hi hvi ht
    go_enter Tryz.func104, Tryz.ntmps104
    go_wp2_with fail
    refine HF.out.mono ?_
    rintro e w1 ⟨rfl, H⟩
    go_wp2
    go_end0
    exact ⟨rfl, H⟩

set_option maxRecDepth 10000 in
set_option maxHeartbeats 400000 in
theorem wFlagP {base : Nat} {w : World} {po : Option Addr} {s : WS} (hW : WrP base w po s) (hi : s.Inv) (hbs : base ≤ w.heap.size) (b : Bool) :
    Calls Tryz.prog 103 #[.pointer po, .bool b] w fun e w' => e = .returned (.tuple #[]) ∧ Hid (WrP base w' po (s.put (big (if b then 1 else 0) 1) 0) ∧ TchP w w' po) := by
  cases b
  · have HF : Hid (Calls Tryz.prog 104 #[.pointer po, .int .u8 0] w fun e w' => e = .returned (.tuple #[]) ∧ Hid (WrP base w' po (s.put (big 0 1) 0) ∧ TchP w w' po)) := wU8P hW hi hbs 0 0 rfl (by omega)
    clear hW hi
    go_enter Tryz.func103, Tryz.ntmps103
    go_wp2_with fail
    refine HF.out.mono ?_
    rintro e w1 ⟨rfl, H⟩
    go_wp2
    go_end0
    exact ⟨rfl, H⟩
  · have HF : Hid (Calls Tryz.prog 104 #[.pointer po, .int .u8 1] w fun e w' => e = .returned (.tuple #[]) ∧ Hid (WrP base w' po (s.put (big 1 1) 0) ∧ TchP w w' po)) := wU8P hW hi hbs 1 1 rfl (by omega)
    clear hW hi
    go_enter Tryz.func103, Tryz.ntmps103
    go_wp2_with fail
    refine HF.out.mono ?_
    rintro e w1 ⟨rfl, H⟩
    go_wp2
    go_end0
    exact ⟨rfl, H⟩

set_option maxRecDepth 10000 in
set_option maxHeartbeats 400000 in
theorem wNumP {base : Nat} {w : World} {po : Option Addr} {s : WS} (hW : WrP base w po s) (hi : s.Inv) (hbs : base ≤ w.heap.size) (v : Nat) (vi : Int) (hvi : vi = (v : Int)) (hv : v < 18446744073709551616) :
    Calls Tryz.prog 100 #[.pointer po, .int .u64 vi] w fun e w' => e = .returned (.tuple #[]) ∧ Hid (WrP base w' po (s.put (numB v) 0) ∧ TchP w w' po) := by
  by_cases ht : s.takes (numB v) 0
  · obtain ⟨p, rfl, hWp⟩ := wrP_some hW ht.1
    refine (wNum_goodx base 0 p v vi s.place s.most s.L w hvi hv (wrS_open hWp ht.1) (hi ht.1.1).1 ht.2.2 hbs (Nat.zero_le _) (Nat.zero_le _)).mono ?_
    rintro e w' ⟨rfl, h⟩
    exact ⟨rfl, wrP_good ht h⟩
  · have HT := hide (takes_noP hW hi (numB v) ((numB v).length : Nat) 0 ht (fun _ => rfl))
    have HNS : Hid (Calls Tryz.prog 106 #[.int .u64 vi] w fun e w' => e = .returned (.int .i64 ((numB v).length : Nat)) ∧ w' = w) := numSize_any v vi w hvi hv
    clear hW hi hvi ht
    go_enter Tryz.func100, Tryz.ntmps100
    go_wp2_with fail
    refine HNS.out.mono ?_
    rintro e w0 ⟨rfl, rfl⟩
    go_wp2_with fail
    refine HT.out.mono ?_
    rintro e w1 ⟨rfl, H⟩
    go_wp2
    go_end0
    exact ⟨rfl, H⟩

/-- Why a length may not be. -/
def cntY (n most : Int) : Int := if n < 0 ∨ most < n then 21 else 0
set_option maxRecDepth 10000 in
set_option maxHeartbeats 400000 in
theorem countFault_any (n most : Int) (w : World) :
    Calls Tryz.prog 77 #[.int .i64 n, .int .i64 most] w fun e w' => e = .returned (.int .i64 (cntY n most)) ∧ w' = w := by
  by_cases h : n < 0 ∨ most < n
  · have HC : Hid (cntY n most = 21) := by unfold cntY; rw [if_pos h]; rfl
    have HO : Hid (decide (n < 0) = true ∨ decide (n < 0) = false ∧ decide (most < n) = true) := by
      show _ ∨ _
      by_cases h0 : n < 0
      · exact .inl (by simp [h0])
      · exact .inr ⟨by simp; omega, by simp; omega⟩
    clear h
    rcases HO.out with d0 | ⟨d0, d1⟩
    all_goals
      go_enter Tryz.func77, Tryz.ntmps77
      go_wp2
      go_ret
      exact ⟨by rw [HC.out]; rfl, rfl⟩
  · have HC : Hid (cntY n most = 0) := by unfold cntY; rw [if_neg h]; rfl
    refine (countFault_good n most w (by omega) (by omega)).mono ?_
    rintro e w' ⟨rfl, rfl⟩
    exact ⟨by rw [HC.out], rfl⟩

set_option maxRecDepth 10000 in
set_option maxHeartbeats 400000 in
theorem wCountP {base : Nat} {w : World} {po : Option Addr} {s : WS} (hW : WrP base w po s) (hi : s.Inv) (hbs : base ≤ w.heap.size) (n cm : Int) (hn1 : -9223372036854775808 ≤ n) (hn2 : n < 9223372036854775808) :
    Calls Tryz.prog 101 #[.pointer po, .int .i64 n, .int .i64 cm] w fun e w' => e = .returned (.tuple #[]) ∧ Hid (WrP base w' po (s.put (numB n.toNat) (cntY n cm)) ∧ TchP w w' po) := by
  by_cases ht : s.takes (numB n.toNat) (cntY n cm)
  · obtain ⟨p, rfl, hWp⟩ := wrP_some hW ht.1
    have hy := ht.2.1
    have hc : ¬ (n < 0 ∨ cm < n) := by
      intro h
      unfold cntY at hy
      rw [if_pos h] at hy
      cases hy
    rw [hy] at ht ⊢
    refine (wCount_goodx base 0 p n.toNat n cm s.place s.most s.L w (by omega) (by omega) (by omega) (wrS_open hWp ht.1) (hi ht.1.1).1 ht.2.2 hbs (Nat.zero_le _) (Nat.zero_le _)).mono ?_
    rintro e w' ⟨rfl, h⟩
    exact ⟨rfl, wrP_good ht h⟩
  · obtain ⟨u, hu⟩ : ∃ u : Nat, IntKind.u64.wrap n = (u : Int) ∧ u < 18446744073709551616 := by
      refine ⟨(n % 18446744073709551616).toNat, ?_, by omega⟩
      simp [IntKind.wrap, IntKind.bits, IntKind.signed]
      omega
    have HT := hide (takes_noP hW hi (numB n.toNat) ((numB u).length : Nat) (cntY n cm) ht (fun hy => by
      have hc : ¬ (n < 0 ∨ cm < n) := by
        intro h
        unfold cntY at hy
        rw [if_pos h] at hy
        cases hy
      have : u = n.toNat := by
        have h1 := hu.1
        simp [IntKind.wrap, IntKind.bits, IntKind.signed] at h1
        omega
      rw [this]))
    have HNS : Hid (Calls Tryz.prog 106 #[.int .u64 (IntKind.u64.wrap n)] w fun e w' => e = .returned (.int .i64 ((numB u).length : Nat)) ∧ w' = w) := numSize_any u _ w hu.1 hu.2
    have HNS2 : Hid (Calls Tryz.prog 106 #[.int .u64 (n % 18446744073709551616)] w fun e w' => e = .returned (.int .i64 ((numB u).length : Nat)) ∧ w' = w) := numSize_any u _ w (by have h1 := hu.1; simp [IntKind.wrap, IntKind.bits, IntKind.signed] at h1; exact h1) hu.2
    have HCF := hide (countFault_any n cm w)
    clear hW hi ht hu
    go_enter Tryz.func101, Tryz.ntmps101
    go_wp2_with fail
    first
      | refine HNS.out.mono ?_
      | refine HNS2.out.mono ?_
    rintro e w0 ⟨rfl, rfl⟩
    go_wp2_with fail
    refine HCF.out.mono ?_
    rintro e w0 ⟨rfl, rfl⟩
    go_wp2_with fail
    refine HT.out.mono ?_
    rintro e w1 ⟨rfl, H⟩
    go_wp2
    go_end0
    exact ⟨rfl, H⟩
end Go.Proofs.YtldhafpeigdloaaGreatDoor
namespace Go.Proofs.YtldhafpeigdloaaGreatDoor
open Go.RowKit Crc

theorem Shows.sep {lim : Nat} {w w' : World} {row : Option Nat} {ao : Option Addr} {n cap : Nat} {B : List Nat} (h : Shows lim w ao n cap B) (hg : w.grownBy w' row) (hs : ∀ g, row = some g → ∀ b off, ao = some ⟨b, off, none⟩ → b ≠ g) : Shows lim w' ao n cap B := by
  obtain ⟨h1, h2, h3, h4, b, off, h5, h6, h7⟩ := h
  refine ⟨h1, h2, h3, h4, b, off, h5, h6, fun i hi => ?_⟩
  exact hg.cell (h7 i hi) (fun e => hs b e.symm b off (h5 (by omega)) rfl)

set_option maxRecDepth 10000 in
set_option maxHeartbeats 800000 in
theorem wBlobP {base blim : Nat} {w : World} {po : Option Addr} {s : WS} (hW : WrP base w po s) (hi : s.Inv) (hbs : base ≤ w.heap.size) (bo : Option Addr) (n bcap : Nat) (B : List Nat) (cm : Int) (hS : Shows blim w bo n bcap B)
    (hsep : ∀ p u g, po = some ⟨p, 0, none⟩ → w.cell? ⟨p, 4, none⟩ = some u → u.ownBlock = some g → ∀ b off, bo = some ⟨b, off, none⟩ → b ≠ g) :
    Calls Tryz.prog 99 #[.pointer po, .slice bo n bcap, .int .i64 cm] w fun e w' => e = .returned (.tuple #[]) ∧ Hid (WrP base w' po (s.put (numB n ++ B) (cntY n cm)) ∧ TchP w w' po) := by
  have hn47 := hS.2.2.1
  have hnB := hS.1
  have HCF := hide (countFault_any n cm w)
  have HNS : Hid (Calls Tryz.prog 106 #[.int .u64 (n : Int)] w fun e w' => e = .returned (.int .i64 ((numB n).length : Nat)) ∧ w' = w) := numSize_any n _ w rfl (by omega)
  by_cases ht : s.takes (numB n ++ B) (cntY n cm)
  · obtain ⟨p, rfl, hWp⟩ := wrP_some hW ht.1
    have hy := ht.2.1
    have hc : ¬ ((n : Int) < 0 ∨ cm < n) := by
      intro h
      unfold cntY at hy
      rw [if_pos h] at hy
      cases hy
    rw [hy] at ht ⊢
    have hfit := ht.2.2
    rw [List.length_append, ← hnB] at hfit
    refine (wBlob_genx base 0 p bo n bcap blim B cm s.place s.most s.L w hS (fun u v' w2 hu he => hS.sep he.1 (fun g hg => hsep p u g rfl hu hg)) (by omega) (wrS_open hWp ht.1) (hi ht.1.1).1 (by omega) hbs (Nat.zero_le _) (Nat.zero_le _)).mono ?_
    rintro e w' ⟨rfl, h⟩
    rw [List.append_assoc] at h
    exact ⟨rfl, wrP_good ht h⟩
  · have HT := hide (takes_noP hW hi (numB n ++ B) (((numB n).length : Nat) + (n : Int)) (cntY n cm) ht (fun _ => by rw [List.length_append, ← hnB]; omega))
    have hnl : (numB n).length ≤ 10 := numTo_len 9 n
    generalize (numB n).length = ns at *
    clear hW hi ht hS hsep hnB
    go_enter Tryz.func99, Tryz.ntmps99
    go_wp2_with fail
    refine HNS.out.mono ?_
    rintro e w0 ⟨rfl, rfl⟩
    go_wp2_with fail
    refine HCF.out.mono ?_
    rintro e w0 ⟨rfl, rfl⟩
    go_wp2_with fail
    refine HT.out.mono ?_
    rintro e w1 ⟨rfl, H⟩
    go_wp2
    go_end0
    exact ⟨rfl, H⟩

/-- Why a text may not be. -/
def txtY (S : ByteArray) (most : Int) : Int := if most < (S.size : Int) then 21 else if utf8Ok S = true then 0 else 27
theorem WrP.below {base : Nat} {w w' : World} {po : Option Addr} {s : WS} (h : WrP base w po s) (hb : Below w.heap.size w w') : WrP base w' po s := by
  rcases h with ⟨rfl, rfl⟩ | ⟨p, rfl, v, hbk, hO, hne⟩
  · exact .inl ⟨rfl, rfl⟩
  · exact .inr ⟨p, rfl, v, (hb.block p (block_lt hbk)).trans hbk, hO.quiet (below_none hb), hne⟩
theorem TchP.below {w w1 w2 : World} {po : Option Addr} (hb : Below w.heap.size w w1) (hp : ∀ p, po = some ⟨p, 0, none⟩ → p < w.heap.size) (h : TchP w1 w2 po) : TchP w w2 po := by
  rcases h with ⟨rfl, hg⟩ | ⟨p, rfl, h⟩
  · exact .inl ⟨rfl, grown_trans (below_none hb) hg⟩
  · exact .inr ⟨p, rfl, Tch.from hb (hp p rfl) h⟩
theorem WrP.plt {base : Nat} {w : World} {po : Option Addr} {s : WS} (h : WrP base w po s) : ∀ p, po = some ⟨p, 0, none⟩ → p < w.heap.size := by
  intro p hp
  rcases h with ⟨rfl, _⟩ | ⟨p', rfl, v, hbk, _⟩
  · cases hp
  · cases hp; exact block_lt hbk

end Go.Proofs.YtldhafpeigdloaaGreatDoor
namespace Go.Proofs.YtldhafpeigdloaaGreatDoor
open Go.RowKit Crc

theorem ownx_far {base : Nat} {w : World} {v : Value} {B : List Nat} (h : Owns base w v B) : ∀ g, v.ownBlock = some g → base ≤ g := by
  intro g hg
  obtain ⟨a0, c0, rfl, _, (⟨rfl, _⟩ | ⟨g', rfl, hb, _⟩)⟩ := h.form
  · cases hg
  · have : g' = g := by simpa [Value.ownBlock] using hg
    omega
end Go.Proofs.YtldhafpeigdloaaGreatDoor
namespace Go.Proofs.YtldhafpeigdloaaGreatDoor
open Go.RowKit Crc

end Go.Proofs.YtldhafpeigdloaaGreatDoor
namespace Go.Proofs.YtldhafpeigdloaaGreatDoor
open Go.RowKit Crc

theorem Tch.trans {j p : Nat} {a b c : World} (h : Tch j a b p) (k : Tch j b c p) : Tch j a c p :=
  ⟨k.os.trans h.os, k.tape.trans h.tape, k.output.trans h.output, Nat.le_trans h.size k.size,
   fun q hq hf => (k.keep q (Nat.lt_of_lt_of_le hq h.size) (fun e => (h.foot q e).elim hf (fun e => by omega))).trans (h.keep q hq hf),
   fun q hq => (k.foot q hq).elim (fun e => h.foot q e) (fun e => .inr (Nat.le_trans h.size e))⟩

/-- A writer, the program's or the reference's: its own block p, its list in cell j. -/
structure Mach (j p base : Nat) (I : World → WS → Prop) : Prop where
  lt : ∀ w s, I w s → ∀ k, Foot w p j k → base ≤ k ∧ k < w.heap.size
  below : ∀ w w' s, I w s → Below w.heap.size w w' → I w' s
structure LS (j p base : Nat) (I : World → WS → Prop) (s : WS) (w0 w : World) : Prop where
  i : I w s
  inv : s.Inv
  bs : base ≤ w.heap.size
  tch : Tch j w0 w p
/-- A block that is not the writer's. -/
structure Box (j p : Nat) (w : World) (B : Nat) (o : Obj) : Prop where
  sep : ¬ Foot w p j B
  at_ : w.heap[B]? = some o
section
variable {j p base : Nat} {I : World → WS → Prop} {s : WS} {w0 w w' : World} {B : Nat} {o : Obj}
theorem Mach.plt (M : Mach j p base I) (h : I w s) : p < w.heap.size := (M.lt w s h p (.inl rfl)).2
theorem Tch.of_below (hb : Below w.heap.size w w') (hp : p < w.heap.size) : Tch j w w' p := Tch.from hb hp (Tch.refl j p w')
theorem LS.begin (h : I w s) (hi : s.Inv) (hbs : base ≤ w.heap.size) : LS j p base I s w w := ⟨h, hi, hbs, Tch.refl _ _ _⟩
theorem LS.quiet (M : Mach j p base I) (h : LS j p base I s w0 w) (hb : Below w.heap.size w w') : LS j p base I s w0 w' :=
  ⟨M.below _ _ _ h.i hb, h.inv, Nat.le_trans h.bs hb.size, h.tch.trans (Tch.of_below hb (M.plt h.i))⟩
theorem LS.step {F : List Nat} {y : Int} (h : LS j p base I s w0 w) (hi : I w' (s.put F y)) (ht : Tch j w w' p) : LS j p base I (s.put F y) w0 w' :=
  ⟨hi, WS.put_inv h.inv F y, Nat.le_trans h.bs ht.size, h.tch.trans ht⟩
theorem Mach.belowOf (M : Mach j p base I) (h0 : I w s) (hbs : base ≤ w.heap.size) (ht : Tch j w w' p) : Below base w w' :=
  ⟨ht.os, ht.tape, ht.output, ht.size, fun k hk => ht.keep k (by omega) (fun hf => by have := (M.lt _ _ h0 k hf).1; omega)⟩
theorem Box.step (h : Box j p w B o) (ht : Tch j w w' p) : Box j p w' B o := by
  have hlt := (Array.getElem?_eq_some_iff.1 h.at_).1
  exact ⟨fun hf => (ht.foot B hf).elim h.sep (fun e => by omega), (ht.keep B hlt h.sep).trans h.at_⟩
theorem Box.new (M : Mach j p base I) (h : I w s) (o : Obj) : Box j p (w.alloc o) w.heap.size o := by
  refine ⟨fun hf => ?_, by simp [World.alloc, -World.alloc_eq]⟩
  have := (M.lt _ _ h _ ((Foot.old (below_alloc1 w o) (M.plt h)).1 hf)).2
  omega
theorem Box.quiet (h : Box j p w B o) (hp : p < w.heap.size) (hb : Below w.heap.size w w') : Box j p w' B o := h.step (Tch.of_below hb hp)
end

/-- A batch as it is laid down. -/
def layGo : WS → List Rq → WS
  | s, [] => s
  | s, r :: t => layGo (((s.put (numB r.cl) 0).put (numB r.sq) 0).put (numB r.cn ++ r.C) (cntY r.cn 700)) t
def layB (s : WS) (stamp : Nat) (rs : List Rq) : WS := layGo ((s.put (numB stamp) 0).put (numB rs.length) 0) rs

theorem mach_prog (base p : Nat) (hp : base ≤ p) : Mach 4 p base (fun w s => WrS base w p s) := by
  refine ⟨fun w s h k hf => ?_, fun w w' s h hb => ?_⟩
  · obtain ⟨v, hb, hO, hne⟩ := h
    rcases hf with rfl | ⟨u, hu, hg⟩
    · exact ⟨hp, block_lt hb⟩
    · have c4 := block_cell hb 4
      rw [hu] at c4
      simp at c4
      subst c4
      exact hO.1.lt k hg
  · have := WrP.below (po := some ⟨p, 0, none⟩) (.inr ⟨p, rfl, h⟩) hb
    rcases this with ⟨h, _⟩ | ⟨q, h, h2⟩
    · cases h
    · cases h; exact h2

theorem of_wrP {base p : Nat} {w w' : World} {s : WS} (h : WrP base w' (some ⟨p, 0, none⟩) s ∧ TchP w w' (some ⟨p, 0, none⟩)) : WrS base w' p s ∧ Tch 4 w w' p := by
  obtain ⟨h1, h2⟩ := h
  refine ⟨?_, ?_⟩
  · rcases h1 with ⟨h, _⟩ | ⟨q, h, h3⟩
    · cases h
    · cases h; exact h3
  · rcases h2 with ⟨h, _⟩ | ⟨q, h, h3⟩
    · cases h
    · cases h; exact h3
end Go.Proofs.YtldhafpeigdloaaGreatDoor
namespace Go.Proofs.YtldhafpeigdloaaGreatDoor
open Go.RowKit Crc

set_option maxRecDepth 10000 in
set_option maxHeartbeats 1600000 in
theorem layBatch_prog {base p : Nat} {w : World} {s : WS} (hW : WrS base w p s) (hi : s.Inv) (hbs : base ≤ w.heap.size) (hp : base ≤ p) (stamp : Nat) (hst : stamp < 18446744073709551616) {ro : Option Addr} {rs : List Rq} {b off : Nat} (rc : Nat) (hR : Rqs base w ro rs b off) (h8 : rs.length ≤ 8) (h7 : ∀ r ∈ rs, r.cn ≤ 700) (hco : ∀ r ∈ rs, ∀ b off, r.co = some ⟨b, off, none⟩ → b < base) :
    Calls Tryz.prog 98 #[.pointer (some ⟨p, 0, none⟩), .agg #[.int .u64 (stamp : Int), .slice ro rs.length rc]] w fun e w' => e = .returned (.tuple #[]) ∧ Hid (WrS base w' p (layB s stamp rs) ∧ Tch 4 w w' p) := by
  have M := mach_prog base p hp
  have HL0 : Hid (LS 4 p base (fun w s => WrS base w p s) s w (w.alloc (.cells #[.int .u64 (stamp : Int), .slice ro rs.length rc] 29))) := (LS.begin hW hi hbs).quiet M (below_alloc1 w _)
  have HB0 : Hid (Box 4 p (w.alloc (.cells #[.int .u64 (stamp : Int), .slice ro rs.length rc] 29)) w.heap.size (.cells #[.int .u64 (stamp : Int), .slice ro rs.length rc] 29)) := Box.new M hW _
  have HNum : Hid (∀ (s' : WS) (w' : World) (v : Nat), LS 4 p base (fun w s => WrS base w p s) s' w w' → v < 18446744073709551616 → Calls Tryz.prog 100 #[.pointer (some ⟨p, 0, none⟩), .int .u64 (v : Int)] w' fun e w'' => e = .returned (.tuple #[]) ∧ Hid (LS 4 p base (fun w s => WrS base w p s) (s'.put (numB v) 0) w w'' ∧ Tch 4 w' w'' p)) := fun s' w' v h hv => by
    refine (wNumP (.inr ⟨p, rfl, h.i⟩) h.inv h.bs v v rfl hv).mono ?_
    rintro e w'' ⟨rfl, H⟩
    have H := of_wrP H.out
    exact ⟨rfl, h.step H.1 H.2, H.2⟩
  have HCnt : Hid (∀ (s' : WS) (w' : World), LS 4 p base (fun w s => WrS base w p s) s' w w' → Calls Tryz.prog 101 #[.pointer (some ⟨p, 0, none⟩), .int .i64 (rs.length : Int), .int .i64 8] w' fun e w'' => e = .returned (.tuple #[]) ∧ Hid (LS 4 p base (fun w s => WrS base w p s) (s'.put (numB rs.length) 0) w w'' ∧ Tch 4 w' w'' p)) := fun s' w' h => by
    refine (wCountP (.inr ⟨p, rfl, h.i⟩) h.inv h.bs rs.length 8 (by omega) (by omega)).mono ?_
    rintro e w'' ⟨rfl, H⟩
    have H := of_wrP H.out
    rw [show cntY (rs.length : Int) 8 = 0 by unfold cntY; rw [if_neg (by omega)], show ((rs.length : Int)).toNat = rs.length by omega] at H
    exact ⟨rfl, h.step H.1 H.2, H.2⟩
  have HBlob : Hid (∀ (s' : WS) (w' : World) (bo : Option Addr) (n bcap : Nat) (Bs : List Nat), LS 4 p base (fun w s => WrS base w p s) s' w w' → Shows base w' bo n bcap Bs → n ≤ 700 → (∀ b off, bo = some ⟨b, off, none⟩ → b < base) → Calls Tryz.prog 99 #[.pointer (some ⟨p, 0, none⟩), .slice bo n bcap, .int .i64 700] w' fun e w'' => e = .returned (.tuple #[]) ∧ Hid (LS 4 p base (fun w s => WrS base w p s) (s'.put (numB n ++ Bs) (cntY n 700)) w w'' ∧ Tch 4 w' w'' p)) := fun s' w' bo n bcap Bs h hS hn hX => by
    refine (wBlobP (.inr ⟨p, rfl, h.i⟩) h.inv h.bs bo n bcap Bs 700 hS (fun q u g hq hu hg bb oo hbo => ?_)).mono ?_
    · cases hq
      have h1 := hX bb oo hbo
      have h2 := (M.lt _ _ h.i g (.inr ⟨u, hu, hg⟩)).1
      omega
    · rintro e w'' ⟨rfl, H⟩
      have H := of_wrP H.out
      exact ⟨rfl, h.step H.1 H.2, H.2⟩
  have HR : Hid (∀ s' wr, LS 4 p base (fun w s => WrS base w p s) s' w wr → Rqs base wr ro rs b off) := fun s' wr h => hR.below (M.belowOf hW hbs h.tch)
  have HE : Hid (layB s stamp rs = layGo ((s.put (numB stamp) 0).put (numB rs.length) 0) rs) := rfl
  have HM := hide M
  have H7 := hide h7
  have HCO := hide hco
  clear hW hi hR M h7 hco
  go_enter Tryz.func98, Tryz.ntmps98
  go_wp2_with fail
  refine (HNum.out _ _ stamp HL0.out hst).mono ?_
  rintro e w1 ⟨rfl, H1⟩
  have HB1 := hide (HB0.out.step H1.out.2)
  have c0 := block_cell HB1.out.at_ 1
  simp at c0
  go_wp2_with fail
  refine (HCnt.out _ _ H1.out.1).mono ?_
  rintro e w2 ⟨rfl, H2⟩
  have HB2 := hide (HB1.out.step H2.out.2)
  have c1 := block_cell HB2.out.at_ 1
  simp at c1
  go_wp2
  go_loopw [18] (fun i wr => ∃ k : Nat, k ≤ rs.length ∧ i = .int .i64 k ∧ Hid (∃ s', LS 4 p base (fun w s => WrS base w p s) s' w wr ∧ layB s stamp rs = layGo s' (rs.drop k))) (fun i _ => rs.length - (intOf i).toNat)
  case atStart => exact ⟨0, by omega, rfl, _, H2.out.1, HE.out⟩
  case round =>
    obtain ⟨k, hk, rfl, HS⟩ := hrel
    obtain ⟨s', hls, hlay⟩ := HS.out
    have HLS := hide hls
    have HLAY := hide hlay
    clear hls hlay HS H2 HB2 H1 HB1 HL0 HB0 c0 c1
    by_cases hlt : k < rs.length
    · obtain ⟨r, hr, hd, hok, hbl, rfl, c0, c1, c2⟩ := (HR.out _ _ HLS.out).get hlt
      have hmem := List.mem_of_getElem? hr
      have hr7 := H7.out r hmem
      rw [hd] at HLAY
      obtain ⟨cl, sq, co, cn, cc, C⟩ := r
      have HOK := hide hok
      have HMEM := hide hmem
      simp only at c0 c1 c2 hr7
      clear hr hd hok hmem
      have HL3 := hide (HLS.out.quiet HM.out (below_alloc1 wr (.cells #[.int .u64 (cl : Int), .int .u64 (sq : Int), .slice co cn cc] 100)))
      have HB3 := hide (Box.new HM.out HLS.out.i (.cells #[.int .u64 (cl : Int), .int .u64 (sq : Int), .slice co cn cc] 100))
      go_wp2_with fail
      refine (HNum.out _ _ cl HL3.out HOK.out.hc).mono ?_
      rintro e w3 ⟨rfl, H3⟩
      have HB4 := hide (HB3.out.step H3.out.2)
      have x1 := block_cell HB4.out.at_ 1
      simp at x1
      go_wp2_with fail
      refine (HNum.out _ _ sq H3.out.1 HOK.out.hs).mono ?_
      rintro e w4 ⟨rfl, H4⟩
      have HB5 := hide (HB4.out.step H4.out.2)
      have x2 := block_cell HB5.out.at_ 2
      simp at x2
      have HSH := hide ((HR.out _ _ H4.out.1).ok _ HMEM.out).hC
      go_wp2_with fail
      refine (HBlob.out _ _ co cn cc C H4.out.1 HSH.out hr7 (HCO.out _ HMEM.out)).mono ?_
      rintro e w5 ⟨rfl, H5⟩
      go_wp2
      go_roundw
      case rel => exact ⟨k + 1, by omega, by go_num, _, H5.out.1, HLAY.out⟩
      case measure => simp [intOf]; omega
    · obtain rfl : k = rs.length := by omega
      go_wp2
      go_end0
      refine ⟨rfl, ?_⟩
      rw [HLAY.out, List.drop_length]
      exact ⟨HLS.out.i, HLS.out.tch⟩
end Go.Proofs.YtldhafpeigdloaaGreatDoor
