import Derived.Test.YthbpacilceemlaaPXN
import Derived.Test.YthbpacilceemlaaPRdNil
import Derived.Test.YthbpacilceemlaaM20
namespace Go.Proofs.Ythbpacilceemlaa
open Go.RowKit Crc

def WS0 : WS := ⟨false, 0, 0, 0, []⟩
def WrP (base : Nat) (w : World) (po : Option Addr) (s : WS) : Prop := (po = none ∧ s = WS0) ∨ ∃ p, po = some ⟨p, 0, none⟩ ∧ WrS base w p s
def TchP (w w' : World) (po : Option Addr) : Prop := (po = none ∧ w.grownBy w' none) ∨ ∃ p, po = some ⟨p, 0, none⟩ ∧ Tch 4 w w' p
/-- What holds of every writer that was made: its bound, and that it is kept. -/
def WS.Inv (s : WS) : Prop := s.made = true → s.most ≤ 65507 ∧ (s.L.length : Int) ≤ s.most
theorem WS0_not : ¬ WS0.sound := fun h => by cases h.1
theorem WS.put_inv {s : WS} (h : s.Inv) (F : List Nat) (y : Int) : (s.put F y).Inv := by
  unfold WS.put
  split
  · rename_i hs
    split
    · exact h
    · split
      · exact h
      · intro hm
        have h1 := h hm
        refine ⟨h1.1, ?_⟩
        simp only [List.length_append]
        omega
  · exact h
theorem wrP_some {base : Nat} {w : World} {po : Option Addr} {s : WS} (h : WrP base w po s) (hs : s.sound) : ∃ p, po = some ⟨p, 0, none⟩ ∧ WrS base w p s := by
  rcases h with ⟨_, rfl⟩ | h
  · exact absurd hs WS0_not
  · exact h
/-- What the good road gives, as a state. -/
theorem wrP_good {base lim p : Nat} {w w' : World} {s : WS} {F : List Nat} (ht : s.takes F 0) (h : Wr base w' p true s.place 0 s.most (s.L ++ F) ∧ BT lim w w' p) : WrP base w' (some ⟨p, 0, none⟩) (s.put F 0) ∧ TchP w w' (some ⟨p, 0, none⟩) := by
  refine ⟨.inr ⟨p, rfl, ?_⟩, .inr ⟨p, rfl, h.2.touch⟩⟩
  rw [WS.put_takes ht]
  show Wr base w' p s.made s.place s.why s.most (s.L ++ F)
  rw [ht.1.1, ht.1.2]
  exact h.1
theorem wrS_open {base p : Nat} {w : World} {s : WS} (h : WrS base w p s) (hs : s.sound) : Wr base w p true s.place 0 s.most s.L := by
  have h1 : Wr base w p s.made s.place s.why s.most s.L := h
  rwa [hs.1, hs.2] at h1

set_option maxRecDepth 10000 in
theorem takes_nil (sz y : Int) (w : World) :
    Calls Try.prog 89 #[.pointer none, .int .i64 sz, .int .i64 y] w fun e w' => e = .returned (.bool false) ∧ w' = w := by
  go_enter Try.func89, Try.ntmps89
  go_wp2
  go_ret
  exact ⟨rfl, rfl⟩
theorem takes_noP {base : Nat} {w : World} {po : Option Addr} {s : WS} (hW : WrP base w po s) (hi : s.Inv) (F : List Nat) (sz y : Int) (hno : ¬ s.takes F y) (hsz : y = 0 → sz = (F.length : Int)) :
    Calls Try.prog 89 #[.pointer po, .int .i64 sz, .int .i64 y] w fun e w' => e = .returned (.bool false) ∧ Hid (WrP base w' po (s.put F y) ∧ TchP w w' po) := by
  rcases hW with ⟨rfl, rfl⟩ | ⟨p, rfl, hW⟩
  · refine (takes_nil sz y w).mono ?_
    rintro e w' ⟨rfl, rfl⟩
    exact ⟨rfl, .inl ⟨rfl, WS.put_not WS0_not _ _⟩, .inl ⟨rfl, rfl, rfl, rfl, Nat.le_refl _, fun _ _ _ => rfl⟩⟩
  · refine (takes_no base p s F sz y w hW hno hsz hi).mono ?_
    rintro e w' ⟨rfl, h1, h2⟩
    exact ⟨rfl, .inr ⟨p, rfl, h1⟩, .inr ⟨p, rfl, h2⟩⟩

set_option maxRecDepth 10000 in
set_option maxHeartbeats 400000 in
theorem fixed_no {base : Nat} {w : World} {po : Option Addr} {s : WS} (hW : WrP base w po s) (hi : s.Inv) (F : List Nat) (vi si : Int) (hsi : si = (F.length : Int)) (hno : ¬ s.takes F 0) :
    Calls Try.prog 86 #[.pointer po, .int .u64 vi, .int .i64 si] w fun e w' => e = .returned (.tuple #[]) ∧ Hid (WrP base w' po (s.put F 0) ∧ TchP w w' po) := by
  have HT := hide (takes_noP hW hi F si 0 hno (fun _ => hsi))
  clear hW hi hsi hno
  go_enter Try.func86, Try.ntmps86
  go_wp2_with fail
  refine HT.out.mono ?_
  rintro e w1 ⟨rfl, H⟩
  go_wp2
  go_end0
  exact ⟨rfl, H⟩

set_option maxRecDepth 10000 in
set_option maxHeartbeats 400000 in
theorem wU8P {base : Nat} {w : World} {po : Option Addr} {s : WS} (hW : WrP base w po s) (hi : s.Inv) (hbs : base ≤ w.heap.size) (v : Nat) (vi : Int) (hvi : vi = (v : Int)) (hv : v < 256) :
    Calls Try.prog 36 #[.pointer po, .int .u8 vi] w fun e w' => e = .returned (.tuple #[]) ∧ Hid (WrP base w' po (s.put (big v 1) 0) ∧ TchP w w' po) := by
  by_cases ht : s.takes (big v 1) 0
  · obtain ⟨p, rfl, hWp⟩ := wrP_some hW ht.1
    have hfit := ht.2.2
    rw [big_length] at hfit
    refine (wU8_goodx base 0 p v vi s.place s.most s.L w hvi hv (wrS_open hWp ht.1) (hi ht.1.1).1 hfit hbs (Nat.zero_le _) (Nat.zero_le _)).mono ?_
    rintro e w' ⟨rfl, h⟩
    exact ⟨rfl, wrP_good ht h⟩
  · have HF := hide (fixed_no hW hi (big v 1) vi 1 (by rw [big_length]; rfl) ht)
    have h0 : 0 ≤ vi := by omega
    have h1 : vi < 256 := by omega
    clear hW hi hvi ht
    go_enter Try.func36, Try.ntmps36
    go_wp2_with fail
    refine HF.out.mono ?_
    rintro e w1 ⟨rfl, H⟩
    go_wp2
    go_end0
    exact ⟨rfl, H⟩

set_option maxRecDepth 10000 in
set_option maxHeartbeats 400000 in
theorem wU16P {base : Nat} {w : World} {po : Option Addr} {s : WS} (hW : WrP base w po s) (hi : s.Inv) (hbs : base ≤ w.heap.size) (v : Nat) (vi : Int) (hvi : vi = (v : Int)) (hv : v < 65536) :
    Calls Try.prog 38 #[.pointer po, .int .u16 vi] w fun e w' => e = .returned (.tuple #[]) ∧ Hid (WrP base w' po (s.put (big v 2) 0) ∧ TchP w w' po) := by
  by_cases ht : s.takes (big v 2) 0
  · obtain ⟨p, rfl, hWp⟩ := wrP_some hW ht.1
    have hfit := ht.2.2
    rw [big_length] at hfit
    refine (wU16_goodx base 0 p v vi s.place s.most s.L w hvi hv (wrS_open hWp ht.1) (hi ht.1.1).1 hfit hbs (Nat.zero_le _) (Nat.zero_le _)).mono ?_
    rintro e w' ⟨rfl, h⟩
    exact ⟨rfl, wrP_good ht h⟩
  · have HF := hide (fixed_no hW hi (big v 2) vi 2 (by rw [big_length]; rfl) ht)
    have h0 : 0 ≤ vi := by omega
    have h1 : vi < 65536 := by omega
    clear hW hi hvi ht
    go_enter Try.func38, Try.ntmps38
    go_wp2_with fail
    refine HF.out.mono ?_
    rintro e w1 ⟨rfl, H⟩
    go_wp2
    go_end0
    exact ⟨rfl, H⟩

set_option maxRecDepth 10000 in
set_option maxHeartbeats 400000 in
theorem wU32P {base : Nat} {w : World} {po : Option Addr} {s : WS} (hW : WrP base w po s) (hi : s.Inv) (hbs : base ≤ w.heap.size) (v : Nat) (vi : Int) (hvi : vi = (v : Int)) (hv : v < 4294967296) :
    Calls Try.prog 39 #[.pointer po, .int .u32 vi] w fun e w' => e = .returned (.tuple #[]) ∧ Hid (WrP base w' po (s.put (big v 4) 0) ∧ TchP w w' po) := by
  by_cases ht : s.takes (big v 4) 0
  · obtain ⟨p, rfl, hWp⟩ := wrP_some hW ht.1
    have hfit := ht.2.2
    rw [big_length] at hfit
    refine (wU32_goodx base 0 p v vi s.place s.most s.L w hvi hv (wrS_open hWp ht.1) (hi ht.1.1).1 hfit hbs (Nat.zero_le _) (Nat.zero_le _)).mono ?_
    rintro e w' ⟨rfl, h⟩
    exact ⟨rfl, wrP_good ht h⟩
  · have HF := hide (fixed_no hW hi (big v 4) vi 4 (by rw [big_length]; rfl) ht)
    have h0 : 0 ≤ vi := by omega
    have h1 : vi < 4294967296 := by omega
    clear hW hi hvi ht
    go_enter Try.func39, Try.ntmps39
    go_wp2_with fail
    refine HF.out.mono ?_
    rintro e w1 ⟨rfl, H⟩
    go_wp2
    go_end0
    exact ⟨rfl, H⟩

set_option maxRecDepth 10000 in
set_option maxHeartbeats 400000 in
theorem wU64P {base : Nat} {w : World} {po : Option Addr} {s : WS} (hW : WrP base w po s) (hi : s.Inv) (hbs : base ≤ w.heap.size) (v : Nat) (vi : Int) (hvi : vi = (v : Int)) (hv : v < 18446744073709551616) :
    Calls Try.prog 40 #[.pointer po, .int .u64 vi] w fun e w' => e = .returned (.tuple #[]) ∧ Hid (WrP base w' po (s.put (big v 8) 0) ∧ TchP w w' po) := by
  by_cases ht : s.takes (big v 8) 0
  · obtain ⟨p, rfl, hWp⟩ := wrP_some hW ht.1
    have hfit := ht.2.2
    rw [big_length] at hfit
    refine (wU64_goodx base 0 p v vi s.place s.most s.L w hvi (wrS_open hWp ht.1) (hi ht.1.1).1 hfit hbs (Nat.zero_le _) (Nat.zero_le _)).mono ?_
    rintro e w' ⟨rfl, h⟩
    exact ⟨rfl, wrP_good ht h⟩
  · have HF := hide (fixed_no hW hi (big v 8) vi 8 (by rw [big_length]; rfl) ht)
    have h0 : 0 ≤ vi := by omega
    have h1 : vi < 18446744073709551616 := by omega
    clear hW hi hvi ht
    go_enter Try.func40, Try.ntmps40
    go_wp2_with fail
    refine HF.out.mono ?_
    rintro e w1 ⟨rfl, H⟩
    go_wp2
    go_end0
    exact ⟨rfl, H⟩

set_option maxRecDepth 10000 in
set_option maxHeartbeats 400000 in
theorem wFlagP {base : Nat} {w : World} {po : Option Addr} {s : WS} (hW : WrP base w po s) (hi : s.Inv) (hbs : base ≤ w.heap.size) (b : Bool) :
    Calls Try.prog 43 #[.pointer po, .bool b] w fun e w' => e = .returned (.tuple #[]) ∧ Hid (WrP base w' po (s.put (big (if b then 1 else 0) 1) 0) ∧ TchP w w' po) := by
  cases b
  · have HF : Hid (Calls Try.prog 36 #[.pointer po, .int .u8 0] w fun e w' => e = .returned (.tuple #[]) ∧ Hid (WrP base w' po (s.put (big 0 1) 0) ∧ TchP w w' po)) := wU8P hW hi hbs 0 0 rfl (by omega)
    clear hW hi
    go_enter Try.func43, Try.ntmps43
    go_wp2_with fail
    refine HF.out.mono ?_
    rintro e w1 ⟨rfl, H⟩
    go_wp2
    go_end0
    exact ⟨rfl, H⟩
  · have HF : Hid (Calls Try.prog 36 #[.pointer po, .int .u8 1] w fun e w' => e = .returned (.tuple #[]) ∧ Hid (WrP base w' po (s.put (big 1 1) 0) ∧ TchP w w' po)) := wU8P hW hi hbs 1 1 rfl (by omega)
    clear hW hi
    go_enter Try.func43, Try.ntmps43
    go_wp2_with fail
    refine HF.out.mono ?_
    rintro e w1 ⟨rfl, H⟩
    go_wp2
    go_end0
    exact ⟨rfl, H⟩

set_option maxRecDepth 10000 in
set_option maxHeartbeats 400000 in
theorem wNumP {base : Nat} {w : World} {po : Option Addr} {s : WS} (hW : WrP base w po s) (hi : s.Inv) (hbs : base ≤ w.heap.size) (v : Nat) (vi : Int) (hvi : vi = (v : Int)) (hv : v < 18446744073709551616) :
    Calls Try.prog 41 #[.pointer po, .int .u64 vi] w fun e w' => e = .returned (.tuple #[]) ∧ Hid (WrP base w' po (s.put (numB v) 0) ∧ TchP w w' po) := by
  by_cases ht : s.takes (numB v) 0
  · obtain ⟨p, rfl, hWp⟩ := wrP_some hW ht.1
    refine (wNum_goodx base 0 p v vi s.place s.most s.L w hvi hv (wrS_open hWp ht.1) (hi ht.1.1).1 ht.2.2 hbs (Nat.zero_le _) (Nat.zero_le _)).mono ?_
    rintro e w' ⟨rfl, h⟩
    exact ⟨rfl, wrP_good ht h⟩
  · have HT := hide (takes_noP hW hi (numB v) ((numB v).length : Nat) 0 ht (fun _ => rfl))
    have HNS : Hid (Calls Try.prog 90 #[.int .u64 vi] w fun e w' => e = .returned (.int .i64 ((numB v).length : Nat)) ∧ w' = w) := numSize_any v vi w hvi hv
    clear hW hi hvi ht
    go_enter Try.func41, Try.ntmps41
    go_wp2_with fail
    refine HNS.out.mono ?_
    rintro e w0 ⟨rfl, rfl⟩
    go_wp2_with fail
    refine HT.out.mono ?_
    rintro e w1 ⟨rfl, H⟩
    go_wp2
    go_end0
    exact ⟨rfl, H⟩

/-- Why a length may not be. -/
def cntY (n most : Int) : Int := if n < 0 ∨ most < n then 21 else 0
set_option maxRecDepth 10000 in
set_option maxHeartbeats 400000 in
theorem countFault_any (n most : Int) (w : World) :
    Calls Try.prog 93 #[.int .i64 n, .int .i64 most] w fun e w' => e = .returned (.int .i64 (cntY n most)) ∧ w' = w := by
  by_cases h : n < 0 ∨ most < n
  · have HC : Hid (cntY n most = 21) := by unfold cntY; rw [if_pos h]; rfl
    have HO : Hid (decide (n < 0) = true ∨ decide (n < 0) = false ∧ decide (most < n) = true) := by
      show _ ∨ _
      by_cases h0 : n < 0
      · exact .inl (by simp [h0])
      · exact .inr ⟨by simp; omega, by simp; omega⟩
    clear h
    rcases HO.out with d0 | ⟨d0, d1⟩
    all_goals
      go_enter Try.func93, Try.ntmps93
      go_wp2
      go_ret
      exact ⟨by rw [HC.out]; rfl, rfl⟩
  · have HC : Hid (cntY n most = 0) := by unfold cntY; rw [if_neg h]; rfl
    refine (countFault_good n most w (by omega) (by omega)).mono ?_
    rintro e w' ⟨rfl, rfl⟩
    exact ⟨by rw [HC.out], rfl⟩

set_option maxRecDepth 10000 in
set_option maxHeartbeats 400000 in
theorem wCountP {base : Nat} {w : World} {po : Option Addr} {s : WS} (hW : WrP base w po s) (hi : s.Inv) (hbs : base ≤ w.heap.size) (n cm : Int) (hn1 : -9223372036854775808 ≤ n) (hn2 : n < 9223372036854775808) :
    Calls Try.prog 45 #[.pointer po, .int .i64 n, .int .i64 cm] w fun e w' => e = .returned (.tuple #[]) ∧ Hid (WrP base w' po (s.put (numB n.toNat) (cntY n cm)) ∧ TchP w w' po) := by
  by_cases ht : s.takes (numB n.toNat) (cntY n cm)
  · obtain ⟨p, rfl, hWp⟩ := wrP_some hW ht.1
    have hy := ht.2.1
    have hc : ¬ (n < 0 ∨ cm < n) := by
      intro h
      unfold cntY at hy
      rw [if_pos h] at hy
      cases hy
    rw [hy] at ht ⊢
    refine (wCount_goodx base 0 p n.toNat n cm s.place s.most s.L w (by omega) (by omega) (by omega) (wrS_open hWp ht.1) (hi ht.1.1).1 ht.2.2 hbs (Nat.zero_le _) (Nat.zero_le _)).mono ?_
    rintro e w' ⟨rfl, h⟩
    exact ⟨rfl, wrP_good ht h⟩
  · obtain ⟨u, hu⟩ : ∃ u : Nat, IntKind.u64.wrap n = (u : Int) ∧ u < 18446744073709551616 := by
      refine ⟨(n % 18446744073709551616).toNat, ?_, by omega⟩
      simp [IntKind.wrap, IntKind.bits, IntKind.signed]
      omega
    have HT := hide (takes_noP hW hi (numB n.toNat) ((numB u).length : Nat) (cntY n cm) ht (fun hy => by
      have hc : ¬ (n < 0 ∨ cm < n) := by
        intro h
        unfold cntY at hy
        rw [if_pos h] at hy
        cases hy
      have : u = n.toNat := by
        have h1 := hu.1
        simp [IntKind.wrap, IntKind.bits, IntKind.signed] at h1
        omega
      rw [this]))
    have HNS : Hid (Calls Try.prog 90 #[.int .u64 (IntKind.u64.wrap n)] w fun e w' => e = .returned (.int .i64 ((numB u).length : Nat)) ∧ w' = w) := numSize_any u _ w hu.1 hu.2
    have HNS2 : Hid (Calls Try.prog 90 #[.int .u64 (n % 18446744073709551616)] w fun e w' => e = .returned (.int .i64 ((numB u).length : Nat)) ∧ w' = w) := numSize_any u _ w (by have h1 := hu.1; simp [IntKind.wrap, IntKind.bits, IntKind.signed] at h1; exact h1) hu.2
    have HCF := hide (countFault_any n cm w)
    clear hW hi ht hu
    go_enter Try.func45, Try.ntmps45
    go_wp2_with fail
    first
      | refine HNS.out.mono ?_
      | refine HNS2.out.mono ?_
    rintro e w0 ⟨rfl, rfl⟩
    go_wp2_with fail
    refine HCF.out.mono ?_
    rintro e w0 ⟨rfl, rfl⟩
    go_wp2_with fail
    refine HT.out.mono ?_
    rintro e w1 ⟨rfl, H⟩
    go_wp2
    go_end0
    exact ⟨rfl, H⟩
end Go.Proofs.Ythbpacilceemlaa
namespace Go.Proofs.Ythbpacilceemlaa
open Go.RowKit Crc

theorem Shows.sep {lim : Nat} {w w' : World} {row : Option Nat} {ao : Option Addr} {n cap : Nat} {B : List Nat} (h : Shows lim w ao n cap B) (hg : w.grownBy w' row) (hs : ∀ g, row = some g → ∀ b off, ao = some ⟨b, off, none⟩ → b ≠ g) : Shows lim w' ao n cap B := by
  obtain ⟨h1, h2, h3, h4, b, off, h5, h6, h7⟩ := h
  refine ⟨h1, h2, h3, h4, b, off, h5, h6, fun i hi => ?_⟩
  exact hg.cell (h7 i hi) (fun e => hs b e.symm b off (h5 (by omega)) rfl)

set_option maxRecDepth 10000 in
set_option maxHeartbeats 800000 in
theorem wBlobP {base blim : Nat} {w : World} {po : Option Addr} {s : WS} (hW : WrP base w po s) (hi : s.Inv) (hbs : base ≤ w.heap.size) (bo : Option Addr) (n bcap : Nat) (B : List Nat) (cm : Int) (hS : Shows blim w bo n bcap B)
    (hsep : ∀ p u g, po = some ⟨p, 0, none⟩ → w.cell? ⟨p, 4, none⟩ = some u → u.ownBlock = some g → ∀ b off, bo = some ⟨b, off, none⟩ → b ≠ g) :
    Calls Try.prog 47 #[.pointer po, .slice bo n bcap, .int .i64 cm] w fun e w' => e = .returned (.tuple #[]) ∧ Hid (WrP base w' po (s.put (numB n ++ B) (cntY n cm)) ∧ TchP w w' po) := by
  have hn47 := hS.2.2.1
  have hnB := hS.1
  have HCF := hide (countFault_any n cm w)
  have HNS : Hid (Calls Try.prog 90 #[.int .u64 (n : Int)] w fun e w' => e = .returned (.int .i64 ((numB n).length : Nat)) ∧ w' = w) := numSize_any n _ w rfl (by omega)
  by_cases ht : s.takes (numB n ++ B) (cntY n cm)
  · obtain ⟨p, rfl, hWp⟩ := wrP_some hW ht.1
    have hy := ht.2.1
    have hc : ¬ ((n : Int) < 0 ∨ cm < n) := by
      intro h
      unfold cntY at hy
      rw [if_pos h] at hy
      cases hy
    rw [hy] at ht ⊢
    have hfit := ht.2.2
    rw [List.length_append, ← hnB] at hfit
    refine (wBlob_genx base 0 p bo n bcap blim B cm s.place s.most s.L w hS (fun u v' w2 hu he => hS.sep he.1 (fun g hg => hsep p u g rfl hu hg)) (by omega) (wrS_open hWp ht.1) (hi ht.1.1).1 (by omega) hbs (Nat.zero_le _) (Nat.zero_le _)).mono ?_
    rintro e w' ⟨rfl, h⟩
    rw [List.append_assoc] at h
    exact ⟨rfl, wrP_good ht h⟩
  · have HT := hide (takes_noP hW hi (numB n ++ B) (((numB n).length : Nat) + (n : Int)) (cntY n cm) ht (fun _ => by rw [List.length_append, ← hnB]; omega))
    have hnl : (numB n).length ≤ 10 := numTo_len 9 n
    generalize (numB n).length = ns at *
    clear hW hi ht hS hsep hnB
    go_enter Try.func47, Try.ntmps47
    go_wp2_with fail
    refine HNS.out.mono ?_
    rintro e w0 ⟨rfl, rfl⟩
    go_wp2_with fail
    refine HCF.out.mono ?_
    rintro e w0 ⟨rfl, rfl⟩
    go_wp2_with fail
    refine HT.out.mono ?_
    rintro e w1 ⟨rfl, H⟩
    go_wp2
    go_end0
    exact ⟨rfl, H⟩

/-- Why a text may not be. -/
def txtY (S : ByteArray) (most : Int) : Int := if most < (S.size : Int) then 21 else if utf8Ok S = true then 0 else 27
set_option maxRecDepth 10000 in
set_option maxHeartbeats 400000 in
theorem textFault_any (S : ByteArray) (most : Int) (w : World) :
    Calls Try.prog 95 #[.string S, .int .i64 most] w fun e w' => e = .returned (.int .i64 (txtY S most)) ∧ Below w.heap.size w w' := by
  by_cases hl : most < (S.size : Int)
  · have HC : Hid (txtY S most = 21) := by unfold txtY; rw [if_pos hl]; rfl
    have d : decide (most < (S.size : Int)) = true := by simp [hl]
    clear hl
    go_enter Try.func95, Try.ntmps95
    go_wp2
    go_ret
    exact ⟨by rw [HC.out]; rfl, Below.refl _ _⟩
  · have HC : Hid (txtY S most = if utf8Ok S = true then 0 else 27) := by unfold txtY; rw [if_neg hl]; rfl
    have HT := hide (isText_any S w)
    have d : decide (most < (S.size : Int)) = false := by simp; omega
    have HB : Hid (∀ pos, Below w.heap.size w (w.iter S pos)) := fun pos => (Below.refl _ w).alloc (Nat.le_refl _) _
    clear hl
    generalize utf8Ok S = ok at *
    cases ok
    · go_enter Try.func95, Try.ntmps95
      go_wp2_with fail
      refine HT.out.mono ?_
      rintro e w1 ⟨rfl, pos, rfl⟩
      go_wp2
      go_ret
      exact ⟨by rw [HC.out]; rfl, HB.out pos⟩
    · go_enter Try.func95, Try.ntmps95
      go_wp2_with fail
      refine HT.out.mono ?_
      rintro e w1 ⟨rfl, pos, rfl⟩
      go_wp2
      go_ret
      exact ⟨by rw [HC.out]; rfl, HB.out pos⟩

theorem WrP.below {base : Nat} {w w' : World} {po : Option Addr} {s : WS} (h : WrP base w po s) (hb : Below w.heap.size w w') : WrP base w' po s := by
  rcases h with ⟨rfl, rfl⟩ | ⟨p, rfl, v, hbk, hO, hne⟩
  · exact .inl ⟨rfl, rfl⟩
  · exact .inr ⟨p, rfl, v, (hb.block p (block_lt hbk)).trans hbk, hO.quiet (below_none hb), hne⟩
theorem TchP.below {w w1 w2 : World} {po : Option Addr} (hb : Below w.heap.size w w1) (hp : ∀ p, po = some ⟨p, 0, none⟩ → p < w.heap.size) (h : TchP w1 w2 po) : TchP w w2 po := by
  rcases h with ⟨rfl, hg⟩ | ⟨p, rfl, h⟩
  · exact .inl ⟨rfl, grown_trans (below_none hb) hg⟩
  · exact .inr ⟨p, rfl, Tch.from hb (hp p rfl) h⟩
theorem WrP.plt {base : Nat} {w : World} {po : Option Addr} {s : WS} (h : WrP base w po s) : ∀ p, po = some ⟨p, 0, none⟩ → p < w.heap.size := by
  intro p hp
  rcases h with ⟨rfl, _⟩ | ⟨p', rfl, v, hbk, _⟩
  · cases hp
  · cases hp; exact block_lt hbk

set_option maxRecDepth 10000 in
set_option maxHeartbeats 800000 in
theorem wTextP {base : Nat} {w : World} {po : Option Addr} {s : WS} (hW : WrP base w po s) (hi : s.Inv) (hbs : base ≤ w.heap.size) (S : ByteArray) (cm : Int) (hS : S.size ≤ 140737488355328) :
    Calls Try.prog 49 #[.pointer po, .string S, .int .i64 cm] w fun e w' => e = .returned (.tuple #[]) ∧ Hid (WrP base w' po (s.put (numB S.size ++ strB S) (txtY S cm)) ∧ TchP w w' po) := by
  have HTF := hide (textFault_any S cm w)
  have HNS : Hid (Calls Try.prog 90 #[.int .u64 (S.size : Int)] w fun e w' => e = .returned (.int .i64 ((numB S.size).length : Nat)) ∧ w' = w) := numSize_any S.size _ w rfl (by omega)
  by_cases ht : s.takes (numB S.size ++ strB S) (txtY S cm)
  · obtain ⟨p, rfl, hWp⟩ := wrP_some hW ht.1
    have hy := ht.2.1
    have hc : ¬ cm < (S.size : Int) := by
      intro h
      unfold txtY at hy
      rw [if_pos h] at hy
      cases hy
    have hu : utf8Ok S = true := by
      unfold txtY at hy
      rw [if_neg hc] at hy
      by_cases h : utf8Ok S = true
      · exact h
      · rw [if_neg h] at hy; cases hy
    rw [hy] at ht ⊢
    have hfit := ht.2.2
    rw [List.length_append, strB_len] at hfit
    refine (wText_goodx base 0 p S cm s.place s.most s.L w hu (by omega) (wrS_open hWp ht.1) (hi ht.1.1).1 (by omega) hbs (Nat.zero_le _) (Nat.zero_le _)).mono ?_
    rintro e w' ⟨rfl, h⟩
    rw [List.append_assoc] at h
    exact ⟨rfl, wrP_good ht h⟩
  · have HT : Hid (∀ w1, Below w.heap.size w w1 → Calls Try.prog 89 #[.pointer po, .int .i64 (((numB S.size).length : Nat) + (S.size : Int)), .int .i64 (txtY S cm)] w1 fun e w' => e = .returned (.bool false) ∧ Hid (WrP base w' po (s.put (numB S.size ++ strB S) (txtY S cm)) ∧ TchP w w' po)) := by
      intro w1 hb
      refine (takes_noP (hW.below hb) hi (numB S.size ++ strB S) _ (txtY S cm) ht (fun _ => by rw [List.length_append, strB_len]; omega)).mono ?_
      rintro e w' ⟨rfl, h⟩
      exact ⟨rfl, h.out.1, TchP.below hb hW.plt h.out.2⟩
    have hnl : (numB S.size).length ≤ 10 := numTo_len 9 S.size
    generalize (numB S.size).length = ns at *
    clear hW hi ht
    go_enter Try.func49, Try.ntmps49
    go_wp2_with fail
    refine HNS.out.mono ?_
    rintro e w0 ⟨rfl, rfl⟩
    go_wp2_with fail
    refine HTF.out.mono ?_
    rintro e w1 ⟨rfl, hb1⟩
    have HT1 := hide (HT.out w1 hb1)
    clear hb1
    go_wp2_with fail
    refine HT1.out.mono ?_
    rintro e w2 ⟨rfl, H⟩
    go_wp2
    go_end0
    exact ⟨rfl, H⟩
end Go.Proofs.Ythbpacilceemlaa
