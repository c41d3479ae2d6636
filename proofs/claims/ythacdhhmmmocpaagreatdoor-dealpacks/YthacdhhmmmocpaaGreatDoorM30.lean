import Derived.Test.YthacdhhmmmocpaaGreatDoorPXN
import Derived.Test.YthacdhhmmmocpaaGreatDoorPRdNil
import Derived.Test.YthacdhhmmmocpaaGreatDoorPLawA
import Derived.Test.YthacdhhmmmocpaaGreatDoorM19
import Derived.Lib.AppendStr
import Derived.Test.YthacdhhmmmocpaaGreatDoorM21
import Derived.Lib.ConvBytes
import Derived.Test.YthacdhhmmmocpaaGreatDoorM24
namespace Go.Proofs.YthacdhhmmmocpaaGreatDoor
open Go.RowKit Crc

def WS0 : WS := ⟨false, 0, 0, 0, [], KW⟩
def WrP (base : Nat) (w : World) (po : Option Addr) (s : WS) : Prop := (po = none ∧ s = WS0) ∨ ∃ p, po = some ⟨p, 0, none⟩ ∧ WrS base w p s
def TchP (w w' : World) (po : Option Addr) : Prop := (po = none ∧ w.grownBy w' none) ∨ ∃ p, po = some ⟨p, 0, none⟩ ∧ Tch 4 w w' p
/-- What holds of every writer that was made: its bound, and that it is kept. -/
def WS.Inv (s : WS) : Prop := s.made = true → s.most ≤ 65507 ∧ (s.L.length : Int) ≤ s.most
theorem WS0_not : ¬ WS0.sound := fun h => by cases h.1
theorem WS.put_inv {s : WS} (h : s.Inv) (F : List Nat) (y : Int) : (s.put F y).Inv := by
  unfold WS.put
  split
  · rename_i hs
    split
    · exact h
    · split
      · exact h
      · intro hm
        have h1 := h hm
        refine ⟨h1.1, ?_⟩
        simp only [List.length_append]
        omega
  · exact h
theorem wrP_some {base : Nat} {w : World} {po : Option Addr} {s : WS} (h : WrP base w po s) (hs : s.sound) : ∃ p, po = some ⟨p, 0, none⟩ ∧ WrS base w p s := by
  rcases h with ⟨_, rfl⟩ | h
  · exact absurd hs WS0_not
  · exact h
/-- What the good road gives, as a state. -/
theorem wrP_good {base lim p : Nat} {w w' : World} {s : WS} {F : List Nat} (ht : s.takes F 0) (h : Wr s.K base w' p true s.place 0 s.most (s.L ++ F) ∧ BT lim w w' p) : WrP base w' (some ⟨p, 0, none⟩) (s.put F 0) ∧ TchP w w' (some ⟨p, 0, none⟩) := by
  refine ⟨.inr ⟨p, rfl, ?_⟩, .inr ⟨p, rfl, h.2.touch⟩⟩
  rw [WS.put_takes ht]
  show Wr s.K base w' p s.made s.place s.why s.most (s.L ++ F)
  rw [ht.1.1, ht.1.2]
  exact h.1
theorem wrS_open {base p : Nat} {w : World} {s : WS} (h : WrS base w p s) (hs : s.sound) : Wr s.K base w p true s.place 0 s.most s.L := by
  have h1 : Wr s.K base w p s.made s.place s.why s.most s.L := h
  rwa [hs.1, hs.2] at h1

set_option maxRecDepth 10000 in
theorem takes_nil (sz y : Int) (w : World) :
    Calls Tryz.prog 48 #[.pointer none, .int .i64 sz, .int .i64 y] w fun e w' => e = .returned (.bool false) ∧ w' = w := by
  go_enter Tryz.func48, Tryz.ntmps48
  go_wp2
  go_ret
  exact ⟨rfl, rfl⟩
theorem takes_noP {base : Nat} {w : World} {po : Option Addr} {s : WS} (hW : WrP base w po s) (hi : s.Inv) (F : List Nat) (sz y : Int) (hno : ¬ s.takes F y) (hsz : y = 0 → sz = (F.length : Int)) :
    Calls Tryz.prog 48 #[.pointer po, .int .i64 sz, .int .i64 y] w fun e w' => e = .returned (.bool false) ∧ Hid (WrP base w' po (s.put F y) ∧ TchP w w' po) := by
  rcases hW with ⟨rfl, rfl⟩ | ⟨p, rfl, hW⟩
  · refine (takes_nil sz y w).mono ?_
    rintro e w' ⟨rfl, rfl⟩
    exact ⟨rfl, .inl ⟨rfl, WS.put_not WS0_not _ _⟩, .inl ⟨rfl, rfl, rfl, rfl, Nat.le_refl _, fun _ _ _ => rfl⟩⟩
  · refine (takes_no base p s F sz y w hW hno hsz hi).mono ?_
    rintro e w' ⟨rfl, h1, h2⟩
    exact ⟨rfl, .inr ⟨p, rfl, h1⟩, .inr ⟨p, rfl, h2⟩⟩

set_option maxRecDepth 10000 in
set_option maxHeartbeats 400000 in
theorem fixed_no {base : Nat} {w : World} {po : Option Addr} {s : WS} (hW : WrP base w po s) (hi : s.Inv) (F : List Nat) (vi si : Int) (hsi : si = (F.length : Int)) (hno : ¬ s.takes F 0) :
    Calls Tryz.prog 47 #[.pointer po, .int .u64 vi, .int .i64 si] w fun e w' => e = .returned (.tuple #[]) ∧ Hid (WrP base w' po (s.put F 0) ∧ TchP w w' po) := by
  have HT := hide (takes_noP hW hi F si 0 hno (fun _ => hsi))
  clear hW hi hsi hno
  go_enter Tryz.func47, Tryz.ntmps47
  go_wp2_with fail
  refine HT.out.mono ?_
  rintro e w1 ⟨rfl, H⟩
  go_wp2
  go_end0
  exact ⟨rfl, H⟩

set_option maxRecDepth 10000 in
set_option maxHeartbeats 400000 in
theorem wU8P {base : Nat} {w : World} {po : Option Addr} {s : WS} (hW : WrP base w po s) (hi : s.Inv) (hbs : base ≤ w.heap.size) (v : Nat) (vi : Int) (hvi : vi = (v : Int)) (hv : v < 256) :
    Calls Tryz.prog 18 #[.pointer po, .int .u8 vi] w fun e w' => e = .returned (.tuple #[]) ∧ Hid (WrP base w' po (s.put (big v 1) 0) ∧ TchP w w' po) := by
  by_cases ht : s.takes (big v 1) 0
  · obtain ⟨p, rfl, hWp⟩ := wrP_some hW ht.1
    have hfit := ht.2.2
    rw [big_length] at hfit
    refine (wU8_goodx base 0 p v vi s.place s.most s.L w hvi hv (wrS_open hWp ht.1) (hi ht.1.1).1 hfit hbs (Nat.zero_le _) (Nat.zero_le _)).mono ?_
    rintro e w' ⟨rfl, h⟩
    exact ⟨rfl, wrP_good ht h⟩
  · have HF := hide (fixed_no hW hi (big v 1) vi 1 (by rw [big_length]; rfl) ht)
    have h0 : 0 ≤ vi := by omega
    have h1 : vi < 256 := by omega
    clear hW hi hvi ht
    go_enter Tryz.func18, Tryz.ntmps18
    go_wp2_with fail
    refine HF.out.mono ?_
    rintro e w1 ⟨rfl, H⟩
    go_wp2
    go_end0
    exact ⟨rfl, H⟩

set_option maxRecDepth 10000 in
set_option maxHeartbeats 400000 in
theorem wNumP {base : Nat} {w : World} {po : Option Addr} {s : WS} (hW : WrP base w po s) (hi : s.Inv) (hbs : base ≤ w.heap.size) (v : Nat) (vi : Int) (hvi : vi = (v : Int)) (hv : v < 18446744073709551616) :
    Calls Tryz.prog 21 #[.pointer po, .int .u64 vi] w fun e w' => e = .returned (.tuple #[]) ∧ Hid (WrP base w' po (s.put (numB v) 0) ∧ TchP w w' po) := by
  by_cases ht : s.takes (numB v) 0
  · obtain ⟨p, rfl, hWp⟩ := wrP_some hW ht.1
    refine (wNum_goodx base 0 p v vi s.place s.most s.L w hvi hv (wrS_open hWp ht.1) (hi ht.1.1).1 ht.2.2 hbs (Nat.zero_le _) (Nat.zero_le _)).mono ?_
    rintro e w' ⟨rfl, h⟩
    exact ⟨rfl, wrP_good ht h⟩
  · have HT := hide (takes_noP hW hi (numB v) ((numB v).length : Nat) 0 ht (fun _ => rfl))
    have HNS : Hid (Calls Tryz.prog 49 #[.int .u64 vi] w fun e w' => e = .returned (.int .i64 ((numB v).length : Nat)) ∧ w' = w) := numSize_any v vi w hvi hv
    clear hW hi hvi ht
    go_enter Tryz.func21, Tryz.ntmps21
    go_wp2_with fail
    refine HNS.out.mono ?_
    rintro e w0 ⟨rfl, rfl⟩
    go_wp2_with fail
    refine HT.out.mono ?_
    rintro e w1 ⟨rfl, H⟩
    go_wp2
    go_end0
    exact ⟨rfl, H⟩

/-- Why a length may not be. -/
def cntY (n most : Int) : Int := if n < 0 ∨ most < n then 21 else 0
end Go.Proofs.YthacdhhmmmocpaaGreatDoor
namespace Go.Proofs.YthacdhhmmmocpaaGreatDoor
open Go.RowKit Crc

theorem Shows.sep {lim : Nat} {w w' : World} {row : Option Nat} {ao : Option Addr} {n cap : Nat} {B : List Nat} (h : Shows lim w ao n cap B) (hg : w.grownBy w' row) (hs : ∀ g, row = some g → ∀ b off, ao = some ⟨b, off, none⟩ → b ≠ g) : Shows lim w' ao n cap B := by
  obtain ⟨h1, h2, h3, h4, b, off, h5, h6, h7⟩ := h
  refine ⟨h1, h2, h3, h4, b, off, h5, h6, fun i hi => ?_⟩
  exact hg.cell (h7 i hi) (fun e => hs b e.symm b off (h5 (by omega)) rfl)

/-- Why a text may not be. -/
def txtY (S : ByteArray) (most : Int) : Int := if most < (S.size : Int) then 21 else if utf8Ok S = true then 0 else 27
set_option maxRecDepth 10000 in
set_option maxHeartbeats 400000 in
theorem textFault_any (S : ByteArray) (most : Int) (w : World) :
    Calls Tryz.prog 50 #[.string S, .int .i64 most] w fun e w' => e = .returned (.int .i64 (txtY S most)) ∧ Below w.heap.size w w' := by
  by_cases hl : most < (S.size : Int)
  · have HC : Hid (txtY S most = 21) := by unfold txtY; rw [if_pos hl]; rfl
    have d : decide (most < (S.size : Int)) = true := by simp [hl]
    clear hl
    go_enter Tryz.func50, Tryz.ntmps50
    go_wp2
    go_ret
    exact ⟨by rw [HC.out]; rfl, Below.refl _ _⟩
  · have HC : Hid (txtY S most = if utf8Ok S = true then 0 else 27) := by unfold txtY; rw [if_neg hl]; rfl
    have HT := hide (isText_any S w)
    have d : decide (most < (S.size : Int)) = false := by simp; omega
    have HB : Hid (∀ pos, Below w.heap.size w (w.iter S pos)) := fun pos => (Below.refl _ w).alloc (Nat.le_refl _) _
    clear hl
    generalize utf8Ok S = ok at *
    cases ok
    · go_enter Tryz.func50, Tryz.ntmps50
      go_wp2_with fail
      refine HT.out.mono ?_
      rintro e w1 ⟨rfl, pos, rfl⟩
      go_wp2
      go_ret
      exact ⟨by rw [HC.out]; rfl, HB.out pos⟩
    · go_enter Tryz.func50, Tryz.ntmps50
      go_wp2_with fail
      refine HT.out.mono ?_
      rintro e w1 ⟨rfl, pos, rfl⟩
      go_wp2
      go_ret
      exact ⟨by rw [HC.out]; rfl, HB.out pos⟩

theorem WrP.below {base : Nat} {w w' : World} {po : Option Addr} {s : WS} (h : WrP base w po s) (hb : Below w.heap.size w w') : WrP base w' po s := by
  rcases h with ⟨rfl, rfl⟩ | ⟨p, rfl, v, hbk, hO, hne⟩
  · exact .inl ⟨rfl, rfl⟩
  · exact .inr ⟨p, rfl, v, (hb.block p (block_lt hbk)).trans hbk, hO.quiet (below_none hb), hne⟩
theorem TchP.below {w w1 w2 : World} {po : Option Addr} (hb : Below w.heap.size w w1) (hp : ∀ p, po = some ⟨p, 0, none⟩ → p < w.heap.size) (h : TchP w1 w2 po) : TchP w w2 po := by
  rcases h with ⟨rfl, hg⟩ | ⟨p, rfl, h⟩
  · exact .inl ⟨rfl, grown_trans (below_none hb) hg⟩
  · exact .inr ⟨p, rfl, Tch.from hb (hp p rfl) h⟩
theorem WrP.plt {base : Nat} {w : World} {po : Option Addr} {s : WS} (h : WrP base w po s) : ∀ p, po = some ⟨p, 0, none⟩ → p < w.heap.size := by
  intro p hp
  rcases h with ⟨rfl, _⟩ | ⟨p', rfl, v, hbk, _⟩
  · cases hp
  · cases hp; exact block_lt hbk

set_option maxRecDepth 10000 in
set_option maxHeartbeats 800000 in
theorem wTextP {base : Nat} {w : World} {po : Option Addr} {s : WS} (hW : WrP base w po s) (hi : s.Inv) (hbs : base ≤ w.heap.size) (S : ByteArray) (cm : Int) (hS : S.size ≤ 140737488355328) :
    Calls Tryz.prog 20 #[.pointer po, .string S, .int .i64 cm] w fun e w' => e = .returned (.tuple #[]) ∧ Hid (WrP base w' po (s.put (numB S.size ++ strB S) (txtY S cm)) ∧ TchP w w' po) := by
  have HTF := hide (textFault_any S cm w)
  have HNS : Hid (Calls Tryz.prog 49 #[.int .u64 (S.size : Int)] w fun e w' => e = .returned (.int .i64 ((numB S.size).length : Nat)) ∧ w' = w) := numSize_any S.size _ w rfl (by omega)
  by_cases ht : s.takes (numB S.size ++ strB S) (txtY S cm)
  · obtain ⟨p, rfl, hWp⟩ := wrP_some hW ht.1
    have hy := ht.2.1
    have hc : ¬ cm < (S.size : Int) := by
      intro h
      unfold txtY at hy
      rw [if_pos h] at hy
      cases hy
    have hu : utf8Ok S = true := by
      unfold txtY at hy
      rw [if_neg hc] at hy
      by_cases h : utf8Ok S = true
      · exact h
      · rw [if_neg h] at hy; cases hy
    rw [hy] at ht ⊢
    have hfit := ht.2.2
    rw [List.length_append, strB_len] at hfit
    refine (wText_goodx base 0 p S cm s.place s.most s.L w hu (by omega) (wrS_open hWp ht.1) (hi ht.1.1).1 (by omega) hbs (Nat.zero_le _) (Nat.zero_le _)).mono ?_
    rintro e w' ⟨rfl, h⟩
    rw [List.append_assoc] at h
    exact ⟨rfl, wrP_good ht h⟩
  · have HT : Hid (∀ w1, Below w.heap.size w w1 → Calls Tryz.prog 48 #[.pointer po, .int .i64 (((numB S.size).length : Nat) + (S.size : Int)), .int .i64 (txtY S cm)] w1 fun e w' => e = .returned (.bool false) ∧ Hid (WrP base w' po (s.put (numB S.size ++ strB S) (txtY S cm)) ∧ TchP w w' po)) := by
      intro w1 hb
      refine (takes_noP (hW.below hb) hi (numB S.size ++ strB S) _ (txtY S cm) ht (fun _ => by rw [List.length_append, strB_len]; omega)).mono ?_
      rintro e w' ⟨rfl, h⟩
      exact ⟨rfl, h.out.1, TchP.below hb hW.plt h.out.2⟩
    have hnl : (numB S.size).length ≤ 10 := numTo_len 9 S.size
    generalize (numB S.size).length = ns at *
    clear hW hi ht
    go_enter Tryz.func20, Tryz.ntmps20
    go_wp2_with fail
    refine HNS.out.mono ?_
    rintro e w0 ⟨rfl, rfl⟩
    go_wp2_with fail
    refine HTF.out.mono ?_
    rintro e w1 ⟨rfl, hb1⟩
    have HT1 := hide (HT.out w1 hb1)
    clear hb1
    go_wp2_with fail
    refine HT1.out.mono ?_
    rintro e w2 ⟨rfl, H⟩
    go_wp2
    go_end0
    exact ⟨rfl, H⟩
end Go.Proofs.YthacdhhmmmocpaaGreatDoor
namespace Go.Proofs.YthacdhhmmmocpaaGreatDoor
open Go.RowKit Crc

set_option maxRecDepth 10000 in
set_option maxHeartbeats 800000 in
theorem refNumB (v0 : Nat) (vi : Int) (w : World) (hvi : vi = (v0 : Int)) (hv0 : v0 < 18446744073709551616) :
    Calls Tryz.prog 28 #[.int .u64 vi] w fun e w' => ∃ v', e = .returned v' ∧ Owns w.heap.size w' v' (numB v0) ∧ Below w.heap.size w w' := by
  obtain ⟨i0, hi, hz0, hz1, hz2⟩ := info_parts Tryz.info5
  subst hvi
  go_enter Tryz.func28, Tryz.ntmps28
  go_wp2
  go_loopw [0, 3] (fun i sl wr => ∃ v j : Nat, v < 18446744073709551616 ∧ j ≤ 10 ∧ i = .int .u64 v ∧ Hid (∃ L, Owns w.heap.size wr sl L ∧ L.length = j ∧ numB v0 = L ++ numB v ∧ v < 128 ^ (10 - j)) ∧ Below w.heap.size w wr) (fun i _ _ => (intOf i).toNat)
  case atStart => exact ⟨v0, 0, hv0, by omega, rfl, ⟨[], Owns.nil _ _, rfl, rfl, by omega⟩, Below.refl _ _⟩
  case round =>
    obtain ⟨v, j, hv, hj, rfl, HL, hnx⟩ := hrel
    have hsize := hnx.size
    obtain ⟨L, hO, hlj, hnb, hvp⟩ := HL.out
    have HO := hide hO
    have HHO : Hid (wr.ownsRow w.heap.size 5 1 u3 j (vals L)) := by
      show wr.ownsRow _ _ _ _ _ _
      have := hO.1; rw [hlj] at this; exact this
    have HLJ := hide hlj
    clear hO
    by_cases hb : v < 128
    · have HF : Hid (numB v0 = L ++ [v]) := by show _ = _; rw [hnb, numB_small v hb]
      have d : decide ((127 : Int) < (v : Int)) = false := by simp; omega
      have d' : decide (127 < v) = false := by simp; omega
      have hw8 : IntKind.u8.wrap (v : Int) = (v : Int) := by simp [IntKind.wrap, IntKind.bits, IntKind.signed]; omega
      clear HL hnb hlj hvp
      go_wp2_with (first
        | (at_builtin; refine wpList_append_own _ rfl (.tmp 15) (.tmp 18) 26 rfl w.heap.size 5 i0 (.int .u8 0) 1 1 Tryz.underlying26 hi hz0 hz1 hz2 rfl (by decide) u3 j (vals L) rfl (HHO.out.alloc _) ⟨wr.heap.size, 0, none⟩ 1 1 [.int .u8 (v : Int)] rfl rfl (by first | exact cell_one_new _ _ _ | (rw [show ((v : Int) % 256) = (v : Int) by omega]; exact cell_one_new _ _ _)) (Shade.one _ rfl) (by unfold maxLen; omega) (by omega) (by simp; omega) ?_; intro v' w1 hown1 hgrow1 _))
      go_ret
      refine ⟨v', rfl, ?_, (hnx.alloc (by omega) _).grown hgrow1 (by simp; omega) (fun j hj => (HHO.out.lt j hj).1)⟩
      rw [HF.out]
      exact HO.out.snoc (by omega) (by rw [HLJ.out]; omega) (by rw [HLJ.out]; exact hown1)
    · have hj9 : j < 10 := by
        rcases Nat.lt_or_ge j 10 with h | h
        · exact h
        · obtain rfl : j = 10 := by omega
          have h2 : v < 128 ^ 0 := hvp
          rw [Nat.pow_zero] at h2
          omega
      obtain ⟨x, hx⟩ : ∃ x, x = v % 128 := ⟨_, rfl⟩
      obtain ⟨y, hy⟩ : ∃ y, y = v / 128 := ⟨_, rfl⟩
      have hx128 : x < 128 := by omega
      have hxi : (v : Int) % 128 = (x : Int) := by omega
      have hyi : (v : Int) / 128 = (y : Int) := by omega
      have HF : Hid (Owns w.heap.size wr u3 L → ∀ w1 v', Owns w.heap.size w1 v' (L ++ [x + 128]) → ∃ L', Owns w.heap.size w1 v' L' ∧ L'.length = j + 1 ∧ numB v0 = L' ++ numB y ∧ y < 128 ^ (10 - (j + 1))) := by
        intro _ w1 v' h
        refine ⟨L ++ [x + 128], h, by simp [hlj], ?_, ?_⟩
        · rw [hnb, numB_big v hb hv, ← hx, ← hy, List.append_assoc]
          rfl
        · rw [show 10 - j = (10 - (j + 1)) + 1 by omega, Nat.pow_succ] at hvp
          rw [hy]
          exact Nat.div_lt_of_lt_mul (by rw [Nat.mul_comm]; exact hvp)
      have hylt : y < v := by omega
      have hy64 : y < 18446744073709551616 := by omega
      have d : decide ((127 : Int) < (v : Int)) = true := by simp; omega
      have d' : decide (127 < v) = true := by simp; omega
      have hw8 : IntKind.u8.wrap (x : Int) = (x : Int) := by simp [IntKind.wrap, IntKind.bits, IntKind.signed]; omega
      obtain ⟨z, hz⟩ : ∃ z, z = x + 128 := ⟨_, rfl⟩
      have hxe : ((x : Int) + 128) = (z : Int) := by omega
      have hx256 : (z : Int) < 256 := by omega
      have HZ := hide hz
      clear HL hnb hlj hvp hx hy hb hz
      go_wp2_with (first
        | (at_builtin; refine wpList_append_own _ rfl (.tmp 6) (.tmp 11) 26 rfl w.heap.size 5 i0 (.int .u8 0) 1 1 Tryz.underlying26 hi hz0 hz1 hz2 rfl (by decide) u3 j (vals L) rfl (HHO.out.alloc _) ⟨wr.heap.size, 0, none⟩ 1 1 [.int .u8 (z : Int)] rfl rfl (cell_one_new _ _ _) (Shade.one _ rfl) (by unfold maxLen; omega) (by omega) (by simp; omega) ?_; intro v' w1 hown1 hgrow1 _))
      go_roundw
      case rel =>
        refine ⟨y, j + 1, hy64, by omega, rfl, HF.out HO.out _ _ ?_, (hnx.alloc (by omega) _).grown hgrow1 (by simp; omega) (fun j hj => (HHO.out.lt j hj).1)⟩
        rw [← HZ.out]
        exact HO.out.snoc (by omega) (by rw [HLJ.out]; omega) (by rw [HLJ.out]; exact hown1)
      case measure => simp [intOf]; omega

theorem ownx_far {base : Nat} {w : World} {v : Value} {B : List Nat} (h : Owns base w v B) : ∀ g, v.ownBlock = some g → base ≤ g := by
  intro g hg
  obtain ⟨a0, c0, rfl, _, (⟨rfl, _⟩ | ⟨g', rfl, hb, _⟩)⟩ := h.form
  · cases hg
  · have : g' = g := by simpa [Value.ownBlock] using hg
    omega
end Go.Proofs.YthacdhhmmmocpaaGreatDoor
namespace Go.Proofs.YthacdhhmmmocpaaGreatDoor
open Go.RowKit Crc

end Go.Proofs.YthacdhhmmmocpaaGreatDoor
namespace Go.Proofs.YthacdhhmmmocpaaGreatDoor
open Go.RowKit Crc

theorem bytesW_below (w : World) (e : TypeId) (s : ByteArray) : Below w.heap.size w (Go.Lib.bytesWorld w e s) := by
  refine ⟨rfl, rfl, rfl, ?_, fun j hj => Go.Lib.bytesWorld_at_old w e s j hj⟩
  rw [Go.Lib.bytesWorld_size]; omega

theorem strB_getD (S : ByteArray) (i : Nat) (hi : i < S.size) : (strB S).getD i 0 = (S.data.toList.getD i 0).toNat := by
  have h : i < S.data.toList.length := by simpa using hi
  simp [strB, List.getD, List.getElem?_eq_getElem h]
theorem bytesW_shows (w : World) (S : ByteArray) (hS : S.size ≤ 140737488355328) : Shows (w.heap.size + 1) (Go.Lib.bytesWorld w 5 S) (some ⟨w.heap.size, 0, none⟩) S.size (grownCap w S.size 0 5) (strB S) := by
  refine ⟨(strB_len S).symm, ?_, hS, strB_lt S, w.heap.size, 0, fun _ => rfl, by omega, fun i hi => ?_⟩
  · have := grownCap_ge w S.size 0 5; omega
  · rw [Nat.zero_add, Go.Lib.bytesWorld_cell w 5 S i hi, strB_getD S i hi]

end Go.Proofs.YthacdhhmmmocpaaGreatDoor
namespace Go.Proofs.YthacdhhmmmocpaaGreatDoor
open Go.RowKit Crc

theorem below_drewX {l : Nat} {w w1 : World} (h : Below l w w1) : Below l w w1.drew := ⟨h.os, h.tape, h.output, h.size, h.block⟩
/-- What Bytes shows and tells. -/
def WS.shown (s : WS) : List Nat := if s.sound then s.L else []
def WS.errC (s : WS) : Int := if s.made = true then s.why else 3
def WS.errA (s : WS) : Int := if s.made = true then s.place else 0
theorem WS.errC_not {s : WS} (hs : ¬ s.sound) : s.errC ≠ 0 := by
  unfold WS.errC
  split
  · rename_i h; exact fun h2 => hs ⟨h, h2⟩
  · decide
theorem WS.errC_sound {s : WS} (hs : s.sound) : s.errC = 0 := by unfold WS.errC; rw [if_pos hs.1]; exact hs.2

set_option maxRecDepth 10000 in
set_option maxHeartbeats 400000 in
theorem wBytes_nil (w : World) :
    Calls Tryz.prog 22 #[.pointer none] w fun e w' => ∃ x, e = .returned (.tuple #[.slice none 0 0, x]) ∧ ErrV w' x 3 0 ∧ Below w.heap.size w w' := by
  go_enter Tryz.func22, Tryz.ntmps22
  go_wp2_with fail
  refine (refusal_any 0 3 w).mono ?_
  rintro e w1 ⟨v, rfl, hv, hf, hb⟩
  have HF := hide (And.intro hf hb)
  clear hv hf hb
  go_wp2
  go_ret2
  exact ⟨v, rfl, .inr ⟨HF.out.1, by decide⟩, HF.out.2⟩

set_option maxRecDepth 10000 in
set_option maxHeartbeats 400000 in
theorem wBytes_not (base p : Nat) (s : WS) (w : World) (hW : WrS base w p s) (hs : ¬ s.sound) (hz : s.sound → s.place = 0) :
    Calls Tryz.prog 22 #[.pointer (some ⟨p, 0, none⟩)] w fun e w' => ∃ x, e = .returned (.tuple #[.slice none 0 0, x]) ∧ ErrV w' x s.errC s.errA ∧ Below w.heap.size w w' := by
  obtain ⟨u, hb, hO, hne⟩ := hW
  have c0 := block_cell hb 0
  have c1 := block_cell hb 1
  have c2 := block_cell hb 2
  simp at c0 c1 c2
  have HT := hide (toldF_any p s.made s.place s.why w c0 c1 c2 (fun h1 h2 => hz ⟨h1, h2⟩))
  have HE : Hid (s.errC = (if s.made = true then s.why else 3) ∧ s.errA = (if s.made = true then s.place else 0)) := ⟨rfl, rfl⟩
  rw [← HE.out.1, ← HE.out.2] at HT
  have HN := hide (WS.errC_not hs)
  generalize s.errC = ec at *
  generalize s.errA = ea at *
  clear hb hO hne c0 c1 c2 hz HE hs
  go_enter Tryz.func22, Tryz.ntmps22
  go_wp2_with fail
  refine HT.out.mono ?_
  rintro e w1 ⟨v, rfl, hv, hb1⟩
  obtain ⟨g, rfl⟩ := errV_some hv HN.out
  have HF := hide (And.intro hv hb1)
  clear hv hb1
  go_wp2
  go_ret2
  exact ⟨_, rfl, HF.out.1, HF.out.2⟩

theorem wBytesP {base : Nat} {w : World} {po : Option Addr} {s : WS} (hW : WrP base w po s) (hz : s.sound → s.place = 0) :
    Calls Tryz.prog 22 #[.pointer po] w fun e w' => ∃ v x, e = .returned (.tuple #[v, x]) ∧ Hid (Owns w.heap.size w' v s.shown ∧ ErrV w' x s.errC s.errA ∧ Below w.heap.size w w') := by
  by_cases hs : s.sound
  · obtain ⟨p, rfl, hWp⟩ := wrP_some hW hs
    refine (wBytes_good base p s.place s.most s.L w (wrS_open hWp hs)).mono ?_
    rintro e w' ⟨v, rfl, h1, h2⟩
    refine ⟨v, _, rfl, ?_, .inl ⟨rfl, WS.errC_sound hs, ?_⟩, h2⟩
    · unfold WS.shown; rw [if_pos hs]; exact h1
    · unfold WS.errA; rw [if_pos hs.1]; exact hz hs
  · have hsh : s.shown = [] := by unfold WS.shown; rw [if_neg hs]
    rw [hsh]
    rcases hW with ⟨rfl, rfl⟩ | ⟨p, rfl, hW⟩
    · refine (wBytes_nil w).mono ?_
      rintro e w' ⟨x, rfl, h1, h2⟩
      exact ⟨_, x, rfl, Owns.nil _ _, h1, h2⟩
    · refine (wBytes_not base p s w hW hs hz).mono ?_
      rintro e w' ⟨x, rfl, h1, h2⟩
      exact ⟨_, x, rfl, Owns.nil _ _, h1, h2⟩

end Go.Proofs.YthacdhhmmmocpaaGreatDoor
