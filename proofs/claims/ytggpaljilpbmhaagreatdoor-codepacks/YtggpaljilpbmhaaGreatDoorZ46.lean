import Derived.Test.YtggpaljilpbmhaaGreatDoorZ04
import Derived.Test.YtggpaljilpbmhaaGreatDoorZ19
import Derived.Lib.AppendStr
import Derived.Laws.RangeAny
import Derived.Laws.BytesString
import Derived.Test.YtggpaljilpbmhaaGreatDoorZ20
import Derived.Test.YtggpaljilpbmhaaGreatDoorZ21
import Derived.Deep.RegionHeld
namespace Go.Proofs.YtggpaljilpbmhaaGreatDoor
open Go.RowKit Crc

/-- A text's bytes. -/
def strB (s : ByteArray) : List Nat := s.data.toList.map (·.toNat)
def Ascii (s : ByteArray) : Prop := ∀ i (h : i < s.size), (s[i]'h).toNat < 128

end Go.Proofs.YtggpaljilpbmhaaGreatDoor
namespace Go.Proofs.YtggpaljilpbmhaaGreatDoor
open Go.RowKit Crc
variable {K : Kd}

theorem Wr.alloc {base : Nat} {w : World} {p : Nat} {made : Bool} {place why most : Int} {L : List Nat} (h : Wr K base w p made place why most L) (o : Obj) : Wr K base (w.alloc o) p made place why most L := by
 obtain ⟨v, hb, hO, hne⟩ := h
 exact ⟨v, (Below.heap_alloc w o p (block_lt hb)).trans hb, hO.quiet (World.grownBy_alloc w o none), hne⟩

end Go.Proofs.YtggpaljilpbmhaaGreatDoor
namespace Go.Proofs.YtggpaljilpbmhaaGreatDoor
open Go.RowKit Crc

end Go.Proofs.YtggpaljilpbmhaaGreatDoor
namespace Go.Proofs.YtggpaljilpbmhaaGreatDoor
open Go.RowKit Crc

set_option maxRecDepth 10000 in
set_option maxHeartbeats 400000 in
theorem told_sound (p : Nat) (w : World) (h0 : w.cell? ⟨p, 0, none⟩ = some (.bool true)) (h2 : w.cell? ⟨p, 2, none⟩ = some (.int .i64 0)) :
  Calls Tryz.prog 86 #[.pointer (some ⟨p, 0, none⟩)] w fun e w' => e = .returned .nilIface ∧ w' = w := by
 go_enter Tryz.func86, Tryz.ntmps86
 go_wp2
 go_ret
 exact ⟨rfl, rfl⟩

set_option maxRecDepth 10000 in
set_option maxHeartbeats 400000 in
theorem wBytes_good {K : Kd} (base p : Nat) (place most : Int) (L : List Nat) (w : World) (hW : Wr K base w p true place 0 most L) :
  Calls Tryz.prog 46 #[.pointer (some ⟨p, 0, none⟩)] w fun e w' => ∃ v, e = .returned (.tuple #[v, .nilIface]) ∧ Owns w.heap.size w' v L ∧ Below w.heap.size w w' := by
 obtain ⟨u, hb, hO, hne⟩ := hW
 obtain ⟨ao, cap, rfl, hS, _⟩ := hO.form
 have c0 := block_cell hb 0
 have c2 := block_cell hb 2
 have c4 := block_cell hb 4
 simp at c0 c2 c4
 have HTS := hide (told_sound p w c0 c2)
 have HCP := hide (copied_sh hS (Nat.le_refl _))
 have HOO := hide hO.2
 clear hb hO hne hS c0 c2
 generalize L.length = n at c4 HCP
 go_enter Tryz.func46, Tryz.ntmps46
 go_wp2_with fail
 refine HTS.out.mono ?_
 rintro e w1 ⟨rfl, rfl⟩
 go_wp2_with fail
 refine HCP.out.mono ?_
 rintro e w2 ⟨v, rfl, _, _, hfr⟩
 go_wp2
 go_ret2
 exact ⟨v, rfl, ⟨hfr.1, HOO.out⟩, hfr.2⟩

set_option maxRecDepth 10000 in
set_option maxHeartbeats 400000 in
theorem readerAt_any (ao : Option Addr) (n cap pos : Nat) (w : World) :
  Calls Tryz.prog 136 #[.slice ao n cap, .int .i64 (pos : Int)] w fun e w' => e = .returned (.agg #[.bool true, .int .i64 0, .int .i64 0, .slice ao n cap, .int .i64 (pos : Int)]) ∧ Below w.heap.size w w' := by
 go_enter Tryz.func136, Tryz.ntmps136
 go_wp2
 refine bodyPost_ret (v := .agg #[.bool true, .int .i64 0, .int .i64 0, .slice ao n cap, .int .i64 (pos : Int)]) (by simp [results, Tryz.results136, go_sem]) rfl ⟨rfl, (Below.refl _ w).alloc (Nat.le_refl _) _⟩

set_option maxRecDepth 10000 in
set_option maxHeartbeats 400000 in
theorem newReader_any {lim : Nat} {w : World} {ao : Option Addr} {n cap : Nat} {B : List Nat} (h : Shows lim w ao n cap B) (hlw : lim ≤ w.heap.size) :
  Calls Tryz.prog 100 #[.slice ao n cap] w fun e w' => ∃ p lim', e = .returned (.pointer (some ⟨p, 0, none⟩)) ∧ w.heap.size ≤ p ∧ w.heap.size ≤ lim' ∧ RdS lim' w' p ⟨true, 0, 0, B, 0, KR⟩ ∧ Below w.heap.size w w' := by
 have HCP := hide (copied_sh h hlw)
 have HB := hide h.2.2.2.1
 have HN := hide h.1
 have HN2 := hide h.2.2.1
 clear h
 go_enter Tryz.func100, Tryz.ntmps100
 go_wp2_with fail
 refine HCP.out.mono ?_
 rintro e w1 ⟨v, rfl, _, _, hfr⟩
 have HO1 : Hid (Owns w.heap.size w1 v B) := ⟨hfr.1, HB.out, by rw [← HN.out]; exact HN2.out⟩
 have HB1 := hide hfr.2
 clear hfr
 obtain ⟨a1, c1, rfl, hs1, _⟩ := HO1.out.form
 have HS1 := hide hs1
 have HBL : Hid (B.length = n) := HN.out.symm
 clear hs1
 generalize hbl : B.length = m at *
 go_wp2_with fail
 refine (readerAt_any a1 m c1 0 w1).mono ?_
 rintro e w2 ⟨rfl, hb2⟩
 have HB2 := hide hb2
 clear hb2
 go_wp2
 go_ret
 refine ⟨w2.heap.size, w1.heap.size, rfl, Nat.le_trans HB1.out.size HB2.out.size, HB1.out.size, ⟨a1, c1, ?_, ?_, Nat.zero_le _, HB2.out.size⟩, ?_⟩
 ·rw [hbl]
  exact heap_alloc_new w2 _
 ·rw [hbl]
  exact (HS1.out.kept (below_none HB2.out) (fun g hg => by cases hg)).kept (World.grownBy_alloc w2 _ none) (fun g hg => by cases hg)
 ·exact (HB1.out.trans (HB2.out.mono HB1.out.size)).alloc (Nat.le_trans HB1.out.size HB2.out.size) _

set_option maxRecDepth 10000 in
set_option maxHeartbeats 400000 in
theorem rAt_any (lim p : Nat) (s : RS) (w : World) (hR : RdS lim w p s) :
  Calls Tryz.prog 142 #[.pointer (some ⟨p, 0, none⟩)] w fun e w' => e = .returned (.int .i64 (s.pos : Nat)) ∧ w' = w := by
 obtain ⟨ao, cap, hb, hS, hp, hl⟩ := hR
 have c4 := block_cell hb 4
 simp at c4
 clear hb hS hp hl
 go_enter Tryz.func142, Tryz.ntmps142
 go_wp2
 go_ret
 exact ⟨rfl, rfl⟩

set_option maxRecDepth 10000 in
set_option maxHeartbeats 400000 in
theorem rLeft_any (lim p : Nat) (s : RS) (w : World) (hR : RdS lim w p s) :
  Calls Tryz.prog 144 #[.pointer (some ⟨p, 0, none⟩)] w fun e w' => e = .returned (.int .i64 ((s.B.length - s.pos : Nat) : Int)) ∧ ∃ q, w' = w.drewN q := by
 obtain ⟨ao, cap, hb, hS, hp, hl⟩ := hR
 have c3 := block_cell hb 3
 have c4 := block_cell hb 4
 simp at c3 c4
 have hn := hS.2.2.1
 clear hb hS hl
 have HE : Hid ((s.B.length : Int) - (s.pos : Int) = ((s.B.length - s.pos : Nat) : Int)) := by show _ = _; omega
 generalize s.B.length = n at *
 generalize s.pos = pos at *
 have h0 : (pos : Int) ≤ (n : Int) := by omega
 go_enter Tryz.func144, Tryz.ntmps144
 go_wp2_with fail
 go_quiet (fail)
 go_wp2
 go_ret
 exact ⟨by rw [← HE.out]; rfl, _, rfl⟩

end Go.Proofs.YtggpaljilpbmhaaGreatDoor
namespace Go.Proofs.YtggpaljilpbmhaaGreatDoor
open Go.RowKit Crc

theorem numGo_numTo : ∀ (f v i n : Nat) (R : List Nat), f + i = 9 → v * 2 ^ (7 * i) < 18446744073709551616 → (0 < v ∨ i = 0) → numGo (numTo f v ++ R) i n = (n + v * 2 ^ (7 * i), i + (numTo f v).length, 0)
 | 0, v, i, n, R, hf, hv, h0 => by
  obtain rfl : i = 9 := by omega
  have h1 : v = 1 := by omega
  subst h1
  simp [numTo, numGo]
 | f + 1, v, i, n, R, hf, hv, h0 => by
  have hi9 : ¬ i = 9 := by omega
  rw [numTo]
  by_cases hs : v < 128
  ·rw [if_pos hs]
   simp only [List.cons_append, List.nil_append, numGo, List.length_cons, List.length_nil]
   rw [if_neg (by omega), if_neg (by omega), if_neg (by omega), Nat.mod_eq_of_lt hs]
  ·rw [if_neg hs]
   simp only [List.cons_append, numGo, List.length_cons]
   rw [if_neg (by omega), if_pos (by omega)]
   have e : v % 128 * 2 ^ (7 * i) + v / 128 * 2 ^ (7 * (i + 1)) = v * 2 ^ (7 * i) := by
    rw [show 7 * (i + 1) = 7 + 7 * i by omega, Nat.pow_add, ← Nat.mul_assoc, ← Nat.add_mul]
    congr 1
    have : (2 : Nat) ^ 7 = 128 := rfl
    rw [this]
    omega
   have hm : (v % 128 + 128) % 128 = v % 128 := by omega
   rw [hm, numGo_numTo f (v / 128) (i + 1) _ R (by omega) (by omega) (.inl (by omega))]
   rw [Nat.add_assoc n, e]
   congr 2
   omega
theorem numAt_numB (v : Nat) (R : List Nat) (hv : v < 18446744073709551616) : numAt (numB v ++ R) = (v, (numB v).length, 0) := by
 unfold numAt numB
 rw [numGo_numTo 9 v 0 0 R rfl (by simpa using hv) (.inr rfl)]
 simp
theorem countAt_numB (v : Nat) (R : List Nat) (most : Int) (hv : v < 18446744073709551616) (hm : (v : Int) ≤ most) : countAt (numB v ++ R) most = (v, (numB v).length, 0) := by
 unfold countAt
 rw [numAt_numB v R hv]
 rw [if_neg (by simp), if_neg (by simp; omega)]
end Go.Proofs.YtggpaljilpbmhaaGreatDoor
namespace Go.Proofs.YtggpaljilpbmhaaGreatDoor
open Go.RowKit Crc

/-- What Err and End tell: the number and the place. -/
def RS.errC (s : RS) : Int := if s.made = true then s.why else 3
def RS.errA (s : RS) : Int := if s.made = true then s.place else 0
def RS.endC (s : RS) : Int := if s.sound then (if s.pos < s.B.length then 28 else 0) else s.errC
def RS.endA (s : RS) : Int := if s.sound then (if s.pos < s.B.length then (s.pos : Int) else 0) else s.errA

end Go.Proofs.YtggpaljilpbmhaaGreatDoor
namespace Go.Proofs.YtggpaljilpbmhaaGreatDoor
open Go.RowKit Crc

/-! A nil reader reads nothing. -/
set_option maxRecDepth 10000 in
theorem rest_nil (w : World) :
  Calls Tryz.prog 168 #[.pointer none] w fun e w' => e = .returned (.slice none 0 0) ∧ w' = w := by
 go_enter Tryz.func168, Tryz.ntmps168
 go_wp2
 go_ret
 exact ⟨rfl, rfl⟩
set_option maxRecDepth 10000 in
theorem step_nil (zi why : Int) (w : World) :
  Calls Tryz.prog 169 #[.pointer none, .int .i64 zi, .int .i64 why] w fun e w' => e = .returned (.tuple #[]) ∧ w' = w := by
 go_enter Tryz.func169, Tryz.ntmps169
 go_wp2
 go_end0
 exact ⟨rfl, rfl⟩
set_option maxRecDepth 10000 in
set_option maxHeartbeats 400000 in
theorem fixed_nil (k : Nat) (ki : Int) (w : World) (hki : ki = (k : Int)) (hk : 0 < k) (hk8 : k ≤ 8) :
  Calls Tryz.prog 166 #[.pointer none, .int .i64 ki] w fun e w' => e = .returned (.int .u64 0) ∧ w.grownBy w' none := by
 subst hki
 have HBA := hide (bytesAhead_any (lim := 0) (w := w) (ao := none) (n := 0) (cap := 0) (B := []) k hk hk8 shows_none)
 go_enter Tryz.func166, Tryz.ntmps166
 go_wp2_with fail
 refine (rest_nil w).mono ?_
 rintro e w1 ⟨rfl, rfl⟩
 go_wp2_with fail
 refine HBA.out.mono ?_
 rintro e w2 ⟨a2, n2, c2, rfl, hs2, hn2, rfl⟩
 have hz : n2 = 0 := by
  have h1 := hs2.1
  rw [if_pos hk] at h1
  exact h1
 subst hz
 have HS2 := hide hs2
 clear hs2
 go_wp2_with fail
 refine (step_nil _ _ _).mono ?_
 rintro e w3 ⟨rfl, rfl⟩
 go_wp2_with fail
 refine (high_sh (B := []) (lim := 0) (cap := c2) (ao := a2) shows_none (by omega)).mono ?_
 rintro e w4 ⟨rfl, rfl⟩
 go_wp2
 go_ret
 exact ⟨rfl, ⟨rfl, rfl, rfl, Nat.le_refl _, fun _ _ _ => rfl⟩⟩

set_option maxRecDepth 10000 in
theorem rU8_nil (w : World) :
  Calls Tryz.prog 141 #[.pointer none] w fun e w' => e = .returned (.int .u8 0) ∧ w.grownBy w' none := by
 have HF := hide (fixed_nil 1 1 w rfl (by omega) (by omega))
 go_enter Tryz.func141, Tryz.ntmps141
 go_wp2_with fail
 refine HF.out.mono ?_
 rintro e w1 ⟨rfl, hg⟩
 go_wp2
 go_ret
 exact ⟨rfl, hg⟩

set_option maxRecDepth 10000 in
theorem rU16_nil (w : World) :
  Calls Tryz.prog 137 #[.pointer none] w fun e w' => e = .returned (.int .u16 0) ∧ w.grownBy w' none := by
 have HF := hide (fixed_nil 2 2 w rfl (by omega) (by omega))
 go_enter Tryz.func137, Tryz.ntmps137
 go_wp2_with fail
 refine HF.out.mono ?_
 rintro e w1 ⟨rfl, hg⟩
 go_wp2
 go_ret
 exact ⟨rfl, hg⟩

set_option maxRecDepth 10000 in
set_option maxHeartbeats 400000 in
theorem rNum_nil (w : World) :
  Calls Tryz.prog 140 #[.pointer none] w fun e w' => e = .returned (.int .u64 0) ∧ w.grownBy w' none := by
 have HA : Hid (Calls Tryz.prog 170 #[.slice none 0 0] w fun e w' => e = .returned (.tuple #[.int .u64 0, .int .i64 0, .int .i64 20]) ∧ w' = w) := numAhead_any (lim := 0) (B := []) shows_none
 go_enter Tryz.func140, Tryz.ntmps140
 go_wp2_with fail
 refine (rest_nil w).mono ?_
 rintro e w1 ⟨rfl, rfl⟩
 go_wp2_with fail
 refine HA.out.mono ?_
 rintro e w2 ⟨rfl, rfl⟩
 go_wp2_with fail
 refine (step_nil _ _ _).mono ?_
 rintro e w3 ⟨rfl, rfl⟩
 go_wp2
 go_ret
 exact ⟨rfl, ⟨rfl, rfl, rfl, Nat.le_refl _, fun _ _ _ => rfl⟩⟩

set_option maxRecDepth 10000 in
set_option maxHeartbeats 400000 in
theorem rCount_nil (most : Int) (w : World) (hm1 : -9223372036854775808 ≤ most) (hm2 : most < 9223372036854775808) :
  Calls Tryz.prog 139 #[.pointer none, .int .i64 most] w fun e w' => e = .returned (.int .i64 0) ∧ w.grownBy w' none := by
 have HA : Hid (Calls Tryz.prog 167 #[.slice none 0 0, .int .i64 most] w fun e w' => e = .returned (.tuple #[.int .i64 0, .int .i64 0, .int .i64 20]) ∧ ∃ q, w' = w.drewN q) := countAhead_any (lim := 0) (B := []) shows_none most hm1 hm2
 go_enter Tryz.func139, Tryz.ntmps139
 go_wp2_with fail
 refine (rest_nil w).mono ?_
 rintro e w1 ⟨rfl, rfl⟩
 go_wp2_with fail
 refine HA.out.mono ?_
 rintro e w2 ⟨rfl, q, rfl⟩
 go_wp2_with fail
 refine (step_nil _ _ _).mono ?_
 rintro e w3 ⟨rfl, rfl⟩
 go_wp2
 go_ret
 exact ⟨rfl, ⟨rfl, rfl, rfl, Nat.le_refl _, fun _ _ _ => rfl⟩⟩

set_option maxRecDepth 10000 in
theorem rAt_nil (w : World) :
  Calls Tryz.prog 142 #[.pointer none] w fun e w' => e = .returned (.int .i64 0) ∧ w' = w := by
 go_enter Tryz.func142, Tryz.ntmps142
 go_wp2
 go_ret
 exact ⟨rfl, rfl⟩
theorem cell_lt {w : World} {b o : Nat} {v : Value} (h : w.cell? ⟨b, o, none⟩ = some v) : b < w.heap.size := World.block_lt_of_cell? w _ h
/-- What an error says: no fault, or a fault of this layer. -/
def ErrV (w : World) (v : Value) (c a : Int) : Prop := (v = .nilIface ∧ c = 0 ∧ a = 0) ∨ (IsFault w v a c ∧ c ≠ 0)
set_option maxRecDepth 10000 in
theorem rErr_nil (w : World) :
  Calls Tryz.prog 143 #[.pointer none] w fun e w' => ∃ v, e = .returned v ∧ ErrV w' v 3 0 ∧ Below w.heap.size w w' := by
 go_enter Tryz.func143, Tryz.ntmps143
 go_wp2_with fail
 refine (refusal_any 0 3 w).mono ?_
 rintro e w1 ⟨v, rfl, hv, hf, hb⟩
 have HF := hide (And.intro hf hb)
 clear hv hf hb
 go_wp2
 go_ret
 exact ⟨v, rfl, .inr ⟨HF.out.1, by decide⟩, HF.out.2⟩

set_option maxRecDepth 10000 in
set_option maxHeartbeats 400000 in
theorem toldF_any (p : Nat) (made : Bool) (place why : Int) (w : World) (h0 : w.cell? ⟨p, 0, none⟩ = some (.bool made)) (h1 : w.cell? ⟨p, 1, none⟩ = some (.int .i64 place)) (h2 : w.cell? ⟨p, 2, none⟩ = some (.int .i64 why)) (hz : made = true → why = 0 → place = 0) :
  Calls Tryz.prog 86 #[.pointer (some ⟨p, 0, none⟩)] w fun e w' => ∃ v, e = .returned v ∧ ErrV w' v (if made = true then why else 3) (if made = true then place else 0) ∧ Below w.heap.size w w' := by
 by_cases hm : made = true
 ·subst hm
  simp only [if_true]
  by_cases hw : why = 0
  ·subst hw
   obtain rfl := hz rfl rfl
   refine (told_sound p w h0 h2).mono ?_
   rintro e w' ⟨rfl, rfl⟩
   exact ⟨_, rfl, .inl ⟨rfl, rfl, rfl⟩, Below.refl _ _⟩
  ·have hwb : (why == 0) = false := by simp [hw]
   have hwb' : (why != 0) = true := by simp [hw]
   have HW := hide hw
   have HRF : Hid (∀ q, Calls Tryz.prog 85 #[.int .i64 place, .int .i64 why] (w.drewN q) fun e w' => ∃ v, e = .returned v ∧ w'.cell? ⟨p, 1, none⟩ = some (.int .i64 place) ∧ w'.cell? ⟨p, 2, none⟩ = some (.int .i64 why) ∧ Hid (IsFault w' v place why ∧ Below w.heap.size w w')) := by
    intro q
    refine (refusal_any place why (w.drewN q)).mono ?_
    rintro e w1 ⟨v, rfl, hv, hf, hb⟩
    exact ⟨v, rfl, (hb.cell (p := ⟨p, 1, none⟩) (cell_lt h1)).trans h1, (hb.cell (p := ⟨p, 2, none⟩) (cell_lt h2)).trans h2, hf, ⟨hb.os, hb.tape, hb.output, hb.size, hb.block⟩⟩
   clear hz hw
   go_enter Tryz.func86, Tryz.ntmps86
   go_wp2_with fail
   go_region_held (fun w' => w'.cell? ⟨p, 1, none⟩ = some (.int .i64 place) ∧ w'.cell? ⟨p, 2, none⟩ = some (.int .i64 why)) (go_keep)
    ((go_at_call 85; refine (HRF.out _).mono ?_; rintro e w1 ⟨v, rfl, hx1, hx2, HF⟩))
   all_goals go_wp2
   all_goals go_ret
   all_goals exact ⟨v, rfl, .inr ⟨HF.out.1, HW.out⟩, HF.out.2⟩
 ·obtain rfl : made = false := by simpa using hm
  simp only [Bool.false_eq_true, if_false]
  clear hz hm
  go_enter Tryz.func86, Tryz.ntmps86
  go_wp2_with fail
  refine (refusal_any 0 3 w).mono ?_
  rintro e w1 ⟨v, rfl, hv, hf, hb⟩
  have HF := hide (And.intro hf hb)
  clear hv hf hb
  go_wp2
  go_ret
  exact ⟨v, rfl, .inr ⟨HF.out.1, by decide⟩, HF.out.2⟩

/-! The program's reader, nil or not. -/
def RS0 : RS := ⟨false, 0, 0, [], 0, KR⟩
def RdP (lim : Nat) (w : World) (po : Option Addr) (s : RS) : Prop := (po = none ∧ s = RS0) ∨ ∃ p, po = some ⟨p, 0, none⟩ ∧ RdS lim w p s
def rowP (po : Option Addr) : Option Nat := po.map (·.block)
theorem RS0_not : ¬ RS0.sound := by intro h; cases h.1
theorem RdP.kept {lim : Nat} {w w' : World} {po : Option Addr} {s : RS} {row : Option Nat} (h : RdP lim w po s) (hg : w.grownBy w' row) (hr : ∀ g, row = some g → lim ≤ g ∧ rowP po ≠ some g) : RdP lim w' po s := by
 rcases h with ⟨rfl, rfl⟩ | ⟨p, rfl, h⟩
 ·exact .inl ⟨rfl, rfl⟩
 ·exact .inr ⟨p, rfl, h.kept hg (fun g e => ⟨(hr g e).1, fun e2 => (hr g e).2 (by rw [e2]; rfl)⟩)⟩
set_option maxRecDepth 10000 in
set_option maxHeartbeats 400000 in
theorem rErrP {lim : Nat} {w : World} {po : Option Addr} {s : RS} (h : RdP lim w po s) (hz : s.sound → s.place = 0) :
  Calls Tryz.prog 143 #[.pointer po] w fun e w' => ∃ v, e = .returned v ∧ ErrV w' v s.errC s.errA ∧ Below w.heap.size w w' := by
 rcases h with ⟨rfl, rfl⟩ | ⟨p, rfl, ao, cap, hb, -⟩
 ·exact rErr_nil w
 ·have c0 := block_cell hb 0
  have c1 := block_cell hb 1
  have c2 := block_cell hb 2
  simp at c0 c1 c2
  have HT := hide (toldF_any p s.made s.place s.why w c0 c1 c2 (fun h1 h2 => hz ⟨h1, h2⟩))
  have HE : Hid (s.errC = (if s.made = true then s.why else 3) ∧ s.errA = (if s.made = true then s.place else 0)) := ⟨rfl, rfl⟩
  rw [← HE.out.1, ← HE.out.2] at HT
  generalize s.errC = ec at *
  generalize s.errA = ea at *
  clear hb c0 c1 c2 hz HE
  go_enter Tryz.func143, Tryz.ntmps143
  go_wp2_with fail
  refine HT.out.mono ?_
  rintro e w1 ⟨v, rfl, hv, hb1⟩
  go_wp2
  go_ret
  exact ⟨v, rfl, hv, hb1⟩

theorem errV_none {w : World} {v : Value} {a : Int} (h : ErrV w v 0 a) : v = .nilIface := by
 rcases h with ⟨h, _⟩ | ⟨_, h⟩
 ·exact h
 ·exact absurd rfl h
theorem errV_some {w : World} {v : Value} {c a : Int} (h : ErrV w v c a) (hc : c ≠ 0) : ∃ g, v = .iface 74 (.pointer (some ⟨g, 0, none⟩)) := by
 rcases h with ⟨_, h, _⟩ | ⟨⟨g, h, _⟩, _⟩
 ·exact absurd h hc
 ·exact ⟨g, h⟩
theorem RS.errC_not {s : RS} (hs : ¬ s.sound) : s.errC ≠ 0 := by
 unfold RS.errC
 split
 ·rename_i h; exact fun h2 => hs ⟨h, h2⟩
 ·decide
theorem RS.errC_sound {s : RS} (hs : s.sound) : s.errC = 0 := by unfold RS.errC; rw [if_pos hs.1]; exact hs.2

set_option maxRecDepth 10000 in
set_option maxHeartbeats 800000 in
theorem rEndP {lim : Nat} {w : World} {po : Option Addr} {s : RS} (h : RdP lim w po s) (hz : s.sound → s.place = 0) :
  Calls Tryz.prog 107 #[.pointer po] w fun e w' => ∃ v, e = .returned v ∧ ErrV w' v s.endC s.endA ∧ Below w.heap.size w w' := by
 have HER := hide (rErrP h hz)
 by_cases hs : s.sound
 ·rcases h with ⟨rfl, rfl⟩ | ⟨p, rfl, hR⟩
  ·exact absurd hs RS0_not
  ·have HLF := hide (fun w1 (hg : w.grownBy w1 none) => rLeft_any lim p s w1 (hR.kept hg (fun g hg => by cases hg)))
   have hC0 := RS.errC_sound hs
   rw [hC0] at HER
   obtain ⟨ao, cap, hb, hS, hpl, -⟩ := id hR
   have HBK : Hid (∀ w1, Below w.heap.size w w1 → w1.cell? ⟨p, 4, none⟩ = some (.int .i64 (s.pos : Int))) := fun w1 h1 => by
    have h2 := h1.cell (p := ⟨p, 4, none⟩) (block_lt hb)
    rw [h2]
    have h3 := block_cell hb 4
    simpa using h3
   clear hb hS hR hC0
   by_cases hlt : s.pos < s.B.length
   ·have HE : Hid (s.endC = 28 ∧ s.endA = (s.pos : Int)) := by unfold RS.endC RS.endA; rw [if_pos hs, if_pos hs, if_pos hlt, if_pos hlt]; exact ⟨rfl, rfl⟩
    rw [HE.out.1, HE.out.2]
    obtain ⟨L, hL⟩ : ∃ L, L = s.B.length - s.pos := ⟨_, rfl⟩
    rw [← hL] at HLF
    have hL0 : (0 : Int) < (L : Int) := by omega
    have hL1 : decide (0 < L) = true := by simp; omega
    clear HE hlt hL hpl
    go_enter Tryz.func107, Tryz.ntmps107
    go_wp2_with fail
    refine HER.out.mono ?_
    rintro e w1 ⟨v, rfl, hv, hb1⟩
    obtain rfl := errV_none hv
    have HB1 := hide hb1
    have hc4 := HBK.out w1 hb1
    clear hv hb1
    go_wp2_with fail
    refine (HLF.out w1 (below_none HB1.out)).mono ?_
    rintro e w2 ⟨rfl, q, rfl⟩
    have hc4' : (w1.drewN q).cell? ⟨p, 4, none⟩ = some (.int .i64 (s.pos : Int)) := hc4
    go_wp2_with fail
    refine (refusal_any (s.pos : Int) 28 (w1.drewN q)).mono ?_
    rintro e w3 ⟨v, rfl, hv, hf, hb⟩
    have HF := hide (And.intro hf hb)
    clear hv hf hb
    go_wp2
    go_ret
    have hb := HF.out.2
    exact ⟨v, rfl, .inr ⟨HF.out.1, by decide⟩, HB1.out.trans ⟨hb.os, hb.tape, hb.output, hb.size, fun k hk => hb.block k (Nat.lt_of_lt_of_le hk HB1.out.size)⟩⟩
   ·have HE : Hid (s.endC = 0 ∧ s.endA = 0) := by unfold RS.endC RS.endA; rw [if_pos hs, if_pos hs, if_neg hlt, if_neg hlt]; exact ⟨rfl, rfl⟩
    rw [HE.out.1, HE.out.2]
    obtain ⟨L, hL⟩ : ∃ L, L = s.B.length - s.pos := ⟨_, rfl⟩
    rw [← hL] at HLF
    obtain rfl : L = 0 := by omega
    clear HE hlt hL hpl
    go_enter Tryz.func107, Tryz.ntmps107
    go_wp2_with fail
    refine HER.out.mono ?_
    rintro e w1 ⟨v, rfl, hv, hb1⟩
    obtain rfl := errV_none hv
    have HB1 := hide hb1
    clear hv hb1
    go_wp2_with fail
    refine (HLF.out w1 (below_none HB1.out)).mono ?_
    rintro e w2 ⟨rfl, q, rfl⟩
    go_wp2
    go_ret
    exact ⟨_, rfl, .inl ⟨rfl, rfl, rfl⟩, below_drewN HB1.out _⟩
 ·have HE : Hid (s.endC = s.errC ∧ s.endA = s.errA) := by unfold RS.endC RS.endA; rw [if_neg hs, if_neg hs]; exact ⟨rfl, rfl⟩
  rw [HE.out.1, HE.out.2]
  have HNZ := hide (RS.errC_not hs)
  generalize s.errC = ec at *
  generalize s.errA = ea at *
  clear HE hs h hz
  go_enter Tryz.func107, Tryz.ntmps107
  go_wp2_with fail
  refine HER.out.mono ?_
  rintro e w1 ⟨v, rfl, hv, hb1⟩
  obtain ⟨g, rfl⟩ := errV_some hv HNZ.out
  have HV := hide (And.intro hv hb1)
  clear hv hb1
  go_wp2
  go_ret
  exact ⟨_, rfl, HV.out.1, HV.out.2⟩

theorem rAtP {lim : Nat} {w : World} {po : Option Addr} {s : RS} (h : RdP lim w po s) :
  Calls Tryz.prog 142 #[.pointer po] w fun e w' => e = .returned (.int .i64 (s.pos : Nat)) ∧ w' = w := by
 rcases h with ⟨rfl, rfl⟩ | ⟨p, rfl, h⟩
 ·exact rAt_nil w
 ·exact rAt_any lim p s w h
theorem rU8P {lim : Nat} {w : World} {po : Option Addr} {s : RS} (h : RdP lim w po s) :
  Calls Tryz.prog 141 #[.pointer po] w fun e w' => e = .returned (.int .u8 (hi (aheadV s.rest 1) : Nat)) ∧ RdP lim w' po (s.step 1 (aheadW s.rest 1)) ∧ w.grownBy w' (rowP po) := by
 rcases h with ⟨rfl, rfl⟩ | ⟨p, rfl, h⟩
 ·exact (rU8_nil w).mono fun e w' ⟨h1, h2⟩ => ⟨h1, .inl ⟨rfl, RS.step_not RS0_not _ _⟩, h2⟩
 ·exact (rU8_any lim p s w h).mono fun e w' ⟨h1, h2, h3⟩ => ⟨h1, .inr ⟨p, rfl, h2⟩, h3⟩
theorem rU16P {lim : Nat} {w : World} {po : Option Addr} {s : RS} (h : RdP lim w po s) :
  Calls Tryz.prog 137 #[.pointer po] w fun e w' => e = .returned (.int .u16 (hi (aheadV s.rest 2) : Nat)) ∧ RdP lim w' po (s.step 2 (aheadW s.rest 2)) ∧ w.grownBy w' (rowP po) := by
 rcases h with ⟨rfl, rfl⟩ | ⟨p, rfl, h⟩
 ·exact (rU16_nil w).mono fun e w' ⟨h1, h2⟩ => ⟨h1, .inl ⟨rfl, RS.step_not RS0_not _ _⟩, h2⟩
 ·exact (rU16_any lim p s w h).mono fun e w' ⟨h1, h2, h3⟩ => ⟨h1, .inr ⟨p, rfl, h2⟩, h3⟩
theorem rNumP {lim : Nat} {w : World} {po : Option Addr} {s : RS} (h : RdP lim w po s) :
  Calls Tryz.prog 140 #[.pointer po] w fun e w' => e = .returned (.int .u64 ((numAt s.rest).1 : Nat)) ∧ RdP lim w' po (s.step (numAt s.rest).2.1 (numAt s.rest).2.2) ∧ w.grownBy w' (rowP po) := by
 rcases h with ⟨rfl, rfl⟩ | ⟨p, rfl, h⟩
 ·exact (rNum_nil w).mono fun e w' ⟨h1, h2⟩ => ⟨h1, .inl ⟨rfl, RS.step_not RS0_not _ _⟩, h2⟩
 ·exact (rNum_any lim p s w h).mono fun e w' ⟨h1, h2, h3⟩ => ⟨h1, .inr ⟨p, rfl, h2⟩, h3⟩
theorem rCountP {lim : Nat} {w : World} {po : Option Addr} {s : RS} (h : RdP lim w po s) (most : Int) (hm1 : -9223372036854775808 ≤ most) (hm2 : most < 9223372036854775808) :
  Calls Tryz.prog 139 #[.pointer po, .int .i64 most] w fun e w' => e = .returned (.int .i64 ((countAt s.rest most).1 : Nat)) ∧ RdP lim w' po (s.step (countAt s.rest most).2.1 (countAt s.rest most).2.2) ∧ w.grownBy w' (rowP po) := by
 rcases h with ⟨rfl, rfl⟩ | ⟨p, rfl, h⟩
 ·exact (rCount_nil most w hm1 hm2).mono fun e w' ⟨h1, h2⟩ => ⟨h1, .inl ⟨rfl, RS.step_not RS0_not _ _⟩, h2⟩
 ·exact (rCount_any lim p s most w h hm1 hm2).mono fun e w' ⟨h1, h2, h3⟩ => ⟨h1, .inr ⟨p, rfl, h2⟩, h3⟩
end Go.Proofs.YtggpaljilpbmhaaGreatDoor
namespace Go.Proofs.YtggpaljilpbmhaaGreatDoor
open Go.RowKit Crc

instance (s : ByteArray) : Decidable (Ascii s) := inferInstanceAs (Decidable (∀ i (h : i < s.size), (s[i]'h).toNat < 128))

/-- A field of a script. -/
structure Fl where
 K : Int
 N : Nat
 I : Int
 bo : Option Addr
 bn : Nat
 bc : Nat
 B : List Nat
 S : ByteArray
 M : Int
def Fl.cells (f : Fl) : Array Value := #[.int .i64 f.K, .int .u64 (f.N : Int), .int .i64 f.I, .slice f.bo f.bn f.bc, .string f.S, .int .i64 f.M]
/-- What is laid down of a field, if it may be. -/
def Fl.enc (f : Fl) : Option (List Nat) :=
 if f.K = 1 then some (big (f.N % 256) 1) else if f.K = 2 then some (big (f.N % 65536) 2) else if f.K = 3 then some (big (f.N % 4294967296) 4) else if f.K = 4 then some (big f.N 8) else
 if f.K = 5 then some (numB f.N) else if f.K = 6 then some (big (if f.N % 2 = 1 then 1 else 0) 1) else
 if f.K = 7 then (if f.I < 0 ∨ f.M < f.I then none else some (numB f.I.toNat)) else
 if f.K = 8 then (if f.M < (f.bn : Int) then none else some (numB f.bn ++ f.B)) else
 if f.K = 9 then (if f.M < (f.S.size : Int) ∨ ¬ Ascii f.S then none else some (numB f.S.size ++ strB f.S)) else some []
/-- The field as it lies, and its bounds. -/
structure Fl.Ok (lim : Nat) (w : World) (f : Fl) : Prop where
 hN : f.N < 18446744073709551616
 hK1 : -9223372036854775808 ≤ f.K
 hK2 : f.K < 9223372036854775808
 hI1 : -9223372036854775808 ≤ f.I
 hI2 : f.I < 9223372036854775808
 hM1 : -9223372036854775808 ≤ f.M
 hM2 : f.M < 9223372036854775808
 hB : Shows lim w f.bo f.bn f.bc f.B
 hS : f.S.size ≤ 140737488355328

theorem below_drewN {B : Nat} {a w : World} {q : Nat} (h : Below B a w) : Below B a (w.drewN q) := ⟨h.os, h.tape, h.output, h.size, h.block⟩

end Go.Proofs.YtggpaljilpbmhaaGreatDoor
