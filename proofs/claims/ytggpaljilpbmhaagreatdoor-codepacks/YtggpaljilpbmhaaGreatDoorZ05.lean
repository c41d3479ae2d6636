import Derived.Test.YtggpaljilpbmhaaGreatDoorZ04
import Derived.Test.YtggpaljilpbmhaaGreatDoorZ21
import Derived.Deep.RegionWith
namespace Go.Proofs.YtggpaljilpbmhaaGreatDoor
open Go.RowKit Crc

/-- A reader's state. -/
structure RS where
 made : Bool
 place : Int
 why : Int
 B : List Nat
 pos : Nat
 K : Kd
def RS.sound (s : RS) : Prop := s.made = true ∧ s.why = 0
instance (s : RS) : Decidable s.sound := by unfold RS.sound; exact inferInstance
def RS.rest (s : RS) : List Nat := restB s.made s.why s.B s.pos
def RS.step (s : RS) (size : Nat) (why : Int) : RS := if s.sound then (if why = 0 then { s with pos := s.pos + size } else { s with place := s.pos, why := why }) else s
def RdS (lim : Nat) (w : World) (p : Nat) (s : RS) : Prop := Rd s.K lim w p s.made s.place s.why s.B s.pos

theorem high_sh {lim : Nat} {w : World} {ao : Option Addr} {n cap : Nat} {B : List Nat} (h : Shows lim w ao n cap B) (hl : n ≤ 8) :
  Calls Tryz.prog 199 #[.slice ao n cap] w fun e w' => e = .returned (.int .u64 (hi B : Nat)) ∧ w' = w := by
 obtain ⟨h1, h2, h3, h4, b, off, h5, h6, h7⟩ := h
 exact high_all b off ao B n cap w h5 h1 hl h4 h7

set_option maxRecDepth 10000 in
set_option maxHeartbeats 400000 in
theorem fail_sound (p : Nat) (place v y : Int) (w : World) (h0 : w.cell? ⟨p, 0, none⟩ = some (.bool true)) (h1 : w.cell? ⟨p, 1, none⟩ = some (.int .i64 place)) (h2 : w.cell? ⟨p, 2, none⟩ = some (.int .i64 0)) (f1 : w.frozen? ⟨p, 1, none⟩ = false) (f2 : w.frozen? ⟨p, 2, none⟩ = false) :
  Calls Tryz.prog 131 #[.pointer (some ⟨p, 0, none⟩), .int .i64 v, .int .i64 y] w fun e w' => e = .returned (.tuple #[]) ∧ w' = (w.setCell ⟨p, 1, none⟩ (.int .i64 v)).setCell ⟨p, 2, none⟩ (.int .i64 y) := by
 have HSD := hide (sound_any p true 0 w h0 h2)
 go_enter Tryz.func131, Tryz.ntmps131
 go_wp2_with fail
 refine HSD.out.mono ?_
 rintro e w1 ⟨rfl, rfl⟩
 go_wp2
 go_end0
 exact ⟨rfl, rfl⟩

set_option maxRecDepth 10000 in
set_option maxHeartbeats 400000 in
theorem bytesAhead_any {lim : Nat} {w : World} {ao : Option Addr} {n cap : Nat} {B : List Nat} (k : Nat) (hk : 0 < k) (hk8 : k ≤ 8) (h : Shows lim w ao n cap B) :
  Calls Tryz.prog 198 #[.slice ao n cap, .int .i64 (k : Int)] w fun e w' => ∃ a2 n2 c2, e = .returned (.tuple #[.slice a2 n2 c2, .int .i64 (if n < k then 20 else 0)]) ∧ Shows lim w a2 n2 c2 (if n < k then [] else B.take k) ∧ n2 ≤ 8 ∧ w' = w := by
 obtain ⟨h1, h2, h3, h4, b, off, h5, h6, h7⟩ := h
 have HN := hide h1
 clear h1
 by_cases hz : n < k
 ·have d : decide ((n : Int) < (k : Int)) = true := by simp; omega
  rw [if_pos hz, if_pos hz]
  clear h5 h6 h7 h4
  go_enter Tryz.func198, Tryz.ntmps198
  go_wp2
  go_ret2
  exact ⟨_, _, _, rfl, shows_none, by omega, rfl⟩
 ·have d : decide ((n : Int) < (k : Int)) = false := by simp; omega
  rw [if_neg hz, if_neg hz]
  obtain rfl := h5 (by omega)
  have hs : Shows lim w (some ⟨b, off, none⟩) k cap (B.take k) := by
   refine ⟨by rw [List.length_take]; have := HN.out; omega, by omega, by omega, fun x hx => h4 x (List.mem_of_mem_take hx), b, off, fun _ => rfl, fun _ => h6 (by omega), fun i hi => ?_⟩
   rw [getD_take hi]
   exact h7 i (by omega)
  have HS := hide hs
  clear hs h5 h6 h7 h4
  have hkc : (k : Int) ≤ (cap : Int) := by omega
  have hk0 : (0 : Int) ≤ (k : Int) := by omega
  go_enter Tryz.func198, Tryz.ntmps198
  go_wp2
  go_ret2
  exact ⟨_, _, _, rfl, HS.out, hk8, rfl⟩

theorem restB_sound {made : Bool} {why : Int} {B : List Nat} {pos : Nat} (h : ¬ (made = true ∧ why = 0)) : restB made why B pos = [] := by unfold restB; rw [if_neg h]

set_option maxRecDepth 10000 in
set_option maxHeartbeats 800000 in
theorem step_any (lim p : Nat) (s : RS) (size : Nat) (zi why : Int) (w : World) (hR : RdS lim w p s) (hzi : zi = (size : Int)) (hsz : s.sound → why = 0 → s.pos + size ≤ s.B.length) :
  Calls Tryz.prog 169 #[.pointer (some ⟨p, 0, none⟩), .int .i64 zi, .int .i64 why] w fun e w' => e = .returned (.tuple #[]) ∧ RdS lim w' p (s.step size why) ∧ w.grownBy w' (some p) := by
 subst hzi
 obtain ⟨made, place, why0, B, pos, K⟩ := s
 obtain ⟨ao, cap, hb, hS, hp, hl⟩ := hR
 simp only at hb hS hp hl hsz
 have c0 := block_cell hb 0
 have c1 := block_cell hb 1
 have c2 := block_cell hb 2
 have c4 := block_cell hb 4
 have f1 := block_free hb 1
 have f2 := block_free hb 2
 have f4 := block_free hb 4
 simp at c0 c1 c2 c4
 have HSD := hide (sound_any p made why0 w c0 c2)
 have hlen := hS.2.2.1
 by_cases hd : made = true ∧ why0 = 0
 ·obtain ⟨rfl, rfl⟩ := hd
  by_cases hw : why = 0
  ·subst hw
   have hpz := hsz ⟨rfl, rfl⟩ rfl
   have HF : Hid (RdS lim (w.setCell ⟨p, 4, none⟩ (.int .i64 ((pos : Int) + (size : Int)))) p (RS.step ⟨true, place, 0, B, pos, K⟩ size 0) ∧ w.grownBy (w.setCell ⟨p, 4, none⟩ (.int .i64 ((pos : Int) + (size : Int)))) (some p)) := by
    refine ⟨?_, grown_set _ _ _ _⟩
    rw [show RS.step ⟨true, place, 0, B, pos, K⟩ size 0 = ⟨true, place, 0, B, pos + size, K⟩ from rfl]
    refine ⟨ao, cap, ?_, ?_, hpz, hl⟩
    ·rw [heap_setCell_same w p 4 _ _ _ hb]; simp
    ·exact hS.kept (grown_set _ _ _ _) (fun g hg => by cases hg; exact hl)
   have hpB : (pos : Int) + (size : Int) ≤ 140737488355328 := by omega
   clear hb hS hp hsz hlen hpz
   go_enter Tryz.func169, Tryz.ntmps169
   go_wp2_with fail
   refine HSD.out.mono ?_
   rintro e w1 ⟨rfl, rfl⟩
   go_wp2
   go_end0
   exact ⟨rfl, HF.out⟩
  ·have HF : Hid (∀ q, RdS lim (((w.drewN q).setCell ⟨p, 1, none⟩ (.int .i64 (pos : Int))).setCell ⟨p, 2, none⟩ (.int .i64 why)) p (RS.step ⟨true, place, 0, B, pos, K⟩ size why) ∧ w.grownBy (((w.drewN q).setCell ⟨p, 1, none⟩ (.int .i64 (pos : Int))).setCell ⟨p, 2, none⟩ (.int .i64 why)) (some p)) := by
    intro q
    have hb1 : ((w.drewN q).setCell ⟨p, 1, none⟩ (.int .i64 (pos : Int))).heap[p]? = some (.cells (List.toArray (.bool true :: .int .i64 (pos : Int) :: .int .i64 0 :: .slice ao B.length cap :: .int .i64 (pos : Int) :: K.R)) K.t (0, 0)) := by
     rw [heap_setCell_same (w.drewN q) p 1 _ _ _ (show (w.drewN q).heap[p]? = _ from hb)]; simp
    refine ⟨?_, grown_trans (row := some p) (grown_trans (a := w) (b := w.drewN q) (row := some p) ⟨rfl, rfl, rfl, Nat.le_refl _, fun _ _ _ => rfl⟩ (grown_set (w.drewN q) _ _ _)) (grown_set _ _ _ _)⟩
    rw [show RS.step ⟨true, place, 0, B, pos, K⟩ size why = ⟨true, pos, why, B, pos, K⟩ by simp [RS.step, RS.sound, hw]]
    refine ⟨ao, cap, ?_, ?_, hp, hl⟩
    ·rw [heap_setCell_same _ p 2 _ _ _ hb1]; simp
    ·exact ((hS.world (w' := w.drewN q) rfl).kept (grown_set _ _ _ _) (fun g hg => by cases hg; exact hl)).kept (grown_set _ _ _ _) (fun g hg => by cases hg; exact hl)
   have hwb : (why == 0) = false := by simp [hw]
   have HFA := hide (fun q => fail_sound p place pos why (w.drewN q) c0 c1 c2 f1 f2)
   clear c0 c1 c2 f1 f2 f4
   clear hb hS hp hsz hlen hw
   go_enter Tryz.func169, Tryz.ntmps169
   go_wp2_with fail
   refine HSD.out.mono ?_
   rintro e w1 ⟨rfl, rfl⟩
   go_wp2_with fail
   go_region_with (go_at_call 131; refine (HFA.out 1).mono ?_; rintro e w2 ⟨rfl, rfl⟩)
   all_goals go_wp2
   all_goals go_end0
   all_goals exact ⟨rfl, HF.out 1⟩
 ·have hsb : (made && (why0 == 0)) = false := by
   cases made
   ·rfl
   ·simp at hd; simp [hd]
  rw [hsb] at HSD
  have HF : Hid (RdS lim w p (RS.step ⟨made, place, why0, B, pos, K⟩ size why) ∧ w.grownBy w (some p)) := by
   rw [show RS.step ⟨made, place, why0, B, pos, K⟩ size why = ⟨made, place, why0, B, pos, K⟩ from if_neg hd]
   exact ⟨⟨ao, cap, hb, hS.world rfl, hp, hl⟩, rfl, rfl, rfl, Nat.le_refl _, fun _ _ _ => rfl⟩
  clear hb hS hp hsz hlen hd hsb
  go_enter Tryz.func169, Tryz.ntmps169
  go_wp2_with fail
  refine HSD.out.mono ?_
  rintro e w1 ⟨rfl, rfl⟩
  go_wp2
  go_end0
  exact ⟨rfl, HF.out⟩
end Go.Proofs.YtggpaljilpbmhaaGreatDoor
namespace Go.Proofs.YtggpaljilpbmhaaGreatDoor
open Go.RowKit Crc

def aheadV (B : List Nat) (k : Nat) : List Nat := if B.length < k then [] else B.take k
def aheadW (B : List Nat) (k : Nat) : Int := if B.length < k then 20 else 0
theorem rest_len {s : RS} (h : s.sound) : s.rest.length = s.B.length - s.pos := by
 unfold RS.rest restB; rw [if_pos (show s.made = true ∧ s.why = 0 from h), List.length_drop]
theorem rest_lt {lim : Nat} {w : World} {p : Nat} {s : RS} (h : RdS lim w p s) : (∀ x ∈ s.rest, x < 256) ∧ s.rest.length ≤ 140737488355328 := by
 obtain ⟨ao, cap, hb, hS, hp, hl⟩ := h
 unfold RS.rest restB
 split
 ·exact ⟨fun x hx => hS.2.2.2.1 x (List.mem_of_mem_drop hx), by have := hS.2.2.1; rw [List.length_drop]; omega⟩
 ·simp
theorem RdS.limp {lim : Nat} {w : World} {p : Nat} {s : RS} (h : RdS lim w p s) : lim ≤ p := by obtain ⟨ao, cap, hb, hS, hp, hl⟩ := h; exact hl
theorem RdS.pos {lim : Nat} {w : World} {p : Nat} {s : RS} (h : RdS lim w p s) : s.pos ≤ s.B.length := by obtain ⟨ao, cap, hb, hS, hp, hl⟩ := h; exact hp
theorem grown_from {a b : World} {q : Nat} {row : Option Nat} (h : (a.drewN q).grownBy b row) : a.grownBy b row := ⟨h.os, h.tape, h.output, h.size, h.block⟩

set_option maxRecDepth 10000 in
set_option maxHeartbeats 800000 in
theorem fixed_any (lim p : Nat) (s : RS) (k : Nat) (ki : Int) (w : World) (hki : ki = (k : Int)) (hk : 0 < k) (hk8 : k ≤ 8) (hR : RdS lim w p s) :
  Calls Tryz.prog 166 #[.pointer (some ⟨p, 0, none⟩), .int .i64 ki] w fun e w' => e = .returned (.int .u64 (hi (aheadV s.rest k) : Nat)) ∧ RdS lim w' p (s.step k (aheadW s.rest k)) ∧ w.grownBy w' (some p) := by
 subst hki
 have HRS := hide (rest_any lim p s.made s.place s.why s.B s.pos w hR)
 have HST := hide (fun q => step_any lim p s k k (aheadW s.rest k) (w.drewN q) (Rd.world hR rfl) rfl (by
  intro h1 h2
  have h3 := rest_len h1
  have h4 := hR.pos
  unfold aheadW at h2
  split at h2
  ·cases h2
  ·omega))
 have HL := hide hR.limp
 clear hR
 go_enter Tryz.func166, Tryz.ntmps166
 go_wp2_with fail
 refine HRS.out.mono ?_
 rintro e w1 ⟨a1, n1, c1, rfl, hs1, q, rfl⟩
 have HS1 := hide (hs1.world (w' := w.drewN q) rfl)
 have HN1 : Hid (n1 = s.rest.length) := hs1.1
 clear hs1
 go_wp2_with fail
 refine (bytesAhead_any k hk hk8 HS1.out).mono ?_
 rintro e w2 ⟨a2, n2, c2, rfl, hs2, hn2, rfl⟩
 have HS2 : Hid (Shows lim (w.drewN q) a2 n2 c2 (aheadV s.rest k)) := by unfold aheadV; rw [← HN1.out]; exact hs2
 have HW : Hid ((if n1 < k then (20 : Int) else 0) = aheadW s.rest k) := by show _ = _; unfold aheadW; rw [HN1.out]
 rw [HW.out]
 clear hs2 HS1 HW
 go_wp2_with fail
 refine (HST.out q).mono ?_
 rintro e w3 ⟨rfl, hr3, hg3⟩
 have HR3 := hide hr3
 have HG3 := hide hg3
 have HS3 := hide (HS2.out.kept hg3 (fun g hg => by cases hg; exact HL.out))
 clear hr3 hg3
 go_wp2_with fail
 refine (high_sh HS3.out hn2).mono ?_
 rintro e w4 ⟨rfl, rfl⟩
 go_wp2
 go_ret
 exact ⟨rfl, HR3.out, grown_from HG3.out⟩

theorem hi_take_lt {B : List Nat} {k : Nat} (h : ∀ x ∈ B, x < 256) : hi (aheadV B k) < 256 ^ k := by
 unfold aheadV
 split
 ·exact Nat.pow_pos (by omega)
 ·have := hi_lt (B.take k) (fun x hx => h x (List.mem_of_mem_take hx))
  rw [List.length_take, Nat.min_eq_left (by omega)] at this
  exact this

set_option maxRecDepth 10000 in
set_option maxHeartbeats 400000 in
theorem rU8_any (lim p : Nat) (s : RS) (w : World) (hR : RdS lim w p s) :
  Calls Tryz.prog 141 #[.pointer (some ⟨p, 0, none⟩)] w fun e w' => e = .returned (.int .u8 (hi (aheadV s.rest 1) : Nat)) ∧ RdS lim w' p (s.step 1 (aheadW s.rest 1)) ∧ w.grownBy w' (some p) := by
 have hlt := hi_take_lt (k := 1) (rest_lt hR).1
 have HF := hide (fixed_any lim p s 1 1 w rfl (by omega) (by omega) hR)
 clear hR
 generalize hi (aheadV s.rest 1) = x at *
 have hm : (x : Int) % 256 = (x : Int) := by omega
 go_enter Tryz.func141, Tryz.ntmps141
 go_wp2_with fail
 refine HF.out.mono ?_
 rintro e w1 ⟨rfl, hr, hg⟩
 go_wp2
 go_ret
 exact ⟨by go_num, hr, hg⟩
set_option maxRecDepth 10000 in
set_option maxHeartbeats 400000 in
theorem rU16_any (lim p : Nat) (s : RS) (w : World) (hR : RdS lim w p s) :
  Calls Tryz.prog 137 #[.pointer (some ⟨p, 0, none⟩)] w fun e w' => e = .returned (.int .u16 (hi (aheadV s.rest 2) : Nat)) ∧ RdS lim w' p (s.step 2 (aheadW s.rest 2)) ∧ w.grownBy w' (some p) := by
 have hlt := hi_take_lt (k := 2) (rest_lt hR).1
 have HF := hide (fixed_any lim p s 2 2 w rfl (by omega) (by omega) hR)
 clear hR
 generalize hi (aheadV s.rest 2) = x at *
 have hm : (x : Int) % 65536 = (x : Int) := by omega
 go_enter Tryz.func137, Tryz.ntmps137
 go_wp2_with fail
 refine HF.out.mono ?_
 rintro e w1 ⟨rfl, hr, hg⟩
 go_wp2
 go_ret
 exact ⟨by go_num, hr, hg⟩
end Go.Proofs.YtggpaljilpbmhaaGreatDoor
namespace Go.Proofs.YtggpaljilpbmhaaGreatDoor
open Go.RowKit Crc

/-- A number at the head of bytes, behind i of its bytes: the number, its bytes, the reason. -/
def numGo : List Nat → Nat → Nat → Nat × Nat × Int
 | [], _, _ => (0, 0, 20)
 | c :: r, i, n => if i = 9 ∧ 1 < c then (0, 0, 26) else if 128 ≤ c then numGo r (i + 1) (n + c % 128 * 2 ^ (7 * i)) else if c = 0 ∧ 0 < i then (0, 0, 26) else (n + c % 128 * 2 ^ (7 * i), i + 1, 0)
def numAt (B : List Nat) : Nat × Nat × Int := numGo B 0 0

theorem and127 (c : Nat) (h : c < 256) : bits .and .u8 (c : Int) (127 : Int) = ((c % 128 : Nat) : Int) := by
 rw [show (127 : Int) = ((127 : Nat) : Int) from rfl, u8_and_nat _ _ (by omega) (by omega)]
 congr 1
 have := Nat.and_two_pow_sub_one_eq_mod c 7
 simpa using this

theorem numGo_at (B : List Nat) (k x : Nat) (hk : k < B.length) : numGo (B.drop k) k x = if k = 9 ∧ 1 < B.getD k 0 then (0, 0, 26) else if 128 ≤ B.getD k 0 then numGo (B.drop (k + 1)) (k + 1) (x + B.getD k 0 % 128 * 2 ^ (7 * k)) else if B.getD k 0 = 0 ∧ 0 < k then (0, 0, 26) else (x + B.getD k 0 % 128 * 2 ^ (7 * k), k + 1, 0) := by
 rw [List.drop_eq_getElem_cons hk, List.getD_eq_getElem?_getD, List.getElem?_eq_getElem hk]
 rfl
theorem numGo_end (B : List Nat) (k x : Nat) (hk : B.length ≤ k) : numGo (B.drop k) k x = (0, 0, 20) := by
 rw [List.drop_eq_nil_of_le hk]; rfl
theorem or_num (x d E : Nat) (hE : E ≤ 63) (hx : x < 2 ^ E) (hf : d * 2 ^ E < 18446744073709551616) : bits .or .u64 (x : Int) (IntKind.u64.wrap ((d : Int) * 2 ^ E)) = ((x + d * 2 ^ E : Nat) : Int) := by
 have hx2 : x < 18446744073709551616 := Nat.lt_of_lt_of_le hx (Nat.le_trans (Nat.pow_le_pow_right (by omega) hE) (by decide))
 have e : (d : Int) * 2 ^ E = ((d * 2 ^ E : Nat) : Int) := by simp
 rw [e]
 have ew : IntKind.u64.wrap ((d * 2 ^ E : Nat) : Int) = ((d * 2 ^ E : Nat) : Int) := by
  generalize d * 2 ^ E = m at *
  simp [IntKind.wrap, IntKind.bits, IntKind.signed]
  omega
 rw [ew, u64_or_nat _ _ hx2 hf, or_add x d E hx]

set_option maxRecDepth 10000 in
set_option maxHeartbeats 1600000 in
theorem numAhead_any {lim : Nat} {w : World} {ao : Option Addr} {n cap : Nat} {B : List Nat} (h : Shows lim w ao n cap B) :
  Calls Tryz.prog 170 #[.slice ao n cap] w fun e w' => e = .returned (.tuple #[.int .u64 ((numAt B).1 : Nat), .int .i64 ((numAt B).2.1 : Nat), .int .i64 (numAt B).2.2]) ∧ w' = w := by
 obtain ⟨h1, h2, h3, h4, b, off, h5, h6, h7⟩ := h
 have HN := hide h1
 have HA := hide h5
 have HC := hide h7
 have HB := hide h4
 clear h1 h5 h6 h7 h4
 go_enter Tryz.func170, Tryz.ntmps170
 go_wp2
 go_loop [5, 10] (fun s i => ∃ k x : Nat, k ≤ n ∧ k ≤ 9 ∧ i = .int .i64 k ∧ s = .int .u64 x ∧ Hid (x < 2 ^ (7 * k) ∧ numGo (B.drop k) k x = numAt B)) (fun _ i => n - (intOf i).toNat)
 case atStart => exact ⟨0, 0, Nat.zero_le _, by omega, rfl, rfl, by simp, rfl⟩
 case round =>
  obtain ⟨k, x, hk, hk9, rfl, rfl, HX⟩ := hrel
  by_cases hlt : k < n
  ·have hck := HC.out k hlt
   obtain rfl := HA.out (by omega)
   have hcb : B.getD k 0 < 256 := getD_lt B HB.out k
   have hgo := numGo_at B k x (by have := HN.out; omega)
   rw [HX.out.2] at hgo
   obtain ⟨c, hcd⟩ : ∃ c, c = B.getD k 0 := ⟨_, rfl⟩
   rw [← hcd] at hck hcb hgo
   have HGO := hide hgo
   clear hcd hgo
   have hand := and127 c hcb
   obtain ⟨d, hdd⟩ : ∃ d, d = c % 128 := ⟨_, rfl⟩
   rw [← hdd] at hand
   have HD := hide hdd
   have hd128 : d < 128 := by omega
   have hdc : d ≤ c := by rw [hdd]; exact Nat.mod_le _ _
   clear hdd
   by_cases h9 : k = 9 ∧ 1 < c
   ·have HF : Hid (numAt B = (0, 0, 26)) := by have := HGO.out; rw [if_pos h9] at this; exact this
    obtain ⟨rfl, hc1⟩ := h9
    have d1 : decide ((1 : Int) < (c : Int)) = true := by simp; omega
    clear HGO HX HD hand
    go_wp2
    go_ret3
    exact ⟨by rw [HF.out]; rfl, rfl⟩
   ·have hfit : d * 2 ^ (7 * k) < 18446744073709551616 := by
     rcases Nat.lt_or_ge k 9 with h | h
     ·have h1 : 2 ^ (7 * k) ≤ 2 ^ 56 := Nat.pow_le_pow_right (by omega) (by omega)
      have h2 : d * 2 ^ (7 * k) ≤ 127 * 2 ^ 56 := Nat.mul_le_mul (by omega) h1
      omega
     ·obtain rfl : k = 9 := by omega
      have : d ≤ 1 := by omega
      have : d * 2 ^ (7 * 9) ≤ 1 * 2 ^ (7 * 9) := Nat.mul_le_mul_right _ this
      omega
    have hor := or_num x d (7 * k) (by omega) HX.out.1 hfit
    obtain ⟨y, hy⟩ : ∃ y, y = x + d * 2 ^ (7 * k) := ⟨_, rfl⟩
    rw [← hy] at hor
    have HGO2 : Hid (numAt B = if 128 ≤ c then numGo (B.drop (k + 1)) (k + 1) y else if c = 0 ∧ 0 < k then (0, 0, 26) else (y, k + 1, 0)) := by
     have h := HGO.out
     rw [if_neg h9, ← HD.out, ← hy] at h
     exact h
    have HY : Hid (y < 2 ^ (7 * (k + 1))) := by
     have h1 := HX.out.1
     show y < _
     rw [hy, show 7 * (k + 1) = 7 * k + 7 by omega, Nat.pow_add]
     have h2 : d * 2 ^ (7 * k) ≤ 127 * 2 ^ (7 * k) := Nat.mul_le_mul_right _ (by omega)
     omega
    have HYD := hide hy
    have HXL := hide HX.out.1
    obtain ⟨E, hE⟩ : ∃ E : Nat, E = 7 * k := ⟨_, rfl⟩
    have he : (7 : Int) * (k : Int) = (E : Int) := by omega
    rw [← hE] at hor
    have HEE := hide hE
    clear HGO HX HD hfit hy hE
    by_cases h128 : 128 ≤ c
    ·have d128 : decide ((128 : Int) ≤ (c : Int)) = true := by simp; omega
     have hk8 : k ≤ 8 := by omega
     have hne : ((k : Int) == 9) = false := by simp; omega
     have HR : Hid (y < 2 ^ (7 * (k + 1)) ∧ numGo (B.drop (k + 1)) (k + 1) y = numAt B) := by
      refine ⟨HY.out, ?_⟩
      have h := HGO2.out
      rw [if_pos h128] at h
      exact h.symm
     clear HGO2 HY h9
     go_wp2
     go_round
     case rel => exact ⟨k + 1, y, by omega, by omega, by go_num, rfl, HR⟩
     case measure => simp [intOf]; omega
    ·have d128 : decide ((128 : Int) ≤ (c : Int)) = false := by simp; omega
     by_cases hz : c = 0 ∧ 0 < k
     ·have HF : Hid (numAt B = (0, 0, 26)) := by have := HGO2.out; rw [if_neg h128, if_pos hz] at this; exact this
      obtain ⟨rfl, hk0⟩ := hz
      have dk : decide ((0 : Int) < (k : Int)) = true := by simp; omega
      clear HGO2 HY h9
      by_cases hk' : k = 9
      ·subst hk'
       go_wp2
       go_ret3
       exact ⟨by rw [HF.out]; rfl, rfl⟩
      ·have hne : ((k : Int) == 9) = false := by simp; omega
       go_wp2
       go_ret3
       exact ⟨by rw [HF.out]; rfl, rfl⟩
     ·have HF : Hid (numAt B = (y, k + 1, 0)) := by have := HGO2.out; rw [if_neg h128, if_neg hz] at this; exact this
      clear HGO2 HY
      by_cases hk' : k = 9
      ·subst hk'
       have hc0 : ((c : Int) == 0) = false := by simp; omega
       have d1 : decide ((1 : Int) < (c : Int)) = false := by simp; omega
       have hor9 : bits .or .u64 (x : Int) (IntKind.u64.wrap ((d : Int) * 9223372036854775808)) = (y : Int) := by
        have h := hor
        rw [HEE.out] at h
        exact h
       clear hz h9 hor
       go_wp2
       go_ret3
       exact ⟨by rw [HF.out]; rfl, rfl⟩
      ·have hne : ((k : Int) == 9) = false := by simp; omega
       clear h9
       by_cases hc0 : c = 0
       ·subst hc0
        obtain rfl : k = 0 := by omega
        obtain rfl : x = 0 := by have := HXL.out; simp at this; exact this
        obtain rfl : d = 0 := by omega
        obtain rfl : y = 0 := HYD.out
        obtain rfl : E = 0 := HEE.out
        clear hz hor he hand hne
        simp at hck
        go_wp2
        go_ret3
        exact ⟨by rw [HF.out]; rfl, rfl⟩
       ·have hc0' : ((c : Int) == 0) = false := by simp; omega
        clear hz
        go_wp2
        go_ret3
        exact ⟨by rw [HF.out]; rfl, rfl⟩
  ·have HF : Hid (numAt B = (0, 0, 20)) := by
    have h1 := HX.out.2
    rw [numGo_end B k x (by have := HN.out; omega)] at h1
    exact h1.symm
   clear HX
   go_wp2
   go_ret3
   exact ⟨by rw [HF.out]; rfl, rfl⟩
end Go.Proofs.YtggpaljilpbmhaaGreatDoor
