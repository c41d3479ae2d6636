import Derived.Test.YtidhondcfagoaaaDoorM6
import Derived.Deep.RegionWith
namespace Go.Proofs.YtidhondcfagoaaaDoor
open Go.RowKit Crc

/-- A reader's state. -/
structure RS where
  made : Bool
  place : Int
  why : Int
  B : List Nat
  pos : Nat
  K : Kd
def RS.sound (s : RS) : Prop := s.made = true ∧ s.why = 0
instance (s : RS) : Decidable s.sound := by unfold RS.sound; exact inferInstance
def RS.rest (s : RS) : List Nat := restB s.made s.why s.B s.pos
def RS.step (s : RS) (size : Nat) (why : Int) : RS := if s.sound then (if why = 0 then { s with pos := s.pos + size } else { s with place := s.pos, why := why }) else s
def RdS (lim : Nat) (w : World) (p : Nat) (s : RS) : Prop := Rd s.K lim w p s.made s.place s.why s.B s.pos

theorem high_sh {lim : Nat} {w : World} {ao : Option Addr} {n cap : Nat} {B : List Nat} (h : Shows lim w ao n cap B) (hl : n ≤ 8) :
    Calls Tryd.prog 18 #[.slice ao n cap] w fun e w' => e = .returned (.int .u64 (hi B : Nat)) ∧ w' = w := by
  obtain ⟨h1, h2, h3, h4, b, off, h5, h6, h7⟩ := h
  exact high_all b off ao B n cap w h5 h1 hl h4 h7

set_option maxRecDepth 10000 in
set_option maxHeartbeats 400000 in
theorem fail_sound (p : Nat) (place v y : Int) (w : World) (h0 : w.cell? ⟨p, 0, none⟩ = some (.bool true)) (h1 : w.cell? ⟨p, 1, none⟩ = some (.int .i64 place)) (h2 : w.cell? ⟨p, 2, none⟩ = some (.int .i64 0)) (f1 : w.frozen? ⟨p, 1, none⟩ = false) (f2 : w.frozen? ⟨p, 2, none⟩ = false) :
    Calls Tryd.prog 61 #[.pointer (some ⟨p, 0, none⟩), .int .i64 v, .int .i64 y] w fun e w' => e = .returned (.tuple #[]) ∧ w' = (w.setCell ⟨p, 1, none⟩ (.int .i64 v)).setCell ⟨p, 2, none⟩ (.int .i64 y) := by
  have HSD := hide (sound_any p true 0 w h0 h2)
  go_enter Tryd.func61, Tryd.ntmps61
  go_wp2_with fail
  refine HSD.out.mono ?_
  rintro e w1 ⟨rfl, rfl⟩
  go_wp2
  go_end0
  exact ⟨rfl, rfl⟩

set_option maxRecDepth 10000 in
set_option maxHeartbeats 400000 in
theorem bytesAhead_any {lim : Nat} {w : World} {ao : Option Addr} {n cap : Nat} {B : List Nat} (k : Nat) (hk : 0 < k) (hk8 : k ≤ 8) (h : Shows lim w ao n cap B) :
    Calls Tryd.prog 75 #[.slice ao n cap, .int .i64 (k : Int)] w fun e w' => ∃ a2 n2 c2, e = .returned (.tuple #[.slice a2 n2 c2, .int .i64 (if n < k then 20 else 0)]) ∧ Shows lim w a2 n2 c2 (if n < k then [] else B.take k) ∧ n2 ≤ 8 ∧ w' = w := by
  obtain ⟨h1, h2, h3, h4, b, off, h5, h6, h7⟩ := h
  have HN := hide h1
  clear h1
  by_cases hz : n < k
  · have d : decide ((n : Int) < (k : Int)) = true := by simp; omega
    rw [if_pos hz, if_pos hz]
    clear h5 h6 h7 h4
    go_enter Tryd.func75, Tryd.ntmps75
    go_wp2
    go_ret2
    exact ⟨_, _, _, rfl, shows_none, by omega, rfl⟩
  · have d : decide ((n : Int) < (k : Int)) = false := by simp; omega
    rw [if_neg hz, if_neg hz]
    obtain rfl := h5 (by omega)
    have hs : Shows lim w (some ⟨b, off, none⟩) k cap (B.take k) := by
      refine ⟨by rw [List.length_take]; have := HN.out; omega, by omega, by omega, fun x hx => h4 x (List.mem_of_mem_take hx), b, off, fun _ => rfl, fun _ => h6 (by omega), fun i hi => ?_⟩
      rw [getD_take hi]
      exact h7 i (by omega)
    have HS := hide hs
    clear hs h5 h6 h7 h4
    have hkc : (k : Int) ≤ (cap : Int) := by omega
    have hk0 : (0 : Int) ≤ (k : Int) := by omega
    go_enter Tryd.func75, Tryd.ntmps75
    go_wp2
    go_ret2
    exact ⟨_, _, _, rfl, HS.out, hk8, rfl⟩

theorem restB_sound {made : Bool} {why : Int} {B : List Nat} {pos : Nat} (h : ¬ (made = true ∧ why = 0)) : restB made why B pos = [] := by unfold restB; rw [if_neg h]

set_option maxRecDepth 10000 in
set_option maxHeartbeats 800000 in
theorem step_any (lim p : Nat) (s : RS) (size : Nat) (zi why : Int) (w : World) (hR : RdS lim w p s) (hzi : zi = (size : Int)) (hsz : s.sound → why = 0 → s.pos + size ≤ s.B.length) :
    Calls Tryd.prog 72 #[.pointer (some ⟨p, 0, none⟩), .int .i64 zi, .int .i64 why] w fun e w' => e = .returned (.tuple #[]) ∧ RdS lim w' p (s.step size why) ∧ w.grownBy w' (some p) := by
  subst hzi
  obtain ⟨made, place, why0, B, pos, K⟩ := s
  obtain ⟨ao, cap, hb, hS, hp, hl⟩ := hR
  simp only at hb hS hp hl hsz
  have c0 := block_cell hb 0
  have c1 := block_cell hb 1
  have c2 := block_cell hb 2
  have c4 := block_cell hb 4
  have f1 := block_free hb 1
  have f2 := block_free hb 2
  have f4 := block_free hb 4
  simp at c0 c1 c2 c4
  have HSD := hide (sound_any p made why0 w c0 c2)
  have hlen := hS.2.2.1
  by_cases hd : made = true ∧ why0 = 0
  · obtain ⟨rfl, rfl⟩ := hd
    by_cases hw : why = 0
    · subst hw
      have hpz := hsz ⟨rfl, rfl⟩ rfl
      have HF : Hid (RdS lim (w.setCell ⟨p, 4, none⟩ (.int .i64 ((pos : Int) + (size : Int)))) p (RS.step ⟨true, place, 0, B, pos, K⟩ size 0) ∧ w.grownBy (w.setCell ⟨p, 4, none⟩ (.int .i64 ((pos : Int) + (size : Int)))) (some p)) := by
        refine ⟨?_, grown_set _ _ _ _⟩
        rw [show RS.step ⟨true, place, 0, B, pos, K⟩ size 0 = ⟨true, place, 0, B, pos + size, K⟩ from rfl]
        refine ⟨ao, cap, ?_, ?_, hpz, hl⟩
        · rw [heap_setCell_same w p 4 _ _ _ hb]; simp
        · exact hS.kept (grown_set _ _ _ _) (fun g hg => by cases hg; exact hl)
      have hpB : (pos : Int) + (size : Int) ≤ 140737488355328 := by omega
      clear hb hS hp hsz hlen hpz
      go_enter Tryd.func72, Tryd.ntmps72
      go_wp2_with fail
      refine HSD.out.mono ?_
      rintro e w1 ⟨rfl, rfl⟩
      go_wp2
      go_end0
      exact ⟨rfl, HF.out⟩
    · have HF : Hid (∀ q, RdS lim (((w.drewN q).setCell ⟨p, 1, none⟩ (.int .i64 (pos : Int))).setCell ⟨p, 2, none⟩ (.int .i64 why)) p (RS.step ⟨true, place, 0, B, pos, K⟩ size why) ∧ w.grownBy (((w.drewN q).setCell ⟨p, 1, none⟩ (.int .i64 (pos : Int))).setCell ⟨p, 2, none⟩ (.int .i64 why)) (some p)) := by
        intro q
        have hb1 : ((w.drewN q).setCell ⟨p, 1, none⟩ (.int .i64 (pos : Int))).heap[p]? = some (.cells (List.toArray (.bool true :: .int .i64 (pos : Int) :: .int .i64 0 :: .slice ao B.length cap :: .int .i64 (pos : Int) :: K.R)) K.t (0, 0)) := by
          rw [heap_setCell_same (w.drewN q) p 1 _ _ _ (show (w.drewN q).heap[p]? = _ from hb)]; simp
        refine ⟨?_, grown_trans (row := some p) (grown_trans (a := w) (b := w.drewN q) (row := some p) ⟨rfl, rfl, rfl, Nat.le_refl _, fun _ _ _ => rfl⟩ (grown_set (w.drewN q) _ _ _)) (grown_set _ _ _ _)⟩
        rw [show RS.step ⟨true, place, 0, B, pos, K⟩ size why = ⟨true, pos, why, B, pos, K⟩ by simp [RS.step, RS.sound, hw]]
        refine ⟨ao, cap, ?_, ?_, hp, hl⟩
        · rw [heap_setCell_same _ p 2 _ _ _ hb1]; simp
        · exact ((hS.world (w' := w.drewN q) rfl).kept (grown_set _ _ _ _) (fun g hg => by cases hg; exact hl)).kept (grown_set _ _ _ _) (fun g hg => by cases hg; exact hl)
      have hwb : (why == 0) = false := by simp [hw]
      have HFA := hide (fun q => fail_sound p place pos why (w.drewN q) c0 c1 c2 f1 f2)
      clear c0 c1 c2 f1 f2 f4
      clear hb hS hp hsz hlen hw
      go_enter Tryd.func72, Tryd.ntmps72
      go_wp2_with fail
      refine HSD.out.mono ?_
      rintro e w1 ⟨rfl, rfl⟩
      go_wp2_with fail
      go_region_with (go_at_call 61; refine (HFA.out 1).mono ?_; rintro e w2 ⟨rfl, rfl⟩)
      all_goals go_wp2
      all_goals go_end0
      all_goals exact ⟨rfl, HF.out 1⟩
  · have hsb : (made && (why0 == 0)) = false := by
      cases made
      · rfl
      · simp at hd; simp [hd]
    rw [hsb] at HSD
    have HF : Hid (RdS lim w p (RS.step ⟨made, place, why0, B, pos, K⟩ size why) ∧ w.grownBy w (some p)) := by
      rw [show RS.step ⟨made, place, why0, B, pos, K⟩ size why = ⟨made, place, why0, B, pos, K⟩ from if_neg hd]
      exact ⟨⟨ao, cap, hb, hS.world rfl, hp, hl⟩, rfl, rfl, rfl, Nat.le_refl _, fun _ _ _ => rfl⟩
    clear hb hS hp hsz hlen hd hsb
    go_enter Tryd.func72, Tryd.ntmps72
    go_wp2_with fail
    refine HSD.out.mono ?_
    rintro e w1 ⟨rfl, rfl⟩
    go_wp2
    go_end0
    exact ⟨rfl, HF.out⟩
end Go.Proofs.YtidhondcfagoaaaDoor
namespace Go.Proofs.YtidhondcfagoaaaDoor
open Go.RowKit Crc

def aheadV (B : List Nat) (k : Nat) : List Nat := if B.length < k then [] else B.take k
def aheadW (B : List Nat) (k : Nat) : Int := if B.length < k then 20 else 0
theorem rest_len {s : RS} (h : s.sound) : s.rest.length = s.B.length - s.pos := by
  unfold RS.rest restB; rw [if_pos (show s.made = true ∧ s.why = 0 from h), List.length_drop]
theorem rest_lt {lim : Nat} {w : World} {p : Nat} {s : RS} (h : RdS lim w p s) : (∀ x ∈ s.rest, x < 256) ∧ s.rest.length ≤ 140737488355328 := by
  obtain ⟨ao, cap, hb, hS, hp, hl⟩ := h
  unfold RS.rest restB
  split
  · exact ⟨fun x hx => hS.2.2.2.1 x (List.mem_of_mem_drop hx), by have := hS.2.2.1; rw [List.length_drop]; omega⟩
  · simp
theorem RdS.limp {lim : Nat} {w : World} {p : Nat} {s : RS} (h : RdS lim w p s) : lim ≤ p := by obtain ⟨ao, cap, hb, hS, hp, hl⟩ := h; exact hl
theorem RdS.pos {lim : Nat} {w : World} {p : Nat} {s : RS} (h : RdS lim w p s) : s.pos ≤ s.B.length := by obtain ⟨ao, cap, hb, hS, hp, hl⟩ := h; exact hp
theorem grown_from {a b : World} {q : Nat} {row : Option Nat} (h : (a.drewN q).grownBy b row) : a.grownBy b row := ⟨h.os, h.tape, h.output, h.size, h.block⟩

set_option maxRecDepth 10000 in
set_option maxHeartbeats 800000 in
theorem fixed_any (lim p : Nat) (s : RS) (k : Nat) (ki : Int) (w : World) (hki : ki = (k : Int)) (hk : 0 < k) (hk8 : k ≤ 8) (hR : RdS lim w p s) :
    Calls Tryd.prog 78 #[.pointer (some ⟨p, 0, none⟩), .int .i64 ki] w fun e w' => e = .returned (.int .u64 (hi (aheadV s.rest k) : Nat)) ∧ RdS lim w' p (s.step k (aheadW s.rest k)) ∧ w.grownBy w' (some p) := by
  subst hki
  have HRS := hide (rest_any lim p s.made s.place s.why s.B s.pos w hR)
  have HST := hide (fun q => step_any lim p s k k (aheadW s.rest k) (w.drewN q) (Rd.world hR rfl) rfl (by
    intro h1 h2
    have h3 := rest_len h1
    have h4 := hR.pos
    unfold aheadW at h2
    split at h2
    · cases h2
    · omega))
  have HL := hide hR.limp
  clear hR
  go_enter Tryd.func78, Tryd.ntmps78
  go_wp2_with fail
  refine HRS.out.mono ?_
  rintro e w1 ⟨a1, n1, c1, rfl, hs1, q, rfl⟩
  have HS1 := hide (hs1.world (w' := w.drewN q) rfl)
  have HN1 : Hid (n1 = s.rest.length) := hs1.1
  clear hs1
  go_wp2_with fail
  refine (bytesAhead_any k hk hk8 HS1.out).mono ?_
  rintro e w2 ⟨a2, n2, c2, rfl, hs2, hn2, rfl⟩
  have HS2 : Hid (Shows lim (w.drewN q) a2 n2 c2 (aheadV s.rest k)) := by unfold aheadV; rw [← HN1.out]; exact hs2
  have HW : Hid ((if n1 < k then (20 : Int) else 0) = aheadW s.rest k) := by show _ = _; unfold aheadW; rw [HN1.out]
  rw [HW.out]
  clear hs2 HS1 HW
  go_wp2_with fail
  refine (HST.out q).mono ?_
  rintro e w3 ⟨rfl, hr3, hg3⟩
  have HR3 := hide hr3
  have HG3 := hide hg3
  have HS3 := hide (HS2.out.kept hg3 (fun g hg => by cases hg; exact HL.out))
  clear hr3 hg3
  go_wp2_with fail
  refine (high_sh HS3.out hn2).mono ?_
  rintro e w4 ⟨rfl, rfl⟩
  go_wp2
  go_ret
  exact ⟨rfl, HR3.out, grown_from HG3.out⟩

theorem hi_take_lt {B : List Nat} {k : Nat} (h : ∀ x ∈ B, x < 256) : hi (aheadV B k) < 256 ^ k := by
  unfold aheadV
  split
  · exact Nat.pow_pos (by omega)
  · have := hi_lt (B.take k) (fun x hx => h x (List.mem_of_mem_take hx))
    rw [List.length_take, Nat.min_eq_left (by omega)] at this
    exact this

set_option maxRecDepth 10000 in
set_option maxHeartbeats 400000 in
theorem rU8_any (lim p : Nat) (s : RS) (w : World) (hR : RdS lim w p s) :
    Calls Tryd.prog 68 #[.pointer (some ⟨p, 0, none⟩)] w fun e w' => e = .returned (.int .u8 (hi (aheadV s.rest 1) : Nat)) ∧ RdS lim w' p (s.step 1 (aheadW s.rest 1)) ∧ w.grownBy w' (some p) := by
  have hlt := hi_take_lt (k := 1) (rest_lt hR).1
  have HF := hide (fixed_any lim p s 1 1 w rfl (by omega) (by omega) hR)
  clear hR
  generalize hi (aheadV s.rest 1) = x at *
  have hm : (x : Int) % 256 = (x : Int) := by omega
  go_enter Tryd.func68, Tryd.ntmps68
  go_wp2_with fail
  refine HF.out.mono ?_
  rintro e w1 ⟨rfl, hr, hg⟩
  go_wp2
  go_ret
  exact ⟨by go_num, hr, hg⟩
/-- A truth at the head of bytes. -/
def flagV (B : List Nat) : Bool := match B with | [] => false | c :: _ => c == 1
def flagW (B : List Nat) : Int := match B with | [] => 20 | c :: _ => if 1 < c then 26 else 0

set_option maxRecDepth 10000 in
set_option maxHeartbeats 400000 in
theorem flagAhead_any {lim : Nat} {w : World} {ao : Option Addr} {n cap : Nat} {B : List Nat} (h : Shows lim w ao n cap B) :
    Calls Tryd.prog 77 #[.slice ao n cap] w fun e w' => e = .returned (.tuple #[.bool (flagV B), .int .i64 (flagW B)]) ∧ ∃ q, w' = w.drewN q := by
  obtain ⟨h1, h2, h3, h4, b, off, h5, h6, h7⟩ := h
  cases B with
  | nil =>
    simp at h1
    subst h1
    clear h5 h6
    go_enter Tryd.func77, Tryd.ntmps77
    go_wp2
    go_ret2
    exact ⟨rfl, 0, rfl⟩
  | cons c r =>
    have hn : 0 < n := by simp at h1; omega
    obtain rfl := h5 hn
    have hc := h7 0 hn
    simp at hc
    have hc256 := h4 c (by simp)
    have hz : ((n : Int) == 0) = false := by simp; omega
    have hni : (0 : Int) < (n : Int) := by omega
    clear h1 h5 h6 h7 h4
    by_cases hb : 1 < c
    · have d : decide ((1 : Int) < (c : Int)) = true := by simp; omega
      have HV : Hid (flagV (c :: r) = false) := by show _ = _; simp [flagV]; omega
      have HW : Hid (flagW (c :: r) = 26) := by show _ = _; simp [flagW, hb]
      go_enter Tryd.func77, Tryd.ntmps77
      go_wp2
      go_ret2
      exact ⟨by rw [HV.out, HW.out]; rfl, 0, rfl⟩
    · have d : decide ((1 : Int) < (c : Int)) = false := by simp; omega
      have HV : Hid (flagV (c :: r) = ((c : Int) == 1)) := by
        show _ = _
        show (c == 1) = _
        rw [Bool.eq_iff_iff, beq_iff_eq, beq_iff_eq]; omega
      have HW : Hid (flagW (c :: r) = 0) := by show _ = _; simp [flagW, hb]
      go_enter Tryd.func77, Tryd.ntmps77
      go_wp2
      go_ret2
      exact ⟨by rw [HV.out, HW.out]; rfl, 0, rfl⟩
end Go.Proofs.YtidhondcfagoaaaDoor
