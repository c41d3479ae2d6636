import Derived.Test.YtlidehhcoepikaaGreatDoorM1
import Derived.Deep.RegionWith
namespace Go.Proofs.YtlidehhcoepikaaGreatDoor
open Go.RowKit Crc

/-- A reader as it lies. -/
def Rd (K : Kd) (lim : Nat) (w : World) (p : Nat) (made : Bool) (place why : Int) (B : List Nat) (pos : Nat) : Prop :=
  ∃ ao cap, w.heap[p]? = some (.cells (List.toArray (.bool made :: .int .i64 place :: .int .i64 why :: .slice ao B.length cap :: .int .i64 (pos : Int) :: K.R)) K.t (0, 0)) ∧ Shows lim w ao B.length cap B ∧ pos ≤ B.length ∧ lim ≤ p
variable {K : Kd}
def restB (made : Bool) (why : Int) (B : List Nat) (pos : Nat) : List Nat := if made = true ∧ why = 0 then B.drop pos else []

theorem Rd.world {lim : Nat} {w w' : World} {p : Nat} {made : Bool} {place why : Int} {B : List Nat} {pos : Nat} (h : Rd K lim w p made place why B pos) (he : w'.heap = w.heap) : Rd K lim w' p made place why B pos := by
  obtain ⟨ao, cap, hb, hS, hp, hl⟩ := h
  exact ⟨ao, cap, by rw [he]; exact hb, hS.world he, hp, hl⟩
theorem shows_drop {lim : Nat} {w : World} {ao : Option Addr} {n cap : Nat} {B : List Nat} (h : Shows lim w ao n cap B) {b off k : Nat} (hao : ao = some ⟨b, off, none⟩) (hk : k ≤ n) (hkc : 0 < n) : Shows lim w (some ⟨b, off + k, none⟩) (n - k) (cap - k) (B.drop k) := by
  obtain ⟨h1, h2, h3, h4, b', off', h5, h6, h7⟩ := h
  have e := h5 hkc
  rw [hao] at e
  cases e
  refine ⟨by rw [List.length_drop]; omega, by omega, by omega, fun x hx => h4 x (List.mem_of_mem_drop hx), b, off + k, fun _ => rfl, fun _ => h6 hkc, fun i hi => ?_⟩
  rw [List.getD_eq_getElem?_getD, List.getElem?_drop, ← List.getD_eq_getElem?_getD, Nat.add_assoc]
  exact h7 (k + i) (by omega)
theorem shows_none {lim : Nat} {w : World} {ao : Option Addr} {cap : Nat} : Shows lim w ao 0 cap [] := ⟨rfl, by omega, by omega, by simp, 0, 0, fun h => by omega, fun h => by omega, fun i hi => by omega⟩

set_option maxRecDepth 10000 in
set_option maxHeartbeats 800000 in
theorem rest_any (lim p : Nat) (made : Bool) (place why : Int) (B : List Nat) (pos : Nat) (w : World) (hR : Rd K lim w p made place why B pos) :
    Calls Tryz.prog 113 #[.pointer (some ⟨p, 0, none⟩)] w fun e w' => ∃ ao n cap, e = .returned (.slice ao n cap) ∧ Shows lim w ao n cap (restB made why B pos) ∧ ∃ q, w' = w.drewN q := by
  obtain ⟨ao, cap, hb, hS, hp, hl⟩ := hR
  have c0 := block_cell hb 0
  have c2 := block_cell hb 2
  have c3 := block_cell hb 3
  have c4 := block_cell hb 4
  simp at c0 c2 c3 c4
  have HSD := hide (sound_any p made why w c0 c2)
  have HS := hide hS
  have hlen := hS.2.2.1
  have hcapl := hS.2.1
  clear hb hS
  by_cases hd : made = true ∧ why = 0
  · obtain ⟨rfl, rfl⟩ := hd
    have HRB : Hid (restB true 0 B pos = B.drop pos) := by simp [restB, Hid]
    have h1 : (0 : Int) ≤ (pos : Int) := by omega
    have h2 : (pos : Int) ≤ (B.length : Int) := by omega
    by_cases hz : B.length = 0
    · have HB0 : Hid (B = []) := List.eq_nil_of_length_eq_zero hz
      obtain rfl : pos = 0 := by omega
      rw [hz] at c3 h2
      clear hz hlen hcapl
      go_enter Tryz.func113, Tryz.ntmps113
      go_wp2_with fail
      refine HSD.out.mono ?_
      rintro e w1 ⟨rfl, rfl⟩
      go_wp2_with fail
      go_quiet (fail)
      go_wp2
      go_ret
      refine ⟨_, _, _, rfl, ?_, _, rfl⟩
      rw [HRB.out, HB0.out]
      exact shows_none
    · obtain ⟨b, off, hao⟩ : ∃ b off, ao = some ⟨b, off, none⟩ := by
        obtain ⟨_, _, _, _, b, off, h5, _, _⟩ := HS.out
        exact ⟨b, off, h5 (by omega)⟩
      subst hao
      have HFI := hide (shows_drop HS.out rfl hp (by omega))
      obtain ⟨n, hn⟩ : ∃ n, n = B.length := ⟨_, rfl⟩
      rw [← hn] at c3 hlen hcapl h2 hp hz HFI
      have HN := hide hn
      clear hn HS
      by_cases hce : cap = pos
      · have HBD : Hid (B.drop pos = []) := by
          apply List.drop_eq_nil_of_le
          have := HN.out; omega
        subst hce
        go_enter Tryz.func113, Tryz.ntmps113
        go_wp2_with fail
        refine HSD.out.mono ?_
        rintro e w1 ⟨rfl, rfl⟩
        go_wp2_with fail
        go_quiet (fail)
        go_wp2
        go_ret
        obtain rfl : n = cap := by omega
        refine ⟨_, _, _, rfl, ?_, _, rfl⟩
        rw [HRB.out, HBD.out]
        exact shows_none
      · go_enter Tryz.func113, Tryz.ntmps113
        go_wp2_with fail
        refine HSD.out.mono ?_
        rintro e w1 ⟨rfl, rfl⟩
        go_wp2_with fail
        go_quiet (fail)
        go_wp2
        go_ret
        refine ⟨_, _, _, rfl, ?_, _, rfl⟩
        rw [HRB.out]
        exact HFI.out
  · have HRB : Hid (restB made why B pos = []) := by show _ = _; unfold restB; rw [if_neg hd]
    have hsb : (made && (why == 0)) = false := by
      cases made
      · rfl
      · simp at hd; simp [hd]
    rw [hsb] at HSD
    clear hd hsb
    go_enter Tryz.func113, Tryz.ntmps113
    go_wp2_with fail
    refine HSD.out.mono ?_
    rintro e w1 ⟨rfl, rfl⟩
    go_wp2
    go_ret
    refine ⟨_, _, _, rfl, ?_, 0, rfl⟩
    rw [HRB.out]
    exact shows_none
end Go.Proofs.YtlidehhcoepikaaGreatDoor
namespace Go.Proofs.YtlidehhcoepikaaGreatDoor
open Go.RowKit Crc

set_option maxRecDepth 10000 in
set_option maxHeartbeats 400000 in
theorem high_all (b off : Nat) (ao : Option Addr) (B : List Nat) (n cap : Nat) (w : World) (hao : 0 < n → ao = some ⟨b, off, none⟩) (hn : n = B.length) (hl : n ≤ 8) (hB : ∀ x ∈ B, x < 256)
  (hc : ∀ i, i < n → w.cell? ⟨b, off + i, none⟩ = some (.int .u8 ((B.getD i 0 : Nat) : Int))) :
    Calls Tryz.prog 132 #[.slice ao n cap] w fun e w' => e = .returned (.int .u64 (hi B : Nat)) ∧ w' = w := by
  have HA := hide hao
  clear hao
  have HN : Hid (n = B.length) := hn
  have HC : Hid (∀ i, i < n → w.cell? ⟨b, off + i, none⟩ = some (.int .u8 ((B.getD i 0 : Nat) : Int))) := hc
  clear hn hc
  go_enter Tryz.func132, Tryz.ntmps132
  go_wp2
  go_loop [3, 8] (fun s i => ∃ k x : Nat, k ≤ n ∧ i = .int .i64 k ∧ s = .int .u64 x ∧ Hid (x = hi (B.take k))) (fun _ i => n - (intOf i).toNat)
  case atStart => exact ⟨0, 0, Nat.zero_le _, rfl, rfl, by show _ = _; simp [hi]⟩
  case round =>
    obtain ⟨k, x, hk, rfl, rfl, HX⟩ := hrel
    by_cases hlt : k < n
    · have hck := HC.out k hlt
      obtain rfl := HA.out (by omega)
      have hcb : B.getD k 0 < 256 := getD_lt B hB k
      have hst := hi_step B k (by have := HN.out; omega)
      rw [← HX.out] at hst
      obtain ⟨c, hcd⟩ : ∃ c, c = B.getD k 0 := ⟨_, rfl⟩
      rw [← hcd] at hck hcb hst
      have hxl : x < 72057594037927936 := by
        have h1 := hi_lt (B.take k) (fun x hx => hB x (List.mem_of_mem_take hx))
        rw [← HX.out, List.length_take] at h1
        have h2 : 256 ^ min k B.length ≤ 256 ^ 7 := Nat.pow_le_pow_right (by omega) (by omega)
        omega
      have HS : Hid (x * 256 + c = hi (B.take (k + 1))) := hst.symm
      have e1 := or_u64 x c hxl hcb
      clear hst hcd HX
      go_wp2
      go_round
      case rel => exact ⟨k + 1, x * 256 + c, by omega, by go_num, rfl, HS⟩
      case measure => simp [intOf]; omega
    · have HF : Hid (x = hi B) := by
        show _ = _
        rw [HX.out, List.take_of_length_le (by have := HN.out; omega)]
      clear HX HC
      go_wp2
      go_ret
      exact ⟨by rw [← HF.out]; rfl, rfl⟩
theorem high_any (b off : Nat) (B : List Nat) (n cap : Nat) (w : World) (hn : n = B.length) (hl : n ≤ 8) (hB : ∀ x ∈ B, x < 256)
  (hc : ∀ i, i < n → w.cell? ⟨b, off + i, none⟩ = some (.int .u8 ((B.getD i 0 : Nat) : Int))) :
    Calls Tryz.prog 132 #[.slice (some ⟨b, off, none⟩) n cap] w fun e w' => e = .returned (.int .u64 (hi B : Nat)) ∧ w' = w := high_all b off _ B n cap w (fun _ => rfl) hn hl hB hc
end Go.Proofs.YtlidehhcoepikaaGreatDoor
namespace Go.Proofs.YtlidehhcoepikaaGreatDoor
open Go.RowKit Crc

/-- A reader's state. -/
structure RS where
  made : Bool
  place : Int
  why : Int
  B : List Nat
  pos : Nat
  K : Kd
def RS.sound (s : RS) : Prop := s.made = true ∧ s.why = 0
instance (s : RS) : Decidable s.sound := by unfold RS.sound; exact inferInstance
def RS.rest (s : RS) : List Nat := restB s.made s.why s.B s.pos
def RS.step (s : RS) (size : Nat) (why : Int) : RS := if s.sound then (if why = 0 then { s with pos := s.pos + size } else { s with place := s.pos, why := why }) else s
def RdS (lim : Nat) (w : World) (p : Nat) (s : RS) : Prop := Rd s.K lim w p s.made s.place s.why s.B s.pos

theorem high_sh {lim : Nat} {w : World} {ao : Option Addr} {n cap : Nat} {B : List Nat} (h : Shows lim w ao n cap B) (hl : n ≤ 8) :
    Calls Tryz.prog 132 #[.slice ao n cap] w fun e w' => e = .returned (.int .u64 (hi B : Nat)) ∧ w' = w := by
  obtain ⟨h1, h2, h3, h4, b, off, h5, h6, h7⟩ := h
  exact high_all b off ao B n cap w h5 h1 hl h4 h7

set_option maxRecDepth 10000 in
set_option maxHeartbeats 400000 in
theorem fail_sound (p : Nat) (place v y : Int) (w : World) (h0 : w.cell? ⟨p, 0, none⟩ = some (.bool true)) (h1 : w.cell? ⟨p, 1, none⟩ = some (.int .i64 place)) (h2 : w.cell? ⟨p, 2, none⟩ = some (.int .i64 0)) (f1 : w.frozen? ⟨p, 1, none⟩ = false) (f2 : w.frozen? ⟨p, 2, none⟩ = false) :
    Calls Tryz.prog 124 #[.pointer (some ⟨p, 0, none⟩), .int .i64 v, .int .i64 y] w fun e w' => e = .returned (.tuple #[]) ∧ w' = (w.setCell ⟨p, 1, none⟩ (.int .i64 v)).setCell ⟨p, 2, none⟩ (.int .i64 y) := by
  have HSD := hide (sound_any p true 0 w h0 h2)
  go_enter Tryz.func124, Tryz.ntmps124
  go_wp2_with fail
  refine HSD.out.mono ?_
  rintro e w1 ⟨rfl, rfl⟩
  go_wp2
  go_end0
  exact ⟨rfl, rfl⟩

set_option maxRecDepth 10000 in
set_option maxHeartbeats 400000 in
theorem bytesAhead_any {lim : Nat} {w : World} {ao : Option Addr} {n cap : Nat} {B : List Nat} (k : Nat) (hk : 0 < k) (hk8 : k ≤ 8) (h : Shows lim w ao n cap B) :
    Calls Tryz.prog 131 #[.slice ao n cap, .int .i64 (k : Int)] w fun e w' => ∃ a2 n2 c2, e = .returned (.tuple #[.slice a2 n2 c2, .int .i64 (if n < k then 20 else 0)]) ∧ Shows lim w a2 n2 c2 (if n < k then [] else B.take k) ∧ n2 ≤ 8 ∧ w' = w := by
  obtain ⟨h1, h2, h3, h4, b, off, h5, h6, h7⟩ := h
  have HN := hide h1
  clear h1
  by_cases hz : n < k
  · have d : decide ((n : Int) < (k : Int)) = true := by simp; omega
    rw [if_pos hz, if_pos hz]
    clear h5 h6 h7 h4
    go_enter Tryz.func131, Tryz.ntmps131
    go_wp2
    go_ret2
    exact ⟨_, _, _, rfl, shows_none, by omega, rfl⟩
  · have d : decide ((n : Int) < (k : Int)) = false := by simp; omega
    rw [if_neg hz, if_neg hz]
    obtain rfl := h5 (by omega)
    have hs : Shows lim w (some ⟨b, off, none⟩) k cap (B.take k) := by
      refine ⟨by rw [List.length_take]; have := HN.out; omega, by omega, by omega, fun x hx => h4 x (List.mem_of_mem_take hx), b, off, fun _ => rfl, fun _ => h6 (by omega), fun i hi => ?_⟩
      rw [getD_take hi]
      exact h7 i (by omega)
    have HS := hide hs
    clear hs h5 h6 h7 h4
    have hkc : (k : Int) ≤ (cap : Int) := by omega
    have hk0 : (0 : Int) ≤ (k : Int) := by omega
    go_enter Tryz.func131, Tryz.ntmps131
    go_wp2
    go_ret2
    exact ⟨_, _, _, rfl, HS.out, hk8, rfl⟩

theorem restB_sound {made : Bool} {why : Int} {B : List Nat} {pos : Nat} (h : ¬ (made = true ∧ why = 0)) : restB made why B pos = [] := by unfold restB; rw [if_neg h]

set_option maxRecDepth 10000 in
set_option maxHeartbeats 800000 in
theorem step_any (lim p : Nat) (s : RS) (size : Nat) (zi why : Int) (w : World) (hR : RdS lim w p s) (hzi : zi = (size : Int)) (hsz : s.sound → why = 0 → s.pos + size ≤ s.B.length) :
    Calls Tryz.prog 114 #[.pointer (some ⟨p, 0, none⟩), .int .i64 zi, .int .i64 why] w fun e w' => e = .returned (.tuple #[]) ∧ RdS lim w' p (s.step size why) ∧ w.grownBy w' (some p) := by
  subst hzi
  obtain ⟨made, place, why0, B, pos, K⟩ := s
  obtain ⟨ao, cap, hb, hS, hp, hl⟩ := hR
  simp only at hb hS hp hl hsz
  have c0 := block_cell hb 0
  have c1 := block_cell hb 1
  have c2 := block_cell hb 2
  have c4 := block_cell hb 4
  have f1 := block_free hb 1
  have f2 := block_free hb 2
  have f4 := block_free hb 4
  simp at c0 c1 c2 c4
  have HSD := hide (sound_any p made why0 w c0 c2)
  have hlen := hS.2.2.1
  by_cases hd : made = true ∧ why0 = 0
  · obtain ⟨rfl, rfl⟩ := hd
    by_cases hw : why = 0
    · subst hw
      have hpz := hsz ⟨rfl, rfl⟩ rfl
      have HF : Hid (RdS lim (w.setCell ⟨p, 4, none⟩ (.int .i64 ((pos : Int) + (size : Int)))) p (RS.step ⟨true, place, 0, B, pos, K⟩ size 0) ∧ w.grownBy (w.setCell ⟨p, 4, none⟩ (.int .i64 ((pos : Int) + (size : Int)))) (some p)) := by
        refine ⟨?_, grown_set _ _ _ _⟩
        rw [show RS.step ⟨true, place, 0, B, pos, K⟩ size 0 = ⟨true, place, 0, B, pos + size, K⟩ from rfl]
        refine ⟨ao, cap, ?_, ?_, hpz, hl⟩
        · rw [heap_setCell_same w p 4 _ _ _ hb]; simp
        · exact hS.kept (grown_set _ _ _ _) (fun g hg => by cases hg; exact hl)
      have hpB : (pos : Int) + (size : Int) ≤ 140737488355328 := by omega
      clear hb hS hp hsz hlen hpz
      go_enter Tryz.func114, Tryz.ntmps114
      go_wp2_with fail
      refine HSD.out.mono ?_
      rintro e w1 ⟨rfl, rfl⟩
      go_wp2
      go_end0
      exact ⟨rfl, HF.out⟩
    · have HF : Hid (∀ q, RdS lim (((w.drewN q).setCell ⟨p, 1, none⟩ (.int .i64 (pos : Int))).setCell ⟨p, 2, none⟩ (.int .i64 why)) p (RS.step ⟨true, place, 0, B, pos, K⟩ size why) ∧ w.grownBy (((w.drewN q).setCell ⟨p, 1, none⟩ (.int .i64 (pos : Int))).setCell ⟨p, 2, none⟩ (.int .i64 why)) (some p)) := by
        intro q
        have hb1 : ((w.drewN q).setCell ⟨p, 1, none⟩ (.int .i64 (pos : Int))).heap[p]? = some (.cells (List.toArray (.bool true :: .int .i64 (pos : Int) :: .int .i64 0 :: .slice ao B.length cap :: .int .i64 (pos : Int) :: K.R)) K.t (0, 0)) := by
          rw [heap_setCell_same (w.drewN q) p 1 _ _ _ (show (w.drewN q).heap[p]? = _ from hb)]; simp
        refine ⟨?_, grown_trans (row := some p) (grown_trans (a := w) (b := w.drewN q) (row := some p) ⟨rfl, rfl, rfl, Nat.le_refl _, fun _ _ _ => rfl⟩ (grown_set (w.drewN q) _ _ _)) (grown_set _ _ _ _)⟩
        rw [show RS.step ⟨true, place, 0, B, pos, K⟩ size why = ⟨true, pos, why, B, pos, K⟩ by simp [RS.step, RS.sound, hw]]
        refine ⟨ao, cap, ?_, ?_, hp, hl⟩
        · rw [heap_setCell_same _ p 2 _ _ _ hb1]; simp
        · exact ((hS.world (w' := w.drewN q) rfl).kept (grown_set _ _ _ _) (fun g hg => by cases hg; exact hl)).kept (grown_set _ _ _ _) (fun g hg => by cases hg; exact hl)
      have hwb : (why == 0) = false := by simp [hw]
      have HFA := hide (fun q => fail_sound p place pos why (w.drewN q) c0 c1 c2 f1 f2)
      clear c0 c1 c2 f1 f2 f4
      clear hb hS hp hsz hlen hw
      go_enter Tryz.func114, Tryz.ntmps114
      go_wp2_with fail
      refine HSD.out.mono ?_
      rintro e w1 ⟨rfl, rfl⟩
      go_wp2_with fail
      go_region_with (go_at_call 124; refine (HFA.out 1).mono ?_; rintro e w2 ⟨rfl, rfl⟩)
      all_goals go_wp2
      all_goals go_end0
      all_goals exact ⟨rfl, HF.out 1⟩
  · have hsb : (made && (why0 == 0)) = false := by
      cases made
      · rfl
      · simp at hd; simp [hd]
    rw [hsb] at HSD
    have HF : Hid (RdS lim w p (RS.step ⟨made, place, why0, B, pos, K⟩ size why) ∧ w.grownBy w (some p)) := by
      rw [show RS.step ⟨made, place, why0, B, pos, K⟩ size why = ⟨made, place, why0, B, pos, K⟩ from if_neg hd]
      exact ⟨⟨ao, cap, hb, hS.world rfl, hp, hl⟩, rfl, rfl, rfl, Nat.le_refl _, fun _ _ _ => rfl⟩
    clear hb hS hp hsz hlen hd hsb
    go_enter Tryz.func114, Tryz.ntmps114
    go_wp2_with fail
    refine HSD.out.mono ?_
    rintro e w1 ⟨rfl, rfl⟩
    go_wp2
    go_end0
    exact ⟨rfl, HF.out⟩
end Go.Proofs.YtlidehhcoepikaaGreatDoor
