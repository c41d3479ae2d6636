import Derived.Test.YthacdhhmmmocpaaGreatDoorM1
import Derived.Test.YthacdhhmmmocpaaGreatDoorM13
import Derived.Deep.RegionWith
namespace Go.Proofs.YthacdhhmmmocpaaGreatDoor
open Go.RowKit Crc

set_option maxRecDepth 10000 in
set_option maxHeartbeats 400000 in
theorem high_all (b off : Nat) (ao : Option Addr) (B : List Nat) (n cap : Nat) (w : World) (hao : 0 < n → ao = some ⟨b, off, none⟩) (hn : n = B.length) (hl : n ≤ 8) (hB : ∀ x ∈ B, x < 256)
  (hc : ∀ i, i < n → w.cell? ⟨b, off + i, none⟩ = some (.int .u8 ((B.getD i 0 : Nat) : Int))) :
    Calls Tryz.prog 76 #[.slice ao n cap] w fun e w' => e = .returned (.int .u64 (hi B : Nat)) ∧ w' = w := by
  have HA := hide hao
  clear hao
  have HN : Hid (n = B.length) := hn
  have HC : Hid (∀ i, i < n → w.cell? ⟨b, off + i, none⟩ = some (.int .u8 ((B.getD i 0 : Nat) : Int))) := hc
  clear hn hc
  go_enter Tryz.func76, Tryz.ntmps76
  go_wp2
  go_loop [3, 8] (fun s i => ∃ k x : Nat, k ≤ n ∧ i = .int .i64 k ∧ s = .int .u64 x ∧ Hid (x = hi (B.take k))) (fun _ i => n - (intOf i).toNat)
  case atStart => exact ⟨0, 0, Nat.zero_le _, rfl, rfl, by show _ = _; simp [hi]⟩
  case round =>
    obtain ⟨k, x, hk, rfl, rfl, HX⟩ := hrel
    by_cases hlt : k < n
    · have hck := HC.out k hlt
      obtain rfl := HA.out (by omega)
      have hcb : B.getD k 0 < 256 := getD_lt B hB k
      have hst := hi_step B k (by have := HN.out; omega)
      rw [← HX.out] at hst
      obtain ⟨c, hcd⟩ : ∃ c, c = B.getD k 0 := ⟨_, rfl⟩
      rw [← hcd] at hck hcb hst
      have hxl : x < 72057594037927936 := by
        have h1 := hi_lt (B.take k) (fun x hx => hB x (List.mem_of_mem_take hx))
        rw [← HX.out, List.length_take] at h1
        have h2 : 256 ^ min k B.length ≤ 256 ^ 7 := Nat.pow_le_pow_right (by omega) (by omega)
        omega
      have HS : Hid (x * 256 + c = hi (B.take (k + 1))) := hst.symm
      have e1 := or_u64 x c hxl hcb
      clear hst hcd HX
      go_wp2
      go_round
      case rel => exact ⟨k + 1, x * 256 + c, by omega, by go_num, rfl, HS⟩
      case measure => simp [intOf]; omega
    · have HF : Hid (x = hi B) := by
        show _ = _
        rw [HX.out, List.take_of_length_le (by have := HN.out; omega)]
      clear HX HC
      go_wp2
      go_ret
      exact ⟨by rw [← HF.out]; rfl, rfl⟩
theorem high_any (b off : Nat) (B : List Nat) (n cap : Nat) (w : World) (hn : n = B.length) (hl : n ≤ 8) (hB : ∀ x ∈ B, x < 256)
  (hc : ∀ i, i < n → w.cell? ⟨b, off + i, none⟩ = some (.int .u8 ((B.getD i 0 : Nat) : Int))) :
    Calls Tryz.prog 76 #[.slice (some ⟨b, off, none⟩) n cap] w fun e w' => e = .returned (.int .u64 (hi B : Nat)) ∧ w' = w := high_all b off _ B n cap w (fun _ => rfl) hn hl hB hc
end Go.Proofs.YthacdhhmmmocpaaGreatDoor
namespace Go.Proofs.YthacdhhmmmocpaaGreatDoor
open Go.RowKit Crc

/-- A reader's state. -/
structure RS where
  made : Bool
  place : Int
  why : Int
  B : List Nat
  pos : Nat
  K : Kd
def RS.sound (s : RS) : Prop := s.made = true ∧ s.why = 0
instance (s : RS) : Decidable s.sound := by unfold RS.sound; exact inferInstance
def RS.rest (s : RS) : List Nat := restB s.made s.why s.B s.pos
def RS.step (s : RS) (size : Nat) (why : Int) : RS := if s.sound then (if why = 0 then { s with pos := s.pos + size } else { s with place := s.pos, why := why }) else s
def RdS (lim : Nat) (w : World) (p : Nat) (s : RS) : Prop := Rd s.K lim w p s.made s.place s.why s.B s.pos

theorem high_sh {lim : Nat} {w : World} {ao : Option Addr} {n cap : Nat} {B : List Nat} (h : Shows lim w ao n cap B) (hl : n ≤ 8) :
    Calls Tryz.prog 76 #[.slice ao n cap] w fun e w' => e = .returned (.int .u64 (hi B : Nat)) ∧ w' = w := by
  obtain ⟨h1, h2, h3, h4, b, off, h5, h6, h7⟩ := h
  exact high_all b off ao B n cap w h5 h1 hl h4 h7

set_option maxRecDepth 10000 in
set_option maxHeartbeats 400000 in
theorem fail_sound (p : Nat) (place v y : Int) (w : World) (h0 : w.cell? ⟨p, 0, none⟩ = some (.bool true)) (h1 : w.cell? ⟨p, 1, none⟩ = some (.int .i64 place)) (h2 : w.cell? ⟨p, 2, none⟩ = some (.int .i64 0)) (f1 : w.frozen? ⟨p, 1, none⟩ = false) (f2 : w.frozen? ⟨p, 2, none⟩ = false) :
    Calls Tryz.prog 71 #[.pointer (some ⟨p, 0, none⟩), .int .i64 v, .int .i64 y] w fun e w' => e = .returned (.tuple #[]) ∧ w' = (w.setCell ⟨p, 1, none⟩ (.int .i64 v)).setCell ⟨p, 2, none⟩ (.int .i64 y) := by
  have HSD := hide (sound_any p true 0 w h0 h2)
  go_enter Tryz.func71, Tryz.ntmps71
  go_wp2_with fail
  refine HSD.out.mono ?_
  rintro e w1 ⟨rfl, rfl⟩
  go_wp2
  go_end0
  exact ⟨rfl, rfl⟩

set_option maxRecDepth 10000 in
set_option maxHeartbeats 400000 in
theorem bytesAhead_any {lim : Nat} {w : World} {ao : Option Addr} {n cap : Nat} {B : List Nat} (k : Nat) (hk : 0 < k) (hk8 : k ≤ 8) (h : Shows lim w ao n cap B) :
    Calls Tryz.prog 73 #[.slice ao n cap, .int .i64 (k : Int)] w fun e w' => ∃ a2 n2 c2, e = .returned (.tuple #[.slice a2 n2 c2, .int .i64 (if n < k then 20 else 0)]) ∧ Shows lim w a2 n2 c2 (if n < k then [] else B.take k) ∧ n2 ≤ 8 ∧ w' = w := by
  obtain ⟨h1, h2, h3, h4, b, off, h5, h6, h7⟩ := h
  have HN := hide h1
  clear h1
  by_cases hz : n < k
  · have d : decide ((n : Int) < (k : Int)) = true := by simp; omega
    rw [if_pos hz, if_pos hz]
    clear h5 h6 h7 h4
    go_enter Tryz.func73, Tryz.ntmps73
    go_wp2
    go_ret2
    exact ⟨_, _, _, rfl, shows_none, by omega, rfl⟩
  · have d : decide ((n : Int) < (k : Int)) = false := by simp; omega
    rw [if_neg hz, if_neg hz]
    obtain rfl := h5 (by omega)
    have hs : Shows lim w (some ⟨b, off, none⟩) k cap (B.take k) := by
      refine ⟨by rw [List.length_take]; have := HN.out; omega, by omega, by omega, fun x hx => h4 x (List.mem_of_mem_take hx), b, off, fun _ => rfl, fun _ => h6 (by omega), fun i hi => ?_⟩
      rw [getD_take hi]
      exact h7 i (by omega)
    have HS := hide hs
    clear hs h5 h6 h7 h4
    have hkc : (k : Int) ≤ (cap : Int) := by omega
    have hk0 : (0 : Int) ≤ (k : Int) := by omega
    go_enter Tryz.func73, Tryz.ntmps73
    go_wp2
    go_ret2
    exact ⟨_, _, _, rfl, HS.out, hk8, rfl⟩

theorem restB_sound {made : Bool} {why : Int} {B : List Nat} {pos : Nat} (h : ¬ (made = true ∧ why = 0)) : restB made why B pos = [] := by unfold restB; rw [if_neg h]

set_option maxRecDepth 10000 in
set_option maxHeartbeats 800000 in
theorem step_any (lim p : Nat) (s : RS) (size : Nat) (zi why : Int) (w : World) (hR : RdS lim w p s) (hzi : zi = (size : Int)) (hsz : s.sound → why = 0 → s.pos + size ≤ s.B.length) :
    Calls Tryz.prog 75 #[.pointer (some ⟨p, 0, none⟩), .int .i64 zi, .int .i64 why] w fun e w' => e = .returned (.tuple #[]) ∧ RdS lim w' p (s.step size why) ∧ w.grownBy w' (some p) := by
  subst hzi
  obtain ⟨made, place, why0, B, pos, K⟩ := s
  obtain ⟨ao, cap, hb, hS, hp, hl⟩ := hR
  simp only at hb hS hp hl hsz
  have c0 := block_cell hb 0
  have c1 := block_cell hb 1
  have c2 := block_cell hb 2
  have c4 := block_cell hb 4
  have f1 := block_free hb 1
  have f2 := block_free hb 2
  have f4 := block_free hb 4
  simp at c0 c1 c2 c4
  have HSD := hide (sound_any p made why0 w c0 c2)
  have hlen := hS.2.2.1
  by_cases hd : made = true ∧ why0 = 0
  · obtain ⟨rfl, rfl⟩ := hd
    by_cases hw : why = 0
    · subst hw
      have hpz := hsz ⟨rfl, rfl⟩ rfl
      have HF : Hid (RdS lim (w.setCell ⟨p, 4, none⟩ (.int .i64 ((pos : Int) + (size : Int)))) p (RS.step ⟨true, place, 0, B, pos, K⟩ size 0) ∧ w.grownBy (w.setCell ⟨p, 4, none⟩ (.int .i64 ((pos : Int) + (size : Int)))) (some p)) := by
        refine ⟨?_, grown_set _ _ _ _⟩
        rw [show RS.step ⟨true, place, 0, B, pos, K⟩ size 0 = ⟨true, place, 0, B, pos + size, K⟩ from rfl]
        refine ⟨ao, cap, ?_, ?_, hpz, hl⟩
        · rw [heap_setCell_same w p 4 _ _ _ hb]; simp
        · exact hS.kept (grown_set _ _ _ _) (fun g hg => by cases hg; exact hl)
      have hpB : (pos : Int) + (size : Int) ≤ 140737488355328 := by omega
      clear hb hS hp hsz hlen hpz
      go_enter Tryz.func75, Tryz.ntmps75
      go_wp2_with fail
      refine HSD.out.mono ?_
      rintro e w1 ⟨rfl, rfl⟩
      go_wp2
      go_end0
      exact ⟨rfl, HF.out⟩
    · have HF : Hid (∀ q, RdS lim (((w.drewN q).setCell ⟨p, 1, none⟩ (.int .i64 (pos : Int))).setCell ⟨p, 2, none⟩ (.int .i64 why)) p (RS.step ⟨true, place, 0, B, pos, K⟩ size why) ∧ w.grownBy (((w.drewN q).setCell ⟨p, 1, none⟩ (.int .i64 (pos : Int))).setCell ⟨p, 2, none⟩ (.int .i64 why)) (some p)) := by
        intro q
        have hb1 : ((w.drewN q).setCell ⟨p, 1, none⟩ (.int .i64 (pos : Int))).heap[p]? = some (.cells (List.toArray (.bool true :: .int .i64 (pos : Int) :: .int .i64 0 :: .slice ao B.length cap :: .int .i64 (pos : Int) :: K.R)) K.t (0, 0)) := by
          rw [heap_setCell_same (w.drewN q) p 1 _ _ _ (show (w.drewN q).heap[p]? = _ from hb)]; simp
        refine ⟨?_, grown_trans (row := some p) (grown_trans (a := w) (b := w.drewN q) (row := some p) ⟨rfl, rfl, rfl, Nat.le_refl _, fun _ _ _ => rfl⟩ (grown_set (w.drewN q) _ _ _)) (grown_set _ _ _ _)⟩
        rw [show RS.step ⟨true, place, 0, B, pos, K⟩ size why = ⟨true, pos, why, B, pos, K⟩ by simp [RS.step, RS.sound, hw]]
        refine ⟨ao, cap, ?_, ?_, hp, hl⟩
        · rw [heap_setCell_same _ p 2 _ _ _ hb1]; simp
        · exact ((hS.world (w' := w.drewN q) rfl).kept (grown_set _ _ _ _) (fun g hg => by cases hg; exact hl)).kept (grown_set _ _ _ _) (fun g hg => by cases hg; exact hl)
      have hwb : (why == 0) = false := by simp [hw]
      have HFA := hide (fun q => fail_sound p place pos why (w.drewN q) c0 c1 c2 f1 f2)
      clear c0 c1 c2 f1 f2 f4
      clear hb hS hp hsz hlen hw
      go_enter Tryz.func75, Tryz.ntmps75
      go_wp2_with fail
      refine HSD.out.mono ?_
      rintro e w1 ⟨rfl, rfl⟩
      go_wp2_with fail
      go_region_with (go_at_call 71; refine (HFA.out 1).mono ?_; rintro e w2 ⟨rfl, rfl⟩)
      all_goals go_wp2
      all_goals go_end0
      all_goals exact ⟨rfl, HF.out 1⟩
  · have hsb : (made && (why0 == 0)) = false := by
      cases made
      · rfl
      · simp at hd; simp [hd]
    rw [hsb] at HSD
    have HF : Hid (RdS lim w p (RS.step ⟨made, place, why0, B, pos, K⟩ size why) ∧ w.grownBy w (some p)) := by
      rw [show RS.step ⟨made, place, why0, B, pos, K⟩ size why = ⟨made, place, why0, B, pos, K⟩ from if_neg hd]
      exact ⟨⟨ao, cap, hb, hS.world rfl, hp, hl⟩, rfl, rfl, rfl, Nat.le_refl _, fun _ _ _ => rfl⟩
    clear hb hS hp hsz hlen hd hsb
    go_enter Tryz.func75, Tryz.ntmps75
    go_wp2_with fail
    refine HSD.out.mono ?_
    rintro e w1 ⟨rfl, rfl⟩
    go_wp2
    go_end0
    exact ⟨rfl, HF.out⟩
end Go.Proofs.YthacdhhmmmocpaaGreatDoor
