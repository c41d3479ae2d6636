import Derived.Test.YtgdliomkdkjlaaaPReaderB
namespace Go.Proofs.Ytgdliomkdkjlaaa
open Go.RowKit Crc

def aheadV (B : List Nat) (k : Nat) : List Nat := if B.length < k then [] else B.take k
def aheadW (B : List Nat) (k : Nat) : Int := if B.length < k then 20 else 0
theorem rest_len {s : RS} (h : s.sound) : s.rest.length = s.B.length - s.pos := by
  unfold RS.rest restB; rw [if_pos (show s.made = true ∧ s.why = 0 from h), List.length_drop]
theorem rest_lt {lim : Nat} {w : World} {p : Nat} {s : RS} (h : RdS lim w p s) : (∀ x ∈ s.rest, x < 256) ∧ s.rest.length ≤ 140737488355328 := by
  obtain ⟨ao, cap, hb, hS, hp, hl⟩ := h
  unfold RS.rest restB
  split
  · exact ⟨fun x hx => hS.2.2.2.1 x (List.mem_of_mem_drop hx), by have := hS.2.2.1; rw [List.length_drop]; omega⟩
  · simp
theorem RdS.limp {lim : Nat} {w : World} {p : Nat} {s : RS} (h : RdS lim w p s) : lim ≤ p := by obtain ⟨ao, cap, hb, hS, hp, hl⟩ := h; exact hl
theorem RdS.pos {lim : Nat} {w : World} {p : Nat} {s : RS} (h : RdS lim w p s) : s.pos ≤ s.B.length := by obtain ⟨ao, cap, hb, hS, hp, hl⟩ := h; exact hp
theorem grown_from {a b : World} {q : Nat} {row : Option Nat} (h : (a.drewN q).grownBy b row) : a.grownBy b row := ⟨h.os, h.tape, h.output, h.size, h.block⟩

set_option maxRecDepth 10000 in
set_option maxHeartbeats 800000 in
theorem fixed_any (lim p : Nat) (s : RS) (k : Nat) (ki : Int) (w : World) (hki : ki = (k : Int)) (hk : 0 < k) (hk8 : k ≤ 8) (hR : RdS lim w p s) :
    Calls Try.prog 91 #[.pointer (some ⟨p, 0, none⟩), .int .i64 ki] w fun e w' => e = .returned (.int .u64 (hi (aheadV s.rest k) : Nat)) ∧ RdS lim w' p (s.step k (aheadW s.rest k)) ∧ w.grownBy w' (some p) := by
  subst hki
  have HRS := hide (rest_any lim p s.made s.place s.why s.B s.pos w hR)
  have HST := hide (fun q => step_any lim p s k k (aheadW s.rest k) (w.drewN q) (Rd.world hR rfl) rfl (by
    intro h1 h2
    have h3 := rest_len h1
    have h4 := hR.pos
    unfold aheadW at h2
    split at h2
    · cases h2
    · omega))
  have HL := hide hR.limp
  clear hR
  go_enter Try.func91, Try.ntmps91
  go_wp2_with fail
  refine HRS.out.mono ?_
  rintro e w1 ⟨a1, n1, c1, rfl, hs1, q, rfl⟩
  have HS1 := hide (hs1.world (w' := w.drewN q) rfl)
  have HN1 : Hid (n1 = s.rest.length) := hs1.1
  clear hs1
  go_wp2_with fail
  refine (bytesAhead_any k hk hk8 HS1.out).mono ?_
  rintro e w2 ⟨a2, n2, c2, rfl, hs2, hn2, rfl⟩
  have HS2 : Hid (Shows lim (w.drewN q) a2 n2 c2 (aheadV s.rest k)) := by unfold aheadV; rw [← HN1.out]; exact hs2
  have HW : Hid ((if n1 < k then (20 : Int) else 0) = aheadW s.rest k) := by show _ = _; unfold aheadW; rw [HN1.out]
  rw [HW.out]
  clear hs2 HS1 HW
  go_wp2_with fail
  refine (HST.out q).mono ?_
  rintro e w3 ⟨rfl, hr3, hg3⟩
  have HR3 := hide hr3
  have HG3 := hide hg3
  have HS3 := hide (HS2.out.kept hg3 (fun g hg => by cases hg; exact HL.out))
  clear hr3 hg3
  go_wp2_with fail
  refine (high_sh HS3.out hn2).mono ?_
  rintro e w4 ⟨rfl, rfl⟩
  go_wp2
  go_ret
  exact ⟨rfl, HR3.out, grown_from HG3.out⟩

theorem hi_take_lt {B : List Nat} {k : Nat} (h : ∀ x ∈ B, x < 256) : hi (aheadV B k) < 256 ^ k := by
  unfold aheadV
  split
  · exact Nat.pow_pos (by omega)
  · have := hi_lt (B.take k) (fun x hx => h x (List.mem_of_mem_take hx))
    rw [List.length_take, Nat.min_eq_left (by omega)] at this
    exact this

set_option maxRecDepth 10000 in
set_option maxHeartbeats 400000 in
theorem rU8_any (lim p : Nat) (s : RS) (w : World) (hR : RdS lim w p s) :
    Calls Try.prog 66 #[.pointer (some ⟨p, 0, none⟩)] w fun e w' => e = .returned (.int .u8 (hi (aheadV s.rest 1) : Nat)) ∧ RdS lim w' p (s.step 1 (aheadW s.rest 1)) ∧ w.grownBy w' (some p) := by
  have hlt := hi_take_lt (k := 1) (rest_lt hR).1
  have HF := hide (fixed_any lim p s 1 1 w rfl (by omega) (by omega) hR)
  clear hR
  generalize hi (aheadV s.rest 1) = x at *
  have hm : (x : Int) % 256 = (x : Int) := by omega
  go_enter Try.func66, Try.ntmps66
  go_wp2_with fail
  refine HF.out.mono ?_
  rintro e w1 ⟨rfl, hr, hg⟩
  go_wp2
  go_ret
  exact ⟨by go_num, hr, hg⟩
set_option maxRecDepth 10000 in
set_option maxHeartbeats 400000 in
theorem rU16_any (lim p : Nat) (s : RS) (w : World) (hR : RdS lim w p s) :
    Calls Try.prog 67 #[.pointer (some ⟨p, 0, none⟩)] w fun e w' => e = .returned (.int .u16 (hi (aheadV s.rest 2) : Nat)) ∧ RdS lim w' p (s.step 2 (aheadW s.rest 2)) ∧ w.grownBy w' (some p) := by
  have hlt := hi_take_lt (k := 2) (rest_lt hR).1
  have HF := hide (fixed_any lim p s 2 2 w rfl (by omega) (by omega) hR)
  clear hR
  generalize hi (aheadV s.rest 2) = x at *
  have hm : (x : Int) % 65536 = (x : Int) := by omega
  go_enter Try.func67, Try.ntmps67
  go_wp2_with fail
  refine HF.out.mono ?_
  rintro e w1 ⟨rfl, hr, hg⟩
  go_wp2
  go_ret
  exact ⟨by go_num, hr, hg⟩
set_option maxRecDepth 10000 in
set_option maxHeartbeats 400000 in
theorem rU32_any (lim p : Nat) (s : RS) (w : World) (hR : RdS lim w p s) :
    Calls Try.prog 68 #[.pointer (some ⟨p, 0, none⟩)] w fun e w' => e = .returned (.int .u32 (hi (aheadV s.rest 4) : Nat)) ∧ RdS lim w' p (s.step 4 (aheadW s.rest 4)) ∧ w.grownBy w' (some p) := by
  have hlt := hi_take_lt (k := 4) (rest_lt hR).1
  have HF := hide (fixed_any lim p s 4 4 w rfl (by omega) (by omega) hR)
  clear hR
  generalize hi (aheadV s.rest 4) = x at *
  have hm : (x : Int) % 4294967296 = (x : Int) := by omega
  go_enter Try.func68, Try.ntmps68
  go_wp2_with fail
  refine HF.out.mono ?_
  rintro e w1 ⟨rfl, hr, hg⟩
  go_wp2
  go_ret
  exact ⟨by go_num, hr, hg⟩
set_option maxRecDepth 10000 in
set_option maxHeartbeats 400000 in
theorem rU64_any (lim p : Nat) (s : RS) (w : World) (hR : RdS lim w p s) :
    Calls Try.prog 69 #[.pointer (some ⟨p, 0, none⟩)] w fun e w' => e = .returned (.int .u64 (hi (aheadV s.rest 8) : Nat)) ∧ RdS lim w' p (s.step 8 (aheadW s.rest 8)) ∧ w.grownBy w' (some p) := by
  have HF := hide (fixed_any lim p s 8 8 w rfl (by omega) (by omega) hR)
  clear hR
  generalize hi (aheadV s.rest 8) = x at *
  go_enter Try.func69, Try.ntmps69
  go_wp2_with fail
  refine HF.out.mono ?_
  rintro e w1 ⟨rfl, hr, hg⟩
  go_wp2
  go_ret
  exact ⟨rfl, hr, hg⟩

/-- A truth at the head of bytes. -/
def flagV (B : List Nat) : Bool := match B with | [] => false | c :: _ => c == 1
def flagW (B : List Nat) : Int := match B with | [] => 20 | c :: _ => if 1 < c then 26 else 0

set_option maxRecDepth 10000 in
set_option maxHeartbeats 400000 in
theorem flagAhead_any {lim : Nat} {w : World} {ao : Option Addr} {n cap : Nat} {B : List Nat} (h : Shows lim w ao n cap B) :
    Calls Try.prog 87 #[.slice ao n cap] w fun e w' => e = .returned (.tuple #[.bool (flagV B), .int .i64 (flagW B)]) ∧ ∃ q, w' = w.drewN q := by
  obtain ⟨h1, h2, h3, h4, b, off, h5, h6, h7⟩ := h
  cases B with
  | nil =>
    simp at h1
    subst h1
    clear h5 h6
    go_enter Try.func87, Try.ntmps87
    go_wp2
    go_ret2
    exact ⟨rfl, 0, rfl⟩
  | cons c r =>
    have hn : 0 < n := by simp at h1; omega
    obtain rfl := h5 hn
    have hc := h7 0 hn
    simp at hc
    have hc256 := h4 c (by simp)
    have hz : ((n : Int) == 0) = false := by simp; omega
    have hni : (0 : Int) < (n : Int) := by omega
    clear h1 h5 h6 h7 h4
    by_cases hb : 1 < c
    · have d : decide ((1 : Int) < (c : Int)) = true := by simp; omega
      have HV : Hid (flagV (c :: r) = false) := by show _ = _; simp [flagV]; omega
      have HW : Hid (flagW (c :: r) = 26) := by show _ = _; simp [flagW, hb]
      go_enter Try.func87, Try.ntmps87
      go_wp2
      go_ret2
      exact ⟨by rw [HV.out, HW.out]; rfl, 0, rfl⟩
    · have d : decide ((1 : Int) < (c : Int)) = false := by simp; omega
      have HV : Hid (flagV (c :: r) = ((c : Int) == 1)) := by
        show _ = _
        show (c == 1) = _
        rw [Bool.eq_iff_iff, beq_iff_eq, beq_iff_eq]; omega
      have HW : Hid (flagW (c :: r) = 0) := by show _ = _; simp [flagW, hb]
      go_enter Try.func87, Try.ntmps87
      go_wp2
      go_ret2
      exact ⟨by rw [HV.out, HW.out]; rfl, 0, rfl⟩
end Go.Proofs.Ytgdliomkdkjlaaa
