import Derived.Test.YtidhondcfagoaaaDoorM4
import Derived.Test.YtidhondcfagoaaaDoorM1
namespace Go.Proofs.YtidhondcfagoaaaDoor
open Go.RowKit Crc

/-- A reader as it lies. -/
def Rd (K : Kd) (lim : Nat) (w : World) (p : Nat) (made : Bool) (place why : Int) (B : List Nat) (pos : Nat) : Prop :=
  ∃ ao cap, w.heap[p]? = some (.cells (List.toArray (.bool made :: .int .i64 place :: .int .i64 why :: .slice ao B.length cap :: .int .i64 (pos : Int) :: K.R)) K.t (0, 0)) ∧ Shows lim w ao B.length cap B ∧ pos ≤ B.length ∧ lim ≤ p
variable {K : Kd}
def restB (made : Bool) (why : Int) (B : List Nat) (pos : Nat) : List Nat := if made = true ∧ why = 0 then B.drop pos else []

theorem Rd.world {lim : Nat} {w w' : World} {p : Nat} {made : Bool} {place why : Int} {B : List Nat} {pos : Nat} (h : Rd K lim w p made place why B pos) (he : w'.heap = w.heap) : Rd K lim w' p made place why B pos := by
  obtain ⟨ao, cap, hb, hS, hp, hl⟩ := h
  exact ⟨ao, cap, by rw [he]; exact hb, hS.world he, hp, hl⟩
theorem shows_drop {lim : Nat} {w : World} {ao : Option Addr} {n cap : Nat} {B : List Nat} (h : Shows lim w ao n cap B) {b off k : Nat} (hao : ao = some ⟨b, off, none⟩) (hk : k ≤ n) (hkc : 0 < n) : Shows lim w (some ⟨b, off + k, none⟩) (n - k) (cap - k) (B.drop k) := by
  obtain ⟨h1, h2, h3, h4, b', off', h5, h6, h7⟩ := h
  have e := h5 hkc
  rw [hao] at e
  cases e
  refine ⟨by rw [List.length_drop]; omega, by omega, by omega, fun x hx => h4 x (List.mem_of_mem_drop hx), b, off + k, fun _ => rfl, fun _ => h6 hkc, fun i hi => ?_⟩
  rw [List.getD_eq_getElem?_getD, List.getElem?_drop, ← List.getD_eq_getElem?_getD, Nat.add_assoc]
  exact h7 (k + i) (by omega)
theorem shows_none {lim : Nat} {w : World} {ao : Option Addr} {cap : Nat} : Shows lim w ao 0 cap [] := ⟨rfl, by omega, by omega, by simp, 0, 0, fun h => by omega, fun h => by omega, fun i hi => by omega⟩

set_option maxRecDepth 10000 in
set_option maxHeartbeats 800000 in
theorem rest_any (lim p : Nat) (made : Bool) (place why : Int) (B : List Nat) (pos : Nat) (w : World) (hR : Rd K lim w p made place why B pos) :
    Calls Tryd.prog 71 #[.pointer (some ⟨p, 0, none⟩)] w fun e w' => ∃ ao n cap, e = .returned (.slice ao n cap) ∧ Shows lim w ao n cap (restB made why B pos) ∧ ∃ q, w' = w.drewN q := by
  obtain ⟨ao, cap, hb, hS, hp, hl⟩ := hR
  have c0 := block_cell hb 0
  have c2 := block_cell hb 2
  have c3 := block_cell hb 3
  have c4 := block_cell hb 4
  simp at c0 c2 c3 c4
  have HSD := hide (sound_any p made why w c0 c2)
  have HS := hide hS
  have hlen := hS.2.2.1
  have hcapl := hS.2.1
  clear hb hS
  by_cases hd : made = true ∧ why = 0
  · obtain ⟨rfl, rfl⟩ := hd
    have HRB : Hid (restB true 0 B pos = B.drop pos) := by simp [restB, Hid]
    have h1 : (0 : Int) ≤ (pos : Int) := by omega
    have h2 : (pos : Int) ≤ (B.length : Int) := by omega
    by_cases hz : B.length = 0
    · have HB0 : Hid (B = []) := List.eq_nil_of_length_eq_zero hz
      obtain rfl : pos = 0 := by omega
      rw [hz] at c3 h2
      clear hz hlen hcapl
      go_enter Tryd.func71, Tryd.ntmps71
      go_wp2_with fail
      refine HSD.out.mono ?_
      rintro e w1 ⟨rfl, rfl⟩
      go_wp2_with fail
      go_quiet (fail)
      go_wp2
      go_ret
      refine ⟨_, _, _, rfl, ?_, _, rfl⟩
      rw [HRB.out, HB0.out]
      exact shows_none
    · obtain ⟨b, off, hao⟩ : ∃ b off, ao = some ⟨b, off, none⟩ := by
        obtain ⟨_, _, _, _, b, off, h5, _, _⟩ := HS.out
        exact ⟨b, off, h5 (by omega)⟩
      subst hao
      have HFI := hide (shows_drop HS.out rfl hp (by omega))
      obtain ⟨n, hn⟩ : ∃ n, n = B.length := ⟨_, rfl⟩
      rw [← hn] at c3 hlen hcapl h2 hp hz HFI
      have HN := hide hn
      clear hn HS
      by_cases hce : cap = pos
      · have HBD : Hid (B.drop pos = []) := by
          apply List.drop_eq_nil_of_le
          have := HN.out; omega
        subst hce
        go_enter Tryd.func71, Tryd.ntmps71
        go_wp2_with fail
        refine HSD.out.mono ?_
        rintro e w1 ⟨rfl, rfl⟩
        go_wp2_with fail
        go_quiet (fail)
        go_wp2
        go_ret
        obtain rfl : n = cap := by omega
        refine ⟨_, _, _, rfl, ?_, _, rfl⟩
        rw [HRB.out, HBD.out]
        exact shows_none
      · go_enter Tryd.func71, Tryd.ntmps71
        go_wp2_with fail
        refine HSD.out.mono ?_
        rintro e w1 ⟨rfl, rfl⟩
        go_wp2_with fail
        go_quiet (fail)
        go_wp2
        go_ret
        refine ⟨_, _, _, rfl, ?_, _, rfl⟩
        rw [HRB.out]
        exact HFI.out
  · have HRB : Hid (restB made why B pos = []) := by show _ = _; unfold restB; rw [if_neg hd]
    have hsb : (made && (why == 0)) = false := by
      cases made
      · rfl
      · simp at hd; simp [hd]
    rw [hsb] at HSD
    clear hd hsb
    go_enter Tryd.func71, Tryd.ntmps71
    go_wp2_with fail
    refine HSD.out.mono ?_
    rintro e w1 ⟨rfl, rfl⟩
    go_wp2
    go_ret
    refine ⟨_, _, _, rfl, ?_, 0, rfl⟩
    rw [HRB.out]
    exact shows_none
end Go.Proofs.YtidhondcfagoaaaDoor
namespace Go.Proofs.YtidhondcfagoaaaDoor
open Go.RowKit Crc

set_option maxRecDepth 10000 in
set_option maxHeartbeats 400000 in
theorem high_all (b off : Nat) (ao : Option Addr) (B : List Nat) (n cap : Nat) (w : World) (hao : 0 < n → ao = some ⟨b, off, none⟩) (hn : n = B.length) (hl : n ≤ 8) (hB : ∀ x ∈ B, x < 256)
  (hc : ∀ i, i < n → w.cell? ⟨b, off + i, none⟩ = some (.int .u8 ((B.getD i 0 : Nat) : Int))) :
    Calls Tryd.prog 18 #[.slice ao n cap] w fun e w' => e = .returned (.int .u64 (hi B : Nat)) ∧ w' = w := by
  have HA := hide hao
  clear hao
  have HN : Hid (n = B.length) := hn
  have HC : Hid (∀ i, i < n → w.cell? ⟨b, off + i, none⟩ = some (.int .u8 ((B.getD i 0 : Nat) : Int))) := hc
  clear hn hc
  go_enter Tryd.func18, Tryd.ntmps18
  go_wp2
  go_loop [3, 8] (fun s i => ∃ k x : Nat, k ≤ n ∧ i = .int .i64 k ∧ s = .int .u64 x ∧ Hid (x = hi (B.take k))) (fun _ i => n - (intOf i).toNat)
  case atStart => exact ⟨0, 0, Nat.zero_le _, rfl, rfl, by show _ = _; simp [hi]⟩
  case round =>
    obtain ⟨k, x, hk, rfl, rfl, HX⟩ := hrel
    by_cases hlt : k < n
    · have hck := HC.out k hlt
      obtain rfl := HA.out (by omega)
      have hcb : B.getD k 0 < 256 := getD_lt B hB k
      have hst := hi_step B k (by have := HN.out; omega)
      rw [← HX.out] at hst
      obtain ⟨c, hcd⟩ : ∃ c, c = B.getD k 0 := ⟨_, rfl⟩
      rw [← hcd] at hck hcb hst
      have hxl : x < 72057594037927936 := by
        have h1 := hi_lt (B.take k) (fun x hx => hB x (List.mem_of_mem_take hx))
        rw [← HX.out, List.length_take] at h1
        have h2 : 256 ^ min k B.length ≤ 256 ^ 7 := Nat.pow_le_pow_right (by omega) (by omega)
        omega
      have HS : Hid (x * 256 + c = hi (B.take (k + 1))) := hst.symm
      have e1 := or_u64 x c hxl hcb
      clear hst hcd HX
      go_wp2
      go_round
      case rel => exact ⟨k + 1, x * 256 + c, by omega, by go_num, rfl, HS⟩
      case measure => simp [intOf]; omega
    · have HF : Hid (x = hi B) := by
        show _ = _
        rw [HX.out, List.take_of_length_le (by have := HN.out; omega)]
      clear HX HC
      go_wp2
      go_ret
      exact ⟨by rw [← HF.out]; rfl, rfl⟩
theorem high_any (b off : Nat) (B : List Nat) (n cap : Nat) (w : World) (hn : n = B.length) (hl : n ≤ 8) (hB : ∀ x ∈ B, x < 256)
  (hc : ∀ i, i < n → w.cell? ⟨b, off + i, none⟩ = some (.int .u8 ((B.getD i 0 : Nat) : Int))) :
    Calls Tryd.prog 18 #[.slice (some ⟨b, off, none⟩) n cap] w fun e w' => e = .returned (.int .u64 (hi B : Nat)) ∧ w' = w := high_all b off _ B n cap w (fun _ => rfl) hn hl hB hc
end Go.Proofs.YtidhondcfagoaaaDoor
