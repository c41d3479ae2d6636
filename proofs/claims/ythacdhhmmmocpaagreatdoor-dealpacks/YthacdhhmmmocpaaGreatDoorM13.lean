import Derived.Test.YthacdhhmmmocpaaGreatDoorM12
import Derived.Test.YthacdhhmmmocpaaGreatDoorM3
namespace Go.Proofs.YthacdhhmmmocpaaGreatDoor
open Go.RowKit Crc
variable {K : Kd}

theorem owns_join {base : Nat} {w w' : World} {v v' : Value} {A B : List Nat} (h : Owns base w v A) (hB : ∀ x ∈ B, x < 256) (hl : A.length + B.length ≤ 140737488355328) (ho : w'.ownsRow base 5 1 v' (A.length + B.length) (vals A ++ vals B)) : Owns base w' v' (A ++ B) := by
  refine ⟨?_, ?_, by rw [List.length_append]; exact hl⟩
  · rw [vals_append, List.length_append]; exact ho
  · intro x hx
    rcases List.mem_append.1 hx with hx | hx
    · exact h.2.1 x hx
    · exact hB x hx
theorem append_none_run (a b : Option Addr) (n c m : Nat) (hn : n ≤ c) (w : World) : (Builtin.append_ #[26, 26] 26 #[.slice a n c, .slice b 0 m]).run Tryz.prog w = .ok (.slice a n c) w := by
  obtain ⟨i0, hi, hz0, hz1, hz2⟩ := info_parts Tryz.info5
  cases a <;> cases b <;> simp [Builtin.append_, run_underlying Tryz.underlying26, sizeOf, typeInfo, hi, storeCells, go_sem, hn]

/-- The writer's list has its block from base on. -/
theorem Wr.own_lt {base : Nat} {w : World} {p : Nat} {made : Bool} {place why most : Int} {L : List Nat} (h : Wr K base w p made place why most L) {u : Value} {g : Nat} (hu : w.cell? ⟨p, 4, none⟩ = some u) (hg : u.ownBlock = some g) : base ≤ g ∧ g < w.heap.size := by
  obtain ⟨v, hb, hO, _⟩ := h
  have c4 := block_cell hb 4
  rw [hu] at c4
  simp at c4
  subst c4
  exact hO.1.lt g hg
end Go.Proofs.YthacdhhmmmocpaaGreatDoor
namespace Go.Proofs.YthacdhhmmmocpaaGreatDoor
open Go.RowKit Crc

/-- A reader as it lies. -/
def Rd (K : Kd) (lim : Nat) (w : World) (p : Nat) (made : Bool) (place why : Int) (B : List Nat) (pos : Nat) : Prop :=
  ∃ ao cap, w.heap[p]? = some (.cells (List.toArray (.bool made :: .int .i64 place :: .int .i64 why :: .slice ao B.length cap :: .int .i64 (pos : Int) :: K.R)) K.t (0, 0)) ∧ Shows lim w ao B.length cap B ∧ pos ≤ B.length ∧ lim ≤ p
variable {K : Kd}
def restB (made : Bool) (why : Int) (B : List Nat) (pos : Nat) : List Nat := if made = true ∧ why = 0 then B.drop pos else []

theorem Rd.world {lim : Nat} {w w' : World} {p : Nat} {made : Bool} {place why : Int} {B : List Nat} {pos : Nat} (h : Rd K lim w p made place why B pos) (he : w'.heap = w.heap) : Rd K lim w' p made place why B pos := by
  obtain ⟨ao, cap, hb, hS, hp, hl⟩ := h
  exact ⟨ao, cap, by rw [he]; exact hb, hS.world he, hp, hl⟩
theorem shows_drop {lim : Nat} {w : World} {ao : Option Addr} {n cap : Nat} {B : List Nat} (h : Shows lim w ao n cap B) {b off k : Nat} (hao : ao = some ⟨b, off, none⟩) (hk : k ≤ n) (hkc : 0 < n) : Shows lim w (some ⟨b, off + k, none⟩) (n - k) (cap - k) (B.drop k) := by
  obtain ⟨h1, h2, h3, h4, b', off', h5, h6, h7⟩ := h
  have e := h5 hkc
  rw [hao] at e
  cases e
  refine ⟨by rw [List.length_drop]; omega, by omega, by omega, fun x hx => h4 x (List.mem_of_mem_drop hx), b, off + k, fun _ => rfl, fun _ => h6 hkc, fun i hi => ?_⟩
  rw [List.getD_eq_getElem?_getD, List.getElem?_drop, ← List.getD_eq_getElem?_getD, Nat.add_assoc]
  exact h7 (k + i) (by omega)
theorem shows_none {lim : Nat} {w : World} {ao : Option Addr} {cap : Nat} : Shows lim w ao 0 cap [] := ⟨rfl, by omega, by omega, by simp, 0, 0, fun h => by omega, fun h => by omega, fun i hi => by omega⟩

set_option maxRecDepth 10000 in
set_option maxHeartbeats 800000 in
theorem rest_any (lim p : Nat) (made : Bool) (place why : Int) (B : List Nat) (pos : Nat) (w : World) (hR : Rd K lim w p made place why B pos) :
    Calls Tryz.prog 74 #[.pointer (some ⟨p, 0, none⟩)] w fun e w' => ∃ ao n cap, e = .returned (.slice ao n cap) ∧ Shows lim w ao n cap (restB made why B pos) ∧ ∃ q, w' = w.drewN q := by
  obtain ⟨ao, cap, hb, hS, hp, hl⟩ := hR
  have c0 := block_cell hb 0
  have c2 := block_cell hb 2
  have c3 := block_cell hb 3
  have c4 := block_cell hb 4
  simp at c0 c2 c3 c4
  have HSD := hide (sound_any p made why w c0 c2)
  have HS := hide hS
  have hlen := hS.2.2.1
  have hcapl := hS.2.1
  clear hb hS
  by_cases hd : made = true ∧ why = 0
  · obtain ⟨rfl, rfl⟩ := hd
    have HRB : Hid (restB true 0 B pos = B.drop pos) := by simp [restB, Hid]
    have h1 : (0 : Int) ≤ (pos : Int) := by omega
    have h2 : (pos : Int) ≤ (B.length : Int) := by omega
    by_cases hz : B.length = 0
    · have HB0 : Hid (B = []) := List.eq_nil_of_length_eq_zero hz
      obtain rfl : pos = 0 := by omega
      rw [hz] at c3 h2
      clear hz hlen hcapl
      go_enter Tryz.func74, Tryz.ntmps74
      go_wp2_with fail
      refine HSD.out.mono ?_
      rintro e w1 ⟨rfl, rfl⟩
      go_wp2_with fail
      go_quiet (fail)
      go_wp2
      go_ret
      refine ⟨_, _, _, rfl, ?_, _, rfl⟩
      rw [HRB.out, HB0.out]
      exact shows_none
    · obtain ⟨b, off, hao⟩ : ∃ b off, ao = some ⟨b, off, none⟩ := by
        obtain ⟨_, _, _, _, b, off, h5, _, _⟩ := HS.out
        exact ⟨b, off, h5 (by omega)⟩
      subst hao
      have HFI := hide (shows_drop HS.out rfl hp (by omega))
      obtain ⟨n, hn⟩ : ∃ n, n = B.length := ⟨_, rfl⟩
      rw [← hn] at c3 hlen hcapl h2 hp hz HFI
      have HN := hide hn
      clear hn HS
      by_cases hce : cap = pos
      · have HBD : Hid (B.drop pos = []) := by
          apply List.drop_eq_nil_of_le
          have := HN.out; omega
        subst hce
        go_enter Tryz.func74, Tryz.ntmps74
        go_wp2_with fail
        refine HSD.out.mono ?_
        rintro e w1 ⟨rfl, rfl⟩
        go_wp2_with fail
        go_quiet (fail)
        go_wp2
        go_ret
        obtain rfl : n = cap := by omega
        refine ⟨_, _, _, rfl, ?_, _, rfl⟩
        rw [HRB.out, HBD.out]
        exact shows_none
      · go_enter Tryz.func74, Tryz.ntmps74
        go_wp2_with fail
        refine HSD.out.mono ?_
        rintro e w1 ⟨rfl, rfl⟩
        go_wp2_with fail
        go_quiet (fail)
        go_wp2
        go_ret
        refine ⟨_, _, _, rfl, ?_, _, rfl⟩
        rw [HRB.out]
        exact HFI.out
  · have HRB : Hid (restB made why B pos = []) := by show _ = _; unfold restB; rw [if_neg hd]
    have hsb : (made && (why == 0)) = false := by
      cases made
      · rfl
      · simp at hd; simp [hd]
    rw [hsb] at HSD
    clear hd hsb
    go_enter Tryz.func74, Tryz.ntmps74
    go_wp2_with fail
    refine HSD.out.mono ?_
    rintro e w1 ⟨rfl, rfl⟩
    go_wp2
    go_ret
    refine ⟨_, _, _, rfl, ?_, 0, rfl⟩
    rw [HRB.out]
    exact shows_none
end Go.Proofs.YthacdhhmmmocpaaGreatDoor
