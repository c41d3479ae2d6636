import Derived.Test.YtbfjeabngdiejaaDoorCopied
import Derived.Deep.RegionWith
namespace Go.Proofs.YtbfjeabngdiejaaDoor
open Go.RowKit Crc

/-- A fault of this layer, as it lies in memory. -/
def IsFault (w : World) (v : Value) (at_ why : Int) : Prop :=
  ∃ g, v = .iface 54 (.pointer (some ⟨g, 0, none⟩)) ∧ w.cell? ⟨g, 0, none⟩ = some (.string ⟨#[119, 105, 114, 101]⟩) ∧ w.cell? ⟨g, 1, none⟩ = some (.int .i64 at_) ∧ w.cell? ⟨g, 2, none⟩ = some (.iface 44 (.int .i64 why))

set_option maxHeartbeats 400000 in
theorem refusal_any (at_ why : Int) (w : World) :
    Calls Tryd.prog 15 #[.int .i64 at_, .int .i64 why] w fun e w' => ∃ v, e = .returned v ∧ v = .iface 54 (.pointer (some ⟨w.heap.size, 0, none⟩)) ∧ IsFault w' v at_ why ∧ Below w.heap.size w w' := by
  go_enter Tryd.func15, Tryd.ntmps15
  go_wp2
  go_ret
  refine ⟨_, rfl, rfl, ⟨w.heap.size, rfl, ?_, ?_, ?_⟩, (Below.refl _ _).alloc (Nat.le_refl _) _⟩ <;> simp

theorem ff_any (b off : Nat) (ao : Option Addr) (B : List Nat) (n cap : Nat) (w : World) (hao : 0 < n → ao = some ⟨b, off, none⟩) (hn : n = B.length) (hl : n ≤ 140737488355328) (hcap : n ≤ cap) (hB : ∀ x ∈ B, x < 256) (hT : Table w)
  (hc : ∀ i, i < n → w.cell? ⟨b, off + i, none⟩ = some (.int .u8 ((B.getD i 0 : Nat) : Int))) :
    Calls Tryd.prog 18 #[.slice ao n cap] w fun e w' => e = .returned (pairV (ff B)) ∧ ∃ q, w' = w.drewN q := by
  by_cases h1 : 65507 < n
  · have e : ff B = (65507, 21) := by unfold ff; rw [← hn, if_pos h1]
    rw [e]
    exact (ff_long ao n cap w h1 hl).mono fun _ _ ⟨a, c⟩ => ⟨a, 0, c⟩
  · by_cases h2 : n < 12
    · have e : ff B = (n, 20) := by unfold ff; rw [← hn, if_neg h1, if_pos h2]
      rw [e]
      exact (ff_short ao n cap w h2).mono fun _ _ ⟨a, c⟩ => ⟨a, 0, c⟩
    · obtain rfl := hao (by omega)
      exact ff_main b off B n cap w hn (by omega) (by omega) hcap hB hT hc

theorem ff_ok {B : List Nat} (h : (ff B).2 = 0) : 12 ≤ B.length ∧ B.length ≤ 65507 ∧ ff B = (0, 0) ∧ hi (B.take 2) = 20813 ∧ B.getD 2 0 = 1 ∧ B.length = 12 + hi ((B.drop 4).take 4) ∧ Crc.sum (B.take (B.length - 4)) = lowOf B := by
  unfold ff at h ⊢
  by_cases h1 : 65507 < B.length
  · rw [if_pos h1] at h; simp at h
  · rw [if_neg h1] at h ⊢
    by_cases h2 : B.length < 12
    · rw [if_pos h2] at h; simp at h
    · rw [if_neg h2] at h ⊢
      by_cases h3 : hi (B.take 2) ≠ 20813
      · rw [if_pos h3] at h; simp at h
      · rw [if_neg h3] at h ⊢
        by_cases h4 : B.getD 2 0 ≠ 1
        · rw [if_pos h4] at h; simp at h
        · rw [if_neg h4] at h ⊢
          by_cases h5 : B.length < 12 + hi ((B.drop 4).take 4)
          · rw [if_pos h5] at h; simp at h
          · rw [if_neg h5] at h ⊢
            by_cases h6 : 12 + hi ((B.drop 4).take 4) < B.length
            · rw [if_pos h6] at h; simp at h
            · rw [if_neg h6] at h ⊢
              by_cases h7 : Crc.sum (B.take (B.length - 4)) ≠ lowOf B
              · rw [if_pos h7] at h; simp at h
              · rw [if_neg h7]
                exact ⟨by omega, by omega, rfl, Decidable.not_not.1 h3, Decidable.not_not.1 h4, by omega, Decidable.not_not.1 h7⟩

set_option maxHeartbeats 400000 in
theorem unframe_bad (b off : Nat) (ao : Option Addr) (B : List Nat) (n cap : Nat) (w : World) (hao : 0 < n → ao = some ⟨b, off, none⟩) (hn : n = B.length) (hl : n ≤ 140737488355328) (hcap : n ≤ cap) (hB : ∀ x ∈ B, x < 256) (hT : Table w)
  (hc : ∀ i, i < n → w.cell? ⟨b, off + i, none⟩ = some (.int .u8 ((B.getD i 0 : Nat) : Int))) (hbad : (ff B).2 ≠ 0) :
    Calls Tryd.prog 7 #[.slice ao n cap] w fun e w' => ∃ v, e = .returned (.tuple #[.int .u8 0, .slice none 0 0, v]) ∧ IsFault w' v ((ff B).1 : Nat) ((ff B).2 : Nat) ∧ Below w.heap.size w w' := by
  have HF : Hid (Calls Tryd.prog 18 #[.slice ao n cap] w fun e w' => e = .returned (pairV (ff B)) ∧ ∃ q, w' = w.drewN q) := ff_any b off ao B n cap w hao hn hl hcap hB hT hc
  have hne : (((ff B).2 : Nat) : Int) ≠ 0 := by omega
  clear hao hn hB hT hc hbad
  unfold pairV at HF
  generalize (ff B).1 = at_ at *
  generalize (ff B).2 = why at *
  have hne' : ((why : Int) != 0) = true := by simpa using hne
  clear hne
  go_enter Tryd.func7, Tryd.ntmps7
  go_wp2_with fail
  refine HF.out.mono ?_
  rintro e w1 ⟨rfl, q, rfl⟩
  go_wp2_with fail
  refine (refusal_any _ _ _).mono ?_
  rintro e w2 ⟨v, rfl, rfl, hf, hb⟩
  go_wp2
  go_ret3
  exact ⟨_, rfl, hf, (below_drewN (Below.refl _ w) q).trans (hb.mono (Nat.le_refl _))⟩

end Go.Proofs.YtbfjeabngdiejaaDoor
