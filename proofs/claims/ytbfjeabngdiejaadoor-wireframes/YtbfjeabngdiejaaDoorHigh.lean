import Derived.Test.YtbfjeabngdiejaaDoorSum
import Derived.Deep.QuietTactic
import Derived.BigQuiet
namespace Go.Proofs.YtbfjeabngdiejaaDoor
open Go.RowKit Crc

def hi (B : List Nat) : Nat := B.foldl (fun v c => v * 256 + c) 0
theorem hi_step (B : List Nat) (k : Nat) (h : k < B.length) : hi (B.take (k + 1)) = hi (B.take k) * 256 + B.getD k 0 := by
  rw [take_snoc B k h]; simp [hi, List.foldl_append]
theorem hi_lt (B : List Nat) (hB : ∀ x ∈ B, x < 256) : hi B < 256 ^ B.length := by
  have gen : ∀ (B : List Nat) (v : Nat), (∀ x ∈ B, x < 256) → B.foldl (fun v c => v * 256 + c) v < (v + 1) * 256 ^ B.length := by
    intro B
    induction B with
    | nil => intro v _; simp
    | cons c r ih =>
      intro v hB
      have hc := hB c (by simp)
      have := ih (v * 256 + c) (fun x hx => hB x (by simp [hx]))
      simp only [List.foldl_cons, List.length_cons]
      refine Nat.lt_of_lt_of_le this ?_
      rw [Nat.pow_succ, Nat.mul_comm (256 ^ r.length) 256, ← Nat.mul_assoc]
      exact Nat.mul_le_mul_right _ (by omega)
  have := gen B 0 hB
  simpa [hi] using this

theorem or_u64 (v c : Nat) (hv : v < 72057594037927936) (hc : c < 256) : bits .or .u64 ((v : Int) * (256 : Int)) (c : Int) = ((v * 256 + c : Nat) : Int) := by
  have e : (v : Int) * (256 : Int) = ((v * 256 : Nat) : Int) := by omega
  rw [e, u64_or_nat _ _ (by omega) (by omega)]
  congr 1
  have := Nat.two_pow_add_eq_or_of_lt (i := 8) (b := c) hc v
  rw [show v * 256 = 2 ^ 8 * v by omega, ← this]

set_option maxHeartbeats 400000 in
theorem high_any (b off : Nat) (B : List Nat) (n cap : Nat) (w : World) (hn : n = B.length) (hl : n ≤ 7) (hB : ∀ x ∈ B, x < 256)
  (hc : ∀ i, i < n → w.cell? ⟨b, off + i, none⟩ = some (.int .u8 ((B.getD i 0 : Nat) : Int))) :
    Calls Tryd.prog 24 #[.slice (some ⟨b, off, none⟩) n cap] w fun e w' => e = .returned (.int .u64 (hi B : Nat)) ∧ w' = w := by
  have HN : Hid (n = B.length) := hn
  have HC : Hid (∀ i, i < n → w.cell? ⟨b, off + i, none⟩ = some (.int .u8 ((B.getD i 0 : Nat) : Int))) := hc
  clear hn hc
  go_enter Tryd.func24, Tryd.ntmps24
  go_wp2
  go_loop [3, 8] (fun s i => ∃ k x : Nat, k ≤ n ∧ i = .int .i64 k ∧ s = .int .u64 x ∧ Hid (x = hi (B.take k))) (fun _ i => n - (intOf i).toNat)
  case atStart => exact ⟨0, 0, Nat.zero_le _, rfl, rfl, by show _ = _; simp [hi]⟩
  case round =>
    obtain ⟨k, x, hk, rfl, rfl, HX⟩ := hrel
    by_cases hlt : k < n
    · have hck := HC.out k hlt
      have hcb : B.getD k 0 < 256 := getD_lt B hB k
      have hst := hi_step B k (by have := HN.out; omega)
      rw [← HX.out] at hst
      obtain ⟨c, hcd⟩ : ∃ c, c = B.getD k 0 := ⟨_, rfl⟩
      rw [← hcd] at hck hcb hst
      have hxl : x < 72057594037927936 := by
        have h1 := hi_lt (B.take k) (fun x hx => hB x (List.mem_of_mem_take hx))
        rw [← HX.out, List.length_take] at h1
        have h2 : 256 ^ min k B.length ≤ 256 ^ 7 := Nat.pow_le_pow_right (by omega) (by omega)
        omega
      have HS : Hid (x * 256 + c = hi (B.take (k + 1))) := hst.symm
      have e1 := or_u64 x c hxl hcb
      clear hst hcd HX
      go_wp2
      go_round
      case rel => exact ⟨k + 1, x * 256 + c, by omega, by go_num, rfl, HS⟩
      case measure => simp [intOf]; omega
    · have HF : Hid (x = hi B) := by
        show _ = _
        rw [HX.out, List.take_of_length_le (by have := HN.out; omega)]
      clear HX HC
      go_wp2
      go_ret
      exact ⟨by rw [← HF.out]; rfl, rfl⟩

def lo4 (c0 c1 c2 c3 : Nat) : Nat := c0 + c1 * 256 + c2 * 65536 + c3 * 16777216

theorem or_add (a c k : Nat) (h : a < 2 ^ k) : a ||| c * 2 ^ k = a + c * 2 ^ k := by
  have := Nat.two_pow_add_eq_or_of_lt (i := k) (b := a) h c
  rw [Nat.or_comm, Nat.mul_comm c, ← this, Nat.add_comm]
theorem lo4_or (c0 c1 c2 c3 : Nat) (h0 : c0 < 256) (h1 : c1 < 256) (h2 : c2 < 256) (h3 : c3 < 256) :
    bits .or .u32 (bits .or .u32 (bits .or .u32 (c0 : Int) ((c1 : Int) * (256 : Int))) ((c2 : Int) * (65536 : Int))) ((c3 : Int) * (16777216 : Int)) = ((lo4 c0 c1 c2 c3 : Nat) : Int) := by
  have e1 : (c1 : Int) * (256 : Int) = ((c1 * 256 : Nat) : Int) := by omega
  have e2 : (c2 : Int) * (65536 : Int) = ((c2 * 65536 : Nat) : Int) := by omega
  have e3 : (c3 : Int) * (16777216 : Int) = ((c3 * 16777216 : Nat) : Int) := by omega
  have o1 : c0 ||| c1 * 256 = c0 + c1 * 256 := or_add c0 c1 8 h0
  have o2 : (c0 + c1 * 256) ||| c2 * 65536 = c0 + c1 * 256 + c2 * 65536 := or_add _ c2 16 (by omega)
  have o3 : (c0 + c1 * 256 + c2 * 65536) ||| c3 * 16777216 = c0 + c1 * 256 + c2 * 65536 + c3 * 16777216 := or_add _ c3 24 (by omega)
  rw [e1, e2, e3, u32_or_nat _ _ (by omega) (by omega), o1, u32_or_nat _ _ (by omega) (by omega), o2, u32_or_nat _ _ (by omega) (by omega), o3]
  rfl

set_option maxHeartbeats 400000 in
theorem low_any (b off n cap c0 c1 c2 c3 : Nat) (w : World) (hn : 4 ≤ n) (h0 : c0 < 256) (h1 : c1 < 256) (h2 : c2 < 256) (h3 : c3 < 256)
   (k0 : w.cell? ⟨b, off, none⟩ = some (.int .u8 (c0 : Int))) (k1 : w.cell? ⟨b, off + 1, none⟩ = some (.int .u8 (c1 : Int)))
   (k2 : w.cell? ⟨b, off + 2, none⟩ = some (.int .u8 (c2 : Int))) (k3 : w.cell? ⟨b, off + 3, none⟩ = some (.int .u8 (c3 : Int))) :
    Calls Tryd.prog 25 #[.slice (some ⟨b, off, none⟩) n cap] w fun e w' => e = .returned (.int .u32 (lo4 c0 c1 c2 c3 : Nat)) ∧ ∃ q, w' = w.drewN q := by
  go_enter Tryd.func25, Tryd.ntmps25
  go_wp2
  go_quiet (fail)
  go_wp2
  go_ret
  exact ⟨by rw [← lo4_or c0 c1 c2 c3 h0 h1 h2 h3]; rfl, nq, rfl⟩
end Go.Proofs.YtbfjeabngdiejaaDoor
