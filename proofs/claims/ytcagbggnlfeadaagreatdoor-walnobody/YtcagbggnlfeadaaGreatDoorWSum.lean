import Derived.Test.YtcagbggnlfeadaaGreatDoorPBase
import Derived.Test.YtcagbggnlfeadaaGreatDoorRows
import Derived.Test.YtcagbggnlfeadaaGreatDoorPlain
import Derived.WalkKit
import Derived.WalkSpells
import Derived.Outline
import Derived.Laws.BitsAllLaws
namespace Go.Proofs.YtcagbggnlfeadaaGreatDoor
open Go.RowKit Crc

def Table (w : World) : Prop := ∀ i, i < 16 → w.cell? ⟨0, i, none⟩ = some (.int .u32 ((tab.getD i 0 : Nat) : Int))

theorem tab_lt (i : Nat) : tab.getD i 0 < 4294967296 := by
  by_cases h : i < 16
  · have : ∀ i, i < 16 → tab.getD i 0 < 4294967296 := by decide
    exact this i h
  · rw [List.getD_eq_getElem?_getD, List.getElem?_eq_none (by simp [tab]; omega)]; simp

/-- One half step, with names for what the walk sees. -/
theorem half_parts (x1 : Nat) (h : x1 < 4294967296) (w : World) (hT : Table w) : ∃ j t x2 : Nat, j < 16 ∧ x2 < 4294967296 ∧ bits .and .u32 (x1 : Int) 15 = (j : Int) ∧ w.cell? ⟨0, j, none⟩ = some (.int .u32 (t : Int)) ∧
    bits .xor .u32 ((x1 : Int) / 16) (t : Int) = (x2 : Int) ∧ x2 = half x1 := by
  refine ⟨x1 &&& 15, tab.getD (x1 &&& 15) 0, half x1, and15_lt x1, ?_, u32_and_nat x1 15 h (by omega), hT _ (and15_lt x1), ?_, rfl⟩
  · unfold half
    exact xor_lt32 _ _ (by rw [Nat.shiftRight_eq_div_pow]; omega) (tab_lt _)
  · have e : ((x1 : Int) / (16 : Int)) = ((x1 >>> 4 : Nat) : Int) := by rw [Nat.shiftRight_eq_div_pow]; omega
    rw [e]
    exact u32_xor_nat _ _ (by rw [Nat.shiftRight_eq_div_pow]; omega) (tab_lt _)

theorem not_u32 (x : Nat) (h : x < 4294967296) : bits .xor .u32 IntKind.u32.max (x : Int) = ((x ^^^ 4294967295 : Nat) : Int) := by
  rw [Nat.xor_comm]; exact u32_xor_nat 4294967295 x (by omega) h
theorem u32_unsigned : IntKind.u32.signed = false := rfl

set_option maxRecDepth 10000 in
set_option maxHeartbeats 400000 in
theorem sum_any (b off : Nat) (ao : Option Addr) (B : List Nat) (n cap : Nat) (w : World) (hao : 0 < n → ao = some ⟨b, off, none⟩) (hn : n = B.length) (hl : n ≤ 140737488355328) (hB : ∀ x ∈ B, x < 256) (hT : Table w)
  (hc : ∀ i, i < n → w.cell? ⟨b, off + i, none⟩ = some (.int .u8 ((B.getD i 0 : Nat) : Int))) :
    Calls Tryz.prog 73 #[.slice ao n cap] w fun e w' => e = .returned (.int .u32 (Crc.sum B)) ∧ w' = w := by
  have HA : Hid (0 < n → ao = some ⟨b, off, none⟩) := hao
  have HN : Hid (n = B.length) := hn
  have HT : Hid (Table w) := hT
  have HC : Hid (∀ i, i < n → w.cell? ⟨b, off + i, none⟩ = some (.int .u8 ((B.getD i 0 : Nat) : Int))) := hc
  clear hn hT hc hao
  go_enter Tryz.func73, Tryz.ntmps73
  go_wp2
  go_loop [3, 8] (fun s i => ∃ k x : Nat, k ≤ n ∧ x < 4294967296 ∧ i = .int .i64 k ∧ s = .int .u32 x ∧ Hid (x = sumFrom 4294967295 (B.take k))) (fun _ i => n - (intOf i).toNat)
  case atStart => exact ⟨0, 4294967295, Nat.zero_le _, by omega, rfl, rfl, by show _ = _; simp [sumFrom]⟩
  case round =>
    obtain ⟨k, x, hk, hx, rfl, rfl, HX⟩ := hrel
    by_cases hlt : k < n
    · have hck := HC.out k hlt
      obtain rfl := HA.out (by omega)
      have hcb : B.getD k 0 < 256 := getD_lt B hB k
      have hst := sumFrom_step 4294967295 B k (by have := HN.out; omega)
      rw [← HX.out] at hst
      obtain ⟨c, hcd⟩ : ∃ c, c = B.getD k 0 := ⟨_, rfl⟩
      rw [← hcd] at hck hcb hst
      have e1 : bits .xor .u32 (x : Int) (c : Int) = ((x ^^^ c : Nat) : Int) := u32_xor_nat x c hx (by omega)
      have e1' : bits .xor .u32 (x : Int) ((c : Int) % 4294967296) = ((x ^^^ c : Nat) : Int) := by rw [show (c : Int) % 4294967296 = c by omega]; exact e1
      have h1 := xor_lt32 x c hx (by omega)
      rw [← byteT_eq] at hst
      unfold byteT at hst
      generalize x ^^^ c = x1 at *
      obtain ⟨j1, t1, x2, hj1, hx2, a1, a2, a3, a4⟩ := half_parts x1 h1 w HT.out
      obtain ⟨j2, t2, x3, hj2, hx3, b1, b2, b3, b4⟩ := half_parts x2 hx2 w HT.out
      have HS : Hid (x3 = sumFrom 4294967295 (B.take (k + 1))) := by show _ = _; rw [hst, b4, a4]
      clear hst a4 b4 hcd HX
      go_wp2
      go_round
      case rel => exact ⟨k + 1, x3, by omega, hx3, by go_num, rfl, HS⟩
      case measure => simp [intOf]; omega
    · have hfin := not_u32 x hx
      have HF : Hid (x ^^^ 4294967295 = Crc.sum B) := by
        show _ = _
        unfold Crc.sum; rw [HX.out, List.take_of_length_le (by have := HN.out; omega)]
      have husg := u32_unsigned
      clear HX HC
      go_wp2
      go_ret
      exact ⟨by rw [← HF.out]; rfl, rfl⟩
end Go.Proofs.YtcagbggnlfeadaaGreatDoor
