import Derived.Test.YtofddonhoakicaaDoorWSum
import Derived.Test.YtofddonhoakicaaDoorPCopy
namespace Go.Proofs.YtofddonhoakicaaDoor
open Go.RowKit Crc

set_option maxRecDepth 10000 in
set_option maxHeartbeats 800000 in
theorem big_any (v s : Nat) (vi si : Int) (w : World) (hvi : vi = (v : Int)) (hsi : si = (s : Int)) (hs : s ≤ 8) :
    Calls Tryd.prog 25 #[.int .u64 vi, .int .i64 si] w fun e w' => ∃ v', e = .returned v' ∧ Owns w.heap.size w' v' (big v s) ∧ Below w.heap.size w w' := by
  obtain ⟨i0, hi, hz0, hz1, hz2⟩ := info_parts Tryd.info5
  subst hvi
  subst hsi
  go_enter Tryd.func25, Tryd.ntmps25
  go_wp2
  go_loopw [5, 6] (fun sl i wr => ∃ j : Nat, j ≤ s ∧ i = .int .i64 ((s : Int) - 1 - (j : Int)) ∧ Hid (Owns w.heap.size wr sl (bigTo v s j)) ∧ Below w.heap.size w wr) (fun _ i _ => (intOf i + 1).toNat)
  case atStart => exact ⟨0, by omega, by go_num, Owns.nil _ _, Below.refl _ _⟩
  case round =>
    obtain ⟨j, hj, rfl, HO, hnx⟩ := hrel
    have hsize := hnx.size
    by_cases hlt : j < s
    · obtain ⟨i, hi'⟩ : ∃ i : Nat, i + j + 1 = s := ⟨s - 1 - j, by omega⟩
      have he : (s : Int) - 1 - (j : Int) = (i : Int) := by omega
      have HI : Hid (i = s - 1 - j) := by show _ = _; omega
      have hi8 : i ≤ 7 := by omega
      have HTS : Hid (bigTo v s (j + 1) = bigTo v s j ++ [v / 2 ^ (8 * i) % 256]) := by
        show _ = _
        simp only [bigTo]
        rw [← HI.out]
      have HTL : Hid ((bigTo v s j).length = j) := big_len v s j
      have HHO : Hid (wr.ownsRow w.heap.size 5 1 u5 j (vals (bigTo v s j))) := by
        show wr.ownsRow _ _ _ _ _ _
        have := HO.out.1; rw [HTL.out] at this; exact this
      clear hi'
      go_wp2_with (first
        | (at_builtin; refine wpList_append_own _ rfl (.tmp 13) (.tmp 20) 25 rfl w.heap.size 5 i0 (.int .u8 0) 1 1 Tryd.underlying25 hi hz0 hz1 hz2 rfl (by decide) u5 j (vals (bigTo v s j)) rfl (HHO.out.alloc _) ⟨wr.heap.size, 0, none⟩ 1 1 [.int .u8 ((v : Int) / (2 : Int) ^ (8 * i) % (256 : Int))] rfl rfl (cell_one_new _ _ _) (Shade.one _ rfl) (by unfold maxLen; omega) (by omega) (by simp; omega) ?_; intro v' w1 hown1 hgrow1 _))
      go_roundw
      case rel =>
        refine ⟨j + 1, by omega, by have := HI.out; go_num, ?_, (hnx.alloc (by omega) _).grown hgrow1 (by simp; omega) (fun j hj => (HHO.out.lt j hj).1)⟩
        show Owns _ _ _ _
        rw [HTS.out]
        exact HO.out.snoc (Nat.mod_lt _ (by omega)) (by rw [HTL.out]; omega) (by rw [HTL.out, big_byte]; exact hown1)
      case measure => simp [intOf]; omega
    · obtain rfl : j = s := by omega
      go_wp2
      go_ret
      exact ⟨_, rfl, HO.out, hnx⟩

theorem bit_parts (y c j : Nat) (hy : y < 4294967296) (hc : c < 256) : ∃ a d o : Nat, bits .and .u32 ((c : Int) / (2 : Int) ^ j % (4294967296 : Int)) (1 : Int) = (d : Int) ∧ bits .and .u32 (y : Int) (1 : Int) = (a : Int) ∧
    bits .xor .u32 (a : Int) (d : Int) = (o : Int) ∧ bits .xor .u32 ((y : Int) / (2 : Int)) (2197175160 : Int) = (((y >>> 1) ^^^ 2197175160 : Nat) : Int) ∧ (y : Int) / (2 : Int) = ((y >>> 1 : Nat) : Int) ∧
    bit1 y ((c >>> j) &&& 1) = (if o = 1 then (y >>> 1) ^^^ 2197175160 else y >>> 1) := by
  have e1 : (c : Int) / (2 : Int) ^ j % (4294967296 : Int) = ((c >>> j : Nat) : Int) := by
    rw [Nat.shiftRight_eq_div_pow]
    have h1 : c / 2 ^ j ≤ c := Nat.div_le_self _ _
    have h2 : (c : Int) / (2 : Int) ^ j = ((c / 2 ^ j : Nat) : Int) := by
      rw [Int.natCast_ediv, Int.natCast_pow]; rfl
    rw [h2]; clear h2; generalize c / 2 ^ j = q at *; omega
  have hcj : c >>> j < 4294967296 := by
    rw [Nat.shiftRight_eq_div_pow]
    have h1 : c / 2 ^ j ≤ c := Nat.div_le_self _ _
    omega
  have e2 : (y : Int) / (2 : Int) = ((y >>> 1 : Nat) : Int) := by rw [Nat.shiftRight_eq_div_pow]; omega
  refine ⟨y &&& 1, (c >>> j) &&& 1, (y &&& 1) ^^^ ((c >>> j) &&& 1), ?_, u32_and_nat y 1 hy (by omega), ?_, ?_, e2, rfl⟩
  · rw [e1]; exact u32_and_nat _ 1 hcj (by omega)
  · exact u32_xor_nat _ _ (by rw [and1]; omega) (by rw [and1]; omega)
  · rw [e2]; exact u32_xor_nat (y >>> 1) 2197175160 (by rw [Nat.shiftRight_eq_div_pow]; omega) (by decide)

theorem bit1_lt (x b : Nat) (hx : x < 4294967296) : bit1 x b < 4294967296 := by
  unfold bit1
  have h1 : x >>> 1 < 4294967296 := by rw [Nat.shiftRight_eq_div_pow]; omega
  split
  · exact xor_lt32 _ _ h1 (by omega)
  · exact h1

theorem notr_u32 (x : Nat) (h : x < 4294967296) : bits .xor .u32 (x : Int) (4294967295 : Int) = ((x ^^^ 4294967295 : Nat) : Int) := u32_xor_nat x 4294967295 h (by omega)

set_option maxRecDepth 10000 in
set_option maxHeartbeats 400000 in
theorem ref_any (b off : Nat) (ao : Option Addr) (B : List Nat) (n cap : Nat) (w : World) (hao : 0 < n → ao = some ⟨b, off, none⟩) (hn : n = B.length) (hl : n ≤ 140737488355328) (hB : ∀ x ∈ B, x < 256)
  (hc : ∀ i, i < n → w.cell? ⟨b, off + i, none⟩ = some (.int .u8 ((B.getD i 0 : Nat) : Int))) :
    Calls Tryd.prog 27 #[.slice ao n cap] w fun e w' => e = .returned (.int .u32 (Crc.sum B)) ∧ w' = w := by
  have HA : Hid (0 < n → ao = some ⟨b, off, none⟩) := hao
  have HN : Hid (n = B.length) := hn
  have HC : Hid (∀ i, i < n → w.cell? ⟨b, off + i, none⟩ = some (.int .u8 ((B.getD i 0 : Nat) : Int))) := hc
  clear hn hc hao
  go_enter Tryd.func27, Tryd.ntmps27
  go_wp2
  go_loop [3, 4] (fun s i => ∃ k x : Nat, k ≤ n ∧ x < 4294967296 ∧ i = .int .i64 k ∧ s = .int .u32 x ∧ Hid (x = sumFrom 4294967295 (B.take k))) (fun _ i => n - (intOf i).toNat)
  case atStart => exact ⟨0, 4294967295, Nat.zero_le _, by omega, rfl, rfl, by show _ = _; simp [sumFrom]⟩
  case round =>
    obtain ⟨k, x, hk, hx, rfl, rfl, HX⟩ := hrel
    by_cases hlt : k < n
    · have hck := HC.out k hlt
      obtain rfl := HA.out (by omega)
      have hcb : B.getD k 0 < 256 := getD_lt B hB k
      have hst := sumFrom_step 4294967295 B k (by have := HN.out; omega)
      rw [← HX.out] at hst
      obtain ⟨c, hcd⟩ : ∃ c, c = B.getD k 0 := ⟨_, rfl⟩
      rw [← hcd] at hck hcb hst
      have HS : Hid (sumFrom 4294967295 (B.take (k + 1)) = L8 (x ^^^ c)) := hst
      clear hst hcd HX
      go_wp2
      go_loop [3, 5] (fun s i => ∃ j y : Nat, j ≤ 8 ∧ y < 4294967296 ∧ i = .int .i64 j ∧ s = .int .u32 y ∧ Hid (y = bitsTo x c j)) (fun _ i => 8 - (intOf i).toNat)
      case atStart => exact ⟨0, x, by omega, hx, rfl, rfl, rfl⟩
      case round =>
        obtain ⟨j, y, hj, hy, rfl, rfl, HY⟩ := hrel
        by_cases hj8 : j < 8
        · obtain ⟨a, d, o, f1, f2, f3, f4, f5, f6⟩ := bit_parts y c j hy hcb
          have hlt1 := bit1_lt y ((c >>> j) &&& 1) hy
          have hst : bitsTo x c (j + 1) = bit1 y ((c >>> j) &&& 1) := by rw [HY.out]; rfl
          rw [f6] at hst hlt1
          by_cases ho : o = 1
          · rw [if_pos ho] at hst hlt1
            subst ho
            generalize (y >>> 1) ^^^ 2197175160 = z at *
            have HZ : Hid (bitsTo x c (j + 1) = z) := hst
            clear hst f5 f6 HY
            go_wp2
            go_round
            case rel => exact ⟨j + 1, z, by omega, hlt1, by go_num, rfl, HZ.out.symm⟩
            case measure => simp [intOf]; omega
          · rw [if_neg ho] at hst hlt1
            have ho' : ((o : Int) == 1) = false := by simp; omega
            generalize y >>> 1 = z at *
            have HZ : Hid (bitsTo x c (j + 1) = z) := hst
            clear hst f4 f6 HY ho
            go_wp2
            go_round
            case rel => exact ⟨j + 1, z, by omega, hlt1, by go_num, rfl, HZ.out.symm⟩
            case measure => simp [intOf]; omega
        · obtain rfl : j = 8 := by omega
          go_wp2
          go_round
          case rel => exact ⟨k + 1, y, by omega, hy, by go_num, rfl, by show _ = _; rw [HY.out, HS.out]; exact byteR_eq x c hcb⟩
          case measure => simp [intOf]; omega
    · have hfin := notr_u32 x hx
      have HF : Hid (x ^^^ 4294967295 = Crc.sum B) := by
        show _ = _
        unfold Crc.sum; rw [HX.out, List.take_of_length_le (by have := HN.out; omega)]
      clear HX HC
      go_wp2
      go_ret
      exact ⟨by rw [← HF.out]; rfl, rfl⟩
end Go.Proofs.YtofddonhoakicaaDoor
