import Derived.Test.YthacdhhmmmocpaaGreatDoorM1
namespace Go.Proofs.YthacdhhmmmocpaaGreatDoor
open Go.RowKit Crc

set_option maxRecDepth 10000 in
set_option maxHeartbeats 800000 in
theorem appendHigh_any (base v s : Nat) (sl : Value) (vi si : Int) (L : List Nat) (w : World) (hvi : vi = (v : Int)) (hsi : si = (s : Int)) (hs : s ≤ 8) (hO : Owns base w sl L) (hl : L.length + 9 ≤ 140737488355328) (hbase : base ≤ w.heap.size) :
    Calls Tryz.prog 69 #[sl, .int .u64 vi, .int .i64 si] w fun e w' => ∃ v', e = .returned v' ∧ Owns base w' v' (L ++ big v s) ∧ Ext w w' sl v' := by
  obtain ⟨i0, hi, hz0, hz1, hz2⟩ := info_parts Tryz.info5
  subst hvi
  subst hsi
  have HO0 : Hid (Owns base w sl L) := hO
  clear hO
  go_enter Tryz.func69, Tryz.ntmps69
  go_wp2
  go_loopw [0, 7] (fun a i wr => ∃ j : Nat, j ≤ s ∧ i = .int .i64 ((s : Int) - 1 - (j : Int)) ∧ Hid (Owns base wr a (L ++ bigTo v s j) ∧ Ext w wr sl a)) (fun _ i _ => (intOf i + 1).toNat)
  case atStart => exact ⟨0, by omega, by go_num, by rw [bigTo, List.append_nil]; exact ⟨HO0.out, Ext.refl _ _⟩⟩
  case round =>
    obtain ⟨j, hj, rfl, HR⟩ := hrel
    clear HO0
    have hbl := big_len v s j
    have HLN : Hid ((L ++ bigTo v s j).length + 1 ≤ 140737488355328) := by show _ ≤ _; rw [List.length_append, hbl]; omega
    have HBS : Hid (base ≤ wr.heap.size) := by show _ ≤ _; have := HR.out.2.1.size; omega
    clear hbl
    by_cases hlt : j < s
    · obtain ⟨i, hi'⟩ : ∃ i : Nat, i + j + 1 = s := ⟨s - 1 - j, by omega⟩
      have he : (s : Int) - 1 - (j : Int) = (i : Int) := by omega
      have HI : Hid (i = s - 1 - j) := by show _ = _; omega
      have hi8 : i ≤ 7 := by omega
      have HTS : Hid (L ++ bigTo v s (j + 1) = (L ++ bigTo v s j) ++ [v / 2 ^ (8 * i) % 256]) := by
        show _ = _
        simp only [bigTo]
        rw [← HI.out, List.append_assoc]
      clear hi'
      go_wp2_with (first
        | (at_builtin; refine wpList_append_ext _ rfl (.tmp 14) (.tmp 20) 26 rfl base 5 i0 (.int .u8 0) Tryz.underlying26 hi hz0 hz1 hz2 rfl u0 (L ++ bigTo v s j).length (vals (L ++ bigTo v s j)) rfl (HR.out.1.1.alloc _) ⟨wr.heap.size, 0, none⟩ 1 1 [.int .u8 ((v : Int) / (2 : Int) ^ (8 * i) % (256 : Int))] rfl rfl (cell_one_new _ _ _) (Shade.one _ rfl) (by omega) HLN.out (by have := HBS.out; simp; omega) ?_; intro v' w1 hown1 hext1))
      go_roundw
      case rel =>
        refine ⟨j + 1, by omega, by have := HI.out; go_num, ?_, (HR.out.2.alloc _).trans hext1⟩
        rw [HTS.out]
        exact HR.out.1.snoc (Nat.mod_lt _ (by omega)) HLN.out (by rw [big_byte]; exact hown1)
      case measure => simp [intOf]; omega
    · obtain rfl : j = s := by omega
      go_wp2
      go_ret
      exact ⟨_, rfl, HR.out.1, HR.out.2⟩
end Go.Proofs.YthacdhhmmmocpaaGreatDoor
namespace Go.Proofs.YthacdhhmmmocpaaGreatDoor
open Go.RowKit Crc

set_option maxRecDepth 10000 in
set_option maxHeartbeats 400000 in
theorem numSize_any (v : Nat) (vi : Int) (w : World) (hvi : vi = (v : Int)) (hv : v < 18446744073709551616) :
    Calls Tryz.prog 49 #[.int .u64 vi] w fun e w' => e = .returned (.int .i64 ((numB v).length : Nat)) ∧ w' = w := by
  subst hvi
  go_enter Tryz.func49, Tryz.ntmps49
  go_wp2
  go_loop [0, 3] (fun a b => ∃ x k : Nat, x < 18446744073709551616 ∧ k ≤ 20 ∧ a = .int .u64 x ∧ b = .int .i64 k ∧ Hid (k + (numB x).length = (numB v).length + 1)) (fun a _ => (intOf a).toNat)
  case atStart => exact ⟨v, 1, hv, by omega, rfl, rfl, by show _ = _; omega⟩
  case round =>
    obtain ⟨x, k, hx, hk, rfl, rfl, HR⟩ := hrel
    by_cases hlt : x < 128
    · have HF : Hid (k = (numB v).length) := by have h := HR.out; rw [numB_small x hlt] at h; simp at h; exact h
      go_wp2
      go_ret
      exact ⟨by rw [← HF.out]; rfl, rfl⟩
    · have HF : Hid (k + 1 + (numB (x / 128)).length = (numB v).length + 1) := by have h := HR.out; rw [numB_big x hlt hx] at h; simp at h; show _ = _; omega
      have hb : k + 1 ≤ 20 := by have h1 := HF.out; have h2 := numTo_len 9 v; have h3 := numTo_pos 9 (x / 128); unfold numB at h1; omega
      clear HR
      go_wp2
      go_round
      case rel => exact ⟨x / 128, k + 1, by omega, hb, by go_num, by go_num, HF⟩
      case measure => simp [intOf]; omega

theorem or128 (x : Nat) : bits .or .u8 ((x : Int) % (256 : Int)) (128 : Int) = ((x % 128 + 128 : Nat) : Int) := by
  have e : (x : Int) % (256 : Int) = ((x % 256 : Nat) : Int) := by omega
  rw [e, show (128 : Int) = ((128 : Nat) : Int) from rfl, u8_or_nat _ _ (by omega) (by omega)]
  congr 1
  have h1 := or_add (x % 128) 1 7 (by omega)
  simp only [Nat.one_mul] at h1
  by_cases hb : x % 256 < 128
  · rw [show x % 256 = x % 128 by omega]; exact h1
  · rw [show x % 256 = x % 128 + 2 ^ 7 by omega, ← h1, Nat.or_assoc]
    exact congrArg _ (by decide)

set_option maxRecDepth 10000 in
set_option maxHeartbeats 800000 in
theorem appendNum_any (base : Nat) (v : Value) (L : List Nat) (x0 : Nat) (xi : Int) (w : World) (hxi : xi = (x0 : Int)) (hx0 : x0 < 18446744073709551616) (hO : Owns base w v L) (hl : L.length + 10 ≤ 140737488355328) (hbase : base ≤ w.heap.size) :
    Calls Tryz.prog 51 #[v, .int .u64 xi] w fun e w' => ∃ v', e = .returned v' ∧ Owns base w' v' (L ++ numB x0) ∧ Ext w w' v v' := by
  obtain ⟨i0, hi, hz0, hz1, hz2⟩ := info_parts Tryz.info5
  subst hxi
  have HO0 : Hid (Owns base w v L) := hO
  have HLN : Hid ((numB x0).length ≤ 10) := numTo_len 9 x0
  clear hO
  go_enter Tryz.func51, Tryz.ntmps51
  go_wp2
  go_loopw [0, 1] (fun a b wr => ∃ x : Nat, x < 18446744073709551616 ∧ b = .int .u64 x ∧ Hid (∃ pre, Owns base wr a (L ++ pre) ∧ pre ++ numB x = numB x0 ∧ Ext w wr v a)) (fun _ b _ => (intOf b).toNat)
  case atStart => exact ⟨x0, hx0, rfl, [], by rw [List.append_nil]; exact HO0.out, rfl, Ext.refl _ _⟩
  case round =>
    obtain ⟨x, hx, rfl, HR⟩ := hrel
    obtain ⟨pre, ho, he, hext⟩ := HR.out
    clear HR HO0
    have hlp : pre.length + (numB x).length ≤ 10 := by have := HLN.out; rw [← he, List.length_append] at this; exact this
    have hpos := numTo_pos 9 x
    have hlen : (L ++ pre).length + 1 ≤ 140737488355328 := by rw [List.length_append]; unfold numB at hlp; omega
    have HO : Hid (Owns base wr u0 (L ++ pre)) := ho
    have HE : Hid (pre ++ numB x = numB x0) := he
    have HX : Hid (Ext w wr v u0) := hext
    have hbs : base ≤ wr.heap.size := by have := hext.1.size; omega
    have HLEN : Hid ((L ++ pre).length + 1 ≤ 140737488355328) := hlen
    have HBS : Hid (base ≤ wr.heap.size) := hbs
    clear ho he hext hlp hpos hlen hbs
    by_cases hlt : x < 128
    · have hmod : (x : Int) % 256 = (x : Int) := by omega
      go_wp2_with (first
        | (at_builtin; refine wpList_append_ext _ rfl (.tmp 15) (.tmp 18) 26 rfl base 5 i0 (.int .u8 0) Tryz.underlying26 hi hz0 hz1 hz2 rfl u0 (L ++ pre).length (vals (L ++ pre)) rfl (HO.out.1.alloc _) ⟨wr.heap.size, 0, none⟩ 1 1 [.int .u8 (x : Int)] rfl rfl (cell_one_new _ _ _) (Shade.one _ rfl) (by omega) HLEN.out (by have := HBS.out; simp; omega) ?_; intro v' w1 hown1 hext1))
      go_ret
      refine ⟨v', rfl, ?_, (HX.out.alloc _).trans hext1⟩
      rw [← HE.out, numB_small x hlt, ← List.append_assoc]
      exact HO.out.snoc (by omega) HLEN.out hown1
    · have hor := or128 x
      have HNB := numB_big x hlt hx
      have HNB' : Hid (numB x = (x % 128 + 128) :: numB (x / 128)) := HNB
      clear HNB
      go_wp2_with (first
        | (at_builtin; refine wpList_append_ext _ rfl (.tmp 7) (.tmp 11) 26 rfl base 5 i0 (.int .u8 0) Tryz.underlying26 hi hz0 hz1 hz2 rfl u0 (L ++ pre).length (vals (L ++ pre)) rfl (HO.out.1.alloc _) ⟨wr.heap.size, 0, none⟩ 1 1 [.int .u8 ((x % 128 + 128 : Nat) : Int)] rfl rfl (cell_one_new _ _ _) (Shade.one _ rfl) (by omega) HLEN.out (by have := HBS.out; simp; omega) ?_; intro v' w1 hown1 hext1))
      go_goals
      go_roundw
      case rel =>
        refine ⟨x / 128, by omega, by go_num, pre ++ [x % 128 + 128], ?_, ?_, (HX.out.alloc _).trans hext1⟩
        · rw [← List.append_assoc]; exact HO.out.snoc (by omega) HLEN.out hown1
        · rw [← HE.out, HNB'.out, List.append_assoc]; rfl
      case measure => simp [intOf]; omega
end Go.Proofs.YthacdhhmmmocpaaGreatDoor
