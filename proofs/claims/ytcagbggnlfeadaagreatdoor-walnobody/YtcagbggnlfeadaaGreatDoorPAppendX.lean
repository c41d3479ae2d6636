import Derived.Test.YtcagbggnlfeadaaGreatDoorPExt
namespace Go.Proofs.YtcagbggnlfeadaaGreatDoor
open Go.RowKit Crc

set_option maxRecDepth 10000 in
set_option maxHeartbeats 800000 in
theorem appendHigh_any (base v s : Nat) (sl : Value) (vi si : Int) (L : List Nat) (w : World) (hvi : vi = (v : Int)) (hsi : si = (s : Int)) (hs : s ≤ 8) (hO : Owns base w sl L) (hl : L.length + 9 ≤ 140737488355328) (hbase : base ≤ w.heap.size) :
    Calls Tryz.prog 64 #[sl, .int .u64 vi, .int .i64 si] w fun e w' => ∃ v', e = .returned v' ∧ Owns base w' v' (L ++ big v s) ∧ Ext w w' sl v' := by
  obtain ⟨i0, hi, hz0, hz1, hz2⟩ := info_parts Tryz.info5
  subst hvi
  subst hsi
  have HO0 : Hid (Owns base w sl L) := hO
  clear hO
  go_enter Tryz.func64, Tryz.ntmps64
  go_wp2
  go_loopw [0, 7] (fun a i wr => ∃ j : Nat, j ≤ s ∧ i = .int .i64 ((s : Int) - 1 - (j : Int)) ∧ Hid (Owns base wr a (L ++ bigTo v s j) ∧ Ext w wr sl a)) (fun _ i _ => (intOf i + 1).toNat)
  case atStart => exact ⟨0, by omega, by go_num, by rw [bigTo, List.append_nil]; exact ⟨HO0.out, Ext.refl _ _⟩⟩
  case round =>
    obtain ⟨j, hj, rfl, HR⟩ := hrel
    clear HO0
    have hbl := big_len v s j
    have HLN : Hid ((L ++ bigTo v s j).length + 1 ≤ 140737488355328) := by show _ ≤ _; rw [List.length_append, hbl]; omega
    have HBS : Hid (base ≤ wr.heap.size) := by show _ ≤ _; have := HR.out.2.1.size; omega
    clear hbl
    by_cases hlt : j < s
    · obtain ⟨i, hi'⟩ : ∃ i : Nat, i + j + 1 = s := ⟨s - 1 - j, by omega⟩
      have he : (s : Int) - 1 - (j : Int) = (i : Int) := by omega
      have HI : Hid (i = s - 1 - j) := by show _ = _; omega
      have hi8 : i ≤ 7 := by omega
      have HTS : Hid (L ++ bigTo v s (j + 1) = (L ++ bigTo v s j) ++ [v / 2 ^ (8 * i) % 256]) := by
        show _ = _
        simp only [bigTo]
        rw [← HI.out, List.append_assoc]
      clear hi'
      go_wp2_with (first
        | (at_builtin; refine wpList_append_ext _ rfl (.tmp 14) (.tmp 20) 37 rfl base 5 i0 (.int .u8 0) Tryz.underlying37 hi hz0 hz1 hz2 rfl u0 (L ++ bigTo v s j).length (vals (L ++ bigTo v s j)) rfl (HR.out.1.1.alloc _) ⟨wr.heap.size, 0, none⟩ 1 1 [.int .u8 ((v : Int) / (2 : Int) ^ (8 * i) % (256 : Int))] rfl rfl (cell_one_new _ _ _) (Shade.one _ rfl) (by omega) HLN.out (by have := HBS.out; simp; omega) ?_; intro v' w1 hown1 hext1))
      go_roundw
      case rel =>
        refine ⟨j + 1, by omega, by have := HI.out; go_num, ?_, (HR.out.2.alloc _).trans hext1⟩
        rw [HTS.out]
        exact HR.out.1.snoc (Nat.mod_lt _ (by omega)) HLN.out (by rw [big_byte]; exact hown1)
      case measure => simp [intOf]; omega
    · obtain rfl : j = s := by omega
      go_wp2
      go_ret
      exact ⟨_, rfl, HR.out.1, HR.out.2⟩
end Go.Proofs.YtcagbggnlfeadaaGreatDoor
