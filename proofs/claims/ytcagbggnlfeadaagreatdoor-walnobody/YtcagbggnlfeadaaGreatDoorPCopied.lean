import Derived.Test.YtcagbggnlfeadaaGreatDoorPBase
namespace Go.Proofs.YtcagbggnlfeadaaGreatDoor
open Go.RowKit Crc

set_option maxRecDepth 10000 in
set_option maxHeartbeats 800000 in
theorem copied_any (b off : Nat) (ao : Option Addr) (B : List Nat) (n cap : Nat) (w : World) (hao : 0 < n → ao = some ⟨b, off, none⟩) (hn : n = B.length) (hl : n ≤ 140737488355328)
  (hbw : 0 < n → b < w.heap.size) (hc : ∀ i, i < n → w.cell? ⟨b, off + i, none⟩ = some (.int .u8 ((B.getD i 0 : Nat) : Int))) :
    Calls Tryz.prog 38 #[.slice ao n cap] w fun e w' => ∃ v, e = .returned v ∧ (v = .slice none 0 0 ∨ v = .slice (some ⟨w.heap.size, 0, none⟩) n n) ∧ (0 < n → v ≠ .slice none 0 0) ∧ Fresh w w' v B := by
  obtain ⟨i0, hi, hz0, hz1, hz2⟩ := info_parts Tryz.info5
  by_cases h0 : n = 0
  · subst h0
    have hB : B = [] := List.eq_nil_of_length_eq_zero hn.symm
    clear hn hc hao hbw
    go_enter Tryz.func38, Tryz.ntmps38
    go_wp2
    go_ret
    subst hB
    exact ⟨_, rfl, .inl rfl, fun h => by omega, World.ownsRow_nil _ _ _ _, Below.refl _ _⟩
  · obtain rfl := hao (by omega)
    have hbw' := hbw (by omega)
    have hne : ((n : Int) == 0) = false := by simp; omega
    have HN : Hid (n = B.length) := hn
    have HC : Hid (∀ i, i < n → w.cell? ⟨b, off + i, none⟩ = some (.int .u8 ((B.getD i 0 : Nat) : Int))) := hc
    clear hn hc hao hbw
    go_enter Tryz.func38, Tryz.ntmps38
    have HS : Hid (∀ w0 : World, w.grownBy w0 none → ∀ j v, (vals B)[j]? = some v → w0.cell? ((⟨b, off, none⟩ : Addr).add j) = some v) := by
      intro w0 hg j v hj
      exact hg.cell (vals_cell (fun i hi => HC.out i (by have := HN.out; omega)) j v hj) (by simp)
    have hlen : (vals B).length = Nat.min n n := by rw [vals_len]; exact HN.out.symm.trans (Nat.min_self n).symm
    have hlB : (vals B).length = n := by rw [vals_len]; exact HN.out.symm
    go_wp2_with (first
      | (at_make; refine wpList_make_full _ rfl _ _ 37 rfl w.heap.size 5 i0 (.int .u8 0) 1 Tryz.underlying37 hi hz0 hz1 .i64 .i64 _ _ n rfl rfl rfl rfl (by rw [hz2]; omega) (by unfold maxLen; omega) (Nat.le_refl _) ?_; intro w0 hown0 hgrow0; obtain ⟨cur, hg0, hcs, _, _⟩ := own_block hown0)
      | (refine wpList_copy_own rfl (.tmp 10) (.tmp 11) 37 37 rfl 5 Tryz.underlying37 size5 w.heap.size 0 n n ⟨b, off, none⟩ n cap rfl rfl cur 5 hg0 (vals B) hlen (HS.out w0 hgrow0) (by rw [hlB]; omega) (vals_one' B) ?_))
    go_ret
    refine ⟨_, rfl, .inr rfl, fun _ => by simp, ?_, below_setRow ((Below.refl _ _).grown hgrow0 (Nat.le_refl _) (fun k h => by cases h)) (Nat.le_refl _) _⟩
    rw [← HN.out]
    refine owns_of (Nat.le_refl _) (setRow_heap w0 w.heap.size _ _ 5 _ hg0) ?_ (by unfold maxLen; omega) (Nat.le_refl _) ?_
    · simp; omega
    · have : cur.toList.drop n = [] := List.drop_eq_nil_of_le (by simp; omega)
      simp [this]
      exact List.take_of_length_le (by omega)
end Go.Proofs.YtcagbggnlfeadaaGreatDoor
