import Derived.Test.YtbfjeabngdiejaaDoorFrame
namespace Go.Proofs.YtbfjeabngdiejaaDoor
open Go.RowKit Crc

theorem wpList_append_nothing {P : Program} {w : World} {ops : Array Oper} {rest : List Oper} {o : Oper} {a : Act} {Q : Exit → Act → World → Prop} (hgd : o.guard = none) (s x : Operand) (t : TypeId)
    (ho : o.op = .call { callee := .builtin .append, args := #[s, x], argTypes := #[t, t] }) (v x' : Value) (hs : a.eval s = v) (hx : a.eval x = x')
    (hrun : (Builtin.append_ #[t, t] o.type #[v, x']).run P w = .ok v w) (h : wpList P ops Q rest (a.put o.dst v) w) : wpList P ops Q (o :: rest) a w := by
  refine wpList_plain hgd fun _ hK => ?_
  unfold Oper.wp execOp
  simp only [ho, resolve, invoke, builtin, Sem.run_bind, Sem.run_pure, Result.andThen_ok, List.map_toArray, List.map_cons, List.map_nil, hs, hx, hrun]
  exact hK _ _ h

set_option maxHeartbeats 1600000 in
theorem frame_nil (k : Nat) (ao : Option Addr) (cap : Nat) (w : World) (hk : k < 256) (h0 : 0 < w.heap.size) (hT : Table w) :
    Calls Tryd.prog 5 #[.int .u8 k, .slice ao 0 cap] w fun e w' => e = .returned (.tuple #[.slice (some ⟨w.heap.size, 0, none⟩) 12 12, .nilIface]) ∧
      w'.ownsRow w.heap.size 5 1 (.slice (some ⟨w.heap.size, 0, none⟩) 12 12) 12 (vals (frameB k [])) ∧ Below w.heap.size w w' := by
  obtain ⟨i0, hi, hz0, hz1, hz2⟩ := info_parts Tryd.info5
  have HT : Hid (∀ w1 : World, Below w.heap.size w w1 → Table w1) := fun w1 hb i hi => (hb.cell (p := ⟨0, i, none⟩) h0).trans (hT i hi)
  clear hT h0
  go_enter Tryd.func5, Tryd.ntmps5
  go_wp2_with (first
    | (at_make; refine wpList_make_own _ rfl _ _ 22 rfl w.heap.size 5 i0 (.int .u8 0) 1 Tryd.underlying22 hi hz0 hz1 .i64 .i64 _ 12 rfl rfl (by omega) (by rw [hz2]; omega) (by unfold maxLen; omega) (Nat.le_refl _) ?_; intro w0 hown0 hgrow0))
  go_wp2_with fail
  refine (append_any w.heap.size 0 12 20813 2 _ _ [] w0 rfl rfl (by omega) (by omega) hown0).mono ?_
  rintro e w1 ⟨rfl, hown1, hgrow1⟩
  rw [big2] at hown1
  go_wp2_with (first
    | (at_builtin; refine wpList_append_own_spare _ rfl (.tmp 18) (.tmp 20) 22 rfl w.heap.size 5 i0 1 Tryd.underlying22 hi hz1 w.heap.size 2 12 _ rfl (hown1.alloc _) ⟨w1.heap.size, 0, none⟩ 2 2 [.int .u8 1, .int .u8 (k : Int)] rfl rfl (cell_two_new _ _ _ _) (one2 _ _) (by omega) ?_; intro w2 hown2 hgrow2))
  have hb0 : Below w.heap.size w w0 := (Below.refl _ _).grown hgrow0 (Nat.le_refl _) (fun k h => by cases h)
  have hs0 := hb0.size
  have hb1 : Below w.heap.size w w1 := hb0.grown hgrow1 (by omega) (fun k h => by cases h; exact Nat.le_refl _)
  have hs1 := hb1.size
  have hb2 : Below w.heap.size w w2 := (hb1.alloc (by omega) _).grown hgrow2 (by simp; omega) (fun k h => by cases h; exact Nat.le_refl _)
  have hs2 := hb2.size
  clear hown0 hown1 hgrow0 hgrow1 hgrow2 hb0 hb1 hs0 hs1
  refine (append_any w.heap.size 4 12 0 4 _ _ _ w2 rfl rfl (by omega) (by omega) hown2).mono ?_
  rintro e w4 ⟨rfl, hown3, hgrow3⟩
  have hb4 : Below w.heap.size w w4 := hb2.grown hgrow3 (by omega) (fun k h => by cases h; exact Nat.le_refl _)
  have hs4 := hb4.size
  clear hown2 hgrow3 hb2 hs2
  have HH : Hid (w4.ownsRow w.heap.size 5 1 (.slice (some ⟨w.heap.size, 0, none⟩) 8 12) 8 (vals (headB k []))) := by
    show w4.ownsRow _ _ _ _ _ _
    have e : vals (headB k []) = [] ++ vals [81, 77] ++ [.int .u8 1, .int .u8 (k : Int)] ++ vals (big 0 4) := by
      unfold headB; rw [vals_append, vals_append, vals_append]; simp [vals]
    rw [e]; exact hown3
  clear hown3
  have HAP : Hid (∀ wx : World, (Builtin.append_ #[22, 22] 22 #[.slice (some ⟨w.heap.size, 0, none⟩) 8 12, .slice ao 0 cap]).run Tryd.prog wx = .ok (.slice (some ⟨w.heap.size, 0, none⟩) 8 12) wx) := by
    intro wx
    cases ao <;> simp [Builtin.append_, run_underlying Tryd.underlying22, sizeOf, typeInfo, hi, storeCells, go_sem]
  go_wp2_with (first
    | (at_builtin; refine wpList_append_nothing rfl (.tmp 27) (.tmp 28) 22 rfl _ _ rfl rfl (HAP.out _) ?_))
  have HCL : Hid (∀ i, i < 8 → w4.cell? ⟨w.heap.size, 0 + i, none⟩ = some (.int .u8 (((headB k []).getD i 0 : Nat) : Int))) := by
    intro i hi; rw [Nat.zero_add]; exact owned_cells HH.out i hi
  refine (sum_any w.heap.size 0 _ (headB k []) 8 12 w4 (fun _ => rfl) (by rw [headB_len]; rfl) (by omega) (headB_lt k [] hk (by simp)) (HT.out w4 hb4) HCL.out).mono ?_
  rintro e w5 ⟨rfl, rfl⟩
  have hSlt : Crc.sum (headB k []) < 4294967296 := xor_lt32 _ _ (sumFrom_lt _ _ (by omega) (headB_lt k [] hk (by simp))) (by omega)
  have HE : Hid (vals (frameB k []) = vals (headB k []) ++ [.int .u8 (((Crc.sum (headB k []) : Nat) : Int) % (256 : Int)), .int .u8 (((Crc.sum (headB k []) : Nat) : Int) / (256 : Int) % (256 : Int)), .int .u8 (((Crc.sum (headB k []) : Nat) : Int) / (65536 : Int) % (256 : Int)), .int .u8 (((Crc.sum (headB k []) : Nat) : Int) / (16777216 : Int))]) := by
    show _ = _; unfold frameB; rw [vals_append, vals_low4]
  clear HCL HAP
  generalize Crc.sum (headB k []) = S at *
  go_wp2_with (first
    | (at_builtin; refine wpList_append_own_spare _ rfl (.tmp 32) (.tmp 44) 22 rfl w.heap.size 5 i0 1 Tryd.underlying22 hi hz1 w.heap.size 8 12 _ rfl (HH.out.alloc _) ⟨w5.heap.size, 0, none⟩ 4 4 [.int .u8 ((S : Int) % (256 : Int)), .int .u8 ((S : Int) / (256 : Int) % (256 : Int)), .int .u8 ((S : Int) / (65536 : Int) % (256 : Int)), .int .u8 ((S : Int) / (16777216 : Int))] rfl rfl (cell_four_new _ _ _ _ _ _) (one4 _ _ _ _) (by omega) ?_; intro w6 hown6 hgrow6))
  go_ret2
  refine ⟨rfl, ?_, (hb4.alloc (by omega) _).grown hgrow6 (by simp; omega) (fun k h => by cases h; exact Nat.le_refl _)⟩
  rw [HE.out]
  exact hown6

/-- Frame, whatever the body's address. -/
theorem frame_any (k : Nat) (b off : Nat) (ao : Option Addr) (B : List Nat) (n cap : Nat) (w : World) (hao : 0 < n → ao = some ⟨b, off, none⟩) (hn : n = B.length) (hl : n ≤ 65495) (hk : k < 256) (hB : ∀ x ∈ B, x < 256) (hbw : 0 < n → b < w.heap.size) (h0 : 0 < w.heap.size) (hT : Table w)
  (hc : ∀ i, i < n → w.cell? ⟨b, off + i, none⟩ = some (.int .u8 ((B.getD i 0 : Nat) : Int))) :
    Calls Tryd.prog 5 #[.int .u8 k, .slice ao n cap] w fun e w' => e = .returned (.tuple #[.slice (some ⟨w.heap.size, 0, none⟩) (12 + n) (12 + n), .nilIface]) ∧
      w'.ownsRow w.heap.size 5 1 (.slice (some ⟨w.heap.size, 0, none⟩) (12 + n) (12 + n)) (12 + n) (vals (frameB k B)) ∧ Below w.heap.size w w' := by
  by_cases hp : 0 < n
  · obtain rfl := hao hp
    exact frame_some k b off B n cap w hn hl hk hB (hbw hp) h0 hT hc
  · obtain rfl : n = 0 := by omega
    obtain rfl : B = [] := List.eq_nil_of_length_eq_zero hn.symm
    exact frame_nil k ao cap w hk h0 hT
end Go.Proofs.YtbfjeabngdiejaaDoor
