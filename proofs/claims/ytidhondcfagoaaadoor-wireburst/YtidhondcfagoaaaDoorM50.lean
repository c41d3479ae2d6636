import Derived.Test.YtidhondcfagoaaaDoorM47
import Derived.Deep.RegionHeld
import Derived.Test.YtidhondcfagoaaaDoorM49
namespace Go.Proofs.YtidhondcfagoaaaDoor
open Go.RowKit Crc

set_option maxRecDepth 10000 in
set_option maxHeartbeats 400000 in
theorem unframe_ok (b off : Nat) (B : List Nat) (n cap : Nat) (w : World) (hn : n = B.length) (hcap : n ≤ cap) (hB : ∀ x ∈ B, x < 256) (hT : Table w) (hbw : b < w.heap.size)
  (hc : ∀ i, i < n → w.cell? ⟨b, off + i, none⟩ = some (.int .u8 ((B.getD i 0 : Nat) : Int))) (hok : (ff B).2 = 0) :
    Calls Tryd.prog 6 #[.slice (some ⟨b, off, none⟩) n cap] w fun e w' => ∃ v, e = .returned (.tuple #[.int .u8 (B.getD 3 0 : Nat), v, .nilIface]) ∧ Fresh w w' v ((B.drop 8).take (n - 12)) ∧ (v = .slice none 0 0 ∨ v = .slice (some ⟨w.heap.size, 0, none⟩) (n - 12) (n - 12)) := by
  obtain ⟨h12, hmax, hff, _, _, _, _⟩ := ff_ok hok
  have HF : Hid (Calls Tryd.prog 13 #[.slice (some ⟨b, off, none⟩) n cap] w fun e w' => e = .returned (pairV (0, 0)) ∧ ∃ q, w' = w.drewN q) := by
    rw [← hff]; exact ff_any b off _ B n cap w (fun _ => rfl) hn (by omega) hcap hB hT hc
  obtain ⟨E, hE⟩ : ∃ E, E = n - 4 := ⟨_, rfl⟩
  have hE1 : E + 4 ≤ n := by omega
  have hE2 : 8 ≤ E := by omega
  have HE : Hid (E = n - 4) := hE
  have i1 : (8 : Int) ≤ (E : Int) := by omega
  have i2 : (E : Int) ≤ (cap : Int) := by omega
  have i3 : E ≤ cap := by omega
  have i4 : (0 : Int) ≤ (E : Int) := by omega
  have i5 : ¬ cap = 8 := by omega
  have j1 : (3 : Int) < (n : Int) := by omega
  have j2 : 3 < n := by omega
  have HW : Hid (IntKind.i64.wrap ((n : Int) - 4) = (E : Int)) := by show _ = _; rw [IntKind.wrap_i64]; omega
  have HC : Hid (∀ wx : World, wx.heap = w.heap → Calls Tryd.prog 14 #[.slice (some ⟨b, off + 8, none⟩) (E - 8) (cap - 8)] wx fun e w' => ∃ v, e = .returned v ∧ (v = .slice none 0 0 ∨ v = .slice (some ⟨wx.heap.size, 0, none⟩) (E - 8) (E - 8)) ∧ (0 < E - 8 → v ≠ .slice none 0 0) ∧ Fresh wx w' v ((B.drop 8).take (n - 12))) := by
    intro wx hx
    refine copied_any b (off + 8) _ ((B.drop 8).take (n - 12)) (E - 8) (cap - 8) wx (fun _ => rfl) (by rw [List.length_take, List.length_drop]; omega) (by omega) (fun _ => by rw [hx]; exact hbw) (fun i hi => ?_)
    rw [getD_take (by omega), getD_drop, show off + 8 + i = off + (8 + i) by omega]
    exact (World.cell?_of_block (w := w) (w' := wx) (a := ⟨b, off + (8 + i), none⟩) (by rw [hx])).trans (hc (8 + i) (by omega))
  have hc3 := hc 3 (by omega)
  have hb3 := getD_lt B hB 3
  have HN : Hid (n = B.length) := hn
  have HBW : Hid (b < w.heap.size) := hbw
  clear hn hT hc hE hok hff hB
  generalize B.getD 3 0 = K at *
  unfold pairV at HF
  go_enter Tryd.func6, Tryd.ntmps6
  go_wp2_with fail
  refine HF.out.mono ?_
  rintro e w1 ⟨rfl, q, rfl⟩
  go_wp2
  have hw2 := HW.out
  have HE2 : Hid (E - 8 = n - 12) := by show _ = _; have := HE.out; omega
  clear HW HF HN HE hcap h12 hmax hE1 hE2 hb3
  go_region_held (fun w' => w'.cell? ⟨b, off + 3, none⟩ = some (.int .u8 (K : Int))) (go_keep)
    ((go_at_call 14; refine (HC.out _ ?_).mono ?_; rfl; rintro e w1 ⟨v, rfl, hv, hv2, hfr⟩; have hx3 := (hfr.2.cell (p := ⟨b, off + 3, none⟩) HBW.out).trans hc3))
  go_wp2
  go_ret3
  refine ⟨v, rfl, ⟨hfr.1, ⟨hfr.2.os, hfr.2.tape, hfr.2.output, hfr.2.size, hfr.2.block⟩⟩, ?_⟩
  rcases hv with h | h
  · exact .inl h
  · refine .inr ?_
    rw [h, HE2.out]
    rfl
end Go.Proofs.YtidhondcfagoaaaDoor
namespace Go.Proofs.YtidhondcfagoaaaDoor
open Go.RowKit Crc

set_option maxRecDepth 10000 in
set_option maxHeartbeats 1600000 in
theorem frame_nil (k : Nat) (ao : Option Addr) (cap : Nat) (w : World) (hk : k < 256) (h0 : 0 < w.heap.size) (hT : Table w) :
    Calls Tryd.prog 4 #[.int .u8 k, .slice ao 0 cap] w fun e w' => e = .returned (.tuple #[.slice (some ⟨w.heap.size, 0, none⟩) 12 12, .nilIface]) ∧
      w'.ownsRow w.heap.size 5 1 (.slice (some ⟨w.heap.size, 0, none⟩) 12 12) 12 (vals (frameB k [])) ∧ Below w.heap.size w w' := by
  obtain ⟨i0, hi, hz0, hz1, hz2⟩ := info_parts Tryd.info5
  have HT : Hid (∀ w1 : World, Below w.heap.size w w1 → Table w1) := fun w1 hb i hi => (hb.cell (p := ⟨0, i, none⟩) h0).trans (hT i hi)
  clear hT h0
  go_enter Tryd.func4, Tryd.ntmps4
  go_wp2_with (first
    | (at_make; refine wpList_make_own _ rfl _ _ 22 rfl w.heap.size 5 i0 (.int .u8 0) 1 Tryd.underlying22 hi hz0 hz1 .i64 .i64 _ 12 rfl rfl (by omega) (by rw [hz2]; omega) (by unfold maxLen; omega) (Nat.le_refl _) ?_; intro w0 hown0 hgrow0))
  go_wp2_with fail
  refine (append_any w.heap.size 0 12 20813 2 _ _ [] w0 rfl rfl (by omega) (by omega) hown0).mono ?_
  rintro e w1 ⟨rfl, hown1, hgrow1⟩
  rw [big2] at hown1
  go_wp2_with (first
    | (at_builtin; refine wpList_append_own_spare _ rfl (.tmp 18) (.tmp 20) 22 rfl w.heap.size 5 i0 1 Tryd.underlying22 hi hz1 w.heap.size 2 12 _ rfl (hown1.alloc _) ⟨w1.heap.size, 0, none⟩ 2 2 [.int .u8 1, .int .u8 (k : Int)] rfl rfl (cell_two_new _ _ _ _) (one2 _ _) (by omega) ?_; intro w2 hown2 hgrow2))
  have hb0 : Below w.heap.size w w0 := (Below.refl _ _).grown hgrow0 (Nat.le_refl _) (fun k h => by cases h)
  have hs0 := hb0.size
  have hb1 : Below w.heap.size w w1 := hb0.grown hgrow1 (by omega) (fun k h => by cases h; exact Nat.le_refl _)
  have hs1 := hb1.size
  have hb2 : Below w.heap.size w w2 := (hb1.alloc (by omega) _).grown hgrow2 (by simp; omega) (fun k h => by cases h; exact Nat.le_refl _)
  have hs2 := hb2.size
  clear hown0 hown1 hgrow0 hgrow1 hgrow2 hb0 hb1 hs0 hs1
  refine (append_any w.heap.size 4 12 0 4 _ _ _ w2 rfl rfl (by omega) (by omega) hown2).mono ?_
  rintro e w4 ⟨rfl, hown3, hgrow3⟩
  have hb4 : Below w.heap.size w w4 := hb2.grown hgrow3 (by omega) (fun k h => by cases h; exact Nat.le_refl _)
  have hs4 := hb4.size
  clear hown2 hgrow3 hb2 hs2
  have HH : Hid (w4.ownsRow w.heap.size 5 1 (.slice (some ⟨w.heap.size, 0, none⟩) 8 12) 8 (vals (headB k []))) := by
    show w4.ownsRow _ _ _ _ _ _
    have e : vals (headB k []) = [] ++ vals [81, 77] ++ [.int .u8 1, .int .u8 (k : Int)] ++ vals (big 0 4) := by
      unfold headB; rw [vals_append, vals_append, vals_append]; simp [vals]
    rw [e]; exact hown3
  clear hown3
  have HAP : Hid (∀ wx : World, (Builtin.append_ #[22, 22] 22 #[.slice (some ⟨w.heap.size, 0, none⟩) 8 12, .slice ao 0 cap]).run Tryd.prog wx = .ok (.slice (some ⟨w.heap.size, 0, none⟩) 8 12) wx) := by
    intro wx
    cases ao <;> simp [Builtin.append_, run_underlying Tryd.underlying22, sizeOf, typeInfo, hi, storeCells, go_sem]
  go_wp2_with (first
    | (at_builtin; refine wpList_append_nothing rfl (.tmp 27) (.tmp 28) 22 rfl _ _ rfl rfl (HAP.out _) ?_))
  have HCL : Hid (∀ i, i < 8 → w4.cell? ⟨w.heap.size, 0 + i, none⟩ = some (.int .u8 (((headB k []).getD i 0 : Nat) : Int))) := by
    intro i hi; rw [Nat.zero_add]; exact owned_cells HH.out i hi
  refine (sum_any w.heap.size 0 _ (headB k []) 8 12 w4 (fun _ => rfl) (by rw [headB_len]; rfl) (by omega) (headB_lt k [] hk (by simp)) (HT.out w4 hb4) HCL.out).mono ?_
  rintro e w5 ⟨rfl, rfl⟩
  have hSlt : Crc.sum (headB k []) < 4294967296 := xor_lt32 _ _ (sumFrom_lt _ _ (by omega) (headB_lt k [] hk (by simp))) (by omega)
  have HE : Hid (vals (frameB k []) = vals (headB k []) ++ [.int .u8 (((Crc.sum (headB k []) : Nat) : Int) % (256 : Int)), .int .u8 (((Crc.sum (headB k []) : Nat) : Int) / (256 : Int) % (256 : Int)), .int .u8 (((Crc.sum (headB k []) : Nat) : Int) / (65536 : Int) % (256 : Int)), .int .u8 (((Crc.sum (headB k []) : Nat) : Int) / (16777216 : Int))]) := by
    show _ = _; unfold frameB; rw [vals_append, vals_low4]
  clear HCL HAP
  generalize Crc.sum (headB k []) = S at *
  go_wp2_with (first
    | (at_builtin; refine wpList_append_own_spare _ rfl (.tmp 32) (.tmp 44) 22 rfl w.heap.size 5 i0 1 Tryd.underlying22 hi hz1 w.heap.size 8 12 _ rfl (HH.out.alloc _) ⟨w5.heap.size, 0, none⟩ 4 4 [.int .u8 ((S : Int) % (256 : Int)), .int .u8 ((S : Int) / (256 : Int) % (256 : Int)), .int .u8 ((S : Int) / (65536 : Int) % (256 : Int)), .int .u8 ((S : Int) / (16777216 : Int))] rfl rfl (cell_four_new _ _ _ _ _ _) (one4 _ _ _ _) (by omega) ?_; intro w6 hown6 hgrow6))
  go_ret2
  refine ⟨rfl, ?_, (hb4.alloc (by omega) _).grown hgrow6 (by simp; omega) (fun k h => by cases h; exact Nat.le_refl _)⟩
  rw [HE.out]
  exact hown6

/-- Frame, whatever the body's address. -/
theorem frame_any (k : Nat) (b off : Nat) (ao : Option Addr) (B : List Nat) (n cap : Nat) (w : World) (hao : 0 < n → ao = some ⟨b, off, none⟩) (hn : n = B.length) (hl : n ≤ 65495) (hk : k < 256) (hB : ∀ x ∈ B, x < 256) (hbw : 0 < n → b < w.heap.size) (h0 : 0 < w.heap.size) (hT : Table w)
  (hc : ∀ i, i < n → w.cell? ⟨b, off + i, none⟩ = some (.int .u8 ((B.getD i 0 : Nat) : Int))) :
    Calls Tryd.prog 4 #[.int .u8 k, .slice ao n cap] w fun e w' => e = .returned (.tuple #[.slice (some ⟨w.heap.size, 0, none⟩) (12 + n) (12 + n), .nilIface]) ∧
      w'.ownsRow w.heap.size 5 1 (.slice (some ⟨w.heap.size, 0, none⟩) (12 + n) (12 + n)) (12 + n) (vals (frameB k B)) ∧ Below w.heap.size w w' := by
  by_cases hp : 0 < n
  · obtain rfl := hao hp
    exact frame_some k b off B n cap w hn hl hk hB (hbw hp) h0 hT hc
  · obtain rfl : n = 0 := by omega
    obtain rfl : B = [] := List.eq_nil_of_length_eq_zero hn.symm
    exact frame_nil k ao cap w hk h0 hT
end Go.Proofs.YtidhondcfagoaaaDoor
