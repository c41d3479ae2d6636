import Derived.Test.YtbfjeabngdiejaaDoorFramesWalk
namespace Go.Proofs.YtbfjeabngdiejaaDoor
open Go.RowKit Crc

set_option maxHeartbeats 3200000 in
theorem frames_long {lim lim2 : Nat} {ao bo : Option Addr} {B E : List Nat} {n cap m mcap k : Nat} {w : World} (h : Shows lim w ao n cap B) (hlim : lim ≤ w.heap.size) (hb : Shows lim2 w bo m mcap E) (hlim2 : lim2 ≤ w.heap.size) (hT : Table w) (h0 : 0 < w.heap.size) (hk : k < 256) (hn : 65495 < n) :
    Calls Tryd.prog 4 #[.int .u8 k, .slice ao n cap, .slice bo m mcap] w fun e w' => e = .returned (.bool true) ∧ Below w.heap.size w w' := by
  have HT : Hid (∀ w1 : World, Below w.heap.size w w1 → Table w1) := fun w1 hb i hi => (hb.cell (p := ⟨0, i, none⟩) h0).trans (hT i hi)
  have HSW : Hid (∀ w1 : World, Below w.heap.size w w1 → Shows lim w1 ao n cap B) := fun w1 hb => h.kept (row := none) (below_none hb) (fun g h => by cases h)
  have HSE : Hid (∀ w1 : World, Below w.heap.size w w1 → Shows lim2 w1 bo m mcap E) := fun w1 hb' => hb.kept (row := none) (below_none hb') (fun g h => by cases h)
  have HB : Hid (∀ x ∈ B, x < 256) := h.2.2.2.1
  have HNL : Hid (n ≤ 140737488355328) := h.2.2.1
  have HL : Hid (lim ≤ w.heap.size) := hlim
  have HL2 : Hid (lim2 ≤ w.heap.size) := hlim2
  have H0 : Hid (0 < w.heap.size) := h0
  have HRF' : Hid (Calls Tryd.prog 9 #[.int .i64 (k : Int), .slice ao n cap] w fun e w' => e = .returned (.tuple #[.slice none 0 0, .agg #[.int .i64 21, .int .i64 65507]]) ∧ Below w.heap.size w w') := refframe_long (k : Int) ao n cap w hn h.2.2.1
  have HFR : Hid (∀ (w1 : World) (gc : Nat), Calls Tryd.prog 5 #[.int .u8 k, .slice (some ⟨gc, 0, none⟩) n (n + 4)] w1 fun e w' => ∃ v, e = .returned (.tuple #[.slice none 0 0, v]) ∧ IsFault w' v 65507 21 ∧ Below w1.heap.size w1 w') :=
    fun w1 gc => frame_long (k : Int) (some ⟨gc, 0, none⟩) n (n + 4) w1 hn HNL.out
  clear h hb hlim hlim2 hT h0 hn
  go_enter Tryd.func4, Tryd.ntmps4
  go_wp2_with fail
  refine HRF'.out.mono ?_
  rintro e w1 ⟨rfl, hb1⟩
  have HB1 : Hid (Below w.heap.size w w1) := hb1
  clear hb1 HRF'
  go_wp2_with fail
  obtain ⟨gc, hgc⟩ : ∃ gc, gc = (w1.alloc (.cells #[.int .i64 21, .int .i64 65507] 34)).heap.size := ⟨_, rfl⟩
  have hgc' : w1.heap.size < gc := by rw [hgc]; simp
  have HB2 : Below w.heap.size w (w1.alloc (.cells #[.int .i64 21, .int .i64 65507] 34)) := HB1.out.alloc HB1.out.size _
  have HLD := lend_sh (HSW.out _ HB2) (Nat.le_trans HL.out HB2.size)
  rw [← hgc] at HLD
  refine HLD.mono ?_
  clear HLD
  rintro e w3 ⟨rfl, hlent, hb3⟩
  have x0 : w3.cell? ⟨w1.heap.size, 0, none⟩ = some (.int .i64 21) := (hb3.cell (p := ⟨w1.heap.size, 0, none⟩) (by show w1.heap.size < _; omega)).trans (by simp)
  have x1 : w3.cell? ⟨w1.heap.size, 1, none⟩ = some (.int .i64 65507) := (hb3.cell (p := ⟨w1.heap.size, 1, none⟩) (by show w1.heap.size < _; omega)).trans (by simp)
  have hsz3 : w1.heap.size < w3.heap.size := by have := hb3.size; omega
  have HI3 : Hid (Inv w w3 gc n B) := ⟨HB2.trans (hb3.mono (by have := HB1.out.size; omega)), hlent, by have := HB1.out.size; omega⟩
  clear hb3 hlent HB2 hgc
  go_wp2_with fail
  refine (HFR.out w3 gc).mono ?_
  rintro e w4 ⟨v4, rfl, hf4, hb4⟩
  have y0 : w4.cell? ⟨w1.heap.size, 0, none⟩ = some (.int .i64 21) := (hb4.cell (p := ⟨w1.heap.size, 0, none⟩) hsz3).trans x0
  have y1 : w4.cell? ⟨w1.heap.size, 1, none⟩ = some (.int .i64 65507) := (hb4.cell (p := ⟨w1.heap.size, 1, none⟩) hsz3).trans x1
  have HI4 : Hid (Inv w w4 gc n B) := HI3.out.below hb4
  have HF4 : Hid (IsFault w4 v4 65507 21) := hf4
  clear hb4 x0 x1 hsz3 hgc' hf4 HI3
  go_wp2_with fail
  refine (told_fault v4 _ _ w4 HF4.out (by decide)).mono ?_
  rintro e w5 ⟨rfl, q5, rfl⟩
  clear HF4
  go_wp2_with fail
  refine (same_any (shows_nil _ _) (shows_nil _ _)).mono ?_
  rintro e w6 ⟨rfl, q6, rfl⟩
  go_wp2_with fail
  have HI6 : Hid (Inv w (w4.drewN (q5 + q6)) gc n B) := HI4.out.drew (q5 + q6)
  clear HI4 y0 y1
  refine (kept_sh (HSW.out _ HI6.out.1) HI6.out.2.1).mono ?_
  rintro e w7 ⟨rfl, q7, hw7⟩
  have HI7 : Hid (Inv w w7 gc n B) := by rw [hw7]; exact HI6.out.drew q7
  clear hw7 HI6
  go_wp2_with fail
  refine (HFR.out w7 gc).mono ?_
  rintro e w8 ⟨v8, rfl, hf8, hb8⟩
  have HI8 : Hid (Inv w w8 gc n B) := HI7.out.below hb8
  clear hf8 hb8 HI7
  go_wp2_with fail
  refine (spoil_nil 9 _ w8 rfl (by omega)).mono ?_
  rintro e w9 ⟨rfl, hg9⟩
  have HI9 : Hid (Inv w w9 gc n B) := HI8.out.quiet hg9
  clear hg9 HI8
  go_wp2_with fail
  refine (HFR.out w9 gc).mono ?_
  rintro e w10 ⟨v10, rfl, hf10, hb10⟩
  have HI10 : Hid (Inv w w10 gc n B) := HI9.out.below hb10
  clear hf10 hb10 HI9
  go_wp2_with fail
  refine (kept_sh (HSW.out _ HI10.out.1) HI10.out.2.1).mono ?_
  rintro e w11 ⟨rfl, q11, hw11⟩
  have HI11 : Hid (Inv w w11 gc n B) := by rw [hw11]; exact HI10.out.drew q11
  clear hw11 HI10
  go_wp2_with fail
  refine (same_any (shows_nil _ _) (shows_nil _ _)).mono ?_
  rintro e w12 ⟨rfl, q12, hw12⟩
  have HI12 : Hid (Inv w w12 gc n B) := by rw [hw12]; exact HI11.out.drew q12
  clear hw12 HI11
  go_wp2_with fail
  refine (same_any (shows_nil _ _) (shows_nil _ _)).mono ?_
  rintro e w13 ⟨rfl, q13, hw13⟩
  have HI13 : Hid (Inv w w13 gc n B) := by rw [hw13]; exact HI12.out.drew q13
  clear hw13 HI12
  go_wp2_with fail
  refine (unframed_any (shows_nil _ _) (Nat.zero_le _) (HT.out _ HI13.out.1) (by have := HI13.out.1.size; have := H0.out; omega)).mono ?_
  rintro e w14 ⟨rfl, hb14⟩
  have HI14 : Hid (Inv w w14 gc n B) := HI13.out.below hb14
  clear hb14 HI13
  go_wp2_with fail
  refine (unframed_any (HSE.out _ HI14.out.1) (Nat.le_trans HL2.out HI14.out.1.size) (HT.out _ HI14.out.1) (by have := HI14.out.1.size; have := H0.out; omega)).mono ?_
  rintro e w15 ⟨rfl, hb15⟩
  have HI15 : Hid (Inv w w15 gc n B) := HI14.out.below hb15
  clear hb15 HI14
  go_wp2
  go_ret
  exact ⟨rfl, HI15.out.1⟩
end Go.Proofs.YtbfjeabngdiejaaDoor
