import Derived.Test.YtbfjeabngdiejaaDoorRefUnE
import Derived.Test.YtbfjeabngdiejaaDoorTold
import Derived.Test.YtbfjeabngdiejaaDoorSpoil
namespace Go.Proofs.YtbfjeabngdiejaaDoor
open Go.RowKit Crc

/-- The lent copy, as it lies. -/
def Lent (wi : World) (gc n : Nat) (B : List Nat) : Prop := n = B.length ∧ wi.ownsRow gc 5 1 (.slice (some ⟨gc, 0, none⟩) (n + 4) (n + 4)) (n + 4) (vals (B ++ marksTo 4))
theorem Lent.next {wi w' : World} {gc n : Nat} {B : List Nat} {row : Option Nat} (h : Lent wi gc n B) (hg : wi.grownBy w' row) (hr : row ≠ some gc) : Lent w' gc n B :=
  ⟨h.1, h.2.kept hg (.inr (by simpa [Value.ownBlock] using fun e => hr e.symm))⟩
theorem owned_lt2 {w : World} {base g n cap : Nat} {xs : List Value} (hown : w.ownsRow base 5 1 (.slice (some ⟨g, 0, none⟩) n cap) n xs) : g < w.heap.size := by
  obtain ⟨cur, hg, _⟩ := own_block hown
  exact (Array.getElem?_eq_some_iff.1 hg).1
theorem Lent.shows {wi : World} {gc n : Nat} {B : List Nat} (h : Lent wi gc n B) (hB : ∀ x ∈ B, x < 256) (hl : n ≤ 140737488355328) : Shows wi.heap.size wi (some ⟨gc, 0, none⟩) n (n + 4) B := by
  refine ⟨h.1, by omega, hl, hB, gc, 0, fun _ => rfl, fun _ => owned_lt2 h.2, fun i hi => ?_⟩
  have := owned_cells h.2 i (by omega)
  rw [List.getD_eq_getElem?_getD, List.getElem?_append_left (by have := h.1; omega)] at this
  rw [Nat.zero_add, this, List.getD_eq_getElem?_getD]

theorem lend_sh {lim : Nat} {ao : Option Addr} {B : List Nat} {n cap : Nat} {w : World} (h : Shows lim w ao n cap B) (hl : lim ≤ w.heap.size) :
    Calls Tryd.prog 6 #[.slice ao n cap] w fun e w' => e = .returned (.slice (some ⟨w.heap.size, 0, none⟩) n (n + 4)) ∧ Lent w' w.heap.size n B ∧ Below w.heap.size w w' := by
  obtain ⟨h1, h2, h3, h4, b, off, h5, h6, h7⟩ := h
  exact (lend_any b off ao B n cap w h5 h1 h3 (fun h => Nat.lt_of_lt_of_le (h6 h) hl) h7).mono fun e w' ⟨p, q, r⟩ => ⟨p, ⟨h1, q⟩, r⟩
theorem kept_sh {lim gc : Nat} {ao : Option Addr} {B : List Nat} {n cap : Nat} {w : World} (h : Shows lim w ao n cap B) (hc : Lent w gc n B) :
    Calls Tryd.prog 12 #[.slice (some ⟨gc, 0, none⟩) n (n + 4), .slice ao n cap] w fun e w' => e = .returned (.bool true) ∧ ∃ q, w' = w.drewN q := by
  obtain ⟨h1, h2, h3, h4, b, off, h5, h6, h7⟩ := h
  exact kept_any b off gc ao B n cap w h5 h1 h3 h7 (fun i hi => owned_cells hc.2 i hi)
theorem unframe_sh_bad {lim : Nat} {ao : Option Addr} {B : List Nat} {n cap : Nat} {w : World} (h : Shows lim w ao n cap B) (hT : Table w) (hbad : (ff B).2 ≠ 0) :
    Calls Tryd.prog 7 #[.slice ao n cap] w fun e w' => ∃ v, e = .returned (.tuple #[.int .u8 0, .slice none 0 0, v]) ∧ IsFault w' v ((ff B).1 : Nat) ((ff B).2 : Nat) ∧ Below w.heap.size w w' := by
  obtain ⟨h1, h2, h3, h4, b, off, h5, h6, h7⟩ := h
  exact unframe_bad b off ao B n cap w h5 h1 h3 h2 h4 hT h7 hbad
theorem unframe_sh_ok {lim : Nat} {ao : Option Addr} {B : List Nat} {n cap : Nat} {w : World} (h : Shows lim w ao n cap B) (hl : lim ≤ w.heap.size) (hT : Table w) (hok : (ff B).2 = 0) :
    Calls Tryd.prog 7 #[.slice ao n cap] w fun e w' => ∃ v, e = .returned (.tuple #[.int .u8 (B.getD 3 0 : Nat), v, .nilIface]) ∧ Owns w.heap.size w' v ((B.drop 8).take (n - 12)) ∧ Below w.heap.size w w' := by
  obtain ⟨h1, h2, h3, h4, b, off, h5, h6, h7⟩ := h
  obtain ⟨h12, hmax, _⟩ := ff_ok hok
  obtain rfl := h5 (by omega)
  refine (unframe_ok b off B n cap w h1 h2 h4 hT (Nat.lt_of_lt_of_le (h6 (by omega)) hl) h7 hok).mono ?_
  rintro e w' ⟨v, he, hfr, _⟩
  exact ⟨v, he, ⟨hfr.1, fun x hx => h4 x (List.mem_of_mem_drop (List.mem_of_mem_take hx)), by rw [List.length_take, List.length_drop]; omega⟩, hfr.2⟩
/-- What holds at every step of the walk: nothing old has turned; the lent copy is as it was. -/
def Inv (w wi : World) (gc n : Nat) (B : List Nat) : Prop := Below w.heap.size w wi ∧ Lent wi gc n B ∧ w.heap.size ≤ gc
theorem Inv.next {w wi w' : World} {gc n : Nat} {B : List Nat} {row : Option Nat} (h : Inv w wi gc n B) (hg : wi.grownBy w' row) (hr1 : row ≠ some gc) (hr2 : ∀ g, row = some g → w.heap.size ≤ g) : Inv w w' gc n B :=
  ⟨h.1.grown hg h.1.size hr2, h.2.1.next hg hr1, h.2.2⟩
theorem Inv.quiet {w wi w' : World} {gc n : Nat} {B : List Nat} (h : Inv w wi gc n B) (hg : wi.grownBy w' none) : Inv w w' gc n B := h.next hg (by simp) (fun g h => by cases h)
theorem Inv.drew {w wi : World} {gc n : Nat} {B : List Nat} (h : Inv w wi gc n B) (q : Nat) : Inv w (wi.drewN q) gc n B := h.quiet ⟨rfl, rfl, rfl, Nat.le_refl _, fun _ _ _ => rfl⟩
theorem Inv.below {w wi w' : World} {gc n : Nat} {B : List Nat} (h : Inv w wi gc n B) (hb : Below wi.heap.size wi w') : Inv w w' gc n B := h.quiet (below_none hb)
theorem shows_nil (w : World) (c : Nat) : Shows 0 w none 0 c [] := ⟨rfl, by omega, by omega, by simp, 0, 0, fun h => by omega, fun h => by omega, fun i hi => by omega⟩
theorem drew_grown (w : World) (q : Nat) : w.grownBy (w.drewN q) none := ⟨rfl, rfl, rfl, Nat.le_refl _, fun _ _ _ => rfl⟩

set_option maxHeartbeats 3200000 in
theorem unframed_bad {lim : Nat} {ao : Option Addr} {B : List Nat} {n cap : Nat} {w : World} (h : Shows lim w ao n cap B) (hlim : lim ≤ w.heap.size) (hT : Table w) (h0 : 0 < w.heap.size) (hbad : (ff B).2 ≠ 0) :
    Calls Tryd.prog 14 #[.slice ao n cap] w fun e w' => e = .returned (.bool true) ∧ Below w.heap.size w w' := by
  have HT : Hid (∀ w1 : World, Below w.heap.size w w1 → Table w1) := fun w1 hb i hi => (hb.cell (p := ⟨0, i, none⟩) h0).trans (hT i hi)
  have HSW : Hid (∀ w1 : World, Below w.heap.size w w1 → Shows lim w1 ao n cap B) := fun w1 hb => h.kept (row := none) (below_none hb) (fun g h => by cases h)
  have HB : Hid (∀ x ∈ B, x < 256) := h.2.2.2.1
  have HNL : Hid (n ≤ 140737488355328) := h.2.2.1
  have HL : Hid (lim ≤ w.heap.size) := hlim
  have HBAD : Hid ((ff B).2 ≠ 0) := hbad
  have HRU := refun_bad h hlim hbad
  have HRU' : Hid (Calls Tryd.prog 23 #[.slice ao n cap] w fun e w' => e = .returned (badV (ff B)) ∧ Below w.heap.size w w') := HRU
  clear HRU h hlim hT h0 hbad
  obtain ⟨A, hA⟩ : ∃ A, A = (ff B).1 := ⟨_, rfl⟩
  obtain ⟨C, hC⟩ : ∃ C, C = (ff B).2 := ⟨_, rfl⟩
  unfold badV at HRU'
  rw [← hA, ← hC] at HRU'
  have HA : Hid (A = (ff B).1) := hA
  have HC : Hid (C = (ff B).2) := hC
  clear hA hC
  go_enter Tryd.func14, Tryd.ntmps14
  go_wp2_with fail
  refine HRU'.out.mono ?_
  rintro e w1 ⟨rfl, hb1⟩
  have HB1 : Hid (Below w.heap.size w w1) := hb1
  clear hb1
  go_wp2_with fail
  obtain ⟨gc, hgc⟩ : ∃ gc, gc = (w1.alloc (.cells #[.int .i64 (C : Int), .int .i64 (A : Int)] 34)).heap.size := ⟨_, rfl⟩
  have hgc' : w1.heap.size < gc := by rw [hgc]; simp
  have HB2 : Below w.heap.size w (w1.alloc (.cells #[.int .i64 (C : Int), .int .i64 (A : Int)] 34)) := HB1.out.alloc HB1.out.size _
  have HLD := lend_sh (HSW.out _ HB2) (Nat.le_trans HL.out HB2.size)
  rw [← hgc] at HLD
  refine HLD.mono ?_
  clear HLD
  rintro e w3 ⟨rfl, hlent, hb3⟩
  have x0 : w3.cell? ⟨w1.heap.size, 0, none⟩ = some (.int .i64 (C : Int)) := (hb3.cell (p := ⟨w1.heap.size, 0, none⟩) (by show w1.heap.size < _; omega)).trans (by simp)
  have x1 : w3.cell? ⟨w1.heap.size, 1, none⟩ = some (.int .i64 (A : Int)) := (hb3.cell (p := ⟨w1.heap.size, 1, none⟩) (by show w1.heap.size < _; omega)).trans (by simp)
  have hsz3 : w1.heap.size < w3.heap.size := by have := hb3.size; omega
  have HI3 : Hid (Inv w w3 gc n B) := ⟨HB2.trans (hb3.mono (by have := HB1.out.size; omega)), hlent, by have := HB1.out.size; omega⟩
  clear hb3 hlent HB2 hgc
  go_wp2_with fail
  have HU := unframe_sh_bad (HI3.out.2.1.shows HB.out HNL.out) (HT.out _ HI3.out.1) HBAD.out
  rw [← HA.out, ← HC.out] at HU
  refine HU.mono ?_
  clear HU
  rintro e w4 ⟨v4, rfl, hf4, hb4⟩
  have y0 : w4.cell? ⟨w1.heap.size, 0, none⟩ = some (.int .i64 (C : Int)) := (hb4.cell (p := ⟨w1.heap.size, 0, none⟩) hsz3).trans x0
  have y1 : w4.cell? ⟨w1.heap.size, 1, none⟩ = some (.int .i64 (A : Int)) := (hb4.cell (p := ⟨w1.heap.size, 1, none⟩) hsz3).trans x1
  have HI4 : Hid (Inv w w4 gc n B) := HI3.out.below hb4
  have HF4 : Hid (IsFault w4 v4 (A : Int) (C : Int)) := hf4
  clear hb4 hf4 x0 x1 hsz3 hgc'
  go_wp2_with fail
  refine (told_fault v4 _ _ w4 HF4.out (by have := HBAD.out; have := HC.out; omega)).mono ?_
  rintro e w5 ⟨rfl, q5, rfl⟩
  clear HF4
  have hCC : ((C : Int) != (C : Int)) = false := by simp
  have hAA : ((A : Int) != (A : Int)) = false := by simp
  go_wp2_with fail
  refine (same_any (shows_nil _ _) (shows_nil _ _)).mono ?_
  rintro e w6 ⟨rfl, q6, rfl⟩
  clear hCC hAA
  go_wp2_with fail
  have I6 := HI4.out.drew (q5 + q6)
  have HI6 : Hid (Inv w (w4.drewN (q5 + q6)) gc n B) := I6
  clear I6 HI4 y0 y1
  refine (kept_sh (HSW.out _ HI6.out.1) HI6.out.2.1).mono ?_
  rintro e w7 ⟨rfl, q7, hw7⟩
  have HI7 : Hid (Inv w w7 gc n B) := by rw [hw7]; exact HI6.out.drew q7
  clear hw7
  go_wp2_with fail
  refine (unframe_sh_bad (HI7.out.2.1.shows HB.out HNL.out) (HT.out _ HI7.out.1) HBAD.out).mono ?_
  rintro e w8 ⟨v8, rfl, hf8, hb8⟩
  have HI8 : Hid (Inv w w8 gc n B) := HI7.out.below hb8
  clear hf8 hb8 HI6 HI7 HI3
  go_wp2_with fail
  refine (spoil_nil 7 _ w8 rfl (by omega)).mono ?_
  rintro e w9 ⟨rfl, hg9⟩
  have HI9 : Hid (Inv w w9 gc n B) := HI8.out.quiet hg9
  clear hg9 HI8
  go_wp2_with fail
  refine (kept_sh (HSW.out _ HI9.out.1) HI9.out.2.1).mono ?_
  rintro e w10 ⟨rfl, q10, hw10⟩
  have HI10 : Hid (Inv w w10 gc n B) := by rw [hw10]; exact HI9.out.drew q10
  clear hw10
  go_wp2_with fail
  refine (same_any (shows_nil _ _) (shows_nil _ _)).mono ?_
  rintro e w11 ⟨rfl, q11, hw11⟩
  have HI11 : Hid (Inv w w11 gc n B) := by rw [hw11]; exact HI10.out.drew q11
  clear HI9 HI10 hw11
  go_wp2_with fail
  refine (unframe_sh_bad (HI11.out.2.1.shows HB.out HNL.out) (HT.out _ HI11.out.1) HBAD.out).mono ?_
  rintro e w12 ⟨v12, rfl, hf12, hb12⟩
  have HI12 : Hid (Inv w w12 gc n B) := HI11.out.below hb12
  clear hf12 hb12 HI11
  go_wp2_with fail
  refine (same_any (shows_nil _ _) (shows_nil _ _)).mono ?_
  rintro e w13 ⟨rfl, q13, hw13⟩
  have HI13 : Hid (Inv w w13 gc n B) := by rw [hw13]; exact HI12.out.drew q13
  clear HI12 hw13
  go_wp2_with fail
  refine (same_any (shows_nil _ _) (shows_nil _ _)).mono ?_
  rintro e w14 ⟨rfl, q14, hw14⟩
  have HI14 : Hid (Inv w w14 gc n B) := by rw [hw14]; exact HI13.out.drew q14
  clear HI13 hw14
  go_wp2
  go_ret
  exact ⟨rfl, HI14.out.1⟩
end Go.Proofs.YtbfjeabngdiejaaDoor
