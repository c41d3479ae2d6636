import Derived.Test.YtbfjeabngdiejaaDoorUnframedOk
namespace Go.Proofs.YtbfjeabngdiejaaDoor
open Go.RowKit Crc

theorem unframed_any {lim : Nat} {ao : Option Addr} {B : List Nat} {n cap : Nat} {w : World} (h : Shows lim w ao n cap B) (hlim : lim ≤ w.heap.size) (hT : Table w) (h0 : 0 < w.heap.size) :
    Calls Tryd.prog 14 #[.slice ao n cap] w fun e w' => e = .returned (.bool true) ∧ Below w.heap.size w w' := by
  by_cases hok : (ff B).2 = 0
  · exact unframed_good h hlim hT h0 hok
  · exact unframed_bad h hlim hT h0 hok

theorem frame_sh {lim : Nat} {ao : Option Addr} {B : List Nat} {n cap k : Nat} {w : World} (h : Shows lim w ao n cap B) (hl : lim ≤ w.heap.size) (hk : k < 256) (hn : n ≤ 65495) (hT : Table w) (h0 : 0 < w.heap.size) :
    Calls Tryd.prog 5 #[.int .u8 k, .slice ao n cap] w fun e w' => ∃ v, e = .returned (.tuple #[v, .nilIface]) ∧ Owns w.heap.size w' v (frameB k B) ∧ Below w.heap.size w w' := by
  obtain ⟨h1, h2, h3, h4, b, off, h5, h6, h7⟩ := h
  refine (frame_any k b off ao B n cap w h5 h1 hn hk h4 (fun h => Nat.lt_of_lt_of_le (h6 h) hl) h0 hT h7).mono ?_
  rintro e w' ⟨rfl, ho, hb⟩
  refine ⟨_, rfl, ⟨?_, frameB_lt k B hk h4, by rw [frameB_len]; omega⟩, hb⟩
  rw [frameB_len, ← h1]
  exact ho

set_option maxHeartbeats 3200000 in
theorem frames_good {lim lim2 : Nat} {ao bo : Option Addr} {B E : List Nat} {n cap m mcap k : Nat} {w : World} (h : Shows lim w ao n cap B) (hlim : lim ≤ w.heap.size) (hb : Shows lim2 w bo m mcap E) (hlim2 : lim2 ≤ w.heap.size) (hT : Table w) (h0 : 0 < w.heap.size) (hk : k < 256) (hn : n ≤ 65495) :
    Calls Tryd.prog 4 #[.int .u8 k, .slice ao n cap, .slice bo m mcap] w fun e w' => e = .returned (.bool true) ∧ Below w.heap.size w w' := by
  have HT : Hid (∀ w1 : World, Below w.heap.size w w1 → Table w1) := fun w1 hb i hi => (hb.cell (p := ⟨0, i, none⟩) h0).trans (hT i hi)
  have HSW : Hid (∀ w1 : World, Below w.heap.size w w1 → Shows lim w1 ao n cap B) := fun w1 hb => h.kept (row := none) (below_none hb) (fun g h => by cases h)
  have HSE : Hid (∀ w1 : World, Below w.heap.size w w1 → Shows lim2 w1 bo m mcap E) := fun w1 hb' => hb.kept (row := none) (below_none hb') (fun g h => by cases h)
  have HB : Hid (∀ x ∈ B, x < 256) := h.2.2.2.1
  have HNL : Hid (n ≤ 140737488355328) := h.2.2.1
  have HL : Hid (lim ≤ w.heap.size) := hlim
  have HL2 : Hid (lim2 ≤ w.heap.size) := hlim2
  have H0 : Hid (0 < w.heap.size) := h0
  have HRF := refframe_ok k ao B n cap lim w h hlim hk hn
  have HFR : Hid (∀ (w1 : World) (gc : Nat), Inv w w1 gc n B → Calls Tryd.prog 5 #[.int .u8 k, .slice (some ⟨gc, 0, none⟩) n (n + 4)] w1 fun e w' => ∃ v, e = .returned (.tuple #[v, .nilIface]) ∧ Owns w1.heap.size w' v (frameB k B) ∧ Below w1.heap.size w1 w') :=
    fun w1 gc hi => frame_sh (hi.2.1.shows HB.out HNL.out) (Nat.le_refl _) hk hn (HT.out w1 hi.1) (by have := hi.1.size; have := H0.out; omega)
  have HDL : Hid ((frameB k B).length ≤ 65507) := by show _ ≤ _; rw [frameB_len]; have := h.1; omega
  generalize frameB k B = D at *
  have HRF' : Hid (Calls Tryd.prog 9 #[.int .i64 (k : Int), .slice ao n cap] w fun e w' => ∃ v, e = .returned (.tuple #[v, .agg #[.int .i64 0, .int .i64 0]]) ∧ Owns w.heap.size w' v D ∧ Below w.heap.size w w') := HRF
  clear HRF h hb hlim hlim2 hT h0
  go_enter Tryd.func4, Tryd.ntmps4
  go_wp2_with fail
  refine HRF'.out.mono ?_
  rintro e w1 ⟨vb, rfl, hob, hb1⟩
  obtain ⟨ab, cb, rfl, sb, _⟩ := hob.form
  have HB1 : Hid (Below w.heap.size w w1) := hb1
  have HSB : Hid (∀ w' : World, ∀ row, w1.grownBy w' row → (∀ g, row = some g → w1.heap.size ≤ g) → Shows w1.heap.size w' ab D.length cb D) := fun w' row hg hr => sb.kept hg hr
  clear hb1 hob sb HRF'
  go_wp2_with fail
  obtain ⟨gc, hgc⟩ : ∃ gc, gc = (w1.alloc (.cells #[.int .i64 0, .int .i64 0] 34)).heap.size := ⟨_, rfl⟩
  have hgc' : w1.heap.size < gc := by rw [hgc]; simp
  have HB2 : Below w.heap.size w (w1.alloc (.cells #[.int .i64 0, .int .i64 0] 34)) := HB1.out.alloc HB1.out.size _
  have HLD := lend_sh (HSW.out _ HB2) (Nat.le_trans HL.out HB2.size)
  rw [← hgc] at HLD
  refine HLD.mono ?_
  clear HLD
  rintro e w3 ⟨rfl, hlent, hb3⟩
  have x0 : w3.cell? ⟨w1.heap.size, 0, none⟩ = some (.int .i64 0) := (hb3.cell (p := ⟨w1.heap.size, 0, none⟩) (by show w1.heap.size < _; omega)).trans (by simp)
  have x1 : w3.cell? ⟨w1.heap.size, 1, none⟩ = some (.int .i64 0) := (hb3.cell (p := ⟨w1.heap.size, 1, none⟩) (by show w1.heap.size < _; omega)).trans (by simp)
  have hsz3 : w1.heap.size < w3.heap.size := by have := hb3.size; omega
  have HI3 : Hid (Inv w w3 gc n B) := ⟨HB2.trans (hb3.mono (by have := HB1.out.size; omega)), hlent, by have := HB1.out.size; omega⟩
  have HG3 : Hid (w1.grownBy w3 none) := grown_trans (World.grownBy_alloc w1 (.cells #[.int .i64 0, .int .i64 0] 34) none) ⟨hb3.os, hb3.tape, hb3.output, hb3.size, fun k hk _ => hb3.block k (by rw [hgc]; exact hk)⟩
  have HLC3 : Hid (gc < w3.heap.size) := owned_lt2 hlent.2
  clear hb3 hlent HB2 hgc
  go_wp2_with fail
  refine (HFR.out w3 gc HI3.out).mono ?_
  rintro e w4 ⟨v4, rfl, ho4, hb4⟩
  have y0 : w4.cell? ⟨w1.heap.size, 0, none⟩ = some (.int .i64 0) := (hb4.cell (p := ⟨w1.heap.size, 0, none⟩) hsz3).trans x0
  have y1 : w4.cell? ⟨w1.heap.size, 1, none⟩ = some (.int .i64 0) := (hb4.cell (p := ⟨w1.heap.size, 1, none⟩) hsz3).trans x1
  have HI4 : Hid (Inv w w4 gc n B) := HI3.out.below hb4
  have HG4 : Hid (w1.grownBy w4 none) := grown_trans HG3.out (below_none hb4)
  have HO4 : Hid (Owns w3.heap.size w4 v4 D) := ho4
  obtain ⟨a4, c4, rfl, s4, _⟩ := ho4.form
  have HS4 : Hid (Shows w4.heap.size w4 a4 D.length c4 D) := s4
  have HS3 : Hid (w1.heap.size < w3.heap.size) := hsz3
  have HGC : Hid (w1.heap.size < gc) := hgc'
  clear hb4 x0 x1 hsz3 hgc' ho4 s4 HG3 HI3
  go_wp2_with fail
  refine (told_nil w4).mono ?_
  rintro e w5 ⟨rfl, rfl⟩
  go_wp2_with fail
  refine (same_any HS4.out (HSB.out w5 none HG4.out (fun g h => by cases h))).mono ?_
  rintro e w6 ⟨rfl, q6, rfl⟩
  go_wp2_with fail
  refine (kept_sh (HSW.out _ (HI4.out.drew q6).1) (HI4.out.drew q6).2.1).mono ?_
  rintro e w7 ⟨rfl, q7, hw7⟩
  have HI7 : Hid (Inv w w7 gc n B) := by rw [hw7]; exact (HI4.out.drew q6).drew q7
  have HG7 : Hid (w1.grownBy w7 none) := by rw [hw7]; exact ⟨HG4.out.os, HG4.out.tape, HG4.out.output, HG4.out.size, HG4.out.block⟩
  have HO7 : Hid (Owns w3.heap.size w7 (.slice a4 D.length c4) D) := by rw [hw7]; exact (HO4.out.drew q6).drew q7
  clear hw7 y0 y1 HI4 HG4 HO4 HS4
  go_wp2_with fail
  refine (HFR.out w7 gc HI7.out).mono ?_
  rintro e w8 ⟨v8, rfl, ho8, hb8⟩
  have HI8 : Hid (Inv w w8 gc n B) := HI7.out.below hb8
  have HG8 : Hid (w1.grownBy w8 none) := grown_trans HG7.out (below_none hb8)
  have HO48 : Hid (Owns w3.heap.size w8 (.slice a4 D.length c4) D) := HO7.out.quiet (below_none hb8)
  have HO8 : Hid (Owns w7.heap.size w8 v8 D) := ho8
  obtain ⟨a8, c8, rfl, _, _⟩ := ho8.form
  have HB4 : Hid (∀ g, (Value.slice a4 D.length c4).ownBlock = some g → w3.heap.size ≤ g ∧ g < w7.heap.size) := own_of_slice HO7.out
  clear ho8 hb8 HG7 HI7 HO7
  go_wp2_with fail
  refine (spoil_any HO48.out (by have := HDL.out; omega) 9 _ rfl (by omega)).mono ?_
  rintro e w9 ⟨rfl, hg9⟩
  have HI9 : Hid (Inv w w9 gc n B) := HI8.out.next hg9 (fun e => by have := (HB4.out gc e).1; have := HLC3.out; omega) (fun g e => by have := (HB4.out g e).1; have := HI8.out.2.2; have := HLC3.out; omega)
  have HO9 : Hid (Owns w7.heap.size w9 (.slice a8 D.length c8) D) := HO8.out.kept hg9 (by
    by_cases hx : (Value.slice a8 D.length c8).ownBlock = none
    · exact .inl hx
    · refine .inr (fun e => hx ?_)
      cases hy : (Value.slice a4 D.length c4).ownBlock with
      | none => rw [e, hy]
      | some g =>
        rw [hy] at e
        have h1 := (HB4.out g hy).2
        have h2 := (own_of_slice HO8.out g e).1
        omega)
  have HS9 : Hid (Shows w1.heap.size w9 ab D.length cb D) := (HSB.out w8 none HG8.out (fun g h => by cases h)).kept hg9 (fun g e => by have := (HB4.out g e).1; have := HS3.out; omega)
  clear hg9 HI8 HO8 HG8 HO48
  obtain ⟨_, _, e8, s9, _⟩ := HO9.out.form
  cases e8
  have HS89 : Hid (Shows w9.heap.size w9 a8 D.length c8 D) := s9
  have HLT9 : Hid (w1.heap.size ≤ w9.heap.size) := by show _ ≤ _; have := owned_lt2 HI9.out.2.1.2; have := HGC.out; omega
  clear s9
  go_wp2_with fail
  refine (HFR.out w9 gc HI9.out).mono ?_
  rintro e w10 ⟨v10, rfl, ho10, hb10⟩
  obtain ⟨a10, c10, rfl, s10, _⟩ := ho10.form
  have HI10 : Hid (Inv w w10 gc n B) := HI9.out.below hb10
  have HS10 : Hid (Shows w1.heap.size w10 ab D.length cb D) := HS9.out.kept (row := none) (below_none hb10) (fun g h => by cases h)
  have HS810 : Hid (Shows w9.heap.size w10 a8 D.length c8 D) := HS89.out.kept (row := none) (below_none hb10) (fun g h => by cases h)
  have HSC : Hid (Shows w10.heap.size w10 a10 D.length c10 D) := s10
  have HLT10 : Hid (w1.heap.size ≤ w10.heap.size) := Nat.le_trans HLT9.out hb10.size
  clear hb10 s10 ho10 HI9 HS9 HS89 HO9
  go_wp2_with fail
  refine (kept_sh (HSW.out _ HI10.out.1) HI10.out.2.1).mono ?_
  rintro e w11 ⟨rfl, q11, hw11⟩
  have HI11 : Hid (Inv w w11 gc n B) := by rw [hw11]; exact HI10.out.drew q11
  have HS11 : Hid (Shows w1.heap.size w11 ab D.length cb D) := by rw [hw11]; exact HS10.out.world rfl
  have HS811 : Hid (Shows w9.heap.size w11 a8 D.length c8 D) := by rw [hw11]; exact HS810.out.world rfl
  have HSC11 : Hid (Shows w10.heap.size w11 a10 D.length c10 D) := by rw [hw11]; exact HSC.out.world rfl
  have HLT11 : Hid (w1.heap.size ≤ w11.heap.size) := by rw [hw11]; exact HLT10.out
  clear hw11 HI10 HS10 HS810 HSC HLT10
  go_wp2_with fail
  refine (same_any HS811.out HS11.out).mono ?_
  rintro e w12 ⟨rfl, q12, hw12⟩
  have HI12 : Hid (Inv w w12 gc n B) := by rw [hw12]; exact HI11.out.drew q12
  have HS12 : Hid (Shows w1.heap.size w12 ab D.length cb D) := by rw [hw12]; exact HS11.out.world rfl
  have HSC12 : Hid (Shows w10.heap.size w12 a10 D.length c10 D) := by rw [hw12]; exact HSC11.out.world rfl
  have HLT12 : Hid (w1.heap.size ≤ w12.heap.size) := by rw [hw12]; exact HLT11.out
  clear hw12 HI11 HS11 HS811 HSC11 HLT11
  go_wp2_with fail
  refine (same_any HSC12.out HS12.out).mono ?_
  rintro e w13 ⟨rfl, q13, hw13⟩
  have HI13 : Hid (Inv w w13 gc n B) := by rw [hw13]; exact HI12.out.drew q13
  have HS13 : Hid (Shows w1.heap.size w13 ab D.length cb D) := by rw [hw13]; exact HS12.out.world rfl
  have HLT13 : Hid (w1.heap.size ≤ w13.heap.size) := by rw [hw13]; exact HLT12.out
  clear hw13 HI12 HS12 HSC12 HLT12
  go_wp2_with fail
  refine (unframed_any HS13.out HLT13.out (HT.out _ HI13.out.1) (by have := HI13.out.1.size; have := H0.out; omega)).mono ?_
  rintro e w14 ⟨rfl, hb14⟩
  have HI14 : Hid (Inv w w14 gc n B) := HI13.out.below hb14
  clear hb14 HI13 HS13 HLT13
  go_wp2_with fail
  refine (unframed_any (HSE.out _ HI14.out.1) (Nat.le_trans HL2.out HI14.out.1.size) (HT.out _ HI14.out.1) (by have := HI14.out.1.size; have := H0.out; omega)).mono ?_
  rintro e w15 ⟨rfl, hb15⟩
  have HI15 : Hid (Inv w w15 gc n B) := HI14.out.below hb15
  clear hb15 HI14
  go_wp2
  go_ret
  exact ⟨rfl, HI15.out.1⟩
end Go.Proofs.YtbfjeabngdiejaaDoor
