import Derived.Test.YtbfjeabngdiejaaDoorUnframed
namespace Go.Proofs.YtbfjeabngdiejaaDoor
open Go.RowKit Crc

theorem Owns.drew {b : Nat} {w : World} {v : Value} {B : List Nat} (h : Owns b w v B) (q : Nat) : Owns b (w.drewN q) v B := h.kept (drew_grown w q) (by cases v.ownBlock <;> simp)
theorem Owns.quiet {b : Nat} {w w' : World} {v : Value} {B : List Nat} (h : Owns b w v B) (hg : w.grownBy w' none) : Owns b w' v B := h.kept hg (by cases v.ownBlock <;> simp)
theorem own_of_slice {a : Option Addr} {n c : Nat} {base : Nat} {w : World} {B : List Nat} (h : Owns base w (.slice a n c) B) : ∀ g, (Value.slice a n c).ownBlock = some g → base ≤ g ∧ g < w.heap.size := fun g hg => h.1.lt g hg

set_option maxHeartbeats 3200000 in
theorem unframed_good {lim : Nat} {ao : Option Addr} {B : List Nat} {n cap : Nat} {w : World} (h : Shows lim w ao n cap B) (hlim : lim ≤ w.heap.size) (hT : Table w) (h0 : 0 < w.heap.size) (hok : (ff B).2 = 0) :
    Calls Tryd.prog 14 #[.slice ao n cap] w fun e w' => e = .returned (.bool true) ∧ Below w.heap.size w w' := by
  have HT : Hid (∀ w1 : World, Below w.heap.size w w1 → Table w1) := fun w1 hb i hi => (hb.cell (p := ⟨0, i, none⟩) h0).trans (hT i hi)
  have HSW : Hid (∀ w1 : World, Below w.heap.size w w1 → Shows lim w1 ao n cap B) := fun w1 hb => h.kept (row := none) (below_none hb) (fun g h => by cases h)
  have HB : Hid (∀ x ∈ B, x < 256) := h.2.2.2.1
  have HNL : Hid (n ≤ 140737488355328) := h.2.2.1
  have HL : Hid (lim ≤ w.heap.size) := hlim
  have HRU := refun_good h hlim hok
  have hKl := getD_lt B h.2.2.2.1 3
  have HDL : Hid (((B.drop 8).take (n - 12)).length ≤ 65507) := by
    show _ ≤ _
    obtain ⟨h12, hmax, _⟩ := ff_ok hok
    rw [List.length_take, List.length_drop]; omega
  have HUN : Hid (∀ (w1 : World) (gc : Nat), Inv w w1 gc n B → Calls Tryd.prog 7 #[.slice (some ⟨gc, 0, none⟩) n (n + 4)] w1 fun e w' => ∃ v, e = .returned (.tuple #[.int .u8 (B.getD 3 0 : Nat), v, .nilIface]) ∧ Owns w1.heap.size w' v ((B.drop 8).take (n - 12)) ∧ Below w1.heap.size w1 w') :=
    fun w1 gc hi => unframe_sh_ok (hi.2.1.shows HB.out HNL.out) (Nat.le_refl _) (HT.out w1 hi.1) hok
  generalize (B.drop 8).take (n - 12) = D at *
  generalize B.getD 3 0 = K at *
  have HRU' : Hid (Calls Tryd.prog 23 #[.slice ao n cap] w fun e w' => ∃ v, e = .returned (.tuple #[.int .i64 (K : Int), v, .agg #[.int .i64 0, .int .i64 0]]) ∧ Owns w.heap.size w' v D ∧ Below w.heap.size w w') := HRU
  clear HRU h hlim hT h0 hok
  go_enter Tryd.func14, Tryd.ntmps14
  go_wp2_with fail
  refine HRU'.out.mono ?_
  rintro e w1 ⟨vb, rfl, hob, hb1⟩
  obtain ⟨ab, cb, rfl, sb, _⟩ := hob.form
  have HB1 : Hid (Below w.heap.size w w1) := hb1
  have HSB : Hid (∀ w' : World, ∀ row, w1.grownBy w' row → (∀ g, row = some g → w1.heap.size ≤ g) → Shows w1.heap.size w' ab D.length cb D) := fun w' row hg hr => sb.kept hg hr
  clear hb1 hob sb HRU'
  go_wp2_with fail
  obtain ⟨gc, hgc⟩ : ∃ gc, gc = (w1.alloc (.cells #[.int .i64 0, .int .i64 0] 34)).heap.size := ⟨_, rfl⟩
  have hgc' : w1.heap.size < gc := by rw [hgc]; simp
  have HB2 : Below w.heap.size w (w1.alloc (.cells #[.int .i64 0, .int .i64 0] 34)) := HB1.out.alloc HB1.out.size _
  have HLD := lend_sh (HSW.out _ HB2) (Nat.le_trans HL.out HB2.size)
  rw [← hgc] at HLD
  refine HLD.mono ?_
  clear HLD
  rintro e w3 ⟨rfl, hlent, hb3⟩
  have x0 : w3.cell? ⟨w1.heap.size, 0, none⟩ = some (.int .i64 0) := (hb3.cell (p := ⟨w1.heap.size, 0, none⟩) (by show w1.heap.size < _; omega)).trans (by simp)
  have x1 : w3.cell? ⟨w1.heap.size, 1, none⟩ = some (.int .i64 0) := (hb3.cell (p := ⟨w1.heap.size, 1, none⟩) (by show w1.heap.size < _; omega)).trans (by simp)
  have hsz3 : w1.heap.size < w3.heap.size := by have := hb3.size; omega
  have HI3 : Hid (Inv w w3 gc n B) := ⟨HB2.trans (hb3.mono (by have := HB1.out.size; omega)), hlent, by have := HB1.out.size; omega⟩
  have HG3 : Hid (w1.grownBy w3 none) := grown_trans (World.grownBy_alloc w1 (.cells #[.int .i64 0, .int .i64 0] 34) none) ⟨hb3.os, hb3.tape, hb3.output, hb3.size, fun k hk _ => hb3.block k (by rw [hgc]; exact hk)⟩
  have HLC3 : Hid (gc < w3.heap.size) := owned_lt2 hlent.2
  clear hb3 hlent HB2 hgc
  go_wp2_with fail
  refine (HUN.out w3 gc HI3.out).mono ?_
  rintro e w4 ⟨v4, rfl, ho4, hb4⟩
  have y0 : w4.cell? ⟨w1.heap.size, 0, none⟩ = some (.int .i64 0) := (hb4.cell (p := ⟨w1.heap.size, 0, none⟩) hsz3).trans x0
  have y1 : w4.cell? ⟨w1.heap.size, 1, none⟩ = some (.int .i64 0) := (hb4.cell (p := ⟨w1.heap.size, 1, none⟩) hsz3).trans x1
  have HI4 : Hid (Inv w w4 gc n B) := HI3.out.below hb4
  have HG4 : Hid (w1.grownBy w4 none) := grown_trans HG3.out (below_none hb4)
  have HSZ4 : Hid (w3.heap.size ≤ w4.heap.size) := hb4.size
  have HO4 : Hid (Owns w3.heap.size w4 v4 D) := ho4
  obtain ⟨a4, c4, rfl, s4, _⟩ := ho4.form
  have HS4 : Hid (Shows w4.heap.size w4 a4 D.length c4 D) := s4
  have HS3 : Hid (w1.heap.size < w3.heap.size) := hsz3
  have HGC : Hid (w1.heap.size < gc) := hgc'
  clear hb4 x0 x1 hsz3 hgc' ho4 s4 HG3 HI3
  have hKK : ((K : Int) != (K : Int)) = false := by simp
  go_wp2_with fail
  refine (told_nil w4).mono ?_
  rintro e w5 ⟨rfl, rfl⟩
  go_wp2_with fail
  refine (same_any HS4.out (HSB.out w5 none HG4.out (fun g h => by cases h))).mono ?_
  rintro e w6 ⟨rfl, q6, rfl⟩
  go_wp2_with fail
  refine (kept_sh (HSW.out _ (HI4.out.drew q6).1) (HI4.out.drew q6).2.1).mono ?_
  rintro e w7 ⟨rfl, q7, hw7⟩
  have HI7 : Hid (Inv w w7 gc n B) := by rw [hw7]; exact (HI4.out.drew q6).drew q7
  have HG7 : Hid (w1.grownBy w7 none) := by rw [hw7]; exact ⟨HG4.out.os, HG4.out.tape, HG4.out.output, HG4.out.size, HG4.out.block⟩
  have HO7 : Hid (Owns w3.heap.size w7 (.slice a4 D.length c4) D) := by rw [hw7]; exact (HO4.out.drew q6).drew q7
  have HSZ7 : Hid (w7.heap.size = w5.heap.size) := by rw [hw7]; rfl
  clear hw7 y0 y1 HI4 HG4 HO4 HS4
  go_wp2_with fail
  refine (HUN.out w7 gc HI7.out).mono ?_
  rintro e w8 ⟨v8, rfl, ho8, hb8⟩
  have HI8 : Hid (Inv w w8 gc n B) := HI7.out.below hb8
  have HG8 : Hid (w1.grownBy w8 none) := grown_trans HG7.out (below_none hb8)
  have HO48 : Hid (Owns w3.heap.size w8 (.slice a4 D.length c4) D) := HO7.out.quiet (below_none hb8)
  have HO8 : Hid (Owns w7.heap.size w8 v8 D) := ho8
  obtain ⟨a8, c8, rfl, _, _⟩ := ho8.form
  have HB4 : Hid (∀ g, (Value.slice a4 D.length c4).ownBlock = some g → w3.heap.size ≤ g ∧ g < w7.heap.size) := own_of_slice HO7.out
  clear ho8 hb8 HG7 HI7 HO7
  go_wp2_with fail
  refine (spoil_any HO48.out (by have := HDL.out; omega) 7 _ rfl (by omega)).mono ?_
  rintro e w9 ⟨rfl, hg9⟩
  have HI9 : Hid (Inv w w9 gc n B) := HI8.out.next hg9 (fun e => by have := (HB4.out gc e).1; have := HLC3.out; omega) (fun g e => by have := (HB4.out g e).1; have := HI8.out.2.2; have := HLC3.out; omega)
  have HO9 : Hid (Owns w7.heap.size w9 (.slice a8 D.length c8) D) := HO8.out.kept hg9 (by
    by_cases hx : (Value.slice a8 D.length c8).ownBlock = none
    · exact .inl hx
    · refine .inr (fun e => hx ?_)
      cases hy : (Value.slice a4 D.length c4).ownBlock with
      | none => rw [e, hy]
      | some g =>
        rw [hy] at e
        have h1 := (HB4.out g hy).2
        have h2 := (own_of_slice HO8.out g e).1
        omega)
  have HS9 : Hid (Shows w1.heap.size w9 ab D.length cb D) := (HSB.out w8 none HG8.out (fun g h => by cases h)).kept hg9 (fun g e => by have := (HB4.out g e).1; have := HS3.out; omega)
  clear hg9 HI8 HO8 HG8 HO48
  obtain ⟨_, _, e8, s9, _⟩ := HO9.out.form
  cases e8
  have HS89 : Hid (Shows w9.heap.size w9 a8 D.length c8 D) := s9
  clear s9
  go_wp2_with fail
  refine (kept_sh (HSW.out _ HI9.out.1) HI9.out.2.1).mono ?_
  rintro e w10 ⟨rfl, q10, hw10⟩
  have HI10 : Hid (Inv w w10 gc n B) := by rw [hw10]; exact HI9.out.drew q10
  have HS10 : Hid (Shows w1.heap.size w10 ab D.length cb D) := by rw [hw10]; exact HS9.out.world rfl
  have HS810 : Hid (Shows w9.heap.size w10 a8 D.length c8 D) := by rw [hw10]; exact HS89.out.world rfl
  have HZ10 : Hid (w10.heap.size = w9.heap.size) := by rw [hw10]; rfl
  have hlt9 : w1.heap.size ≤ w9.heap.size := by have := HI9.out.1.size; have := owned_lt2 HI9.out.2.1.2; have := HGC.out; omega
  have HLT9 : Hid (w1.heap.size ≤ w9.heap.size) := hlt9
  clear hw10 HI9 HS9 HS89 hlt9
  go_wp2_with fail
  refine (same_any HS810.out HS10.out).mono ?_
  rintro e w11 ⟨rfl, q11, hw11⟩
  have HI11 : Hid (Inv w w11 gc n B) := by rw [hw11]; exact HI10.out.drew q11
  have HS11 : Hid (Shows w1.heap.size w11 ab D.length cb D) := by rw [hw11]; exact HS10.out.world rfl
  have HS811 : Hid (Shows w9.heap.size w11 a8 D.length c8 D) := by rw [hw11]; exact HS810.out.world rfl
  have HZ11 : Hid (w11.heap.size = w9.heap.size) := by rw [hw11]; exact HZ10.out
  clear hw11 HI10 HS10 HS810 HZ10
  go_wp2_with fail
  refine (HUN.out w11 gc HI11.out).mono ?_
  rintro e w12 ⟨v12, rfl, ho12, hb12⟩
  obtain ⟨a12, c12, rfl, s12, _⟩ := ho12.form
  have HI12 : Hid (Inv w w12 gc n B) := HI11.out.below hb12
  have HS12 : Hid (Shows w1.heap.size w12 ab D.length cb D) := HS11.out.kept (row := none) (below_none hb12) (fun g h => by cases h)
  have HS812 : Hid (Shows w9.heap.size w12 a8 D.length c8 D) := HS811.out.kept (row := none) (below_none hb12) (fun g h => by cases h)
  have HSC : Hid (Shows w12.heap.size w12 a12 D.length c12 D) := s12
  clear hb12 s12 ho12 HI11 HS11 HS811 HZ11
  have hKE : ((K : Int) == (K : Int)) = true := by simp
  go_wp2_with fail
  refine (same_any HSC.out HS12.out).mono ?_
  rintro e w13 ⟨rfl, q13, hw13⟩
  have HI13 : Hid (Inv w w13 gc n B) := by rw [hw13]; exact HI12.out.drew q13
  have HS13 : Hid (Shows w1.heap.size w13 ab D.length cb D) := by rw [hw13]; exact HS12.out.world rfl
  have HS813 : Hid (Shows w9.heap.size w13 a8 D.length c8 D) := by rw [hw13]; exact HS812.out.world rfl
  clear hw13 HI12 HS12 HS812 HSC
  go_wp2_with fail
  refine (same_any HS813.out HS13.out).mono ?_
  rintro e w14 ⟨rfl, q14, hw14⟩
  have HI14 : Hid (Inv w w14 gc n B) := by rw [hw14]; exact HI13.out.drew q14
  clear hw14 HI13 HS13 HS813
  go_wp2
  go_ret
  exact ⟨rfl, HI14.out.1⟩
end Go.Proofs.YtbfjeabngdiejaaDoor
