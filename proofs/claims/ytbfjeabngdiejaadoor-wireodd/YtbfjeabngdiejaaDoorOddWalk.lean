import Derived.Test.YtbfjeabngdiejaaDoorOddMath
import Derived.Test.YtbfjeabngdiejaaDoorFrameMath
import Derived.Test.YtbfjeabngdiejaaDoorFrameNil
import Derived.Test.YtbfjeabngdiejaaDoorUnframeOk
namespace Go.Proofs.YtbfjeabngdiejaaDoor
open Go.RowKit Crc

theorem owned_part {w : World} {base g n cap : Nat} {A C : List Nat} (hown : w.ownsRow base 5 1 (.slice (some ⟨g, 0, none⟩) n cap) n (vals (A ++ C))) : ∀ i, i < A.length → w.cell? ⟨g, 0 + i, none⟩ = some (.int .u8 ((A.getD i 0 : Nat) : Int)) := by
  intro i hi
  have hl : (A ++ C).length = n := by have := hown.1; rw [vals_len] at this; omega
  have := owned_cells hown i (by simp at hl; omega)
  rw [List.getD_eq_getElem?_getD, List.getElem?_append_left hi] at this
  rw [Nat.zero_add, this, List.getD_eq_getElem?_getD]
theorem owned_lt {w : World} {base g n cap : Nat} {xs : List Value} (hown : w.ownsRow base 5 1 (.slice (some ⟨g, 0, none⟩) n cap) n xs) : g < w.heap.size := by
  obtain ⟨cur, hg, _⟩ := own_block hown
  exact (Array.getElem?_eq_some_iff.1 hg).1

set_option maxHeartbeats 400000 in
theorem odd_long (k : Int) (ao bo : Option Addr) (n cap m bcap : Nat) (w : World) (h : 65495 < n) (hl : n ≤ 140737488355328) :
    Calls Tryd.prog 3 #[.int .u8 k, .slice ao n cap, .slice bo m bcap] w fun e w' => e = .returned (.bool true) ∧ Below w.heap.size w w' := by
  go_enter Tryd.func3, Tryd.ntmps3
  go_wp2
  go_ret
  exact ⟨rfl, Below.refl _ _⟩

theorem neg_rem (z d : Int) (hz : z < 0) (hd : 0 < d) : 0 ≤ -(z + 1).tmod d ∧ -(z + 1).tmod d < d := by
  obtain ⟨y, hy⟩ := Int.eq_ofNat_of_zero_le (show 0 ≤ -(z + 1) by omega)
  have e : z + 1 = -(y : Int) := by omega
  rw [e, Int.neg_tmod, Int.neg_neg, Int.tmod_eq_emod_of_nonneg (by omega)]
  exact ⟨Int.emod_nonneg _ (by omega), Int.emod_lt_of_pos _ hd⟩

theorem odd_step {w wr w5 : World} {G n c j r : Nat} {F : List Nat} (h : F.length = 12 + n ∧ (∀ x ∈ F, x < 256) ∧ PB F = c % 2 ∧ wr.ownsRow G 5 1 (.slice (some ⟨G, 0, none⟩) (12 + n) (12 + n)) (12 + n) (vals F) ∧ Below w.heap.size w wr)
    (hj : j < 12 + n) (hr : r < 8) (hown : w5.ownsRow G 5 1 (.slice (some ⟨G, 0, none⟩) (12 + n) (12 + n)) (12 + n) (vals (flipB F j r))) (hg : wr.grownBy w5 (some G)) (hG : w.heap.size ≤ G) :
    (flipB F j r).length = 12 + n ∧ (∀ x ∈ flipB F j r, x < 256) ∧ PB (flipB F j r) = (c + 1) % 2 ∧ w5.ownsRow G 5 1 (.slice (some ⟨G, 0, none⟩) (12 + n) (12 + n)) (12 + n) (vals (flipB F j r)) ∧ Below w.heap.size w w5 := by
  obtain ⟨h1, h2, h3, h4, h5⟩ := h
  refine ⟨by rw [flipB_len, h1], flipB_lt F j r hr h2, ?_, hown, h5.grown hg (by have := h5.size; omega) (fun k hk => by cases hk; exact hG)⟩
  rw [PB_flip F j r (by omega) hr, h3]
  omega

set_option maxHeartbeats 3200000 in
theorem odd_main (k : Nat) (b off bb boff : Nat) (ao bo : Option Addr) (B : List Nat) (Z : List Int) (n cap m bcap : Nat) (w : World) (hk : k < 256) (hao : 0 < n → ao = some ⟨b, off, none⟩) (hn : n = B.length) (hl : n ≤ 65495) (hB : ∀ x ∈ B, x < 256)
  (hbw : 0 < n → b < w.heap.size) (h0 : 0 < w.heap.size) (hT : Table w) (hc : ∀ i, i < n → w.cell? ⟨b, off + i, none⟩ = some (.int .u8 ((B.getD i 0 : Nat) : Int)))
  (hbo : 0 < m → bo = some ⟨bb, boff, none⟩) (hm : m = Z.length) (hml : m ≤ 140737488355328) (hbb : 0 < m → bb < w.heap.size) (hz : ∀ i, i < m → w.cell? ⟨bb, boff + i, none⟩ = some (.int .i64 (Z.getD i 0)))
  (hZ : ∀ i, -9223372036854775808 ≤ Z.getD i 0 ∧ Z.getD i 0 ≤ 9223372036854775807) :
    Calls Tryd.prog 3 #[.int .u8 k, .slice ao n cap, .slice bo m bcap] w fun e w' => e = .returned (.bool true) ∧ Below w.heap.size w w' := by
  have HA : Hid (0 < n → ao = some ⟨b, off, none⟩) := hao
  have HBO : Hid (0 < m → bo = some ⟨bb, boff, none⟩) := hbo
  have HN : Hid (n = B.length) := hn
  have HB : Hid (∀ x ∈ B, x < 256) := hB
  have HW : Hid (0 < n → b < w.heap.size) := hbw
  have HC : Hid (∀ i, i < n → w.cell? ⟨b, off + i, none⟩ = some (.int .u8 ((B.getD i 0 : Nat) : Int))) := hc
  have HT : Hid (∀ w1 : World, Below w.heap.size w w1 → Table w1) := fun w1 hb i hi => (hb.cell (p := ⟨0, i, none⟩) h0).trans (hT i hi)
  have HZ : Hid (∀ w1 : World, Below w.heap.size w w1 → ∀ i, i < m → w1.cell? ⟨bb, boff + i, none⟩ = some (.int .i64 (Z.getD i 0))) := fun w1 hb i hi => (hb.cell (p := ⟨bb, boff + i, none⟩) (hbb (by omega))).trans (hz i hi)
  have HZB : Hid (∀ i, -9223372036854775808 ≤ Z.getD i 0 ∧ Z.getD i 0 ≤ 9223372036854775807) := hZ
  have HK : Hid (k < 256) := hk
  have HFL : Hid ((frameB k B).length = 12 + n) := by show _ = _; rw [frameB_len, hn]
  clear hao hbo hn hB hbw hT hc hz hZ hm hbb
  go_enter Tryd.func3, Tryd.ntmps3
  go_wp2_with fail
  refine (lend_any b off ao B n cap w HA.out HN.out (by omega) HW.out HC.out).mono ?_
  rintro e w1 ⟨rfl, hown1, hb1⟩
  have hlt1 := owned_lt hown1
  have HP1 : Hid (∀ i, i < n → w1.cell? ⟨w.heap.size, 0 + i, none⟩ = some (.int .u8 ((B.getD i 0 : Nat) : Int))) := fun i hi => owned_part hown1 i (by have := HN.out; omega)
  have HB1 : Hid (Below w.heap.size w w1) := hb1
  clear hown1 hb1
  go_wp2_with fail
  refine (frame_any k w.heap.size 0 _ B n (n + 4) w1 (fun _ => rfl) HN.out hl HK.out HB.out (fun _ => hlt1) (by omega) (HT.out w1 HB1.out) HP1.out).mono ?_
  rintro e w2 ⟨rfl, hown2, hb2⟩
  have hlt2 := owned_lt hown2
  have HB2 : Hid (Below w.heap.size w w2) := HB1.out.trans (hb2.mono (by omega))
  have HP2 : Hid (∀ i, i < 12 + n → w2.cell? ⟨w1.heap.size, 0 + i, none⟩ = some (.int .u8 (((frameB k B).getD i 0 : Nat) : Int))) := fun i hi => by rw [Nat.zero_add]; exact owned_cells hown2 i hi
  have HO2 : Hid (w2.ownsRow w1.heap.size 5 1 (.slice (some ⟨w1.heap.size, 0, none⟩) (12 + n) (12 + n)) (12 + n) (vals (frameB k B))) := hown2
  clear hown2 hb2 HP1 HB1
  have hcmp : ((12 : Int) + (n : Int) != (n : Int) + 12) = false := by simp; omega
  generalize w1.heap.size = G at *
  go_wp2_with fail
  refine (lend_any G 0 _ (frameB k B) (12 + n) (12 + n) w2 (fun _ => rfl) HFL.out.symm (by omega) (fun _ => hlt2) HP2.out).mono ?_
  rintro e w3 ⟨rfl, hown3, hb3⟩
  have hlt3 := owned_lt hown3
  have HP3 : Hid (∀ i, i < 12 + n → w3.cell? ⟨w2.heap.size, 0 + i, none⟩ = some (.int .u8 (((frameB k B).getD i 0 : Nat) : Int))) := fun i hi => owned_part hown3 i (by have := HFL.out; omega)
  have HB3 : Hid (Below w.heap.size w w3) := HB2.out.trans (hb3.mono (by have := HB2.out.size; omega))
  have HO3 : Hid (w3.ownsRow G 5 1 (.slice (some ⟨G, 0, none⟩) (12 + n) (12 + n)) (12 + n) (vals (frameB k B))) := HO2.out.kept (row := none) ⟨hb3.os, hb3.tape, hb3.output, hb3.size, fun k hk _ => hb3.block k hk⟩ (.inr (by simp [Value.ownBlock]))
  clear hown3 hb3 HB2 HP2 HO2
  go_wp2_with fail
  have hgood : (ff (frameB k B)).2 = 0 := by rw [frame_good k B HK.out HB.out (by have := HN.out; omega)]
  refine (unframe_ok w2.heap.size 0 (frameB k B) (12 + n) (12 + n + 4) w3 HFL.out.symm (by omega) (frameB_lt k B HK.out HB.out) (HT.out w3 HB3.out) hlt3 HP3.out hgood).mono ?_
  rintro e w4 ⟨v, rfl, hfr, hv⟩
  rw [frameB_kind]
  have HB4 : Hid (Below w.heap.size w w4) := HB3.out.trans (hfr.2.mono (by have := HB3.out.size; omega))
  have HO4 : Hid (w4.ownsRow G 5 1 (.slice (some ⟨G, 0, none⟩) (12 + n) (12 + n)) (12 + n) (vals (frameB k B))) := HO3.out.kept (row := none) ⟨hfr.2.os, hfr.2.tape, hfr.2.output, hfr.2.size, fun k hk _ => hfr.2.block k hk⟩ (.inr (by simp [Value.ownBlock]))
  have HEV : Hid (PB (frameB k B) = 0) := even_of_ok _ (frameB_lt k B HK.out HB.out) hgood
  have HLT : Hid (∀ x ∈ frameB k B, x < 256) := frameB_lt k B HK.out HB.out
  have hsame : ((k : Int) != (k : Int)) = false := by simp
  have hGw : w.heap.size ≤ G := by omega
  have HGw : Hid (w.heap.size ≤ G) := hGw
  clear hfr hgood HP3 HB3 HO3 hlt3 hlt2 hlt1 hGw
  rcases hv with rfl | rfl
  all_goals
    go_wp2
    go_loopw [11] (fun i wr => ∃ (c : Nat) (F : List Nat), c ≤ m ∧ i = .int .i64 c ∧ Hid (F.length = 12 + n ∧ (∀ x ∈ F, x < 256) ∧ PB F = c % 2 ∧ wr.ownsRow G 5 1 (.slice (some ⟨G, 0, none⟩) (12 + n) (12 + n)) (12 + n) (vals F) ∧ Below w.heap.size w wr)) (fun i _ => m - (intOf i).toNat)
    case atStart => exact ⟨0, frameB k B, Nat.zero_le _, rfl, HFL.out, HLT.out, HEV.out, HO4.out, HB4.out⟩
    case round =>
      obtain ⟨c, F, hcm, rfl, HR⟩ := hrel
      clear HO4 HB4 HEV HLT
      by_cases hlt : c < m
      · obtain rfl := HBO.out (by omega)
        have hzc := HZ.out wr HR.out.2.2.2.2 c hlt
        obtain ⟨z1, z2⟩ := HZB.out c
        generalize Z.getD c 0 = z at *
        by_cases hneg : z < 0
        · have hb := neg_rem z (8 * (12 + (n : Int))) hneg (by omega)
          obtain ⟨hb1, hb2⟩ := hb
          have HB1 : Hid (0 ≤ -(z + 1).tmod (8 * (12 + (n : Int)))) := hb1
          have HB2 : Hid (-(z + 1).tmod (8 * (12 + (n : Int))) < 8 * ((12 + n : Nat) : Int)) := by show _ < _; rw [show ((12 + n : Nat) : Int) = 12 + (n : Int) by omega]; exact hb2
          clear hb1 hb2
          go_wp2_with fail
          refine (flip_any G G (12 + n) F _ wr HR.out.2.1 (by omega) HB1.out HB2.out HR.out.2.2.2.1).mono ?_
          rintro e w5 ⟨rfl, j, r, hj, hr, hown5, hg5⟩
          have HR' : Hid ((flipB F j r).length = 12 + n ∧ (∀ x ∈ flipB F j r, x < 256) ∧ PB (flipB F j r) = (c + 1) % 2 ∧ w5.ownsRow G 5 1 (.slice (some ⟨G, 0, none⟩) (12 + n) (12 + n)) (12 + n) (vals (flipB F j r)) ∧ Below w.heap.size w w5) :=
            odd_step HR.out hj hr hown5 hg5 HGw.out
          clear hown5 hg5 HR HB1 HB2
          go_wp2
          go_roundw
          case rel => exact ⟨c + 1, flipB F j r, by omega, by go_num, HR'⟩
          case measure => simp [intOf]; omega
        · have hb1 := Int.emod_nonneg z (show (8 * (12 + (n : Int))) ≠ 0 by omega)
          have hb2 := Int.emod_lt_of_pos z (show 0 < (8 * (12 + (n : Int))) by omega)
          have HB1 : Hid (0 ≤ z % (8 * (12 + (n : Int)))) := hb1
          have HB2 : Hid (z % (8 * (12 + (n : Int))) < 8 * ((12 + n : Nat) : Int)) := by show _ < _; rw [show ((12 + n : Nat) : Int) = 12 + (n : Int) by omega]; exact hb2
          clear hb1 hb2
          go_wp2_with fail
          refine (flip_any G G (12 + n) F _ wr HR.out.2.1 (by omega) HB1.out HB2.out HR.out.2.2.2.1).mono ?_
          rintro e w5 ⟨rfl, j, r, hj, hr, hown5, hg5⟩
          have HR' : Hid ((flipB F j r).length = 12 + n ∧ (∀ x ∈ flipB F j r, x < 256) ∧ PB (flipB F j r) = (c + 1) % 2 ∧ w5.ownsRow G 5 1 (.slice (some ⟨G, 0, none⟩) (12 + n) (12 + n)) (12 + n) (vals (flipB F j r)) ∧ Below w.heap.size w w5) :=
            odd_step HR.out hj hr hown5 hg5 HGw.out
          clear hown5 hg5 HR HB1 HB2
          go_wp2
          go_roundw
          case rel => exact ⟨c + 1, flipB F j r, by omega, by go_num, HR'⟩
          case measure => simp [intOf]; omega
      · obtain rfl : c = m := by omega
        obtain ⟨hFl, hFb, hpar, hownF, hbF⟩ := HR.out
        have HP : Hid (∀ i, i < 12 + n → wr.cell? ⟨G, 0 + i, none⟩ = some (.int .u8 ((F.getD i 0 : Nat) : Int))) := fun i hi => by rw [Nat.zero_add]; exact owned_cells hownF i hi
        have HGW : Hid (G < wr.heap.size) := owned_lt hownF
        have HFL' : Hid (12 + n = F.length) := hFl.symm
        have HFb : Hid (∀ x ∈ F, x < 256) := hFb
        have HbF : Hid (Below w.heap.size w wr) := hbF
        have HPar : Hid (PB F = c % 2) := hpar
        clear hFl hFb hpar hownF hbF HR
        by_cases hok : (ff F).2 = 0
        · have hc2 : ((c : Int) % 2 == 0) = true := by
            have h1 := even_of_ok F HFb.out hok
            have h2 := HPar.out
            simp; omega
          have HOK : Hid ((ff F).2 = 0) := hok
          clear hok
          go_wp2_with fail
          refine (unframe_ok G 0 F (12 + n) (12 + n) wr HFL'.out (by omega) HFb.out (HT.out wr HbF.out) HGW.out HP.out HOK.out).mono ?_
          rintro e w5 ⟨v5, rfl, hfr5, hv5⟩
          have HB5 : Hid (Below w.heap.size w w5) := HbF.out.trans (hfr5.2.mono (by have := HbF.out.size; omega))
          clear hfr5 HP
          rcases hv5 with rfl | rfl
          all_goals
            go_wp2
            go_ret
            exact ⟨rfl, HB5.out⟩
        · have HOK : Hid ((ff F).2 ≠ 0) := hok
          clear hok
          by_cases hpar2 : c % 2 = 0
          · have hc2 : ((c : Int) % 2 == 0) = true := by simp; omega
            clear hpar2
            go_wp2_with fail
            refine (unframe_bad G 0 _ F (12 + n) (12 + n) wr (fun _ => rfl) HFL'.out (by omega) (by omega) HFb.out (HT.out wr HbF.out) HP.out HOK.out).mono ?_
            rintro e w5 ⟨v5, rfl, ⟨g5, rfl, _, _, _⟩, hb5⟩
            have HB5 : Hid (Below w.heap.size w w5) := HbF.out.trans (hb5.mono (by have := HbF.out.size; omega))
            clear hb5 HP
            go_wp2
            go_ret
            exact ⟨rfl, HB5.out⟩
          · have hc2 : ((c : Int) % 2 == 0) = false := by simp; omega
            clear hpar2
            go_wp2_with fail
            refine (unframe_bad G 0 _ F (12 + n) (12 + n) wr (fun _ => rfl) HFL'.out (by omega) (by omega) HFb.out (HT.out wr HbF.out) HP.out HOK.out).mono ?_
            rintro e w5 ⟨v5, rfl, ⟨g5, rfl, _, _, _⟩, hb5⟩
            have HB5 : Hid (Below w.heap.size w w5) := HbF.out.trans (hb5.mono (by have := HbF.out.size; omega))
            clear hb5 HP
            go_wp2
            go_ret
            exact ⟨rfl, HB5.out⟩
end Go.Proofs.YtbfjeabngdiejaaDoor
