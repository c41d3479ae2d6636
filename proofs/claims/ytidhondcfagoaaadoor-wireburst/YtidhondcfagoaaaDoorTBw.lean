import Derived.Test.YtidhondcfagoaaaDoorTDec
import Derived.Test.YtidhondcfagoaaaDoorM49
import Derived.Test.YtidhondcfagoaaaDoorM50
namespace Go.Proofs.YtidhondcfagoaaaDoor
open Go.RowKit Crc

theorem owned_partM {w : World} {base g n cap : Nat} {A C : List Nat} (hown : w.ownsRow base 5 1 (.slice (some ⟨g, 0, none⟩) n cap) n (vals (A ++ C))) : ∀ i, i < A.length → w.cell? ⟨g, 0 + i, none⟩ = some (.int .u8 ((A.getD i 0 : Nat) : Int)) := by
  intro i hi
  have hl : (A ++ C).length = n := by have := hown.1; rw [vals_len] at this; omega
  have := owned_cells hown i (by simp at hl; omega)
  rw [List.getD_eq_getElem?_getD, List.getElem?_append_left hi] at this
  rw [Nat.zero_add, this, List.getD_eq_getElem?_getD]
theorem owned_ltM {w : World} {base g n cap : Nat} {xs : List Value} (hown : w.ownsRow base 5 1 (.slice (some ⟨g, 0, none⟩) n cap) n xs) : g < w.heap.size := by
  obtain ⟨cur, hg, _⟩ := own_block hown
  exact (Array.getElem?_eq_some_iff.1 hg).1

set_option maxRecDepth 10000 in
set_option maxHeartbeats 400000 in
theorem burst_long (k : Int) (ao : Option Addr) (n cap : Nat) (z : Int) (T : Nat) (w : World) (h : 65495 < n) (hl : n ≤ 140737488355328) :
    Calls Tryd.prog 3 #[.int .u8 k, .slice ao n cap, .int .i64 z, .int .u32 (T : Int)] w fun e w' => e = .returned (.bool true) ∧ Below w.heap.size w w' := by
  go_enter Tryd.func3, Tryd.ntmps3
  go_wp2
  go_ret
  exact ⟨rfl, Below.refl _ _⟩

theorem bit_is (T c : Nat) (h : T < 4294967296) : bits BinOp.and IntKind.u32 ((T : Int) / 2 ^ c) 1 = ((T / 2 ^ c % 2 : Nat) : Int) := by
  have e : (T : Int) / 2 ^ c = ((T / 2 ^ c : Nat) : Int) := by rw [Int.natCast_ediv, Int.natCast_pow]; rfl
  rw [e]
  have := u32_and_nat (T / 2 ^ c) 1 (Nat.lt_of_le_of_lt (Nat.div_le_self _ _) h) (by omega)
  rw [and1] at this
  exact this
/-- While bits are turned. -/
structure Bz (w : World) (G N P T : Nat) (F0 : List Nat) (c : Nat) (h : Bool) (F : List Nat) (wr : World) : Prop where
  c32 : c ≤ 32
  fit : P + c ≤ 8 * N
  hit : h = true ↔ T % 2 ^ c ≠ 0
  len : F.length = N
  lt : ∀ x ∈ F, x < 256
  v : V F = V F0 ^^^ 2 ^ P * (T % 2 ^ c)
  own : wr.ownsRow G 5 1 (.slice (some ⟨G, 0, none⟩) N N) N (vals F)
  bel : Below w.heap.size w wr
theorem Bz.turn {w wr w5 : World} {G N P T : Nat} {F0 : List Nat} {c : Nat} {h : Bool} {F : List Nat} (hb : Bz w G N P T F0 c h F wr) (hc : c < 32) (hp : P + c < 8 * N) (hbit : T / 2 ^ c % 2 = 1) (hG : w.heap.size ≤ G)
    (ho : w5.ownsRow G 5 1 (.slice (some ⟨G, 0, none⟩) N N) N (vals (flipB F ((P + c) / 8) ((P + c) % 8)))) (hg : wr.grownBy w5 (some G)) : Bz w G N P T F0 (c + 1) true (flipB F ((P + c) / 8) ((P + c) % 8)) w5 :=
  ⟨by omega, by omega, ⟨fun _ => low_pos T c hbit, fun _ => rfl⟩, by rw [flipB_len, hb.len], flipB_lt F _ _ (by omega) hb.lt, V_next F0 F P T c hb.v (by rw [hb.len]; exact hp) hbit, ho, hb.bel.grown hg hb.bel.size (fun k e => by cases e; exact hG)⟩
theorem Bz.stay {w wr : World} {G N P T : Nat} {F0 : List Nat} {c : Nat} {h : Bool} {F : List Nat} (hb : Bz w G N P T F0 c h F wr) (hc : c < 32) (hp : P + c < 8 * N) (hbit : T / 2 ^ c % 2 = 0) : Bz w G N P T F0 (c + 1) h F wr :=
  ⟨by omega, by omega, by rw [V_same T c hbit]; exact hb.hit, hb.len, hb.lt, by rw [V_same T c hbit]; exact hb.v, hb.own, hb.bel⟩
theorem Bz.bad {w wr : World} {G N P T : Nat} {F0 : List Nat} {c : Nat} {F : List Nat} (hb : Bz w G N P T F0 c true F wr) (h0 : ∀ x ∈ F0, x < 256) (hl : F0.length = N) (ok : (ff F0).2 = 0) : (ff F).2 ≠ 0 := fun h =>
  hb.hit.1 rfl (burst F0 F P (T % 2 ^ c) h0 hb.lt (by rw [hb.len, hl]) (low_lt T c hb.c32) (by rw [hl]; have := hb.fit; omega) hb.v ok h)

set_option maxRecDepth 10000 in
set_option maxHeartbeats 3200000 in
theorem burst_main (k : Nat) (b off : Nat) (ao : Option Addr) (B : List Nat) (n cap : Nat) (z : Int) (T : Nat) (w : World) (hk : k < 256) (hao : 0 < n → ao = some ⟨b, off, none⟩) (hn : n = B.length) (hl : n ≤ 65495) (hB : ∀ x ∈ B, x < 256) (hz1 : -9223372036854775808 ≤ z) (hz2 : z ≤ 9223372036854775807) (hT32 : T < 4294967296)
  (hbw : 0 < n → b < w.heap.size) (h0 : 0 < w.heap.size) (hT : Table w) (hc : ∀ i, i < n → w.cell? ⟨b, off + i, none⟩ = some (.int .u8 ((B.getD i 0 : Nat) : Int))) (hcap : n ≤ cap) :
    Calls Tryd.prog 3 #[.int .u8 k, .slice ao n cap, .int .i64 z, .int .u32 (T : Int)] w fun e w' => e = .returned (.bool true) ∧ Below w.heap.size w w' := by
  have HA : Hid (0 < n → ao = some ⟨b, off, none⟩) := hao
  have HN : Hid (n = B.length) := hn
  have HB : Hid (∀ x ∈ B, x < 256) := hB
  have HW : Hid (0 < n → b < w.heap.size) := hbw
  have HC : Hid (∀ i, i < n → w.cell? ⟨b, off + i, none⟩ = some (.int .u8 ((B.getD i 0 : Nat) : Int))) := hc
  have HT : Hid (∀ w1 : World, Below w.heap.size w w1 → Table w1) := fun w1 hb i hi => (hb.cell (p := ⟨0, i, none⟩) h0).trans (hT i hi)
  have HSB : Hid (∀ w1 : World, Below w.heap.size w w1 → Shows w1.heap.size w1 ao n cap B) := fun w1 hb => ⟨hn, hcap, by omega, hB, b, off, hao, fun h => Nat.lt_of_lt_of_le (hbw h) hb.size, fun i hi => (hb.cell (p := ⟨b, off + i, none⟩) (hbw (by omega))).trans (hc i hi)⟩
  have HK : Hid (k < 256) := hk
  have HFL : Hid ((frameB k B).length = 12 + n) := by show _ = _; rw [frameB_len, hn]
  have HFB : Hid (((frameB k B).drop 8).take (12 + n - 12) = B) := by show _ = _; rw [show 12 + n - 12 = B.length by omega]; exact frameB_body k B
  have HT32 := hide hT32
  clear hao hn hB hbw hT hc hT32
  go_enter Tryd.func3, Tryd.ntmps3
  go_wp2_with fail
  refine (lend_any b off ao B n cap w HA.out HN.out (by omega) HW.out HC.out).mono ?_
  rintro e w1 ⟨rfl, hown1, hb1⟩
  have hlt1 := owned_ltM hown1
  have HP1 : Hid (∀ i, i < n → w1.cell? ⟨w.heap.size, 0 + i, none⟩ = some (.int .u8 ((B.getD i 0 : Nat) : Int))) := fun i hi => owned_partM hown1 i (by have := HN.out; omega)
  have HB1 : Hid (Below w.heap.size w w1) := hb1
  clear hown1 hb1
  go_wp2_with fail
  refine (frame_any k w.heap.size 0 _ B n (n + 4) w1 (fun _ => rfl) HN.out hl HK.out HB.out (fun _ => hlt1) (by omega) (HT.out w1 HB1.out) HP1.out).mono ?_
  rintro e w2 ⟨rfl, hown2, hb2⟩
  have hlt2 := owned_ltM hown2
  have HB2 : Hid (Below w.heap.size w w2) := HB1.out.trans (hb2.mono (by omega))
  have HP2 : Hid (∀ i, i < 12 + n → w2.cell? ⟨w1.heap.size, 0 + i, none⟩ = some (.int .u8 (((frameB k B).getD i 0 : Nat) : Int))) := fun i hi => by rw [Nat.zero_add]; exact owned_cells hown2 i hi
  have HO2 : Hid (w2.ownsRow w1.heap.size 5 1 (.slice (some ⟨w1.heap.size, 0, none⟩) (12 + n) (12 + n)) (12 + n) (vals (frameB k B))) := hown2
  clear hown2 hb2 HP1 HB1
  have hcmp : ((12 : Int) + (n : Int) != (n : Int) + 12) = false := by simp; omega
  generalize w1.heap.size = G at *
  go_wp2_with fail
  refine (lend_any G 0 _ (frameB k B) (12 + n) (12 + n) w2 (fun _ => rfl) HFL.out.symm (by omega) (fun _ => hlt2) HP2.out).mono ?_
  rintro e w3 ⟨rfl, hown3, hb3⟩
  have hlt3 := owned_ltM hown3
  have HP3 : Hid (∀ i, i < 12 + n → w3.cell? ⟨w2.heap.size, 0 + i, none⟩ = some (.int .u8 (((frameB k B).getD i 0 : Nat) : Int))) := fun i hi => owned_partM hown3 i (by have := HFL.out; omega)
  have HB3 : Hid (Below w.heap.size w w3) := HB2.out.trans (hb3.mono (by have := HB2.out.size; omega))
  have HO3 : Hid (w3.ownsRow G 5 1 (.slice (some ⟨G, 0, none⟩) (12 + n) (12 + n)) (12 + n) (vals (frameB k B))) := HO2.out.kept (row := none) ⟨hb3.os, hb3.tape, hb3.output, hb3.size, fun k hk _ => hb3.block k hk⟩ (.inr (by simp [Value.ownBlock]))
  clear hown3 hb3 HB2 HP2 HO2
  go_wp2_with fail
  have hgood : (ff (frameB k B)).2 = 0 := by rw [frame_good k B HK.out HB.out (by have := HN.out; omega)]
  refine (unframe_ok w2.heap.size 0 (frameB k B) (12 + n) (12 + n + 4) w3 HFL.out.symm (by omega) (frameB_lt k B HK.out HB.out) (HT.out w3 HB3.out) hlt3 HP3.out hgood).mono ?_
  rintro e w4 ⟨v, rfl, hfr, -⟩
  rw [frameB_kind]
  have HB4 : Hid (Below w.heap.size w w4) := HB3.out.trans (hfr.2.mono (by have := HB3.out.size; omega))
  have HO4 : Hid (w4.ownsRow G 5 1 (.slice (some ⟨G, 0, none⟩) (12 + n) (12 + n)) (12 + n) (vals (frameB k B))) := HO3.out.kept (row := none) ⟨hfr.2.os, hfr.2.tape, hfr.2.output, hfr.2.size, fun k hk _ => hfr.2.block k hk⟩ (.inr (by simp [Value.ownBlock]))
  have HGD := hide hgood
  have HLT : Hid (∀ x ∈ frameB k B, x < 256) := frameB_lt k B HK.out HB.out
  have hsame : ((k : Int) != (k : Int)) = false := by simp
  have hGw : w.heap.size ≤ G := by omega
  obtain ⟨vo, vc, hv, HSV⟩ : ∃ vo vc, v = .slice vo n vc ∧ Hid (Shows w4.heap.size w4 vo n vc B) := by
    have h1 := hfr.1
    rw [HFB.out] at h1
    have hO : Owns w3.heap.size w4 v B := ⟨h1, HB.out, by have := HN.out; omega⟩
    obtain ⟨vo, vc, e, hs, _⟩ := hO.form
    rw [← HN.out] at e hs
    exact ⟨vo, vc, e, hs⟩
  subst hv
  have HGw : Hid (w.heap.size ≤ G) := hGw
  clear hfr hgood HP3 HB3 HO3 hlt3 hlt2 hlt1 hGw
  go_wp2_with fail
  refine (same_any HSV.out (HSB.out w4 HB4.out)).mono ?_
  rintro e w5 ⟨rfl, q, hq⟩
  have HB5 : Hid (Below w.heap.size w w5) := by rw [hq]; exact below_drewN HB4.out
  have HO5 : Hid (w5.ownsRow G 5 1 (.slice (some ⟨G, 0, none⟩) (12 + n) (12 + n)) (12 + n) (vals (frameB k B))) := by rw [hq]; exact HO4.out.kept (row := none) ⟨rfl, rfl, rfl, Nat.le_refl _, fun _ _ _ => rfl⟩ (.inr (by simp [Value.ownBlock]))
  clear hq HO4 HB4 HSV
  go_upto_if 58 with fail
  go_cut [2] from 17 (fun s2 W => (∃ A : Nat, s2 = .int .i64 (A : Int) ∧ A ≤ 9223372036854775807) ∧ W = w5)
  case first =>
    by_cases hneg : z < 0
    · go_wp2
      go_meet
      case rel => exact ⟨⟨(-(z + 1)).toNat, by rw [Int.toNat_of_nonneg (by omega)], by omega⟩, rfl⟩
    · go_wp2
      go_meet
      case rel => exact ⟨⟨z.toNat, by rw [Int.toNat_of_nonneg (by omega)], by omega⟩, rfl⟩
  case rest =>
  obtain ⟨⟨A, rfl, hA⟩, rfl⟩ := hcut
  clear hz1 hz2 hsame hcmp
  obtain ⟨P, hP⟩ : ∃ P : Nat, P = A % (8 * (12 + n)) := ⟨_, rfl⟩
  have hPl : P < 8 * (12 + n) := by rw [hP]; exact Nat.mod_lt _ (by omega)
  have he : (A : Int) % (8 * (12 + (n : Int))) = (P : Int) := by
    rw [hP, Int.natCast_emod]
    congr 1
  have HBZ : Hid (Bz w G (12 + n) P T (frameB k B) 0 false (frameB k B) wc) := ⟨by omega, by omega, by simp [Nat.mod_one], HFL.out, HLT.out, by simp [Nat.mod_one], HO5.out, HB5.out⟩
  clear hP HO5 HB5 HFB
  go_upto_region 11 with fail
  go_cut [2] from 17 (fun s2 W => s2 = .int .i64 (P : Int) ∧ W = wc)
  case first =>
    go_wp2
    go_meet
    case rel => exact ⟨by rw [he], rfl⟩
  case rest =>
  clear he hA
  obtain ⟨rfl, rfl⟩ := hcut
  go_wp2
  go_loopw [13, 14] (fun x y wr => ∃ (h : Bool) (c : Nat), x = .bool h ∧ c ≤ 32 ∧ y = .int .i64 c ∧ Hid (∃ F, Bz w G (12 + n) P T (frameB k B) c h F wr)) (fun _ y _ => 32 - (intOf y).toNat)
  case atStart => exact ⟨false, 0, rfl, by omega, rfl, _, HBZ.out⟩
  case round =>
    obtain ⟨h, c, rfl, hc32, rfl, HS⟩ := hrel
    obtain ⟨F, hbz⟩ := HS.out
    have HZ := hide hbz
    clear HS HBZ hbz
    by_cases hlt : c < 32 ∧ P + c < 8 * (12 + n)
    · obtain ⟨l1, l2⟩ := hlt
      have l3 : (P : Int) + (c : Int) < 8 * (12 + (n : Int)) := by omega
      have HBT : Hid (T / 2 ^ c % 2 = 0 ∨ T / 2 ^ c % 2 = 1) := by show _ ∨ _; omega
      have hb0 := bit_is T c HT32.out
      rcases HBT.out with hbit | hbit
      · rw [hbit] at hb0
        have HZ1 := hide (HZ.out.stay l1 l2 hbit)
        clear hbit HBT HZ
        go_wp2
        go_roundw
        case rel =>
          first
          | (refine ⟨h, c + 1, rfl, by omega, ?_, F, HZ1.out⟩; go_num)
          | (repeat apply Exists.intro
             refine ⟨⟨h, c + 1, rfl, by omega, ?_, F, HZ1.out⟩, rfl⟩
             go_num)
        case measure => simp [intOf]; omega
      · rw [hbit] at hb0
        have HFP : Hid (Calls Tryd.prog 8 #[.slice (some ⟨G, 0, none⟩) (12 + n) (12 + n), .int .i64 ((P : Int) + (c : Int))] wr fun e w' => e = .returned (.tuple #[]) ∧ Hid (Bz w G (12 + n) P T (frameB k B) (c + 1) true (flipB F ((P + c) / 8) ((P + c) % 8)) w')) := by
          have h1 := flip_at G G (12 + n) (P + c) F wr HZ.out.lt (by omega) l2 HZ.out.own
          rw [Int.natCast_add] at h1
          exact h1.mono (fun e w' ⟨h2, h3, h4⟩ => ⟨h2, HZ.out.turn l1 l2 hbit HGw.out h3 h4⟩)
        clear hbit HBT HZ
        go_wp2_with fail
        refine HFP.out.mono ?_
        rintro e w6 ⟨rfl, HZ1⟩
        clear HFP
        go_wp2
        go_roundw
        case rel =>
          first
          | (refine ⟨true, c + 1, rfl, by omega, ?_, _, HZ1.out⟩; go_num)
          | (repeat apply Exists.intro
             refine ⟨⟨true, c + 1, rfl, by omega, ?_, _, HZ1.out⟩, rfl⟩
             go_num)
        case measure => simp [intOf]; omega
    · have hex : ¬ c < 32 ∨ (c < 32 ∧ ¬ P + c < 8 * (12 + n)) := by omega
      have HCL : Hid (∀ W, wr.grownBy W none → ∀ i, i < 12 + n → W.cell? ⟨G, 0 + i, none⟩ = some (.int .u8 ((F.getD i 0 : Nat) : Int))) := fun W hW i hi => by rw [Nat.zero_add]; exact owned_cells (HZ.out.own.kept hW (.inr (by simp [Value.ownBlock]))) i hi
      have HGl : Hid (G < wr.heap.size) := owned_ltM HZ.out.own
      have HLF : Hid (12 + n = F.length) := HZ.out.len.symm
      have HFb := hide HZ.out.lt
      have HbF := hide HZ.out.bel
      cases h
      · by_cases hok : (ff F).2 = 0
        · have HOK := hide hok
          clear hok
          rcases hex with hex | ⟨l1, l2⟩
          · go_wp2_with fail
            refine (unframe_ok G 0 F (12 + n) (12 + n) wr HLF.out (by omega) HFb.out (HT.out wr HbF.out) HGl.out (HCL.out wr ⟨rfl, rfl, rfl, Nat.le_refl _, fun _ _ _ => rfl⟩) HOK.out).mono ?_
            rintro e w6 ⟨v6, rfl, hfr6, -⟩
            have N6 := hide (below_none hfr6.2)
            have B6 := hide (HbF.out.trans (hfr6.2.mono HbF.out.size))
            have L6 : Hid (G < w6.heap.size) := Nat.lt_of_lt_of_le HGl.out hfr6.2.size
            clear hfr6
            go_wp2_with fail
            refine (decode_good G 0 F (12 + n) (12 + n) w6 HLF.out (by omega) HFb.out (fun w1 h1 => HT.out w1 (B6.out.trans (h1.mono B6.out.size))) L6.out (HCL.out w6 N6.out) HOK.out).mono ?_
            rintro e w7 ⟨cs, x7, rfl, G7⟩
            obtain ⟨q1, q2, q3⟩ := G7.out
            have BE := hide (B6.out.trans (q3.mono B6.out.size))
            have HSZ : Hid ((Tryd.prog.info? 47).map (·.size) = some cs.toArray.size) := by show _ = _; rw [List.size_toArray, q1]; kernel_rfl
            have THX : Hid (∀ Z : Array Value, Z.size = 49 → (w7.alloc (.cells Z 47)).there w7.heap.size 0 cs.toArray.size) := fun Z hZ => block_there2 (alloc_at _ _) (by rw [List.size_toArray, q1, hZ]; exact Nat.le_refl _)
            have FIN : Hid (∀ Z : Array Value, Below w.heap.size w ((w7.alloc (.cells Z 47)).setCells w7.heap.size 0 cs)) := fun Z => by
              have h1 := BE.out.alloc BE.out.size (.cells Z 47)
              exact h1.trans ((grown_setC _ _ _ _).mono BE.out.size)
            have HON := hide (all_oneCell_toArray q2)
            clear q1 q2 q3 G7
            go_wp2_with (refine wpList_store_mid rfl 47 _ _ rfl w7.heap.size 0 cs.toArray rfl rfl (THX.out _ (by rfl)) HSZ.out HON.out ?_)
            go_ret
            exact ⟨rfl, by simpa using FIN.out _⟩
          · have l3 : ¬ (P : Int) + (c : Int) < 8 * (12 + (n : Int)) := by omega
            go_wp2_with fail
            refine (unframe_ok G 0 F (12 + n) (12 + n) wr HLF.out (by omega) HFb.out (HT.out wr HbF.out) HGl.out (HCL.out wr ⟨rfl, rfl, rfl, Nat.le_refl _, fun _ _ _ => rfl⟩) HOK.out).mono ?_
            rintro e w6 ⟨v6, rfl, hfr6, -⟩
            have N6 := hide (below_none hfr6.2)
            have B6 := hide (HbF.out.trans (hfr6.2.mono HbF.out.size))
            have L6 : Hid (G < w6.heap.size) := Nat.lt_of_lt_of_le HGl.out hfr6.2.size
            clear hfr6
            go_wp2_with fail
            refine (decode_good G 0 F (12 + n) (12 + n) w6 HLF.out (by omega) HFb.out (fun w1 h1 => HT.out w1 (B6.out.trans (h1.mono B6.out.size))) L6.out (HCL.out w6 N6.out) HOK.out).mono ?_
            rintro e w7 ⟨cs, x7, rfl, G7⟩
            obtain ⟨q1, q2, q3⟩ := G7.out
            have BE := hide (B6.out.trans (q3.mono B6.out.size))
            have HSZ : Hid ((Tryd.prog.info? 47).map (·.size) = some cs.toArray.size) := by show _ = _; rw [List.size_toArray, q1]; kernel_rfl
            have THX : Hid (∀ Z : Array Value, Z.size = 49 → (w7.alloc (.cells Z 47)).there w7.heap.size 0 cs.toArray.size) := fun Z hZ => block_there2 (alloc_at _ _) (by rw [List.size_toArray, q1, hZ]; exact Nat.le_refl _)
            have FIN : Hid (∀ Z : Array Value, Below w.heap.size w ((w7.alloc (.cells Z 47)).setCells w7.heap.size 0 cs)) := fun Z => by
              have h1 := BE.out.alloc BE.out.size (.cells Z 47)
              exact h1.trans ((grown_setC _ _ _ _).mono BE.out.size)
            have HON := hide (all_oneCell_toArray q2)
            clear q1 q2 q3 G7
            go_wp2_with (refine wpList_store_mid rfl 47 _ _ rfl w7.heap.size 0 cs.toArray rfl rfl (THX.out _ (by rfl)) HSZ.out HON.out ?_)
            go_ret
            exact ⟨rfl, by simpa using FIN.out _⟩
        · have HBAD : Hid ((ff F).2 ≠ 0) := hok
          clear hok
          rcases hex with hex | ⟨l1, l2⟩
          · go_wp2_with fail
            refine (unframe_bad G 0 _ F (12 + n) (12 + n) wr (fun _ => rfl) HLF.out (by omega) (by omega) HFb.out (HT.out wr HbF.out) (HCL.out wr ⟨rfl, rfl, rfl, Nat.le_refl _, fun _ _ _ => rfl⟩) HBAD.out).mono ?_
            rintro e w6 ⟨v6, rfl, ⟨g6, rfl, _, _, _⟩, hb6⟩
            have N6 := hide (below_none hb6)
            have B6 := hide (HbF.out.trans (hb6.mono HbF.out.size))
            have L6 : Hid (G < w6.heap.size) := Nat.lt_of_lt_of_le HGl.out hb6.size
            clear hb6
            go_wp2_with fail
            refine (decode_bad G 0 _ F (12 + n) (12 + n) w6 (fun _ => rfl) HLF.out (by omega) (by omega) HFb.out (fun w1 h1 => HT.out w1 (B6.out.trans (h1.mono B6.out.size))) L6.out (HCL.out w6 N6.out) HBAD.out).mono ?_
            rintro e w7 ⟨cs, x7, rfl, G7⟩
            obtain ⟨q1, q2, q3⟩ := G7.out
            have BE := hide (B6.out.trans (q3.mono B6.out.size))
            have HSZ : Hid ((Tryd.prog.info? 47).map (·.size) = some cs.toArray.size) := by show _ = _; rw [List.size_toArray, q1]; kernel_rfl
            have THX : Hid (∀ Z : Array Value, Z.size = 49 → (w7.alloc (.cells Z 47)).there w7.heap.size 0 cs.toArray.size) := fun Z hZ => block_there2 (alloc_at _ _) (by rw [List.size_toArray, q1, hZ]; exact Nat.le_refl _)
            have FIN : Hid (∀ Z : Array Value, Below w.heap.size w ((w7.alloc (.cells Z 47)).setCells w7.heap.size 0 cs)) := fun Z => by
              have h1 := BE.out.alloc BE.out.size (.cells Z 47)
              exact h1.trans ((grown_setC _ _ _ _).mono BE.out.size)
            have HON := hide (all_oneCell_toArray q2)
            clear q1 q2 q3 G7
            go_wp2_with (refine wpList_store_mid rfl 47 _ _ rfl w7.heap.size 0 cs.toArray rfl rfl (THX.out _ (by rfl)) HSZ.out HON.out ?_)
            go_ret
            exact ⟨rfl, by simpa using FIN.out _⟩
          · have l3 : ¬ (P : Int) + (c : Int) < 8 * (12 + (n : Int)) := by omega
            go_wp2_with fail
            refine (unframe_bad G 0 _ F (12 + n) (12 + n) wr (fun _ => rfl) HLF.out (by omega) (by omega) HFb.out (HT.out wr HbF.out) (HCL.out wr ⟨rfl, rfl, rfl, Nat.le_refl _, fun _ _ _ => rfl⟩) HBAD.out).mono ?_
            rintro e w6 ⟨v6, rfl, ⟨g6, rfl, _, _, _⟩, hb6⟩
            have N6 := hide (below_none hb6)
            have B6 := hide (HbF.out.trans (hb6.mono HbF.out.size))
            have L6 : Hid (G < w6.heap.size) := Nat.lt_of_lt_of_le HGl.out hb6.size
            clear hb6
            go_wp2_with fail
            refine (decode_bad G 0 _ F (12 + n) (12 + n) w6 (fun _ => rfl) HLF.out (by omega) (by omega) HFb.out (fun w1 h1 => HT.out w1 (B6.out.trans (h1.mono B6.out.size))) L6.out (HCL.out w6 N6.out) HBAD.out).mono ?_
            rintro e w7 ⟨cs, x7, rfl, G7⟩
            obtain ⟨q1, q2, q3⟩ := G7.out
            have BE := hide (B6.out.trans (q3.mono B6.out.size))
            have HSZ : Hid ((Tryd.prog.info? 47).map (·.size) = some cs.toArray.size) := by show _ = _; rw [List.size_toArray, q1]; kernel_rfl
            have THX : Hid (∀ Z : Array Value, Z.size = 49 → (w7.alloc (.cells Z 47)).there w7.heap.size 0 cs.toArray.size) := fun Z hZ => block_there2 (alloc_at _ _) (by rw [List.size_toArray, q1, hZ]; exact Nat.le_refl _)
            have FIN : Hid (∀ Z : Array Value, Below w.heap.size w ((w7.alloc (.cells Z 47)).setCells w7.heap.size 0 cs)) := fun Z => by
              have h1 := BE.out.alloc BE.out.size (.cells Z 47)
              exact h1.trans ((grown_setC _ _ _ _).mono BE.out.size)
            have HON := hide (all_oneCell_toArray q2)
            clear q1 q2 q3 G7
            go_wp2_with (refine wpList_store_mid rfl 47 _ _ rfl w7.heap.size 0 cs.toArray rfl rfl (THX.out _ (by rfl)) HSZ.out HON.out ?_)
            go_ret
            exact ⟨rfl, by simpa using FIN.out _⟩
      · have HBAD : Hid ((ff F).2 ≠ 0) := HZ.out.bad HLT.out HFL.out HGD.out
        rcases hex with hex | ⟨l1, l2⟩
        · go_wp2_with fail
          refine (unframe_bad G 0 _ F (12 + n) (12 + n) wr (fun _ => rfl) HLF.out (by omega) (by omega) HFb.out (HT.out wr HbF.out) (HCL.out wr ⟨rfl, rfl, rfl, Nat.le_refl _, fun _ _ _ => rfl⟩) HBAD.out).mono ?_
          rintro e w6 ⟨v6, rfl, ⟨g6, rfl, _, _, _⟩, hb6⟩
          have N6 := hide (below_none hb6)
          have B6 := hide (HbF.out.trans (hb6.mono HbF.out.size))
          have L6 : Hid (G < w6.heap.size) := Nat.lt_of_lt_of_le HGl.out hb6.size
          clear hb6
          go_wp2_with fail
          refine (decode_bad G 0 _ F (12 + n) (12 + n) w6 (fun _ => rfl) HLF.out (by omega) (by omega) HFb.out (fun w1 h1 => HT.out w1 (B6.out.trans (h1.mono B6.out.size))) L6.out (HCL.out w6 N6.out) HBAD.out).mono ?_
          rintro e w7 ⟨cs, x7, rfl, G7⟩
          obtain ⟨q1, q2, q3⟩ := G7.out
          have BE := hide (B6.out.trans (q3.mono B6.out.size))
          have HSZ : Hid ((Tryd.prog.info? 47).map (·.size) = some cs.toArray.size) := by show _ = _; rw [List.size_toArray, q1]; kernel_rfl
          have THX : Hid (∀ Z : Array Value, Z.size = 49 → (w7.alloc (.cells Z 47)).there w7.heap.size 0 cs.toArray.size) := fun Z hZ => block_there2 (alloc_at _ _) (by rw [List.size_toArray, q1, hZ]; exact Nat.le_refl _)
          have FIN : Hid (∀ Z : Array Value, Below w.heap.size w ((w7.alloc (.cells Z 47)).setCells w7.heap.size 0 cs)) := fun Z => by
            have h1 := BE.out.alloc BE.out.size (.cells Z 47)
            exact h1.trans ((grown_setC _ _ _ _).mono BE.out.size)
          have HON := hide (all_oneCell_toArray q2)
          clear q1 q2 q3 G7
          go_wp2_with (refine wpList_store_mid rfl 47 _ _ rfl w7.heap.size 0 cs.toArray rfl rfl (THX.out _ (by rfl)) HSZ.out HON.out ?_)
          go_ret
          exact ⟨rfl, by simpa using FIN.out _⟩
        · have l3 : ¬ (P : Int) + (c : Int) < 8 * (12 + (n : Int)) := by omega
          go_wp2_with fail
          refine (unframe_bad G 0 _ F (12 + n) (12 + n) wr (fun _ => rfl) HLF.out (by omega) (by omega) HFb.out (HT.out wr HbF.out) (HCL.out wr ⟨rfl, rfl, rfl, Nat.le_refl _, fun _ _ _ => rfl⟩) HBAD.out).mono ?_
          rintro e w6 ⟨v6, rfl, ⟨g6, rfl, _, _, _⟩, hb6⟩
          have N6 := hide (below_none hb6)
          have B6 := hide (HbF.out.trans (hb6.mono HbF.out.size))
          have L6 : Hid (G < w6.heap.size) := Nat.lt_of_lt_of_le HGl.out hb6.size
          clear hb6
          go_wp2_with fail
          refine (decode_bad G 0 _ F (12 + n) (12 + n) w6 (fun _ => rfl) HLF.out (by omega) (by omega) HFb.out (fun w1 h1 => HT.out w1 (B6.out.trans (h1.mono B6.out.size))) L6.out (HCL.out w6 N6.out) HBAD.out).mono ?_
          rintro e w7 ⟨cs, x7, rfl, G7⟩
          obtain ⟨q1, q2, q3⟩ := G7.out
          have BE := hide (B6.out.trans (q3.mono B6.out.size))
          have HSZ : Hid ((Tryd.prog.info? 47).map (·.size) = some cs.toArray.size) := by show _ = _; rw [List.size_toArray, q1]; kernel_rfl
          have THX : Hid (∀ Z : Array Value, Z.size = 49 → (w7.alloc (.cells Z 47)).there w7.heap.size 0 cs.toArray.size) := fun Z hZ => block_there2 (alloc_at _ _) (by rw [List.size_toArray, q1, hZ]; exact Nat.le_refl _)
          have FIN : Hid (∀ Z : Array Value, Below w.heap.size w ((w7.alloc (.cells Z 47)).setCells w7.heap.size 0 cs)) := fun Z => by
            have h1 := BE.out.alloc BE.out.size (.cells Z 47)
            exact h1.trans ((grown_setC _ _ _ _).mono BE.out.size)
          have HON := hide (all_oneCell_toArray q2)
          clear q1 q2 q3 G7
          go_wp2_with (refine wpList_store_mid rfl 47 _ _ rfl w7.heap.size 0 cs.toArray rfl rfl (THX.out _ (by rfl)) HSZ.out HON.out ?_)
          go_ret
          exact ⟨rfl, by simpa using FIN.out _⟩
end Go.Proofs.YtidhondcfagoaaaDoor
