import Derived.Test.YtoejdocnpcbpiaaXR
import Derived.Test.YtoejdocnpcbpiaaBKc
import Derived.Test.YtoejdocnpcbpiaaBAdd
import Derived.Test.YtoejdocnpcbpiaaEAd
import Derived.Deep.DeepCutAuto
import Derived.Deep.CutBlock
namespace Go.Proofs.Ytoejdocnpcbpiaa
open Go.RowKit

/-- Mark of the program, then of the reference: one mark, and faults that are alike. -/
theorem marks_both (ao ao' : Option Addr) (n cap cap' b off b' off' : Nat) (k : Int) (hk1 : -9223372036854775808 ≤ k) (xs : List Nat) (hn : xs.length = n) (h200 : n ≤ 200) (w : World) (had : 0 < xs.length → ao = some ⟨b, off, none⟩) (hbw : 0 < xs.length → b < w.heap.size) (hU : Us w b off xs) (had' : 0 < xs.length → ao' = some ⟨b', off', none⟩) (hbw' : 0 < xs.length → b' < w.heap.size) (hU' : Us w b' off' xs) :
    Calls Try.prog 4 #[.slice ao n cap, .int .i64 k] w fun e w3 => ∃ (m : Nat) (ev : Value), e = .returned (.tuple #[.int .u64 (m : Nat), ev]) ∧ Hid (Below w.heap.size w w3 ∧ Calls Try.prog 5 #[.slice ao' n cap', .int .i64 k] w3 fun e w4 => ∃ fo fn fc c, e = .returned (.tuple #[.int .u64 (m : Nat), .agg #[.slice fo fn fc, .int .i64 c]]) ∧ Hid (Below w.heap.size w w4 ∧ ∀ V, Below w4.heap.size w4 V → Calls Try.prog 6 #[ev, .agg #[.slice fo fn fc, .int .i64 c]] V fun e V' => e = .returned (.bool true) ∧ Hid (Below V.heap.size V V'))) := by
  have hUk : ∀ V, Below w.heap.size w V → Us V b' off' xs := fun V hb i x hi => (hb.cell (p := ⟨b', off' + i, none⟩) (hbw' (by have := (List.getElem?_eq_some_iff.1 hi).1; omega))).trans (hU' i x hi)
  by_cases hk : k < 1 ∨ (n : Int) < k
  · refine (mark_bad ao n cap k hk w).mono ?_
    rintro e w3 ⟨g, rfl, G⟩
    refine ⟨0, _, rfl, G.out.2, ?_⟩
    refine (rmark_any ao' n cap' b' off' k xs hn (by omega) w3 had' (fun h => Nat.lt_of_lt_of_le (hbw' h) G.out.2.size) (hUk w3 G.out.2)).mono ?_
    rintro e w4 (⟨m, _, hg, _⟩ | ⟨_, fo, fc, rfl, G4⟩)
    · exact absurd hg (goodM_none (by rw [hn]; exact hk) m)
    · obtain ⟨fb, ff, hfv, hb4⟩ := G4.out
      refine ⟨fo, 1, fc, 184, rfl, G.out.2.trans (hb4.mono G.out.2.size), fun V hb => ?_⟩
      exact is_any (L := [⟨ballotN, 0⟩]) 1 fc rfl (.inr ⟨((G.out.1.below hb4).wide hb4.size |>.below hb).wide hb.size, by simp, by simp, by decide⟩) ((hfv.below hb).wide hb.size)
  · obtain ⟨kn, rfl⟩ := Int.eq_ofNat_of_zero_le (show 0 ≤ k by omega)
    refine (mark_many ao n cap b off kn xs hn (by omega) (by omega) (by omega) w had hbw hU).mono ?_
    rintro e w3 ⟨m, rfl, G⟩
    obtain ⟨hg, hm, hb3⟩ := G.out
    refine ⟨m, _, rfl, hb3, ?_⟩
    refine (rmark_any ao' n cap' b' off' kn xs hn (by omega) w3 had' (fun h => Nat.lt_of_lt_of_le (hbw' h) hb3.size) (hUk w3 hb3)).mono ?_
    rintro e w4 (⟨m', _, hg', fo, fc, rfl, G4⟩ | ⟨hno, _⟩)
    · obtain ⟨fb, ff, hfv, hb4⟩ := G4.out
      have e := goodM_unique hg hg'
      subst e
      refine ⟨fo, 0, fc, 0, rfl, hb3.trans (hb4.mono hb3.size), fun V hb => ?_⟩
      exact is_any (L := []) 0 fc rfl (.inl ⟨rfl, rfl, rfl⟩) ((hfv.below hb).wide hb.size)
    · exact absurd hg (hno m hm)
theorem encU_snoc (xs : List Nat) (k : Nat) (h : k < xs.length) : (xs.take (k + 1)).map encU = (xs.take k).map encU ++ [.int .u64 ((xs.getD k 0 : Nat) : Int)] := by
  rw [List.take_add_one, List.getElem?_eq_getElem h, List.map_append, List.getD_eq_getElem?_getD, List.getElem?_eq_getElem h]
  rfl
set_option maxRecDepth 100000 in
set_option maxHeartbeats 3200000 in
theorem marks_walk {ao : Option Addr} {xs : List Nat} {b off : Nat} (n cap : Nat) (hn : xs.length = n) (k : Int) (hk1 : -9223372036854775808 ≤ k) (a c most : Nat) (ha : a < 18446744073709551616) (hc : c < 18446744073709551616) (hmo : most < 18446744073709551616) (w : World) (had : 0 < xs.length → ao = some ⟨b, off, none⟩) (hbw : 0 < xs.length → b < w.heap.size) (hU : Us w b off xs) :
    Calls Try.prog 3 #[.slice ao n cap, .int .i64 k, .int .u64 (a : Nat), .int .u64 (c : Nat), .int .u64 (most : Nat)] w fun e w' => e = .returned (.bool true) ∧ Below w.heap.size w w' := by
  obtain ⟨i0, hi, hz0, hz1, hz2⟩ := info_parts infoU64
  by_cases h200 : 200 < n
  · have d0 : decide ((200 : Int) < (n : Int)) = true := decide_eq_true (by omega)
    have hB := hide (Below.refl w.heap.size w)
    clear h200 had hbw hU hn ha hc hmo hk1
    go_enter Try.func3, Try.ntmps3
    go_wp2
    go_ret
    exact ⟨rfl, hB.out⟩
  · have d0 : decide ((200 : Int) < (n : Int)) = false := decide_eq_false (by omega)
    have hn200 : n ≤ 200 := by omega
    have HU : Hid (∀ V, Below w.heap.size w V → ∀ i, i < n → ao = some ⟨b, off, none⟩ ∧ b < V.heap.size ∧ V.cell? ⟨b, off + i, none⟩ = some (.int .u64 ((xs.getD i 0 : Nat) : Int))) := fun V hb i hi => by
      have hx : xs[i]? = some (xs.getD i 0) := by rw [List.getD_eq_getElem?_getD, List.getElem?_eq_getElem (by omega)]; rfl
      exact ⟨had (by omega), Nat.lt_of_lt_of_le (hbw (by omega)) hb.size, (hb.cell (p := ⟨b, off + i, none⟩) (hbw (by omega))).trans (hU i _ hx)⟩
    have HN := hide hn
    have HMB : Hid (∀ w2, Below w.heap.size w w2 → w2.ownsRow w.heap.size 23 1 (.slice (some ⟨w.heap.size, 0, none⟩) (n + 1) (n + 1)) (n + 1) (xs.map encU ++ [.int .u64 4711]) → Calls Try.prog 4 #[.slice (some ⟨w.heap.size, 0, none⟩) n (n + 1), .int .i64 k] w2 fun e w3 => ∃ (m : Nat) (ev : Value), e = .returned (.tuple #[.int .u64 (m : Nat), ev]) ∧ Hid (Below w2.heap.size w2 w3 ∧ Calls Try.prog 5 #[.slice ao n cap, .int .i64 k] w3 fun e w4 => ∃ fo fn fc cd, e = .returned (.tuple #[.int .u64 (m : Nat), .agg #[.slice fo fn fc, .int .i64 cd]]) ∧ Hid (Below w2.heap.size w2 w4 ∧ ∀ V, Below w4.heap.size w4 V → Calls Try.prog 6 #[ev, .agg #[.slice fo fn fc, .int .i64 cd]] V fun e V' => e = .returned (.bool true) ∧ Hid (Below V.heap.size V V')))) := fun w2 hb hr => by
      refine marks_both (some ⟨w.heap.size, 0, none⟩) ao n (n + 1) cap w.heap.size 0 b off k hk1 xs hn (by omega) w2 (fun _ => rfl) (fun _ => (hr.lt w.heap.size rfl).2) (fun i x hi => ?_) had (fun h => Nat.lt_of_lt_of_le (hbw h) hb.size) (fun i x hi => (hb.cell (p := ⟨b, off + i, none⟩) (hbw (by have := (List.getElem?_eq_some_iff.1 hi).1; omega))).trans (hU i x hi))
      have hil := (List.getElem?_eq_some_iff.1 hi).1
      rw [Nat.zero_add, hr.cellAt i (by omega), List.getElem?_append_left (by simpa using hil), List.getElem?_map, hi]
      rfl
    have HAD := hide (fun V => add_any a c most V ha hc hmo)
    have HRA := hide (fun V => refAdd a c most V ha hc hmo)
    clear had hbw hU h200 hn ha hc hmo hk1
    go_enter Try.func3, Try.ntmps3
    go_upto_if 21 with fail
    go_cut [] from 22 (fun W => Hid (W = w))
    case first =>
      go_wp2
      go_meet
      case rel => exact (rfl : w = w)
    case rest =>
    have hw0 : w = wc := hcut.out.symm
    clear hcut
    subst hw0
    go_upto_block 0 with (at_make; refine wpList_make_own _ rfl _ _ 22 rfl w.heap.size 23 i0 (.int .u64 0) 1 Try.underlying22 hi hz0 hz1 .i64 .i64 _ (n + 1) rfl rfl (by omega) (by rw [hz2]; omega) (by unfold maxLen; omega) (Nat.le_refl _) ?_; intro w0 hown0 hgrow0)
    have HO0 := hide hown0
    have HB0 : Hid (Below w.heap.size w w0) := (Below.refl _ _).grown hgrow0 (Nat.le_refl _) (fun k h => by cases h)
    clear hown0 hgrow0
    go_cut [11, 12] from 26 (fun v _ W => v = .slice (some ⟨w.heap.size, 0, none⟩) n (n + 1) ∧ Hid (W.ownsRow w.heap.size 23 1 (.slice (some ⟨w.heap.size, 0, none⟩) n (n + 1)) n (xs.map encU) ∧ Below w.heap.size w W))
    case first =>
      go_wp2
      go_loopw [11, 12] (fun v i wr => ∃ p : Nat, p ≤ n ∧ i = .int .i64 p ∧ v = .slice (some ⟨w.heap.size, 0, none⟩) p (n + 1) ∧ Hid (wr.ownsRow w.heap.size 23 1 (.slice (some ⟨w.heap.size, 0, none⟩) p (n + 1)) p ((xs.take p).map encU) ∧ Below w.heap.size w wr)) (fun _ i _ => n - (intOf i).toNat)
      case atStart => exact ⟨0, by omega, rfl, rfl, HO0.out, HB0.out⟩
      case round =>
        obtain ⟨p, hp, rfl, rfl, HS⟩ := hrel
        by_cases hlt : p < n
        · obtain ⟨rfl, hbl, cp⟩ := HU.out wr HS.out.2 p hlt
          have HT := hide (encU_snoc xs p (by have := HN.out; omega))
          have HSZ : Hid (w.heap.size ≤ wr.heap.size) := HS.out.2.size
          have HNX : Hid (∀ w1 o, w1.ownsRow w.heap.size 23 1 (.slice (some ⟨w.heap.size, 0, none⟩) (p + 1) (n + 1)) (p + 1) ((xs.take p).map encU ++ [.int .u64 ((xs.getD p 0 : Nat) : Int)]) → (wr.alloc o).grownBy w1 (some w.heap.size) → w1.ownsRow w.heap.size 23 1 (.slice (some ⟨w.heap.size, 0, none⟩) (p + 1) (n + 1)) (p + 1) ((xs.take (p + 1)).map encU) ∧ Below w.heap.size w w1) := fun w1 o ho hg => ⟨by rw [HT.out]; exact ho, (HS.out.2.alloc HSZ.out o).grown hg (by have := HSZ.out; simp; omega) (fun j hj => by cases hj; exact Nat.le_refl _)⟩
          have HOW : Hid (∀ o, (wr.alloc o).ownsRow w.heap.size 23 1 (.slice (some ⟨w.heap.size, 0, none⟩) p (n + 1)) p ((xs.take p).map encU)) := fun o => HS.out.1.alloc _
          generalize ((xs.getD p 0 : Nat) : Int) = ch at *
          generalize (xs.take p).map encU = vk at *
          go_wp2_with (at_builtin; refine wpList_append_own_spare _ rfl (.tmp 32) (.tmp 37) 22 rfl w.heap.size 23 i0 1 Try.underlying22 hi hz1 w.heap.size p (n + 1) _ rfl (HOW.out _) ⟨wr.heap.size, 0, none⟩ 1 1 [.int .u64 ch] rfl rfl (cell_one_new _ _ _) (Shade.one _ rfl) (by omega) ?_; intro w1 hown1 hgrow1; have HC1 := hide (HNX.out _ _ hown1 hgrow1); clear hown1 hgrow1)
          go_roundw
          case rel => exact ⟨p + 1, by omega, by go_num, rfl, HC1.out⟩
          case measure => simp [intOf]; omega
        · obtain rfl : p = n := by omega
          have HF : Hid (wr.ownsRow w.heap.size 23 1 (.slice (some ⟨w.heap.size, 0, none⟩) p (p + 1)) p (xs.map encU) ∧ Below w.heap.size w wr) := by
            have h1 := HS.out.1
            rw [List.take_of_length_le (by have := HN.out; omega)] at h1
            exact ⟨h1, HS.out.2⟩
          go_wp2
          go_meet
          case rel => exact ⟨rfl, HF.out⟩
    case rest =>
    obtain ⟨rfl, HF⟩ := hcut
    clear HO0 HB0
    obtain ⟨W5, hW5⟩ : ∃ W5, wc = W5 := ⟨_, rfl⟩
    rw [hW5] at HF ⊢
    clear hW5
    have HNX : Hid (∀ w1 o, w1.ownsRow w.heap.size 23 1 (.slice (some ⟨w.heap.size, 0, none⟩) (n + 1) (n + 1)) (n + 1) (xs.map encU ++ [.int .u64 4711]) → (W5.alloc o).grownBy w1 (some w.heap.size) → Below w.heap.size w w1) := fun w1 o _ hg => (HF.out.2.alloc HF.out.2.size o).grown hg (by have := HF.out.2.size; simp; omega) (fun j hj => by cases hj; exact Nat.le_refl _)
    have HOW : Hid (∀ o, (W5.alloc o).ownsRow w.heap.size 23 1 (.slice (some ⟨w.heap.size, 0, none⟩) n (n + 1)) n (xs.map encU)) := fun o => HF.out.1.alloc _
    clear HF
    go_upto_region 9 with (at_builtin; refine wpList_append_own_spare _ rfl (.tmp 39) (.tmp 40) 22 rfl w.heap.size 23 i0 1 Try.underlying22 hi hz1 w.heap.size n (n + 1) _ rfl (HOW.out _) ⟨W5.heap.size, 0, none⟩ 1 1 [.int .u64 4711] rfl rfl (cell_one_new _ _ _) (Shade.one _ rfl) (by omega) ?_; intro w2 hown2 hgrow2)
    have HB2 := hide (HNX.out _ _ hown2 hgrow2)
    have HO2 := hide hown2
    clear hown2 hgrow2 HNX HOW
    have H1 := hide (HMB.out w2 HB2.out HO2.out)
    clear HMB
    go_wp2_with fail
    refine H1.out.mono ?_
    rintro e w3 ⟨mk, ev, rfl, G3⟩
    have HB3 := hide G3.out.1
    have H2 := hide G3.out.2
    clear G3 H1
    go_wp2_with fail
    refine H2.out.mono ?_
    rintro e w4 ⟨fo, fn, fc, cd, rfl, G4⟩
    have HB4 := hide G4.out.1
    obtain ⟨W4, hW4⟩ : ∃ W4, w4.alloc (.cells #[.slice fo fn fc, .int .i64 cd] 30) = W4 := ⟨_, rfl⟩
    have BA : Hid (Below w4.heap.size w4 W4) := by rw [← hW4]; exact (Below.refl _ w4).alloc (Nat.le_refl _) _
    have CA : Hid (W4.heap[w4.heap.size]? = some (.cells #[.slice fo fn fc, .int .i64 cd] 30 (0, 0))) := by rw [← hW4]; exact alloc_atK _ _
    have H3 := hide (G4.out.2 W4 BA.out)
    have z0 := block_cell CA.out 0
    have z1 := block_cell CA.out 1
    have zl := block_lt CA.out
    simp at z0 z1
    have HB5 : Hid (∀ V, Below W4.heap.size W4 V → Below w2.heap.size w2 V) := fun V hb => HB4.out.trans ((BA.out.trans (hb.mono BA.out.size)).mono HB4.out.size)
    have HW4 := hide hW4
    clear G4 H2 HB3 HB4 hW4 CA BA
    go_upto_region 11 with fail
    rw [HW4.out]
    clear HW4
    go_wp2_with fail
    refine H3.out.mono ?_
    rintro e w6 ⟨rfl, G6⟩
    have HB6 := hide (HB5.out w6 G6.out)
    clear H3 G6 z0 z1 zl HB5
    go_upto_block 2 with fail
    have KA : Hid (∀ V, Below w2.heap.size w2 V → (∀ i, i < n → V.cell? ⟨w.heap.size, i, none⟩ = some (.int .u64 ((xs.getD i 0 : Nat) : Int))) ∧ V.cell? ⟨w.heap.size, n, none⟩ = some (.int .u64 4711) ∧ w.heap.size < V.heap.size ∧ Below w.heap.size w V) := fun V hb => by
      have hr := row_quietT HO2.out (below_none hb)
      have hl : (xs.map encU).length = n := by rw [List.length_map]; exact HN.out
      refine ⟨fun i hi => ?_, ?_, (hr.lt w.heap.size rfl).2, HB2.out.trans (hb.mono HB2.out.size)⟩
      · rw [hr.cellAt i (by omega), List.getElem?_append_left (by omega), List.getElem?_map, List.getElem?_eq_getElem (by have := HN.out; omega), List.getD_eq_getElem?_getD, List.getElem?_eq_getElem (by have := HN.out; omega)]
        rfl
      · rw [hr.cellAt n (by omega), List.getElem?_append_right (by omega), hl, Nat.sub_self]
        rfl
    clear HO2
    go_cut [18] from 63 (fun _ W => Hid (Below w2.heap.size w2 W))
    case first =>
      go_wp2
      go_loopw [18] (fun i wr => ∃ p : Nat, p ≤ n ∧ i = .int .i64 p ∧ Hid (Below w2.heap.size w2 wr)) (fun i _ => n - (intOf i).toNat)
      case atStart => exact ⟨0, by omega, rfl, HB6.out⟩
      case round =>
        obtain ⟨p, hp, rfl, HS⟩ := hrel
        by_cases hlt : p < n
        · obtain ⟨ka, -, kl, kb⟩ := KA.out wr HS.out
          have ca := ka p hlt
          obtain ⟨rfl, hbl, cp⟩ := HU.out wr kb p hlt
          have HBD : Hid (∀ q0, Below w2.heap.size w2 (wr.drewN q0)) := fun q0 => by
            have h := HS.out
            exact ⟨h.os, h.tape, h.output, h.size, h.block⟩
          have i1 : (0 : Int) ≤ (p : Int) := by omega
          have i2 : (p : Int) < (n : Int) := by omega
          have i3 : (p : Int) < (n : Int) + 1 := by omega
          clear ka kb
          generalize ((xs.getD p 0 : Nat) : Int) = ch at *
          go_wp2
          go_quiet (fail)
          go_wp2
          go_roundw
          case rel => exact ⟨p + 1, by omega, by go_num, HBD.out _⟩
          case measure => simp [intOf]; omega
        · obtain rfl : p = n := by omega
          go_wp2
          go_meet
          case rel => exact HS.out
    case rest =>
    have HB7 := hcut
    clear hcut HB6
    obtain ⟨-, ka, kl, kb⟩ := KA.out wc HB7.out
    have i2 : (0 : Int) ≤ (n : Int) := by omega
    have i3 : (n : Int) < (n : Int) + 1 := by omega
    have HKB := hide kb
    clear kb HB7 KA
    go_wp2_with (first
      | (go_at_call 7; refine (HAD.out _).mono ?_; rintro e V' ⟨rfl, hVV⟩; have hVW := hVV.symm; clear hVV; subst hVW)
      | (go_at_call 8; refine (HRA.out _).mono ?_; rintro e V' ⟨rfl, hVV⟩; have hVW := hVV.symm; clear hVV; subst hVW))
    go_ret
    exact ⟨by simp, HKB.out⟩
end Go.Proofs.Ytoejdocnpcbpiaa
