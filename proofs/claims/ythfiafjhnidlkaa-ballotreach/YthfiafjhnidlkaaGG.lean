import Derived.Test.YthfiafjhnidlkaaGE
import Derived.Test.YthfiafjhnidlkaaGF
import Derived.Test.YthfiafjhnidlkaaBMt
import Derived.Test.YthfiafjhnidlkaaBPq
namespace Go.Proofs.Ythfiafjhnidlkaa
open Go.RowKit

set_option maxRecDepth 10000 in
set_option maxHeartbeats 1600000 in
theorem reach_bad (c : Cf) (sl : Value) (w : World)
    (hG : ∀ W, Calls Try.prog 8 #[.agg c.cells] W fun e w' => e = .returned (.tuple #[.pointer none, .bool true]) ∧ Hid (Below W.heap.size W w')) :
    Calls Try.prog 6 #[.agg c.cells, sl] w fun e w' => e = .returned (.bool true) ∧ Below w.heap.size w w' := by
  have HG := hide hG
  clear hG
  obtain ⟨W1, hW1⟩ : ∃ W1, w.alloc (.cells c.cells 24) = W1 := ⟨_, rfl⟩
  have B1 : Hid (Below w.heap.size w W1) := by rw [← hW1]; exact (Below.refl _ w).alloc (Nat.le_refl _) _
  have C1 : W1.heap[w.heap.size]? = some (.cells c.cells 24 (0, 0)) := by rw [← hW1]; exact alloc_atK _ _
  obtain ⟨z0, z1, z2, z3, z4, z5, z6, z7, z8, z9⟩ := cfg_cells C1
  have HW1 := hide hW1
  clear hW1 C1
  unfold Cf.cells at *
  generalize c.f = f at *
  generalize c.mb = mb at *
  generalize (c.delay : Int) = d at *
  generalize (c.win : Int) = wn at *
  generalize (c.every : Int) = ev at *
  generalize (c.beat : Int) = bt at *
  generalize (c.ep : Int) = ep at *
  generalize (c.em : Int) = em at *
  generalize (c.mn : Int) = mn at *
  generalize (c.ms : Int) = ms at *
  go_enter Try.func6, Try.ntmps6
  go_upto_region 1 with fail
  rw [HW1.out]
  clear HW1
  go_wp2_with fail
  refine (HG.out W1).mono ?_
  rintro e w2 ⟨rfl, B2⟩
  clear z0 z1 z2 z3 z4 z5 z6 z7 z8 z9
  go_wp2
  go_ret
  exact ⟨rfl, B1.out.trans (B2.out.mono B1.out.size)⟩
/-- The state at the head of the loop. -/
structure RS (w3 : World) (xs : List Nat) (m k S T : Nat) (v : Value) (W : World) : Prop where
  at_ : PlaceSet (fun y => decide (m ≤ y)) xs k S
  over : PlaceSet (fun y => decide (m < y)) xs k T
  row : W.ownsRow w3.heap.size 22 1 v k ((xs.reverse.take k).map encU)
  bel : Below w3.heap.size w3 W
theorem rev_at {xs : List Nat} {n k : Nat} (hn : xs.length = n) (hk : k < n) {x : Nat} (hx : xs[n - 1 - k]? = some x) : xs.reverse[k]? = some x := by
  rw [List.getElem?_reverse (by omega), hn]
  exact hx
set_option maxRecDepth 100000 in
set_option maxHeartbeats 4000000 in
theorem reach_ok (c : Cf) (hk : c.Ok) {ao : Option Addr} {xs : List Nat} {b off : Nat} (n cap : Nat) (hn : xs.length = n) (w : World) (had : 0 < xs.length → ao = some ⟨b, off, none⟩) (hbw : 0 < xs.length → b < w.heap.size) (hU : Us w b off xs)
    (hG : ∀ W, Calls Try.prog 8 #[.agg c.cells] W fun e w' => ∃ a, e = .returned (.tuple #[.pointer a, .bool true]) ∧ Hid (PG w' a c ∧ Below W.heap.size W w')) :
    Calls Try.prog 6 #[.agg c.cells, .slice ao n cap] w fun e w' => e = .returned (.bool true) ∧ Below w.heap.size w w' := by
  obtain ⟨i0, hi0, hz0, hz1, hz2⟩ := info_parts infoU64
  have HOK := hide hk
  have HND := hide (fun W a (h : PG W a c) => nodes_live h hk)
  have HQR := hide (fun W a (h : PG W a c) => quorum_live h hk)
  have HMJ := hide (fun W a (s : Nat) (hs : s < 4294967296) (h : PG W a c) => majority_live s hs h hk)
  have f1 := hk.f1
  have f3 := hk.f3
  have HU := hide hU
  have HAD := hide had
  have HBW := hide hbw
  have HN := hide hn
  clear hU had hbw hk
  have HG := hide hG
  clear hG
  obtain ⟨W1, hW1⟩ : ∃ W1, w.alloc (.cells c.cells 24) = W1 := ⟨_, rfl⟩
  have B1 : Hid (Below w.heap.size w W1) := by rw [← hW1]; exact (Below.refl _ w).alloc (Nat.le_refl _) _
  have C1 : W1.heap[w.heap.size]? = some (.cells c.cells 24 (0, 0)) := by rw [← hW1]; exact alloc_atK _ _
  obtain ⟨z0, z1, z2, z3, z4, z5, z6, z7, z8, z9⟩ := cfg_cells C1
  have HW1 := hide hW1
  clear hW1 C1
  obtain ⟨fn, hfn⟩ : ∃ fn : Nat, c.f = (fn : Int) := ⟨c.f.toNat, by omega⟩
  have HPM : Hid (∀ (P : Nat → Bool) (S : Nat), PlaceSet P xs xs.length S → ((xs.length : Nat) : Int) = 2 * (fn : Int) + 1 → c.maj S = decide (((xs.countP P : Nat) : Int) ≥ (fn : Int) + 1)) := fun P S h hl => by rw [h.maj HOK.out (by rw [hfn]; exact hl), hfn]
  rw [hfn] at HND HQR f1 f3
  clear hfn
  unfold Cf.cells at *
  generalize c.f = f at *
  generalize c.mb = mb at *
  generalize (c.delay : Int) = d at *
  generalize (c.win : Int) = wn at *
  generalize (c.every : Int) = ev at *
  generalize (c.beat : Int) = bt at *
  generalize (c.ep : Int) = ep at *
  generalize (c.em : Int) = em at *
  generalize (c.mn : Int) = mn at *
  generalize (c.ms : Int) = ms at *
  go_enter Try.func6, Try.ntmps6
  go_upto_region 1 with fail
  rw [HW1.out]
  clear HW1
  go_wp2_with fail
  refine (HG.out W1).mono ?_
  rintro e w2 ⟨a, rfl, G2⟩
  have P2 := hide G2.out.1
  have B2 := hide (B1.out.trans (G2.out.2.mono B1.out.size))
  obtain ⟨g, rfl, _⟩ := id P2.out
  clear G2 B1 z0 z1 z2 z3 z4 z5 z6 z7 z8 z9
  go_wp2_with fail
  refine (HND.out _ _ P2.out).mono ?_
  rintro e w2' ⟨rfl, rfl⟩
  by_cases hln : n = 2 * fn + 1
  · have d0 : ((n : Int) != 2 * (fn : Int) + 1) = false := by simp; omega
    have hbw' : b < w.heap.size := HBW.out (by rw [HN.out]; omega)
    obtain rfl := HAD.out (by rw [HN.out]; omega)
    have HMK : Hid (∀ W : World, Below w.heap.size w W → Calls Try.prog 27 #[.slice (some ⟨b, off, none⟩) n cap, .int .i64 ((fn : Int) + 1)] W fun e w' => ∃ m : Nat, e = .returned (.tuple #[.int .u64 (m : Int), .nilIface]) ∧ Hid (∃ ys : List Nat, ys.Pairwise (· ≤ ·) ∧ ys.Perm xs ∧ ys[n - (fn + 1)]? = some m ∧ Below W.heap.size W w')) := fun W hb => by
      have e : (fn : Int) + 1 = ((fn + 1 : Nat) : Int) := by omega
      rw [e]
      exact mark_few (some ⟨b, off, none⟩) n cap b off (fn + 1) xs HN.out (by omega) (by omega) (by omega) W (fun _ => rfl) (fun _ => Nat.lt_of_lt_of_le hbw' hb.size) (fun i x hi => (hb.cell (p := ⟨b, off + i, none⟩) hbw').trans (HU.out i x hi))
    have HLN := hide hln
    have hn12 : n ≤ 12 := by omega
    have hfn3 : fn ≤ 3 := by omega
    clear hln hn f1 f3
    go_wp2_with fail
    refine (HQR.out _ _ P2.out).mono ?_
    rintro e w2' ⟨rfl, rfl⟩
    go_wp2_with fail
    refine (HMK.out _ B2.out).mono ?_
    rintro e w3 ⟨m, rfl, G3⟩
    obtain ⟨ys, hys1, hys2, hys3, hb3⟩ := G3.out
    have HY : Hid (ys.Pairwise (· ≤ ·) ∧ ys.Perm xs ∧ ys[n - (fn + 1)]? = some m) := ⟨hys1, hys2, hys3⟩
    have P3 := hide (P2.out.kept hb3)
    have B3 := hide (B2.out.trans (hb3.mono B2.out.size))
    have R0 : Hid (RS w3 xs m 0 0 0 (.slice none 0 0) w3) := ⟨placeSet_zero _ _, placeSet_zero _ _, ⟨rfl, .inl ⟨rfl, rfl⟩⟩, Below.refl _ _⟩
    have HU3 : Hid (∀ W, Below w3.heap.size w3 W → Us W b off xs ∧ b < W.heap.size) := fun W hb => by
      have hb' := B3.out.trans (hb.mono B3.out.size)
      exact ⟨fun i x hi => (hb'.cell (p := ⟨b, off + i, none⟩) hbw').trans (HU.out i x hi), Nat.lt_of_lt_of_le hbw' hb'.size⟩
    have HWT := hide (fun (W : World) (S : Nat) (hs : S < 4294967296) (k : Int) => with_any S hs k W)
    clear G3 hys1 hys2 hys3 hb3 P2 B2 HMK HU HND d0
    go_wp2
    go_loopw [9, 10, 11, 12] (fun v a o i wr => ∃ k S T : Nat, k ≤ n ∧ a = .int .u32 (S : Nat) ∧ o = .int .u32 (T : Nat) ∧ i = .int .i64 (k : Nat) ∧ Hid (RS w3 xs m k S T v wr)) (fun _ _ _ i _ => n - (intOf i).toNat)
    case atStart => exact ⟨0, 0, 0, by omega, rfl, rfl, rfl, R0.out⟩
    case round =>
      obtain ⟨k, S, T, hkn, rfl, rfl, rfl, HR⟩ := hrel
      clear R0
      by_cases hlt : k < n
      · obtain ⟨x, hx⟩ : ∃ x, xs[k]? = some x := ⟨_, List.getElem?_eq_getElem (by rw [HN.out]; exact hlt)⟩
        obtain ⟨r, hr⟩ : ∃ r, n - 1 - k = r := ⟨_, rfl⟩
        obtain ⟨u, hu⟩ : ∃ u, xs[r]? = some u := ⟨_, List.getElem?_eq_getElem (by rw [HN.out]; omega)⟩
        have y0 := (HU3.out _ HR.out.bel).1 k x hx
        have y1 := (HU3.out _ HR.out.bel).1 r u hu
        have hbl := (HU3.out _ HR.out.bel).2
        have e0 : ((n : Int) - 1 - (k : Int)) = ((r : Nat) : Int) := by omega
        have hrn : r < n := by omega
        have HOW : Hid (∀ o, (wr.alloc o).ownsRow w3.heap.size 22 1 u9 k ((xs.reverse.take k).map encU)) := fun o => row_quietT HR.out.row (World.grownBy_alloc _ _ none)
        have HSZ : Hid (w3.heap.size ≤ wr.heap.size) := HR.out.bel.size
        have hSl := HR.out.at_.lt
        have hTl := HR.out.over.lt
        have HNX : Hid (∀ (g' cap' : Nat) (w5 : World) (o : Obj), w5.ownsRow w3.heap.size 22 1 (.slice (some ⟨g', 0, none⟩) (k + 1) cap') (k + 1) ((xs.reverse.take k).map encU ++ [.int .u64 (u : Int)]) → (wr.alloc o).grownBy w5 u9.ownBlock →
            w5.cell? ⟨b, off + k, none⟩ = some (.int .u64 (x : Int)) ∧ b < w5.heap.size ∧ Hid (∀ S' T', PlaceSet (fun y => decide (m ≤ y)) xs (k + 1) S' → PlaceSet (fun y => decide (m < y)) xs (k + 1) T' → RS w3 xs m (k + 1) S' T' (.slice (some ⟨g', 0, none⟩) (k + 1) cap') w5)) := fun g' cap' w5 o ho hg => by
          have row1 := HOW.out o
          have b1 : Below w3.heap.size w3 (wr.alloc o) := HR.out.bel.alloc HR.out.bel.size _
          have b2 : Below w3.heap.size w3 w5 := b1.grown hg b1.size (fun j e => (row1.lt j e).1)
          refine ⟨(HU3.out _ b2).1 k x hx, (HU3.out _ b2).2, fun S' T' h1 h2 => ⟨h1, h2, ?_, b2⟩⟩
          have hrv : xs.reverse[k]? = some u := rev_at HN.out hlt (by rw [hr]; exact hu)
          rw [List.take_add_one, hrv]
          simpa [encU] using ho
        have HX := hide hx
        clear hx hu hr
        have h32 : k < 32 := by omega
        rcases Nat.lt_trichotomy x m with hcs | hcs | hcs
        · skip
          have d1 : ¬ m ≤ x := by omega
          have d2 : ¬ m < x := by omega
          have p1 := hide (HR.out.at_.skip HX.out (decide_eq_false (by omega)))
          have p2 := hide (HR.out.over.skip HX.out (decide_eq_false (by omega)))
          clear hcs
          go_wp2_with (first | (at_builtin; refine wpList_append_own_wide _ rfl (.tmp 46) (.tmp 55) 59 rfl w3.heap.size 22 i0 (.int .u64 0) 1 8 Try.underlying59 hi0 hz0 hz1 hz2 rfl (by decide) u9 k ((xs.reverse.take k).map encU) rfl (HOW.out _) ⟨wr.heap.size, 0, none⟩ 1 1 [.int .u64 (u : Int)] rfl rfl (cells_newK _ _ _) (by simp [Value.oneCell']) (by unfold maxLen; omega) (by omega) (by have := HSZ.out; simp; omega) ?_; intro v' w5 ho hg _; obtain ⟨g', cap', rfl⟩ := ownsRow_succ ho; obtain ⟨y2, y3, NX⟩ := HNX.out _ _ _ _ ho hg; clear ho hg HNX HOW y0 y1 hbl))
          go_roundw
          case rel => exact ⟨k + 1, S, T, by omega, rfl, rfl, by go_num, NX.out _ _ (p1.out) (p2.out)⟩
          case measure => simp [intOf]; omega
        · skip
          have d1 : m ≤ x := by omega
          have d2 : ¬ m < x := by omega
          have p1 := hide (HR.out.at_.put h32 HX.out (decide_eq_true (by omega)))
          have p2 := hide (HR.out.over.skip HX.out (decide_eq_false (by omega)))
          clear hcs
          go_wp2_with (first | (at_builtin; refine wpList_append_own_wide _ rfl (.tmp 46) (.tmp 55) 59 rfl w3.heap.size 22 i0 (.int .u64 0) 1 8 Try.underlying59 hi0 hz0 hz1 hz2 rfl (by decide) u9 k ((xs.reverse.take k).map encU) rfl (HOW.out _) ⟨wr.heap.size, 0, none⟩ 1 1 [.int .u64 (u : Int)] rfl rfl (cells_newK _ _ _) (by simp [Value.oneCell']) (by unfold maxLen; omega) (by omega) (by have := HSZ.out; simp; omega) ?_; intro v' w5 ho hg _; obtain ⟨g', cap', rfl⟩ := ownsRow_succ ho; obtain ⟨y2, y3, NX⟩ := HNX.out _ _ _ _ ho hg; clear ho hg HNX HOW y0 y1 hbl) | (go_at_call 13; refine (HWT.out _ S hSl _).mono ?_; rintro e w' ⟨rfl, rfl⟩))
          go_roundw
          case rel => exact ⟨k + 1, withB S k, T, by omega, rfl, rfl, by go_num, NX.out _ _ (p1.out) (p2.out)⟩
          case measure => simp [intOf]; omega
        · skip
          have d1 : m ≤ x := by omega
          have d2 : m < x := by omega
          have p1 := hide (HR.out.at_.put h32 HX.out (decide_eq_true (by omega)))
          have p2 := hide (HR.out.over.put h32 HX.out (decide_eq_true (by omega)))
          clear hcs
          go_wp2_with (first | (at_builtin; refine wpList_append_own_wide _ rfl (.tmp 46) (.tmp 55) 59 rfl w3.heap.size 22 i0 (.int .u64 0) 1 8 Try.underlying59 hi0 hz0 hz1 hz2 rfl (by decide) u9 k ((xs.reverse.take k).map encU) rfl (HOW.out _) ⟨wr.heap.size, 0, none⟩ 1 1 [.int .u64 (u : Int)] rfl rfl (cells_newK _ _ _) (by simp [Value.oneCell']) (by unfold maxLen; omega) (by omega) (by have := HSZ.out; simp; omega) ?_; intro v' w5 ho hg _; obtain ⟨g', cap', rfl⟩ := ownsRow_succ ho; obtain ⟨y2, y3, NX⟩ := HNX.out _ _ _ _ ho hg; clear ho hg HNX HOW y0 y1 hbl))
          refine (HWT.out _ S hSl _).mono ?_
          rintro e w6 ⟨rfl, rfl⟩
          go_wp2_with fail
          refine (HWT.out _ T hTl _).mono ?_
          rintro e w7 ⟨rfl, rfl⟩
          go_wp2
          go_roundw
          case rel => exact ⟨k + 1, withB S k, withB T k, by omega, rfl, rfl, by go_num, NX.out _ _ (p1.out) (p2.out)⟩
          case measure => simp [intOf]; omega
      · obtain rfl : k = n := by omega
        obtain ⟨g', cap', rfl, hbg, hrow⟩ := rowU_of (xs := xs.reverse) (base := w3.heap.size) (W := wr) (v := u9) (by
          have hr := HR.out.row
          rw [List.take_of_length_le (by rw [List.length_reverse, HN.out]; omega)] at hr
          rw [List.length_reverse, HN.out]
          exact hr) (by rw [List.length_reverse, HN.out, HLN.out]; omega)
        rw [List.length_reverse, HN.out]
        have hgl := hrow.lt
        have hU5 : Us wr g' 0 xs.reverse := fun i x hi => by rw [Nat.zero_add]; exact hrow.cell hi
        have HMK : Hid (Calls Try.prog 27 #[.slice (some ⟨g', 0, none⟩) k cap', .int .i64 ((fn : Int) + 1)] wr fun e w' => ∃ m' : Nat, e = .returned (.tuple #[.int .u64 (m' : Int), .nilIface]) ∧ Hid (∃ ys : List Nat, ys.Pairwise (· ≤ ·) ∧ ys.Perm xs.reverse ∧ ys[k - (fn + 1)]? = some m' ∧ Below wr.heap.size wr w')) := by
          have e : (fn : Int) + 1 = ((fn + 1 : Nat) : Int) := by omega
          rw [e]
          exact mark_few (some ⟨g', 0, none⟩) k cap' g' 0 (fn + 1) xs.reverse (by rw [List.length_reverse]; exact HN.out) hn12 (by omega) (by have := HLN.out; omega) wr (fun _ => rfl) (fun _ => hgl) hU5
        have P5 := hide (P3.out.kept HR.out.bel)
        have B5 := hide (B3.out.trans (HR.out.bel.mono B3.out.size))
        have HCN := hide (kth_counts HY.out.1 (HY.out.2.1.length_eq.trans HN.out) (by omega) (by have := HLN.out; omega) HY.out.2.2)
        have hl1 : ((xs.length : Nat) : Int) = 2 * (fn : Int) + 1 := by rw [HN.out, HLN.out]; omega
        have hA := HR.out.at_
        have hO := HR.out.over
        rw [← HN.out] at hA hO
        have HA1 : Hid (c.maj S = true) := by
          show _ = _
          rw [HPM.out _ S hA hl1, ← HY.out.2.1.countP_eq]
          exact decide_eq_true (by have := HCN.out.1; omega)
        have HO1 : Hid (c.maj T = false) := by
          show _ = _
          rw [HPM.out _ T hO hl1, ← HY.out.2.1.countP_eq]
          exact decide_eq_false (by have := HCN.out.2; omega)
        have hSl := HR.out.at_.lt
        have hTl := HR.out.over.lt
        clear hrow hgl hU5 hbg hA hO hl1 HCN HR
        go_wp2_with fail
        refine (HQR.out _ _ P5.out).mono ?_
        rintro e w6 ⟨rfl, rfl⟩
        go_wp2_with fail
        refine HMK.out.mono ?_
        rintro e w7 ⟨m', rfl, G7⟩
        obtain ⟨zs, hz1, hz2, hz3, hb7⟩ := G7.out
        have hmm : m' = m := by
          have e := sorted_unique hz1 HY.out.1 (hz2.trans ((List.reverse_perm xs).trans HY.out.2.1.symm))
          rw [e, HY.out.2.2] at hz3
          exact (Option.some.inj hz3).symm
        subst hmm
        have P7 := hide (P5.out.kept hb7)
        have B7 := hide (B5.out.trans (hb7.mono B5.out.size))
        clear G7 hz1 hz2 hz3 hb7 HMK
        have HM1 := hide (HMJ.out w7 _ S hSl P7.out)
        rw [HA1.out] at HM1
        go_wp2_with fail
        refine HM1.out.mono ?_
        rintro e w8 ⟨rfl, b8⟩
        have P8 := hide (P7.out.kept b8)
        have B8 := hide (B7.out.trans (b8.mono B7.out.size))
        have HM2 := hide (HMJ.out w8 _ T hTl P8.out)
        rw [HO1.out] at HM2
        clear b8
        go_wp2_with fail
        refine HM2.out.mono ?_
        rintro e w9 ⟨rfl, b9⟩
        have B9 := hide (B8.out.trans (b9.mono B8.out.size))
        clear b9
        go_wp2
        go_ret
        exact ⟨rfl, B9.out⟩
  · have d0 : ((n : Int) != 2 * (fn : Int) + 1) = true := by simp; omega
    clear hn
    go_wp2
    go_ret
    exact ⟨rfl, B2.out⟩
theorem reach_walk (c : Cf) (hin : c.In) {ao : Option Addr} {xs : List Nat} {b off : Nat} (n cap : Nat) (hn : xs.length = n) (w : World) (had : 0 < xs.length → ao = some ⟨b, off, none⟩) (hbw : 0 < xs.length → b < w.heap.size) (hU : Us w b off xs) :
    Calls Try.prog 6 #[.agg c.cells, .slice ao n cap] w fun e w' => e = .returned (.bool true) ∧ Below w.heap.size w w' := by
  rcases badOf_cases c with hk | ⟨k, hk⟩
  · exact reach_ok c (cf_ok hk) n cap hn w had hbw hU (fun W => madeLaw_ok c hin hk W)
  · exact reach_bad c _ w (fun W => (madeLaw_bad c hin k hk W).mono fun _ _ h => ⟨h.1, h.2⟩)
end Go.Proofs.Ythfiafjhnidlkaa
