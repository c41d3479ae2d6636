import Derived.Test.YtcfenjpdjogmdaaLT06
import Derived.Test.YtcfenjpdjogmdaaLT07
import Derived.Test.YtcfenjpdjogmdaaLT15
import Derived.Test.YtcfenjpdjogmdaaLT18
namespace Go.Proofs.Ytcfenjpdjogmdaa
open Go.RowKit Go.Shelf
attribute [local go_sem] Oper.semAt_some

set_option maxRecDepth 100000 in
set_option maxHeartbeats 4000000 in
theorem appendKeys_any (Bn b nn : Nat) (D0 : DataW Value) (hxl : Maps.size D0 ≤ 1000000) (w : World) (hBn : Bn < w.heap.size) (hc : w.cell? ⟨Bn, 0, none⟩ = some (.map (some b))) (hown : w.ownsMap Try.prog 25 RV b nn D0) :
    Calls Try.prog 80 #[.slice none 0 0, .func (.func 71) #[] #[.pointer (some ⟨Bn, 0, none⟩)]] w fun e w' => ∃ v, e = .returned v ∧ Hid (∃ xs, KeysU D0 xs ∧ w'.ownsRow w.heap.size 25 1 v xs.length (xs.map encU) ∧ Below w.heap.size w w') := by
  obtain ⟨i0, hi0, hz0, hz1, hz2⟩ := info_parts infoU64
  refine (callsIn_wide (n := 3)).1 ?_
  refine callsIn_of_wp_marks Try.func80 rfl trivial ?_ rfl
  simp only [Try.ntmps80, List.size_toArray, List.length_cons, List.length_nil, Nat.reduceAdd, Nat.reduceSub, Array.replicate_succ, Array.replicate_zero, List.push_toArray, List.append_toArray, List.nil_append, List.cons_append]
  obtain ⟨W1, hW1⟩ : ∃ W1, w.alloc (.cells #[.slice none 0 0] 110) = W1 := ⟨_, rfl⟩
  have b1 : Below w.heap.size w W1 := by rw [← hW1]; exact (Below.refl _ w).alloc (Nat.le_refl _) _
  have C1 : W1.heap[w.heap.size]? = some (.cells #[.slice none 0 0] 110 (0, 0)) := by rw [← hW1]; exact alloc_atK _ _
  have s1 : W1.heap.size = w.heap.size + 1 := by rw [← hW1]; simp
  have hs := keysU_stops (3 - 1) (by omega) Bn b nn D0 W1 (by omega) ((b1.cell (p := ⟨Bn, 0, none⟩) hBn).trans hc) (hown.kept (row := none) (below_none b1) (by simp))
  have A0 : AQ w w.heap.size [] W1 := ⟨⟨_, C1, ⟨rfl, .inl ⟨rfl, rfl⟩⟩⟩, b1⟩
  have HW1 := hide hW1
  clear hW1
  gi_wp2
  rw [HW1.out]
  refine wpIn_rangeFunc_ownF rfl (by omega) (gf := 71) (lb := #[.pointer (some ⟨Bn, 0, none⟩)]) rfl trivial (enters_of Try.func71 (by kernel_rfl) rfl)
    hs walksK_t walksK_b (Below.refl _ _) (fun _ => rfl) (AQ w w.heap.size) (fun _ _ _ => False) (fun pre A B row h hg hr => h.grown hg (fun r e => ⟨by have := (hr r e).1; omega, (hr r e).2⟩)) (fun _ _ _ _ _ h _ _ => h) A0
    (fun x => { tmps := #[.slice none 0 0, .func (.func 71) #[] #[.pointer (some ⟨Bn, 0, none⟩)], .pointer (some ⟨w.heap.size, 0, none⟩), undef, .slice none 0 0, .int .u64 (x : Int), .func (.func 71) #[] #[.pointer (some ⟨Bn, 0, none⟩)], .int .u64 (x : Int), undef, undef, undef, undef, undef], defers := [] }) ?assign ?body ?done ?stop
  case assign =>
    intro l x W K hK
    gi_wp2
    exact hK
  case body =>
    intro l pre x W hI hpl
    obtain ⟨v, hv, hrow⟩ := hI.bx
    have x0 := block_cell hv 0
    simp at x0
    have hplx : pre.length < 1000000 := by omega
    have HOW : Hid (∀ o, (W.alloc o).ownsRow w.heap.size 25 1 v pre.length (pre.map encU)) := fun o => row_quietT hrow (World.grownBy_alloc _ _ none)
    have HBW : Hid (w.heap.size ≤ W.heap.size) := hI.bel.size
    have HNX : Hid (∀ (g' cap' : Nat) (w2 : World) (o : Obj), w2.ownsRow w.heap.size 25 1 (.slice (some ⟨g', 0, none⟩) (pre.length + 1) cap') (pre.length + 1) (pre.map encU ++ [.int .u64 (x : Int)]) → (W.alloc o).grownBy w2 v.ownBlock →
        w2.cell? ⟨w.heap.size, 0, none⟩ = some v ∧ w2.frozen? ⟨w.heap.size, 0, none⟩ = false ∧ w.heap.size < w2.heap.size ∧ Hid (KeepsOthers W (w2.setCell ⟨w.heap.size, 0, none⟩ (.slice (some ⟨g', 0, none⟩) (pre.length + 1) cap')) ∧ KeepsWalks W (w2.setCell ⟨w.heap.size, 0, none⟩ (.slice (some ⟨g', 0, none⟩) (pre.length + 1) cap')) ∧ AQ w w.heap.size (pre ++ [x]) (w2.setCell ⟨w.heap.size, 0, none⟩ (.slice (some ⟨g', 0, none⟩) (pre.length + 1) cap')))) := fun g' cap' w2 o ho hg => by
      have ga := World.grownBy_alloc W o none
      have row1 := row_quietT hrow ga
      have v1 := (ga.block _ (block_lt hv) (by simp)).trans hv
      have v2 := (hg.block _ (block_lt v1) (fun e => row_boxU row1 v1 e.symm)).trans v1
      have bel1 := hI.bel.grown ga hI.bel.size (fun k e => by cases e)
      have bel2 := bel1.grown hg bel1.size (fun k e => (row1.lt k e).1)
      have k1 : KeepsOthers W w2 := (KeepsOthers.alloc W o).trans (KeepsOthers.of_grownBy hg (fun j ob e hj => by
        rcases row1.2 with ⟨rfl, _⟩ | ⟨g1, c1, cur, rfl, _, hb1, _⟩
        · cases e
        · cases e
          rw [hb1] at hj
          cases hj
          rfl))
      have hsz : (pre ++ [x]).length = pre.length + 1 := by simp
      have hmp : (pre ++ [x]).map encU = pre.map encU ++ [.int .u64 (x : Int)] := by simp [encU]
      refine ⟨block_cell v2 0, block_free v2 0, block_lt v2, k1.trans (KeepsOthers.setCell _ _ _), (k1.trans (KeepsOthers.setCell _ _ _)).walks, ⟨⟨_, heap_setCell_same w2 w.heap.size 0 _ _ _ v2, ?_⟩, bel2.setCell (p := ⟨w.heap.size, 0, none⟩) (Nat.le_refl _) _⟩⟩
      · rw [hsz, hmp]
        exact ho.kept (grown_set w2 w.heap.size 0 _) (.inr (row_boxU ho v2))
    clear hI hv hrow hc hown hs A0 C1 b1
    gi_wp2_with (gi_at_builtin; refine wpListIn_append_own _ rfl _ _ 110 rfl w.heap.size 25 i0 (.int .u64 0) 1 8 Try.underlying110 hi0 hz0 hz1 hz2 rfl (by decide) v pre.length (pre.map encU) rfl (HOW.out _) ⟨W.heap.size, 0, none⟩ 1 1 [.int .u64 (x : Int)] rfl rfl (cells_newK _ _ _) (by simp [Value.oneCell']) (by unfold maxLen; omega) (by omega) (by have := HBW.out; simp; omega) ?_; intro v' w2 ho hg _; obtain ⟨g', cap', rfl⟩ := ownsRow_succ ho; obtain ⟨q1, q2, q3, FIN⟩ := HNX.out _ _ _ _ ho hg; clear ho hg HNX HOW)
    exact FIN.out
  case done =>
    rintro D ys W hD hKU hI hK
    have HKU := hide hKU
    clear hKU
    obtain ⟨v, hv, hrow⟩ := hI.bx
    have x0 := block_cell hv 0
    simp at x0
    have HR := hide hrow
    have HB := hide hI.bel
    clear hI hv hrow hc hown hs A0 C1 b1
    gi_wp2
    refine ⟨by simp, .inl ⟨_, _, rfl, run_takeDeferred hK, ?_⟩⟩
    refine ⟨_, results_tmp rfl _ _ _, v, rfl, ys, HKU.out, ownsRow_abides HR.out (grownBy_putObj' W D _) (fun r e => by cases e; exact ⟨_, hK, rfl⟩), HB.out.trans (belowK_b (w := w) (Nat.le_refl _) W D _ _ (by omega) hK rfl rfl)⟩
  case stop =>
    rintro D c pre W _ _ h _
    exact h.elim
end Go.Proofs.Ytcfenjpdjogmdaa
namespace Go.Proofs.Ytcfenjpdjogmdaa
open Go.RowKit

set_option maxRecDepth 10000 in
set_option maxHeartbeats 800000 in
theorem collectKeys_any (Bn b nn : Nat) (D0 : DataW Value) (hxl : Maps.size D0 ≤ 1000000) (w : World) (hBn : Bn < w.heap.size) (hc : w.cell? ⟨Bn, 0, none⟩ = some (.map (some b))) (hown : w.ownsMap Try.prog 25 RV b nn D0) :
    Calls Try.prog 69 #[.func (.func 71) #[] #[.pointer (some ⟨Bn, 0, none⟩)]] w fun e w' => ∃ v, e = .returned v ∧ Hid (∃ xs, KeysU D0 xs ∧ w'.ownsRow w.heap.size 25 1 v xs.length (xs.map encU) ∧ Below w.heap.size w w') := by
  have HA := hide (appendKeys_any Bn b nn D0 hxl w hBn hc hown)
  clear hc hown
  go_enter Try.func69, Try.ntmps69
  go_wp2_with fail
  refine HA.out.mono ?_
  rintro e w2 ⟨v, rfl, G2⟩
  go_wp2
  go_ret
  exact ⟨v, rfl, G2⟩
theorem rowF_of {base : Nat} {W : World} {v : Value} {xs : List Nat} (h : W.ownsRow base 25 1 v xs.length (xs.map encU)) (hp : 0 < xs.length) : ∃ g cap, v = .slice (some ⟨g, 0, none⟩) xs.length cap ∧ base ≤ g ∧ RowF W g cap xs.length (fun i => xs.getD i 0) := by
  rcases h.2 with ⟨_, h0⟩ | ⟨g, cap, cur, rfl, hbg, hg, hnc, hcm, hcs, htake⟩
  · omega
  · refine ⟨g, cap, rfl, hbg, cur, hg, by omega, hnc, fun i hi => ?_⟩
    have h1 : (xs.map encU)[i]? = some (encU (xs.getD i 0)) := by rw [List.getElem?_map, List.getElem?_eq_getElem hi, List.getD_eq_getElem?_getD, List.getElem?_eq_getElem hi]; rfl
    rw [← htake, List.getElem?_take_of_lt (by omega)] at h1
    simpa [encU] using h1
theorem range_getD (xs : List Nat) : (List.range xs.length).map (fun i => xs.getD i 0) = xs := by
  apply List.ext_getElem?
  intro i
  by_cases h : i < xs.length
  · rw [List.getElem?_map, List.getElem?_range h, List.getElem?_eq_getElem h]
    simp only [Option.map_some, List.getD_eq_getElem?_getD, List.getElem?_eq_getElem h, Option.getD_some]
  · rw [List.getElem?_eq_none (by simp; omega), List.getElem?_eq_none (by omega)]
/-- The map's keys, rising. -/
def KeysUp (D0 : DataW Value) (ks : List Nat) : Prop := ks.Pairwise (· < ·) ∧ (∀ x ∈ ks, x < 18446744073709551616) ∧ ∀ x, x < 18446744073709551616 → (x ∈ ks ↔ Maps.has D0 (kU x) = true)
theorem KeysU.up {D0 : DataW Value} {xs ks : List Nat} (h : KeysU D0 xs) (hs : ks.Pairwise (· ≤ ·)) (hp : ks.Perm xs) : KeysUp D0 ks := by
  refine ⟨?_, fun x hx => h.2.1 x (hp.subset hx), fun x hx => by rw [hp.mem_iff]; exact h.2.2 x hx⟩
  have hn : ks.Nodup := hp.nodup_iff.2 h.1
  have := hs.and hn
  exact this.imp (fun ⟨a, b⟩ => Nat.lt_of_le_of_ne a b)
set_option maxRecDepth 10000 in
set_option maxHeartbeats 800000 in
/-- Sorted: the keys, rising. -/
theorem sortedKeys_any (Bn b nn : Nat) (D0 : DataW Value) (hxl : ∀ xs, KeysU D0 xs → xs.length < 256) (hsz : Maps.size D0 ≤ 1000000) (w : World) (hBn : Bn < w.heap.size) (hc : w.cell? ⟨Bn, 0, none⟩ = some (.map (some b))) (hown : w.ownsMap Try.prog 25 RV b nn D0) :
    Calls Try.prog 54 #[.func (.func 71) #[] #[.pointer (some ⟨Bn, 0, none⟩)]] w fun e w' => ∃ ao n cap, e = .returned (.slice ao n cap) ∧ Hid (∃ ks b, KeysUp D0 ks ∧ ks.length = n ∧ n < 256 ∧ (0 < n → ao = some ⟨b, 0, none⟩ ∧ b < w'.heap.size ∧ w.heap.size ≤ b) ∧ (∀ i x, ks[i]? = some x → w'.cell? ⟨b, i, none⟩ = some (.int .u64 (x : Nat))) ∧ Below w.heap.size w w') := by
  have HC := hide (collectKeys_any Bn b nn D0 hsz w hBn hc hown)
  clear hc hown
  go_enter Try.func54, Try.ntmps54
  go_wp2_with fail
  refine HC.out.mono ?_
  rintro e w2 ⟨v, rfl, G2⟩
  obtain ⟨xs, hk, hrow, hb2⟩ := G2.out
  have hl := hxl xs hk
  clear HC G2
  by_cases h0 : 0 < xs.length
  · obtain ⟨g, cap', rfl, hbg, hr⟩ := rowF_of hrow h0
    have HS := hide (sortZ w.heap.size g cap' xs.length _ h0 hl w2 hr hbg)
    have HB2 := hide hb2
    have HK := hide hk
    have HL := hide hl
    have HBG := hide hbg
    clear hr hrow hb2 hk hl hbg
    go_wp2_with fail
    refine HS.out.mono ?_
    rintro e w3 ⟨rfl, G3⟩
    go_wp2
    go_ret
    obtain ⟨D, h1, h2⟩ := G3.out
    have hp := h2.perm.perm (Nat.le_refl _)
    rw [range_getD] at hp
    refine ⟨_, _, _, rfl, (List.range xs.length).map D, g, HK.out.up h1.list hp, by simp, HL.out, fun _ => ⟨rfl, h2.row.lt, HBG.out⟩, fun i x hi => ?_, HB2.out.trans h2.bel⟩
    have hil : i < xs.length := by have := (List.getElem?_eq_some_iff.1 hi).1; simpa using this
    rw [List.getElem?_map, List.getElem?_range hil] at hi
    cases hi
    exact h2.row.cell hil
  · have hx : xs = [] := by cases xs; rfl; simp at h0
    subst hx
    have HB2 := hide hb2
    have HK := hide hk
    obtain ⟨ao, cap, rfl⟩ : ∃ ao cap, v = .slice ao 0 cap := by
      rcases hrow.2 with ⟨h, _⟩ | ⟨g, cap, cur, h, _⟩
      · exact ⟨_, _, h⟩
      · exact ⟨_, _, h⟩
    have HS := hide (sort_none ao cap w2)
    clear hrow hb2 hk hl h0
    go_wp2_with fail
    refine HS.out.mono ?_
    rintro e w3 ⟨rfl, rfl⟩
    go_wp2
    go_ret
    exact ⟨_, _, _, rfl, [], 0, HK.out.up List.Pairwise.nil (List.Perm.refl _), rfl, by omega, fun h => absurd h (by omega), fun i x hi => by simp at hi, HB2.out⟩
end Go.Proofs.Ytcfenjpdjogmdaa
namespace Go.Proofs.Ytcfenjpdjogmdaa
open Go.RowKit
open Go.RowKit Go.Shelf
attribute [local go_sem] Oper.semAt_some

set_option maxRecDepth 100000 in
set_option maxHeartbeats 2000000 in
theorem keysH1_in (n : Nat) (hn : 1 ≤ n) (l Bm b nn : Nat) (D0 : DataW Value) (J Jx : List Nat → World → Prop)
    (hY : ∀ pre x W, J pre W → pre.length < Maps.size D0 → YieldAt Fence.wide (n - 1) Try.prog l #[.int .u64 (x : Nat)] W fun e W' =>
      (e = .returned (.bool true) ∧ J (pre ++ [x]) W' ∧ KeepsWalks W W') ∨ (e = .returned (.bool false) ∧ Jx (pre ++ [x]) W'))
    (W : World) (hJ : AbidesFrom W.heap.size J) (hm : W.cell? ⟨Bm, 0, none⟩ = some (.map (some b))) (hown : W.ownsMap Try.prog 25 RV b nn D0) (h0 : J [] W) :
    CallsIn Fence.wide n Try.prog 72 #[.func (.yield l) #[] #[], .pointer (some ⟨Bm, 0, none⟩)] W fun e W' => (∃ v, e = .returned v) ∧
      ((∃ ss, KeysU D0 ss ∧ J ss W') ∨ (∃ pre, True ∧ Jx pre W')) := by
  refine callsIn_of_wp Try.func72 rfl trivial ?_ rfl
  simp only [Try.ntmps72, List.size_toArray, List.length_cons, List.length_nil, Nat.reduceAdd, Nat.reduceSub, Array.replicate_succ, Array.replicate_zero, List.push_toArray, List.append_toArray, List.nil_append, List.cons_append]
  gi_wp2_with (first
    | (gi_at_range; refine wpListIn_range_own _ rfl _ 66 rfl 25 83 KD Try.underlying66 RV b nn _ rfl hown ?_; intro w0 hrg0 hg0 hs0)
    | gi_in)
  go_frame
  gi_loopw [3] (fun _ wr => ∃ (left : Lit → Bool) (cnt : Nat) (ss : List Nat), wr.ranges Try.prog 25 RV b W.heap.size nn D0 left cnt ∧ ss.length + cnt ≤ Maps.size D0 ∧ CollU D0 left ss ∧ J ss wr)
    (fun _ wr => wr.rangeLeft b W.heap.size)
  case atStart =>
    exact ⟨_, _, [], hrg0, by simp, CollU.start D0, hJ [] W w0 none h0 hg0 (fun r e => by cases e)⟩
  case round =>
    obtain ⟨left, cnt, ss, hrg, hcs, hC, hJs⟩ := hrel
    gi_wp2_with (first
      | (gi_at_next; refine wpListIn_next_ranges _ rfl _ rfl 25 KD RV (Value.int .u64) (id : Value → Value) (fun key kl hkey => by obtain ⟨x, rfl, _⟩ := Maps.keyOf_int_inv Try.underlying25 hkey; exact ⟨x, rfl⟩) (fun v _ _ => ⟨v, rfl⟩) b W.heap.size nn _ _ _ rfl hrg ?_ ?_)
      | gi_in)
    · intro hc0 hl0
      gi_wp2
      go_end0
      exact ⟨⟨_, rfl⟩, .inl ⟨ss, hC.all hl0, hJs⟩⟩
    · intro x c kl yd yp w2 cnt2 hkey hlk hv hat hrg2 hlt hg2 hs2 hen
      obtain ⟨x', ex, rfl, hwx⟩ := Maps.keyOf_int_inv Try.underlying25 hkey
      cases ex
      obtain ⟨xn, rfl, hxn⟩ : ∃ xn : Nat, x = (xn : Int) ∧ xn < 18446744073709551616 := ⟨x.toNat, by simp [Lit.wf, IntKind.min, IntKind.max, IntKind.bits, IntKind.signed] at hwx; omega, by simp [Lit.wf, IntKind.min, IntKind.max, IntKind.bits, IntKind.signed] at hwx; omega⟩
      have hJ2 : J ss w2 := hJ ss wr w2 (some W.heap.size) hJs hg2 (fun r e => by cases e; exact ⟨Nat.le_refl _, hrg.iter_walk⟩)
      obtain ⟨fn, tmps, assign, body, hy, hR⟩ := hY ss xn w2 hJ2 (by omega)
      have hC2 := hide (hC.step hxn hlk hat)
      have HRG2 := hide hrg2
      have HRG := hide hrg
      have HCS := hide hcs
      have HLT := hide hlt
      clear hs2 hwx hxn hkey hlk hv hat hrg2 hlt hg2 hC hJs hJ2 hrg hcs
      gi_wp2
      refine hR.mono ?_
      rintro e W3 (⟨rfl, hJ3, hk3⟩ | ⟨rfl, hJx3⟩)
      · gi_wp2
        have hrg3 := HRG2.out.of_walks hk3
        go_roundw
        case rel => exact ⟨_, cnt2, ss ++ [xn], hrg3, by have := HCS.out; have := HLT.out; simp; omega, hC2.out, hJ3⟩
        case measure => rw [hrg3.left_eq, HRG.out.left_eq]; exact HLT.out
      · gi_wp2
        refine bodyPost_ret (results_none rfl _ _ _) rfl ?_
        exact ⟨⟨_, rfl⟩, .inr ⟨ss ++ [xn], trivial, hJx3⟩⟩
set_option maxRecDepth 10000 in
theorem keysUH_any (mb : Option Nat) (w : World) : Calls Try.prog 56 #[.map mb] w fun e w' => e = .returned (.func (.func 72) #[] #[.pointer (some ⟨w.heap.size, 0, none⟩)]) ∧ w' = w.alloc (.cells #[.map mb] 66) := by
  go_enter Try.func56, Try.ntmps56
  go_wp2
  go_ret
  exact ⟨rfl, rfl⟩
theorem keysUH_stops (n : Nat) (hn : 1 ≤ n) (Bm b nn : Nat) (D0 : DataW Value) (w : World) (hBm : Bm < w.heap.size) (hm : w.cell? ⟨Bm, 0, none⟩ = some (.map (some b))) (hown : w.ownsMap Try.prog 25 RV b nn D0) :
    SeqStopsK Fence.wide n Try.prog 72 #[.pointer (some ⟨Bm, 0, none⟩)] (fun x : Nat => #[Value.int .u64 (x : Int)]) KeepsWalks (KeysU D0) (fun _ => True) (Maps.size D0) w := fun l J Jx W hW hJ _ hY h0 => by
  have hown' : W.ownsMap Try.prog 25 RV b nn D0 := by
    have hbl := hown.lt
    obtain ⟨es, clock, hb, Ft, hs, hD⟩ := hown
    exact ⟨es, clock, (hW.block b hbl).trans hb, Ft, hs, hD⟩
  exact keysH1_in n hn l Bm b nn D0 J Jx hY W hJ ((hW.cell (p := ⟨Bm, 0, none⟩) hBm).trans hm) hown' h0
set_option maxRecDepth 100000 in
set_option maxHeartbeats 4000000 in
theorem appendKeysH_any (Bn b nn : Nat) (D0 : DataW Value) (hxl : Maps.size D0 ≤ 1000000) (w : World) (hBn : Bn < w.heap.size) (hc : w.cell? ⟨Bn, 0, none⟩ = some (.map (some b))) (hown : w.ownsMap Try.prog 25 RV b nn D0) :
    Calls Try.prog 80 #[.slice none 0 0, .func (.func 72) #[] #[.pointer (some ⟨Bn, 0, none⟩)]] w fun e w' => ∃ v, e = .returned v ∧ Hid (∃ xs, KeysU D0 xs ∧ w'.ownsRow w.heap.size 25 1 v xs.length (xs.map encU) ∧ Below w.heap.size w w') := by
  obtain ⟨i0, hi0, hz0, hz1, hz2⟩ := info_parts infoU64
  refine (callsIn_wide (n := 3)).1 ?_
  refine callsIn_of_wp_marks Try.func80 rfl trivial ?_ rfl
  simp only [Try.ntmps80, List.size_toArray, List.length_cons, List.length_nil, Nat.reduceAdd, Nat.reduceSub, Array.replicate_succ, Array.replicate_zero, List.push_toArray, List.append_toArray, List.nil_append, List.cons_append]
  obtain ⟨W1, hW1⟩ : ∃ W1, w.alloc (.cells #[.slice none 0 0] 110) = W1 := ⟨_, rfl⟩
  have b1 : Below w.heap.size w W1 := by rw [← hW1]; exact (Below.refl _ w).alloc (Nat.le_refl _) _
  have C1 : W1.heap[w.heap.size]? = some (.cells #[.slice none 0 0] 110 (0, 0)) := by rw [← hW1]; exact alloc_atK _ _
  have s1 : W1.heap.size = w.heap.size + 1 := by rw [← hW1]; simp
  have hs := keysUH_stops (3 - 1) (by omega) Bn b nn D0 W1 (by omega) ((b1.cell (p := ⟨Bn, 0, none⟩) hBn).trans hc) (hown.kept (row := none) (below_none b1) (by simp))
  have A0 : AQ w w.heap.size [] W1 := ⟨⟨_, C1, ⟨rfl, .inl ⟨rfl, rfl⟩⟩⟩, b1⟩
  have HW1 := hide hW1
  clear hW1
  gi_wp2
  rw [HW1.out]
  refine wpIn_rangeFunc_ownF rfl (by omega) (gf := 72) (lb := #[.pointer (some ⟨Bn, 0, none⟩)]) rfl trivial (enters_of Try.func72 (by kernel_rfl) rfl)
    hs walksK_t walksK_b (Below.refl _ _) (fun _ => rfl) (AQ w w.heap.size) (fun _ _ _ => False) (fun pre A B row h hg hr => h.grown hg (fun r e => ⟨by have := (hr r e).1; omega, (hr r e).2⟩)) (fun _ _ _ _ _ h _ _ => h) A0
    (fun x => { tmps := #[.slice none 0 0, .func (.func 72) #[] #[.pointer (some ⟨Bn, 0, none⟩)], .pointer (some ⟨w.heap.size, 0, none⟩), undef, .slice none 0 0, .int .u64 (x : Int), .func (.func 72) #[] #[.pointer (some ⟨Bn, 0, none⟩)], .int .u64 (x : Int), undef, undef, undef, undef, undef], defers := [] }) ?assign ?body ?done ?stop
  case assign =>
    intro l x W K hK
    gi_wp2
    exact hK
  case body =>
    intro l pre x W hI hpl
    obtain ⟨v, hv, hrow⟩ := hI.bx
    have x0 := block_cell hv 0
    simp at x0
    have hplx : pre.length < 1000000 := by omega
    have HOW : Hid (∀ o, (W.alloc o).ownsRow w.heap.size 25 1 v pre.length (pre.map encU)) := fun o => row_quietT hrow (World.grownBy_alloc _ _ none)
    have HBW : Hid (w.heap.size ≤ W.heap.size) := hI.bel.size
    have HNX : Hid (∀ (g' cap' : Nat) (w2 : World) (o : Obj), w2.ownsRow w.heap.size 25 1 (.slice (some ⟨g', 0, none⟩) (pre.length + 1) cap') (pre.length + 1) (pre.map encU ++ [.int .u64 (x : Int)]) → (W.alloc o).grownBy w2 v.ownBlock →
        w2.cell? ⟨w.heap.size, 0, none⟩ = some v ∧ w2.frozen? ⟨w.heap.size, 0, none⟩ = false ∧ w.heap.size < w2.heap.size ∧ Hid (KeepsOthers W (w2.setCell ⟨w.heap.size, 0, none⟩ (.slice (some ⟨g', 0, none⟩) (pre.length + 1) cap')) ∧ KeepsWalks W (w2.setCell ⟨w.heap.size, 0, none⟩ (.slice (some ⟨g', 0, none⟩) (pre.length + 1) cap')) ∧ AQ w w.heap.size (pre ++ [x]) (w2.setCell ⟨w.heap.size, 0, none⟩ (.slice (some ⟨g', 0, none⟩) (pre.length + 1) cap')))) := fun g' cap' w2 o ho hg => by
      have ga := World.grownBy_alloc W o none
      have row1 := row_quietT hrow ga
      have v1 := (ga.block _ (block_lt hv) (by simp)).trans hv
      have v2 := (hg.block _ (block_lt v1) (fun e => row_boxU row1 v1 e.symm)).trans v1
      have bel1 := hI.bel.grown ga hI.bel.size (fun k e => by cases e)
      have bel2 := bel1.grown hg bel1.size (fun k e => (row1.lt k e).1)
      have k1 : KeepsOthers W w2 := (KeepsOthers.alloc W o).trans (KeepsOthers.of_grownBy hg (fun j ob e hj => by
        rcases row1.2 with ⟨rfl, _⟩ | ⟨g1, c1, cur, rfl, _, hb1, _⟩
        · cases e
        · cases e
          rw [hb1] at hj
          cases hj
          rfl))
      have hsz : (pre ++ [x]).length = pre.length + 1 := by simp
      have hmp : (pre ++ [x]).map encU = pre.map encU ++ [.int .u64 (x : Int)] := by simp [encU]
      refine ⟨block_cell v2 0, block_free v2 0, block_lt v2, k1.trans (KeepsOthers.setCell _ _ _), (k1.trans (KeepsOthers.setCell _ _ _)).walks, ⟨⟨_, heap_setCell_same w2 w.heap.size 0 _ _ _ v2, ?_⟩, bel2.setCell (p := ⟨w.heap.size, 0, none⟩) (Nat.le_refl _) _⟩⟩
      · rw [hsz, hmp]
        exact ho.kept (grown_set w2 w.heap.size 0 _) (.inr (row_boxU ho v2))
    clear hI hv hrow hc hown hs A0 C1 b1
    gi_wp2_with (gi_at_builtin; refine wpListIn_append_own _ rfl _ _ 110 rfl w.heap.size 25 i0 (.int .u64 0) 1 8 Try.underlying110 hi0 hz0 hz1 hz2 rfl (by decide) v pre.length (pre.map encU) rfl (HOW.out _) ⟨W.heap.size, 0, none⟩ 1 1 [.int .u64 (x : Int)] rfl rfl (cells_newK _ _ _) (by simp [Value.oneCell']) (by unfold maxLen; omega) (by omega) (by have := HBW.out; simp; omega) ?_; intro v' w2 ho hg _; obtain ⟨g', cap', rfl⟩ := ownsRow_succ ho; obtain ⟨q1, q2, q3, FIN⟩ := HNX.out _ _ _ _ ho hg; clear ho hg HNX HOW)
    exact FIN.out
  case done =>
    rintro D ys W hD hKU hI hK
    have HKU := hide hKU
    clear hKU
    obtain ⟨v, hv, hrow⟩ := hI.bx
    have x0 := block_cell hv 0
    simp at x0
    have HR := hide hrow
    have HB := hide hI.bel
    clear hI hv hrow hc hown hs A0 C1 b1
    gi_wp2
    refine ⟨by simp, .inl ⟨_, _, rfl, run_takeDeferred hK, ?_⟩⟩
    refine ⟨_, results_tmp rfl _ _ _, v, rfl, ys, HKU.out, ownsRow_abides HR.out (grownBy_putObj' W D _) (fun r e => by cases e; exact ⟨_, hK, rfl⟩), HB.out.trans (belowK_b (w := w) (Nat.le_refl _) W D _ _ (by omega) hK rfl rfl)⟩
  case stop =>
    rintro D c pre W _ _ h _
    exact h.elim
set_option maxRecDepth 10000 in
set_option maxHeartbeats 800000 in
theorem collectKeysH_any (Bn b nn : Nat) (D0 : DataW Value) (hxl : Maps.size D0 ≤ 1000000) (w : World) (hBn : Bn < w.heap.size) (hc : w.cell? ⟨Bn, 0, none⟩ = some (.map (some b))) (hown : w.ownsMap Try.prog 25 RV b nn D0) :
    Calls Try.prog 69 #[.func (.func 72) #[] #[.pointer (some ⟨Bn, 0, none⟩)]] w fun e w' => ∃ v, e = .returned v ∧ Hid (∃ xs, KeysU D0 xs ∧ w'.ownsRow w.heap.size 25 1 v xs.length (xs.map encU) ∧ Below w.heap.size w w') := by
  have HA := hide (appendKeysH_any Bn b nn D0 hxl w hBn hc hown)
  clear hc hown
  go_enter Try.func69, Try.ntmps69
  go_wp2_with fail
  refine HA.out.mono ?_
  rintro e w2 ⟨v, rfl, G2⟩
  go_wp2
  go_ret
  exact ⟨v, rfl, G2⟩
set_option maxRecDepth 10000 in
set_option maxHeartbeats 800000 in
/-- Sorted: the keys, rising. -/
theorem sortedKeysH_any (Bn b nn : Nat) (D0 : DataW Value) (hxl : ∀ xs, KeysU D0 xs → xs.length < 256) (hsz : Maps.size D0 ≤ 1000000) (w : World) (hBn : Bn < w.heap.size) (hc : w.cell? ⟨Bn, 0, none⟩ = some (.map (some b))) (hown : w.ownsMap Try.prog 25 RV b nn D0) :
    Calls Try.prog 54 #[.func (.func 72) #[] #[.pointer (some ⟨Bn, 0, none⟩)]] w fun e w' => ∃ ao n cap, e = .returned (.slice ao n cap) ∧ Hid (∃ ks b, KeysUp D0 ks ∧ ks.length = n ∧ n < 256 ∧ (0 < n → ao = some ⟨b, 0, none⟩ ∧ b < w'.heap.size ∧ w.heap.size ≤ b) ∧ (∀ i x, ks[i]? = some x → w'.cell? ⟨b, i, none⟩ = some (.int .u64 (x : Nat))) ∧ Below w.heap.size w w') := by
  have HC := hide (collectKeysH_any Bn b nn D0 hsz w hBn hc hown)
  clear hc hown
  go_enter Try.func54, Try.ntmps54
  go_wp2_with fail
  refine HC.out.mono ?_
  rintro e w2 ⟨v, rfl, G2⟩
  obtain ⟨xs, hk, hrow, hb2⟩ := G2.out
  have hl := hxl xs hk
  clear HC G2
  by_cases h0 : 0 < xs.length
  · obtain ⟨g, cap', rfl, hbg, hr⟩ := rowF_of hrow h0
    have HS := hide (sortZ w.heap.size g cap' xs.length _ h0 hl w2 hr hbg)
    have HB2 := hide hb2
    have HK := hide hk
    have HL := hide hl
    have HBG := hide hbg
    clear hr hrow hb2 hk hl hbg
    go_wp2_with fail
    refine HS.out.mono ?_
    rintro e w3 ⟨rfl, G3⟩
    go_wp2
    go_ret
    obtain ⟨D, h1, h2⟩ := G3.out
    have hp := h2.perm.perm (Nat.le_refl _)
    rw [range_getD] at hp
    refine ⟨_, _, _, rfl, (List.range xs.length).map D, g, HK.out.up h1.list hp, by simp, HL.out, fun _ => ⟨rfl, h2.row.lt, HBG.out⟩, fun i x hi => ?_, HB2.out.trans h2.bel⟩
    have hil : i < xs.length := by have := (List.getElem?_eq_some_iff.1 hi).1; simpa using this
    rw [List.getElem?_map, List.getElem?_range hil] at hi
    cases hi
    exact h2.row.cell hil
  · have hx : xs = [] := by cases xs; rfl; simp at h0
    subst hx
    have HB2 := hide hb2
    have HK := hide hk
    obtain ⟨ao, cap, rfl⟩ : ∃ ao cap, v = .slice ao 0 cap := by
      rcases hrow.2 with ⟨h, _⟩ | ⟨g, cap, cur, h, _⟩
      · exact ⟨_, _, h⟩
      · exact ⟨_, _, h⟩
    have HS := hide (sort_none ao cap w2)
    clear hrow hb2 hk hl h0
    go_wp2_with fail
    refine HS.out.mono ?_
    rintro e w3 ⟨rfl, rfl⟩
    go_wp2
    go_ret
    exact ⟨_, _, _, rfl, [], 0, HK.out.up List.Pairwise.nil (List.Perm.refl _), rfl, by omega, fun h => absurd h (by omega), fun i x hi => by simp at hi, HB2.out⟩
end Go.Proofs.Ytcfenjpdjogmdaa
