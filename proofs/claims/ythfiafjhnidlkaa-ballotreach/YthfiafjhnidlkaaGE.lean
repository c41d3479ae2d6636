import Derived.Test.YthfiafjhnidlkaaGD
namespace Go.Proofs.Ythfiafjhnidlkaa
open Go.RowKit

set_option maxRecDepth 10000 in
set_option maxHeartbeats 800000 in
theorem len64_0 (w : World) : Calls Try.prog 87 #[.int .u64 0] w fun e w' => (∃ v : Int, e = .returned (.int .i64 v)) ∧ w' = w := by
  go_enter Try.func87, Try.ntmps87
  go_wp2
  go_ret
  exact ⟨⟨_, rfl⟩, rfl⟩
set_option maxRecDepth 10000 in
set_option maxHeartbeats 800000 in
theorem len64_1 (w : World) : Calls Try.prog 87 #[.int .u64 1] w fun e w' => (∃ v : Int, e = .returned (.int .i64 v)) ∧ w' = w := by
  go_enter Try.func87, Try.ntmps87
  go_wp2
  go_ret
  exact ⟨⟨_, rfl⟩, rfl⟩
set_option maxRecDepth 10000 in
set_option maxHeartbeats 800000 in
theorem len64_2 (w : World) : Calls Try.prog 87 #[.int .u64 2] w fun e w' => (∃ v : Int, e = .returned (.int .i64 v)) ∧ w' = w := by
  go_enter Try.func87, Try.ntmps87
  go_wp2
  go_ret
  exact ⟨⟨_, rfl⟩, rfl⟩
set_option maxRecDepth 10000 in
set_option maxHeartbeats 800000 in
theorem len64_3 (w : World) : Calls Try.prog 87 #[.int .u64 3] w fun e w' => (∃ v : Int, e = .returned (.int .i64 v)) ∧ w' = w := by
  go_enter Try.func87, Try.ntmps87
  go_wp2
  go_ret
  exact ⟨⟨_, rfl⟩, rfl⟩
set_option maxRecDepth 10000 in
set_option maxHeartbeats 800000 in
theorem len64_4 (w : World) : Calls Try.prog 87 #[.int .u64 4] w fun e w' => (∃ v : Int, e = .returned (.int .i64 v)) ∧ w' = w := by
  go_enter Try.func87, Try.ntmps87
  go_wp2
  go_ret
  exact ⟨⟨_, rfl⟩, rfl⟩
set_option maxRecDepth 10000 in
set_option maxHeartbeats 800000 in
theorem len64_5 (w : World) : Calls Try.prog 87 #[.int .u64 5] w fun e w' => (∃ v : Int, e = .returned (.int .i64 v)) ∧ w' = w := by
  go_enter Try.func87, Try.ntmps87
  go_wp2
  go_ret
  exact ⟨⟨_, rfl⟩, rfl⟩
set_option maxRecDepth 10000 in
set_option maxHeartbeats 800000 in
theorem len64_6 (w : World) : Calls Try.prog 87 #[.int .u64 6] w fun e w' => (∃ v : Int, e = .returned (.int .i64 v)) ∧ w' = w := by
  go_enter Try.func87, Try.ntmps87
  go_wp2
  go_ret
  exact ⟨⟨_, rfl⟩, rfl⟩
set_option maxRecDepth 10000 in
set_option maxHeartbeats 800000 in
theorem len64_7 (w : World) : Calls Try.prog 87 #[.int .u64 7] w fun e w' => (∃ v : Int, e = .returned (.int .i64 v)) ∧ w' = w := by
  go_enter Try.func87, Try.ntmps87
  go_wp2
  go_ret
  exact ⟨⟨_, rfl⟩, rfl⟩
set_option maxRecDepth 10000 in
set_option maxHeartbeats 800000 in
theorem len64_8 (w : World) : Calls Try.prog 87 #[.int .u64 8] w fun e w' => (∃ v : Int, e = .returned (.int .i64 v)) ∧ w' = w := by
  go_enter Try.func87, Try.ntmps87
  go_wp2
  go_ret
  exact ⟨⟨_, rfl⟩, rfl⟩
set_option maxRecDepth 10000 in
set_option maxHeartbeats 800000 in
theorem len64_9 (w : World) : Calls Try.prog 87 #[.int .u64 9] w fun e w' => (∃ v : Int, e = .returned (.int .i64 v)) ∧ w' = w := by
  go_enter Try.func87, Try.ntmps87
  go_wp2
  go_ret
  exact ⟨⟨_, rfl⟩, rfl⟩
set_option maxRecDepth 10000 in
set_option maxHeartbeats 800000 in
theorem len64_10 (w : World) : Calls Try.prog 87 #[.int .u64 10] w fun e w' => (∃ v : Int, e = .returned (.int .i64 v)) ∧ w' = w := by
  go_enter Try.func87, Try.ntmps87
  go_wp2
  go_ret
  exact ⟨⟨_, rfl⟩, rfl⟩
set_option maxRecDepth 10000 in
set_option maxHeartbeats 800000 in
theorem len64_11 (w : World) : Calls Try.prog 87 #[.int .u64 11] w fun e w' => (∃ v : Int, e = .returned (.int .i64 v)) ∧ w' = w := by
  go_enter Try.func87, Try.ntmps87
  go_wp2
  go_ret
  exact ⟨⟨_, rfl⟩, rfl⟩
set_option maxRecDepth 10000 in
set_option maxHeartbeats 800000 in
theorem len64_12 (w : World) : Calls Try.prog 87 #[.int .u64 12] w fun e w' => (∃ v : Int, e = .returned (.int .i64 v)) ∧ w' = w := by
  go_enter Try.func87, Try.ntmps87
  go_wp2
  go_ret
  exact ⟨⟨_, rfl⟩, rfl⟩
theorem len64_few : ∀ (n : Nat), n ≤ 12 → ∀ w, Calls Try.prog 87 #[.int .u64 (n : Int)] w fun e w' => (∃ v : Int, e = .returned (.int .i64 v)) ∧ w' = w
  | 0, _, w => len64_0 w
  | 1, _, w => len64_1 w
  | 2, _, w => len64_2 w
  | 3, _, w => len64_3 w
  | 4, _, w => len64_4 w
  | 5, _, w => len64_5 w
  | 6, _, w => len64_6 w
  | 7, _, w => len64_7 w
  | 8, _, w => len64_8 w
  | 9, _, w => len64_9 w
  | 10, _, w => len64_10 w
  | 11, _, w => len64_11 w
  | 12, _, w => len64_12 w
  | n + 13, h, _ => absurd h (by omega)
set_option maxRecDepth 10000 in
set_option maxHeartbeats 800000 in
theorem len_few (n : Nat) (h : n ≤ 12) (w : World) : Calls Try.prog 76 #[.int .u64 (n : Int)] w fun e w' => (∃ v : Int, e = .returned (.int .i64 v)) ∧ w' = w := by
  have H := hide (len64_few n h w)
  go_enter Try.func76, Try.ntmps76
  go_wp2_with fail
  refine H.out.mono ?_
  rintro e w' ⟨⟨v, rfl⟩, rfl⟩
  go_wp2
  go_ret
  exact ⟨⟨_, rfl⟩, rfl⟩
set_option maxRecDepth 100000 in
set_option maxHeartbeats 4000000 in
theorem pdq_few (B g cap n : Nat) (lim : Int) (xs : List Nat) (hn : xs.length = n) (h12 : n ≤ 12) (w : World) (hr : RowU w g cap xs) (hB : B ≤ g) :
    Calls Try.prog 75 #[.slice (some ⟨g, 0, none⟩) n cap, .int .i64 0, .int .i64 (n : Nat), .int .i64 lim] w fun e w' => (∃ v, e = .returned v) ∧ Hid (∃ ys, ys.Pairwise (· ≤ ·) ∧ IS B w g cap xs ys w') := by
  have H := hide (isort_any B g cap n xs hn h12 w hr hB)
  clear hr hB hn
  go_enter Try.func75, Try.ntmps75
  go_wp2
  refine wp_loop_rounds 1 ?_
  rw [rounds_succ]
  go_wp2_with fail
  refine H.out.mono ?_
  rintro e w2 ⟨⟨v, rfl⟩, G2⟩
  go_wp2
  try rw [Exit.noGoto_ret]
  refine bodyPost_ret (results_none rfl _ _ _) rfl ?_
  exact ⟨⟨_, rfl⟩, G2⟩
set_option maxRecDepth 10000 in
set_option maxHeartbeats 800000 in
theorem sort_few (B g cap n : Nat) (xs : List Nat) (hn : xs.length = n) (h12 : n ≤ 12) (w : World) (hr : RowU w g cap xs) (hB : B ≤ g) :
    Calls Try.prog 71 #[.slice (some ⟨g, 0, none⟩) n cap] w fun e w' => (∃ v, e = .returned v) ∧ Hid (∃ ys, ys.Pairwise (· ≤ ·) ∧ IS B w g cap xs ys w') := by
  have HL := hide (len_few n h12 w)
  have H := hide (fun lim => pdq_few B g cap n lim xs hn h12 w hr hB)
  clear hr hB hn
  go_enter Try.func71, Try.ntmps71
  go_wp2_with fail
  refine HL.out.mono ?_
  rintro e w1 ⟨⟨lim, rfl⟩, rfl⟩
  go_wp2_with fail
  refine (H.out lim).mono ?_
  rintro e w2 ⟨⟨v, rfl⟩, G2⟩
  go_wp2
  go_end0
  exact ⟨⟨_, rfl⟩, G2⟩
theorem rowU_of {base : Nat} {W : World} {v : Value} {xs : List Nat} (h : W.ownsRow base 22 1 v xs.length (xs.map encU)) (hp : 0 < xs.length) : ∃ g cap, v = .slice (some ⟨g, 0, none⟩) xs.length cap ∧ base ≤ g ∧ RowU W g cap xs := by
  rcases h.2 with ⟨_, h0⟩ | ⟨g, cap, cur, rfl, hbg, hg, hnc, hcm, hcs, htake⟩
  · omega
  · refine ⟨g, cap, rfl, hbg, cur, hg, by omega, hnc, fun i y hi => ?_⟩
    have hl := (List.getElem?_eq_some_iff.1 hi).1
    have h1 : (xs.map encU)[i]? = some (encU y) := by rw [List.getElem?_map, hi]; rfl
    rw [← htake, List.getElem?_take_of_lt (by omega)] at h1
    simpa [encU] using h1
/-- What Sorted hands out. -/
def SortedP (w : World) (xs : List Nat) (e : Ending) (w' : World) : Prop := ∃ g cap, e = .returned (.slice (some ⟨g, 0, none⟩) xs.length cap) ∧ Hid (∃ ys, ys.Pairwise (· ≤ ·) ∧ ys.Perm xs ∧ RowU w' g cap ys ∧ Below w.heap.size w w')
set_option maxRecDepth 10000 in
set_option maxHeartbeats 800000 in
theorem sorted_few (Bn : Nat) (ao : Option Addr) (cap b off : Nat) (xs : List Nat) (h0 : 0 < xs.length) (h12 : xs.length ≤ 12) (w : World) (hBn : Bn < w.heap.size) (hc : w.cell? ⟨Bn, 0, none⟩ = some (.slice ao xs.length cap)) (had : 0 < xs.length → ao = some ⟨b, off, none⟩) (hbw : 0 < xs.length → b < w.heap.size) (hU : Us w b off xs) :
    Calls Try.prog 53 #[.func (.func 72) #[] #[.pointer (some ⟨Bn, 0, none⟩)]] w (SortedP w xs) := by
  unfold SortedP
  have HC := hide (collect_any Bn ao cap b off xs (by omega) w hBn hc had hbw hU)
  clear hc had hbw hU
  go_enter Try.func53, Try.ntmps53
  go_wp2_with fail
  refine HC.out.mono ?_
  rintro e w2 ⟨v, rfl, G2⟩
  obtain ⟨g, cap', rfl, hbg, hr⟩ := rowU_of G2.out.1 h0
  have HS := hide (sort_few w.heap.size g cap' xs.length xs rfl h12 w2 hr hbg)
  have B2 := hide G2.out.2
  clear G2 hr
  go_wp2_with fail
  refine HS.out.mono ?_
  rintro e w3 ⟨⟨u, rfl⟩, G3⟩
  go_wp2
  go_ret
  obtain ⟨ys, h1, h2⟩ := G3.out
  exact ⟨g, cap', rfl, ys, h1, h2.perm, h2.row, B2.out.trans h2.bel⟩
set_option maxRecDepth 10000 in
set_option maxHeartbeats 1600000 in
/-- Mark, of few marks, where there is such a one. -/
theorem mark_few (ao : Option Addr) (n cap b off k : Nat) (xs : List Nat) (hn : xs.length = n) (h12 : n ≤ 12) (hk0 : 1 ≤ k) (hkn : k ≤ n) (w : World) (had : 0 < xs.length → ao = some ⟨b, off, none⟩) (hbw : 0 < xs.length → b < w.heap.size) (hU : Us w b off xs) :
    Calls Try.prog 27 #[.slice ao n cap, .int .i64 (k : Nat)] w fun e w' => ∃ m : Nat, e = .returned (.tuple #[.int .u64 (m : Int), .nilIface]) ∧ Hid (∃ ys : List Nat, ys.Pairwise (· ≤ ·) ∧ ys.Perm xs ∧ ys[n - k]? = some m ∧ Below w.heap.size w w') := by
  have HV := hide (values_any ao n cap w)
  obtain ⟨W1, hW1⟩ : ∃ W1, w.alloc (.cells #[.slice ao n cap] 59) = W1 := ⟨_, rfl⟩
  have b1 : Below w.heap.size w W1 := by rw [← hW1]; exact (Below.refl _ w).alloc (Nat.le_refl _) _
  have C1 : W1.heap[w.heap.size]? = some (.cells #[.slice ao n cap] 59 (0, 0)) := by rw [← hW1]; exact alloc_atK _ _
  have c1 : W1.cell? ⟨w.heap.size, 0, none⟩ = some (.slice ao xs.length cap) := by rw [hn]; exact block_cell C1 0
  have HS := hide (sorted_few w.heap.size ao cap b off xs (by omega) (by omega) W1 (block_lt C1) c1 had (fun h => Nat.lt_of_lt_of_le (hbw h) b1.size) (fun i x hi => (b1.cell (p := ⟨b, off + i, none⟩) (hbw (by have := (List.getElem?_eq_some_iff.1 hi).1; omega))).trans (hU i x hi)))
  unfold SortedP at HS
  rw [hn] at HS
  have B1 := hide b1
  rw [hW1] at HV
  have HN := hide hn
  clear hW1 C1 c1 b1 had hbw hU hn
  go_enter Try.func27, Try.ntmps27
  go_wp2_with fail
  refine HV.out.mono ?_
  rintro e w1 ⟨rfl, rfl⟩
  go_wp2_with fail
  refine HS.out.mono ?_
  rintro e w2 ⟨g, cap', rfl, G2⟩
  obtain ⟨ys, h1, h2, h3, h4⟩ := G2.out
  obtain ⟨m, hm⟩ : ∃ m, ys[n - k]? = some m := ⟨_, List.getElem?_eq_getElem (by rw [h2.length_eq, HN.out]; omega)⟩
  have x0 := h3.cell hm
  have hgl := h3.lt
  have FIN : Hid (∃ ys : List Nat, ys.Pairwise (· ≤ ·) ∧ ys.Perm xs ∧ ys[n - k]? = some m ∧ Below w.heap.size w w2) := ⟨ys, h1, h2, hm, B1.out.trans (h4.mono B1.out.size)⟩
  have hlt : n - k < n := by omega
  have e0 : ((n : Int) - (k : Int)) = ((n - k : Nat) : Int) := by omega
  clear h1 h2 h3 h4 hm G2
  generalize n - k = i at x0 hlt e0
  go_wp2
  go_ret2
  exact ⟨m, rfl, FIN.out⟩
end Go.Proofs.Ythfiafjhnidlkaa
