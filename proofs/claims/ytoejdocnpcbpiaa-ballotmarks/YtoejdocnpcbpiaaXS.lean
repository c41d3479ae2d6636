import Derived.Test.YtoejdocnpcbpiaaGC
import Derived.Test.YtoejdocnpcbpiaaZS
import Derived.Test.YtoejdocnpcbpiaaXM
import Derived.Test.YtoejdocnpcbpiaaBPb
namespace Go.Proofs.Ytoejdocnpcbpiaa
open Go.RowKit

/-- A mark with fewer than k above it and k at it or above. -/
def GoodM (xs : List Nat) (k : Int) (m : Nat) : Prop := ((xs.countP (fun y => decide (m < y)) : Nat) : Int) < k ∧ k ≤ ((xs.countP (fun y => decide (m ≤ y)) : Nat) : Int)
theorem count_le {p q : Nat → Bool} (h : ∀ x, p x = true → q x = true) : ∀ xs : List Nat, xs.countP p ≤ xs.countP q
  | [] => by simp
  | x :: r => by
    have := count_le h r
    rw [List.countP_cons, List.countP_cons]
    cases hp : p x with
    | false => simp; omega
    | true => simp [h x hp]; omega
theorem goodM_unique {xs : List Nat} {k : Int} {m m' : Nat} (h : GoodM xs k m) (h' : GoodM xs k m') : m = m' := by
  rcases Nat.lt_trichotomy m m' with e | e | e
  · have := count_le (p := fun y => decide (m' ≤ y)) (q := fun y => decide (m < y)) (fun x hx => by simp at hx ⊢; omega) xs
    have := h.1; have := h'.2; omega
  · exact e
  · have := count_le (p := fun y => decide (m ≤ y)) (q := fun y => decide (m' < y)) (fun x hx => by simp at hx ⊢; omega) xs
    have := h'.1; have := h.2; omega
theorem goodM_kth {xs ys : List Nat} {n k m : Nat} (hs : ys.Pairwise (· ≤ ·)) (hp : ys.Perm xs) (hn : xs.length = n) (hk0 : 1 ≤ k) (hkn : k ≤ n) (hm : ys[n - k]? = some m) : GoodM xs k m ∧ m ∈ xs := by
  have hl : ys.length = n := by rw [hp.length_eq, hn]
  obtain ⟨h1, h2⟩ := kth_counts hs hl hk0 hkn hm
  rw [hp.countP_eq] at h1 h2
  exact ⟨⟨by omega, by omega⟩, hp.subset (List.mem_of_getElem? hm)⟩
theorem goodM_none {xs : List Nat} {k : Int} (h : k < 1 ∨ (xs.length : Int) < k) (m : Nat) : ¬ GoodM xs k m := fun g => by
  have h1 := g.1
  have h2 := g.2
  have := List.countP_le_length (p := fun y => decide (m ≤ y)) (l := xs)
  omega
theorem rowF_of {base : Nat} {W : World} {v : Value} {xs : List Nat} (h : W.ownsRow base 23 1 v xs.length (xs.map encU)) (hp : 0 < xs.length) : ∃ g cap, v = .slice (some ⟨g, 0, none⟩) xs.length cap ∧ base ≤ g ∧ RowF W g cap xs.length (fun i => xs.getD i 0) := by
  rcases h.2 with ⟨_, h0⟩ | ⟨g, cap, cur, rfl, hbg, hg, hnc, hcm, hcs, htake⟩
  · omega
  · refine ⟨g, cap, rfl, hbg, cur, hg, by omega, hnc, fun i hi => ?_⟩
    have h1 : (xs.map encU)[i]? = some (encU (xs.getD i 0)) := by rw [List.getElem?_map, List.getElem?_eq_getElem hi, List.getD_eq_getElem?_getD, List.getElem?_eq_getElem hi]; rfl
    rw [← htake, List.getElem?_take_of_lt (by omega)] at h1
    simpa [encU] using h1
theorem range_getD (xs : List Nat) : (List.range xs.length).map (fun i => xs.getD i 0) = xs := by
  apply List.ext_getElem?
  intro i
  by_cases h : i < xs.length
  · rw [List.getElem?_map, List.getElem?_range h, List.getElem?_eq_getElem h]
    simp only [Option.map_some, List.getD_eq_getElem?_getD, List.getElem?_eq_getElem h, Option.getD_some]
  · rw [List.getElem?_eq_none (by simp; omega), List.getElem?_eq_none (by omega)]
/-- What Sorted hands out. -/
def SortedM (w : World) (xs : List Nat) (n : Nat) (e : Ending) (w' : World) : Prop := ∃ g cap, e = .returned (.slice (some ⟨g, 0, none⟩) n cap) ∧ Hid (∃ D : Nat → Nat, ((List.range n).map D).Pairwise (· ≤ ·) ∧ ((List.range n).map D).Perm xs ∧ RowF w' g cap n D ∧ Below w.heap.size w w')
set_option maxRecDepth 10000 in
set_option maxHeartbeats 800000 in
theorem sorted_many (Bn : Nat) (ao : Option Addr) (cap b off : Nat) (xs : List Nat) (h0 : 0 < xs.length) (h12 : xs.length < 256) (w : World) (hBn : Bn < w.heap.size) (hc : w.cell? ⟨Bn, 0, none⟩ = some (.slice ao xs.length cap)) (had : 0 < xs.length → ao = some ⟨b, off, none⟩) (hbw : 0 < xs.length → b < w.heap.size) (hU : Us w b off xs) :
    Calls Try.prog 10 #[.func (.func 19) #[] #[.pointer (some ⟨Bn, 0, none⟩)]] w (SortedM w xs xs.length) := by
  unfold SortedM
  have HC := hide (collect_any Bn ao cap b off xs (by omega) w hBn hc had hbw hU)
  clear hc had hbw hU
  go_enter Try.func10, Try.ntmps10
  go_wp2_with fail
  refine HC.out.mono ?_
  rintro e w2 ⟨v, rfl, G2⟩
  obtain ⟨g, cap', rfl, hbg, hr⟩ := rowF_of G2.out.1 h0
  have HS := hide (sortZ w.heap.size g cap' xs.length _ h0 h12 w2 hr hbg)
  have B2 := hide G2.out.2
  clear G2 hr
  go_wp2_with fail
  refine HS.out.mono ?_
  rintro e w3 ⟨rfl, G3⟩
  go_wp2
  go_ret
  obtain ⟨D, h1, h2⟩ := G3.out
  have hp := h2.perm.perm (Nat.le_refl _)
  rw [range_getD] at hp
  exact ⟨g, cap', rfl, D, h1.list, hp, h2.row, B2.out.trans h2.bel⟩
set_option maxRecDepth 10000 in
set_option maxHeartbeats 1600000 in
/-- Mark, where there is such a one. -/
theorem mark_many (ao : Option Addr) (n cap b off k : Nat) (xs : List Nat) (hn : xs.length = n) (h12 : n < 256) (hk0 : 1 ≤ k) (hkn : k ≤ n) (w : World) (had : 0 < xs.length → ao = some ⟨b, off, none⟩) (hbw : 0 < xs.length → b < w.heap.size) (hU : Us w b off xs) :
    Calls Try.prog 4 #[.slice ao n cap, .int .i64 (k : Nat)] w fun e w' => ∃ m : Nat, e = .returned (.tuple #[.int .u64 (m : Int), .nilIface]) ∧ Hid (GoodM xs k m ∧ m ∈ xs ∧ Below w.heap.size w w') := by
  have HV := hide (values_any ao n cap w)
  obtain ⟨W1, hW1⟩ : ∃ W1, w.alloc (.cells #[.slice ao n cap] 22) = W1 := ⟨_, rfl⟩
  have b1 : Below w.heap.size w W1 := by rw [← hW1]; exact (Below.refl _ w).alloc (Nat.le_refl _) _
  have C1 : W1.heap[w.heap.size]? = some (.cells #[.slice ao n cap] 22 (0, 0)) := by rw [← hW1]; exact alloc_atK _ _
  have c1 : W1.cell? ⟨w.heap.size, 0, none⟩ = some (.slice ao xs.length cap) := by rw [hn]; exact block_cell C1 0
  have HS := hide (sorted_many w.heap.size ao cap b off xs (by omega) (by omega) W1 (block_lt C1) c1 had (fun h => Nat.lt_of_lt_of_le (hbw h) b1.size) (fun i x hi => (b1.cell (p := ⟨b, off + i, none⟩) (hbw (by have := (List.getElem?_eq_some_iff.1 hi).1; omega))).trans (hU i x hi)))
  unfold SortedM at HS
  rw [hn] at HS
  have B1 := hide b1
  rw [hW1] at HV
  have HN := hide hn
  clear hW1 C1 c1 b1 had hbw hU hn
  go_enter Try.func4, Try.ntmps4
  go_wp2_with fail
  refine HV.out.mono ?_
  rintro e w1 ⟨rfl, rfl⟩
  go_wp2_with fail
  refine HS.out.mono ?_
  rintro e w2 ⟨g, cap', rfl, G2⟩
  obtain ⟨D, h1, h2, h3, h4⟩ := G2.out
  have hlt : n - k < n := by omega
  have x0 := h3.cell hlt
  have hgl := h3.lt
  have hm : ((List.range n).map D)[n - k]? = some (D (n - k)) := by rw [List.getElem?_map, List.getElem?_range hlt]; rfl
  have FIN : Hid (GoodM xs k (D (n - k)) ∧ D (n - k) ∈ xs ∧ Below w.heap.size w w2) := ⟨(goodM_kth h1 h2 HN.out hk0 hkn hm).1, (goodM_kth h1 h2 HN.out hk0 hkn hm).2, B1.out.trans (h4.mono B1.out.size)⟩
  have e0 : ((n : Int) - (k : Int)) = ((n - k : Nat) : Int) := by omega
  clear h1 h2 h3 h4 hm G2
  generalize D (n - k) = m at *
  generalize n - k = i at x0 hlt e0
  go_wp2
  go_ret2
  exact ⟨m, rfl, FIN.out⟩
set_option maxRecDepth 10000 in
set_option maxHeartbeats 1600000 in
theorem mark_bad (ao : Option Addr) (n cap : Nat) (k : Int) (hk : k < 1 ∨ (n : Int) < k) (w : World) :
    Calls Try.prog 4 #[.slice ao n cap, .int .i64 k] w fun e w' => ∃ g, e = .returned (.tuple #[.int .u64 0, .iface 49 (.pointer (some ⟨g, 0, none⟩))]) ∧ Hid (Chain w'.heap.size w' [⟨ballotN, 0⟩] (.iface 49 (.pointer (some ⟨g, 0, none⟩))) 184 ∧ Below w.heap.size w w') := by
  have HR := hide (refusalB (w := w) 0 184)
  by_cases h1 : k < 1
  · have d1 : decide (k < 1) = true := decide_eq_true h1
    clear hk h1
    go_enter Try.func4, Try.ntmps4
    go_wp2_with fail
    refine HR.out.mono ?_
    rintro e w1 ⟨g, rfl, G⟩
    go_wp2
    go_ret2
    exact ⟨g, rfl, G.out⟩
  · have d1 : decide (k < 1) = false := decide_eq_false h1
    have d2 : decide ((n : Int) < k) = true := decide_eq_true (by omega)
    clear hk h1
    go_enter Try.func4, Try.ntmps4
    go_wp2_with fail
    refine HR.out.mono ?_
    rintro e w1 ⟨g, rfl, G⟩
    go_wp2
    go_ret2
    exact ⟨g, rfl, G.out⟩
end Go.Proofs.Ytoejdocnpcbpiaa
