import Derived.Test.YthfiafjhnidlkaaGC
import Derived.BigRegion
import Derived.BigQuiet
namespace Go.Proofs.Ythfiafjhnidlkaa
open Go.RowKit

/-- Numbers in a block of their own, from its first cell on. -/
def RowU (W : World) (g cap : Nat) (ys : List Nat) : Prop := ∃ cur : Array Value, W.heap[g]? = some (.cells cur 22 (0, 0)) ∧ cur.size = cap ∧ ys.length ≤ cap ∧ ∀ (i y : Nat), ys[i]? = some y → cur[i]? = some (.int .u64 (y : Int))
theorem RowU.cell {W : World} {g cap : Nat} {ys : List Nat} (h : RowU W g cap ys) {i y : Nat} (hi : ys[i]? = some y) : W.cell? ⟨g, i, none⟩ = some (.int .u64 (y : Int)) := by
  obtain ⟨cur, h1, _, _, h4⟩ := h
  rw [block_cell h1]
  exact h4 i y hi
theorem RowU.lt {W : World} {g cap : Nat} {ys : List Nat} (h : RowU W g cap ys) : g < W.heap.size := by
  obtain ⟨cur, h1, _⟩ := h
  exact block_lt h1
theorem RowU.free {W : World} {g cap : Nat} {ys : List Nat} (h : RowU W g cap ys) (i : Nat) : W.frozen? ⟨g, i, none⟩ = false := by
  obtain ⟨cur, h1, _⟩ := h
  exact block_free h1 i
theorem RowU.set {W : World} {g cap : Nat} {ys : List Nat} (h : RowU W g cap ys) (i y : Nat) : RowU (W.setCell ⟨g, i, none⟩ (.int .u64 (y : Int))) g cap (ys.set i y) := by
  obtain ⟨cur, h1, h2, h3, h4⟩ := h
  refine ⟨_, heap_setCell_same W g i _ _ _ h1, by simpa using h2, by simpa using h3, fun j u hj => ?_⟩
  by_cases e : i = j
  · subst e
    have hl : i < ys.length := by
      have := (List.getElem?_eq_some_iff.1 hj).1
      simpa using this
    rw [List.getElem?_set_self hl] at hj
    cases hj
    simp only [Array.getElem?_setIfInBounds_self]
    rw [if_pos (by omega)]
  · rw [List.getElem?_set_ne e] at hj
    rw [Array.getElem?_setIfInBounds_ne e]
    exact h4 j u hj
theorem RowU.drew {W : World} {g cap : Nat} {ys : List Nat} (h : RowU W g cap ys) : RowU W.drew g cap ys := h
/-- The state of the sort. -/
structure IS (B : Nat) (w : World) (g cap : Nat) (xs ys : List Nat) (W : World) : Prop where
  row : RowU W g cap ys
  perm : ys.Perm xs
  bel : Below B w W
  bg : B ≤ g
theorem IS.drewN {B : Nat} {w : World} {g cap : Nat} {xs ys : List Nat} {W : World} (h : IS B w g cap xs ys W) (q : Nat) : IS B w g cap xs ys (W.drewN q) := by
  refine ⟨?_, h.perm, Go.below_drewN h.bel q, h.bg⟩
  obtain ⟨cur, h1, h2⟩ := h.row
  exact ⟨cur, by simpa using h1, h2⟩
theorem IS.drew {B : Nat} {w : World} {g cap : Nat} {xs ys : List Nat} {W : World} (h : IS B w g cap xs ys W) : IS B w g cap xs ys W.drew := ⟨h.row, h.perm, h.bel.drew, h.bg⟩
theorem swap_list (P : List Nat) (z x : Nat) (R : List Nat) : (((P ++ [z]) ++ x :: R).set (P.length + 1) z).set P.length x = P ++ x :: (z :: R) := by
  have e : (P ++ [z]) ++ x :: R = P ++ (z :: x :: R) := by simp
  rw [e, List.set_append_right _ _ (by omega), List.set_append_right _ _ (by omega)]
  simp
theorem IS.swap {B : Nat} {w : World} {g cap : Nat} {xs P R : List Nat} {z x : Nat} {W : World} (h : IS B w g cap xs ((P ++ [z]) ++ x :: R) W) {q : Nat} (hq : P.length = q) :
    IS B w g cap xs (P ++ x :: (z :: R)) ((W.setCell ⟨g, q + 1, none⟩ (.int .u64 (z : Int))).setCell ⟨g, q, none⟩ (.int .u64 (x : Int))) := by
  subst hq
  have r := (h.row.set (P.length + 1) z).set P.length x
  rw [swap_list] at r
  refine ⟨r, ?_, (h.bel.setCell (p := ⟨g, P.length + 1, none⟩) h.bg _).setCell (p := ⟨g, P.length, none⟩) h.bg _, h.bg⟩
  refine List.Perm.trans ?_ h.perm
  have e : (P ++ [z]) ++ x :: R = P ++ (z :: x :: R) := by simp
  rw [e]
  exact List.Perm.append_left P (List.Perm.swap z x R)
theorem sorted_in {P D : List Nat} {x : Nat} (h : (P ++ D).Pairwise (· ≤ ·)) (hD : ∀ d ∈ D, x < d) (hP : ∀ p ∈ P, p ≤ x) : (P ++ x :: D).Pairwise (· ≤ ·) := by
  rw [List.pairwise_append] at h ⊢
  refine ⟨h.1, List.pairwise_cons.2 ⟨fun d hd => Nat.le_of_lt (hD d hd), h.2.1⟩, fun a ha b hb => ?_⟩
  rcases List.mem_cons.1 hb with rfl | hb
  · exact hP a ha
  · exact h.2.2 a ha b hb
/-- The state at the head of the outer loop. -/
def ISo (B : Nat) (w : World) (g cap n : Nat) (xs : List Nat) (k : Nat) (W : World) : Prop := ∃ zs rest, (zs.length = k ∨ n ≤ 1) ∧ (zs ++ rest).length = n ∧ zs.Pairwise (· ≤ ·) ∧ (n ≤ 1 → rest = []) ∧ IS B w g cap xs (zs ++ rest) W
/-- The state at the head of the inner one. -/
def ISi (B : Nat) (w : World) (g cap n : Nat) (xs : List Nat) (k x : Nat) (rest : List Nat) (p : Nat) (W : World) : Prop := ∃ P D, P.length = p ∧ (P ++ D).length = k ∧ k + 1 + rest.length = n ∧ (P ++ D).Pairwise (· ≤ ·) ∧ (∀ d ∈ D, x < d) ∧ IS B w g cap xs (P ++ x :: (D ++ rest)) W
theorem ISi.done {B : Nat} {w : World} {g cap n : Nat} {xs : List Nat} {k x : Nat} {rest : List Nat} {W : World} {P D : List Nat} (hPD : (P ++ D).length = k) (hkn : k + 1 + rest.length = n) (hS : (P ++ D).Pairwise (· ≤ ·)) (hD : ∀ d ∈ D, x < d) (hI : IS B w g cap xs (P ++ x :: (D ++ rest)) W) (hP : ∀ p ∈ P, p ≤ x) : ISo B w g cap n xs (k + 1) W := by
  have e : (P ++ x :: D) ++ rest = P ++ x :: (D ++ rest) := by simp
  refine ⟨P ++ x :: D, rest, .inl ?_, ?_, sorted_in hS hD hP, fun h => ?_, by rw [e]; exact hI⟩
  · simp at hPD ⊢; omega
  · simp at hPD ⊢; omega
  · exact List.eq_nil_of_length_eq_zero (by omega)
set_option maxRecDepth 100000 in
set_option maxHeartbeats 4000000 in
theorem isort_any (B g cap n : Nat) (xs : List Nat) (hn : xs.length = n) (h12 : n ≤ 12) (w : World) (hr : RowU w g cap xs) (hB : B ≤ g) :
    Calls Try.prog 77 #[.slice (some ⟨g, 0, none⟩) n cap, .int .i64 0, .int .i64 (n : Nat)] w fun e w' => (∃ v, e = .returned v) ∧ Hid (∃ ys, ys.Pairwise (· ≤ ·) ∧ IS B w g cap xs ys w') := by
  have HL := hide cless_any
  have I0 : Hid (ISo B w g cap n xs 1 w) := by
    match xs, hn, hr with
    | [], hn, hr => exact ⟨[], [], .inr (by simp at hn; omega), by simpa using hn, List.Pairwise.nil, fun _ => rfl, ⟨hr, List.Perm.refl _, Below.refl _ _, hB⟩⟩
    | x :: r, hn, hr => exact ⟨[x], r, .inl rfl, by simpa using hn, List.pairwise_singleton _ _, fun h => List.eq_nil_of_length_eq_zero (by simp at hn; omega), ⟨hr, List.Perm.refl _, Below.refl _ _, hB⟩⟩
  clear hr hB hn
  go_enter Try.func77, Try.ntmps77
  go_wp2
  go_loopw [6] (fun i wr => ∃ k : Nat, 1 ≤ k ∧ (k ≤ n ∨ k ≤ 1) ∧ i = .int .i64 (k : Nat) ∧ Hid (ISo B w g cap n xs k wr)) (fun i _ => n - (intOf i).toNat)
  case atStart => exact ⟨1, by omega, by omega, rfl, I0.out⟩
  case round =>
    obtain ⟨k, hk, hkn, rfl, HJ⟩ := hrel
    clear I0
    by_cases hlt : k < n
    · obtain ⟨x, rest, HI⟩ : ∃ x rest, Hid (ISi B w g cap n xs k x rest k wr) := by
        obtain ⟨zs, rest, h1, h2, h3, h4, h5⟩ := HJ.out
        have hz : zs.length = k := by omega
        cases rest with
        | nil => simp at h2; omega
        | cons x rest => exact ⟨x, rest, zs, [], hz, by simpa using hz, by simp at h2; omega, by simpa using h3, by simp, by simpa using h5⟩
      clear HJ
      go_wp2
      go_loopw [7] (fun j wr => ∃ p : Nat, p ≤ k ∧ j = .int .i64 (p : Nat) ∧ Hid (ISi B w g cap n xs k x rest p wr)) (fun j _ => (intOf j).toNat)
      case atStart => exact ⟨k, Nat.le_refl _, rfl, HI.out⟩
      case round =>
        obtain ⟨p, hp, rfl, HQ⟩ := hrel
        clear HI
        obtain ⟨P, D, hP, hPD, hkn', hS, hD, hI⟩ := HQ.out
        clear HQ
        cases p with
        | zero =>
          obtain rfl := List.eq_nil_of_length_eq_zero hP
          have FIN : Hid (∀ q, ISo B w g cap n xs (k + 1) (wr.drewN q)) := fun q => ISi.done hPD hkn' hS hD (hI.drewN q) (by simp)
          clear hI hD hS hPD hP
          go_upto_region 4 with fail
          go_quiet (fail)
          go_wp2
          go_roundw
          case rel => exact ⟨k + 1, by omega, by omega, by go_num, FIN.out _⟩
          case measure => simp [intOf]; omega
        | succ q =>
          obtain ⟨P', z, rfl⟩ : ∃ P' z, P = P' ++ [z] := by
            have hne : P ≠ [] := fun e => by rw [e] at hP; simp at hP
            exact ⟨P.dropLast, P.getLast hne, (List.dropLast_concat_getLast hne).symm⟩
          have hq : P'.length = q := by simpa using hP
          have y0 : wr.cell? ⟨g, q + 1, none⟩ = some (.int .u64 (x : Int)) := hI.row.cell (by rw [List.getElem?_append_right (by simp; omega)]; simp [hq])
          have y1 : wr.cell? ⟨g, q, none⟩ = some (.int .u64 (z : Int)) := hI.row.cell (by rw [List.append_assoc, List.getElem?_append_right (by omega)]; simp [hq])
          have hgl : g < wr.heap.size := hI.row.lt
          have hqn : q + 1 < n := by omega
          have HI2 := hide hI
          by_cases hxz : x < z
          · have hd : decide ((x : Int) < (z : Int)) = true := decide_eq_true (by omega)
            have NX : Hid (∀ V, IS B w g cap xs ((P' ++ [z]) ++ x :: (D ++ rest)) V → ISi B w g cap n xs k x rest q ((V.setCell ⟨g, q + 1, none⟩ (.int .u64 (z : Int))).setCell ⟨g, q, none⟩ (.int .u64 (x : Int)))) := fun V hV =>
              ⟨P', z :: D, hq, by simpa using hPD, hkn', by simpa using hS, fun d hd => by
                rcases List.mem_cons.1 hd with rfl | h
                · exact hxz
                · exact hD d h, hV.swap hq⟩
            clear hI hD hS hPD hP
            go_upto_region 4 with fail
            go_quiet (first | (go_at_call 83; refine Calls.quiet_of_same (HL.out _ _ _)))
            go_upto_region 6 with fail
            have HI4 := hide (HI2.out.drewN nq)
            have a0 : (wr.drewN nq).cell? ⟨g, q + 1, none⟩ = some (.int .u64 (x : Int)) := by simpa using y0
            have a1 : (wr.drewN nq).cell? ⟨g, q, none⟩ = some (.int .u64 (z : Int)) := by simpa using y1
            have a2 : g < (wr.drewN nq).heap.size := by simpa using hgl
            have a3 := HI4.out.row.free (q + 1)
            have a4 := HI4.out.row.free q
            clear y0 y1 hgl HI2
            generalize wr.drewN nq = W4 at *
            go_region
            go_wp2
            go_roundw
            case rel => exact ⟨q, by omega, by go_num, NX.out _ HI4.out.drew⟩
            case measure => simp [intOf]
          · have hd : decide ((x : Int) < (z : Int)) = false := decide_eq_false (by omega)
            have FIN : Hid (∀ q, ISo B w g cap n xs (k + 1) (wr.drewN q)) := fun q => ISi.done hPD hkn' hS hD (hI.drewN q) (fun p hp => by
              rcases List.mem_append.1 hp with h | h
              · have h1 := (List.pairwise_append.1 (List.pairwise_append.1 hS).1).2.2 p h z (by simp)
                omega
              · simp at h; omega)
            clear hI hD hS hPD hP
            go_upto_region 4 with fail
            go_quiet (first | (go_at_call 83; refine Calls.quiet_of_same (HL.out _ _ _)))
            go_wp2
            go_roundw
            case rel => exact ⟨k + 1, by omega, by omega, by go_num, FIN.out _⟩
            case measure => simp [intOf]; omega
    · have FIN : Hid (∃ ys, ys.Pairwise (· ≤ ·) ∧ IS B w g cap xs ys wr) := by
        obtain ⟨zs, rest, h1, h2, h3, h4, h5⟩ := HJ.out
        have hre : rest = [] := by
          rcases h1 with h | h
          · exact List.eq_nil_of_length_eq_zero (by simp at h2; omega)
          · exact h4 h
        subst hre
        exact ⟨zs, h3, by simpa using h5⟩
      clear HJ
      go_wp2
      go_end0
      exact ⟨⟨_, rfl⟩, FIN.out⟩
end Go.Proofs.Ythfiafjhnidlkaa
