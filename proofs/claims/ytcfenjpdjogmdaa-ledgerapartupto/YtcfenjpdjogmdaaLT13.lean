import Derived.Test.YtcfenjpdjogmdaaLT09
import Derived.Test.YtcfenjpdjogmdaaLT03
import Derived.BigRegion
import Derived.BigQuiet
import Derived.Deep.Cut
import Derived.RangeFuncBox
namespace Go.Proofs.Ytcfenjpdjogmdaa
open Go.RowKit

set_option maxRecDepth 10000 in
set_option maxHeartbeats 800000 in
theorem isNaNZ (x : Int) (w : World) : Calls Try.prog 99 #[.int .u64 x] w fun e w' => e = .returned (.bool false) ∧ w' = w := by
  go_enter Try.func99, Try.ntmps99
  go_wp2
  go_ret
  exact ⟨rfl, rfl⟩
set_option maxRecDepth 10000 in
set_option maxHeartbeats 800000 in
theorem lessZ (x y : Int) (w : World) : Calls Try.prog 89 #[.int .u64 x, .int .u64 y] w fun e w' => e = .returned (.bool (decide (x < y))) ∧ w' = w := by
  have HN := hide isNaNZ
  go_enter Try.func89, Try.ntmps89
  go_wp2_with (go_at_call 99; refine (HN.out _ _).mono ?_; rintro e w' ⟨rfl, rfl⟩)
  go_ret
  exact ⟨rfl, rfl⟩
/-- n numbers in a block of their own, from its first cell on. -/
def RowF (W : World) (g cap n : Nat) (D : Nat → Nat) : Prop := ∃ cur : Array Value, W.heap[g]? = some (.cells cur 25 (0, 0)) ∧ cur.size = cap ∧ n ≤ cap ∧ ∀ i, i < n → cur[i]? = some (.int .u64 (D i : Nat))
theorem RowF.cell {W : World} {g cap n : Nat} {D : Nat → Nat} (h : RowF W g cap n D) {i : Nat} (hi : i < n) : W.cell? ⟨g, i, none⟩ = some (.int .u64 (D i : Nat)) := by
  obtain ⟨cur, h1, _, _, h4⟩ := h
  rw [block_cell h1]
  exact h4 i hi
theorem RowF.lt {W : World} {g cap n : Nat} {D : Nat → Nat} (h : RowF W g cap n D) : g < W.heap.size := by
  obtain ⟨cur, h1, _⟩ := h
  exact block_lt h1
theorem RowF.free {W : World} {g cap n : Nat} {D : Nat → Nat} (h : RowF W g cap n D) (i : Nat) : W.frozen? ⟨g, i, none⟩ = false := by
  obtain ⟨cur, h1, _⟩ := h
  exact block_free h1 i
theorem RowF.set {W : World} {g cap n : Nat} {D : Nat → Nat} (h : RowF W g cap n D) (i y : Nat) : RowF (W.setCell ⟨g, i, none⟩ (.int .u64 (y : Nat))) g cap n (fun k => if k = i then y else D k) := by
  obtain ⟨cur, h1, h2, h3, h4⟩ := h
  refine ⟨_, heap_setCell_same W g i _ _ _ h1, by simpa using h2, h3, fun j hj => ?_⟩
  by_cases e : i = j
  · subst e
    simp only [Array.getElem?_setIfInBounds_self]
    rw [if_pos (by omega)]
    simp
  · rw [Array.getElem?_setIfInBounds_ne e, h4 j hj]
    have e' : ¬ j = i := fun h => e h.symm
    simp [e']
theorem RowF.swap {W : World} {g cap n : Nat} {D : Nat → Nat} (h : RowF W g cap n D) (i j : Nat) : RowF ((W.setCell ⟨g, i, none⟩ (.int .u64 (D j : Nat))).setCell ⟨g, j, none⟩ (.int .u64 (D i : Nat))) g cap n (swp D i j) := by
  have r := (h.set i (D j)).set j (D i)
  have e : (fun k => if k = j then D i else (fun k => if k = i then D j else D k) k) = swp D i j := by
    funext k
    show (if k = j then D i else if k = i then D j else D k) = if k = i then D j else if k = j then D i else D k
    by_cases e1 : k = j
    · by_cases e2 : k = i
      · rw [if_pos e1, if_pos e2, ← e1, ← e2]
      · rw [if_pos e1, if_neg e2, if_pos e1]
    · rw [if_neg e1, if_neg e1]
  rw [e] at r
  exact r
/-- The state of a sort that began at w with D0 and turns no place but [a, b). -/
structure ZS (B : Nat) (w : World) (g cap n a b : Nat) (D0 : Nat → Nat) (W : World) (D : Nat → Nat) : Prop where
  row : RowF W g cap n D
  perm : PermR a b D0 D
  bel : Below B w W
  bg : B ≤ g
theorem ZS.begin {B : Nat} {w : World} {g cap n : Nat} {D : Nat → Nat} (a b : Nat) (h : RowF w g cap n D) (hB : B ≤ g) : ZS B w g cap n a b D w D := ⟨h, PermR.refl _ _ _, Below.refl _ _, hB⟩
theorem ZS.drewN {B : Nat} {w : World} {g cap n a b : Nat} {D0 D : Nat → Nat} {W : World} (h : ZS B w g cap n a b D0 W D) (q : Nat) : ZS B w g cap n a b D0 (W.drewN q) D := by
  refine ⟨?_, h.perm, Go.below_drewN h.bel q, h.bg⟩
  obtain ⟨cur, h1, h2⟩ := h.row
  exact ⟨cur, by simpa using h1, h2⟩
theorem ZS.drew {B : Nat} {w : World} {g cap n a b : Nat} {D0 D : Nat → Nat} {W : World} (h : ZS B w g cap n a b D0 W D) : ZS B w g cap n a b D0 W.drew D := ⟨h.row, h.perm, h.bel.drew, h.bg⟩
theorem ZS.swap {B : Nat} {w : World} {g cap n a b : Nat} {D0 D : Nat → Nat} {W : World} (h : ZS B w g cap n a b D0 W D) {i j : Nat} (h1 : a ≤ i) (h2 : i < b) (h3 : a ≤ j) (h4 : j < b) : ZS B w g cap n a b D0 ((W.setCell ⟨g, i, none⟩ (.int .u64 (D j : Nat))).setCell ⟨g, j, none⟩ (.int .u64 (D i : Nat))) (swp D i j) :=
  ⟨h.row.swap i j, h.perm.trans (PermR.swp D h1 h2 h3 h4), (h.bel.setCell (p := ⟨g, i, none⟩) h.bg _).setCell (p := ⟨g, j, none⟩) h.bg _, h.bg⟩
/-- A call that began here, inside of [a, b). -/
theorem ZS.call {B : Nat} {w : World} {g cap n a b a' b' : Nat} {D0 D D' : Nat → Nat} {W W' : World} (h : ZS B w g cap n a b D0 W D) (h' : ZS B W g cap n a' b' D W' D') (ha : a ≤ a') (hb : b' ≤ b) : ZS B w g cap n a b D0 W' D' :=
  ⟨h'.row, h.perm.trans (h'.perm.wide ha hb), h.bel.trans h'.bel, h.bg⟩
end Go.Proofs.Ytcfenjpdjogmdaa
namespace Go.Proofs.Ytcfenjpdjogmdaa
open Go.RowKit

theorem RowF.kept {W V : World} {g cap n : Nat} {D : Nat → Nat} (h : RowF W g cap n D) (e : V.heap[g]? = W.heap[g]?) : RowF V g cap n D := by
  obtain ⟨cur, h1, h2⟩ := h
  exact ⟨cur, e.trans h1, h2⟩
/-- The numbers lie as they lay; the count of swaps lies at p. -/
structure ZP (B : Nat) (w : World) (g cap n p : Nat) (D : Nat → Nat) (W : World) : Prop where
  row : RowF W g cap n D
  sw : ∃ t : Int, W.heap[p]? = some (.cells #[.int .i64 t] 3 (0, 0))
  bel : Below B w W
theorem ZP.drewN {B : Nat} {w : World} {g cap n p : Nat} {D : Nat → Nat} {W : World} (h : ZP B w g cap n p D W) (q : Nat) : ZP B w g cap n p D (W.drewN q) := by
  refine ⟨h.row.kept (by simp), ?_, Go.below_drewN h.bel q⟩
  obtain ⟨t, ht⟩ := h.sw
  exact ⟨t, by simpa using ht⟩
theorem ZP.set {B : Nat} {w : World} {g cap n p : Nat} {D : Nat → Nat} {W : World} (h : ZP B w g cap n p D W) (hp : B ≤ p) (t : Int) : ZP B w g cap n p D (W.setCell ⟨p, 0, none⟩ (.int .i64 t)) := by
  obtain ⟨s, hs⟩ := h.sw
  have hne : g ≠ p := fun e => by
    obtain ⟨cur, h1, _⟩ := h.row
    rw [e, hs] at h1
    cases h1
  refine ⟨h.row.kept ?_, ⟨t, ?_⟩, h.bel.setCell (p := ⟨p, 0, none⟩) hp _⟩
  · exact heap_setCell_other W _ _ _ hne
  · have h := heap_setCell_same W p 0 _ _ (.int .i64 t) hs
    simpa using h
theorem ZP.trans {B : Nat} {w : World} {g cap n p : Nat} {D : Nat → Nat} {W V : World} (h : ZP B w g cap n p D W) (h' : ZP B W g cap n p D V) : ZP B w g cap n p D V := ⟨h'.row, h'.sw, h.bel.trans h'.bel⟩
set_option maxRecDepth 100000 in
set_option maxHeartbeats 1000000 in
theorem order2Z (B g cap n a b p : Nat) (D : Nat → Nat) (ha : a < n) (hb : b < n) (hpB : B ≤ p) (w : World) (hr : ZP B w g cap n p D w) :
    Calls Try.prog 100 #[.slice (some ⟨g, 0, none⟩) n cap, .int .i64 (a : Nat), .int .i64 (b : Nat), .pointer (some ⟨p, 0, none⟩)] w fun e w' => ∃ (x y : Nat), e = .returned (.tuple #[.int .i64 (x : Nat), .int .i64 (y : Nat)]) ∧ Hid (((x = a ∧ y = b) ∨ (x = b ∧ y = a)) ∧ ZP B w g cap n p D w') := by
  have HL := hide lessZ
  have HZ := hide hr
  obtain ⟨x, hx⟩ : ∃ x, D a = x := ⟨_, rfl⟩
  obtain ⟨z, hz⟩ : ∃ z, D b = z := ⟨_, rfl⟩
  have y0 : w.cell? ⟨g, a, none⟩ = some (.int .u64 (x : Int)) := by rw [← hx]; exact hr.row.cell ha
  have y1 : w.cell? ⟨g, b, none⟩ = some (.int .u64 (z : Int)) := by rw [← hz]; exact hr.row.cell hb
  have y2 : g < w.heap.size := hr.row.lt
  clear hr hx hz
  go_enter Try.func100, Try.ntmps100
  by_cases hd : z < x
  · go_upto_region 1 with fail
    go_quiet (first | (go_at_call 89; refine Calls.quiet_of_same (HL.out _ _ _)))
    have HZ2 := hide (HZ.out.drewN nq)
    obtain ⟨t, ht⟩ := HZ2.out.sw
    have c0 := block_cell ht 0
    have c1 := block_free ht 0
    have c2 := block_lt ht
    simp only [List.getElem?_toArray, List.getElem?_cons_zero] at c0
    clear y0 y1 y2 ht HZ
    generalize w.drewN nq = W3 at *
    go_wp2
    go_ret2
    exact ⟨b, a, rfl, .inr ⟨rfl, rfl⟩, HZ2.out.set hpB _⟩
  · go_upto_region 1 with fail
    go_quiet (first | (go_at_call 89; refine Calls.quiet_of_same (HL.out _ _ _)))
    have HZ2 := hide (HZ.out.drewN nq)
    clear y0 y1 y2 HZ
    generalize w.drewN nq = W3 at *
    go_wp2
    go_ret2
    exact ⟨a, b, rfl, .inl ⟨rfl, rfl⟩, HZ2.out⟩
end Go.Proofs.Ytcfenjpdjogmdaa
namespace Go.Proofs.Ytcfenjpdjogmdaa
open Go.RowKit

set_option maxRecDepth 100000 in
set_option maxHeartbeats 1000000 in
theorem medianZ (B g cap n a b c p : Nat) (D : Nat → Nat) (ha : a < n) (hb : b < n) (hc : c < n) (hpB : B ≤ p) (w : World) (hr : ZP B w g cap n p D w) :
    Calls Try.prog 98 #[.slice (some ⟨g, 0, none⟩) n cap, .int .i64 (a : Nat), .int .i64 (b : Nat), .int .i64 (c : Nat), .pointer (some ⟨p, 0, none⟩)] w fun e w' => ∃ (x : Nat), e = .returned (.int .i64 (x : Nat)) ∧ Hid ((x = a ∨ x = b ∨ x = c) ∧ ZP B w g cap n p D w') := by
  have HO := hide (fun (a b : Nat) (ha : a < n) (hb : b < n) (V : World) (h : ZP B V g cap n p D V) => order2Z B g cap n a b p D ha hb hpB V h)
  have HZ := hide hr
  have HI := hide (And.intro ha (And.intro hb hc))
  clear hr hpB
  have H1 := hide (HO.out a b ha hb w HZ.out)
  clear ha hb hc
  go_enter Try.func98, Try.ntmps98
  go_wp2_with fail
  refine H1.out.mono ?_
  rintro e w1 ⟨a1, b1, rfl, G1⟩
  have Z1 : Hid (ZP B w g cap n p D w1) := G1.out.2
  have HI1 : Hid ((a1 = a ∨ a1 = b) ∧ (b1 = a ∨ b1 = b)) := by rcases G1.out.1 with h | h <;> exact ⟨by omega, by omega⟩
  have H2 := hide (HO.out b1 c (by have := HI1.out; have := HI.out; omega) HI.out.2.2 w1 ⟨Z1.out.row, Z1.out.sw, Below.refl _ _⟩)
  clear H1 G1
  go_wp2_with fail
  refine H2.out.mono ?_
  rintro e w2 ⟨b2, c2, rfl, G2⟩
  have Z2 : Hid (ZP B w g cap n p D w2) := Z1.out.trans G2.out.2
  have HI2 : Hid ((b2 = a ∨ b2 = b ∨ b2 = c)) := by
    have h := HI1.out
    rcases G2.out.1 with h2 | h2
    · show _ ∨ _; omega
    · show _ ∨ _; omega
  have H3 := hide (HO.out a1 b2 (by have := HI1.out; have := HI.out; omega) (by have := HI2.out; have := HI.out; omega) w2 ⟨Z2.out.row, Z2.out.sw, Below.refl _ _⟩)
  clear H2 G2 Z1
  go_wp2_with fail
  refine H3.out.mono ?_
  rintro e w3 ⟨a3, b3, rfl, G3⟩
  have Z3 : Hid (ZP B w g cap n p D w3) := Z2.out.trans G3.out.2
  have HI3 : Hid ((b3 = a ∨ b3 = b ∨ b3 = c)) := by
    have h := HI1.out
    have h2 := HI2.out
    rcases G3.out.1 with h3 | h3
    · show _ ∨ _; omega
    · show _ ∨ _; omega
  clear H3 G3 Z2 HO
  go_wp2
  go_ret
  exact ⟨b3, rfl, HI3.out, Z3.out⟩
set_option maxRecDepth 100000 in
set_option maxHeartbeats 1000000 in
theorem medianAdjZ (B g cap n a p : Nat) (D : Nat → Nat) (ha : 1 ≤ a) (hb : a + 1 < n) (hn : n < 2305843009213693952) (hpB : B ≤ p) (w : World) (hr : ZP B w g cap n p D w) :
    Calls Try.prog 97 #[.slice (some ⟨g, 0, none⟩) n cap, .int .i64 (a : Nat), .pointer (some ⟨p, 0, none⟩)] w fun e w' => ∃ (x : Nat), e = .returned (.int .i64 (x : Nat)) ∧ Hid (a ≤ x + 1 ∧ x ≤ a + 1 ∧ ZP B w g cap n p D w') := by
  obtain ⟨m, rfl⟩ : ∃ m, a = m + 1 := ⟨a - 1, by omega⟩
  have HM := hide (medianZ B g cap n m (m + 1) (m + 2) p D (by omega) (by omega) (by omega) hpB w hr)
  have i1 : ((m + 1 : Nat) : Int) + 1 = ((m + 2 : Nat) : Int) := by omega
  have i2 : ((m + 1 : Nat) : Int) - 1 = ((m : Nat) : Int) := by omega
  clear hr hpB
  go_enter Try.func97, Try.ntmps97
  go_wp2_with fail
  refine HM.out.mono ?_
  rintro e w1 ⟨x, rfl, G⟩
  have HX : Hid (m + 1 ≤ x + 1 ∧ x ≤ m + 1 + 1) := by rcases G.out.1 with h | h | h <;> exact ⟨by omega, by omega⟩
  clear HM i1 i2
  go_wp2
  go_ret
  exact ⟨x, rfl, HX.out.1, HX.out.2, G.out.2⟩
set_option maxRecDepth 100000 in
set_option maxHeartbeats 1000000 in
theorem chooseZ (B g cap n a b : Nat) (D : Nat → Nat) (hl : a + 12 < b) (hb : b ≤ n) (hn : n < 2305843009213693952) (hB : B ≤ g) (w : World) (hr : RowF w g cap n D) :
    Calls Try.prog 86 #[.slice (some ⟨g, 0, none⟩) n cap, .int .i64 (a : Nat), .int .i64 (b : Nat)] w fun e w' => ∃ (x : Nat) (h : Int), e = .returned (.tuple #[.int .i64 (x : Nat), .int .i64 h]) ∧ Hid (a ≤ x ∧ x < b ∧ RowF w' g cap n D ∧ Below B w w') := by
  have HMD := hide (fun (p a b c : Nat) (ha : a < n) (hb : b < n) (hc : c < n) (hp : B ≤ p) (V : World) (h : ZP B V g cap n p D V) => medianZ B g cap n a b c p D ha hb hc hp V h)
  have HAD := hide (fun (p a : Nat) (ha : 1 ≤ a) (hb : a + 1 < n) (hp : B ≤ p) (V : World) (h : ZP B V g cap n p D V) => medianAdjZ B g cap n a p D ha hb hn hp V h)
  obtain ⟨W2, hW2⟩ : ∃ W2, w.alloc (.cells #[.int .i64 0] 3) = W2 := ⟨_, rfl⟩
  have Z2 : Hid (ZP B w g cap n w.heap.size D W2) := by
    rw [← hW2]
    exact ⟨hr.kept ((World.grownBy_alloc _ _ none).block _ hr.lt (by simp)), ⟨0, by simp [World.alloc, -World.alloc_eq]⟩, ((Below.refl _ w).alloc (Nat.le_refl _) _).mono (Nat.le_of_lt (Nat.lt_of_le_of_lt hB hr.lt))⟩
  have hBs : B ≤ w.heap.size := Nat.le_of_lt (Nat.lt_of_le_of_lt hB hr.lt)
  have HW2 := hide hW2
  have HM := hide (fun (a b c : Nat) (ha : a < n) (hb : b < n) (hc : c < n) (V : World) (h : ZP B V g cap n w.heap.size D V) => HMD.out w.heap.size a b c ha hb hc hBs V h)
  have HA := hide (fun (a : Nat) (ha : 1 ≤ a) (hb : a + 1 < n) (V : World) (h : ZP B V g cap n w.heap.size D V) => HAD.out w.heap.size a ha hb hBs V h)
  obtain ⟨l, hle⟩ : ∃ l, a + l = b := ⟨b - a, by omega⟩
  obtain ⟨q, hq⟩ : ∃ q, l / 4 = q := ⟨_, rfl⟩
  obtain ⟨i0, hi0⟩ : ∃ i0, a + q = i0 := ⟨_, rfl⟩
  obtain ⟨j0, hj0⟩ : ∃ j0, a + q * 2 = j0 := ⟨_, rfl⟩
  obtain ⟨k0, hk0⟩ : ∃ k0, a + q * 3 = k0 := ⟨_, rfl⟩
  have HB : Hid (a + l = b ∧ l / 4 = q ∧ a + q = i0 ∧ a + q * 2 = j0 ∧ a + q * 3 = k0 ∧ b ≤ n ∧ 12 < l) := ⟨hle, hq, hi0, hj0, hk0, hb, by omega⟩
  have e1 : (b : Int) - (a : Int) = (l : Int) := by omega
  have e2 : (l : Int) / 4 = (q : Int) := by omega
  have e3 : (a : Int) + (q : Int) = (i0 : Int) := by omega
  have e4 : (a : Int) + (q : Int) * 2 = (j0 : Int) := by omega
  have e5 : (a : Int) + (q : Int) * 3 = (k0 : Int) := by omega
  have hl8 : 8 ≤ l := by omega
  clear hr hB hBs HMD HAD hW2 hq hi0 hj0 hk0
  go_enter Try.func86, Try.ntmps86
  go_upto_region 7 with fail
  rw [HW2.out]
  clear HW2 e1 e2 e3 e4 e5 hle hl hb hn
  by_cases h50 : 50 ≤ l
  · have H50 := hide h50
    have H3 := hide (HA.out i0 (by have := HB.out; have := H50.out; omega) (by have := HB.out; have := H50.out; omega) W2 ⟨Z2.out.row, Z2.out.sw, Below.refl _ _⟩)
    go_wp2_with fail
    refine H3.out.mono ?_
    rintro e w3 ⟨x3, rfl, G3⟩
    have Z3 : Hid (ZP B w g cap n w.heap.size D w3) := Z2.out.trans G3.out.2.2
    have X3 : Hid (i0 ≤ x3 + 1 ∧ x3 ≤ i0 + 1) := ⟨G3.out.1, G3.out.2.1⟩
    clear H3 G3
    have H4 := hide (HA.out j0 (by have := HB.out; have := H50.out; omega) (by have := HB.out; have := H50.out; omega) w3 ⟨Z3.out.row, Z3.out.sw, Below.refl _ _⟩)
    go_wp2_with fail
    refine H4.out.mono ?_
    rintro e w4 ⟨x4, rfl, G4⟩
    have Z4 : Hid (ZP B w g cap n w.heap.size D w4) := Z3.out.trans G4.out.2.2
    have X4 : Hid (j0 ≤ x4 + 1 ∧ x4 ≤ j0 + 1) := ⟨G4.out.1, G4.out.2.1⟩
    clear H4 G4
    have H5 := hide (HA.out k0 (by have := HB.out; have := H50.out; omega) (by have := HB.out; have := H50.out; omega) w4 ⟨Z4.out.row, Z4.out.sw, Below.refl _ _⟩)
    go_wp2_with fail
    refine H5.out.mono ?_
    rintro e w5 ⟨x5, rfl, G5⟩
    have Z5 : Hid (ZP B w g cap n w.heap.size D w5) := Z4.out.trans G5.out.2.2
    have X5 : Hid (k0 ≤ x5 + 1 ∧ x5 ≤ k0 + 1) := ⟨G5.out.1, G5.out.2.1⟩
    clear H5 G5
    have H6 := hide (HM.out x3 x4 x5 (by have := HB.out; have := X3.out; have := H50.out; omega) (by have := HB.out; have := X4.out; have := H50.out; omega) (by have := HB.out; have := X5.out; have := H50.out; omega) w5 ⟨Z5.out.row, Z5.out.sw, Below.refl _ _⟩)
    go_wp2_with fail
    refine H6.out.mono ?_
    rintro e w9 ⟨x, rfl, G6⟩
    have Z9 : Hid (ZP B w g cap n w.heap.size D w9) := Z5.out.trans G6.out.2
    have HX : Hid (a ≤ x ∧ x < b) := by
      have h1 := HB.out
      have h2 := X3.out
      have h3 := X4.out
      have h4 := X5.out
      have h5 := H50.out
      rcases G6.out.1 with h | h | h <;> exact ⟨by omega, by omega⟩
    clear H6 G6 Z3 Z4 Z5 X3 X4 X5
    go_upto_region 12 with fail
    obtain ⟨t, ht⟩ := Z9.out.sw
    have c0 := block_cell ht 0
    have c2 := block_lt ht
    simp only [List.getElem?_toArray, List.getElem?_cons_zero] at c0
    have FIN : Hid (a ≤ x ∧ x < b ∧ RowF w9 g cap n D ∧ Below B w w9) := ⟨by have := HX.out; have := HB.out; omega, by have := HX.out; have := HB.out; omega, Z9.out.row, Z9.out.bel⟩
    clear ht Z9 HX
    by_cases t0 : t = 0
    · subst t0
      go_wp2
      go_ret2
      exact ⟨x, _, rfl, FIN.out⟩
    · have d0 : (t == 0) = false := by simp [t0]
      by_cases t1 : t = 12
      · subst t1
        go_wp2
        go_ret2
        exact ⟨x, _, rfl, FIN.out⟩
      · have d1 : (t == 12) = false := by simp [t1]
        go_wp2
        go_ret2
        exact ⟨x, _, rfl, FIN.out⟩
  · have H6 := hide (HM.out i0 j0 k0 (by have := HB.out; omega) (by have := HB.out; omega) (by have := HB.out; omega) W2 ⟨Z2.out.row, Z2.out.sw, Below.refl _ _⟩)
    go_wp2_with fail
    refine H6.out.mono ?_
    rintro e w9 ⟨x, rfl, G6⟩
    have Z9 : Hid (ZP B w g cap n w.heap.size D w9) := Z2.out.trans G6.out.2
    have HX : Hid (a ≤ x ∧ x < b) := by
      have h1 := HB.out
      rcases G6.out.1 with h | h | h <;> exact ⟨by omega, by omega⟩
    clear H6 G6
    go_upto_region 12 with fail
    obtain ⟨t, ht⟩ := Z9.out.sw
    have c0 := block_cell ht 0
    have c2 := block_lt ht
    simp only [List.getElem?_toArray, List.getElem?_cons_zero] at c0
    have FIN : Hid (a ≤ x ∧ x < b ∧ RowF w9 g cap n D ∧ Below B w w9) := ⟨by have := HX.out; have := HB.out; omega, by have := HX.out; have := HB.out; omega, Z9.out.row, Z9.out.bel⟩
    clear ht Z9 HX
    by_cases t0 : t = 0
    · subst t0
      go_wp2
      go_ret2
      exact ⟨x, _, rfl, FIN.out⟩
    · have d0 : (t == 0) = false := by simp [t0]
      by_cases t1 : t = 12
      · subst t1
        go_wp2
        go_ret2
        exact ⟨x, _, rfl, FIN.out⟩
      · have d1 : (t == 12) = false := by simp [t1]
        go_wp2
        go_ret2
        exact ⟨x, _, rfl, FIN.out⟩
end Go.Proofs.Ytcfenjpdjogmdaa
namespace Go.Proofs.Ytcfenjpdjogmdaa
open Go.RowKit

set_option maxRecDepth 100000 in
set_option maxHeartbeats 1000000 in
theorem reverseZ (B g cap n a b : Nat) (D0 : Nat → Nat) (hn : n < 2305843009213693952) (hab : a < b) (hbn : b ≤ n) (w : World) (hr : RowF w g cap n D0) (hB : B ≤ g) :
    Calls Try.prog 87 #[.slice (some ⟨g, 0, none⟩) n cap, .int .i64 (a : Nat), .int .i64 (b : Nat)] w fun e w' => e = .returned (.tuple #[]) ∧ Hid (∃ D, ZS B w g cap n a b D0 w' D) := by
  obtain ⟨l, rfl⟩ : ∃ l, b = l + 1 := ⟨b - 1, by omega⟩
  have I0 : Hid (∃ D, ZS B w g cap n a (l + 1) D0 w D) := ⟨D0, ZS.begin _ _ hr hB⟩
  clear hr hB
  go_enter Try.func87, Try.ntmps87
  go_wp2
  go_loopw [6, 7] (fun i j wr => ∃ p q : Nat, a ≤ p ∧ p ≤ q + 1 ∧ q ≤ l ∧ i = .int .i64 (p : Nat) ∧ j = .int .i64 (q : Nat) ∧ Hid (∃ D, ZS B w g cap n a (l + 1) D0 wr D)) (fun i j _ => (intOf j - intOf i).toNat)
  case atStart => exact ⟨a, l, Nat.le_refl _, by omega, Nat.le_refl _, rfl, by go_num, I0.out⟩
  case round =>
    obtain ⟨p, q, h1, h2, h3, rfl, rfl, HJ⟩ := hrel
    clear I0
    by_cases hlt : p < q
    · obtain ⟨s, rfl⟩ : ∃ s, q = s + 1 := ⟨q - 1, by omega⟩
      obtain ⟨D, hZ⟩ := HJ.out
      obtain ⟨x, hx⟩ : ∃ x, D p = x := ⟨_, rfl⟩
      obtain ⟨z, hz⟩ : ∃ z, D (s + 1) = z := ⟨_, rfl⟩
      have NX : Hid (∀ V, ZS B w g cap n a (l + 1) D0 V D → ∃ D', ZS B w g cap n a (l + 1) D0 ((V.setCell ⟨g, p, none⟩ (.int .u64 (z : Int))).setCell ⟨g, s + 1, none⟩ (.int .u64 (x : Int))) D') := fun V hV => by
        refine ⟨swp D p (s + 1), ?_⟩
        have h := hV.swap (i := p) (j := s + 1) (by omega) (by omega) (by omega) (by omega)
        rw [hx, hz] at h
        exact h
      have a0 : wr.cell? ⟨g, p, none⟩ = some (.int .u64 (x : Int)) := by rw [← hx]; exact hZ.row.cell (by omega)
      have a1 : wr.cell? ⟨g, s + 1, none⟩ = some (.int .u64 (z : Int)) := by rw [← hz]; exact hZ.row.cell (by omega)
      have a2 : g < wr.heap.size := hZ.row.lt
      have a3 := hZ.row.free p
      have a4 := hZ.row.free (s + 1)
      have HZ := hide hZ
      clear hZ HJ hx hz
      go_upto_region 3 with fail
      go_region
      go_wp2
      go_roundw
      case rel => exact ⟨p + 1, s, by omega, by omega, by omega, by go_num, by go_num, NX.out _ HZ.out.drew⟩
      case measure => simp [intOf]; omega
    · have FIN := hide HJ.out
      clear HJ
      go_wp2
      go_end0
      exact ⟨rfl, FIN.out⟩
end Go.Proofs.Ytcfenjpdjogmdaa
