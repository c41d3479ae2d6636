import Derived.Test.YthacdhhmmmocpaaGreatDoorKAsD
import Derived.Deep.RegionHeld
namespace Go.Proofs.YthacdhhmmmocpaaGreatDoor
open Go.RowKit

theorem grown_weakK {a b : World} (h : a.grownBy b none) (g : Nat) : a.grownBy b (some g) := ⟨h.os, h.tape, h.output, h.size, fun i hi _ => h.block i hi (by simp)⟩
def dealN : ByteArray := ⟨#[100, 101, 97, 108]⟩
def wireN : ByteArray := ⟨#[119, 105, 114, 101]⟩
theorem IsFault.chain {w : World} {v : Value} {a c : Int} (h : IsFault w v a c) : Chain w.heap.size w [⟨wireN, a⟩] v c := by
  obtain ⟨g, rfl, h0, h1, h2⟩ := h
  have hlt : g < w.heap.size := by
    rcases Nat.lt_or_ge g w.heap.size with h | h
    · exact h
    · simp [World.cell?, Array.getElem?_eq_none h] at h0
  exact ⟨g, _, rfl, hlt, h0, h1, h2, rfl⟩
set_option maxRecDepth 10000 in
theorem refusalD {w : World} {L : List Lk} {u : Value} {c : Int} (at_ : Int) (h : Chain w.heap.size w L u c) : Calls Tryz.prog 14 #[.int .i64 at_, u] w fun e w' => ∃ g, e = .returned (.iface 87 (.pointer (some ⟨g, 0, none⟩))) ∧ Hid (Chain w'.heap.size w' (⟨dealN, at_⟩ :: L) (.iface 87 (.pointer (some ⟨g, 0, none⟩))) c ∧ Below w.heap.size w w') := by
  have hw : w.heap.size < (w.alloc (.cells #[.string ⟨#[100, 101, 97, 108]⟩, .int .i64 at_, u] 89)).heap.size := by simp
  have hb : Below w.heap.size w (w.alloc (.cells #[.string ⟨#[100, 101, 97, 108]⟩, .int .i64 at_, u] 89)) := (Below.refl _ w).alloc (Nat.le_refl _) _
  have FIN : Hid (Chain (w.alloc (.cells #[.string ⟨#[100, 101, 97, 108]⟩, .int .i64 at_, u] 89)).heap.size (w.alloc (.cells #[.string ⟨#[100, 101, 97, 108]⟩, .int .i64 at_, u] 89)) (⟨dealN, at_⟩ :: L) (.iface 87 (.pointer (some ⟨w.heap.size, 0, none⟩))) c) :=
    ⟨w.heap.size, u, rfl, hw, World.cell?_alloc_new w _ _ 0, World.cell?_alloc_new w _ _ 1, World.cell?_alloc_new w _ _ 2, (Chain.below hb h).wide (Nat.le_of_lt hw)⟩
  obtain ⟨t, x, rfl⟩ : ∃ t x, u = .iface t x := by
    cases L with
    | nil => exact ⟨_, _, h⟩
    | cons l r => obtain ⟨g, _, e, _⟩ := h; exact ⟨_, _, e⟩
  clear h
  go_enter Tryz.func14, Tryz.ntmps14
  go_wp2
  go_ret
  exact ⟨_, rfl, FIN.out, hb⟩
set_option maxRecDepth 10000 in
set_option maxHeartbeats 1600000 in
theorem place_any {w : World} {v : Value} {a c : Int} (hg : ErrT w) (h : IsFault w v a c) : Calls Tryz.prog 60 #[v] w fun e w' => e = .returned (.tuple #[.int .i64 a, .int .i64 c]) ∧ Hid (Below w.heap.size w w') := by
  obtain ⟨g, rfl, h0, h1, h2⟩ := h
  have hlt : g < w.heap.size := by
    rcases Nat.lt_or_ge g w.heap.size with h | h
    · exact h
    · simp [World.cell?, Array.getElem?_eq_none h] at h0
  obtain ⟨W2, hW2⟩ : ∃ W2, (w.alloc (.cells #[.pointer none] 87)).alloc (.cells #[.int .i64 0] 47) = W2 := ⟨_, rfl⟩
  have e1 : (w.alloc (.cells #[.pointer none] 87)).heap.size = w.heap.size + 1 := by simp
  have b2 : Below w.heap.size w W2 := by rw [← hW2]; exact ((Below.refl _ w).alloc (Nat.le_refl _) _).alloc (by simp) _
  have q1 : W2.heap[w.heap.size + 1]? = some (.cells #[.int .i64 0] 47 (0, 0)) := by rw [← hW2, ← e1]; exact alloc_atK _ _
  have q0 : W2.heap[w.heap.size]? = some (.cells #[.pointer none] 87 (0, 0)) := by rw [← hW2]; exact ((World.grownBy_alloc _ _ none).block _ (by rw [e1]; omega) (by simp)).trans (alloc_atK _ _)
  have HA1 := hide (as_fault ⟨g, 0, none⟩ ⟨w.heap.size, 0, none⟩ (.pointer none) W2 ((b2.cell (p := ⟨0, 0, none⟩) hg.lt).trans hg) (block_cell q0 0) (block_free q0 0))
  have S2 := hide (And.intro b2 (And.intro q0 q1))
  have HW2 := hide hW2
  have HG := hide hg
  have HC := hide (And.intro h1 h2)
  clear b2 q0 q1 hW2 e1 hg h0 h1 h2
  go_enter Tryz.func60, Tryz.ntmps60
  go_wp2_with fail
  rw [HW2.out]
  refine HA1.out.mono ?_
  rintro e W3 ⟨rfl, hW3⟩
  obtain ⟨b2, q0, q1⟩ := S2.out
  have g3 : W2.grownBy W3 (some w.heap.size) := by rw [hW3]; exact grown_trans (row := some w.heap.size) (grown_weakK (grown_quiet (grown_quiet (grown_quiet (World.grownBy_alloc _ _ none) (World.grownBy_alloc _ _ none)) (World.grownBy_alloc _ _ none)) (World.grownBy_alloc _ _ none)) _) (grown_set _ _ _ _)
  have z0 : W3.heap[w.heap.size]? = some (.cells #[.pointer (some ⟨g, 0, none⟩)] 87 (0, 0)) := by
    have g4 : W2.grownBy ((((W2.alloc (.cells #[.pointer (some ⟨w.heap.size, 0, none⟩)] 123)).alloc (.cells #[.pointer (some ⟨1, 123, none⟩), .pointer (some ⟨W2.heap.size, 0, none⟩), .int .u64 150] 134)).alloc (.cells #[.pointer (some ⟨1, 123, none⟩), .pointer (some ⟨W2.heap.size, 0, none⟩), .int .u64 150] 134)).alloc (.cells #[.pointer (some ⟨g, 0, none⟩)] 87)) none := grown_quiet (grown_quiet (grown_quiet (World.grownBy_alloc _ _ none) (World.grownBy_alloc _ _ none)) (World.grownBy_alloc _ _ none)) (World.grownBy_alloc _ _ none)
    rw [hW3, heap_setCell_same _ w.heap.size 0 _ _ _ ((g4.block _ (block_lt q0) (by simp)).trans q0)]
    rfl
  have z1 := (g3.block _ (block_lt q1) (by simp)).trans q1
  have b3 : Below w.heap.size w W3 := b2.grown g3 b2.size (fun k e => by cases e; exact Nat.le_refl _)
  have HA2 := hide (as_errno g ⟨w.heap.size + 1, 0, none⟩ c (.int .i64 0) W3 ((b3.cell (p := ⟨0, 0, none⟩) HG.out.lt).trans HG.out) ((b3.cell (p := ⟨g, 2, none⟩) hlt).trans HC.out.2) (block_cell z1 0) (block_free z1 0))
  have S3 := hide (And.intro b3 (And.intro z0 z1))
  clear b2 q0 q1 g3 z0 z1 b3 hW3 HA1 S2 HW2
  go_wp2_with fail
  refine HA2.out.mono ?_
  rintro e W4 ⟨rfl, hW4⟩
  obtain ⟨b3, z0, z1⟩ := S3.out
  obtain ⟨W5, g5, hW5⟩ : ∃ W5, W3.grownBy W5 none ∧ W4 = W5.setCell ⟨w.heap.size + 1, 0, none⟩ (.int .i64 c) := ⟨_, grown_quiet (grown_quiet (grown_quiet (World.grownBy_alloc _ _ none) (World.grownBy_alloc _ _ none)) (World.grownBy_alloc _ _ none)) (World.grownBy_alloc _ _ none), hW4⟩
  have y1 : W4.heap[w.heap.size + 1]? = some (.cells #[.int .i64 c] 47 (0, 0)) := by
    rw [hW5, heap_setCell_same _ (w.heap.size + 1) 0 _ _ _ ((g5.block _ (block_lt z1) (by simp)).trans z1)]
    rfl
  have g6 : W3.grownBy W4 (some (w.heap.size + 1)) := by rw [hW5]; exact grown_trans (row := some (w.heap.size + 1)) (grown_weakK g5 _) (grown_set _ _ _ _)
  have y0 := (g6.block _ (block_lt z0) (by simp)).trans z0
  have b4 : Below w.heap.size w W4 := b3.grown g6 b3.size (fun k e => by cases e; omega)
  have r0 := block_cell y0 0
  have r1 := block_cell y1 0
  have ra := (b4.cell (p := ⟨g, 1, none⟩) hlt).trans HC.out.1
  simp at r0 r1
  have HB := hide b4
  clear b3 z0 z1 hW4 hW5 g5 y1 g6 y0 b4 HA2 S3
  go_wp2_with fail
  go_region_held (fun V => V.cell? ⟨w.heap.size, 0, none⟩ = some (.pointer (some ⟨g, 0, none⟩)) ∧ V.cell? ⟨w.heap.size + 1, 0, none⟩ = some (.int .i64 c) ∧ V.cell? ⟨g, 1, none⟩ = some (.int .i64 a)) (go_keep) (fail)
  all_goals go_wp2
  all_goals go_ret2
  all_goals exact ⟨rfl, Go.below_drewN HB.out 1⟩
set_option maxRecDepth 10000 in
set_option maxHeartbeats 800000 in
/-- A fault of layer wire as what is behind a refusal of this layer. -/
theorem behind_any {w : World} {v : Value} {a c : Int} (hg : ErrT w) (h : IsFault w v a c) : Calls Tryz.prog 37 #[v] w fun e w' => ∃ g, e = .returned (.iface 87 (.pointer (some ⟨g, 0, none⟩))) ∧ Hid (Chain w'.heap.size w' [⟨dealN, a⟩, ⟨wireN, a⟩] (.iface 87 (.pointer (some ⟨g, 0, none⟩))) c ∧ Below w.heap.size w w') := by
  have HP := hide (place_any hg h)
  have HC := hide h.chain
  obtain ⟨g, rfl, -⟩ := h
  clear hg
  go_enter Tryz.func37, Tryz.ntmps37
  go_wp2_with fail
  refine HP.out.mono ?_
  rintro e w1 ⟨rfl, hb⟩
  have HR := hide (refusalD a ((Chain.below hb.out HC.out).wide hb.out.size))
  go_wp2_with fail
  refine HR.out.mono ?_
  rintro e w2 ⟨g2, rfl, G2⟩
  go_wp2
  go_ret
  exact ⟨_, rfl, G2.out.1, hb.out.trans (G2.out.2.mono hb.out.size)⟩
end Go.Proofs.YthacdhhmmmocpaaGreatDoor
namespace Go.Proofs.YthacdhhmmmocpaaGreatDoor
open Go.RowKit

/-- A command. -/
structure Cd where
  (verb : Int) (deal acct to_ arb amt due : Nat) (terms : ByteArray)
def Cd.cells (c : Cd) : Array Value := #[.int .i64 c.verb, .int .u64 (c.deal : Int), .int .u64 (c.acct : Int), .int .u64 (c.to_ : Int), .int .u64 (c.arb : Int), .int .u64 (c.amt : Int), .int .u64 (c.due : Int), .string c.terms]
def Cd.num (c : Cd) : Nat → Nat
  | 1 => c.deal
  | 2 => c.acct
  | 3 => c.to_
  | 4 => c.arb
  | 5 => c.amt
  | 6 => c.due
  | _ => 0
structure Cd.Ok (c : Cd) : Prop where
  v1 : -9223372036854775808 ≤ c.verb
  v2 : c.verb < 9223372036854775808
  num : ∀ f, c.num f < 18446744073709551616
  terms : c.terms.size ≤ 140737488351232
/-- The fields that a verb uses. -/
def fds (v : Int) : List Nat := if v = 1 then [2, 5] else if v = 3 then [2, 3, 5] else if v = 4 then [1, 2, 3, 4, 5, 6, 7] else if v = 2 ∨ v = 12 then [2] else if v = 11 ∨ v = 13 then [1] else [1, 5]
def fieldsV (L : List Nat) : List Value := L.map fun (f : Nat) => .int .i64 (f : Int)
theorem verb_cases {v : Int} (h1 : 1 ≤ v) (h2 : v ≤ 13) : v = 1 ∨ v = 2 ∨ v = 3 ∨ v = 4 ∨ v = 5 ∨ v = 6 ∨ v = 7 ∨ v = 8 ∨ v = 9 ∨ v = 10 ∨ v = 11 ∨ v = 12 ∨ v = 13 := by omega
set_option maxRecDepth 10000 in
theorem fieldsOf_any (v : Int) (h1 : 1 ≤ v) (h2 : v ≤ 13) (w : World) : Calls Tryz.prog 19 #[.int .i64 v] w fun e w' => e = .returned (.slice (some ⟨w.heap.size, 0, none⟩) (fds v).length (fds v).length) ∧ w' = w.alloc (.cells (fieldsV (fds v)).toArray 3) := by
  rcases verb_cases h1 h2 with rfl | rfl | rfl | rfl | rfl | rfl | rfl | rfl | rfl | rfl | rfl | rfl | rfl
  all_goals
    clear h1 h2
    go_enter Tryz.func19, Tryz.ntmps19
    go_wp2
    go_ret
    exact ⟨rfl, rfl⟩
set_option maxRecDepth 10000 in
theorem isVerb_any (v : Int) (w : World) : Calls Tryz.prog 13 #[.int .i64 v] w fun e w' => e = .returned (.bool (decide (1 ≤ v ∧ v ≤ 13))) ∧ w' = w := by
  by_cases h1 : 1 ≤ v
  · by_cases h2 : v ≤ 13
    · rw [decide_eq_true (And.intro h1 h2)]
      go_enter Tryz.func13, Tryz.ntmps13
      go_wp2
      go_ret
      exact ⟨rfl, rfl⟩
    · rw [decide_eq_false (fun h => h2 h.2)]
      have h3 : 13 < v := by omega
      go_enter Tryz.func13, Tryz.ntmps13
      go_wp2
      go_ret
      exact ⟨rfl, rfl⟩
  · rw [decide_eq_false (fun h => h1 h.1)]
    have h3 : v < 1 := by omega
    go_enter Tryz.func13, Tryz.ntmps13
    go_wp2
    go_ret
    exact ⟨rfl, rfl⟩
/-- Numbers in a block of their own. -/
def Ints (w : World) (b : Nat) (L : List Nat) : Prop := ∀ (i f : Nat), L[i]? = some f → w.cell? ⟨b, i, none⟩ = some (.int .i64 (f : Int))
theorem ints_new (w : World) (L : List Nat) (t : TypeId) : Ints (w.alloc (.cells (fieldsV L).toArray t)) w.heap.size L := fun i f h => by
  rw [World.cell?_alloc_new w _ _ i]
  simp [fieldsV, h]
theorem Ints.heap {w w' : World} {b : Nat} {L : List Nat} (h : Ints w b L) (e : w'.heap[b]? = w.heap[b]?) : Ints w' b L := fun i f hf => by
  have := h i f hf
  simp only [World.cell?, e] at this ⊢
  exact this
set_option maxRecDepth 10000 in
set_option maxHeartbeats 800000 in
theorem index_any (w : World) (b : Nat) (L : List Nat) (n cap : Nat) (hn : n = L.length) (hl : n ≤ 100) (hcap : n ≤ cap) (h : Ints w b L) (f : Nat) :
    Calls Tryz.prog 68 #[.slice (some ⟨b, 0, none⟩) n cap, .int .i64 (f : Int)] w fun e w' => ∃ r : Int, e = .returned (.int .i64 r) ∧ w' = w ∧ Hid (0 ≤ r ↔ f ∈ L) := by
  have H := hide h
  have HN := hide hn
  clear h hn
  go_enter Tryz.func68, Tryz.ntmps68
  go_wp2
  go_loopw [8] (fun i wr => wr = w ∧ ∃ k : Nat, k ≤ n ∧ i = .int .i64 k ∧ Hid (∀ j, j < k → L[j]? ≠ some f)) (fun i _ => n - (intOf i).toNat)
  case atStart => exact ⟨rfl, 0, by omega, rfl, fun j hj => by omega⟩
  case round =>
    obtain ⟨rfl, k, hk, rfl, HS⟩ := hrel
    by_cases hlt : k < n
    · obtain ⟨x, hx⟩ : ∃ x, L[k]? = some x := ⟨_, List.getElem?_eq_getElem (by rw [← HN.out]; exact hlt)⟩
      have c0 := H.out k x hx
      have HX := hide hx
      clear hx
      by_cases he : (f : Int) = (x : Int)
      · rw [← he] at c0
        go_wp2
        go_ret
        refine ⟨_, rfl, rfl, ⟨fun _ => ?_, fun _ => by omega⟩⟩
        have e2 : f = x := by omega
        rw [e2]
        exact List.mem_of_getElem? HX.out
      · go_wp2
        go_roundw
        case rel =>
          refine ⟨by first | rfl | trivial, k + 1, by omega, by go_num, fun j hj => ?_⟩
          by_cases hjk : j < k
          · exact HS.out j hjk
          · obtain rfl : j = k := by omega
            rw [HX.out]
            intro e
            exact he (by rw [Option.some.inj e])
        case measure => simp [intOf]; omega
    · obtain rfl : k = n := by omega
      go_wp2
      go_ret
      refine ⟨_, rfl, rfl, ⟨fun h => by omega, fun h => ?_⟩⟩
      obtain ⟨j, hj⟩ := List.getElem?_of_mem h
      have := (List.getElem?_eq_some_iff.1 hj).1
      exact absurd hj (HS.out j (by have := HN.out; omega))
set_option maxRecDepth 10000 in
set_option maxHeartbeats 400000 in
theorem contains_q (w : World) (b : Nat) (n cap : Nat) (fi : Int) (q : Bool) (HI : Hid (Calls Tryz.prog 68 #[.slice (some ⟨b, 0, none⟩) n cap, .int .i64 fi] w fun e w' => ∃ r : Int, e = .returned (.int .i64 r) ∧ Hid (w' = w ∧ decide (r ≥ 0) = q))) :
    Calls Tryz.prog 46 #[.slice (some ⟨b, 0, none⟩) n cap, .int .i64 fi] w fun e w' => e = .returned (.bool q) ∧ w' = w := by
  go_enter Tryz.func46, Tryz.ntmps46
  go_wp2_with fail
  refine HI.out.mono ?_
  rintro e w1 ⟨r, rfl, HR⟩
  rw [HR.out.1]
  go_wp2
  go_ret
  exact ⟨by rw [HR.out.2]; rfl, rfl⟩
theorem contains_any (w : World) (b : Nat) (L : List Nat) (n cap : Nat) (hn : n = L.length) (hl : n ≤ 100) (hcap : n ≤ cap) (h : Ints w b L) (f : Nat) :
    Calls Tryz.prog 46 #[.slice (some ⟨b, 0, none⟩) n cap, .int .i64 (f : Int)] w fun e w' => e = .returned (.bool (decide (f ∈ L))) ∧ w' = w :=
  contains_q w b n cap f _ ((index_any w b L n cap hn hl hcap h f).mono (fun _ _ ⟨r, e, hw, HR⟩ => ⟨r, e, hw, by simp only [ge_iff_le, HR.out]⟩))
end Go.Proofs.YthacdhhmmmocpaaGreatDoor
