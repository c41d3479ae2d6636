import Derived.Test.YthfiafjhnidlkaaBSd
import Derived.Test.YthfiafjhnidlkaaBPh
import Derived.BigQuiet
namespace Go.Proofs.Ythfiafjhnidlkaa
open Go.RowKit

/-- A key of the reference's tally. -/
structure Kr where
  (n num : Nat) (node : Int) (fr : Nat)
def Kr.cells (r : Kr) : List Value := [.int .u64 (r.n : Int), .int .u64 (r.num : Int), .int .i64 r.node, .int .u32 (r.fr : Int)]
def krcells (L : List Kr) : List Value := (L.map Kr.cells).flatten
theorem krcells_len (L : List Kr) : (krcells L).length = L.length * 4 := by
  unfold krcells
  induction L with
  | nil => rfl
  | cons x t ih => simp only [List.map_cons, List.flatten_cons, List.length_append, ih, List.length_cons, Kr.cells]; simp; omega
theorem krcells_at : ∀ (L : List Kr) (i : Nat) (r : Kr), L[i]? = some r → ∀ j v, r.cells[j]? = some v → (krcells L)[i * 4 + j]? = some v
  | [], i, r, h => by simp at h
  | x :: t, 0, r, h => by
    simp at h
    subst h
    intro j v hj
    have hl := (List.getElem?_eq_some_iff.1 hj).1
    show (x.cells ++ krcells t)[0 * 4 + j]? = some v
    rw [Nat.zero_mul, Nat.zero_add, List.getElem?_append_left hl]
    exact hj
  | x :: t, i + 1, r, h => by
    intro j v hj
    have ih := krcells_at t i r (by simpa using h) j v hj
    show (x.cells ++ krcells t)[(i + 1) * 4 + j]? = some v
    have hx : x.cells.length = 4 := rfl
    rw [List.getElem?_append_right (by rw [hx]; omega), hx]
    rw [show (i + 1) * 4 + j - 4 = i * 4 + j by omega]
    exact ih
/-- Is it the key? -/
def Kr.is (r : Kr) (n num : Nat) (node : Int) : Bool := decide (r.n = n) && (decide (r.num = num) && decide (r.node = node))
/-- A tally of the reference: block pr; its list is v. -/
structure RT (W : World) (pr h B : Nat) (c : Cf) (v : Value) (L : List Kr) : Prop where
  blk : W.heap[pr]? = some (.cells #[.pointer (some ⟨h, 0, none⟩), v] 85 (0, 0))
  row : W.ownsRow B 124 4 v L.length (krcells L)
  gb : W.heap[h]? = some (.cells c.cells 131 (0, 0))
  ok : c.Ok
theorem RT.kept {W W' : World} {pr h B : Nat} {c : Cf} {v : Value} {L : List Kr} (r : RT W pr h B c v L) (hb : Below W.heap.size W W') : RT W' pr h B c v L :=
  ⟨(hb.block _ (block_lt r.blk)).trans r.blk, row_quietT r.row ⟨hb.os, hb.tape, hb.output, hb.size, fun i hi _ => hb.block i hi⟩, (hb.block _ (block_lt r.gb)).trans r.gb, r.ok⟩
theorem RT.grp {W : World} {pr h B : Nat} {c : Cf} {v : Value} {L : List Kr} (r : RT W pr h B c v L) : RefG W h c := ⟨(cfg_cells r.gb).1, (cfg_cells r.gb).2.2.2.1, (cfg_cells r.gb).2.2.2.2.2.2.2.2.1, (cfg_cells r.gb).2.2.2.2.2.2.2.2.2, r.ok⟩
theorem RT.list {W : World} {pr h B : Nat} {c : Cf} {v : Value} {L : List Kr} (r : RT W pr h B c v L) : ∃ ao cap, v = .slice ao L.length cap := by
  rcases r.row.2 with ⟨rfl, h0⟩ | ⟨g, cap, cur, rfl, _⟩
  · exact ⟨none, 0, by rw [h0]⟩
  · exact ⟨_, _, rfl⟩
theorem RT.get {W : World} {pr h B : Nat} {c : Cf} {v : Value} {L : List Kr} (r : RT W pr h B c v L) {i : Nat} (hi : i < L.length) : ∃ n num node fr g cap, L[i]? = some ⟨n, num, node, fr⟩ ∧ v = .slice (some ⟨g, 0, none⟩) L.length cap ∧ g < W.heap.size ∧
    W.cell? ⟨g, i * 4, none⟩ = some (.int .u64 ((n : Nat) : Int)) ∧ W.cell? ⟨g, i * 4 + 1, none⟩ = some (.int .u64 ((num : Nat) : Int)) ∧ W.cell? ⟨g, i * 4 + 2, none⟩ = some (.int .i64 node) ∧ W.cell? ⟨g, i * 4 + 3, none⟩ = some (.int .u32 ((fr : Nat) : Int)) := by
  obtain ⟨x, hx⟩ : ∃ x, L[i]? = some x := ⟨_, List.getElem?_eq_getElem hi⟩
  rcases r.row.2 with ⟨_, h0⟩ | ⟨g, cap, cur, rfl, _, hg, hnc, _, hcs, htake⟩
  · omega
  · have hc : ∀ j u, x.cells[j]? = some u → W.cell? ⟨g, i * 4 + j, none⟩ = some u := fun j u hj => by
      have h1 := krcells_at L i x hx j u hj
      have hj4 : j < 4 := (List.getElem?_eq_some_iff.1 hj).1
      rw [← htake, List.getElem?_take_of_lt (by omega)] at h1
      rw [block_cell hg]
      simpa using h1
    obtain ⟨n, num, node, fr⟩ := x
    exact ⟨n, num, node, fr, g, cap, hx, rfl, block_lt hg, hc 0 _ rfl, hc 1 _ rfl, hc 2 _ rfl, hc 3 _ rfl⟩
/-- What find hands out. -/
def FindP (L : List Kr) (n num : Nat) (node : Int) (z : Int) : Prop := (∃ (i : Nat) (r : Kr), L[i]? = some r ∧ r.is n num node = true ∧ z = (i : Int)) ∨ ((∀ r ∈ L, r.is n num node = false) ∧ z = -1)
set_option maxRecDepth 10000 in
set_option maxHeartbeats 1600000 in
theorem rfind {w : World} {pr h B : Nat} {c : Cf} {v : Value} {L : List Kr} (r : RT w pr h B c v L) (hL : L.length ≤ 64) (n num : Nat) (node : Int) :
    Calls Try.prog 66 #[.pointer (some ⟨pr, 0, none⟩), .int .u64 (n : Int), .agg #[.int .u64 (num : Int), .int .i64 node]] w fun e w' => ∃ z, e = .returned (.int .i64 z) ∧ Hid (FindP L n num node z ∧ Below w.heap.size w w') := by
  obtain ⟨W1, hW1⟩ : ∃ W1, w.alloc (.cells #[.int .u64 (num : Int), .int .i64 node] 36) = W1 := ⟨_, rfl⟩
  have b1 : Below w.heap.size w W1 := by rw [← hW1]; exact (Below.refl _ w).alloc (Nat.le_refl _) _
  have C1 : Hid (W1.heap[w.heap.size]? = some (.cells #[.int .u64 (num : Int), .int .i64 node] 36 (0, 0))) := by rw [← hW1]; exact alloc_atK _ _
  have HW1 := hide hW1
  have B1 := hide b1
  have R1 := hide (r.kept b1)
  have KF : Hid (∀ V, Below W1.heap.size W1 V → RT V pr h B c v L ∧ V.cell? ⟨pr, 1, none⟩ = some v ∧ pr < V.heap.size ∧ V.cell? ⟨w.heap.size, 0, none⟩ = some (.int .u64 (num : Int)) ∧ V.cell? ⟨w.heap.size, 1, none⟩ = some (.int .i64 node) ∧ w.heap.size < V.heap.size) := fun V hV => by
    have c1 := (hV.block _ (block_lt C1.out)).trans C1.out
    have r1 := R1.out.kept hV
    exact ⟨r1, block_cell r1.blk 1, block_lt r1.blk, block_cell c1 0, block_cell c1 1, block_lt c1⟩
  obtain ⟨ao, cap, hv⟩ := r.list
  subst hv
  clear r b1 hW1
  go_enter Try.func66, Try.ntmps66
  go_upto_region 1 with fail
  rw [HW1.out]
  clear HW1
  go_wp2
  go_loopw [7] (fun i wr => ∃ k : Nat, k ≤ L.length ∧ i = .int .i64 (k : Nat) ∧ Hid ((∀ (j : Nat) (x : Kr), j < k → L[j]? = some x → x.is n num node = false) ∧ Below W1.heap.size W1 wr)) (fun i _ => L.length - (intOf i).toNat)
  case atStart => exact ⟨0, by omega, rfl, fun j x hj => absurd hj (by omega), Below.refl _ _⟩
  case round =>
    obtain ⟨k, hk, rfl, HJ⟩ := hrel
    obtain ⟨r1, q1, q2, q3, q4, q5⟩ := KF.out _ HJ.out.2
    by_cases hlt : k < L.length
    · obtain ⟨a, u, d, f, g, cap', hx, hvv, hgl, y0, y1, y2, y3⟩ := r1.get hlt
      cases hvv
      have HX := hide hx
      have HR : Hid (∀ q, Below W1.heap.size W1 (wr.drewN q)) := fun q => Go.below_drewN HJ.out.2 q
      clear r1 hx y3
      by_cases h1 : a = n
      · subst h1
        have hbe := bal_eq (u : Int) (num : Int) d node
        by_cases h2 : u = num ∧ d = node
        · obtain ⟨rfl, rfl⟩ := h2
          have FIN : Hid (FindP L a u d (k : Int)) := .inl ⟨k, _, HX.out, by simp [Kr.is], rfl⟩
          simp at hbe
          go_wp2
          go_quiet (fail)
          go_wp2
          try rw [Exit.noGoto_ret]
          go_ret
          exact ⟨_, rfl, FIN.out, B1.out.trans ((HR.out _).mono B1.out.size)⟩
        · have hz : (decide ((u : Int) = (num : Int)) && decide (d = node)) = false := by
            by_cases h3 : u = num
            · have h4 : ¬ d = node := fun e => h2 ⟨h3, e⟩
              simp [h4]
            · simp; omega
          rw [hz] at hbe
          have NO : Hid (∀ (j : Nat) (x : Kr), j < k + 1 → L[j]? = some x → x.is a num node = false) := fun j x hj hx => by
            by_cases e : j = k
            · subst e
              rw [HX.out] at hx
              cases hx
              simp [Kr.is]
              exact fun e1 e2 => h2 ⟨e1, e2⟩
            · exact HJ.out.1 j x (by omega) hx
          clear hz h2
          go_wp2
          go_quiet (fail)
          go_wp2
          go_roundw
          case rel => exact ⟨k + 1, by omega, by go_num, NO.out, HR.out _⟩
          case measure => simp [intOf]; omega
      · have NO : Hid (∀ (j : Nat) (x : Kr), j < k + 1 → L[j]? = some x → x.is n num node = false) := fun j x hj hx => by
          by_cases e : j = k
          · subst e
            rw [HX.out] at hx
            cases hx
            simp [Kr.is]
            exact fun e1 => absurd e1 h1
          · exact HJ.out.1 j x (by omega) hx
        have d1 : ((a : Int) == (n : Int)) = false := by simp; omega
        go_wp2
        go_quiet (fail)
        go_wp2
        go_roundw
        case rel => exact ⟨k + 1, by omega, by go_num, NO.out, HR.out _⟩
        case measure => simp [intOf]; omega
    · have FIN : Hid (FindP L n num node (-1)) := .inr ⟨fun x hx => by
        obtain ⟨j, hj⟩ := List.getElem?_of_mem hx
        exact HJ.out.1 j x (by have := (List.getElem?_eq_some_iff.1 hj).1; omega) hj, rfl⟩
      clear r1
      go_wp2
      go_ret
      exact ⟨_, rfl, FIN.out, B1.out.trans (HJ.out.2.mono B1.out.size)⟩
end Go.Proofs.Ythfiafjhnidlkaa
