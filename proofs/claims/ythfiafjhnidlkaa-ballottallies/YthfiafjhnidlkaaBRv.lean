import Derived.Test.YthfiafjhnidlkaaBRu
import Derived.Test.YthfiafjhnidlkaaBKb
import Derived.Test.YthfiafjhnidlkaaBVi
import Derived.Deep.DeepAppendWide
import Derived.BigQuiet
namespace Go.Proofs.Ythfiafjhnidlkaa
open Go.RowKit

theorem infoKey : (Try.prog.info? 124).map (fun i => (i.zero, i.size, i.bytes)) = some (some (.agg #[.int .u64 0, .int .u64 0, .int .i64 0, .int .u32 0]), 4, 32) := by kernel_rfl
theorem ownsRow_base {B B' size k : Nat} {e : TypeId} {W : World} {v : Value} {xs : List Value} (h : W.ownsRow B' e size v k xs) (hB : B ≤ B') : W.ownsRow B e size v k xs := by
  refine ⟨h.1, ?_⟩
  rcases h.2 with h0 | ⟨g, cap, cur, e1, hbg, h2⟩
  · exact .inl h0
  · exact .inr ⟨g, cap, cur, e1, Nat.le_trans hB hbg, h2⟩
theorem row_tally {B k : Nat} {w : World} {v : Value} {xs : List Value} {j : Nat} {X : Array Value} (h : w.ownsRow B 124 4 v k xs) (hX : w.heap[j]? = some (.cells X 85 (0, 0))) : v.ownBlock ≠ some j := fun e => by
  rcases h.2 with ⟨rfl, _⟩ | ⟨g', cap, cur, rfl, _, hb, _⟩
  · cases e
  · cases e
    rw [hb] at hX
    cases hX
theorem below_grownR {w w' : World} (h : Below w.heap.size w w') : w.grownBy w' none := ⟨h.os, h.tape, h.output, h.size, fun i hi _ => h.block i hi⟩
theorem below_grownS {w w' : World} (h : Below w.heap.size w w') (x : Option Nat) : w.grownBy w' x := ⟨h.os, h.tape, h.output, h.size, fun i hi _ => h.block i hi⟩
theorem krcells_snoc (L : List Kr) (x : Kr) : krcells (L ++ [x]) = krcells L ++ x.cells := by simp [krcells]
/-- A list without a key. -/
def krDrop (L : List Kr) (n num : Nat) (node : Int) : List Kr := L.filter (fun r => !r.is n num node)
theorem krDrop_yes {L : List Kr} {n num : Nat} {node : Int} {k : Nat} {r : Kr} (h : L[k]? = some r) (hr : r.is n num node = true) : krDrop (L.take (k + 1)) n num node = krDrop (L.take k) n num node := by
  unfold krDrop
  rw [List.take_add_one, h, List.filter_append]
  simp [hr]
theorem krDrop_no {L : List Kr} {n num : Nat} {node : Int} {k : Nat} {r : Kr} (h : L[k]? = some r) (hr : r.is n num node = false) : krDrop (L.take (k + 1)) n num node = krDrop (L.take k) n num node ++ [r] := by
  unfold krDrop
  rw [List.take_add_one, h, List.filter_append]
  simp [hr]
theorem krDrop_le (L : List Kr) (n num : Nat) (node : Int) : (krDrop L n num node).length ≤ L.length := List.length_filter_le _ _
set_option maxRecDepth 10000 in
set_option maxHeartbeats 3200000 in
theorem rdrop {w : World} {pr h B : Nat} {c : Cf} {v : Value} {L : List Kr} (r : RT w pr h B c v L) (hL : L.length ≤ 64) (hB : B ≤ w.heap.size) (n num : Nat) (node : Int) :
    Calls Try.prog 61 #[.pointer (some ⟨pr, 0, none⟩), .int .u64 (n : Int), .agg #[.int .u64 (num : Int), .int .i64 node]] w fun e w' => (∃ u, e = .returned u) ∧ Hid (∃ v', RT w' pr h B c v' (krDrop L n num node) ∧ w.grownBy w' (some pr) ∧ ∀ j, v'.ownBlock = some j → w.heap.size ≤ j) := by
  obtain ⟨i0, hi0, hz0, hz1, hz2⟩ := info_parts infoKey
  obtain ⟨W1, hW1⟩ : ∃ W1, w.alloc (.cells #[.int .u64 (num : Int), .int .i64 node] 36) = W1 := ⟨_, rfl⟩
  have b1 : Below w.heap.size w W1 := by rw [← hW1]; exact (Below.refl _ w).alloc (Nat.le_refl _) _
  have C1 : Hid (W1.heap[w.heap.size]? = some (.cells #[.int .u64 (num : Int), .int .i64 node] 36 (0, 0))) := by rw [← hW1]; exact alloc_atK _ _
  have HW1 := hide hW1
  have B1 := hide b1
  have R1 := hide (r.kept b1)
  have HB := hide hB
  have KF : Hid (∀ V, Below W1.heap.size W1 V → RT V pr h B c v L ∧ V.cell? ⟨pr, 1, none⟩ = some v ∧ pr < V.heap.size ∧ V.cell? ⟨w.heap.size, 0, none⟩ = some (.int .u64 (num : Int)) ∧ V.cell? ⟨w.heap.size, 1, none⟩ = some (.int .i64 node) ∧ w.heap.size < V.heap.size) := fun V hV => by
    have c1 := (hV.block _ (block_lt C1.out)).trans C1.out
    have r1 := R1.out.kept hV
    exact ⟨r1, block_cell r1.blk 1, block_lt r1.blk, block_cell c1 0, block_cell c1 1, block_lt c1⟩
  obtain ⟨ao, cap, hv⟩ := r.list
  subst hv
  clear r b1 hW1 hB
  go_enter Try.func61, Try.ntmps61
  go_upto_region 1 with fail
  rw [HW1.out]
  clear HW1
  go_wp2
  go_loopw [6, 7] (fun l i wr => ∃ k : Nat, k ≤ L.length ∧ i = .int .i64 (k : Nat) ∧ Hid (wr.ownsRow W1.heap.size 124 4 l (krDrop (L.take k) n num node).length (krcells (krDrop (L.take k) n num node)) ∧ Below W1.heap.size W1 wr)) (fun _ i _ => L.length - (intOf i).toNat)
  case atStart => exact ⟨0, by omega, rfl, ⟨rfl, .inl ⟨rfl, rfl⟩⟩, Below.refl _ _⟩
  case round =>
    obtain ⟨k, hk, rfl, HJ⟩ := hrel
    obtain ⟨r1, q1, q2, q3, q4, q5⟩ := KF.out _ HJ.out.2
    by_cases hlt : k < L.length
    · obtain ⟨a, u, d, f, g, cap', hx, hvv, hgl, y0, y1, y2, y3⟩ := r1.get hlt
      cases hvv
      have HX := hide hx
      clear r1 hx
      have hlk : (krDrop (L.take k) n num node).length ≤ 64 := Nat.le_trans (krDrop_le _ _ _ _) (by rw [List.length_take]; omega)
      have hbe := bal_neq (u : Int) (num : Int) d node
      by_cases hs : (⟨a, u, d, f⟩ : Kr).is n num node = true
      · have NX : Hid (∀ q, (wr.drewN q).ownsRow W1.heap.size 124 4 u6 (krDrop (L.take (k + 1)) n num node).length (krcells (krDrop (L.take (k + 1)) n num node)) ∧ Below W1.heap.size W1 (wr.drewN q)) := fun q => by
          rw [krDrop_yes HX.out hs]
          exact ⟨row_quietT HJ.out.1 (below_grownR (Go.below_drewN (Below.refl _ wr) q)), Go.below_drewN HJ.out.2 q⟩
        have h3 : a = n ∧ u = num ∧ d = node := by simpa [Kr.is] using hs
        obtain ⟨rfl, rfl, rfl⟩ := h3
        simp at hbe
        clear hs
        go_wp2
        go_quiet (fail)
        go_wp2
        go_roundw
        case rel => exact ⟨k + 1, by omega, by go_num, NX.out _⟩
        case measure => simp [intOf]; omega
      · have hs' : (⟨a, u, d, f⟩ : Kr).is n num node = false := by simpa using hs
        have HS := hide hs'
        by_cases h1 : a = n
        · have h2 : (!(decide ((u : Int) = (num : Int)) && decide (d = node))) = true := by
            subst h1
            simp [Kr.is] at hs'
            by_cases h3 : u = num
            · simp [h3, hs' h3]
            · simp; omega
          rw [h2] at hbe
          have d1 : ((a : Int) != (n : Int)) = false := by simp [h1]
          have d2 := hide h1
          clear hs hs' h2 h1
          go_wp2
          go_quiet (fail)
          have HJ4 := hide (And.intro (row_quietT HJ.out.1 (below_grownR (Go.below_drewN (Below.refl _ wr) nq))) (Go.below_drewN HJ.out.2 nq))
          have p0 : (wr.drewN nq).cell? ⟨g, k * 4, none⟩ = some (.int .u64 (a : Int)) := by simpa using y0
          have p1 : (wr.drewN nq).cell? ⟨g, k * 4 + 1, none⟩ = some (.int .u64 (u : Int)) := by simpa using y1
          have p2 : (wr.drewN nq).cell? ⟨g, k * 4 + 2, none⟩ = some (.int .i64 d) := by simpa using y2
          have p3 : (wr.drewN nq).cell? ⟨g, k * 4 + 3, none⟩ = some (.int .u32 (f : Int)) := by simpa using y3
          have p4 : (wr.drewN nq).cell? ⟨pr, 1, none⟩ = some (.slice (some ⟨g, 0, none⟩) L.length cap) := by simpa using q1
          have p5 : g < (wr.drewN nq).heap.size := by simpa using hgl
          have p6 : pr < (wr.drewN nq).heap.size := by simpa using q2
          clear y0 y1 y2 y3 q1 q2 q3 q4 q5 hgl HJ hbe
          generalize wr.drewN nq = W4 at *
          have HOW : Hid (∀ o, (W4.alloc o).ownsRow W1.heap.size 124 4 u6 (krDrop (L.take k) n num node).length (krcells (krDrop (L.take k) n num node))) := fun o => row_quietT HJ4.out.1 (World.grownBy_alloc _ _ none)
          have HSZ : Hid (W1.heap.size ≤ W4.heap.size) := HJ4.out.2.size
          have HNX : Hid (∀ (v' : Value) (w5 : World) (o : Obj), w5.ownsRow W1.heap.size 124 4 v' ((krDrop (L.take k) n num node).length + 1) (krcells (krDrop (L.take k) n num node) ++ [.int .u64 (a : Int), .int .u64 (u : Int), .int .i64 d, .int .u32 (f : Int)]) → (W4.alloc o).grownBy w5 u6.ownBlock →
              w5.ownsRow W1.heap.size 124 4 v' (krDrop (L.take (k + 1)) n num node).length (krcells (krDrop (L.take (k + 1)) n num node)) ∧ Below W1.heap.size W1 w5) := fun v' w5 o ho hg => by
            rw [krDrop_no HX.out HS.out, krcells_snoc, List.length_append]
            have b1 : Below W1.heap.size W1 (W4.alloc o) := HJ4.out.2.alloc HJ4.out.2.size _
            exact ⟨ho, b1.grown hg b1.size (fun j e => ((HOW.out o).lt j e).1)⟩
          clear HX HJ4
          generalize krcells (krDrop (L.take k) n num node) = KC at *
          generalize (krDrop (L.take k) n num node).length = KN at *
          go_wp2_with (first
            | (at_builtin; refine wpList_append_own_wide _ rfl (.tmp 39) (.tmp 47) 83 rfl W1.heap.size 124 i0 (.agg #[.int .u64 0, .int .u64 0, .int .i64 0, .int .u32 0]) 4 32 Try.underlying83 hi0 hz0 hz1 hz2 rfl (by decide) u6 KN KC rfl (HOW.out _) ⟨W4.heap.size, 0, none⟩ 1 1 [.int .u64 (a : Int), .int .u64 (u : Int), .int .i64 d, .int .u32 (f : Int)] rfl rfl (cells_newK _ _ _) (by simp [Value.oneCell']) (by unfold maxLen; omega) (by omega) (by have := HSZ.out; simp; omega) ?_; intro v' w5 ho hg _; have NX := hide (HNX.out _ _ _ ho hg); obtain ⟨g', cap2, rfl⟩ := ownsRow_succ ho; clear ho hg HNX HOW))
          go_roundw
          case rel => exact ⟨k + 1, by omega, by go_num, NX.out⟩
          case measure => simp [intOf]; omega
        · have d1 : ((a : Int) != (n : Int)) = true := by simp; omega
          clear hs hs'
          go_wp2
          go_quiet (fail)
          have HJ4 := hide (And.intro (row_quietT HJ.out.1 (below_grownR (Go.below_drewN (Below.refl _ wr) nq))) (Go.below_drewN HJ.out.2 nq))
          have p0 : (wr.drewN nq).cell? ⟨g, k * 4, none⟩ = some (.int .u64 (a : Int)) := by simpa using y0
          have p1 : (wr.drewN nq).cell? ⟨g, k * 4 + 1, none⟩ = some (.int .u64 (u : Int)) := by simpa using y1
          have p2 : (wr.drewN nq).cell? ⟨g, k * 4 + 2, none⟩ = some (.int .i64 d) := by simpa using y2
          have p3 : (wr.drewN nq).cell? ⟨g, k * 4 + 3, none⟩ = some (.int .u32 (f : Int)) := by simpa using y3
          have p4 : (wr.drewN nq).cell? ⟨pr, 1, none⟩ = some (.slice (some ⟨g, 0, none⟩) L.length cap) := by simpa using q1
          have p5 : g < (wr.drewN nq).heap.size := by simpa using hgl
          have p6 : pr < (wr.drewN nq).heap.size := by simpa using q2
          clear y0 y1 y2 y3 q1 q2 q3 q4 q5 hgl HJ hbe
          generalize wr.drewN nq = W4 at *
          have HOW : Hid (∀ o, (W4.alloc o).ownsRow W1.heap.size 124 4 u6 (krDrop (L.take k) n num node).length (krcells (krDrop (L.take k) n num node))) := fun o => row_quietT HJ4.out.1 (World.grownBy_alloc _ _ none)
          have HSZ : Hid (W1.heap.size ≤ W4.heap.size) := HJ4.out.2.size
          have HNX : Hid (∀ (v' : Value) (w5 : World) (o : Obj), w5.ownsRow W1.heap.size 124 4 v' ((krDrop (L.take k) n num node).length + 1) (krcells (krDrop (L.take k) n num node) ++ [.int .u64 (a : Int), .int .u64 (u : Int), .int .i64 d, .int .u32 (f : Int)]) → (W4.alloc o).grownBy w5 u6.ownBlock →
              w5.ownsRow W1.heap.size 124 4 v' (krDrop (L.take (k + 1)) n num node).length (krcells (krDrop (L.take (k + 1)) n num node)) ∧ Below W1.heap.size W1 w5) := fun v' w5 o ho hg => by
            rw [krDrop_no HX.out HS.out, krcells_snoc, List.length_append]
            have b1 : Below W1.heap.size W1 (W4.alloc o) := HJ4.out.2.alloc HJ4.out.2.size _
            exact ⟨ho, b1.grown hg b1.size (fun j e => ((HOW.out o).lt j e).1)⟩
          clear HX HJ4
          generalize krcells (krDrop (L.take k) n num node) = KC at *
          generalize (krDrop (L.take k) n num node).length = KN at *
          go_wp2_with (first
            | (at_builtin; refine wpList_append_own_wide _ rfl (.tmp 39) (.tmp 47) 83 rfl W1.heap.size 124 i0 (.agg #[.int .u64 0, .int .u64 0, .int .i64 0, .int .u32 0]) 4 32 Try.underlying83 hi0 hz0 hz1 hz2 rfl (by decide) u6 KN KC rfl (HOW.out _) ⟨W4.heap.size, 0, none⟩ 1 1 [.int .u64 (a : Int), .int .u64 (u : Int), .int .i64 d, .int .u32 (f : Int)] rfl rfl (cells_newK _ _ _) (by simp [Value.oneCell']) (by unfold maxLen; omega) (by omega) (by have := HSZ.out; simp; omega) ?_; intro v' w5 ho hg _; have NX := hide (HNX.out _ _ _ ho hg); obtain ⟨g', cap2, rfl⟩ := ownsRow_succ ho; clear ho hg HNX HOW))
          go_roundw
          case rel => exact ⟨k + 1, by omega, by go_num, NX.out⟩
          case measure => simp [intOf]; omega
    · obtain rfl : k = L.length := by omega
      obtain ⟨lo, ln, lc, hu6⟩ : ∃ lo ln lc, u6 = .slice lo ln lc := by
        rcases HJ.out.1.2 with ⟨h0, _⟩ | ⟨g', cap2, cur, h0, _⟩
        · exact ⟨_, _, _, h0⟩
        · exact ⟨_, _, _, h0⟩
      subst hu6
      have FIN : Hid (∃ v', RT (wr.setCell ⟨pr, 1, none⟩ (.slice lo ln lc)) pr h B c v' (krDrop L n num node) ∧ w.grownBy (wr.setCell ⟨pr, 1, none⟩ (.slice lo ln lc)) (some pr) ∧ ∀ j, v'.ownBlock = some j → w.heap.size ≤ j) := by
        have hrow := HJ.out.1
        rw [List.take_length] at hrow
        have gs := grown_set wr pr 1 (.slice lo ln lc)
        have hne : h ≠ pr := fun e => by
          have h1 := r1.gb
          rw [e, r1.blk] at h1
          cases h1
        refine ⟨.slice lo ln lc, ⟨heap_setCell_same wr pr 1 _ _ _ r1.blk, ownsRow_base (hrow.kept gs (.inr (row_tally hrow r1.blk))) (Nat.le_trans HB.out B1.out.size), (gs.block _ (block_lt r1.gb) (fun e => hne (Option.some.inj e))).trans r1.gb, r1.ok⟩, grown_trans (below_grownS B1.out _) (grown_trans (below_grownS HJ.out.2 _) gs), fun j e => Nat.le_trans B1.out.size (hrow.lt j e).1⟩
      have q6 := block_free r1.blk 1
      clear r1 HJ
      go_wp2
      go_end0
      exact ⟨⟨_, rfl⟩, FIN.out⟩
end Go.Proofs.Ythfiafjhnidlkaa
