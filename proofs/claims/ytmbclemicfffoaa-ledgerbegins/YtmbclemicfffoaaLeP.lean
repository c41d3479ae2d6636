import Derived.Test.YtmbclemicfffoaaLeO
namespace Go.Proofs.Ytmbclemicfffoaa
open Go.RowKit

set_option maxRecDepth 10000 in
set_option maxHeartbeats 800000 in
theorem samehol_nilA (w : World) : Calls Try.prog 32 #[.slice none 0 0, .slice none 0 0] w fun e w' => e = .returned (.bool true) ∧ w' = w := by
  go_enter Try.func32, Try.ntmps32
  go_wp2
  go_loopw [5] (fun i wr => i = .int .i64 0 ∧ Hid (wr = w)) (fun _ _ => 0)
  case atStart => exact ⟨rfl, rfl⟩
  case round =>
    obtain ⟨rfl, HW⟩ := hrel
    go_wp2
    go_ret
    exact ⟨rfl, HW.out⟩
set_option maxRecDepth 10000 in
set_option maxHeartbeats 800000 in
theorem samelin_nilA (w : World) : Calls Try.prog 33 #[.slice none 0 0, .slice none 0 0] w fun e w' => e = .returned (.bool true) ∧ w' = w := by
  go_enter Try.func33, Try.ntmps33
  go_wp2
  go_loopw [5] (fun i wr => i = .int .i64 0 ∧ Hid (wr = w)) (fun _ _ => 0)
  case atStart => exact ⟨rfl, rfl⟩
  case round =>
    obtain ⟨rfl, HW⟩ := hrel
    go_wp2
    go_ret
    exact ⟨rfl, HW.out⟩
set_option maxRecDepth 10000 in
set_option maxHeartbeats 3200000 in
theorem sameImgA {w : World} (SI : Int) {b off b' off' : Nat} {ao ao' : Option Addr} (n cap cap' : Nat) {l : List Ac} (hn : n = l.length) (h : Acs w b off l) (h' : Acs w b' off' l) (hao : 0 < n → ao = some ⟨b, off, none⟩ ∧ ao' = some ⟨b', off', none⟩) (hbw : 0 < n → b < w.heap.size ∧ b' < w.heap.size) (hle : n ≤ 4398046510976) :
    Calls Try.prog 14 #[.agg #[.int .u64 SI, .int .u64 1, .slice ao n cap, .slice none 0 0, .slice none 0 0], .agg #[.int .u64 SI, .int .u64 1, .slice ao' n cap', .slice none 0 0, .slice none 0 0]] w fun e w' => e = .returned (.bool true) ∧ Hid (Below w.heap.size w w') := by
  obtain ⟨W1, hW1⟩ : ∃ W1, (w.alloc (.cells #[.int .u64 SI, .int .u64 1, .slice ao n cap, .slice none 0 0, .slice none 0 0] 55)).alloc (.cells #[.int .u64 SI, .int .u64 1, .slice ao' n cap', .slice none 0 0, .slice none 0 0] 55) = W1 := ⟨_, rfl⟩
  have hs1 : (w.alloc (.cells #[.int .u64 SI, .int .u64 1, .slice ao n cap, .slice none 0 0, .slice none 0 0] 55)).heap.size = w.heap.size + 1 := by simp
  have b1 : Below w.heap.size w W1 := by rw [← hW1]; exact ((Below.refl _ w).alloc (Nat.le_refl _) _).alloc (by simp) _
  have C1 : W1.heap[w.heap.size]? = some (.cells #[.int .u64 SI, .int .u64 1, .slice ao n cap, .slice none 0 0, .slice none 0 0] 55 (0, 0)) := by rw [← hW1]; exact (Below.heap_alloc _ _ _ (by simp)).trans (alloc_atK _ _)
  have C2 : W1.heap[w.heap.size + 1]? = some (.cells #[.int .u64 SI, .int .u64 1, .slice ao' n cap', .slice none 0 0, .slice none 0 0] 55 (0, 0)) := by rw [← hW1, ← hs1]; exact alloc_atK _ _
  have HSA := hide (sameA n cap cap' hn (h.below b1 (fun hp => (hbw (by omega)).1)) (h'.below b1 (fun hp => (hbw (by omega)).2)) hao (fun hp => ⟨Nat.lt_of_lt_of_le (hbw hp).1 b1.size, Nat.lt_of_lt_of_le (hbw hp).2 b1.size⟩) hle)
  have HB1 := hide b1
  have HC1 := hide C1
  have HC2 := hide C2
  have HW1 := hide hW1
  have HH := hide samehol_nilA
  have HL := hide samelin_nilA
  have KC : Hid (∀ V, Below W1.heap.size W1 V → V.cell? ⟨w.heap.size, 0, none⟩ = some (.int .u64 SI) ∧ V.cell? ⟨w.heap.size, 1, none⟩ = some (.int .u64 1) ∧ V.cell? ⟨w.heap.size, 2, none⟩ = some (.slice ao n cap) ∧ V.cell? ⟨w.heap.size, 3, none⟩ = some (.slice none 0 0) ∧ V.cell? ⟨w.heap.size, 4, none⟩ = some (.slice none 0 0) ∧ w.heap.size < V.heap.size ∧ V.cell? ⟨w.heap.size + 1, 0, none⟩ = some (.int .u64 SI) ∧ V.cell? ⟨w.heap.size + 1, 1, none⟩ = some (.int .u64 1) ∧ V.cell? ⟨w.heap.size + 1, 2, none⟩ = some (.slice ao' n cap') ∧ V.cell? ⟨w.heap.size + 1, 3, none⟩ = some (.slice none 0 0) ∧ V.cell? ⟨w.heap.size + 1, 4, none⟩ = some (.slice none 0 0) ∧ w.heap.size + 1 < V.heap.size) := fun V hV => by
    have h1 := (hV.block _ (block_lt HC1.out)).trans HC1.out
    have h2 := (hV.block _ (block_lt HC2.out)).trans HC2.out
    exact ⟨block_cell h1 0, block_cell h1 1, block_cell h1 2, block_cell h1 3, block_cell h1 4, block_lt h1, block_cell h2 0, block_cell h2 1, block_cell h2 2, block_cell h2 3, block_cell h2 4, block_lt h2⟩
  clear h h' hao hbw hn hs1 hW1 b1 C1 C2 HC1 HC2
  go_enter Try.func14, Try.ntmps14
  go_upto_region 1 with fail
  rw [HW1.out]
  clear HW1
  obtain ⟨x0, x1, x2, x3, x4, xl, y0, y1, y2, y3, y4, yl⟩ := KC.out W1 (Below.refl _ _)
  go_wp2_with fail
  refine HSA.out.mono ?_
  rintro e w2 ⟨rfl, G2⟩
  clear x0 x1 x2 x3 x4 xl y0 y1 y2 y3 y4 yl
  obtain ⟨x0, x1, x2, x3, x4, xl, y0, y1, y2, y3, y4, yl⟩ := KC.out w2 G2.out
  go_wp2_with fail
  refine (HH.out w2).mono ?_
  rintro e w3 ⟨rfl, rfl⟩
  go_wp2_with fail
  refine (HL.out _).mono ?_
  rintro e w4 ⟨rfl, rfl⟩
  go_wp2
  go_ret
  exact ⟨rfl, HB1.out.trans (G2.out.mono HB1.out.size)⟩
theorem eql_nilA (w : World) : (binOp BinOp.eql 22 (.slice none 0 0) (.slice none 0 0)).run Try.prog w = .ok (.bool true) w := by kernel_rfl
theorem eql_nilH (w : World) : (binOp BinOp.eql 30 (.slice none 0 0) (.slice none 0 0)).run Try.prog w = .ok (.bool true) w := by kernel_rfl
theorem eql_nilE (w : World) : (binOp BinOp.eql 31 (.slice none 0 0) (.slice none 0 0)).run Try.prog w = .ok (.bool true) w := by kernel_rfl
set_option maxRecDepth 10000 in
set_option maxHeartbeats 3200000 in
theorem bareA (w : World) (SI : Int) (ao : Option Addr) (n cap : Nat) (h0 : n = 0 → ao = none ∧ cap = 0) :
    Calls Try.prog 16 #[.agg #[.int .u64 SI, .int .u64 1, .slice ao n cap, .slice none 0 0, .slice none 0 0]] w fun e w' => e = .returned (.bool true) ∧ Hid (Below w.heap.size w w') := by
  have HB : Hid (∀ o, Below w.heap.size w (w.alloc o)) := fun o => (Below.refl _ w).alloc (Nat.le_refl _) o
  have e2 := eql_nilH
  have e3 := eql_nilE
  by_cases hn : n = 0
  · obtain ⟨rfl, rfl⟩ := h0 hn
    subst hn
    have e1 := eql_nilA
    go_enter Try.func16, Try.ntmps16
    go_wp2
    go_ret
    exact ⟨rfl, HB.out _⟩
  · have g : decide (((n : Nat) : Int) > 0) = true := decide_eq_true (by omega)
    clear h0
    go_enter Try.func16, Try.ntmps16
    go_wp2
    go_ret
    exact ⟨rfl, HB.out _⟩
end Go.Proofs.Ytmbclemicfffoaa
