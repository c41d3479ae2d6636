import Derived.Test.YtmbclemicfffoaaLeA
namespace Go.Proofs.Ytmbclemicfffoaa
open Go.RowKit

theorem below_dA {B : Nat} {w V : World} (h : Below B w V) (q : Nat) : Below B w (V.drewN q) := ⟨h.os, h.tape, h.output, h.size, h.block⟩
theorem acc_neq (x0 x1 x2 x3 : Int) (w : World) : (binOp BinOp.neq 37 (.agg #[.int .u64 x0, .int .u64 x1, .int .u64 x2, .int .u64 x3]) (.agg #[.int .u64 x0, .int .u64 x1, .int .u64 x2, .int .u64 x3])).run Try.prog w = .ok (.bool false) w := by go_simp
set_option maxRecDepth 10000 in
set_option maxHeartbeats 1600000 in
theorem sameA {w : World} {b off b' off' : Nat} {ao ao' : Option Addr} (n cap cap' : Nat) {l : List Ac} (hn : n = l.length) (h : Acs w b off l) (h' : Acs w b' off' l) (hao : 0 < n → ao = some ⟨b, off, none⟩ ∧ ao' = some ⟨b', off', none⟩) (hbw : 0 < n → b < w.heap.size ∧ b' < w.heap.size) (hle : n ≤ 4398046510976) :
    Calls Try.prog 28 #[.slice ao n cap, .slice ao' n cap'] w fun e w' => e = .returned (.bool true) ∧ Hid (Below w.heap.size w w') := by
  have HA := hide hao
  have HC := hide h
  have HC' := hide h'
  have HB := hide hbw
  have HN := hide hn
  clear h h' hao hbw hn
  go_enter Try.func28, Try.ntmps28
  go_wp2
  go_loopw [5] (fun i wr => ∃ k : Nat, k ≤ n ∧ i = .int .i64 k ∧ Hid (Below w.heap.size w wr)) (fun i _ => n - (intOf i).toNat)
  case atStart => exact ⟨0, by omega, rfl, Below.refl _ _⟩
  case round =>
    obtain ⟨k, hk, rfl, HB1⟩ := hrel
    by_cases hlt : k < n
    · obtain ⟨a, ha⟩ : ∃ a, l[k]? = some a := ⟨_, List.getElem?_eq_getElem (by have := HN.out; omega)⟩
      obtain ⟨c0, c1, c2, c3⟩ := (HC.out.below HB1.out (fun hp => (HB.out (by have := HN.out; omega)).1)).four ha
      obtain ⟨d0, d1, d2, d3⟩ := (HC'.out.below HB1.out (fun hp => (HB.out (by have := HN.out; omega)).2)).four ha
      obtain ⟨rfl, rfl⟩ := HA.out (by omega)
      have hl1 : b < wr.heap.size := Nat.lt_of_lt_of_le (HB.out (by omega)).1 HB1.out.size
      have hl2 : b' < wr.heap.size := Nat.lt_of_lt_of_le (HB.out (by omega)).2 HB1.out.size
      clear ha
      obtain ⟨x0, x1, x2, x3⟩ := a
      simp only at c0 c1 c2 c3 d0 d1 d2 d3
      go_wp2_with fail
      go_quiet (fail)
      go_wp2
      go_roundw
      case rel => exact ⟨k + 1, by omega, by go_num, below_dA HB1.out _⟩
      case measure => simp [intOf]; omega
    · obtain rfl : k = n := by omega
      go_wp2
      go_ret
      exact ⟨rfl, HB1.out⟩
set_option maxRecDepth 10000 in
set_option maxHeartbeats 1600000 in
/-- What was lent is as it was. -/
theorem keptA {w : World} {g b' off' B : Nat} {ao' : Option Addr} (n cap' : Nat) {l : List Ac} (hn : n = l.length) (hin : ∀ x ∈ l, x.In) (h : w.ownsRow B 37 4 (.slice (some ⟨g, 0, none⟩) (n + 3) (n + 3)) (n + 3) (acells (l ++ spareA))) (h' : Acs w b' off' l) (hao : 0 < n → ao' = some ⟨b', off', none⟩) (hbw : 0 < n → b' < w.heap.size) (hle : n ≤ 4398046510976) :
    Calls Try.prog 12 #[.slice (some ⟨g, 0, none⟩) n (n + 3), .slice ao' n cap'] w fun e w' => e = .returned (.bool true) ∧ Hid (Below w.heap.size w w') := by
  have hinS : ∀ x ∈ l ++ spareA, x.In := fun x hx => by
    rcases List.mem_append.1 hx with hx | hx
    · exact hin x hx
    · simp [spareA] at hx
      rcases hx with rfl | rfl | rfl <;> exact ⟨by decide, by decide, by decide, by decide⟩
  have hS := acs_of_row h hinS
  have hgl : g < w.heap.size := (h.lt g rfl).2
  have hA : Acs w g 0 l := ⟨hin, fun i x hi j v hj => hS.at_ i x (by rw [List.getElem?_append_left (List.getElem?_eq_some_iff.1 hi).1]; exact hi) j v hj⟩
  have HSM : Hid (∀ W, Below w.heap.size w W → Calls Try.prog 28 #[.slice (some ⟨g, 0, none⟩) n (n + 3), .slice ao' n cap'] W fun e w' => e = .returned (.bool true) ∧ Hid (Below W.heap.size W w')) := fun W hW =>
    sameA n (n + 3) cap' hn (hA.below hW (fun _ => hgl)) (h'.below hW (fun hp => hbw (by omega))) (fun hp => ⟨rfl, hao hp⟩) (fun hp => ⟨Nat.lt_of_lt_of_le hgl hW.size, Nat.lt_of_lt_of_le (hbw hp) hW.size⟩) hle
  have HSP : Hid (∀ W j, Below w.heap.size w W → j < 3 → W.cell? ⟨g, (n + j) * 4, none⟩ = some (.int .u64 ((160 : Int) + (j : Int))) ∧ W.cell? ⟨g, (n + j) * 4 + 1, none⟩ = some (.int .u64 0) ∧ W.cell? ⟨g, (n + j) * 4 + 2, none⟩ = some (.int .u64 0) ∧ W.cell? ⟨g, (n + j) * 4 + 3, none⟩ = some (.int .u64 0)) := fun W j hW hj => by
    have e : (l ++ spareA)[n + j]? = some ⟨160 + j, 0, 0, 0⟩ := by
      rw [List.getElem?_append_right (by omega), hn, Nat.add_sub_cancel_left]
      match j, hj with
      | 0, _ => rfl
      | 1, _ => rfl
      | 2, _ => rfl
    have f := (hS.below hW (fun _ => hgl)).four e
    simpa using f
  have HGL := hide hgl
  clear hn hin h h' hao hbw hinS hS hA hgl
  go_enter Try.func12, Try.ntmps12
  go_wp2
  go_loopw [6] (fun i wr => ∃ j : Nat, j ≤ 3 ∧ i = .int .i64 j ∧ Hid (Below w.heap.size w wr)) (fun i _ => 3 - (intOf i).toNat)
  case atStart => exact ⟨0, by omega, rfl, Below.refl _ _⟩
  case round =>
    obtain ⟨j, hj, rfl, HB1⟩ := hrel
    by_cases hlt : j < 3
    · obtain ⟨c0, c1, c2, c3⟩ := HSP.out wr j HB1.out hlt
      have hl1 : g < wr.heap.size := Nat.lt_of_lt_of_le HGL.out HB1.out.size
      have hq := fun V => acc_neq ((160 : Int) + (j : Int)) 0 0 0 V
      go_wp2_with fail
      go_roundw
      case rel => exact ⟨j + 1, by omega, by go_num, HB1.out⟩
      case measure => simp [intOf]; omega
    · obtain rfl : j = 3 := by omega
      have HSM1 := hide (HSM.out wr HB1.out)
      go_wp2_with fail
      refine HSM1.out.mono ?_
      rintro e w2 ⟨rfl, G⟩
      go_wp2
      go_ret
      exact ⟨rfl, HB1.out.trans (G.out.mono HB1.out.size)⟩
end Go.Proofs.Ytmbclemicfffoaa
