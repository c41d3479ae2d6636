import Derived.Test.YtkjkhohbhgglnaaBTm
namespace Go.Proofs.Ytkjkhohbhgglnaa
open Go.RowKit

/-- A group's numbers at the head of a block. -/
def PC (W : World) (a : Option Addr) (c : Cf) : Prop := ∃ p, a = some ⟨p, 0, none⟩ ∧ p < W.heap.size ∧ W.cell? ⟨p, 0, none⟩ = some (.int .i64 c.f) ∧ W.cell? ⟨p, 3, none⟩ = some (.int .u64 (c.win : Nat)) ∧ W.cell? ⟨p, 8, none⟩ = some (.int .u64 (c.mn : Nat)) ∧ W.cell? ⟨p, 9, none⟩ = some (.int .u64 (c.ms : Nat))
theorem PC.cells {W : World} {a : Option Addr} {c : Cf} (h : PC W a c) : ∃ p, a = some ⟨p, 0, none⟩ ∧ p < W.heap.size ∧ W.cell? ⟨p, 0, none⟩ = some (.int .i64 c.f) ∧ W.cell? ⟨p, 3, none⟩ = some (.int .u64 (c.win : Nat)) ∧ W.cell? ⟨p, 8, none⟩ = some (.int .u64 (c.mn : Nat)) ∧ W.cell? ⟨p, 9, none⟩ = some (.int .u64 (c.ms : Nat)) := h
theorem PC.kept {W W' : World} {a : Option Addr} {c : Cf} (h : PC W a c) (hb : Below W.heap.size W W') : PC W' a c := by
  obtain ⟨p, h1, h2, h3, h4, h5, h6⟩ := h
  exact ⟨p, h1, Nat.lt_of_lt_of_le h2 hb.size, (hb.cell (p := ⟨p, 0, none⟩) h2).trans h3, (hb.cell (p := ⟨p, 3, none⟩) h2).trans h4, (hb.cell (p := ⟨p, 8, none⟩) h2).trans h5, (hb.cell (p := ⟨p, 9, none⟩) h2).trans h6⟩
set_option maxRecDepth 10000 in
set_option maxHeartbeats 400000 in
theorem made_pc {w : World} {a : Option Addr} {c : Cf} (h : PC w a c) (hk : c.Ok) :
    Calls Try.prog 45 #[.pointer a] w fun e w' => e = .returned (.bool true) ∧ w' = w := by
  obtain ⟨p, rfl, _, hc, -, -, -⟩ := h.cells
  have h1 := hk.f1
  clear h hk
  generalize c.f = f at *
  go_enter Try.func45, Try.ntmps45
  go_wp2
  go_ret
  exact ⟨by simp; omega, rfl⟩
set_option maxRecDepth 10000 in
set_option maxHeartbeats 400000 in
theorem nodes_pc {w : World} {a : Option Addr} {c : Cf} (h : PC w a c) (hk : c.Ok) :
    Calls Try.prog 32 #[.pointer a] w fun e w' => e = .returned (.int .i64 (2 * c.f + 1)) ∧ w' = w := by
  have HM := hide (made_pc h hk)
  obtain ⟨p, rfl, _, hc, -, -, -⟩ := h.cells
  have h1 := hk.f1
  have h3 := hk.f3
  clear h hk
  generalize c.f = f at *
  go_enter Try.func32, Try.ntmps32
  go_wp2_with fail
  refine HM.out.mono ?_
  rintro e w1 ⟨rfl, rfl⟩
  go_wp2
  go_ret
  exact ⟨rfl, rfl⟩
set_option maxRecDepth 10000 in
set_option maxHeartbeats 400000 in
theorem quorum_pc {w : World} {a : Option Addr} {c : Cf} (h : PC w a c) (hk : c.Ok) :
    Calls Try.prog 33 #[.pointer a] w fun e w' => e = .returned (.int .i64 (c.f + 1)) ∧ w' = w := by
  have HM := hide (made_pc h hk)
  obtain ⟨p, rfl, _, hc, -, -, -⟩ := h.cells
  have h1 := hk.f1
  have h3 := hk.f3
  clear h hk
  generalize c.f = f at *
  go_enter Try.func33, Try.ntmps33
  go_wp2_with fail
  refine HM.out.mono ?_
  rintro e w1 ⟨rfl, rfl⟩
  go_wp2
  go_ret
  exact ⟨rfl, rfl⟩
set_option maxRecDepth 10000 in
set_option maxHeartbeats 400000 in
theorem node_pc {w : World} {a : Option Addr} {c : Cf} (n : Int) (h : PC w a c) (hk : c.Ok) :
    Calls Try.prog 12 #[.pointer a, .int .i64 n] w fun e w' => e = .returned (.bool (c.node n)) ∧ w' = w := by
  have H := hide (nodes_pc h hk)
  clear h
  by_cases g : n ≥ 0
  · have hv : Hid (c.node n = decide (n < 2 * c.f + 1)) := by show c.node n = decide (n < 2 * c.f + 1); simp [Cf.node, g]
    generalize c.node n = v at *
    generalize 2 * c.f + 1 = k at *
    go_enter Try.func12, Try.ntmps12
    go_wp2_with fail
    refine H.out.mono ?_
    rintro e w1 ⟨rfl, rfl⟩
    go_wp2_with fail
    go_ret
    exact ⟨by rw [hv.out]; rfl, rfl⟩
  · have hv : Hid (c.node n = false) := by show c.node n = false; simp [Cf.node]; omega
    generalize c.node n = v at *
    go_enter Try.func12, Try.ntmps12
    go_wp2
    go_ret
    exact ⟨by rw [hv.out]; rfl, rfl⟩
set_option maxRecDepth 10000 in
set_option maxHeartbeats 400000 in
theorem all_pc {w : World} {a : Option Addr} {c : Cf} (h : PC w a c) (hk : c.Ok) :
    Calls Try.prog 49 #[.pointer a] w fun e w' => e = .returned (.int .u32 (allB c.f)) ∧ w' = w := by
  have HM := hide (nodes_pc h hk)
  have hf := hk.f_cases
  clear h hk
  generalize c.f = f at *
  rcases hf with rfl | rfl | rfl
  all_goals
    go_enter Try.func49, Try.ntmps49
    go_wp2_with fail
    refine HM.out.mono ?_
    rintro e w1 ⟨rfl, rfl⟩
    go_wp2
    go_ret
    exact ⟨rfl, rfl⟩
set_option maxRecDepth 10000 in
set_option maxHeartbeats 800000 in
theorem majority_pc {w : World} {a : Option Addr} {c : Cf} (s : Nat) (hs : s < 4294967296) (h : PC w a c) (hk : c.Ok) :
    Calls Try.prog 25 #[.pointer a, .int .u32 (s : Nat)] w fun e w' => e = .returned (.bool (c.maj s)) ∧ Below w.heap.size w w' := by
  have HM := hide (made_pc h hk)
  have HA := hide (all_pc h hk)
  rw [allB_nat] at HA
  have hb : bits .and .u32 (s : Int) (allN c.f : Int) = ((s &&& allN c.f : Nat) : Int) := u32_and_nat s (allN c.f) hs (allN_lt c.f)
  have HC := hide (count_any (s &&& allN c.f) (and_lt _ hs) w)
  have HQ := hide (fun W (hb : Below w.heap.size w W) => quorum_pc (h.kept hb) hk)
  have HV : Hid (c.maj s = decide (((countB (s &&& allN c.f) : Nat) : Int) ≥ c.f + 1)) := rfl
  clear h hk
  generalize c.maj s = v at *
  generalize ((countB (s &&& allN c.f) : Nat) : Int) = x at *
  generalize ((s &&& allN c.f : Nat) : Int) = y at *
  generalize (allN c.f : Int) = al at *
  generalize c.f + 1 = q at *
  generalize (s : Int) = s at *
  go_enter Try.func25, Try.ntmps25
  go_wp2_with fail
  refine HM.out.mono ?_
  rintro e w1 ⟨rfl, rfl⟩
  go_wp2_with fail
  refine HA.out.mono ?_
  rintro e w1 ⟨rfl, rfl⟩
  go_wp2_with fail
  refine HC.out.mono ?_
  rintro e w2 ⟨rfl, b2⟩
  have B2 := hide b2
  clear b2
  go_wp2_with fail
  refine (HQ.out _ B2.out).mono ?_
  rintro e w3 ⟨rfl, rfl⟩
  go_wp2
  go_ret
  exact ⟨by rw [HV.out]; rfl, B2.out⟩
end Go.Proofs.Ytkjkhohbhgglnaa
