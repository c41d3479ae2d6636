import Derived.Test.YtgaalaoflaklgaaGreatSMay
import Derived.Test.YtgaalaoflaklgaaGreatM40
import Derived.Handy
namespace Go.Proofs.YtgaalaoflaklgaaGreat
open Go.RowKit Crc

theorem Rqs.heap {lim : Nat} {w w' : World} {ro : Option Addr} {rs : List Rq} {b off : Nat} (h : Rqs lim w ro rs b off) (e : w'.heap = w.heap) : Rqs lim w' ro rs b off :=
  ⟨h.ad, h.lt, h.le, fun i r hr j v hv => (World.cell?_of_block (by rw [e])).trans (h.at_ i r hr j v hv), fun r hr => ⟨(h.ok r hr).hc, (h.ok r hr).hs, (h.ok r hr).hC.world e⟩⟩
def recA7 (k : Int) (num : Nat) (node : Int) (slot st : Nat) (ro : Option Addr) (n rc : Nat) (do_ : Option Addr) (m dc : Nat) : Array Value := #[.int .i64 k, .int .u64 (num : Int), .int .i64 node, .int .u64 (slot : Int), .int .u64 (st : Int), .slice ro n rc, .slice do_ m dc]

/-- What the parts of 'may' come to. -/
theorem may_iff {k : Int} {num : Nat} {node : Int} {slot st : Nat} {rs : List Rq} {m : Nat} (hB : ¬ balBad num node) (hS : slot ≤ 1099511627776) (hV : (bFault st rs).2 = 0) (hM : m ≤ 40000) : (rNo k num node slot st rs m).1 = 0 ↔ (1 ≤ k ∧ k ≤ 5) ∧ (3 < k → num = 0 ∧ node = 0) ∧ (k = 1 ∨ k = 3 → slot = 0) ∧ (k ≠ 2 → st = 0 ∧ rs.length = 0) ∧ (k ≠ 5 → m = 0) := by
  have e3 : (if st ≠ 0 ∨ rs.length ≠ 0 then (29 : Int) else 0) = 0 ↔ st = 0 ∧ rs.length = 0 := by
    by_cases c : st ≠ 0 ∨ rs.length ≠ 0
    · rw [if_pos c]; simp only [show ¬ (29 : Int) = 0 by decide, false_iff]; omega
    · rw [if_neg c]; simp only [true_iff]; omega
  have e4 : (if k ≠ 5 ∧ 0 < m then (29 : Int) else if 40000 < m then 21 else 0) = 0 ↔ (k ≠ 5 → m = 0) := by
    by_cases c : k ≠ 5 ∧ 0 < m
    · rw [if_pos c]; simp only [show ¬ (29 : Int) = 0 by decide, false_iff]; omega
    · rw [if_neg c, if_neg (by omega)]; simp only [true_iff]; omega
  rw [rNo_iff]
  unfold rB1 rB2 rC3 rC4
  rw [e4]
  by_cases c : k = 2
  · rw [if_pos c, if_pos (show k ≤ 3 by omega), hV]
    simp only [hB, not_false_eq_true, true_and]
    omega
  · rw [if_neg c, e3]
    by_cases a : k ≤ 3
    · rw [if_pos a]
      simp only [hB, not_false_eq_true, true_and]
      omega
    · rw [if_neg a]
      omega

def MayP (w : World) (k : Int) (num : Nat) (node : Int) (slot st : Nat) (ro : Option Addr) (n rc : Nat) (do_ : Option Addr) (m dc : Nat) (bb : Bool) : Prop :=
  Calls Tryz.prog 15 #[.agg #[.int .i64 k, .int .u64 (num : Int), .int .i64 node, .int .u64 (slot : Int), .int .u64 (st : Int), .slice ro n rc, .slice do_ m dc]] w fun e w' => e = .returned (.bool bb) ∧ Hid (Below w.heap.size w w')
theorem cells7' {W : World} {b : Nat} {x0 x1 x2 x3 x4 x5 x6 : Value} {t : TypeId} (h : W.heap[b]? = some (.cells #[x0, x1, x2, x3, x4, x5, x6] t (0, 0))) : W.cell? ⟨b, 0, none⟩ = some x0 ∧ W.cell? ⟨b, 1, none⟩ = some x1 ∧ W.cell? ⟨b, 2, none⟩ = some x2 ∧ W.cell? ⟨b, 3, none⟩ = some x3 ∧ W.cell? ⟨b, 4, none⟩ = some x4 ∧ W.cell? ⟨b, 5, none⟩ = some x5 ∧ W.cell? ⟨b, 6, none⟩ = some x6 := by
  have p0 := block_cell h 0
  have p1 := block_cell h 1
  have p2 := block_cell h 2
  have p3 := block_cell h 3
  have p4 := block_cell h 4
  have p5 := block_cell h 5
  have p6 := block_cell h 6
  simp at p0 p1 p2 p3 p4 p5 p6
  exact ⟨p0, p1, p2, p3, p4, p5, p6⟩
set_option maxRecDepth 10000 in
set_option maxHeartbeats 1600000 in
theorem may_bal {w : World} (k : Int) (num : Nat) (node : Int) (slot st : Nat) (ro : Option Addr) (n rc : Nat) (do_ : Option Addr) (m dc : Nat) (h : balBad num node) : MayP w k num node slot st ro n rc do_ m dc false := by
  unfold MayP
  have HB := hide (below_alloc1 w (.cells #[.int .i64 k, .int .u64 (num : Int), .int .i64 node, .int .u64 (slot : Int), .int .u64 (st : Int), .slice ro n rc, .slice do_ m dc] 31))
  have HM := hide (fun W => mayBallot_no num node W h)
  clear h
  go_enter Tryz.func15, Tryz.ntmps15
  go_wp2_with fail
  refine (HM.out _).mono ?_
  rintro e w2 ⟨rfl, b2⟩
  have HB2 := hide (HB.out.trans (b2.out.mono HB.out.size))
  clear b2
  go_wp2
  go_ret
  exact ⟨rfl, HB2.out⟩
set_option maxRecDepth 10000 in
set_option maxHeartbeats 1600000 in
theorem may_slot {w : World} (k : Int) (num : Nat) (node : Int) (slot st : Nat) (ro : Option Addr) (n rc : Nat) (do_ : Option Addr) (m dc : Nat) (h : ¬ balBad num node) (h2 : 1099511627776 < slot) : MayP w k num node slot st ro n rc do_ m dc false := by
  unfold MayP
  have HB := hide (below_alloc1 w (.cells #[.int .i64 k, .int .u64 (num : Int), .int .i64 node, .int .u64 (slot : Int), .int .u64 (st : Int), .slice ro n rc, .slice do_ m dc] 31))
  have HQ := hide (alloc_at w (.cells #[.int .i64 k, .int .u64 (num : Int), .int .i64 node, .int .u64 (slot : Int), .int .u64 (st : Int), .slice ro n rc, .slice do_ m dc] 31))
  have HM := hide (fun W => mayBallot_yes num node W h)
  have g2 : decide ((1099511627776 : Int) < (slot : Int)) = true := by simp; omega
  clear h h2
  go_enter Tryz.func15, Tryz.ntmps15
  go_wp2_with fail
  refine (HM.out _).mono ?_
  rintro e w2 ⟨rfl, b2⟩
  have HB2 := hide (HB.out.trans (b2.out.mono HB.out.size))
  obtain ⟨x0, x1, x2, x3, x4, x5, x6⟩ := cells7' ((b2.out.block _ (block_lt HQ.out)).trans HQ.out)
  clear b2 HQ
  go_wp2
  go_ret
  exact ⟨rfl, HB2.out⟩
set_option maxRecDepth 10000 in
set_option maxHeartbeats 1600000 in
theorem may_batch {w : World} (k : Int) (num : Nat) (node : Int) (slot st : Nat) {ro : Option Addr} {rs : List Rq} {b off : Nat} (n rc : Nat) (hn : rs.length = n) (hr : Rqs w.heap.size w ro rs b off) (do_ : Option Addr) (m dc : Nat) (h : ¬ balBad num node) (h2 : slot ≤ 1099511627776) (h3 : (bFault st rs).2 ≠ 0) : MayP w k num node slot st ro n rc do_ m dc false := by
  unfold MayP
  have HB := hide (below_alloc1 w (.cells #[.int .i64 k, .int .u64 (num : Int), .int .i64 node, .int .u64 (slot : Int), .int .u64 (st : Int), .slice ro n rc, .slice do_ m dc] 31))
  have HQ := hide (alloc_at w (.cells #[.int .i64 k, .int .u64 (num : Int), .int .i64 node, .int .u64 (slot : Int), .int .u64 (st : Int), .slice ro n rc, .slice do_ m dc] 31))
  have HM := hide (fun W => mayBallot_yes num node W h)
  have HN : Hid (∀ W, Below w.heap.size w W → Calls Tryz.prog 7 #[.agg #[.int .u64 (st : Int), .slice ro n rc]] W fun e w' => e = .returned (.bool false) ∧ Hid (Below W.heap.size W w')) := fun W hb => by
    have := mayBatch_any st rc n hn ((hr.below hb).wide hb.size)
    rw [show decide ((bFault st rs).2 = 0) = false by simp [h3]] at this
    exact this
  have g2 : decide ((1099511627776 : Int) < (slot : Int)) = false := by simp; omega
  clear h h2 h3 hn hr
  go_enter Tryz.func15, Tryz.ntmps15
  go_wp2_with fail
  refine (HM.out _).mono ?_
  rintro e w2 ⟨rfl, b2⟩
  have HB2 := hide (HB.out.trans (b2.out.mono HB.out.size))
  obtain ⟨x0, x1, x2, x3, x4, x5, x6⟩ := cells7' ((b2.out.block _ (block_lt HQ.out)).trans HQ.out)
  clear b2 HQ
  go_wp2_with fail
  refine (HN.out w2 HB2.out).mono ?_
  rintro e w3 ⟨rfl, b3⟩
  have HB3 := hide (HB2.out.trans (b3.out.mono HB2.out.size))
  clear b3 x0 x1 x2 x3 x4 x5 x6
  go_wp2
  go_ret
  exact ⟨rfl, HB3.out⟩
set_option maxRecDepth 10000 in
set_option maxHeartbeats 1600000 in
theorem may_data {w : World} (k : Int) (num : Nat) (node : Int) (slot st : Nat) {ro : Option Addr} {rs : List Rq} {b off : Nat} (n rc : Nat) (hn : rs.length = n) (hr : Rqs w.heap.size w ro rs b off) (do_ : Option Addr) (m dc : Nat) (h : ¬ balBad num node) (h2 : slot ≤ 1099511627776) (h3 : (bFault st rs).2 = 0) (h4 : 40000 < m) : MayP w k num node slot st ro n rc do_ m dc false := by
  unfold MayP
  have HB := hide (below_alloc1 w (.cells #[.int .i64 k, .int .u64 (num : Int), .int .i64 node, .int .u64 (slot : Int), .int .u64 (st : Int), .slice ro n rc, .slice do_ m dc] 31))
  have HQ := hide (alloc_at w (.cells #[.int .i64 k, .int .u64 (num : Int), .int .i64 node, .int .u64 (slot : Int), .int .u64 (st : Int), .slice ro n rc, .slice do_ m dc] 31))
  have HM := hide (fun W => mayBallot_yes num node W h)
  have HN : Hid (∀ W, Below w.heap.size w W → Calls Tryz.prog 7 #[.agg #[.int .u64 (st : Int), .slice ro n rc]] W fun e w' => e = .returned (.bool true) ∧ Hid (Below W.heap.size W w')) := fun W hb => by
    have := mayBatch_any st rc n hn ((hr.below hb).wide hb.size)
    rw [show decide ((bFault st rs).2 = 0) = true by simp [h3]] at this
    exact this
  have g2 : decide ((1099511627776 : Int) < (slot : Int)) = false := by simp; omega
  have g4 : decide ((40000 : Int) < (m : Int)) = true := by simp; omega
  clear h h2 h3 h4 hn hr
  go_enter Tryz.func15, Tryz.ntmps15
  go_wp2_with fail
  refine (HM.out _).mono ?_
  rintro e w2 ⟨rfl, b2⟩
  have HB2 := hide (HB.out.trans (b2.out.mono HB.out.size))
  have Q2 := hide ((b2.out.block _ (block_lt HQ.out)).trans HQ.out)
  obtain ⟨x0, x1, x2, x3, x4, x5, x6⟩ := cells7' Q2.out
  clear b2 HQ
  go_wp2_with fail
  refine (HN.out w2 HB2.out).mono ?_
  rintro e w3 ⟨rfl, b3⟩
  have HB3 := hide (HB2.out.trans (b3.out.mono HB2.out.size))
  have Q3 := hide ((b3.out.block _ (block_lt Q2.out)).trans Q2.out)
  have hlt := block_lt Q3.out
  clear b3 x0 x1 x2 x3 x4 x5 x6
  obtain ⟨x0, x1, x2, x3, x4, x5, x6⟩ := cells7' Q3.out
  go_wp2
  go_ret
  exact ⟨rfl, HB3.out⟩
set_option maxRecDepth 10000 in
set_option maxHeartbeats 1600000 in
theorem may_one {w : World} (k : Int) (num : Nat) (node : Int) (slot st : Nat) {ro : Option Addr} {rs : List Rq} {b off : Nat} (n rc : Nat) (hn : rs.length = n) (hr : Rqs w.heap.size w ro rs b off) (do_ : Option Addr) (m dc : Nat) (h : ¬ balBad num node) (h2 : slot ≤ 1099511627776) (h3 : (bFault st rs).2 = 0) (h4 : m ≤ 40000) (hk : k = 1) : MayP w k num node slot st ro n rc do_ m dc (decide (slot = 0 ∧ (st = 0 ∧ n = 0) ∧ m = 0)) := by
  unfold MayP
  have HB := hide (below_alloc1 w (.cells #[.int .i64 k, .int .u64 (num : Int), .int .i64 node, .int .u64 (slot : Int), .int .u64 (st : Int), .slice ro n rc, .slice do_ m dc] 31))
  have HQ := hide (alloc_at w (.cells #[.int .i64 k, .int .u64 (num : Int), .int .i64 node, .int .u64 (slot : Int), .int .u64 (st : Int), .slice ro n rc, .slice do_ m dc] 31))
  have HM := hide (fun W => mayBallot_yes num node W h)
  have HN : Hid (∀ W, Below w.heap.size w W → Calls Tryz.prog 7 #[.agg #[.int .u64 (st : Int), .slice ro n rc]] W fun e w' => e = .returned (.bool true) ∧ Hid (Below W.heap.size W w')) := fun W hb => by
    have := mayBatch_any st rc n hn ((hr.below hb).wide hb.size)
    rw [show decide ((bFault st rs).2 = 0) = true by simp [h3]] at this
    exact this
  have g2 : decide ((1099511627776 : Int) < (slot : Int)) = false := by simp; omega
  have g4 : decide ((40000 : Int) < (m : Int)) = false := by simp; omega
  subst hk
  have HS : Hid (∀ W, Calls Tryz.prog 14 #[.agg #[.int .i64 0, .int .u64 0, .int .i64 0, .int .u64 (slot : Int), .int .u64 (st : Int), .slice ro n rc, .slice do_ m dc], .agg #[.int .i64 0, .int .u64 0, .int .i64 0, .int .u64 0, .int .u64 0, .slice none 0 0, .slice none 0 0]] W fun e w' => e = .returned (.bool (decide (slot = 0 ∧ (st = 0 ∧ n = 0) ∧ m = 0))) ∧ Hid (Below W.heap.size W w')) := fun W => by
    have := sameRec0 0 0 slot st ro n rc do_ m dc W
    simpa using this
  clear h h2 h3 h4 hn hr
  generalize decide (slot = 0 ∧ (st = 0 ∧ n = 0) ∧ m = 0) = bb at HS ⊢
  go_enter Tryz.func15, Tryz.ntmps15
  go_wp2_with fail
  refine (HM.out _).mono ?_
  rintro e w2 ⟨rfl, b2⟩
  have HB2 := hide (HB.out.trans (b2.out.mono HB.out.size))
  have Q2 := hide ((b2.out.block _ (block_lt HQ.out)).trans HQ.out)
  obtain ⟨x0, x1, x2, x3, x4, x5, x6⟩ := cells7' Q2.out
  clear b2 HQ
  go_wp2_with fail
  refine (HN.out w2 HB2.out).mono ?_
  rintro e w3 ⟨rfl, b3⟩
  have HB3 := hide (HB2.out.trans (b3.out.mono HB2.out.size))
  have Q3 := hide ((b3.out.block _ (block_lt Q2.out)).trans Q2.out)
  have hlt := block_lt Q3.out
  clear b3 x0 x1 x2 x3 x4 x5 x6
  obtain ⟨x0, x1, x2, x3, x4, x5, x6⟩ := cells7' Q3.out
  go_wp2_with fail
  refine (HS.out _).mono ?_
  rintro e w4 ⟨rfl, b4⟩
  have HB4 : Hid (Below w.heap.size w w4) := by
    have hB := HB3.out
    have hS := HB3.out.size
    refine Below.trans ?_ (b4.out.mono ?_)
    · go_grown
    · go_size
  clear b4
  go_wp2
  go_ret
  exact ⟨rfl, HB4.out⟩
set_option maxRecDepth 10000 in
set_option maxHeartbeats 1600000 in
theorem may_three {w : World} (k : Int) (num : Nat) (node : Int) (slot st : Nat) {ro : Option Addr} {rs : List Rq} {b off : Nat} (n rc : Nat) (hn : rs.length = n) (hr : Rqs w.heap.size w ro rs b off) (do_ : Option Addr) (m dc : Nat) (h : ¬ balBad num node) (h2 : slot ≤ 1099511627776) (h3 : (bFault st rs).2 = 0) (h4 : m ≤ 40000) (hk : k = 3) : MayP w k num node slot st ro n rc do_ m dc (decide (slot = 0 ∧ (st = 0 ∧ n = 0) ∧ m = 0)) := by
  unfold MayP
  have HB := hide (below_alloc1 w (.cells #[.int .i64 k, .int .u64 (num : Int), .int .i64 node, .int .u64 (slot : Int), .int .u64 (st : Int), .slice ro n rc, .slice do_ m dc] 31))
  have HQ := hide (alloc_at w (.cells #[.int .i64 k, .int .u64 (num : Int), .int .i64 node, .int .u64 (slot : Int), .int .u64 (st : Int), .slice ro n rc, .slice do_ m dc] 31))
  have HM := hide (fun W => mayBallot_yes num node W h)
  have HN : Hid (∀ W, Below w.heap.size w W → Calls Tryz.prog 7 #[.agg #[.int .u64 (st : Int), .slice ro n rc]] W fun e w' => e = .returned (.bool true) ∧ Hid (Below W.heap.size W w')) := fun W hb => by
    have := mayBatch_any st rc n hn ((hr.below hb).wide hb.size)
    rw [show decide ((bFault st rs).2 = 0) = true by simp [h3]] at this
    exact this
  have g2 : decide ((1099511627776 : Int) < (slot : Int)) = false := by simp; omega
  have g4 : decide ((40000 : Int) < (m : Int)) = false := by simp; omega
  subst hk
  have HS : Hid (∀ W, Calls Tryz.prog 14 #[.agg #[.int .i64 0, .int .u64 0, .int .i64 0, .int .u64 (slot : Int), .int .u64 (st : Int), .slice ro n rc, .slice do_ m dc], .agg #[.int .i64 0, .int .u64 0, .int .i64 0, .int .u64 0, .int .u64 0, .slice none 0 0, .slice none 0 0]] W fun e w' => e = .returned (.bool (decide (slot = 0 ∧ (st = 0 ∧ n = 0) ∧ m = 0))) ∧ Hid (Below W.heap.size W w')) := fun W => by
    have := sameRec0 0 0 slot st ro n rc do_ m dc W
    simpa using this
  clear h h2 h3 h4 hn hr
  generalize decide (slot = 0 ∧ (st = 0 ∧ n = 0) ∧ m = 0) = bb at HS ⊢
  go_enter Tryz.func15, Tryz.ntmps15
  go_wp2_with fail
  refine (HM.out _).mono ?_
  rintro e w2 ⟨rfl, b2⟩
  have HB2 := hide (HB.out.trans (b2.out.mono HB.out.size))
  have Q2 := hide ((b2.out.block _ (block_lt HQ.out)).trans HQ.out)
  obtain ⟨x0, x1, x2, x3, x4, x5, x6⟩ := cells7' Q2.out
  clear b2 HQ
  go_wp2_with fail
  refine (HN.out w2 HB2.out).mono ?_
  rintro e w3 ⟨rfl, b3⟩
  have HB3 := hide (HB2.out.trans (b3.out.mono HB2.out.size))
  have Q3 := hide ((b3.out.block _ (block_lt Q2.out)).trans Q2.out)
  have hlt := block_lt Q3.out
  clear b3 x0 x1 x2 x3 x4 x5 x6
  obtain ⟨x0, x1, x2, x3, x4, x5, x6⟩ := cells7' Q3.out
  go_wp2_with fail
  refine (HS.out _).mono ?_
  rintro e w4 ⟨rfl, b4⟩
  have HB4 : Hid (Below w.heap.size w w4) := by
    have hB := HB3.out
    have hS := HB3.out.size
    refine Below.trans ?_ (b4.out.mono ?_)
    · go_grown
    · go_size
  clear b4
  go_wp2
  go_ret
  exact ⟨rfl, HB4.out⟩
set_option maxRecDepth 10000 in
set_option maxHeartbeats 1600000 in
theorem may_two {w : World} (k : Int) (num : Nat) (node : Int) (slot st : Nat) {ro : Option Addr} {rs : List Rq} {b off : Nat} (n rc : Nat) (hn : rs.length = n) (hr : Rqs w.heap.size w ro rs b off) (do_ : Option Addr) (m dc : Nat) (h : ¬ balBad num node) (h2 : slot ≤ 1099511627776) (h3 : (bFault st rs).2 = 0) (h4 : m ≤ 40000) (hk : k = 2) : MayP w k num node slot st ro n rc do_ m dc (decide (m = 0)) := by
  unfold MayP
  have HB := hide (below_alloc1 w (.cells #[.int .i64 k, .int .u64 (num : Int), .int .i64 node, .int .u64 (slot : Int), .int .u64 (st : Int), .slice ro n rc, .slice do_ m dc] 31))
  have HQ := hide (alloc_at w (.cells #[.int .i64 k, .int .u64 (num : Int), .int .i64 node, .int .u64 (slot : Int), .int .u64 (st : Int), .slice ro n rc, .slice do_ m dc] 31))
  have HM := hide (fun W => mayBallot_yes num node W h)
  have HN : Hid (∀ W, Below w.heap.size w W → Calls Tryz.prog 7 #[.agg #[.int .u64 (st : Int), .slice ro n rc]] W fun e w' => e = .returned (.bool true) ∧ Hid (Below W.heap.size W w')) := fun W hb => by
    have := mayBatch_any st rc n hn ((hr.below hb).wide hb.size)
    rw [show decide ((bFault st rs).2 = 0) = true by simp [h3]] at this
    exact this
  have g2 : decide ((1099511627776 : Int) < (slot : Int)) = false := by simp; omega
  have g4 : decide ((40000 : Int) < (m : Int)) = false := by simp; omega
  subst hk
  have HS : Hid (∀ W, Calls Tryz.prog 14 #[.agg #[.int .i64 0, .int .u64 0, .int .i64 0, .int .u64 0, .int .u64 0, .slice none 0 0, .slice do_ m dc], .agg #[.int .i64 0, .int .u64 0, .int .i64 0, .int .u64 0, .int .u64 0, .slice none 0 0, .slice none 0 0]] W fun e w' => e = .returned (.bool (decide (m = 0))) ∧ Hid (Below W.heap.size W w')) := fun W => by
    have := sameRec0 0 0 0 0 none 0 0 do_ m dc W
    simpa using this
  clear h h2 h3 h4 hn hr
  generalize decide (m = 0) = bb at HS ⊢
  go_enter Tryz.func15, Tryz.ntmps15
  go_wp2_with fail
  refine (HM.out _).mono ?_
  rintro e w2 ⟨rfl, b2⟩
  have HB2 := hide (HB.out.trans (b2.out.mono HB.out.size))
  have Q2 := hide ((b2.out.block _ (block_lt HQ.out)).trans HQ.out)
  obtain ⟨x0, x1, x2, x3, x4, x5, x6⟩ := cells7' Q2.out
  clear b2 HQ
  go_wp2_with fail
  refine (HN.out w2 HB2.out).mono ?_
  rintro e w3 ⟨rfl, b3⟩
  have HB3 := hide (HB2.out.trans (b3.out.mono HB2.out.size))
  have Q3 := hide ((b3.out.block _ (block_lt Q2.out)).trans Q2.out)
  have hlt := block_lt Q3.out
  clear b3 x0 x1 x2 x3 x4 x5 x6
  obtain ⟨x0, x1, x2, x3, x4, x5, x6⟩ := cells7' Q3.out
  go_wp2_with fail
  refine (HS.out _).mono ?_
  rintro e w4 ⟨rfl, b4⟩
  have HB4 : Hid (Below w.heap.size w w4) := by
    have hB := HB3.out
    have hS := HB3.out.size
    refine Below.trans ?_ (b4.out.mono ?_)
    · go_grown
    · go_size
  clear b4
  go_wp2
  go_ret
  exact ⟨rfl, HB4.out⟩
set_option maxRecDepth 10000 in
set_option maxHeartbeats 1600000 in
theorem may_four {w : World} (k : Int) (num : Nat) (node : Int) (slot st : Nat) {ro : Option Addr} {rs : List Rq} {b off : Nat} (n rc : Nat) (hn : rs.length = n) (hr : Rqs w.heap.size w ro rs b off) (do_ : Option Addr) (m dc : Nat) (h : ¬ balBad num node) (h2 : slot ≤ 1099511627776) (h3 : (bFault st rs).2 = 0) (h4 : m ≤ 40000) (hk : k = 4) : MayP w k num node slot st ro n rc do_ m dc (decide ((num = 0 ∧ node = 0) ∧ (st = 0 ∧ n = 0) ∧ m = 0)) := by
  unfold MayP
  have HB := hide (below_alloc1 w (.cells #[.int .i64 k, .int .u64 (num : Int), .int .i64 node, .int .u64 (slot : Int), .int .u64 (st : Int), .slice ro n rc, .slice do_ m dc] 31))
  have HQ := hide (alloc_at w (.cells #[.int .i64 k, .int .u64 (num : Int), .int .i64 node, .int .u64 (slot : Int), .int .u64 (st : Int), .slice ro n rc, .slice do_ m dc] 31))
  have HM := hide (fun W => mayBallot_yes num node W h)
  have HN : Hid (∀ W, Below w.heap.size w W → Calls Tryz.prog 7 #[.agg #[.int .u64 (st : Int), .slice ro n rc]] W fun e w' => e = .returned (.bool true) ∧ Hid (Below W.heap.size W w')) := fun W hb => by
    have := mayBatch_any st rc n hn ((hr.below hb).wide hb.size)
    rw [show decide ((bFault st rs).2 = 0) = true by simp [h3]] at this
    exact this
  have g2 : decide ((1099511627776 : Int) < (slot : Int)) = false := by simp; omega
  have g4 : decide ((40000 : Int) < (m : Int)) = false := by simp; omega
  subst hk
  have HS : Hid (∀ W, Calls Tryz.prog 14 #[.agg #[.int .i64 0, .int .u64 (num : Int), .int .i64 node, .int .u64 0, .int .u64 (st : Int), .slice ro n rc, .slice do_ m dc], .agg #[.int .i64 0, .int .u64 0, .int .i64 0, .int .u64 0, .int .u64 0, .slice none 0 0, .slice none 0 0]] W fun e w' => e = .returned (.bool (decide ((num = 0 ∧ node = 0) ∧ (st = 0 ∧ n = 0) ∧ m = 0))) ∧ Hid (Below W.heap.size W w')) := fun W => by
    have := sameRec0 num node 0 st ro n rc do_ m dc W
    simpa using this
  clear h h2 h3 h4 hn hr
  generalize decide ((num = 0 ∧ node = 0) ∧ (st = 0 ∧ n = 0) ∧ m = 0) = bb at HS ⊢
  go_enter Tryz.func15, Tryz.ntmps15
  go_wp2_with fail
  refine (HM.out _).mono ?_
  rintro e w2 ⟨rfl, b2⟩
  have HB2 := hide (HB.out.trans (b2.out.mono HB.out.size))
  have Q2 := hide ((b2.out.block _ (block_lt HQ.out)).trans HQ.out)
  obtain ⟨x0, x1, x2, x3, x4, x5, x6⟩ := cells7' Q2.out
  clear b2 HQ
  go_wp2_with fail
  refine (HN.out w2 HB2.out).mono ?_
  rintro e w3 ⟨rfl, b3⟩
  have HB3 := hide (HB2.out.trans (b3.out.mono HB2.out.size))
  have Q3 := hide ((b3.out.block _ (block_lt Q2.out)).trans Q2.out)
  have hlt := block_lt Q3.out
  clear b3 x0 x1 x2 x3 x4 x5 x6
  obtain ⟨x0, x1, x2, x3, x4, x5, x6⟩ := cells7' Q3.out
  go_wp2_with fail
  refine (HS.out _).mono ?_
  rintro e w4 ⟨rfl, b4⟩
  have HB4 : Hid (Below w.heap.size w w4) := by
    have hB := HB3.out
    have hS := HB3.out.size
    refine Below.trans ?_ (b4.out.mono ?_)
    · go_grown
    · go_size
  clear b4
  go_wp2
  go_ret
  exact ⟨rfl, HB4.out⟩
set_option maxRecDepth 10000 in
set_option maxHeartbeats 1600000 in
theorem may_five {w : World} (k : Int) (num : Nat) (node : Int) (slot st : Nat) {ro : Option Addr} {rs : List Rq} {b off : Nat} (n rc : Nat) (hn : rs.length = n) (hr : Rqs w.heap.size w ro rs b off) (do_ : Option Addr) (m dc : Nat) (h : ¬ balBad num node) (h2 : slot ≤ 1099511627776) (h3 : (bFault st rs).2 = 0) (h4 : m ≤ 40000) (hk : k = 5) : MayP w k num node slot st ro n rc do_ m dc (decide ((num = 0 ∧ node = 0) ∧ st = 0 ∧ n = 0)) := by
  unfold MayP
  have HB := hide (below_alloc1 w (.cells #[.int .i64 k, .int .u64 (num : Int), .int .i64 node, .int .u64 (slot : Int), .int .u64 (st : Int), .slice ro n rc, .slice do_ m dc] 31))
  have HQ := hide (alloc_at w (.cells #[.int .i64 k, .int .u64 (num : Int), .int .i64 node, .int .u64 (slot : Int), .int .u64 (st : Int), .slice ro n rc, .slice do_ m dc] 31))
  have HM := hide (fun W => mayBallot_yes num node W h)
  have HN : Hid (∀ W, Below w.heap.size w W → Calls Tryz.prog 7 #[.agg #[.int .u64 (st : Int), .slice ro n rc]] W fun e w' => e = .returned (.bool true) ∧ Hid (Below W.heap.size W w')) := fun W hb => by
    have := mayBatch_any st rc n hn ((hr.below hb).wide hb.size)
    rw [show decide ((bFault st rs).2 = 0) = true by simp [h3]] at this
    exact this
  have g2 : decide ((1099511627776 : Int) < (slot : Int)) = false := by simp; omega
  have g4 : decide ((40000 : Int) < (m : Int)) = false := by simp; omega
  subst hk
  have HS : Hid (∀ W, Calls Tryz.prog 14 #[.agg #[.int .i64 0, .int .u64 (num : Int), .int .i64 node, .int .u64 0, .int .u64 (st : Int), .slice ro n rc, .slice none 0 0], .agg #[.int .i64 0, .int .u64 0, .int .i64 0, .int .u64 0, .int .u64 0, .slice none 0 0, .slice none 0 0]] W fun e w' => e = .returned (.bool (decide ((num = 0 ∧ node = 0) ∧ st = 0 ∧ n = 0))) ∧ Hid (Below W.heap.size W w')) := fun W => by
    have := sameRec0 num node 0 st ro n rc none 0 0 W
    simpa using this
  clear h h2 h3 h4 hn hr
  generalize decide ((num = 0 ∧ node = 0) ∧ st = 0 ∧ n = 0) = bb at HS ⊢
  go_enter Tryz.func15, Tryz.ntmps15
  go_wp2_with fail
  refine (HM.out _).mono ?_
  rintro e w2 ⟨rfl, b2⟩
  have HB2 := hide (HB.out.trans (b2.out.mono HB.out.size))
  have Q2 := hide ((b2.out.block _ (block_lt HQ.out)).trans HQ.out)
  obtain ⟨x0, x1, x2, x3, x4, x5, x6⟩ := cells7' Q2.out
  clear b2 HQ
  go_wp2_with fail
  refine (HN.out w2 HB2.out).mono ?_
  rintro e w3 ⟨rfl, b3⟩
  have HB3 := hide (HB2.out.trans (b3.out.mono HB2.out.size))
  have Q3 := hide ((b3.out.block _ (block_lt Q2.out)).trans Q2.out)
  have hlt := block_lt Q3.out
  clear b3 x0 x1 x2 x3 x4 x5 x6
  obtain ⟨x0, x1, x2, x3, x4, x5, x6⟩ := cells7' Q3.out
  go_wp2_with fail
  refine (HS.out _).mono ?_
  rintro e w4 ⟨rfl, b4⟩
  have HB4 : Hid (Below w.heap.size w w4) := by
    have hB := HB3.out
    have hS := HB3.out.size
    refine Below.trans ?_ (b4.out.mono ?_)
    · go_grown
    · go_size
  clear b4
  go_wp2
  go_ret
  exact ⟨rfl, HB4.out⟩
set_option maxRecDepth 10000 in
set_option maxHeartbeats 1600000 in
theorem may_kind {w : World} (k : Int) (num : Nat) (node : Int) (slot st : Nat) {ro : Option Addr} {rs : List Rq} {b off : Nat} (n rc : Nat) (hn : rs.length = n) (hr : Rqs w.heap.size w ro rs b off) (do_ : Option Addr) (m dc : Nat) (h : ¬ balBad num node) (h2 : slot ≤ 1099511627776) (h3 : (bFault st rs).2 = 0) (h4 : m ≤ 40000) (hk : k < 1 ∨ 5 < k) : MayP w k num node slot st ro n rc do_ m dc false := by
  unfold MayP
  have HB := hide (below_alloc1 w (.cells #[.int .i64 k, .int .u64 (num : Int), .int .i64 node, .int .u64 (slot : Int), .int .u64 (st : Int), .slice ro n rc, .slice do_ m dc] 31))
  have HQ := hide (alloc_at w (.cells #[.int .i64 k, .int .u64 (num : Int), .int .i64 node, .int .u64 (slot : Int), .int .u64 (st : Int), .slice ro n rc, .slice do_ m dc] 31))
  have HM := hide (fun W => mayBallot_yes num node W h)
  have HN : Hid (∀ W, Below w.heap.size w W → Calls Tryz.prog 7 #[.agg #[.int .u64 (st : Int), .slice ro n rc]] W fun e w' => e = .returned (.bool true) ∧ Hid (Below W.heap.size W w')) := fun W hb => by
    have := mayBatch_any st rc n hn ((hr.below hb).wide hb.size)
    rw [show decide ((bFault st rs).2 = 0) = true by simp [h3]] at this
    exact this
  have g2 : decide ((1099511627776 : Int) < (slot : Int)) = false := by simp; omega
  have g4 : decide ((40000 : Int) < (m : Int)) = false := by simp; omega
  have k1 : (k == 1) = false := by simp; omega
  have k2 : (k == 2) = false := by simp; omega
  have k3 : (k == 3) = false := by simp; omega
  have k4 : (k == 4) = false := by simp; omega
  have k5 : (k == 5) = false := by simp; omega
  clear h h2 h3 h4 hn hr hk
  go_enter Tryz.func15, Tryz.ntmps15
  go_wp2_with fail
  refine (HM.out _).mono ?_
  rintro e w2 ⟨rfl, b2⟩
  have HB2 := hide (HB.out.trans (b2.out.mono HB.out.size))
  have Q2 := hide ((b2.out.block _ (block_lt HQ.out)).trans HQ.out)
  obtain ⟨x0, x1, x2, x3, x4, x5, x6⟩ := cells7' Q2.out
  clear b2 HQ
  go_wp2_with fail
  refine (HN.out w2 HB2.out).mono ?_
  rintro e w3 ⟨rfl, b3⟩
  have HB3 := hide (HB2.out.trans (b3.out.mono HB2.out.size))
  have Q3 := hide ((b3.out.block _ (block_lt Q2.out)).trans Q2.out)
  have hlt := block_lt Q3.out
  clear b3 x0 x1 x2 x3 x4 x5 x6
  obtain ⟨x0, x1, x2, x3, x4, x5, x6⟩ := cells7' Q3.out
  go_wp2
  go_ret
  refine ⟨rfl, ?_⟩
  have hB := HB3.out
  have hS := HB3.out.size
  show Below _ _ _
  go_grown
theorem may_any {w : World} (k : Int) (num : Nat) (node : Int) (slot st : Nat) {ro : Option Addr} {rs : List Rq} {b off : Nat} (n rc : Nat) (hn : rs.length = n) (hr : Rqs w.heap.size w ro rs b off) (do_ : Option Addr) (m dc : Nat) : MayP w k num node slot st ro n rc do_ m dc (decide ((rNo k num node slot st rs m).1 = 0)) := by
  have no : ∀ {P : Prop} [Decidable P], ¬ P → decide P = false := fun h => by simp [h]
  by_cases h1 : balBad num node
  · rw [no (fun e => by obtain ⟨_, _, e3, _⟩ := rNo_iff.1 e; apply e3; unfold rB1; split; · exact h1
                        · unfold balBad at h1; omega)]
    exact may_bal k num node slot st ro n rc do_ m dc h1
  · by_cases h2 : 1099511627776 < slot
    · rw [no (fun e => by obtain ⟨_, _, _, e3, _⟩ := rNo_iff.1 e; exact e3 (.inl h2))]
      exact may_slot k num node slot st ro n rc do_ m dc h1 h2
    · by_cases h3 : (bFault st rs).2 = 0
      · by_cases h4 : 40000 < m
        · rw [no (fun e => by
            obtain ⟨_, _, _, _, _, e4⟩ := rNo_iff.1 e
            unfold rC4 at e4
            split at e4
            · cases e4
            · cases e4)]
          exact may_data k num node slot st n rc hn hr do_ m dc h1 (by omega) h3 h4
        · have hi := may_iff (k := k) (rs := rs) h1 (show slot ≤ 1099511627776 by omega) h3 (show m ≤ 40000 by omega)
          rw [hn] at hi
          by_cases hk : k < 1 ∨ 5 < k
          · rw [no (fun e => by have := hi.1 e; omega)]
            exact may_kind k num node slot st n rc hn hr do_ m dc h1 (by omega) h3 (by omega) hk
          · have hc : k = 1 ∨ k = 2 ∨ k = 3 ∨ k = 4 ∨ k = 5 := by omega
            rcases hc with c | c | c | c | c
            · rw [decide_eq_decide.2 (hi.trans (by omega : _ ↔ slot = 0 ∧ (st = 0 ∧ n = 0) ∧ m = 0))]
              exact may_one k num node slot st n rc hn hr do_ m dc h1 (by omega) h3 (by omega) c
            · rw [decide_eq_decide.2 (hi.trans (by omega : _ ↔ m = 0))]
              exact may_two k num node slot st n rc hn hr do_ m dc h1 (by omega) h3 (by omega) c
            · rw [decide_eq_decide.2 (hi.trans (by omega : _ ↔ slot = 0 ∧ (st = 0 ∧ n = 0) ∧ m = 0))]
              exact may_three k num node slot st n rc hn hr do_ m dc h1 (by omega) h3 (by omega) c
            · rw [decide_eq_decide.2 (hi.trans (by omega : _ ↔ (num = 0 ∧ node = 0) ∧ (st = 0 ∧ n = 0) ∧ m = 0))]
              exact may_four k num node slot st n rc hn hr do_ m dc h1 (by omega) h3 (by omega) c
            · rw [decide_eq_decide.2 (hi.trans (by omega : _ ↔ (num = 0 ∧ node = 0) ∧ st = 0 ∧ n = 0))]
              exact may_five k num node slot st n rc hn hr do_ m dc h1 (by omega) h3 (by omega) c
      · rw [no (fun e => by
          obtain ⟨_, _, _, _, e3, _⟩ := rNo_iff.1 e
          unfold rC3 at e3
          by_cases c : k = 2
          · rw [if_pos c] at e3; exact h3 e3
          · rw [if_neg c] at e3
            by_cases c2 : st ≠ 0 ∨ rs.length ≠ 0
            · rw [if_pos c2] at e3; cases e3
            · have e1 : st = 0 := by omega
              have e2 : rs = [] := List.eq_nil_of_length_eq_zero (by omega)
              rw [e1, e2] at h3
              exact h3 rfl)]
        exact may_batch k num node slot st n rc hn hr do_ m dc h1 (by omega) h3
end Go.Proofs.YtgaalaoflaklgaaGreat
