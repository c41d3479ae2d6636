import Derived.Test.YtldhafpeigdloaaGreatDoorM33
import Derived.Test.YtldhafpeigdloaaGreatDoorM8
import Derived.Test.YtldhafpeigdloaaGreatDoorM42
import Derived.Deep.MidRow
namespace Go.Proofs.YtldhafpeigdloaaGreatDoor
open Go.RowKit Crc

set_option maxRecDepth 10000 in
theorem mayBallot_no (num : Nat) (node : Int) (w : World) (h : balBad num node) :
    Calls Tryz.prog 20 #[.agg #[.int .u64 (num : Int), .int .i64 node]] w fun e w' => e = .returned (.bool false) ∧ Hid (Below w.heap.size w w') := by
  have HB := hide (below_alloc1 w (.cells #[.int .u64 (num : Int), .int .i64 node] 25))
  by_cases h1 : 1099511627776 < num
  · have d1 : decide ((num : Int) ≤ 1099511627776) = false := by simp; omega
    clear h
    go_enter Tryz.func20, Tryz.ntmps20
    go_wp2
    go_ret
    exact ⟨rfl, HB.out⟩
  · have d1 : decide ((num : Int) ≤ 1099511627776) = true := by simp; omega
    by_cases h2 : node < 0
    · have d2 : decide (node ≥ 0) = false := by simp; omega
      have d2' : decide (0 ≤ node) = false := by simp; omega
      clear h h1
      go_enter Tryz.func20, Tryz.ntmps20
      go_wp2
      go_ret
      exact ⟨rfl, HB.out⟩
    · have d2 : decide (0 ≤ node) = true := by simp; omega
      have h3 : 6 < node := by rcases h with h | h | h <;> omega
      have d3 : decide (node ≤ 6) = false := by simp; omega
      clear h h1
      go_enter Tryz.func20, Tryz.ntmps20
      go_wp2
      go_ret
      exact ⟨rfl, HB.out⟩
set_option maxRecDepth 10000 in
theorem mayBallot_yes (num : Nat) (node : Int) (w : World) (h : ¬ balBad num node) :
    Calls Tryz.prog 20 #[.agg #[.int .u64 (num : Int), .int .i64 node]] w fun e w' => e = .returned (.bool true) ∧ Hid (Below w.heap.size w w') := by
  have HB := hide (below_alloc1 w (.cells #[.int .u64 (num : Int), .int .i64 node] 25))
  have h1 : ¬ 1099511627776 < num := fun e => h (.inl e)
  have h2 : ¬ node < 0 := fun e => h (.inr (.inl e))
  have h3 : ¬ 6 < node := fun e => h (.inr (.inr e))
  have d1 : decide ((num : Int) ≤ 1099511627776) = true := by simp; omega
  have d2 : decide (0 ≤ node) = true := by simp; omega
  have d3 : decide (node ≤ 6) = true := by simp; omega
  clear h h1 h2 h3
  go_enter Tryz.func20, Tryz.ntmps20
  go_wp2
  go_ret
  exact ⟨rfl, HB.out⟩

theorem bGo_yes : ∀ (rs : List Rq) (i : Nat), (bGo rs i).2 = 0 ↔ ∀ r ∈ rs, r.why = 0
  | [], _ => by simp [bGo]
  | r :: t, i => by
    rw [bGo]
    by_cases h : r.why = 0
    · rw [if_pos h, bGo_yes t]; simp [h]
    · rw [if_neg h]; simp [h]

set_option maxRecDepth 10000 in
set_option maxHeartbeats 1600000 in
theorem mayBatch_any {w : World} (stamp : Nat) {ro : Option Addr} {rs : List Rq} {b off : Nat} (rc n : Nat) (hn : rs.length = n) (h : Rqs w.heap.size w ro rs b off) :
    Calls Tryz.prog 22 #[.agg #[.int .u64 (stamp : Int), .slice ro n rc]] w fun e w' => e = .returned (.bool (decide ((bFault stamp rs).2 = 0))) ∧ Hid (Below w.heap.size w w') := by
  have HR := hide h
  have hle := h.le
  have HB := hide (below_alloc1 w (.cells #[.int .u64 (stamp : Int), .slice ro n rc] 29))
  have HC0 : Hid (∀ W, Below (w.heap.size + 1) (w.alloc (.cells #[.int .u64 (stamp : Int), .slice ro n rc] 29)) W → W.cell? ⟨w.heap.size, 1, none⟩ = some (.slice ro n rc)) := fun W hW => by
    refine (hW.cell (p := ⟨w.heap.size, 1, none⟩) (by simp)).trans ?_
    exact World.cell?_alloc_new _ _ _ _
  clear h
  subst hn
  by_cases h1 : 1099511627776 < stamp
  · have HF : Hid (decide ((bFault stamp rs).2 = 0) = false) := by show _ = _; unfold bFault; rw [if_pos h1]; rfl
    have d1 : decide ((1099511627776 : Int) < (stamp : Int)) = true := by simp; omega
    rw [HF.out]
    generalize rs.length = n at *
    go_enter Tryz.func22, Tryz.ntmps22
    go_wp2
    go_ret
    exact ⟨rfl, HB.out⟩
  · have d1 : decide ((1099511627776 : Int) < (stamp : Int)) = false := by simp; omega
    by_cases h2 : 8 < rs.length
    · have HF : Hid (decide ((bFault stamp rs).2 = 0) = false) := by show _ = _; unfold bFault; rw [if_neg h1, if_pos h2]; rfl
      have d2 : decide ((8 : Int) < (rs.length : Int)) = true := by simp; omega
      rw [HF.out]
      generalize rs.length = n at *
      go_enter Tryz.func22, Tryz.ntmps22
      go_wp2
      go_ret
      exact ⟨rfl, HB.out⟩
    · have HF : Hid (bFault stamp rs = bGo rs 0) := by show _ = _; unfold bFault; rw [if_neg h1, if_neg h2]
      have d2 : decide ((8 : Int) < (rs.length : Int)) = false := by simp; omega
      rw [HF.out]
      go_enter Tryz.func22, Tryz.ntmps22
      go_wp2
      go_loopw [3] (fun i wr => ∃ k : Nat, k ≤ rs.length ∧ i = .int .i64 k ∧ Hid ((bGo rs 0).2 = (bGo (rs.drop k) k).2) ∧ Hid (Below w.heap.size w wr) ∧ wr.cell? ⟨w.heap.size, 1, none⟩ = some (.slice ro rs.length rc)) (fun i _ => rs.length - (intOf i).toNat)
      case atStart => exact ⟨0, by omega, rfl, rfl, HB.out, World.cell?_alloc_new _ _ _ _⟩
      case round =>
        obtain ⟨k, hk, rfl, HG, HW, hc1⟩ := hrel
        by_cases hlt : k < rs.length
        · obtain ⟨r, hr, hd, hok, hbl, rfl, c0, c1, c2⟩ := (HR.out.below HW.out).get hlt
          rw [hd] at HG
          obtain ⟨cl, sq, co, cn, cc, C⟩ := r
          simp only at c0 c1 c2
          by_cases g1 : cl < 256
          · have g1' : decide ((cl : Int) < 256) = true := by simp; omega
            have HG2 : Hid (decide ((bGo rs 0).2 = 0) = false) := by rw [HG.out]; show _ = _; simp [bGo, Rq.why, g1]
            clear hr hd hok
            go_wp2
            go_ret
            exact ⟨by rw [HG2.out]; rfl, HW⟩
          · have g1' : decide ((cl : Int) < 256) = false := by simp; omega
            by_cases g2 : 700 < cn
            · have g2' : decide ((700 : Int) < (cn : Int)) = true := by simp; omega
              have HG2 : Hid (decide ((bGo rs 0).2 = 0) = false) := by rw [HG.out]; show _ = _; simp [bGo, Rq.why, g1, g2]
              clear hr hd hok
              go_wp2
              go_ret
              exact ⟨by rw [HG2.out]; rfl, HW⟩
            · have g2' : decide ((700 : Int) < (cn : Int)) = false := by simp; omega
              have HG2 : Hid ((bGo rs 0).2 = (bGo (rs.drop (k + 1)) (k + 1)).2) := by rw [HG.out]; show _ = _; simp [bGo, Rq.why, g1, g2]
              clear hr hd hok
              go_wp2
              go_roundw
              case rel => exact ⟨k + 1, by omega, by go_num, HG2, HW, hc1⟩
              case measure => simp [intOf]; omega
        · obtain rfl : k = rs.length := by omega
          have HG2 : Hid (decide ((bGo rs 0).2 = 0) = true) := by rw [HG.out]; show _ = _; simp [bGo]
          go_wp2
          go_ret
          exact ⟨by rw [HG2.out]; rfl, HW⟩

set_option maxRecDepth 10000 in
theorem sameBytes0 (d : Option Addr) (m c : Nat) (w : World) : Calls Tryz.prog 11 #[.slice d m c, .slice none 0 0] w fun e w' => e = .returned (.bool (decide (m = 0))) ∧ Hid (Below w.heap.size w w') := by
  by_cases h : m = 0
  · subst h
    go_enter Tryz.func11, Tryz.ntmps11
    go_wp2
    go_loopw [5] (fun i wr => i = .int .i64 0 ∧ wr = w) (fun _ _ => 0)
    case atStart => exact ⟨rfl, rfl⟩
    case round =>
      obtain ⟨rfl, rfl⟩ := hrel
      go_wp2
      go_ret
      exact ⟨rfl, Below.refl _ _⟩
  · have d1 : ((m : Int) != 0) = true := by simp; omega
    rw [show decide (m = 0) = false by simp [h]]
    go_enter Tryz.func11, Tryz.ntmps11
    go_wp2
    go_ret
    exact ⟨rfl, Below.refl _ _⟩

set_option maxRecDepth 10000 in
theorem sameBatch0 (st : Nat) (d : Option Addr) (n c : Nat) (w : World) : Calls Tryz.prog 27 #[.agg #[.int .u64 (st : Int), .slice d n c], .agg #[.int .u64 0, .slice none 0 0]] w fun e w' => e = .returned (.bool (decide (st = 0 ∧ n = 0))) ∧ Hid (Below w.heap.size w w') := by
  have HB : Hid (∀ o1 o2, Below w.heap.size w ((w.alloc o1).alloc o2)) := fun o1 o2 => (below_alloc1 w _).alloc (by simp) _
  by_cases h : st = 0
  · subst h
    by_cases h : n = 0
    · subst h
      go_enter Tryz.func27, Tryz.ntmps27
      go_wp2
      go_loopw [5] (fun i wr => i = .int .i64 0 ∧ Hid (Below w.heap.size w wr) ∧ wr.cell? ⟨w.heap.size, 1, none⟩ = some (.slice d 0 c)) (fun _ _ => 0)
      case atStart => exact ⟨rfl, HB.out _ _, by simp⟩
      case round =>
        obtain ⟨rfl, HW, hc⟩ := hrel
        go_wp2
        go_ret
        exact ⟨rfl, HW⟩
    · have d1 : ((n : Int) != 0) = true := by simp; omega
      rw [show decide (0 = 0 ∧ n = 0) = false by simp [h]]
      go_enter Tryz.func27, Tryz.ntmps27
      go_wp2
      go_ret
      exact ⟨rfl, HB.out _ _⟩
  · have d1 : ((st : Int) != 0) = true := by simp; omega
    rw [show decide (st = 0 ∧ n = 0) = false by simp [h]]
    go_enter Tryz.func27, Tryz.ntmps27
    go_wp2
    go_ret
    exact ⟨rfl, HB.out _ _⟩

end Go.Proofs.YtldhafpeigdloaaGreatDoor
namespace Go.Proofs.YtldhafpeigdloaaGreatDoor
open Go.RowKit Crc

/-- Two messages as they lie, side by side. -/
structure Sm (w : World) (a b : Mg) (W : World) : Prop where
  bel : Below w.heap.size w W
  qa : W.heap[w.heap.size]? = some (.cells a.R.toArray 36 (0, 0))
  qb : W.heap[w.heap.size + 1]? = some (.cells b.R.toArray 36 (0, 0))
theorem Sm.next {w : World} {a b : Mg} {W W' : World} (h : Sm w a b W) (hb : Below W.heap.size W W') : Sm w a b W' := ⟨h.bel.trans (hb.mono h.bel.size), (hb.block _ (block_lt h.qa)).trans h.qa, (hb.block _ (block_lt h.qb)).trans h.qb⟩
theorem Sm.drew {w : World} {a b : Mg} {W : World} (h : Sm w a b W) : Sm w a b W.drew := h.next ⟨rfl, rfl, rfl, Nat.le_refl _, fun _ _ => rfl⟩
theorem Sm.ca {w : World} {a b : Mg} {W : World} (h : Sm w a b W) (j : Nat) {v : Value} (hv : a.R[j]? = some v) : W.cell? ⟨w.heap.size, j, none⟩ = some v := by rw [block_cell h.qa j, List.getElem?_toArray]; exact hv
theorem Sm.cb {w : World} {a b : Mg} {W : World} (h : Sm w a b W) (j : Nat) {v : Value} (hv : b.R[j]? = some v) : W.cell? ⟨w.heap.size + 1, j, none⟩ = some v := by rw [block_cell h.qb j, List.getElem?_toArray]; exact hv
theorem Sm.ra {w : World} {a b : Mg} {W : World} (h : Sm w a b W) : W.rangeAt w.heap.size 16 (vals a.root) := fun j v hv => h.ca (16 + j) (Mg.root_at j v hv)
theorem Sm.rb {w : World} {a b : Mg} {W : World} (h : Sm w a b W) : W.rangeAt (w.heap.size + 1) 16 (vals b.root) := fun j v hv => h.cb (16 + j) (Mg.root_at j v hv)
/-- The fields that are held against each other one by one. -/
structure Mg.like (a b : Mg) : Prop where
  kind : a.kind = b.kind
  bal : a.num = b.num ∧ a.node = b.node
  slot : a.slot = b.slot
  low : a.low = b.low
  seq : a.seq = b.seq
  stamp : a.stamp = b.stamp
  code : a.code = b.code
  sus : a.sus = b.sus
  idx : a.idx = b.idx
  cnt : a.cnt = b.cnt
  root : a.root = b.root
  hs : a.hs = b.hs
/-- What sameMsg tells, by what its callees tell. -/
def SameP (a b : Mg) (qv qt qc qd : Bool) (w : World) (e : Ending) (w' : World) : Prop := ∃ q : Bool, e = .returned (.bool q) ∧ Hid ((q = true ↔ a.like b ∧ qv = true ∧ qt = true ∧ qc = true ∧ qd = true) ∧ Below w.heap.size w w')
theorem same_no {a b : Mg} {qv qt qc qd : Bool} (h : ¬ (a.like b ∧ qv = true ∧ qt = true ∧ qc = true ∧ qd = true)) : false = true ↔ a.like b ∧ qv = true ∧ qt = true ∧ qc = true ∧ qd = true := ⟨fun e => (by cases e), fun e => absurd e h⟩

theorem SameP.no {a b : Mg} {qv qt qc qd : Bool} {w W : World} (h : ¬ (a.like b ∧ qv = true ∧ qt = true ∧ qc = true ∧ qd = true)) (hb : Below w.heap.size w W) : SameP a b qv qt qc qd w (.returned (.bool false)) W := ⟨false, rfl, same_no h, hb⟩
theorem SameP.yes {a b : Mg} {qd : Bool} {w W : World} (h : a.like b) (hb : Below w.heap.size w W) : SameP a b true true true qd w (.returned (.bool qd)) W := ⟨qd, rfl, ⟨fun e => ⟨h, rfl, rfl, rfl, e⟩, fun e => e.2.2.2.2⟩, hb⟩
theorem hash_desc2 : Tryz.prog.underlying 33 = some (.array 32 5) := by kernel_rfl
theorem sm_new (w : World) (a b : Mg) : Sm w a b ((w.alloc (.cells a.R.toArray 36)).alloc (.cells b.R.toArray 36)) := by
  have e1 : (w.alloc (.cells a.R.toArray 36)).heap.size = w.heap.size + 1 := by simp
  refine ⟨(below_alloc1 w _).alloc (by simp) _, ((World.grownBy_alloc _ _ none).block _ (by rw [e1]; omega) (by simp)).trans (alloc_at _ _), ?_⟩
  rw [← e1]
  exact alloc_at _ _
/-- A long load that stands behind a guard. -/
theorem wpList_load_midG {P : Program} {ops : Array Oper} {rest : List Oper} {op : Oper} {a : Act} {w : World} {Q : Exit → Act → World → Prop} (hw : Region.wanted op (yielded ops a.tmps) = true) (ty : TypeId) (x : Operand) (ho : op.op = .load ty x)
    (b o : Nat) (hx : a.eval x = .pointer (some ⟨b, o, none⟩)) (cs : List Value) (d : TypeDesc) (hc : w.rangeAt b o cs)
    (hu : P.underlying ty = some d) (hd : d.isRow = true) (hi : (P.info? ty).map (·.size) = some cs.length)
    (h : wpList P ops Q rest (a.put op.dst (.agg cs.toArray)) w) : wpList P ops Q (op :: rest) a w := by
  unfold wpList
  rw [if_pos hw]
  exact .inl (wp_load_mid ty x ho b o hx cs d hc hu hd hi h)
end Go.Proofs.YtldhafpeigdloaaGreatDoor
namespace Go.Proofs.YtldhafpeigdloaaGreatDoor
open Go.RowKit Crc

set_option maxRecDepth 10000 in
set_option maxHeartbeats 6400000 in
theorem smA {w : World} (a b : Mg) (rla : a.root.length = 32) (rlb : b.root.length = 32) {qv qt qc qd : Bool} (hq : ¬ (a.kind = b.kind ∧ (a.num = b.num ∧ a.node = b.node) ∧ a.slot = b.slot ∧ a.low = b.low ∧ a.seq = b.seq ∧ a.stamp = b.stamp)) :
    Calls Tryz.prog 10 #[.agg a.R.toArray, .agg b.R.toArray] w (SameP a b qv qt qc qd w) := by
  have RL := hide (And.intro rla rlb)
  obtain ⟨W, hW⟩ : ∃ W, (w.alloc (.cells a.R.toArray 36)).alloc (.cells b.R.toArray 36) = W := ⟨_, rfl⟩
  have SM : Hid (Sm w a b W) := by show Sm _ _ _ _; rw [← hW]; exact sm_new w a b
  have HW := hide hW
  clear hW rla rlb
  have HQ := hide hq
  clear hq
  obtain ⟨b1, hb1, hbe⟩ : ∃ b1 : Bool, (b1 = true ↔ ¬ (a.num = b.num ∧ a.node = b.node)) ∧ ∀ w, (binOp BinOp.neq 25 (.agg #[.int .u64 (a.num : Int), .int .i64 a.node]) (.agg #[.int .u64 (b.num : Int), .int .i64 b.node])).run Tryz.prog w = .ok (.bool b1) w := ⟨_, by simp; omega, bal_cmp (a.num : Int) b.num a.node b.node⟩
  have x0 := SM.out.ca 0 (v := .int .i64 a.kind) rfl
  have y0 := SM.out.cb 0 (v := .int .i64 b.kind) rfl
  have x1 := SM.out.ca 1 (v := .int .u64 (a.num : Int)) rfl
  have y1 := SM.out.cb 1 (v := .int .u64 (b.num : Int)) rfl
  have x2 := SM.out.ca 2 (v := .int .i64 a.node) rfl
  have y2 := SM.out.cb 2 (v := .int .i64 b.node) rfl
  have x3 := SM.out.ca 3 (v := .int .u64 (a.slot : Int)) rfl
  have y3 := SM.out.cb 3 (v := .int .u64 (b.slot : Int)) rfl
  have x4 := SM.out.ca 4 (v := .int .u64 (a.low : Int)) rfl
  have y4 := SM.out.cb 4 (v := .int .u64 (b.low : Int)) rfl
  have x8 := SM.out.ca 8 (v := .int .u64 (a.seq : Int)) rfl
  have y8 := SM.out.cb 8 (v := .int .u64 (b.seq : Int)) rfl
  have x9 := SM.out.ca 9 (v := .int .u64 (a.stamp : Int)) rfl
  have y9 := SM.out.cb 9 (v := .int .u64 (b.stamp : Int)) rfl
  go_enter Tryz.func10, Tryz.ntmps10
  go_upto_region 1 with fail
  rw [HW.out]
  clear HW
  by_cases e0 : a.kind = b.kind
  rotate_left
  · have NE := hide e0
    have n1 : (a.kind != b.kind) = true := by simp; omega
    have n2 : (a.kind == b.kind) = false := by simp; omega
    have n3 : decide (a.kind = b.kind) = false := by simp; omega
    clear e0
    go_wp2
    go_ret
    exact SameP.no (fun e => NE.out e.1.kind) SM.out.bel
  rw [← e0] at y0
  have E0 := hide e0
  clear e0
  cases b1 with
  | true =>
    have NE := hide (hb1.1 rfl)
    clear hb1
    go_wp2
    go_ret
    exact SameP.no (fun e => NE.out e.1.bal) SM.out.bel
  | false =>
  have EB : Hid (a.num = b.num ∧ a.node = b.node) := Classical.byContradiction fun e => Bool.noConfusion (hb1.2 e)
  clear hb1
  by_cases e3 : a.slot = b.slot
  rotate_left
  · have NE := hide e3
    have n1 : ((a.slot : Int) != (b.slot : Int)) = true := by simp; omega
    have n2 : ((a.slot : Int) == (b.slot : Int)) = false := by simp; omega
    have n3 : decide ((a.slot : Int) = (b.slot : Int)) = false := by simp; omega
    clear e3
    go_wp2
    go_ret
    exact SameP.no (fun e => NE.out e.1.slot) SM.out.bel
  rw [← e3] at y3
  have E3 := hide e3
  clear e3
  by_cases e4 : a.low = b.low
  rotate_left
  · have NE := hide e4
    have n1 : ((a.low : Int) != (b.low : Int)) = true := by simp; omega
    have n2 : ((a.low : Int) == (b.low : Int)) = false := by simp; omega
    have n3 : decide ((a.low : Int) = (b.low : Int)) = false := by simp; omega
    clear e4
    go_wp2
    go_ret
    exact SameP.no (fun e => NE.out e.1.low) SM.out.bel
  rw [← e4] at y4
  have E4 := hide e4
  clear e4
  by_cases e8 : a.seq = b.seq
  rotate_left
  · have NE := hide e8
    have n1 : ((a.seq : Int) != (b.seq : Int)) = true := by simp; omega
    have n2 : ((a.seq : Int) == (b.seq : Int)) = false := by simp; omega
    have n3 : decide ((a.seq : Int) = (b.seq : Int)) = false := by simp; omega
    clear e8
    go_wp2
    go_ret
    exact SameP.no (fun e => NE.out e.1.seq) SM.out.bel
  rw [← e8] at y8
  have E8 := hide e8
  clear e8
  by_cases e9 : a.stamp = b.stamp
  rotate_left
  · have NE := hide e9
    have n1 : ((a.stamp : Int) != (b.stamp : Int)) = true := by simp; omega
    have n2 : ((a.stamp : Int) == (b.stamp : Int)) = false := by simp; omega
    have n3 : decide ((a.stamp : Int) = (b.stamp : Int)) = false := by simp; omega
    clear e9
    go_wp2
    go_ret
    exact SameP.no (fun e => NE.out e.1.stamp) SM.out.bel
  rw [← e9] at y9
  have E9 := hide e9
  clear e9
  exact absurd ⟨E0.out, EB.out, E3.out, E4.out, E8.out, E9.out⟩ HQ.out
end Go.Proofs.YtldhafpeigdloaaGreatDoor
