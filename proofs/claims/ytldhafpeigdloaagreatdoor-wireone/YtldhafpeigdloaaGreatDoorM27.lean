import Derived.Test.YtldhafpeigdloaaGreatDoorM26
import Derived.Test.YtldhafpeigdloaaGreatDoorUVotes
namespace Go.Proofs.YtldhafpeigdloaaGreatDoor
open Go.RowKit Crc

set_option maxRecDepth 10000 in
theorem note_3 {cb : Nat} {R : List Value} {U : List Bool} {Y : List Int} {w : World} (h : Ck cb R U Y w) (y : Int) :
    Calls Tryz.prog 74 #[.pointer (some ⟨cb, 0, none⟩), .int .i64 3, .int .i64 y] w fun e w' => e = .returned (.tuple #[]) ∧ Hid (Ck cb R (U.set 3 true) (Y.set 3 y) w' ∧ w.grownBy w' (some cb)) := by
  have u1 := h.cellU 3 (by decide)
  have u2 := h.cellY 3 (by decide)
  have f1 := h.free 52
  have f2 := h.free 68
  have FIN := hide (h.note 3 (by decide) y)
  have hl := h.lt
  simp only [Nat.reduceAdd] at u1 u2
  clear h
  go_enter Tryz.func74, Tryz.ntmps74
  go_wp2
  go_end0
  exact ⟨rfl, FIN.out⟩
set_option maxRecDepth 10000 in
theorem note_4 {cb : Nat} {R : List Value} {U : List Bool} {Y : List Int} {w : World} (h : Ck cb R U Y w) (y : Int) :
    Calls Tryz.prog 74 #[.pointer (some ⟨cb, 0, none⟩), .int .i64 4, .int .i64 y] w fun e w' => e = .returned (.tuple #[]) ∧ Hid (Ck cb R (U.set 4 true) (Y.set 4 y) w' ∧ w.grownBy w' (some cb)) := by
  have u1 := h.cellU 4 (by decide)
  have u2 := h.cellY 4 (by decide)
  have f1 := h.free 53
  have f2 := h.free 69
  have FIN := hide (h.note 4 (by decide) y)
  have hl := h.lt
  simp only [Nat.reduceAdd] at u1 u2
  clear h
  go_enter Tryz.func74, Tryz.ntmps74
  go_wp2
  go_end0
  exact ⟨rfl, FIN.out⟩
set_option maxRecDepth 10000 in
theorem note_6 {cb : Nat} {R : List Value} {U : List Bool} {Y : List Int} {w : World} (h : Ck cb R U Y w) (y : Int) :
    Calls Tryz.prog 74 #[.pointer (some ⟨cb, 0, none⟩), .int .i64 6, .int .i64 y] w fun e w' => e = .returned (.tuple #[]) ∧ Hid (Ck cb R (U.set 6 true) (Y.set 6 y) w' ∧ w.grownBy w' (some cb)) := by
  have u1 := h.cellU 6 (by decide)
  have u2 := h.cellY 6 (by decide)
  have f1 := h.free 55
  have f2 := h.free 71
  have FIN := hide (h.note 6 (by decide) y)
  have hl := h.lt
  simp only [Nat.reduceAdd] at u1 u2
  clear h
  go_enter Tryz.func74, Tryz.ntmps74
  go_wp2
  go_end0
  exact ⟨rfl, FIN.out⟩
set_option maxRecDepth 10000 in
theorem note_7 {cb : Nat} {R : List Value} {U : List Bool} {Y : List Int} {w : World} (h : Ck cb R U Y w) (y : Int) :
    Calls Tryz.prog 74 #[.pointer (some ⟨cb, 0, none⟩), .int .i64 7, .int .i64 y] w fun e w' => e = .returned (.tuple #[]) ∧ Hid (Ck cb R (U.set 7 true) (Y.set 7 y) w' ∧ w.grownBy w' (some cb)) := by
  have u1 := h.cellU 7 (by decide)
  have u2 := h.cellY 7 (by decide)
  have f1 := h.free 56
  have f2 := h.free 72
  have FIN := hide (h.note 7 (by decide) y)
  have hl := h.lt
  simp only [Nat.reduceAdd] at u1 u2
  clear h
  go_enter Tryz.func74, Tryz.ntmps74
  go_wp2
  go_end0
  exact ⟨rfl, FIN.out⟩
set_option maxRecDepth 10000 in
theorem note_8 {cb : Nat} {R : List Value} {U : List Bool} {Y : List Int} {w : World} (h : Ck cb R U Y w) (y : Int) :
    Calls Tryz.prog 74 #[.pointer (some ⟨cb, 0, none⟩), .int .i64 8, .int .i64 y] w fun e w' => e = .returned (.tuple #[]) ∧ Hid (Ck cb R (U.set 8 true) (Y.set 8 y) w' ∧ w.grownBy w' (some cb)) := by
  have u1 := h.cellU 8 (by decide)
  have u2 := h.cellY 8 (by decide)
  have f1 := h.free 57
  have f2 := h.free 73
  have FIN := hide (h.note 8 (by decide) y)
  have hl := h.lt
  simp only [Nat.reduceAdd] at u1 u2
  clear h
  go_enter Tryz.func74, Tryz.ntmps74
  go_wp2
  go_end0
  exact ⟨rfl, FIN.out⟩
set_option maxRecDepth 10000 in
theorem note_9 {cb : Nat} {R : List Value} {U : List Bool} {Y : List Int} {w : World} (h : Ck cb R U Y w) (y : Int) :
    Calls Tryz.prog 74 #[.pointer (some ⟨cb, 0, none⟩), .int .i64 9, .int .i64 y] w fun e w' => e = .returned (.tuple #[]) ∧ Hid (Ck cb R (U.set 9 true) (Y.set 9 y) w' ∧ w.grownBy w' (some cb)) := by
  have u1 := h.cellU 9 (by decide)
  have u2 := h.cellY 9 (by decide)
  have f1 := h.free 58
  have f2 := h.free 74
  have FIN := hide (h.note 9 (by decide) y)
  have hl := h.lt
  simp only [Nat.reduceAdd] at u1 u2
  clear h
  go_enter Tryz.func74, Tryz.ntmps74
  go_wp2
  go_end0
  exact ⟨rfl, FIN.out⟩
set_option maxRecDepth 10000 in
theorem note_11 {cb : Nat} {R : List Value} {U : List Bool} {Y : List Int} {w : World} (h : Ck cb R U Y w) (y : Int) :
    Calls Tryz.prog 74 #[.pointer (some ⟨cb, 0, none⟩), .int .i64 11, .int .i64 y] w fun e w' => e = .returned (.tuple #[]) ∧ Hid (Ck cb R (U.set 11 true) (Y.set 11 y) w' ∧ w.grownBy w' (some cb)) := by
  have u1 := h.cellU 11 (by decide)
  have u2 := h.cellY 11 (by decide)
  have f1 := h.free 60
  have f2 := h.free 76
  have FIN := hide (h.note 11 (by decide) y)
  have hl := h.lt
  simp only [Nat.reduceAdd] at u1 u2
  clear h
  go_enter Tryz.func74, Tryz.ntmps74
  go_wp2
  go_end0
  exact ⟨rfl, FIN.out⟩
set_option maxRecDepth 10000 in
theorem note_12 {cb : Nat} {R : List Value} {U : List Bool} {Y : List Int} {w : World} (h : Ck cb R U Y w) (y : Int) :
    Calls Tryz.prog 74 #[.pointer (some ⟨cb, 0, none⟩), .int .i64 12, .int .i64 y] w fun e w' => e = .returned (.tuple #[]) ∧ Hid (Ck cb R (U.set 12 true) (Y.set 12 y) w' ∧ w.grownBy w' (some cb)) := by
  have u1 := h.cellU 12 (by decide)
  have u2 := h.cellY 12 (by decide)
  have f1 := h.free 61
  have f2 := h.free 77
  have FIN := hide (h.note 12 (by decide) y)
  have hl := h.lt
  simp only [Nat.reduceAdd] at u1 u2
  clear h
  go_enter Tryz.func74, Tryz.ntmps74
  go_wp2
  go_end0
  exact ⟨rfl, FIN.out⟩
set_option maxRecDepth 10000 in
theorem note_13 {cb : Nat} {R : List Value} {U : List Bool} {Y : List Int} {w : World} (h : Ck cb R U Y w) (y : Int) :
    Calls Tryz.prog 74 #[.pointer (some ⟨cb, 0, none⟩), .int .i64 13, .int .i64 y] w fun e w' => e = .returned (.tuple #[]) ∧ Hid (Ck cb R (U.set 13 true) (Y.set 13 y) w' ∧ w.grownBy w' (some cb)) := by
  have u1 := h.cellU 13 (by decide)
  have u2 := h.cellY 13 (by decide)
  have f1 := h.free 62
  have f2 := h.free 78
  have FIN := hide (h.note 13 (by decide) y)
  have hl := h.lt
  simp only [Nat.reduceAdd] at u1 u2
  clear h
  go_enter Tryz.func74, Tryz.ntmps74
  go_wp2
  go_end0
  exact ⟨rfl, FIN.out⟩
set_option maxRecDepth 10000 in
theorem note_14 {cb : Nat} {R : List Value} {U : List Bool} {Y : List Int} {w : World} (h : Ck cb R U Y w) (y : Int) :
    Calls Tryz.prog 74 #[.pointer (some ⟨cb, 0, none⟩), .int .i64 14, .int .i64 y] w fun e w' => e = .returned (.tuple #[]) ∧ Hid (Ck cb R (U.set 14 true) (Y.set 14 y) w' ∧ w.grownBy w' (some cb)) := by
  have u1 := h.cellU 14 (by decide)
  have u2 := h.cellY 14 (by decide)
  have f1 := h.free 63
  have f2 := h.free 79
  have FIN := hide (h.note 14 (by decide) y)
  have hl := h.lt
  simp only [Nat.reduceAdd] at u1 u2
  clear h
  go_enter Tryz.func74, Tryz.ntmps74
  go_wp2
  go_end0
  exact ⟨rfl, FIN.out⟩
set_option maxRecDepth 10000 in
theorem note_15 {cb : Nat} {R : List Value} {U : List Bool} {Y : List Int} {w : World} (h : Ck cb R U Y w) (y : Int) :
    Calls Tryz.prog 74 #[.pointer (some ⟨cb, 0, none⟩), .int .i64 15, .int .i64 y] w fun e w' => e = .returned (.tuple #[]) ∧ Hid (Ck cb R (U.set 15 true) (Y.set 15 y) w' ∧ w.grownBy w' (some cb)) := by
  have u1 := h.cellU 15 (by decide)
  have u2 := h.cellY 15 (by decide)
  have f1 := h.free 64
  have f2 := h.free 80
  have FIN := hide (h.note 15 (by decide) y)
  have hl := h.lt
  simp only [Nat.reduceAdd] at u1 u2
  clear h
  go_enter Tryz.func74, Tryz.ntmps74
  go_wp2
  go_end0
  exact ⟨rfl, FIN.out⟩
end Go.Proofs.YtldhafpeigdloaaGreatDoor
namespace Go.Proofs.YtldhafpeigdloaaGreatDoor
open Go.RowKit Crc

/-- Why a vote may not be, and the first of some. -/
def vF (l : Nat) (t : Vi) : Int := if 1099511627776 < t.slot then 29 else if t.slot < l then 30 else if balBad t.num t.node then 29 else (bFault t.st t.rs).2
def vsGo : Nat → List Vi → Int
  | _, [] => 0
  | l, t :: r => if vF l t ≠ 0 then vF l t else vsGo (vNx t.slot) r
def vsFault (l : Nat) (ts : List Vi) : Int := if 8 < ts.length then 21 else vsGo l ts

set_option maxRecDepth 10000 in
set_option maxHeartbeats 800000 in
theorem voteFault_any {w : World} (t : Vi) (l : Nat) (h : t.Ok w.heap.size w) :
    Calls Tryz.prog 80 #[.agg #[.int .u64 (t.slot : Int), .int .u64 (t.num : Int), .int .i64 t.node, .int .u64 (t.st : Int), .slice t.ro t.n t.rc], .int .u64 (l : Int)] w fun e w' => e = .returned (.int .i64 (vF l t)) ∧ Hid (Below w.heap.size w w') := by
  have HB := hide (below_alloc1 w)
  by_cases h1 : 1099511627776 < t.slot
  · have HF : Hid (vF l t = 29) := if_pos h1
    have d1 : decide ((1099511627776 : Int) < (t.slot : Int)) = true := by simp; omega
    rw [HF.out]
    clear h
    go_enter Tryz.func80, Tryz.ntmps80
    go_wp2
    go_ret
    exact ⟨rfl, HB.out _⟩
  · have d1 : decide ((1099511627776 : Int) < (t.slot : Int)) = false := by simp; omega
    by_cases h2 : t.slot < l
    · have HF : Hid (vF l t = 30) := by show _ = _; unfold vF; rw [if_neg h1, if_pos h2]
      have d2 : decide ((t.slot : Int) < (l : Int)) = true := by simp; omega
      rw [HF.out]
      clear h
      go_enter Tryz.func80, Tryz.ntmps80
      go_wp2
      go_ret
      exact ⟨rfl, HB.out _⟩
    · have d2 : decide ((t.slot : Int) < (l : Int)) = false := by simp; omega
      have HBL : Hid (∀ W, Calls Tryz.prog 75 #[.agg #[.int .u64 (t.num : Int), .int .i64 t.node]] W fun e w' => e = .returned (.int .i64 (balY t.num t.node)) ∧ Hid (Below W.heap.size W w')) := fun W => balF_any t.num t.node W
      have HBF : Hid (∀ W, Below w.heap.size w W → Calls Tryz.prog 76 #[.agg #[.int .u64 (t.st : Int), .slice t.ro t.n t.rc]] W fun e w' => e = .returned (.tuple #[.int .i64 ((bFault t.st t.rs).1 : Int), .int .i64 (bFault t.st t.rs).2]) ∧ Hid (Below W.heap.size W w')) := fun W hb => by
        have h3 := batchFault_any t.st t.rc ((h.hR.below hb).wide hb.size)
        rw [h.hn] at h3
        exact h3.mono (fun _ _ h => ⟨h.1, h.2⟩)
      have HV : Hid ((balY t.num t.node ≠ 0 → vF l t = 29) ∧ (balY t.num t.node = 0 → vF l t = (bFault t.st t.rs).2)) := by
        unfold vF balY
        rw [if_neg h1, if_neg h2]
        by_cases hb : balBad t.num t.node
        · rw [if_pos hb, if_pos hb]; exact ⟨fun _ => rfl, fun e => by cases e⟩
        · rw [if_neg hb, if_neg hb]; exact ⟨fun e => absurd rfl e, fun _ => rfl⟩
      generalize vF l t = vf at *
      generalize balY t.num t.node = y at *
      generalize ((bFault t.st t.rs).1 : Int) = ba at *
      generalize (bFault t.st t.rs).2 = bc at *
      clear h
      have BX : Hid (∀ W, Below w.heap.size (w.alloc (.cells #[.int .u64 (t.slot : Int), .int .u64 (t.num : Int), .int .i64 t.node, .int .u64 (t.st : Int), .slice t.ro t.n t.rc] 66)) W → True) := fun _ _ => trivial
      obtain ⟨W1, hW1⟩ : ∃ W1, w.alloc (.cells #[.int .u64 (t.slot : Int), .int .u64 (t.num : Int), .int .i64 t.node, .int .u64 (t.st : Int), .slice t.ro t.n t.rc] 66) = W1 := ⟨_, rfl⟩
      have q1 : W1.heap[w.heap.size]? = some (.cells #[.int .u64 (t.slot : Int), .int .u64 (t.num : Int), .int .i64 t.node, .int .u64 (t.st : Int), .slice t.ro t.n t.rc] 66 (0, 0)) := by rw [← hW1]; exact alloc_at _ _
      have B1 : Hid (Below w.heap.size w W1) := by show Below _ _ _; rw [← hW1]; exact below_alloc1 w _
      have Q1 := hide q1
      have c0 := block_cell q1 0
      have c1 := block_cell q1 1
      have c2 := block_cell q1 2
      simp at c0 c1 c2
      have HW1 := hide hW1
      clear hW1 q1 BX
      go_enter Tryz.func80, Tryz.ntmps80
      go_wp2_with fail
      rw [HW1.out]
      clear HW1
      go_wp2_with fail
      refine (HBL.out W1).mono ?_
      rintro e w2 ⟨rfl, b2⟩
      have B2 : Hid (Below w.heap.size w w2) := B1.out.trans (b2.out.mono B1.out.size)
      have q2 := (b2.out.block _ (block_lt Q1.out)).trans Q1.out
      have c3 := block_cell q2 3
      have c4 := block_cell q2 4
      simp at c3 c4
      clear c0 c1 c2 q2 b2 HBL
      by_cases hy : y = 0
      · subst hy
        have HV2 := hide (HV.out.2 rfl)
        clear HV
        go_wp2_with fail
        refine (HBF.out w2 B2.out).mono ?_
        rintro e w3 ⟨rfl, b3⟩
        go_wp2
        go_ret
        exact ⟨by rw [HV2.out]; rfl, B2.out.trans (b3.out.mono B2.out.size)⟩
      · have hyb : (y != 0) = true := by simp [hy]
        have HV2 := hide (HV.out.1 hy)
        clear HV
        go_wp2
        go_ret
        exact ⟨by rw [HV2.out]; rfl, B2.out⟩

set_option maxRecDepth 10000 in
set_option maxHeartbeats 1600000 in
theorem votesFault_any {w : World} (l : Nat) {vo : Option Addr} {ts : List Vi} {b off : Nat} (vc : Nat) (h : Vos w.heap.size w vo ts b off) :
    Calls Tryz.prog 79 #[.slice vo ts.length vc, .int .u64 (l : Int)] w fun e w' => e = .returned (.int .i64 (vsFault l ts)) ∧ Hid (Below w.heap.size w w') := by
  have HR := hide h
  have hle := h.le
  clear h
  by_cases h8 : 8 < ts.length
  · have HF : Hid (vsFault l ts = 21 ∧ cntY (ts.length : Int) 8 = 21) := ⟨if_pos h8, by unfold cntY; rw [if_pos (by omega)]⟩
    rw [HF.out.1]
    generalize ts.length = n at *
    go_enter Tryz.func79, Tryz.ntmps79
    go_wp2
    go_step3
    go_wp2_with fail
    refine (countFault_any (n : Int) 8 w).mono ?_
    rintro e w1 ⟨rfl, rfl⟩
    rw [HF.out.2]
    go_wp2
    rw [Exit.noGoto_ret]
    go_ret
    exact ⟨rfl, Below.refl _ _⟩
  · have HF : Hid (vsFault l ts = vsGo l ts ∧ cntY (ts.length : Int) 8 = 0) := ⟨if_neg h8, by unfold cntY; rw [if_neg (by omega)]⟩
    rw [HF.out.1]
    go_enter Tryz.func79, Tryz.ntmps79
    go_wp2
    go_step3
    go_wp2_with fail
    refine (countFault_any (ts.length : Int) 8 w).mono ?_
    rintro e w1 ⟨rfl, hw1⟩
    rw [hw1, HF.out.2]
    clear hw1
    go_wp2
    go_step3
    go_wp2
    go_loopw [5, 6, 18] (fun x y i wr => ∃ k z : Nat, k ≤ ts.length ∧ x = .int .i64 0 ∧ y = .int .u64 (z : Int) ∧ i = .int .i64 k ∧ Hid (vsGo l ts = vsGo z (ts.drop k)) ∧ Hid (Below w.heap.size w wr)) (fun _ _ i _ => ts.length - (intOf i).toNat)
    case atStart => exact ⟨0, l, by omega, rfl, rfl, rfl, rfl, Below.refl _ _⟩
    case round =>
      obtain ⟨k, z, hk, rfl, rfl, rfl, HG, HW⟩ := hrel
      by_cases hlt : k < ts.length
      · obtain ⟨t, ht, hd, hok, hbl, rfl, c0, c1, c2, c3, c4⟩ := (HR.out.below HW.out).get hlt
        have hbw : b < wr.heap.size := Nat.lt_of_lt_of_le hbl HW.out.size
        have HD : Hid (vsGo z (ts.drop k) = if vF z t ≠ 0 then vF z t else vsGo (vNx t.slot) (ts.drop (k + 1))) := by show _ = _; rw [hd]; rfl
        obtain ⟨W1, hW1⟩ : ∃ W1, wr.alloc (.cells #[.int .u64 (t.slot : Int), .int .u64 (t.num : Int), .int .i64 t.node, .int .u64 (t.st : Int), .slice t.ro t.n t.rc] 66) = W1 := ⟨_, rfl⟩
        have B1 : Hid (Below wr.heap.size wr W1) := by show Below _ _ _; rw [← hW1]; exact below_alloc1 wr _
        have HV : Hid (Calls Tryz.prog 80 #[.agg #[.int .u64 (t.slot : Int), .int .u64 (t.num : Int), .int .i64 t.node, .int .u64 (t.st : Int), .slice t.ro t.n t.rc], .int .u64 (z : Int)] W1 fun e w' => e = .returned (.int .i64 (vF z t)) ∧ Hid (Below W1.heap.size W1 w')) := voteFault_any t z (((hok.wide HW.out.size).below B1.out).wide B1.out.size)
        have Q1 : Hid (W1.heap[wr.heap.size]? = some (.cells #[.int .u64 (t.slot : Int), .int .u64 (t.num : Int), .int .i64 t.node, .int .u64 (t.st : Int), .slice t.ro t.n t.rc] 66 (0, 0))) := by show _ = _; rw [← hW1]; exact alloc_at _ _
        have HW1 := hide hW1
        clear ht hd hok hW1
        generalize vF z t = vf at *
        go_wp2_with fail
        refine callsAt HW1.out ?_
        refine HV.out.mono ?_
        rintro e w2 ⟨rfl, b2⟩
        have B2 : Hid (Below w.heap.size w w2) := HW.out.trans ((B1.out.trans (b2.out.mono B1.out.size)).mono HW.out.size)
        have q2 := (b2.out.block _ (block_lt Q1.out)).trans Q1.out
        have e0 := block_cell q2 0
        simp at e0
        have hwn := wrap_nx t.slot
        clear c0 c1 c2 c3 c4 q2 b2 HV HW1 Q1 B1 HW
        by_cases hv : vf = 0
        · subst hv
          have HG2 : Hid (vsGo l ts = vsGo (vNx t.slot) (ts.drop (k + 1))) := by show _ = _; rw [HG.out, HD.out, if_neg (by simp)]
          clear HG HD
          go_wp2
          go_roundw
          case rel => exact ⟨k + 1, vNx t.slot, by omega, rfl, rfl, by go_num, HG2, B2⟩
          case measure => simp [intOf]; omega
        · have hvb : (vf != 0) = true := by simp [hv]
          have HG2 : Hid (vsGo l ts = vf) := by show _ = _; rw [HG.out, HD.out, if_pos hv]
          clear HG HD
          go_wp2
          rw [Exit.noGoto_ret]
          go_ret
          exact ⟨by rw [HG2.out]; rfl, B2.out⟩
      · obtain rfl : k = ts.length := by omega
        have HG2 : Hid (vsGo l ts = 0) := by show _ = _; rw [HG.out, List.drop_length]; rfl
        go_wp2
        rw [Exit.noGoto_ret]
        go_ret
        exact ⟨by rw [HG2.out]; rfl, HW.out⟩
end Go.Proofs.YtldhafpeigdloaaGreatDoor
