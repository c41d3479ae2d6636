import Derived.Test.YtdbolfnldbopoaaXfB
import Derived.Test.YtdbolfnldbopoaaBSp
import Derived.Test.YtdbolfnldbopoaaBAt
import Derived.Test.YtdbolfnldbopoaaBAw
import Derived.Deep.MidRow
namespace Go.Proofs.Ytdbolfnldbopoaa
open Go.RowKit

def h32 : List Value := List.replicate 32 (.int .u8 0)
/-- A supplier's state, empty. -/
def sZ : List Value := .int .u64 0 :: .int .u64 0 :: h32
/-- A fetcher's state, empty. -/
def fZ : List Value := .int .u64 0 :: .int .i64 0 :: .int .u64 0 :: (h32 ++ [.slice none 0 0, .int .u64 0])
/-- A new supplier's cells. -/
def supC (g : Nat) (me : Int) : List Value := .pointer (some ⟨g, 0, none⟩) :: .int .i64 me :: (sZ ++ [.slice none 0 0])
def fetC (g : Nat) (me : Int) : List Value := .pointer (some ⟨g, 0, none⟩) :: .int .i64 me :: (fZ ++ [.nilFunc])
/-- The reference's. -/
def rsupC (g : Nat) (me : Int) : List Value := [.pointer (some ⟨g, 0, none⟩), .int .i64 me, .int .u64 0, .slice none 0 0]
def rfetC (g : Nat) (me : Int) : List Value := .pointer (some ⟨g, 0, none⟩) :: .int .i64 me :: fZ
theorem sup_build (g : Nat) (me : Int) (w : World) : (Instr.build 61 #[(0, .agg #[.pointer (some ⟨g, 0, none⟩), .int .i64 me])]).run Try.prog w = .ok (.agg (supC g me).toArray) w := by kernel_rfl
theorem fet_build (g : Nat) (me : Int) (w : World) : (Instr.build 77 #[(0, .agg #[.pointer (some ⟨g, 0, none⟩), .int .i64 me])]).run Try.prog w = .ok (.agg (fetC g me).toArray) w := by kernel_rfl
theorem rsup_build (g : Nat) (me : Int) (w : World) : (Instr.build 67 #[(0, .pointer (some ⟨g, 0, none⟩)), (1, .int .i64 me)]).run Try.prog w = .ok (.agg (rsupC g me).toArray) w := by kernel_rfl
theorem rfet_build (g : Nat) (me : Int) (w : World) : (Instr.build 79 #[(0, .pointer (some ⟨g, 0, none⟩)), (1, .int .i64 me)]).run Try.prog w = .ok (.agg (rfetC g me).toArray) w := by kernel_rfl
/-- It lies at that block. -/
def LiesAt (W : World) (p : Nat) (cs : List Value) (t : TypeId) : Prop := W.heap[p]? = some (.cells cs.toArray t (0, 0))
theorem LiesAt.kept {W W' : World} {p : Nat} {cs : List Value} {t : TypeId} (h : LiesAt W p cs t) (hb : Below W.heap.size W W') : LiesAt W' p cs t := (hb.block _ (block_lt h)).trans h
set_option maxRecDepth 10000 in
set_option maxHeartbeats 1600000 in
theorem nsup_no (c : Cf) (me : Int) (L : List Lk) (k : Int) (hL : 0 < L.length) (hL2 : L.length ≤ 11) (hk : k ≠ 0) (w : World)
    (hS : ∀ W, Calls Try.prog 14 #[.agg c.cells, .int .i64 me] W fun e w' => ∃ g, e = .returned (.tuple #[.agg #[.pointer none, .int .i64 0], .iface 91 (.pointer (some ⟨g, 0, none⟩))]) ∧ Hid (Chain w'.heap.size w' L (.iface 91 (.pointer (some ⟨g, 0, none⟩))) k ∧ Below W.heap.size W w')) :
    Calls Try.prog 4 #[.agg c.cells, .int .i64 me] w (PNewP w (.pointer none) L k) := by
  have HNS := hide hS
  have HLL := hide (And.intro hL (And.intro hL2 hk))
  unfold PNewP
  obtain ⟨W1, hW1⟩ : ∃ W1, w.alloc (.cells c.cells 24) = W1 := ⟨_, rfl⟩
  have B1 : Hid (Below w.heap.size w W1) := by rw [← hW1]; exact (Below.refl _ w).alloc (Nat.le_refl _) _
  have C1 : Hid (W1.heap[w.heap.size]? = some (.cells c.cells 24 (0, 0))) := by rw [← hW1]; exact alloc_atK _ _
  have HW1 := hide hW1
  obtain ⟨z0, z1, z2, z3, z4, z5, z6, z7, z8, z9⟩ := cfg_cells C1.out
  clear hS hW1 C1 hL hL2 hk
  unfold Cf.cells at *
  generalize c.f = f at *
  generalize c.mb = mb at *
  generalize (c.delay : Int) = d at *
  generalize (c.win : Int) = wn at *
  generalize (c.every : Int) = ev at *
  generalize (c.beat : Int) = bt at *
  generalize (c.ep : Int) = ep at *
  generalize (c.em : Int) = em at *
  generalize (c.mn : Int) = mn at *
  generalize (c.ms : Int) = ms at *
  go_enter Try.func4, Try.ntmps4
  go_upto_region 1 with fail
  rw [HW1.out]
  clear HW1
  go_wp2_with fail
  refine (HNS.out W1).mono ?_
  rintro e w2 ⟨g, rfl, G2⟩
  have hne := neq_err g
  have BA : Hid (∀ o, Below w2.heap.size w2 (w2.alloc o)) := fun o => (Below.refl _ _).alloc (Nat.le_refl _) o
  clear z0 z1 z2 z3 z4 z5 z6 z7 z8 z9 HNS
  go_wp2
  go_ret2
  exact ⟨_, rfl, .inr ⟨(Chain.below (BA.out _) G2.out.1).wide (BA.out _).size, HLL.out⟩, B1.out.trans ((G2.out.2.trans ((BA.out _).mono G2.out.2.size)).mono B1.out.size)⟩
set_option maxRecDepth 10000 in
set_option maxHeartbeats 1600000 in
theorem nsup_ok (c : Cf) (me : Int) (w : World)
    (hS : ∀ W, Calls Try.prog 14 #[.agg c.cells, .int .i64 me] W fun e w' => ∃ g, e = .returned (.tuple #[.agg #[.pointer (some ⟨g, 0, none⟩), .int .i64 me], .nilIface]) ∧ Hid (PG w' (some ⟨g, 0, none⟩) c ∧ Below W.heap.size W w')) :
    Calls Try.prog 4 #[.agg c.cells, .int .i64 me] w fun e w' => ∃ p, PNewP w (.pointer (some ⟨p, 0, none⟩)) [] 0 e w' ∧ Hid (∃ g, LiesAt w' p (supC g me) 61) := by
  have HNS := hide hS
  unfold PNewP
  obtain ⟨W1, hW1⟩ : ∃ W1, w.alloc (.cells c.cells 24) = W1 := ⟨_, rfl⟩
  have B1 : Hid (Below w.heap.size w W1) := by rw [← hW1]; exact (Below.refl _ w).alloc (Nat.le_refl _) _
  have C1 : Hid (W1.heap[w.heap.size]? = some (.cells c.cells 24 (0, 0))) := by rw [← hW1]; exact alloc_atK _ _
  have HW1 := hide hW1
  obtain ⟨z0, z1, z2, z3, z4, z5, z6, z7, z8, z9⟩ := cfg_cells C1.out
  clear hS hW1 C1
  unfold Cf.cells at *
  generalize c.f = f at *
  generalize c.mb = mb at *
  generalize (c.delay : Int) = d at *
  generalize (c.win : Int) = wn at *
  generalize (c.every : Int) = ev at *
  generalize (c.beat : Int) = bt at *
  generalize (c.ep : Int) = ep at *
  generalize (c.em : Int) = em at *
  generalize (c.mn : Int) = mn at *
  generalize (c.ms : Int) = ms at *
  go_enter Try.func4, Try.ntmps4
  go_upto_region 1 with fail
  rw [HW1.out]
  clear HW1
  go_wp2_with fail
  refine (HNS.out W1).mono ?_
  rintro e w2 ⟨g, rfl, G2⟩
  have BA : Hid (∀ (o : Obj) (cs : List Value), Below w2.heap.size w2 ((w2.alloc o).alloc (.cells cs.toArray 61)) ∧ LiesAt ((w2.alloc o).alloc (.cells cs.toArray 61)) (w2.heap.size + 1) cs 61) := fun o cs => ⟨((Below.refl _ _).alloc (Nat.le_refl _) o).alloc (by simp) _, by
    have h := alloc_atK (w2.alloc o) (.cells cs.toArray 61)
    rw [show (w2.alloc o).heap.size = w2.heap.size + 1 by simp] at h
    exact h⟩
  clear z0 z1 z2 z3 z4 z5 z6 z7 z8 z9 HNS
  go_wp2
  go_ret2
  exact ⟨_, ⟨_, rfl, .inl ⟨rfl, rfl, rfl⟩, B1.out.trans ((G2.out.2.trans ((BA.out _ (supC g me)).1.mono G2.out.2.size)).mono B1.out.size)⟩, g, (BA.out _ (supC g me)).2⟩
set_option maxRecDepth 10000 in
set_option maxHeartbeats 1600000 in
theorem nfet_no (c : Cf) (me : Int) (L : List Lk) (k : Int) (hL : 0 < L.length) (hL2 : L.length ≤ 11) (hk : k ≠ 0) (w : World)
    (hS : ∀ W, Calls Try.prog 14 #[.agg c.cells, .int .i64 me] W fun e w' => ∃ g, e = .returned (.tuple #[.agg #[.pointer none, .int .i64 0], .iface 91 (.pointer (some ⟨g, 0, none⟩))]) ∧ Hid (Chain w'.heap.size w' L (.iface 91 (.pointer (some ⟨g, 0, none⟩))) k ∧ Below W.heap.size W w')) :
    Calls Try.prog 9 #[.agg c.cells, .int .i64 me] w (PNewP w (.pointer none) L k) := by
  have HNS := hide hS
  have HLL := hide (And.intro hL (And.intro hL2 hk))
  unfold PNewP
  obtain ⟨W1, hW1⟩ : ∃ W1, w.alloc (.cells c.cells 24) = W1 := ⟨_, rfl⟩
  have B1 : Hid (Below w.heap.size w W1) := by rw [← hW1]; exact (Below.refl _ w).alloc (Nat.le_refl _) _
  have C1 : Hid (W1.heap[w.heap.size]? = some (.cells c.cells 24 (0, 0))) := by rw [← hW1]; exact alloc_atK _ _
  have HW1 := hide hW1
  obtain ⟨z0, z1, z2, z3, z4, z5, z6, z7, z8, z9⟩ := cfg_cells C1.out
  clear hS hW1 C1 hL hL2 hk
  unfold Cf.cells at *
  generalize c.f = f at *
  generalize c.mb = mb at *
  generalize (c.delay : Int) = d at *
  generalize (c.win : Int) = wn at *
  generalize (c.every : Int) = ev at *
  generalize (c.beat : Int) = bt at *
  generalize (c.ep : Int) = ep at *
  generalize (c.em : Int) = em at *
  generalize (c.mn : Int) = mn at *
  generalize (c.ms : Int) = ms at *
  go_enter Try.func9, Try.ntmps9
  go_upto_region 1 with fail
  rw [HW1.out]
  clear HW1
  go_wp2_with fail
  refine (HNS.out W1).mono ?_
  rintro e w2 ⟨g, rfl, G2⟩
  have hne := neq_err g
  have BA : Hid (∀ o, Below w2.heap.size w2 (w2.alloc o)) := fun o => (Below.refl _ _).alloc (Nat.le_refl _) o
  clear z0 z1 z2 z3 z4 z5 z6 z7 z8 z9 HNS
  go_wp2
  go_ret2
  exact ⟨_, rfl, .inr ⟨(Chain.below (BA.out _) G2.out.1).wide (BA.out _).size, HLL.out⟩, B1.out.trans ((G2.out.2.trans ((BA.out _).mono G2.out.2.size)).mono B1.out.size)⟩
set_option maxRecDepth 10000 in
set_option maxHeartbeats 1600000 in
theorem nfet_ok (c : Cf) (me : Int) (w : World)
    (hS : ∀ W, Calls Try.prog 14 #[.agg c.cells, .int .i64 me] W fun e w' => ∃ g, e = .returned (.tuple #[.agg #[.pointer (some ⟨g, 0, none⟩), .int .i64 me], .nilIface]) ∧ Hid (PG w' (some ⟨g, 0, none⟩) c ∧ Below W.heap.size W w')) :
    Calls Try.prog 9 #[.agg c.cells, .int .i64 me] w fun e w' => ∃ p, PNewP w (.pointer (some ⟨p, 0, none⟩)) [] 0 e w' ∧ Hid (∃ g, LiesAt w' p (fetC g me) 77) := by
  have HNS := hide hS
  unfold PNewP
  obtain ⟨W1, hW1⟩ : ∃ W1, w.alloc (.cells c.cells 24) = W1 := ⟨_, rfl⟩
  have B1 : Hid (Below w.heap.size w W1) := by rw [← hW1]; exact (Below.refl _ w).alloc (Nat.le_refl _) _
  have C1 : Hid (W1.heap[w.heap.size]? = some (.cells c.cells 24 (0, 0))) := by rw [← hW1]; exact alloc_atK _ _
  have HW1 := hide hW1
  obtain ⟨z0, z1, z2, z3, z4, z5, z6, z7, z8, z9⟩ := cfg_cells C1.out
  clear hS hW1 C1
  unfold Cf.cells at *
  generalize c.f = f at *
  generalize c.mb = mb at *
  generalize (c.delay : Int) = d at *
  generalize (c.win : Int) = wn at *
  generalize (c.every : Int) = ev at *
  generalize (c.beat : Int) = bt at *
  generalize (c.ep : Int) = ep at *
  generalize (c.em : Int) = em at *
  generalize (c.mn : Int) = mn at *
  generalize (c.ms : Int) = ms at *
  go_enter Try.func9, Try.ntmps9
  go_upto_region 1 with fail
  rw [HW1.out]
  clear HW1
  go_wp2_with fail
  refine (HNS.out W1).mono ?_
  rintro e w2 ⟨g, rfl, G2⟩
  have BA : Hid (∀ (o : Obj) (cs : List Value), Below w2.heap.size w2 ((w2.alloc o).alloc (.cells cs.toArray 77)) ∧ LiesAt ((w2.alloc o).alloc (.cells cs.toArray 77)) (w2.heap.size + 1) cs 77) := fun o cs => ⟨((Below.refl _ _).alloc (Nat.le_refl _) o).alloc (by simp) _, by
    have h := alloc_atK (w2.alloc o) (.cells cs.toArray 77)
    rw [show (w2.alloc o).heap.size = w2.heap.size + 1 by simp] at h
    exact h⟩
  clear z0 z1 z2 z3 z4 z5 z6 z7 z8 z9 HNS
  go_wp2
  go_ret2
  exact ⟨_, ⟨_, rfl, .inl ⟨rfl, rfl, rfl⟩, B1.out.trans ((G2.out.2.trans ((BA.out _ (fetC g me)).1.mono G2.out.2.size)).mono B1.out.size)⟩, g, (BA.out _ (fetC g me)).2⟩
end Go.Proofs.Ytdbolfnldbopoaa
