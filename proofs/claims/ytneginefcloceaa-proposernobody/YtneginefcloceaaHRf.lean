import Derived.Test.YtneginefcloceaaBPf
import Derived.Test.YtneginefcloceaaBPg
import Derived.Test.YtneginefcloceaaBPh
import Derived.Test.YtneginefcloceaaBVal
import Derived.Test.YtneginefcloceaaBAs
import Derived.Test.YtneginefcloceaaHWr
namespace Go.Proofs.Ytneginefcloceaa
open Go.RowKit

def proposerN : ByteArray := ⟨#[112, 114, 111, 112, 111, 115, 101, 114]⟩
set_option maxRecDepth 10000 in
set_option maxHeartbeats 800000 in
/-- refusal, whatever lies behind it. -/
theorem refusalP {w : World} (at_ : Int) {c : Int} {L : List Lk} {v : Value} (h : Chain w.heap.size w L v c) : Calls Try.prog 39 #[.int .i64 at_, v] w fun e w' => ∃ g, e = .returned (.iface 127 (.pointer (some ⟨g, 0, none⟩))) ∧ Hid (Chain w'.heap.size w' (⟨proposerN, at_⟩ :: L) (.iface 127 (.pointer (some ⟨g, 0, none⟩))) c ∧ Below w.heap.size w w') := by
  obtain ⟨t, x, rfl, hx⟩ : ∃ t x, v = .iface t x ∧ x.cells = #[x] := by
    cases L with
    | nil => exact ⟨_, _, h, rfl⟩
    | cons l r => obtain ⟨g, u, rfl, _⟩ := h; exact ⟨_, _, rfl, rfl⟩
  have HH := hide h
  have HB : Hid (∀ o, Below w.heap.size w (w.alloc o)) := fun o => (Below.refl _ _).alloc (Nat.le_refl _) _
  have HC : Hid (∀ t', (w.alloc (.cells #[.string proposerN, .int .i64 at_, .iface t x] t')).heap[w.heap.size]? = some (.cells #[.string proposerN, .int .i64 at_, .iface t x] t' (0, 0))) := fun t => alloc_atK _ _
  clear h
  go_enter Try.func39, Try.ntmps39
  go_wp2
  go_ret
  exact ⟨_, rfl, ⟨_, _, rfl, block_lt (HC.out _), block_cell (HC.out _) 0, block_cell (HC.out _) 1, block_cell (HC.out _) 2, (Chain.below (HB.out _) HH.out).wide (HB.out _).size⟩, HB.out _⟩
/-- An idle proposer's cells. -/
def pcells (g : Nat) (me : Int) (n : Nat) (m : Int) : Array Value := #[.pointer (some ⟨g, 0, none⟩), .int .i64 me, .int .u64 (n : Nat), .int .i64 m, .int .i64 0, .int .u64 0, .bool false, .int .u64 0, .slice none 0 0, .bool false, .int .u64 0, .slice none 0 0, .bool false, .int .u64 0, .slice none 0 0, .bool false, .int .u64 0, .slice none 0 0, .bool false, .int .u64 0, .slice none 0 0, .bool false, .int .u64 0, .slice none 0 0, .bool false, .int .u64 0, .slice none 0 0, .slice none 0 0, .slice none 0 0, .slice none 0 0, .bool false, .int .u64 0]
/-- An idle proposer. -/
structure PP (W : World) (p g : Nat) (c : Cf) (me : Int) (n : Nat) (m : Int) : Prop where
  blk : W.heap[p]? = some (.cells (pcells g me n m) 36 (0, 0))
  grp : PG W (some ⟨g, 0, none⟩) c
theorem PP.kept {W W' : World} {p g : Nat} {c : Cf} {me : Int} {n : Nat} {m : Int} (h : PP W p g c me n m) (hb : Below W.heap.size W W') : PP W' p g c me n m := ⟨(hb.block _ (block_lt h.blk)).trans h.blk, h.grp.kept hb⟩
theorem PP.cell {W : World} {p g : Nat} {c : Cf} {me : Int} {n : Nat} {m : Int} (h : PP W p g c me n m) (j : Nat) : W.cell? ⟨p, j, none⟩ = (pcells g me n m)[j]? := block_cell h.blk j
set_option maxRecDepth 10000 in
set_option maxHeartbeats 800000 in
theorem made_pp {W : World} {p g : Nat} {c : Cf} {me : Int} {n : Nat} {m : Int} (h : PP W p g c me n m) : Calls Try.prog 14 #[.pointer (some ⟨p, 0, none⟩)] W fun e w' => e = .returned (.bool true) ∧ w' = W := by
  have q0 : W.cell? ⟨p, 0, none⟩ = some (.pointer (some ⟨g, 0, none⟩)) := h.cell 0
  have q1 : p < W.heap.size := block_lt h.blk
  clear h
  go_enter Try.func14, Try.ntmps14
  go_wp2
  go_ret
  exact ⟨rfl, rfl⟩
/-- A ballot that somebody leads. -/
def Cf.led (c : Cf) (n : Nat) (m : Int) : Bool := decide (n ≠ 0) && c.valid n m
set_option maxRecDepth 100000 in
set_option maxHeartbeats 1600000 in
theorem led_pp {W : World} {p g : Nat} {c : Cf} {me : Int} {n0 : Nat} {m0 : Int} (n : Nat) (m : Int) (h : PP W p g c me n0 m0) (hk : c.Ok) : Calls Try.prog 15 #[.pointer (some ⟨p, 0, none⟩), .agg #[.int .u64 (n : Nat), .int .i64 m]] W fun e w' => e = .returned (.bool (c.led n m)) ∧ Below W.heap.size W w' := by
  obtain ⟨W1, hW1⟩ : ∃ W1, W.alloc (.cells #[.int .u64 (n : Nat), .int .i64 m] 27) = W1 := ⟨_, rfl⟩
  have B1 : Hid (Below W.heap.size W W1) := by rw [← hW1]; exact (Below.refl _ W).alloc (Nat.le_refl _) _
  have C1 : Hid (W1.heap[W.heap.size]? = some (.cells #[.int .u64 (n : Nat), .int .i64 m] 27 (0, 0))) := by rw [← hW1]; exact alloc_atK _ _
  have HP := hide (h.kept B1.out)
  have HW1 := hide hW1
  have KB0 : Hid (∀ V, Hid (Below W1.heap.size W1 V) → V.cell? ⟨W.heap.size, 0, none⟩ = some (.int .u64 (n : Nat))) := fun V hb => block_cell ((hb.out.block _ (block_lt C1.out)).trans C1.out) 0
  have KB1 : Hid (∀ V, Hid (Below W1.heap.size W1 V) → V.cell? ⟨W.heap.size, 1, none⟩ = some (.int .i64 m)) := fun V hb => block_cell ((hb.out.block _ (block_lt C1.out)).trans C1.out) 1
  have KP : Hid (∀ V, Hid (Below W1.heap.size W1 V) → V.cell? ⟨p, 0, none⟩ = some (.pointer (some ⟨g, 0, none⟩))) := fun V hb => (HP.out.kept hb.out).cell 0
  have KL : Hid (∀ V, Hid (Below W1.heap.size W1 V) → p < V.heap.size) := fun V hb => block_lt (HP.out.kept hb.out).blk
  have KV : Hid (∀ V, Hid (Below W1.heap.size W1 V) → Calls Try.prog 41 #[.pointer (some ⟨g, 0, none⟩), .agg #[.int .u64 (n : Nat), .int .i64 m]] V fun e V' => e = .returned (.bool (c.valid n m)) ∧ Below V.heap.size V V') := fun V hb => valid_live n m (HP.out.kept hb.out).grp hk
  have HD1 : Hid (Below W1.heap.size W1 W1) := Below.refl _ _
  have HD : Hid (∀ V, Hid (Below W1.heap.size W1 V) → Hid (Below W1.heap.size W1 V.drew)) := fun V h => h.out.drew
  have KB : Hid (∀ V V', Hid (Below W1.heap.size W1 V) → Below V.heap.size V V' → Hid (Below W1.heap.size W1 V')) := fun V V' h h' => h.out.trans (h'.mono h.out.size)
  unfold Cf.led
  clear h hk hW1 C1
  by_cases h0 : n = 0
  · have e0 : (decide (n ≠ 0) && c.valid n m) = false := by rw [decide_eq_false (by omega)]; rfl
    have d0 : decide ((n : Int) > 0) = false := decide_eq_false (by omega)
    rw [e0]
    clear e0 h0 KV
    generalize (n : Int) = n' at *
    go_enter Try.func15, Try.ntmps15
    go_upto_region 1 with fail
    rw [HW1.out]
    clear HW1
    refine region_assign (fun V => Hid (Below W1.heap.size W1 V)) [(5, .pointer (some ⟨W.heap.size, 0, none⟩)), (6, .int .u64 n'), (7, .bool false), (8, .bool false), (9, undef), (10, undef), (11, undef), (12, undef), (13, undef), (14, undef), (15, .bool false), (4, .bool false)] _ (by kernel_rfl) (by kernel_rfl) (by kernel_rfl) (by kernel_rfl) rfl (HD.out _ HD1) ?_ (fun V1 HV1 => ?_)
    · simp only [putAll, Act.put, List.setIfInBounds_toArray, List.set_cons_zero, List.set_cons_succ]
      repeat' (first | exact AllTo.nil | refine AllTo.cons ?_ ?_)
      all_goals first
        | exact stepTo_no (by rfl) rfl
        | (refine stepTo_yes (by rfl) (fun V hV K hK => ?_)
           have q0 := KB0.out V hV
           have q1 := KB1.out V hV
           have q2 := KP.out V hV
           have q3 := KL.out V hV
           go_simp
           first
             | exact hK.out _ hV)
    simp only [putAll, Act.put, List.setIfInBounds_toArray, List.set_cons_zero, List.set_cons_succ]
    go_wp2
    go_ret
    exact ⟨rfl, B1.out.trans (HV1.out.mono B1.out.size)⟩
  · have e0 : (decide (n ≠ 0) && c.valid n m) = c.valid n m := by rw [decide_eq_true (by omega)]; rfl
    have d0 : decide ((n : Int) > 0) = true := decide_eq_true (by omega)
    rw [e0]
    clear e0 h0
    generalize c.valid n m = z at *
    generalize (n : Int) = n' at *
    go_enter Try.func15, Try.ntmps15
    go_upto_region 1 with fail
    rw [HW1.out]
    clear HW1
    refine region_assign (fun V => Hid (Below W1.heap.size W1 V)) [(5, .pointer (some ⟨W.heap.size, 0, none⟩)), (6, .int .u64 n'), (7, .bool true), (8, .bool true), (9, .pointer (some ⟨p, 0, none⟩)), (10, .pointer (some ⟨p, 0, none⟩)), (11, .pointer (some ⟨p, 0, none⟩)), (12, .pointer (some ⟨g, 0, none⟩)), (13, .agg #[.int .u64 n', .int .i64 m]), (14, .bool z), (15, .bool z), (4, .bool z)] _ (by kernel_rfl) (by kernel_rfl) (by kernel_rfl) (by kernel_rfl) rfl (HD.out _ HD1) ?_ (fun V1 HV1 => ?_)
    · simp only [putAll, Act.put, List.setIfInBounds_toArray, List.set_cons_zero, List.set_cons_succ]
      repeat' (first | exact AllTo.nil | refine AllTo.cons ?_ ?_)
      all_goals first
        | exact stepTo_no (by rfl) rfl
        | (refine stepTo_yes (by rfl) (fun V hV K hK => ?_)
           have q0 := KB0.out V hV
           have q1 := KB1.out V hV
           have q2 := KP.out V hV
           have q3 := KL.out V hV
           go_simp
           first
             | exact hK.out _ hV
             | (go_at_call 41; refine (KV.out V hV).mono ?_; rintro e V' ⟨rfl, hV'⟩; exact hK.out _ (KB.out _ _ hV hV')))
    simp only [putAll, Act.put, List.setIfInBounds_toArray, List.set_cons_zero, List.set_cons_succ]
    go_wp2
    go_ret
    exact ⟨rfl, B1.out.trans (HV1.out.mono B1.out.size)⟩
end Go.Proofs.Ytneginefcloceaa
