import Derived.RangeFuncNested
import Derived.RangeFuncBound
import Derived.RangeFuncCalls
import Derived.RangeFuncLeaves
import Derived.Shelf.Abstract
import Derived.Shelf.RegionOpen
import Derived.WalkKit
import Derived.OwnWalkIn
import Derived.TacticsInMore
import Derived.LoopNIn
import Derived.LoopIn
import Derived.Test.YthfbimbadkmhhaaMGA
import Derived.Deep.RegionHeld
namespace Go.Proofs.Ythfbimbadkmhhaa
open Go.RowKit Go.Shelf
attribute [local go_sem] Oper.semAt_some

/-- The members below k. -/
def memU (s k : Nat) : List Int := ((List.range k).filter (fun i => s.testBit i)).map (fun (i : Nat) => (i : Int))
theorem memU_succ (s k : Nat) : memU s (k + 1) = memU s k ++ (if s.testBit k = true then [(k : Int)] else []) := by
  unfold memU
  rw [List.range_succ, List.filter_append, List.map_append]
  cases h : s.testBit k <;> simp [h]
theorem memU_pre (s : Nat) {k : Nat} : ∀ {n : Nat}, k ≤ n → memU s k <+: memU s n
  | 0, h => by rw [show k = 0 by omega]; exact List.prefix_refl _
  | n + 1, h => by
    by_cases e : k = n + 1
    · rw [e]; exact List.prefix_refl _
    · rw [memU_succ]; exact (memU_pre s (n := n) (by omega)).trans (List.prefix_append _ _)
theorem memU_lt (s : Nat) {k : Nat} (hk : k < 32) (ht : s.testBit k = true) : (memU s k).length < (memU s 32).length := by
  have h1 := (memU_pre s (k := k + 1) (n := 32) (by omega)).length_le
  rw [memU_succ, if_pos ht, List.length_append, List.length_singleton] at h1
  omega
theorem fn_nil (l : Nat) (w : World) : (binOp BinOp.eql 81 (.func (.yield l) #[] #[]) .nilFunc).run Try.prog w = .ok (.bool false) w := by kernel_rfl
/-- What a round keeps: the captured set. -/
def KpB (Bn : Nat) (W W' : World) : Prop := ∀ v, W.cell? ⟨Bn, 0, none⟩ = some v → W'.cell? ⟨Bn, 0, none⟩ = some v
set_option maxRecDepth 100000 in
set_option maxHeartbeats 2000000 in
theorem members1_in (n : Nat) (hn : 1 ≤ n) (l Bn s : Nat) (hs : s < 4294967296) (J Jx : List Int → World → Prop)
    (hY : ∀ pre x W, J pre W → pre.length < (memU s 32).length → YieldAt Fence.wide (n - 1) Try.prog l #[.int .i64 x] W fun e W' =>
      (e = .returned (.bool true) ∧ J (pre ++ [x]) W' ∧ KpB Bn W W') ∨ (e = .returned (.bool false) ∧ Jx (pre ++ [x]) W'))
    (W : World) (hBn : W.cell? ⟨Bn, 0, none⟩ = some (.int .u32 (s : Nat))) (h0 : J [] W) :
    CallsIn Fence.wide n Try.prog 57 #[.func (.yield l) #[] #[], .pointer (some ⟨Bn, 0, none⟩)] W fun e W' => (∃ v, e = .returned v) ∧
      ((∃ ys, ys = memU s 32 ∧ J ys W') ∨ (∃ pre, pre <+: memU s 32 ∧ Jx pre W')) := by
  have hfn := fn_nil l
  have HH := hide (fun k W => has_any s hs k W)
  have HM := hide (memU_succ s)
  have HP := hide (fun k h => memU_pre s (k := k) (n := 32) h)
  have HL := hide (fun k h ht => memU_lt s (k := k) h ht)
  have HB : Hid (∀ k : Nat, k < 32 → hasB s (k : Int) = s.testBit k) := fun k hk => by unfold hasB; rw [decide_eq_true (by omega), Bool.true_and, Int.toNat_natCast]
  refine callsIn_of_wp Try.func57 rfl trivial ?_ rfl
  simp only [Try.ntmps57, List.size_toArray, List.length_cons, List.length_nil, Nat.reduceAdd, Nat.reduceSub, Array.replicate_succ, Array.replicate_zero, List.push_toArray, List.append_toArray, List.nil_append, List.cons_append]
  gi_wp2
  gi_loopw [6] (fun p wr => ∃ k : Nat, k ≤ 32 ∧ p = .int .i64 (k : Nat) ∧ wr.cell? ⟨Bn, 0, none⟩ = some (.int .u32 (s : Nat)) ∧ J (memU s k) wr) (fun p _ => 32 - (intOf p).toNat)
  case atStart => exact ⟨0, by omega, rfl, hBn, h0⟩
  case round =>
    obtain ⟨k, hk, rfl, hc, hJs⟩ := hrel
    by_cases hlt : k < 32
    · have HK := hide (HH.out (k : Int))
      have hbk := HB.out k hlt
      have HMk := hide (HM.out k)
      cases ht : s.testBit k with
      | false =>
        rw [hbk, ht] at HK
        rw [ht] at HMk
        clear hbk ht
        gi_wp2_with (refine ⟨trivial, ?_⟩; gi_at_call 58; refine (callsIn_wide.2 (HK.out _)).mono ?_; rintro e w' ⟨rfl, rfl⟩)
        refine ⟨fun _ h => (by cases h), ?_⟩
        gi_wp2
        go_roundw
        case rel => exact ⟨k + 1, by omega, by go_num, hc, by rw [HMk.out, if_neg (by simp), List.append_nil]; exact hJs⟩
        case measure => simp [intOf]; omega
      | true =>
        obtain ⟨fn, tmps, assign, body, hy, hR⟩ := hY (memU s k) (k : Int) wr hJs (HL.out k hlt ht)
        rw [hbk, ht] at HK
        rw [ht, if_pos rfl] at HMk
        clear hbk ht
        gi_wp2_with (refine ⟨trivial, ?_⟩; gi_at_call 58; refine (callsIn_wide.2 (HK.out _)).mono ?_; rintro e w' ⟨rfl, rfl⟩)
        refine hR.mono ?_
        rintro e W3 (⟨rfl, hJ3, hk3⟩ | ⟨rfl, hJx3⟩)
        · have hc3 := hk3 _ hc
          gi_wp2
          go_roundw
          case rel => exact ⟨k + 1, by omega, by go_num, hc3, by rw [HMk.out]; exact hJ3⟩
          case measure => simp [intOf]; omega
        · gi_wp2
          refine bodyPost_ret (results_none rfl _ _ _) rfl ?_
          exact ⟨⟨_, rfl⟩, .inr ⟨memU s k ++ [(k : Int)], by rw [← HMk.out]; exact HP.out (k + 1) (by omega), hJx3⟩⟩
    · have hk32 : k = 32 := by omega
      subst hk32
      gi_wp2
      go_end0
      exact ⟨⟨_, rfl⟩, .inl ⟨_, rfl, hJs⟩⟩
set_option maxRecDepth 10000 in
theorem members_any (s : Int) (w : World) :
    Calls Try.prog 53 #[.int .u32 s] w fun e w' => e = .returned (.func (.func 57) #[] #[.pointer (some ⟨w.heap.size, 0, none⟩)]) ∧ w' = w.alloc (.cells #[.int .u32 s] 53) := by
  go_enter Try.func53, Try.ntmps53
  go_wp2
  go_ret
  exact ⟨rfl, rfl⟩
theorem members_stops (n : Nat) (hn : 1 ≤ n) (Bn s : Nat) (hs : s < 4294967296) (w : World) (hBn : Bn < w.heap.size) (hc : w.cell? ⟨Bn, 0, none⟩ = some (.int .u32 (s : Nat))) :
    SeqStopsK Fence.wide n Try.prog 57 #[.pointer (some ⟨Bn, 0, none⟩)] (fun x : Int => #[Value.int .i64 x]) (KpB Bn) (fun ys => ys = memU s 32) (fun pre => pre <+: memU s 32) (memU s 32).length w := fun l J Jx W hW _ _ hY h0 =>
  members1_in n hn l Bn s hs J Jx hY W ((hW.cell (p := ⟨Bn, 0, none⟩) hBn).trans hc) h0
theorem kpB_t {Bn : Nat} {A B C : World} (h : KpB Bn A B) (k : KpB Bn B C) : KpB Bn A C := fun v hv => k v (h v hv)
theorem kpB_b {Bn : Nat} {w : World} (W : World) (l : Nat) (o o' : Obj) (_ : w.heap.size ≤ l) (h : W.heap[l]? = some o) (hc : o.isCells = false) (_ : o.isWalk = false) : KpB Bn W (W.putObj l o') := fun _ hv =>
  cell_kept hv (grownBy_putObj' W l o') (fun r e => by cases e; exact ⟨o, h, hc⟩)
theorem cell_alloc_l' {W : World} {a : Addr} {v : Value} (o : Obj) (h : W.cell? a = some v) : (W.alloc o).cell? a = some v := by
  rw [World.cell?_alloc_some _ _ _ (by rw [h]; rfl)]; exact h
theorem frozen_alloc_l' {W : World} {a : Addr} {v : Value} {b : Bool} (o : Obj) (h : W.cell? a = some v) (hf : W.frozen? a = b) : (W.alloc o).frozen? a = b :=
  (World.frozen?_of_block (Below.heap_alloc W o a.block (World.block_lt_of_cell? W a h))).trans hf
/-- How many are in the set. -/
def countB (s : Nat) : Nat := (memU s 32).length
theorem box_cell {W : World} {B : Nat} {v : Value} {t : TypeId} (h : W.heap[B]? = some (.cells #[v] t (0, 0))) : W.cell? ⟨B, 0, none⟩ = some v ∧ W.frozen? ⟨B, 0, none⟩ = false := by
  constructor <;> simp [World.cell?, World.frozen?, h]
theorem box_new (W : World) (v : Value) (t : TypeId) : (W.alloc (.cells #[v] t)).cell? ⟨W.heap.size, 0, none⟩ = some v ∧ (W.alloc (.cells #[v] t)).frozen? ⟨W.heap.size, 0, none⟩ = false :=
  box_cell (World.alloc_heap_new W _)
theorem memU_len (s k : Nat) : (memU s k).length ≤ k := by
  unfold memU
  rw [List.length_map]
  exact Nat.le_trans (List.length_filter_le _ _) (by simp)
/-- The least that is in both, or -1. -/
def crossB (s : Nat) : Int := match memU s 32 with
  | [] => -1
  | x :: _ => x
end Go.Proofs.Ythfbimbadkmhhaa
