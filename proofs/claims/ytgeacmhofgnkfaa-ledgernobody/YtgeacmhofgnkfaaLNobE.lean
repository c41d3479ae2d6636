import Derived.Test.YtgeacmhofgnkfaaLNobD
namespace Go.Proofs.Ytgeacmhofgnkfaa
open Go.RowKit

/-- An element, whatever it is. -/
def anyR : Value → Option (DataW Nat × List MemPlace) := fun _ => some (.lit (.bool true), [])
theorem own_empty {W : World} {a : Nat} (h : W.heap[a]? = some (.map #[] 0)) : W.ownsMap Try.prog 24 anyR a 0 (.map []) :=
  ⟨#[], 0, h, ⟨by simp, MapKept.stamped_empty 0, by simp⟩, Nat.le_refl _, rfl⟩

theorem grownBy_trans3 (w : World) (o1 o2 o3 : Obj) : w.grownBy (((w.alloc o1).alloc o2).alloc o3) none :=
  have h1 := World.grownBy_alloc w o1 none
  have h2 := World.grownBy_alloc (w.alloc o1) o2 none
  have h3 := World.grownBy_alloc ((w.alloc o1).alloc o2) o3 none
  ⟨rfl, rfl, rfl, Nat.le_trans h1.size (Nat.le_trans h2.size h3.size), fun k hk hne => (h3.block k (Nat.lt_of_lt_of_le hk (Nat.le_trans h1.size h2.size)) hne).trans ((h2.block k (Nat.lt_of_lt_of_le hk h1.size) hne).trans (h1.block k hk hne))⟩

set_option maxRecDepth 10000 in
set_option maxHeartbeats 400000 in
theorem put_new {w : World} {a : Nat} (ha : w.heap[a]? = some (.map #[] 0)) :
    Calls Try.prog 40 #[.map (some a), .int .u64 1, .agg #[.int .u64 1, .int .u64 1, .int .u64 0, .int .u64 1]] w fun e w' => ∃ fn fi ca, e = .returned (.func fn fi ca) ∧ w.grownBy w' (some a) := by
  have hlt : a < w.heap.size := (Array.getElem?_eq_some_iff.1 ha).1
  have hne0 : ¬ w.heap.size = a := by omega
  have hne1 : ¬ w.heap.size + 1 = a := by omega
  have hne2 : ¬ w.heap.size + 1 + 1 = a := by omega
  have HK : Hid (∀ w1, w.grownBy w1 none → w1.heap[a]? = some (.map #[] 0)) := fun w1 hg => (hg.block a hlt (by simp)).trans ha
  have hl : ∀ o1 o2 o3, (Instr.lookup 25 (.map (some a)) (.int .u64 1) true).run Try.prog (((w.alloc o1).alloc o2).alloc o3) = .ok (.tuple #[.agg #[.int .u64 0, .int .u64 0, .int .u64 0, .int .u64 0], .bool false]) (((w.alloc o1).alloc o2).alloc o3) := by
    intro o1 o2 o3
    refine look_none (HK.out _ ?_) 1 (by decide)
    exact grownBy_trans3 w o1 o2 o3
  have HG4 : Hid (∀ o1 o2 o3 o4, w.grownBy ((((w.alloc o1).alloc o2).alloc o3).alloc o4) none) := fun o1 o2 o3 o4 => by
    have h1 := grownBy_trans3 w o1 o2 o3
    have h2 := World.grownBy_alloc (((w.alloc o1).alloc o2).alloc o3) o4 none
    exact ⟨rfl, rfl, rfl, Nat.le_trans h1.size h2.size, fun k hk hne => (h2.block k (Nat.lt_of_lt_of_le hk h1.size) hne).trans (h1.block k hk hne)⟩
  clear ha
  go_enter Try.func40, Try.ntmps40
  go_wp2_with (at_mapUpdate; refine wpList_mapUpdate_own _ rfl _ _ _ 25 rfl 24 51 (Maps.int_keyed Try.underlying24) Try.underlying25 anyR a 0 (.map []) rfl (own_empty (HK.out _ (HG4.out _ _ _ _))) (by unfold maxLen; omega) _ _ _ rfl rfl (Maps.keyOf_int_mk Try.underlying24 (show (Lit.int .u64 1).wf = true by decide)) _ [] rfl ?_; intro w1 hown1 hgrow1)
  go_ret
  have h4 := HG4.out
  exact ⟨_, _, _, rfl, ⟨hgrow1.os, hgrow1.tape, hgrow1.output, Nat.le_trans (h4 _ _ _ _).size hgrow1.size, fun k hk hne => (hgrow1.block k (Nat.lt_of_lt_of_le hk (h4 _ _ _ _).size) hne).trans ((h4 _ _ _ _).block k hk (by simp))⟩⟩
end Go.Proofs.Ytgeacmhofgnkfaa
