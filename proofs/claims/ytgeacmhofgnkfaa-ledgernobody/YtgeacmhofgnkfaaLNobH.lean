import Derived.Test.YtgeacmhofgnkfaaLNobE
namespace Go.Proofs.Ytgeacmhofgnkfaa
open Go.RowKit

theorem boxes3 (w : World) (v0 v1 v2 : Value) (t0 t1 t2 : TypeId) : ∃ W, (((w.alloc (.cells #[v0] t0)).alloc (.cells #[v1] t1)).alloc (.cells #[v2] t2)).drew = W ∧ W.cell? ⟨w.heap.size, 0, none⟩ = some v0 ∧ W.cell? ⟨w.heap.size + 1, 0, none⟩ = some v1 ∧ W.cell? ⟨w.heap.size + 1 + 1, 0, none⟩ = some v2 ∧ (∀ a u, w.cell? a = some u → W.cell? a = some u) ∧ (∀ a u, w.cell? a = some u → W.frozen? a = w.frozen? a) ∧ w.heap.size + 1 + 1 < W.heap.size ∧ w.grownBy W none := by
  have hg := grownBy_trans3 w (.cells #[v0] t0) (.cells #[v1] t1) (.cells #[v2] t2)
  have e1 : (w.alloc (.cells #[v0] t0)).heap.size = w.heap.size + 1 := by simp
  have e2 : ((w.alloc (.cells #[v0] t0)).alloc (.cells #[v1] t1)).heap.size = w.heap.size + 1 + 1 := by simp
  have c0 : (w.alloc (.cells #[v0] t0)).cell? ⟨w.heap.size, 0, none⟩ = some v0 := World.cell?_alloc_new w _ _ _
  have c1 : ((w.alloc (.cells #[v0] t0)).alloc (.cells #[v1] t1)).cell? ⟨w.heap.size + 1, 0, none⟩ = some v1 := by rw [← e1]; exact World.cell?_alloc_new _ _ _ _
  have c2 : (((w.alloc (.cells #[v0] t0)).alloc (.cells #[v1] t1)).alloc (.cells #[v2] t2)).cell? ⟨w.heap.size + 1 + 1, 0, none⟩ = some v2 := by rw [← e2]; exact World.cell?_alloc_new _ _ _ _
  refine ⟨_, rfl, ?_, ?_, c2, ?_, ?_, ?_, ?_⟩
  · exact ((World.cell?_alloc_lt _ _ _ (by rw [e2]; simp; omega)).trans (World.cell?_alloc_lt _ _ _ (by rw [e1]; simp))).trans c0
  · exact (World.cell?_alloc_lt _ _ _ (by rw [e2]; simp)).trans c1
  · intro a u h
    have hb := World.block_lt_of_cell? w a h
    exact ((World.cell?_alloc_lt _ _ _ (by rw [e2]; omega)).trans ((World.cell?_alloc_lt _ _ _ (by rw [e1]; omega)).trans (World.cell?_alloc_lt _ _ _ hb))).trans h
  · intro a u h
    have hb := World.block_lt_of_cell? w a h
    exact (World.frozen?_alloc_old _ _ _ (by rw [e2]; omega)).trans ((World.frozen?_alloc_old _ _ _ (by rw [e1]; omega)).trans (World.frozen?_alloc_old _ _ _ (by omega)))
  · show w.heap.size + 1 + 1 < (((w.alloc (.cells #[v0] t0)).alloc (.cells #[v1] t1)).alloc (.cells #[v2] t2)).heap.size
    simp
  · exact ⟨hg.os, hg.tape, hg.output, hg.size, hg.block⟩

theorem grown_some {w W : World} {p : Nat} (h : w.grownBy W none) : w.grownBy W (some p) := ⟨h.os, h.tape, h.output, h.size, fun k hk _ => h.block k hk (by simp)⟩
theorem grown_trans {w W V : World} {r : Option Nat} (h : w.grownBy W r) (h' : W.grownBy V r) : w.grownBy V r := ⟨h'.os.trans h.os, h'.tape.trans h.tape, h'.output.trans h.output, Nat.le_trans h.size h'.size, fun k hk hne => (h'.block k (Nat.lt_of_lt_of_le hk h.size) hne).trans (h.block k hk hne)⟩
theorem grown_alloc {w W : World} {r : Option Nat} (h : w.grownBy W r) (o : Obj) : w.grownBy (W.alloc o) r := grown_trans h (World.grownBy_alloc W o r)
theorem grown_set {w W : World} {p : Nat} (h : w.grownBy W (some p)) (o : Nat) (v : Value) : w.grownBy (W.setCell ⟨p, o, none⟩ v) (some p) :=
  ⟨h.os, h.tape, h.output, by simpa using h.size, fun k hk hne => (by simp only [World.setCell, Array.getElem?_modify]; rw [if_neg (fun e => hne (by rw [← e]))]; exact h.block k hk hne)⟩

set_option maxRecDepth 10000 in
set_option maxHeartbeats 1600000 in
theorem jwrite_one {w : World} {p : Nat} (kind from_ to_ amount : Int) (c3 : w.cell? ⟨p, 3, none⟩ = some (.int .u64 1))
    (c9 : w.cell? ⟨p, 9, none⟩ = some (.int .u64 0)) (c10 : w.cell? ⟨p, 10, none⟩ = some (.int .i64 0)) (c11 : w.cell? ⟨p, 11, none⟩ = some (.int .u64 0)) (c12 : w.cell? ⟨p, 12, none⟩ = some (.int .u64 0)) (c13 : w.cell? ⟨p, 13, none⟩ = some (.int .u64 0))
    (c324 : w.cell? ⟨p, 324, none⟩ = some (.slice none 0 0)) (hf : ∀ k, w.frozen? ⟨p, k, none⟩ = false) :
    Calls Try.prog 41 #[.pointer (some ⟨p, 3, none⟩), .int .i64 kind, .int .u64 from_, .int .u64 to_, .int .u64 amount] w fun e w' => ∃ fn fi ca, e = .returned (.func fn fi ca) ∧ w'.cell? ⟨p, 324, none⟩ = some (.slice none 0 0) ∧ w.grownBy w' (some p) := by
  have hlt : p < w.heap.size := World.block_lt_of_cell? w ⟨p, 3, none⟩ c3
  have hlt1 : p < w.heap.size + 1 := by omega
  have hne0 : ¬ w.heap.size = p := by omega
  have hne1 : ¬ w.heap.size + 1 = p := by omega
  have hne2 : ¬ w.heap.size + 1 + 1 = p := by omega
  have hne0' : ¬ p = w.heap.size := by omega
  have hne1' : ¬ p = w.heap.size + 1 := by omega
  have hne2' : ¬ p = w.heap.size + 1 + 1 := by omega
  go_enter Try.func41, Try.ntmps41
  go_wp2_with fail
  go_region_held (fun w' => w'.cell? ⟨w.heap.size, 0, none⟩ = some (.pointer (some ⟨p, 3, none⟩)) ∧ w'.cell? ⟨w.heap.size + 1, 0, none⟩ = some (.int .u64 1)) (go_keep) (fail)
  obtain ⟨W, hW, d0, d1, d2, hc, hfz, hsz, HG⟩ := boxes3 w (.pointer (some ⟨p, 3, none⟩)) (.int .u64 1) (.pointer (some ⟨p, 9, none⟩)) 96 24 119
  rw [hW]
  have HG := hide HG
  have e3 := hc _ _ c3
  have e9 := hc _ _ c9
  have e10 := hc _ _ c10
  have e11 := hc _ _ c11
  have e12 := hc _ _ c12
  have e13 := hc _ _ c13
  have e324 := hc _ _ c324
  have f3 := (hfz _ _ c3).trans (hf 3)
  have f9 := (hfz _ _ c9).trans (hf 9)
  have f10 := (hfz _ _ c10).trans (hf 10)
  have f11 := (hfz _ _ c11).trans (hf 11)
  have f12 := (hfz _ _ c12).trans (hf 12)
  have f13 := (hfz _ _ c13).trans (hf 13)
  clear hW hc hfz c3 c9 c10 c11 c12 c13 c324 hf
  have hltW : p < W.heap.size := by omega
  have hlt0 : w.heap.size < W.heap.size := by omega
  have hlt1 : w.heap.size + 1 < W.heap.size := by omega
  go_wp2_with fail
  go_ret
  refine ⟨_, _, _, rfl, ?_, ?_⟩
  · rw [World.cell?_alloc_lt _ _ _ (by simpa using hltW)]
    simpa [World.cell?_setCell_other] using e324
  · have h0 : w.grownBy W (some p) := grown_some HG.out
    exact grown_alloc (grown_set (grown_set (grown_set (grown_set (grown_set (grown_set h0 _ _) _ _) _ _) _ _) _ _) _ _) _
end Go.Proofs.Ytgeacmhofgnkfaa
