import Derived.Test.YtoejdocnpcbpiaaGA
import Derived.Test.YtoejdocnpcbpiaaBAs
namespace Go.Proofs.Ytoejdocnpcbpiaa
open Go.RowKit Go.Shelf
attribute [local go_sem] Oper.semAt_some

theorem infoU64 : (Try.prog.info? 23).map (fun i => (i.zero, i.size, i.bytes)) = some (some (.int .u64 0), 1, 8) := by kernel_rfl
/-- A row of cells abides what turns no cells. -/
theorem ownsRow_abides {base size k : Nat} {e : TypeId} {W W' : World} {v : Value} {xs : List Value} {row : Option Nat} (h : W.ownsRow base e size v k xs) (hg : W.grownBy W' row) (hr : ∀ r, row = some r → ∃ o : Obj, W.heap[r]? = some o ∧ o.isCells = false) : W'.ownsRow base e size v k xs := by
  refine h.kept hg ?_
  cases hv : v.ownBlock with
  | none => exact .inl rfl
  | some g =>
    refine .inr (fun e => ?_)
    obtain ⟨o, h1, h2⟩ := hr g e.symm
    rcases h.2 with ⟨rfl, _⟩ | ⟨g', cap, cur, rfl, _, hb, _⟩
    · cases hv
    · cases hv
      rw [hb] at h1
      cases h1
      cases h2
/-- While AppendSeq goes: the box, and what has come so far. -/
structure AQ (w : World) (Bs : Nat) (pre : List Nat) (W : World) : Prop where
  bx : ∃ v, W.heap[Bs]? = some (.cells #[v] 22 (0, 0)) ∧ W.ownsRow w.heap.size 23 1 v pre.length (pre.map encU)
  bel : Below w.heap.size w W
theorem AQ.grown {w : World} {Bs : Nat} {pre : List Nat} {W W' : World} {row : Option Nat} (h : AQ w Bs pre W) (hg : W.grownBy W' row) (hr : ∀ r, row = some r → w.heap.size + 1 ≤ r ∧ ∃ o : Obj, W.heap[r]? = some o ∧ o.isCells = false) : AQ w Bs pre W' := by
  obtain ⟨v, h1, h2⟩ := h.bx
  refine ⟨⟨v, (hg.block _ (block_lt h1) (fun e => ?_)).trans h1, ownsRow_abides h2 hg (fun r e => (hr r e).2)⟩, h.bel.grown hg h.bel.size (fun k e => Nat.le_trans (Nat.le_succ _) (hr k e).1)⟩
  obtain ⟨o, h3, h4⟩ := (hr Bs e.symm).2
  rw [h1] at h3
  cases h3
  cases h4
theorem row_box {base k : Nat} {w : World} {v : Value} {xs : List Value} {j : Nat} {X : Array Value} (h : w.ownsRow base 23 1 v k xs) (hX : w.heap[j]? = some (.cells X 22 (0, 0))) : v.ownBlock ≠ some j := fun e => by
  rcases h.2 with ⟨rfl, _⟩ | ⟨g', cap, cur, rfl, _, hb, _⟩
  · cases e
  · cases e
    rw [hb] at hX
    cases hX
set_option maxRecDepth 100000 in
set_option maxHeartbeats 4000000 in
theorem appendSeq_any (Bn : Nat) (ao : Option Addr) (cap b off : Nat) (xs : List Nat) (hxl : xs.length ≤ 1000000) (w : World) (hBn : Bn < w.heap.size) (hc : w.cell? ⟨Bn, 0, none⟩ = some (.slice ao xs.length cap)) (had : 0 < xs.length → ao = some ⟨b, off, none⟩) (hbw : 0 < xs.length → b < w.heap.size) (hU : Us w b off xs) :
    Calls Try.prog 20 #[.slice none 0 0, .func (.func 19) #[] #[.pointer (some ⟨Bn, 0, none⟩)]] w fun e w' => ∃ v, e = .returned v ∧ Hid (w'.ownsRow w.heap.size 23 1 v xs.length (xs.map encU) ∧ Below w.heap.size w w') := by
  obtain ⟨i0, hi0, hz0, hz1, hz2⟩ := info_parts infoU64
  refine (callsIn_wide (n := 3)).1 ?_
  refine callsIn_of_wp_marks Try.func20 rfl trivial ?_ rfl
  simp only [Try.ntmps20, List.size_toArray, List.length_cons, List.length_nil, Nat.reduceAdd, Nat.reduceSub, Array.replicate_succ, Array.replicate_zero, List.push_toArray, List.append_toArray, List.nil_append, List.cons_append]
  obtain ⟨W1, hW1⟩ : ∃ W1, w.alloc (.cells #[.slice none 0 0] 22) = W1 := ⟨_, rfl⟩
  have b1 : Below w.heap.size w W1 := by rw [← hW1]; exact (Below.refl _ w).alloc (Nat.le_refl _) _
  have C1 : W1.heap[w.heap.size]? = some (.cells #[.slice none 0 0] 22 (0, 0)) := by rw [← hW1]; exact alloc_atK _ _
  have s1 : W1.heap.size = w.heap.size + 1 := by rw [← hW1]; simp
  have hs := values_stops (3 - 1) (by omega) Bn w.heap.size ao cap b off xs (by omega) W1 (by omega) ((b1.cell (p := ⟨Bn, 0, none⟩) hBn).trans hc) had (fun h => by have := hbw h; omega) hbw (fun i x hi => (b1.cell (p := ⟨b, off + i, none⟩) (hbw (by have := (List.getElem?_eq_some_iff.1 hi).1; omega))).trans (hU i x hi))
  have A0 : AQ w w.heap.size [] W1 := ⟨⟨_, C1, ⟨rfl, .inl ⟨rfl, rfl⟩⟩⟩, b1⟩
  have HW1 := hide hW1
  clear hW1
  gi_wp2
  rw [HW1.out]
  refine wpIn_rangeFunc_ownF rfl (by omega) (gf := 19) (lb := #[.pointer (some ⟨Bn, 0, none⟩)]) rfl trivial (enters_of Try.func19 (by kernel_rfl) rfl)
    hs kpU_t kpU_b (Below.refl _ _) (fun _ => rfl) (AQ w w.heap.size) (fun _ _ _ => False) (fun pre A B row h hg hr => h.grown hg (fun r e => ⟨by have := (hr r e).1; omega, (hr r e).2⟩)) (fun _ _ _ _ _ h _ _ => h) A0
    (fun x => { tmps := #[.slice none 0 0, .func (.func 19) #[] #[.pointer (some ⟨Bn, 0, none⟩)], .pointer (some ⟨w.heap.size, 0, none⟩), undef, .slice none 0 0, .int .u64 (x : Int), .func (.func 19) #[] #[.pointer (some ⟨Bn, 0, none⟩)], .int .u64 (x : Int), undef, undef, undef, undef, undef], defers := [] }) ?assign ?body ?done ?stop
  case assign =>
    intro l x W K hK
    gi_wp2
    exact hK
  case body =>
    intro l pre x W hI hpl
    obtain ⟨v, hv, hrow⟩ := hI.bx
    have x0 := block_cell hv 0
    simp at x0
    have hplx : pre.length < 1000000 := by omega
    have HOW : Hid (∀ o, (W.alloc o).ownsRow w.heap.size 23 1 v pre.length (pre.map encU)) := fun o => row_quietT hrow (World.grownBy_alloc _ _ none)
    have HBW : Hid (w.heap.size ≤ W.heap.size) := hI.bel.size
    have HNX : Hid (∀ (g' cap' : Nat) (w2 : World) (o : Obj), w2.ownsRow w.heap.size 23 1 (.slice (some ⟨g', 0, none⟩) (pre.length + 1) cap') (pre.length + 1) (pre.map encU ++ [.int .u64 (x : Int)]) → (W.alloc o).grownBy w2 v.ownBlock →
        w2.cell? ⟨w.heap.size, 0, none⟩ = some v ∧ w2.frozen? ⟨w.heap.size, 0, none⟩ = false ∧ w.heap.size < w2.heap.size ∧ Hid (KeepsOthers W (w2.setCell ⟨w.heap.size, 0, none⟩ (.slice (some ⟨g', 0, none⟩) (pre.length + 1) cap')) ∧ KpU w.heap.size W (w2.setCell ⟨w.heap.size, 0, none⟩ (.slice (some ⟨g', 0, none⟩) (pre.length + 1) cap')) ∧ AQ w w.heap.size (pre ++ [x]) (w2.setCell ⟨w.heap.size, 0, none⟩ (.slice (some ⟨g', 0, none⟩) (pre.length + 1) cap')))) := fun g' cap' w2 o ho hg => by
      have ga := World.grownBy_alloc W o none
      have row1 := row_quietT hrow ga
      have v1 := (ga.block _ (block_lt hv) (by simp)).trans hv
      have v2 := (hg.block _ (block_lt v1) (fun e => row_box row1 v1 e.symm)).trans v1
      have bel1 := hI.bel.grown ga hI.bel.size (fun k e => by cases e)
      have bel2 := bel1.grown hg bel1.size (fun k e => (row1.lt k e).1)
      have k1 : KeepsOthers W w2 := (KeepsOthers.alloc W o).trans (KeepsOthers.of_grownBy hg (fun j ob e hj => by
        rcases row1.2 with ⟨rfl, _⟩ | ⟨g1, c1, cur, rfl, _, hb1, _⟩
        · cases e
        · cases e
          rw [hb1] at hj
          cases hj
          rfl))
      have hsz : (pre ++ [x]).length = pre.length + 1 := by simp
      have hmp : (pre ++ [x]).map encU = pre.map encU ++ [.int .u64 (x : Int)] := by simp [encU]
      refine ⟨block_cell v2 0, block_free v2 0, block_lt v2, k1.trans (KeepsOthers.setCell _ _ _), fun b o' u hb hu => ?_, ⟨⟨_, heap_setCell_same w2 w.heap.size 0 _ _ _ v2, ?_⟩, bel2.setCell (p := ⟨w.heap.size, 0, none⟩) (Nat.le_refl _) _⟩⟩
      · have hb' : b < W.heap.size := by
          rcases Nat.lt_or_ge b W.heap.size with h | h
          · exact h
          · simp [World.cell?, Array.getElem?_eq_none h] at hu
        have e1 : w2.heap[b]? = W.heap[b]? := (hg.block _ (by simp; omega) (fun e => by have := (row1.lt b e.symm).1; omega)).trans (ga.block _ hb' (by simp))
        have e2 : (w2.setCell ⟨w.heap.size, 0, none⟩ (.slice (some ⟨g', 0, none⟩) (pre.length + 1) cap')).heap[b]? = w2.heap[b]? := (grown_set w2 w.heap.size 0 _).block _ (by rcases Nat.lt_or_ge b w2.heap.size with h | h; exact h; have := k1.size; omega) (fun e => by have := Option.some.inj e; omega)
        rw [← hu]
        simp [World.cell?, e2, e1]
      · rw [hsz, hmp]
        exact ho.kept (grown_set w2 w.heap.size 0 _) (.inr (row_box ho v2))
    clear hI hv hrow hc had hbw hU hs A0 C1 b1
    gi_wp2_with (gi_at_builtin; refine wpListIn_append_own _ rfl _ _ 22 rfl w.heap.size 23 i0 (.int .u64 0) 1 8 Try.underlying22 hi0 hz0 hz1 hz2 rfl (by decide) v pre.length (pre.map encU) rfl (HOW.out _) ⟨W.heap.size, 0, none⟩ 1 1 [.int .u64 (x : Int)] rfl rfl (cells_newK _ _ _) (by simp [Value.oneCell']) (by unfold maxLen; omega) (by omega) (by have := HBW.out; simp; omega) ?_; intro v' w2 ho hg _; obtain ⟨g', cap', rfl⟩ := ownsRow_succ ho; obtain ⟨q1, q2, q3, FIN⟩ := HNX.out _ _ _ _ ho hg; clear ho hg HNX HOW)
    exact FIN.out
  case done =>
    rintro D ys W hD rfl hI hK
    obtain ⟨v, hv, hrow⟩ := hI.bx
    have x0 := block_cell hv 0
    simp at x0
    have HR := hide hrow
    have HB := hide hI.bel
    clear hI hv hrow hc had hbw hU hs A0 C1 b1
    gi_wp2
    refine ⟨by simp, .inl ⟨_, _, rfl, run_takeDeferred hK, ?_⟩⟩
    refine ⟨_, results_tmp rfl _ _ _, v, rfl, ownsRow_abides HR.out (grownBy_putObj' W D _) (fun r e => by cases e; exact ⟨_, hK, rfl⟩), HB.out.trans (belowK_b (w := w) (Nat.le_refl _) W D _ _ (by omega) hK rfl rfl)⟩
  case stop =>
    rintro D c pre W _ _ h _
    exact h.elim
end Go.Proofs.Ytoejdocnpcbpiaa
