import Derived.Test.YthfbimbadkmhhaaMIF
namespace Go.Proofs.Ythfbimbadkmhhaa
open Go.RowKit Crc

/-- A block of m + 2 bytes, whatever they are. -/
structure U8 (lo hi g m : Nat) (w : World) : Prop where
  h1 : lo ≤ g
  h2 : g < hi
  h3 : m ≤ 140737488355328
  blk : ∃ cur : Array Value, w.heap[g]? = some (.cells cur 5 (0, 0)) ∧ cur.size = m + 2 ∧ ∀ j, j < m + 2 → ∃ x : Int, cur[j]? = some (.int .u8 x)
/-- A list that is being spoilt. -/
structure Sp (lo hi R n : Nat) (w : World) : Prop where
  h1 : lo ≤ R
  h2 : R < hi
  h3 : n ≤ 3518437208883
  blk : ∃ cur : Array Value, w.heap[R]? = some (.cells cur 37 (0, 0)) ∧ cur.size = (n + 1) * 3 ∧ ∀ i, i < n → (∃ x : Int, cur[i * 3 + 1]? = some (.int .u64 x)) ∧ ∃ g m, cur[i * 3 + 2]? = some (.slice (some ⟨g, 0, none⟩) m (m + 2)) ∧ U8 lo hi g m w
theorem U8.keep {lo hi g m : Nat} {w w' : World} (h : U8 lo hi g m w) (hk : w'.heap[g]? = w.heap[g]?) : U8 lo hi g m w' := by
  obtain ⟨cur, a, b⟩ := h.blk
  exact ⟨h.h1, h.h2, h.h3, cur, hk.trans a, b⟩
theorem U8.turn {lo hi g m g0 m0 : Nat} {w w' : World} (h : U8 lo hi g m w) (h0 : U8 lo hi g0 m0 w) (h0' : U8 lo hi g0 m0 w') (hk : ∀ b, b < w.heap.size → b ≠ g0 → w'.heap[b]? = w.heap[b]?) : U8 lo hi g m w' := by
  by_cases e : g = g0
  · subst e
    obtain ⟨c, a1, a2, _⟩ := h.blk
    obtain ⟨c0, b1, b2, _⟩ := h0.blk
    rw [a1] at b1
    cases b1
    obtain rfl : m = m0 := by omega
    exact h0'
  · obtain ⟨c, a1, _⟩ := h.blk
    exact h.keep (hk g (block_lt a1) e)
theorem U8.own {lo hi g m : Nat} {w : World} (h : U8 lo hi g m w) : ∃ xs : List Value, w.ownsRow lo 5 1 (.slice (some ⟨g, 0, none⟩) m (m + 2)) m xs ∧ ∀ v ∈ xs, ∃ x : Int, v = .int .u8 x := by
  obtain ⟨cur, a, b, c⟩ := h.blk
  have h3 := h.h3
  refine ⟨cur.toList.take m, ⟨by simp; omega, .inr ⟨g, m + 2, cur, rfl, h.h1, a, by omega, by unfold maxLen; omega, by omega, by rw [Nat.mul_one]⟩⟩, fun v hv => ?_⟩
  obtain ⟨j, hj⟩ := List.getElem?_of_mem hv
  rw [List.getElem?_take] at hj
  split at hj
  · rename_i hjm
    obtain ⟨x, hx⟩ := c j (by omega)
    rw [Array.getElem?_toList, hx] at hj
    cases hj
    exact ⟨x, rfl⟩
  · cases hj
theorem U8.of {lo hi g m : Nat} {w : World} {xs : List Value} (h1 : lo ≤ g) (h2 : g < hi) (h3 : m ≤ 140737488355328) (ho : w.ownsRow lo 5 1 (.slice (some ⟨g, 0, none⟩) (m + 2) (m + 2)) (m + 2) xs) (hx : ∀ v ∈ xs, ∃ x : Int, v = .int .u8 x) : U8 lo hi g m w := by
  rcases ho.2 with ⟨e, _⟩ | ⟨g', cap, cur, e, hb, hgg, h4, h5, h6, h7⟩
  · cases e
  · simp only [Value.slice.injEq, Option.some.injEq, Addr.mk.injEq] at e
    obtain ⟨⟨rfl, _⟩, _, rfl⟩ := e
    refine ⟨h1, h2, h3, cur, hgg, by omega, fun j hj => ?_⟩
    have hjl : j < cur.size := by omega
    obtain ⟨x, e⟩ := hx (cur[j]) (by
      rw [← h7]
      refine List.mem_of_getElem? (i := j) ?_
      rw [List.getElem?_take, if_pos (by omega), Array.getElem?_toList, Array.getElem?_eq_getElem hjl])
    exact ⟨x, by rw [Array.getElem?_eq_getElem hjl, e]⟩
theorem U8.set {lo hi g m : Nat} {w : World} (h : U8 lo hi g m w) (y : Int) : U8 lo hi g m (w.setCell ⟨g, 0, none⟩ (.int .u8 y)) := by
  obtain ⟨cur, a, b, c⟩ := h.blk
  refine ⟨h.h1, h.h2, h.h3, _, heap_setCell_same w g 0 _ _ _ a, by simpa using b, fun j hj => ?_⟩
  rw [Array.getElem?_setIfInBounds]
  by_cases e : 0 = j
  · rw [if_pos e, if_pos (by omega)]; exact ⟨y, rfl⟩
  · rw [if_neg e]; exact c j hj
theorem U8.cell {lo hi g m : Nat} {w : World} (h : U8 lo hi g m w) : ∃ x : Int, w.cell? ⟨g, 0, none⟩ = some (.int .u8 x) ∧ w.frozen? ⟨g, 0, none⟩ = false ∧ g < w.heap.size := by
  obtain ⟨cur, a, b, c⟩ := h.blk
  obtain ⟨x, hx⟩ := c 0 (by omega)
  exact ⟨x, by rw [block_cell a]; exact hx, block_free a 0, block_lt a⟩
theorem Sp.at {lo hi R n : Nat} {w : World} (h : Sp lo hi R n w) {k : Nat} (hk : k < n) : ∃ (x : Int) (g m : Nat), w.cell? ⟨R, k * 3 + 1, none⟩ = some (.int .u64 x) ∧ w.frozen? ⟨R, k * 3 + 1, none⟩ = false ∧ w.cell? ⟨R, k * 3 + 2, none⟩ = some (.slice (some ⟨g, 0, none⟩) m (m + 2)) ∧ R < w.heap.size ∧ U8 lo hi g m w := by
  obtain ⟨cur, a, b, c⟩ := h.blk
  obtain ⟨⟨x, hx⟩, g, m, hg, hu⟩ := c k hk
  exact ⟨x, g, m, by rw [block_cell a]; exact hx, block_free a _, by rw [block_cell a]; exact hg, block_lt a, hu⟩
/-- A command's block is turned. -/
theorem Sp.turn {lo hi R n g m : Nat} {w w' : World} (h : Sp lo hi R n w) (h0 : U8 lo hi g m w) (h0' : U8 lo hi g m w') (hk : ∀ b, b < w.heap.size → b ≠ g → w'.heap[b]? = w.heap[b]?) : Sp lo hi R n w' := by
  obtain ⟨cur, a, b, c⟩ := h.blk
  have hne : R ≠ g := fun e => by
    obtain ⟨c0, b1, _⟩ := h0.blk
    rw [← e, a] at b1
    cases b1
  refine ⟨h.h1, h.h2, h.h3, cur, (hk R (block_lt a) hne).trans a, b, fun i hi => ?_⟩
  obtain ⟨hx, g', m', e1, e2⟩ := c i hi
  exact ⟨hx, g', m', e1, e2.turn h0 h0' hk⟩
theorem Sp.keep {lo hi R n : Nat} {w w' : World} (h : Sp lo hi R n w) (hb : Below w.heap.size w w') : Sp lo hi R n w' := by
  obtain ⟨cur, a, b, c⟩ := h.blk
  refine ⟨h.h1, h.h2, h.h3, cur, (hb.block _ (block_lt a)).trans a, b, fun i hi => ?_⟩
  obtain ⟨hx, g', m', e1, e2⟩ := c i hi
  obtain ⟨cu, a', _⟩ := e2.blk
  exact ⟨hx, g', m', e1, e2.keep (hb.block _ (block_lt a'))⟩
/-- A number is turned. -/
theorem Sp.num {lo hi R n : Nat} {w : World} (h : Sp lo hi R n w) (k : Nat) (y : Int) : Sp lo hi R n (w.setCell ⟨R, k * 3 + 1, none⟩ (.int .u64 y)) := by
  obtain ⟨cur, a, b, c⟩ := h.blk
  refine ⟨h.h1, h.h2, h.h3, _, heap_setCell_same w R _ _ _ _ a, by simpa using b, fun i hi => ?_⟩
  obtain ⟨⟨x, hx⟩, g', m', e1, e2⟩ := c i hi
  refine ⟨?_, g', m', by rw [Array.getElem?_setIfInBounds, if_neg (by omega)]; exact e1, ?_⟩
  · rw [Array.getElem?_setIfInBounds]
    by_cases e : k * 3 + 1 = i * 3 + 1
    · rw [if_pos e, if_pos (by omega)]; exact ⟨y, rfl⟩
    · rw [if_neg e]; exact ⟨x, hx⟩
  · obtain ⟨cu, a', _⟩ := e2.blk
    have hne : R ≠ g' := fun e => by rw [← e, a] at a'; cases a'
    exact e2.keep ((grown_set w R (k * 3 + 1) _).block _ (block_lt a') (by simpa using fun e => hne e.symm))
theorem Sp.own {lo hi R n : Nat} {w : World} (h : Sp lo hi R n w) : ∃ xs : List Value, w.ownsRow lo 37 3 (.slice (some ⟨R, 0, none⟩) n (n + 1)) n xs := by
  obtain ⟨cur, a, b, c⟩ := h.blk
  have h3 := h.h3
  exact ⟨cur.toList.take (n * 3), ⟨by simp; omega, .inr ⟨R, n + 1, cur, rfl, h.h1, a, by omega, by unfold maxLen; omega, by omega, rfl⟩⟩⟩
theorem Lb.sp {lo hi R n : Nat} {w : World} {rs : List Rq} (h : Lb lo hi w R n rs) : Sp lo hi R n w := by
  obtain ⟨cur, hg, h6, h4, h5, hb, _, h7⟩ := row_parts h.row
  refine ⟨hb, h.hR, h.le, cur, hg, by omega, fun i hi => ?_⟩
  have hl := h.len
  have hr : rs[i]? = some (rs[i]'(by omega)) := List.getElem?_eq_getElem (by omega)
  have q := h.lq _ (List.mem_of_getElem? hr)
  have hr' : (rs ++ [mark77])[i]? = some (rs[i]'(by omega)) := by rw [List.getElem?_append_left (by omega)]; exact hr
  generalize rs[i]'(by omega) = r at *
  obtain ⟨g, e, hgl, ho⟩ := q.bk
  have hat : ∀ t v, t < 3 → r.cells[t]? = some v → cur[i * 3 + t]? = some v := fun t v ht hv => by
    have h1 := rcells_get (rs ++ [mark77]) i t ht
    rw [hr', ← h7, List.getElem?_take, if_pos (by omega), Array.getElem?_toList] at h1
    rw [h1]
    exact hv
  refine ⟨⟨_, hat 1 _ (by decide) rfl⟩, g, r.cn, ?_, U8.of (ho.lt g rfl).1 hgl q.hle ho (fun v hv => ?_)⟩
  · rw [hat 2 (.slice r.co r.cn r.cc) (by decide) rfl, e, q.hcc]
  · simp only [vals, List.mem_map] at hv
    obtain ⟨x, _, rfl⟩ := hv
    exact ⟨_, rfl⟩
set_option maxRecDepth 10000 in
set_option maxHeartbeats 1600000 in
theorem spoilE {w : World} (st : Nat) {lo hi R n : Nat} (h : Sp lo hi R n w) :
    Calls Try.prog 18 #[.agg #[.int .u64 (st : Nat), .slice (some ⟨R, 0, none⟩) n (n + 1)]] w fun e w' => e = .returned (.tuple #[]) ∧ Hid (Fe w w' (fun b => lo ≤ b ∧ b < hi)) := by
  obtain ⟨i0, hi0, hz0, hz1, hz2⟩ := info_parts infoReq
  obtain ⟨j0, hj, hy0, hy1, hy2⟩ := info_parts Try.info5
  have hle := h.h3
  obtain ⟨W1, hW1⟩ : ∃ W1, w.alloc (.cells #[.int .u64 (st : Nat), .slice (some ⟨R, 0, none⟩) n (n + 1)] 40) = W1 := ⟨_, rfl⟩
  have B1 : Hid (Below w.heap.size w W1) := by rw [← hW1]; exact below_alloc1 w _
  have C1 : Hid (W1.heap[w.heap.size]? = some (.cells #[.int .u64 (st : Nat), .slice (some ⟨R, 0, none⟩) n (n + 1)] 40 (0, 0))) := by rw [← hW1]; exact alloc_atK _ _
  have HS1 : Hid (Sp lo hi R n W1) := h.keep B1.out
  have KP : Hid (∀ V, Sp lo hi R n V → Fe W1 V (fun b => lo ≤ b ∧ b < hi ∧ b ≠ w.heap.size) → V.cell? ⟨w.heap.size, 1, none⟩ = some (.slice (some ⟨R, 0, none⟩) n (n + 1)) ∧ w.heap.size < V.heap.size ∧ ¬ R = w.heap.size) := fun V hs hf => by
    have b := (hf.block _ (block_lt C1.out) (fun e => e.2.2 rfl)).trans C1.out
    obtain ⟨cur, a, _⟩ := hs.blk
    exact ⟨block_cell b 1, block_lt b, fun e => by rw [e, b] at a; cases a⟩
  have KG : Hid (∀ V g m, U8 lo hi g m V → Sp lo hi R n V → Fe W1 V (fun b => lo ≤ b ∧ b < hi ∧ b ≠ w.heap.size) → g ≠ w.heap.size ∧ R ≠ w.heap.size) := fun V g m hu hs hf => by
    have b := (hf.block _ (block_lt C1.out) (fun e => e.2.2 rfl)).trans C1.out
    obtain ⟨cur, a, _⟩ := hs.blk
    obtain ⟨cur2, a2, _⟩ := hu.blk
    exact ⟨fun e => (by rw [e, b] at a2; cases a2), fun e => (by rw [e, b] at a; cases a)⟩
  have FIN : Hid (∀ V, Fe W1 V (fun b => lo ≤ b ∧ b < hi ∧ b ≠ w.heap.size) → Fe w V (fun b => lo ≤ b ∧ b < hi)) := fun V hf => (Fe.below B1.out _).trans hf (fun _ _ e => ⟨e.1, e.2.1⟩)
  have h2 : Hid (∀ (W : World) (j : Nat) (u : Value), [Value.int .u8 1, .int .u8 2][j]? = some u → (W.alloc (.cells #[.int .u8 1, .int .u8 2] 5)).cell? ((⟨W.heap.size, 0, none⟩ : Addr).add j) = some u) := fun W j u h => by
    have e : (⟨W.heap.size, 0, none⟩ : Addr).add j = ⟨W.heap.size, j, none⟩ := by
      rcases j with _ | j <;> simp [Addr.add]
    rw [← h, e]
    exact (World.cell?_alloc_new W #[.int .u8 1, .int .u8 2] 5 j).trans (by simp)
  have HW1 := hide hW1
  have HF0 : Hid (Fe W1 W1 (fun b => lo ≤ b ∧ b < hi ∧ b ≠ w.heap.size)) := Fe.refl _ _
  clear h hW1 B1 C1
  go_enter Try.func18, Try.ntmps18
  go_upto_region 1 with fail
  rw [HW1.out]
  clear HW1
  go_wp2
  go_loopw [2, 3] (fun i _ wr => ∃ k : Nat, k ≤ n ∧ i = .int .i64 k ∧ Hid (Sp lo hi R n wr ∧ Fe W1 wr (fun b => lo ≤ b ∧ b < hi ∧ b ≠ w.heap.size))) (fun i _ _ => n - (intOf i).toNat)
  case atStart => exact ⟨0, by omega, rfl, HS1.out, HF0.out⟩
  case round =>
    obtain ⟨k, hk, rfl, HQ⟩ := hrel
    clear HS1 HF0
    obtain ⟨p1, pl, pn⟩ := KP.out wr HQ.out.1 HQ.out.2
    by_cases hlt : k < n
    · obtain ⟨x, g, m, c1, f1, c2, cl, hu⟩ := HQ.out.1.at hlt
      have HU := hide hu
      have hm := hu.h3
      clear hu
      have HOA : Hid (∃ xs : List Value, (∀ o, (wr.alloc o).ownsRow lo 5 1 (.slice (some ⟨g, 0, none⟩) m (m + 2)) m xs) ∧ ∀ v ∈ xs, ∃ x : Int, v = .int .u8 x) := by
        obtain ⟨xs, ho, hx⟩ := HU.out.own
        exact ⟨xs, fun o => row_quiet ho (World.grownBy_alloc _ _ none), hx⟩
      obtain ⟨xs, HOX⟩ := HOA.out
      have HX := hide HOX
      clear HOX HOA
      have KA : Hid (∀ o w1, w1.ownsRow lo 5 1 (.slice (some ⟨g, 0, none⟩) (m + 2) (m + 2)) (m + 2) (xs ++ [.int .u8 1, .int .u8 2]) → (wr.alloc o).grownBy w1 (some g) → U8 lo hi g m w1 ∧ Sp lo hi R n w1 ∧ Fe W1 w1 (fun b => lo ≤ b ∧ b < hi ∧ b ≠ w.heap.size)) := fun o w1 ho hg => by
        have hA : Below wr.heap.size wr (wr.alloc o) := below_alloc1 wr o
        have hu' : U8 lo hi g m w1 := U8.of HU.out.h1 HU.out.h2 HU.out.h3 ho (fun v hv => by
          rcases List.mem_append.1 hv with hv | hv
          · exact HX.out.2 v hv
          · simp at hv
            rcases hv with rfl | rfl <;> exact ⟨_, rfl⟩)
        have hblk : ∀ b, b < wr.heap.size → b ≠ g → w1.heap[b]? = wr.heap[b]? := fun b hb hne => (hg.block b (by simp; omega) (by simpa using hne)).trans (hA.block b hb)
        refine ⟨hu', HQ.out.1.turn HU.out hu' hblk, HQ.out.2.trans ⟨hg.os.trans hA.os, hg.tape.trans hA.tape, hg.output.trans hA.output, by have := hg.size; have := hA.size; omega, fun b hb hn => hblk b hb (fun e => ?_)⟩ (fun _ _ e => e)⟩
        subst e
        exact hn ⟨HU.out.h1, HU.out.h2, (KG.out wr _ m HU.out HQ.out.1 HQ.out.2).1⟩
      have KS : Hid (∀ w1 y, U8 lo hi g m w1 ∧ Sp lo hi R n w1 ∧ Fe W1 w1 (fun b => lo ≤ b ∧ b < hi ∧ b ≠ w.heap.size) → U8 lo hi g m (w1.setCell ⟨g, 0, none⟩ (.int .u8 y)) ∧ Sp lo hi R n (w1.setCell ⟨g, 0, none⟩ (.int .u8 y)) ∧ Fe W1 (w1.setCell ⟨g, 0, none⟩ (.int .u8 y)) (fun b => lo ≤ b ∧ b < hi ∧ b ≠ w.heap.size)) := fun w1 y hh => by
        obtain ⟨a1, a2, a3⟩ := hh
        have hg := grown_set w1 g 0 (.int .u8 y)
        refine ⟨a1.set y, a2.turn a1 (a1.set y) (fun b hb hne => hg.block b hb (by simpa using hne)), a3.trans (Fe.grown hg (fun q e => ?_)) (fun _ _ e => e)⟩
        cases e
        exact ⟨a1.h1, a1.h2, (KG.out w1 _ m a1 a2 a3).1⟩
      have KT : Hid (∀ w1 y, U8 lo hi g m w1 ∧ Sp lo hi R n w1 ∧ Fe W1 w1 (fun b => lo ≤ b ∧ b < hi ∧ b ≠ w.heap.size) → Sp lo hi R n (w1.setCell ⟨R, k * 3 + 1, none⟩ (.int .u64 y)) ∧ Fe W1 (w1.setCell ⟨R, k * 3 + 1, none⟩ (.int .u64 y)) (fun b => lo ≤ b ∧ b < hi ∧ b ≠ w.heap.size)) := fun w1 y hh => by
        obtain ⟨a1, a2, a3⟩ := hh
        refine ⟨a2.num k y, a3.trans (Fe.grown (grown_set w1 R (k * 3 + 1) _) (fun q e => ?_)) (fun _ _ e => e)⟩
        cases e
        exact ⟨a2.h1, a2.h2, (KG.out w1 _ m a1 a2 a3).2⟩
      go_upto_region 5 with (at_builtin; refine wpList_append_own_spare _ rfl (.tmp 17) (.tmp 18) 35 rfl lo 5 j0 1 Try.underlying35 hj hy1 g m (m + 2) _ rfl (HX.out.1 _) ⟨wr.heap.size, 0, none⟩ 2 2 [.int .u8 1, .int .u8 2] rfl rfl (h2.out wr) (by intro u hu; simp at hu; rcases hu with rfl | rfl <;> rfl) (by omega) ?_; intro w1 ho hg; have HM := hide (KA.out _ _ ho hg); clear ho hg c1 f1 c2 cl p1 pl)
      obtain ⟨x0, y0, yf, yl⟩ := HM.out.1.cell
      clear KA HX
      go_upto_region 6 with fail
      have HM2 := hide (KS.out w1 ((x0 + 1) % 256) HM.out)
      obtain ⟨w2, hw2⟩ : ∃ w2, w1.setCell ⟨g, 0, none⟩ (.int .u8 ((x0 + 1) % 256)) = w2 := ⟨_, rfl⟩
      rw [hw2] at HM2
      rw [hw2]
      clear hw2 y0 yf yl HM KS
      obtain ⟨x, g', m', c1, f1, c2, cl, _⟩ := HM2.out.2.1.at hlt
      obtain ⟨p1, pl, pn'⟩ := KP.out w2 HM2.out.2.1 HM2.out.2.2
      have HT : Hid (∀ y, Sp lo hi R n (w2.setCell ⟨R, k * 3 + 1, none⟩ (.int .u64 y)).drew ∧ Fe W1 (w2.setCell ⟨R, k * 3 + 1, none⟩ (.int .u64 y)).drew (fun b => lo ≤ b ∧ b < hi ∧ b ≠ w.heap.size)) := fun y => by
        obtain ⟨a1, a2⟩ := KT.out w2 y HM2.out
        exact ⟨a1.keep (Below.refl _ _).drew, a2.trans (Fe.below (Below.refl _ _).drew _) (fun _ _ e => e)⟩
      clear HM2 HQ HU KT
      go_region
      all_goals go_wp2
      all_goals go_roundw
      case rel => exact ⟨k + 1, by omega, by go_num, HT.out _⟩
      case measure => simp [intOf]; omega
    · obtain rfl : k = n := by omega
      have HOA : Hid (∃ xs : List Value, ∀ o, (wr.alloc o).ownsRow lo 37 3 (.slice (some ⟨R, 0, none⟩) k (k + 1)) k xs) := by
        obtain ⟨xs, ho⟩ := HQ.out.1.own
        exact ⟨xs, fun o => row_quiet ho (World.grownBy_alloc _ _ none)⟩
      obtain ⟨xs, HOX⟩ := HOA.out
      have HX := hide HOX
      clear HOX HOA
      have KF : Hid (∀ o w3, w3.ownsRow lo 37 3 (.slice (some ⟨R, 0, none⟩) (k + 1) (k + 1)) (k + 1) (xs ++ [.int .u64 1, .int .u64 0, .slice none 0 0]) → (wr.alloc o).grownBy w3 (some R) → (w3.cell? ⟨w.heap.size, 1, none⟩ = some (.slice (some ⟨R, 0, none⟩) k (k + 1)) ∧ w.heap.size < w3.heap.size ∧ (∃ u, w3.cell? ⟨R, k * 3 + 1, none⟩ = some u) ∧ w3.frozen? ⟨R, k * 3 + 1, none⟩ = false ∧ R < w3.heap.size) ∧ Hid (∀ u, Fe w (w3.setCell ⟨R, k * 3 + 1, none⟩ u) (fun b => lo ≤ b ∧ b < hi))) := fun o w3 ho hg => by
        obtain ⟨cur, hgR, h6, _⟩ := row_parts ho
        have hA : Below wr.heap.size wr (wr.alloc o) := below_alloc1 wr o
        have F1 : Fe wr w3 (fun b => b = R) := (Fe.below hA _).trans (Fe.grown hg (fun y e => by cases e; rfl)) (fun _ _ e => e)
        have hRn := (KP.out wr HQ.out.1 HQ.out.2).2.2
        have F2 : Fe W1 w3 (fun b => lo ≤ b ∧ b < hi ∧ b ≠ w.heap.size) := HQ.out.2.trans (F1.wide (fun b e => by rw [e]; exact ⟨HQ.out.1.h1, HQ.out.1.h2, hRn⟩)) (fun _ _ e => e)
        have c1 := F1.cell (q := w.heap.size) (KP.out wr HQ.out.1 HQ.out.2).2.1 (fun e => hRn e.symm) (KP.out wr HQ.out.1 HQ.out.2).1
        refine ⟨⟨c1, by have := (KP.out wr HQ.out.1 HQ.out.2).2.1; have := F1.size; omega, ⟨cur[k * 3 + 1]'(by omega), by rw [block_cell hgR, Array.getElem?_eq_getElem (by omega)]⟩, block_free hgR _, block_lt hgR⟩, fun u => ?_⟩
        exact FIN.out _ (F2.trans (Fe.grown (grown_set w3 R (k * 3 + 1) u) (fun y e => by cases e; exact ⟨HQ.out.1.h1, HQ.out.1.h2, hRn⟩)) (fun _ _ e => e))
      clear HQ KP KG FIN
      go_upto_region 8 with (at_builtin; refine wpList_append_own_spare _ rfl (.tmp 39) (.tmp 41) 38 rfl lo 37 i0 3 Try.underlying38 hi0 hz1 R k (k + 1) _ rfl (HX.out _) ⟨wr.heap.size, 0, none⟩ 1 1 [.int .u64 1, .int .u64 0, .slice none 0 0] rfl rfl (cell_req_new _ _ _ _ _) (by simp [Value.oneCell']) (by omega) ?_; intro w3 ho hg; obtain ⟨⟨q1, ql, ⟨u, r1⟩, rf, rl⟩, HF⟩ := KF.out _ _ ho hg; clear ho hg p1 pl)
      go_wp2
      go_end0
      exact ⟨rfl, HF.out _⟩
end Go.Proofs.Ythfbimbadkmhhaa
