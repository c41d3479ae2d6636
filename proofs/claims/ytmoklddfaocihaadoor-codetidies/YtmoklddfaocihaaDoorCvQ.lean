import Derived.Test.YtmoklddfaocihaaDoorCvP
namespace Go.Proofs.YtmoklddfaocihaaDoor
open Go.RowKit

/-- Memory grows, and only two blocks of the old ones may change. -/
structure G2w (W w : World) (a b : Nat) : Prop where
  os : w.os = W.os
  tape : w.tape = W.tape
  output : w.output = W.output
  size : W.heap.size ≤ w.heap.size
  block : ∀ k, k < W.heap.size → k ≠ a → k ≠ b → w.heap[k]? = W.heap[k]?
theorem G2w.of {W w : World} {a b : Nat} (h : Below W.heap.size W w) : G2w W w a b := ⟨h.os, h.tape, h.output, h.size, fun k hk _ _ => h.block k hk⟩
theorem G2w.trans {W w w' : World} {a b : Nat} (h : G2w W w a b) (h' : G2w w w' a b) : G2w W w' a b := ⟨h'.os.trans h.os, h'.tape.trans h.tape, h'.output.trans h.output, Nat.le_trans h.size h'.size, fun k hk n1 n2 => (h'.block k (Nat.lt_of_lt_of_le hk h.size) n1 n2).trans (h.block k hk n1 n2)⟩
theorem G2w.below {W w : World} {a b lim : Nat} (h : G2w W w a b) (ha : lim ≤ a) (hb : lim ≤ b) (hl : lim ≤ W.heap.size) : Below lim W w := ⟨h.os, h.tape, h.output, h.size, fun k hk => h.block k (by omega) (by omega) (by omega)⟩
/-- The reference's Walk as it lies, where there are instructions. -/
structure RW (lim : Nat) (w : World) (q ba bs ca cc : Nat) (g : Pg) (p : Pv) (k : Kn) : Prop where
  blk : w.heap[q]? = some (.cells #[.slice (some ⟨ba, 0, none⟩) p.n ca, .slice (some ⟨bs, 0, none⟩) p.n cc] 118 (0, 0))
  rowA : ∃ cs : Array Value, w.heap[ba]? = some (.cells cs 4 (0, 0)) ∧ ∀ j : Nat, j < p.n → cs[j]? = some (.bool (k j).isSome)
  rowB : ∃ cs : Array Value, w.heap[bs]? = some (.cells cs 23 (0, 0)) ∧ ∀ j : Nat, j < p.n → ∃ v, cs[j]? = some v ∧ KI w v (kin (k j))
  ok : g.Ok p lim w
  lq : lim ≤ q
  la : lim ≤ ba
  lb : lim ≤ bs
  hca : p.n ≤ ca
  hcc : p.n ≤ cc
section
variable {lim : Nat} {W W' : World} {q ba bs ca cc : Nat} {g : Pg} {p : Pv} {k : Kn}
theorem RW.le (h : RW lim W q ba bs ca cc g p k) : lim ≤ W.heap.size := by
  have := block_lt h.blk
  have := h.lq
  omega
theorem RW.kept (h : RW lim W q ba bs ca cc g p k) (hB : Below W.heap.size W W') : RW lim W' q ba bs ca cc g p k := by
  obtain ⟨c1, a1, a2⟩ := h.rowA
  obtain ⟨c2, b1, b2⟩ := h.rowB
  refine ⟨(hB.block _ (block_lt h.blk)).trans h.blk, ⟨c1, (hB.block _ (block_lt a1)).trans a1, a2⟩, ⟨c2, (hB.block _ (block_lt b1)).trans b1, fun j hj => ?_⟩, h.ok.kept hB h.le, h.lq, h.la, h.lb, h.hca, h.hcc⟩
  obtain ⟨v, e1, e2⟩ := b2 j hj
  exact ⟨v, e1, e2.below hB⟩
theorem RW.neqb (h : RW lim W q ba bs ca cc g p k) : q ≠ bs := fun e => by
  obtain ⟨c2, b1, b2⟩ := h.rowB
  have := h.blk
  rw [e, b1] at this
  simp at this
theorem RW.neqa (h : RW lim W q ba bs ca cc g p k) : q ≠ ba := fun e => by
  obtain ⟨c2, b1, b2⟩ := h.rowA
  have := h.blk
  rw [e, b1] at this
  simp at this
theorem RW.neab (h : RW lim W q ba bs ca cc g p k) : ba ≠ bs := fun e => by
  obtain ⟨c1, a1, a2⟩ := h.rowA
  obtain ⟨c2, b1, b2⟩ := h.rowB
  rw [e, b1] at a1
  simp at a1
theorem RW.int (h : RW lim W q ba bs ca cc g p k) {b : Nat} {cs : Array Value} (e : W.heap[b]? = some (.cells cs 3 (0, 0))) : b ≠ ba ∧ b ≠ bs := by
  obtain ⟨c1, a1, a2⟩ := h.rowA
  obtain ⟨c2, b1, b2⟩ := h.rowB
  constructor
  · intro x
    rw [x, a1] at e
    simp at e
  · intro x
    rw [x, b1] at e
    simp at e
theorem G2w.int (hg : G2w W W' ba bs) (h : RW lim W q ba bs ca cc g p k) {b : Nat} {cs : Array Value} (e : W.heap[b]? = some (.cells cs 3 (0, 0))) : W'.heap[b]? = W.heap[b]? :=
  hg.block b (block_lt e) (h.int e).1 (h.int e).2
theorem updK_twice (k : Kn) (d : Nat) (l m : List Bool) : updK (updK k d l) d m = updK k d m := by
  funext j
  unfold updK
  by_cases e : j = d
  · simp [e]
  · simp [e]
theorem RW.setA (h : RW lim W q ba bs ca cc g p k) (d : Nat) (hd : d < p.n) : RW lim (W.setCell ⟨ba, d, none⟩ (.bool true)) q ba bs ca cc g p (updK k d (kin (k d))) ∧ G2w W (W.setCell ⟨ba, d, none⟩ (.bool true)) ba bs := by
  obtain ⟨c1, a1, a2⟩ := h.rowA
  obtain ⟨c2, b1, b2⟩ := h.rowB
  have G0 := grown_set W ba d (.bool true)
  have G : G2w W (W.setCell ⟨ba, d, none⟩ (.bool true)) ba bs := ⟨G0.os, G0.tape, G0.output, G0.size, fun j hj n1 _ => G0.block j hj (by simpa using n1)⟩
  have s1 := heap_setCell_same W ba d _ _ (.bool true) a1
  refine ⟨⟨(G0.block _ (block_lt h.blk) (by simpa using h.neqa)).trans h.blk, ⟨_, s1, fun j hj => ?_⟩, ⟨c2, (G0.block _ (block_lt b1) (by simpa using fun e => h.neab e.symm)).trans b1, fun j hj => ?_⟩, h.ok.kept (G.below h.la h.lb h.le) (Nat.le_refl _), h.lq, h.la, h.lb, h.hca, h.hcc⟩, G⟩
  · have hb1 := (Array.getElem?_eq_some_iff.1 (a2 d hd)).1
    unfold updK
    by_cases e : j = d
    · subst e
      rw [if_pos rfl, Array.getElem?_setIfInBounds_self_of_lt hb1]; rfl
    · rw [if_neg e, Array.getElem?_setIfInBounds_ne (fun x => e x.symm)]; exact a2 j hj
  · obtain ⟨v, e1, e2⟩ := b2 j hj
    refine ⟨v, e1, ?_⟩
    have e3 := e2.kept (w' := W.setCell ⟨ba, d, none⟩ (.bool true)) (fun b cs e => G.int h e)
    unfold updK
    by_cases e : j = d
    · subst e
      rw [if_pos rfl]; exact e3
    · rw [if_neg e]; exact e3
theorem RW.setB (h : RW lim W q ba bs ca cc g p k) (d : Nat) (hd : d < p.n) (hs : (k d).isSome = true) {v : Value} {l : List Bool} (hv : KI W v l) : RW lim (W.setCell ⟨bs, d, none⟩ v) q ba bs ca cc g p (updK k d l) ∧ G2w W (W.setCell ⟨bs, d, none⟩ v) ba bs := by
  obtain ⟨c1, a1, a2⟩ := h.rowA
  obtain ⟨c2, b1, b2⟩ := h.rowB
  have G0 := grown_set W bs d v
  have G : G2w W (W.setCell ⟨bs, d, none⟩ v) ba bs := ⟨G0.os, G0.tape, G0.output, G0.size, fun j hj _ n1 => G0.block j hj (by simpa using n1)⟩
  have s1 := heap_setCell_same W bs d _ _ v b1
  refine ⟨⟨(G0.block _ (block_lt h.blk) (by simpa using h.neqb)).trans h.blk, ⟨c1, (G0.block _ (block_lt a1) (by simpa using h.neab)).trans a1, fun j hj => ?_⟩, ⟨_, s1, fun j hj => ?_⟩, h.ok.kept (G.below h.la h.lb h.le) (Nat.le_refl _), h.lq, h.la, h.lb, h.hca, h.hcc⟩, G⟩
  · unfold updK
    by_cases e : j = d
    · subst e
      rw [if_pos rfl, a2 j hj, hs]; rfl
    · rw [if_neg e]; exact a2 j hj
  · obtain ⟨u, e1, e2⟩ := b2 j hj
    have hb1 := (Array.getElem?_eq_some_iff.1 e1).1
    have e3 := e2.kept (w' := W.setCell ⟨bs, d, none⟩ v) (fun b cs e => G.int h e)
    have e4 := hv.kept (w' := W.setCell ⟨bs, d, none⟩ v) (fun b cs e => G.int h e)
    unfold updK
    by_cases e : j = d
    · subst e
      rw [if_pos rfl, Array.getElem?_setIfInBounds_self_of_lt hb1]
      exact ⟨v, rfl, e4⟩
    · rw [if_neg e, Array.getElem?_setIfInBounds_ne (fun x => e x.symm)]
      exact ⟨u, e1, e3⟩
theorem RW.at_ (h : RW lim W q ba bs ca cc g p k) (d : Nat) (hd : d < p.n) : W.cell? ⟨q, 0, none⟩ = some (.slice (some ⟨ba, 0, none⟩) p.n ca) ∧ W.cell? ⟨q, 1, none⟩ = some (.slice (some ⟨bs, 0, none⟩) p.n cc) ∧ q < W.heap.size ∧ W.cell? ⟨ba, d, none⟩ = some (.bool (k d).isSome) ∧ W.frozen? ⟨ba, d, none⟩ = false ∧ ba < W.heap.size ∧ bs < W.heap.size ∧ ∃ v, W.cell? ⟨bs, d, none⟩ = some v ∧ KI W v (kin (k d)) := by
  obtain ⟨c1, a1, a2⟩ := h.rowA
  obtain ⟨c2, b1, b2⟩ := h.rowB
  obtain ⟨v, e1, e2⟩ := b2 d hd
  exact ⟨block_cell h.blk 0, block_cell h.blk 1, block_lt h.blk, (block_cell a1 d).trans (a2 d hd), block_free a1 d, block_lt a1, block_lt b1, v, (block_cell b1 d).trans e1, e2⟩
end
/-- What becomes of a step of the reference's walk. -/
def HdR (lim : Nat) (W : World) (q ba bs ca cc : Nat) (g : Pg) (p : Pv) (r : Except Int Kn) (e : Ending) (w' : World) : Prop := match r with
  | .ok k' => e = .returned (.int .i64 0) ∧ Hid (RW lim w' q ba bs ca cc g p k' ∧ G2w W w' ba bs)
  | .error y => e = .returned (.int .i64 y) ∧ y ≠ 0 ∧ Hid (G2w W w' ba bs)
set_option maxRecDepth 10000 in
set_option maxHeartbeats 6400000 in
theorem handR {lim : Nat} {W : World} {q ba bs ca cc : Nat} {g : Pg} {p : Pv} {k : Kn} (h : RW lim W q ba bs ca cc g p k) (hkb : KB k) (i d : Nat) (hd : d ≤ 2048) (hn : p.n ≤ 2048) {v : Value} {l : List Bool} (hv : KI W v l) (hl : l.length ≤ 64) :
    Calls Tryd.prog 95 #[.pointer (some ⟨q, 0, none⟩), .agg (g.cs p).toArray, .int .i64 (i : Nat), .int .i64 (d : Nat), v] W (HdR lim W q ba bs ca cc g p (handF p k i d l)) := by
  obtain ⟨W1, hW1⟩ : ∃ W1, W.alloc (.cells (g.cs p).toArray 27) = W1 := ⟨_, rfl⟩
  have B1 : Below W.heap.size W W1 := by rw [← hW1]; exact below_alloc1 W _
  have A1 : W1.heap[W.heap.size]? = some (.cells (g.cs p).toArray 27 (0, 0)) := by rw [← hW1]; exact alloc_atK _ _
  have HRW := hide (h.kept B1)
  have HG1 : Hid (G2w W W1 ba bs) := G2w.of B1
  have HKV := hide (hv.below B1)
  have y8 := block_cell A1 8
  have yl := block_lt A1
  simp [Pg.cs] at y8
  have HW1 := hide hW1
  have HCS : Hid (g.cs p = [.slice g.ca p.nc g.cc, .slice g.sa p.ns g.sc, .int .i64 (p.en 0), .int .i64 (p.en 1), .int .i64 (p.en 2), .int .i64 (p.en 3), .int .i64 (p.en 4), .int .i64 (p.en 5), .slice g.ia p.n g.ic]) := rfl
  rw [HCS.out] at HW1 ⊢
  obtain ⟨r, hr⟩ : ∃ r, handF p k i d l = r := ⟨_, rfl⟩
  rw [hr]
  have HR := hide hr
  clear h hv B1 A1 hW1 hr
  by_cases hnd : p.n ≤ d
  · have hr : r = .error 90 := by rw [← HR.out]; unfold handF; rw [if_pos hnd]
    subst hr
    go_enter Tryd.func95, Tryd.ntmps95
    go_upto_region 1 with fail
    rw [HW1.out]
    clear HW1
    go_wp2
    go_ret
    exact ⟨rfl, by decide, HG1⟩
  · have hlt : d < p.n := by omega
    obtain ⟨hia, hib⟩ := HRW.out.ok.hi (by omega)
    have vo := HRW.out.ok.vo d hlt
    have hbl : g.ib < W1.heap.size := Nat.lt_of_lt_of_le hib HRW.out.le
    obtain ⟨q0, q1, ql, a0, af, al, bl, sv, b0, hki⟩ := HRW.out.at_ d hlt
    have HKI := hide hki
    have hca := HRW.out.hca
    have hcc := HRW.out.hcc
    rw [hia] at y8
    have HSMK : Hid True := trivial
    clear hia hki
    by_cases hdi : d ≤ i
    · have d1 : decide ((d : Int) ≤ (i : Int)) = true := decide_eq_true (by omega)
      by_cases ho : p.op d = 1
      · rw [ho] at vo
        have HDI : Hid (¬ (d ≤ i ∧ p.op d ≠ 1)) := fun e => e.2 ho
        have HLE := hide hdi
        clear ho hdi
        cases hk : k d with
        | some m =>
          rw [hk] at a0 HKI
          have HKm := hide hk
          have hml := hkb d
          rw [hk] at hml
          have HSM := hide (sameR (show KI W1 sv m from HKI.out) HKV.out (show m.length ≤ 2048 by have : m.length ≤ 64 := hml; omega) (by omega))
          clear hml
          by_cases hm : m = l
          · have hr : r = .ok k := by rw [← HR.out]; unfold handF; rw [if_neg hnd, if_neg (HDI.out), if_pos (by rw [hk, hm])]
            subst hr
            rw [decide_eq_true hm] at HSM
            clear hk hm hnd
            simp only [Option.isSome_some] at a0
            go_enter Tryd.func95, Tryd.ntmps95
            go_upto_region 1 with fail
            rw [HW1.out]
            clear HW1
            go_wp2_with fail
            refine HSM.out.mono ?_
            rintro e w2 ⟨rfl, G2⟩
            have HD : Hid (RW lim w2 q ba bs ca cc g p k ∧ G2w W w2 ba bs) := ⟨HRW.out.kept G2.out, HG1.out.trans (G2w.of G2.out)⟩
            go_wp2
            go_ret
            exact ⟨rfl, HD⟩
          · have hr : r = .error 88 := by
              rw [← HR.out]; unfold handF; rw [if_neg hnd, if_neg (HDI.out), if_neg (by rw [hk]; simpa using hm), if_pos (by right; rw [hk]; rfl)]
            subst hr
            rw [decide_eq_false hm] at HSM
            clear hk hm hnd
            simp only [Option.isSome_some] at a0
            go_enter Tryd.func95, Tryd.ntmps95
            go_upto_region 1 with fail
            rw [HW1.out]
            clear HW1
            go_wp2_with fail
            refine HSM.out.mono ?_
            rintro e w2 ⟨rfl, G2⟩
            have HD : Hid (G2w W w2 ba bs) := HG1.out.trans (G2w.of G2.out)
            go_wp2
            go_ret
            exact ⟨rfl, by decide, HD⟩
        | none =>
          rw [hk] at a0
          have hr : r = .error 88 := by
            rw [← HR.out]; unfold handF; rw [if_neg hnd, if_neg (HDI.out), if_neg (by rw [hk]; simp), if_pos (.inl HLE.out)]
          subst hr
          clear hk hnd
          simp only [Option.isSome_none] at a0
          go_enter Tryd.func95, Tryd.ntmps95
          go_upto_region 1 with fail
          rw [HW1.out]
          clear HW1
          go_wp2
          go_ret
          exact ⟨rfl, by decide, HG1⟩
      · have hr : r = .error 89 := by rw [← HR.out]; unfold handF; rw [if_neg hnd, if_pos ⟨hdi, ho⟩]
        have e1 : (p.op d != 1) = true := by simpa using ho
        subst hr
        clear ho HR HSMK
        generalize p.op d = oo at *
        go_enter Tryd.func95, Tryd.ntmps95
        go_upto_region 1 with fail
        rw [HW1.out]
        clear HW1
        go_wp2
        go_ret
        exact ⟨rfl, by decide, HG1⟩
    · have d1 : decide ((d : Int) ≤ (i : Int)) = false := decide_eq_false (by omega)
      have HDI : Hid (¬ (d ≤ i ∧ p.op d ≠ 1)) := fun e => hdi e.1
      have hdi2 : i < d := by omega
      clear hdi
      cases hk : k d with
      | some m =>
        rw [hk] at a0 HKI
        have HKm := hide hk
        have hml := hkb d
        rw [hk] at hml
        have HSM := hide (sameR (show KI W1 sv m from HKI.out) HKV.out (show m.length ≤ 2048 by have : m.length ≤ 64 := hml; omega) (by omega))
        clear hml
        by_cases hm : m = l
        · have hr : r = .ok k := by rw [← HR.out]; unfold handF; rw [if_neg hnd, if_neg (HDI.out), if_pos (by rw [hk, hm])]
          subst hr
          rw [decide_eq_true hm] at HSM
          clear hk hm hnd
          simp only [Option.isSome_some] at a0
          go_enter Tryd.func95, Tryd.ntmps95
          go_upto_region 1 with fail
          rw [HW1.out]
          clear HW1
          go_wp2_with fail
          refine HSM.out.mono ?_
          rintro e w2 ⟨rfl, G2⟩
          have HD : Hid (RW lim w2 q ba bs ca cc g p k ∧ G2w W w2 ba bs) := ⟨HRW.out.kept G2.out, HG1.out.trans (G2w.of G2.out)⟩
          go_wp2
          go_ret
          exact ⟨rfl, HD⟩
        · have hr : r = .error 88 := by
            rw [← HR.out]; unfold handF; rw [if_neg hnd, if_neg (HDI.out), if_neg (by rw [hk]; simpa using hm), if_pos (by right; rw [hk]; rfl)]
          subst hr
          rw [decide_eq_false hm] at HSM
          clear hk hm hnd
          simp only [Option.isSome_some] at a0
          go_enter Tryd.func95, Tryd.ntmps95
          go_upto_region 1 with fail
          rw [HW1.out]
          clear HW1
          go_wp2_with fail
          refine HSM.out.mono ?_
          rintro e w2 ⟨rfl, G2⟩
          have HD : Hid (G2w W w2 ba bs) := HG1.out.trans (G2w.of G2.out)
          go_wp2
          go_ret
          exact ⟨rfl, by decide, HD⟩
      | none =>
        rw [hk] at a0
        have hr : r = .ok (updK k d l) := by
          rw [← HR.out]; unfold handF; rw [if_neg hnd, if_neg (HDI.out), if_neg (by rw [hk]; simp), if_neg (by rw [hk]; simp; omega)]
        subst hr
        have HS2 := hide (HRW.out.setA d hlt)
        have HKV2 : Hid (KI (W1.setCell ⟨ba, d, none⟩ (.bool true)) v l) := HKV.out.kept (fun b cs e => HS2.out.2.int HRW.out e)
        clear hk hnd HSMK
        simp only [Option.isSome_none] at a0
        obtain ⟨W2, hW2⟩ : ∃ W2, W1.setCell ⟨ba, d, none⟩ (.bool true) = W2 := ⟨_, rfl⟩
        have HW2 := hide hW2
        rw [hW2] at HS2 HKV2
        clear hW2
        have HKVd : Hid (KI W2.drew v l) := HKV2.out.below (Below.refl _ _).drew
        have HCP := hide (copyR HKVd.out (by omega))
        have HS5 : Hid (∀ w5, Below W2.drew.heap.size W2.drew w5 → w5.cell? ⟨q, 1, none⟩ = some (.slice (some ⟨bs, 0, none⟩) p.n cc) ∧ q < w5.heap.size) := fun w5 hb => by
          have := (HS2.out.1.kept (Below.refl _ _).drew).kept hb
          exact ⟨block_cell this.blk 1, block_lt this.blk⟩
        have HZ : Hid (∀ w5, Below W2.drew.heap.size W2.drew w5 → (∃ x, w5.cell? ⟨bs, d, none⟩ = some x) ∧ w5.frozen? ⟨bs, d, none⟩ = false ∧ bs < w5.heap.size) := fun w5 hb => by
          have := (HS2.out.1.kept (Below.refl _ _).drew).kept hb
          obtain ⟨cs, r1, r2⟩ := this.rowB
          obtain ⟨x, hx, _⟩ := r2 d hlt
          exact ⟨⟨x, (block_cell r1 d).trans hx⟩, block_free r1 d, block_lt r1⟩
        have HE : Hid (∀ (w5 : World) (v' : Value), w5.ownsRow W2.drew.heap.size 3 1 v' l.length (l.map iv) → Below W2.drew.heap.size W2.drew w5 → RW lim (w5.setCell ⟨bs, d, none⟩ v') q ba bs ca cc g p (updK k d l) ∧ G2w W (w5.setCell ⟨bs, d, none⟩ v') ba bs) := fun w5 v' ho hb => by
          have h5 := (HS2.out.1.kept (Below.refl _ _).drew).kept hb
          have h6 := h5.setB d hlt (by simp [updK]) (KI.own ho)
          rw [updK_twice] at h6
          exact ⟨h6.1, HG1.out.trans (HS2.out.2.trans ((G2w.of (Below.refl _ _).drew).trans ((G2w.of hb).trans h6.2)))⟩
        have HS6 : Hid (∀ (w5 : World) (v' : Value), (w5.cell? ⟨q, 1, none⟩ = some (.slice (some ⟨bs, 0, none⟩) p.n cc) ∧ q < w5.heap.size) → (w5.setCell ⟨bs, d, none⟩ v').cell? ⟨q, 1, none⟩ = some (.slice (some ⟨bs, 0, none⟩) p.n cc) ∧ q < (w5.setCell ⟨bs, d, none⟩ v').heap.size) := fun w5 v' hh => by
          refine ⟨?_, by simpa using hh.2⟩
          rw [World.cell?_setCell_far _ _ _ _ (by simpa using fun e => HRW.out.neqb e.symm)]
          exact hh.1
        go_enter Tryd.func95, Tryd.ntmps95
        go_upto_region 1 with fail
        rw [HW1.out]
        clear HW1
        go_upto_region 12 with fail
        rw [HW2.out]
        clear HW2
        refine wp_region_held_drew (S := fun w => w.cell? ⟨q, 1, none⟩ = some (.slice (some ⟨bs, 0, none⟩) p.n cc) ∧ q < w.heap.size) (by kernel_rfl) (HS5.out _ (Below.refl _ _)) (fun hH => ?_)
        refine wpAnyH_take (i := 0) (oi := { dst := some 54, op := Op.move (Operand.tmp 0), type := 113, pos := "verify.go:156", after := #[], guard := none }) (v := .pointer (some ⟨q, 0, none⟩)) rfl (by kernel_rfl) (by kernel_rfl) (by kernel_rfl) (fun _ _ _ h => h) (Or.inl ⟨by rfl, fun w' hSw => ?_⟩) hH ?_
        · go_simp
        simp only [Act.put, List.setIfInBounds_toArray, List.set_cons_zero, List.set_cons_succ]
        refine wpAnyH_take (i := 1) (oi := { dst := some 55, op := Op.nilCheck (Operand.tmp 54), type := 0, pos := "verify.go:156", after := #[{ on := 0, ground := Ground.data }], guard := none }) (v := .pointer (some ⟨q, 0, none⟩)) rfl (by kernel_rfl) (by kernel_rfl) (by kernel_rfl) (fun _ _ _ h => h) (Or.inl ⟨by rfl, fun w' hSw => ?_⟩) hH ?_
        · go_simp
        simp only [Act.put, List.setIfInBounds_toArray, List.set_cons_zero, List.set_cons_succ]
        refine wpAnyH_take (i := 2) (oi := { dst := some 56, op := Op.fieldAddr 118 (Operand.tmp 55) 1, type := 0, pos := "verify.go:156", after := #[{ on := 1, ground := Ground.data }], guard := none }) (v := .pointer (some ⟨q, 1, none⟩)) rfl (by kernel_rfl) (by kernel_rfl) (by kernel_rfl) (fun _ _ _ h => h) (Or.inl ⟨by rfl, fun w' hSw => ?_⟩) hH ?_
        · go_simp
        simp only [Act.put, List.setIfInBounds_toArray, List.set_cons_zero, List.set_cons_succ]
        refine wpAnyH_take (i := 3) (oi := { dst := some 57, op := Op.load 116 (Operand.tmp 56), type := 116, pos := "verify.go:156", after := #[{ on := 2, ground := Ground.data }], guard := none }) (v := .slice (some ⟨bs, 0, none⟩) p.n cc) rfl (by kernel_rfl) (by kernel_rfl) (by kernel_rfl) (fun _ _ _ h => h) (Or.inl ⟨by rfl, fun w' hSw => ?_⟩) hH ?_
        · have y1 := hSw.1
          have yl := hSw.2
          go_simp
        simp only [Act.put, List.setIfInBounds_toArray, List.set_cons_zero, List.set_cons_succ]
        refine wpAnyH_take (i := 4) (oi := { dst := some 58, op := Op.move (Operand.tmp 3), type := 3, pos := "verify.go:156", after := #[], guard := none }) (v := .int .i64 (d : Nat)) rfl (by kernel_rfl) (by kernel_rfl) (by kernel_rfl) (fun _ _ _ h => h) (Or.inl ⟨by rfl, fun w' hSw => ?_⟩) hH ?_
        · go_simp
        simp only [Act.put, List.setIfInBounds_toArray, List.set_cons_zero, List.set_cons_succ]
        refine wpAnyH_take (i := 5) (oi := { dst := some 59, op := Op.move (Operand.tmp 4), type := 23, pos := "verify.go:156", after := #[], guard := none }) (v := v) rfl (by kernel_rfl) (by kernel_rfl) (by kernel_rfl) (fun _ _ _ h => h) (Or.inl ⟨by rfl, fun w' hSw => ?_⟩) hH ?_
        · go_simp
        simp only [Act.put, List.setIfInBounds_toArray, List.set_cons_zero, List.set_cons_succ]
        refine wpAnyH_ready (rs := [6]) (by kernel_rfl) (by simp) ?_
        refine AllReadyH.cons rfl (fun K hK => ?_) AllReadyH.nil
        go_simp
        go_wp2_with fail
        refine (HCP.out).mono ?_
        rintro e w5 ⟨v', rfl, G5⟩
        obtain ⟨ao5, cap5, hv5⟩ := (KI.own G5.out.1).val
        subst hv5
        go_wp2_with fail
        refine hK.out _ _ (HS5.out _ G5.out.2) (fun hG5 => ?_)
        clear hK K
        refine wpAnyH_take (i := 7) (oi := { dst := some 61, op := Op.indexAddr 116 (Operand.tmp 57) (Operand.tmp 58), type := 0, pos := "verify.go:156", after := #[{ on := 3, ground := Ground.data }, { on := 4, ground := Ground.data }, { on := 0, ground := Ground.phase }, { on := 1, ground := Ground.phase }, { on := 2, ground := Ground.phase }, { on := 3, ground := Ground.phase }, { on := 4, ground := Ground.phase }, { on := 5, ground := Ground.phase }, { on := 6, ground := Ground.phase }], guard := none }) (v := .pointer (some ⟨bs, d, none⟩)) rfl (by kernel_rfl) (by kernel_rfl) (by kernel_rfl) (fun _ _ _ h => h) (Or.inl ⟨by rfl, fun w' hSw => ?_⟩) hG5 ?_
        · go_simp
        simp only [Act.put, List.setIfInBounds_toArray, List.set_cons_zero, List.set_cons_succ]
        obtain ⟨⟨x5, z0⟩, z1, zl⟩ := HZ.out _ G5.out.2
        have HEND := hide (HE.out _ _ G5.out.1 G5.out.2)
        refine wpAnyH_ready (rs := [8]) (by kernel_rfl) (by simp) ?_
        refine AllReadyH.cons rfl (fun K hK => ?_) AllReadyH.nil
        go_simp
        go_wp2_with fail
        refine hK.out _ _ (HS6.out _ _ hG5) (fun hG6 => ?_)
        clear hK K
        refine wpAnyH_done (by kernel_rfl) ?_ _
        go_wp2
        go_ret
        exact ⟨rfl, HEND⟩
end Go.Proofs.YtmoklddfaocihaaDoor
