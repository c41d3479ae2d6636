import Derived.Test.YtgaalaoflaklgaaGreatQFreeC
namespace Go.Proofs.YtgaalaoflaklgaaGreat
open Go.RowKit Crc

theorem infoReqs : (Tryz.prog.info? 23).map (fun i => (i.zero, i.size, i.bytes)) = some (some (.slice none 0 0), 1, 24) := by kernel_rfl
/-- The numbers of requests. -/
def SqA (n m : Nat) (zs : List Value) : Prop := ∀ t, t < n → ∃ c : Nat, zs[t * 3 + 1]? = some (.int .u64 (c : Int)) ∧ (t < m → c = t + 1)
def SqB (n m : Nat) (zs : List Value) : Prop := (∀ t, t < n → zs[t * 3 + 1]? = some (.int .u64 ((t : Int) + 1))) ∧ ∀ t, t < m → zs[(n + t) * 3 + 1]? = some (.int .u64 (1000000 + (t : Int)))
def HasQ (w : World) (v : Value) (n : Nat) : Prop := v = .slice none 0 0 ∧ n = 0 ∨ ∃ g cap cur, v = .slice (some ⟨g, 0, none⟩) n cap ∧ w.heap[g]? = some (.cells cur 67 (0, 0)) ∧ ∀ t, t < n → cur[t * 3 + 1]? = some (.int .u64 ((t : Int) + 1))
theorem HasQ.kept {w w' : World} {v : Value} {n : Nat} {row : Option Nat} (h : HasQ w v n) (hg : w.grownBy w' row) (hne : v.ownBlock = none ∨ v.ownBlock ≠ row) : HasQ w' v n := by
  rcases h with h0 | ⟨g, cap, cur, rfl, h3, h4⟩
  · exact .inl h0
  · refine .inr ⟨g, cap, cur, rfl, (hg.block g (block_lt h3) ?_).trans h3, h4⟩
    rcases hne with hne | hne
    · cases hne
    · exact fun e => hne e
theorem HasQ.quiet {w w' : World} {v : Value} {n : Nat} (h : HasQ w v n) (hg : w.grownBy w' none) : HasQ w' v n := h.kept hg (by cases v.ownBlock <;> simp)
theorem HasQ.of {base n k m : Nat} {w w0 : World} {v x : Value} {zs zs' : List Value} (h0 : w0.ownsRow base 67 3 v n zs ∨ HasQ w0 v n) (hx : w.ownsRow base 67 3 x (n + k) zs') (hs : SqB n m zs') (he : x.ownBlock = v.ownBlock) : HasQ w v n := by
  have hv : v = .slice none 0 0 ∧ n = 0 ∨ ∃ g cap, v = .slice (some ⟨g, 0, none⟩) n cap := by
    rcases h0 with h0 | h0
    · rcases h0.2 with h1 | ⟨g, cap, cur, h1, _⟩
      · exact .inl h1
      · exact .inr ⟨g, cap, h1⟩
    · rcases h0 with h1 | ⟨g, cap, cur, h1, _⟩
      · exact .inl h1
      · exact .inr ⟨g, cap, h1⟩
  rcases hv with hv | ⟨g, cap, rfl⟩
  · exact .inl hv
  · rcases hx.2 with ⟨rfl, _⟩ | ⟨g', cap', cur', rfl, _, hg', _, _, _, ht⟩
    · cases he
    · cases he
      refine .inr ⟨g, cap, cur', rfl, hg', fun t htn => ?_⟩
      have h1 := hs.1 t htn
      rw [← ht, List.getElem?_take, if_pos (by omega)] at h1
      simpa using h1
/-- While the requests get their numbers. -/
def Q1 (w : World) (v : Value) (n m : Nat) (wr : World) : Prop := (∃ ys, wr.ownsRow 0 67 3 v n ys ∧ SqA n m ys) ∧ w.grownBy wr v.ownBlock
theorem Q1.store {w wr : World} {g cap n m : Nat} (h : Q1 w (.slice (some ⟨g, 0, none⟩) n cap) n m wr) (hm : m < n) : Q1 w (.slice (some ⟨g, 0, none⟩) n cap) n (m + 1) (wr.setCell ⟨g, m * 3 + 1, none⟩ (.int .u64 ((m : Int) + 1))) := by
  obtain ⟨⟨ys, h1, h2⟩, h3⟩ := h
  obtain ⟨s1, s2⟩ := h1.stored (m * 3 + 1) (.int .u64 ((m : Int) + 1))
  refine ⟨⟨_, s1, fun t ht => ?_⟩, grown_trans h3 s2⟩
  have hl : ys.length = n * 3 := h1.1
  rcases Classical.em (t = m) with e | e
  · subst e
    exact ⟨t + 1, by rw [List.getElem?_set_self (by omega)]; simp, fun _ => rfl⟩
  · obtain ⟨c, c1, c2⟩ := h2 t ht
    exact ⟨c, by rw [List.getElem?_set_ne (by omega)]; exact c1, fun h => c2 (by omega)⟩
theorem Q1.look {w wr : World} {g cap n m : Nat} (h : Q1 w (.slice (some ⟨g, 0, none⟩) n cap) n m wr) {t : Nat} (ht : t < n) : ∃ c : Nat, wr.cell? ⟨g, t * 3 + 1, none⟩ = some (.int .u64 (c : Int)) ∧ wr.frozen? ⟨g, t * 3 + 1, none⟩ = false := by
  obtain ⟨⟨ys, h1, h2⟩, h3⟩ := h
  obtain ⟨c, c1, _⟩ := h2 t ht
  exact ⟨c, (h1.cellAt _ (by omega)).trans c1, h1.frozenAt _⟩
/-- While the list of requests grows. -/
structure Q3 (wr0 : World) (v : Value) (n m : Nat) (x : Value) (wr : World) : Prop where
  ext : Ext wr0 wr v x
  own : ∃ zs, wr.ownsRow 0 67 3 x (n + m) zs ∧ SqB n m zs
  has : HasQ wr v n
  ty : x.ownBlock = v.ownBlock ∨ ∀ g, x.ownBlock = some g → wr0.heap.size ≤ g
theorem Q3.start {w wr0 : World} {v : Value} {n : Nat} (h : Q1 w v n n wr0) : Q3 wr0 v n 0 v wr0 := by
  obtain ⟨⟨ys, h1, h2⟩, h3⟩ := h
  have hs : SqB n 0 ys := ⟨fun t ht => by obtain ⟨c, c1, c2⟩ := h2 t ht; rw [c1, c2 ht]; simp, fun t ht => by omega⟩
  exact ⟨Ext.refl _ _, ⟨ys, h1, hs⟩, HasQ.of (.inl h1) (k := 0) h1 hs rfl, .inl rfl⟩
theorem Q3.next {wr0 : World} {v : Value} {n m : Nat} {x x' : Value} {wr w' : World} {o : Obj} {zs : List Value} (h : Q3 wr0 v n m x wr) (h0 : ∀ g, v.ownBlock = some g → g < wr0.heap.size) (hz : (wr.alloc o).ownsRow 0 67 3 x (n + m) zs) (hs : SqB n m zs)
    (ho : w'.ownsRow 0 67 3 x' (n + m + 1) (zs ++ [.int .u64 0, .int .u64 (1000000 + (m : Int)), .slice none 0 0])) (he : Ext (wr.alloc o) w' x x') (hm : x'.ownBlock = x.ownBlock ∨ (wr.alloc o).grownBy w' none) : Q3 wr0 v n (m + 1) x' w' := by
  have hgA := World.grownBy_alloc wr o none
  have hl : zs.length = (n + m) * 3 := hz.1
  have hs' : SqB n (m + 1) (zs ++ [.int .u64 0, .int .u64 (1000000 + (m : Int)), .slice none 0 0]) := by
    refine ⟨fun t ht => by rw [List.getElem?_append_left (by omega)]; exact hs.1 t ht, fun t ht => ?_⟩
    rcases Nat.lt_or_ge t m with e | e
    · rw [List.getElem?_append_left (by omega)]; exact hs.2 t e
    · obtain rfl : t = m := by omega
      rw [List.getElem?_append_right (by omega)]
      have e1 : (n + t) * 3 + 1 - zs.length = 1 := by omega
      rw [e1]
      rfl
  have hasA := h.has.quiet hgA
  have hE : Ext wr0 w' v x' := (h.ext.alloc o).trans he
  refine ⟨hE, ⟨_, ho, hs'⟩, ?_, ?_⟩
  · rcases hm with hm | hm
    · rcases h.ty with ht | ht
      · exact HasQ.of (zs := zs) (.inr h.has) (k := m + 1) ho hs' (hm.trans ht)
      · refine hasA.kept he.1 ?_
        cases e : v.ownBlock with
        | none => exact .inl rfl
        | some g => exact .inr (fun e2 => by have := ht g e2.symm; have := h0 g e; omega)
    · exact hasA.quiet hm
  · rcases hm with hm | hm
    · rcases h.ty with ht | ht
      · exact .inl (hm.trans ht)
      · exact .inr (fun g e => ht g (hm.symm.trans e))
    · rcases h.ty with ht | ht
      · rcases Classical.em (x'.ownBlock = v.ownBlock) with h1 | h1
        · exact .inl h1
        · refine .inr (fun g e => ?_)
          rcases hE.2 g e with h2 | h2
          · exact absurd (e.trans h2.symm) h1
          · exact h2
      · refine .inr (fun g e => ?_)
        rcases he.2 g e with h2 | h2
        · exact ht g h2
        · have := h.ext.1.size
          simp at h2
          omega
/-- All have grown: what is looked at. -/
structure Q5 (W1 : World) (v : Value) (n : Nat) (mb xb xc : Nat) (wr : World) : Prop where
  out : Out (fun q => v.ownBlock = some q) W1 wr
  more : wr.cell? ⟨mb, 0, none⟩ = some (.slice (some ⟨xb, 0, none⟩) (n + 64) xc)
  has : HasQ wr v n
  mar : ∀ t, t < 64 → wr.cell? ⟨xb, (n + t) * 3 + 1, none⟩ = some (.int .u64 (1000000 + (t : Int)))
theorem Q5.quiet {W1 : World} {v : Value} {n mb xb xc : Nat} {wr w' : World} (h : Q5 W1 v n mb xb xc wr) (hg : wr.grownBy w' none) : Q5 W1 v n mb xb xc w' :=
  ⟨h.out.grown hg (fun g e => by cases e), hg.cell h.more (by simp), h.has.quiet hg, fun t ht => hg.cell (h.mar t ht) (by simp)⟩
theorem ownsRow_one {base : Nat} {e : TypeId} {w : World} {v u : Value} (h : w.ownsRow base e 1 v 1 [u]) : ∃ g cap, v = .slice (some ⟨g, 0, none⟩) 1 cap ∧ base ≤ g ∧ w.cell? ⟨g, 0, none⟩ = some u ∧ ∃ cur, w.heap[g]? = some (.cells cur e (0, 0)) := by
  rcases h.2 with ⟨_, h0⟩ | ⟨g, cap, cur, rfl, hb, hg, hn, hc, hs, ht⟩
  · cases h0
  · refine ⟨g, cap, rfl, hb, ?_, cur, hg⟩
    rw [block_cell hg]
    have h1 := congrArg (fun l => l[0]?) ht
    simpa using h1
theorem Q5.of {W1 wr w2 : World} {v v' : Value} {n xg xc : Nat} {o : Obj} (h : Q3 W1 v n 64 (.slice (some ⟨xg, 0, none⟩) (n + 64) xc) wr) (ho : w2.ownsRow W1.heap.size 23 1 v' 1 [.slice (some ⟨xg, 0, none⟩) (n + 64) xc]) (hg : (wr.alloc o).grownBy w2 none) : ∃ mb mc, v' = .slice (some ⟨mb, 0, none⟩) 1 mc ∧ Q5 W1 v n mb xg xc w2 := by
  obtain ⟨mb, mc, e, hb, hc, _⟩ := ownsRow_one ho
  have hgA := World.grownBy_alloc wr o none
  have g2 := grown_quiet hgA hg
  refine ⟨mb, mc, e, ?_, hc, h.has.quiet g2, fun t ht => ?_⟩
  · exact (Out.refl _ W1 |>.grown h.ext.1 (fun g e => .inl e)).grown g2 (fun g e => by cases e)
  · obtain ⟨zs, z1, z2⟩ := h.own
    exact g2.cell ((z1.cellAt _ (by omega)).trans (z2.2 t ht)) (by simp)
theorem HasQ.look {w : World} {v : Value} {n t : Nat} (h : HasQ w v n) (ht : t < n) : ∃ g cap, v = .slice (some ⟨g, 0, none⟩) n cap ∧ w.cell? ⟨g, t * 3 + 1, none⟩ = some (.int .u64 ((t : Int) + 1)) := by
  rcases h with ⟨_, h0⟩ | ⟨g, cap, cur, e, h3, h4⟩
  · omega
  · exact ⟨g, cap, e, (block_cell h3 _).trans (h4 t ht)⟩
end Go.Proofs.YtgaalaoflaklgaaGreat
