import Derived.Test.YtldhafpeigdloaaGreatDoorM25
import Derived.Deep.MidRow
import Derived.Test.YtldhafpeigdloaaGreatDoorM10
import Derived.Test.YtldhafpeigdloaaGreatDoorTList
namespace Go.Proofs.YtldhafpeigdloaaGreatDoor
open Go.RowKit Crc

end Go.Proofs.YtldhafpeigdloaaGreatDoor
namespace Go.Proofs.YtldhafpeigdloaaGreatDoor
open Go.RowKit Crc

theorem blobAt_700 (B : List Nat) : (blobAt B 700).1.length ≤ 700 := by
  unfold blobAt
  split
  · simp
  · split
    · simp
    · simp only [List.length_take, List.length_drop]
      have := countAt_ok B 700
      omega
theorem rdGo_len : ∀ (n : Nat) (s : RS), (rdGo n s).1.length = n ∧ ∀ x ∈ (rdGo n s).1, x.2.2.length ≤ 700
  | 0, s => ⟨rfl, fun x hx => by simp [rdGo] at hx⟩
  | n + 1, s => by
    obtain ⟨h1, h2⟩ := rdGo_len n (rqS3 s)
    refine ⟨by simp [rdGo, h1], fun x hx => ?_⟩
    rw [rdGo] at hx
    rcases List.mem_cons.1 hx with rfl | hx
    · exact blobAt_700 _
    · exact h2 x hx
theorem bN_le (s : RS) : bN s ≤ 8 := by
  have h := countAt_ok (bS1 s).rest 8
  unfold bN
  by_cases hz : (countAt (bS1 s).rest 8).2.2 = 0
  · have := h.2.2.1 hz (by omega); omega
  · have := (h.2.2.2.2 hz).1; omega
/-- What is read of bytes: the fault and its place, or the batch. -/
def dC (B : List Nat) : Int := (bEnd (RS1 B)).endC
def dA (B : List Nat) : Int := if dC B = 0 then 0 else (bEnd (RS1 B)).endA
def dS (B : List Nat) : Nat := if dC B = 0 then (numAt (RS1 B).rest).1 else 0
def dV (B : List Nat) : List (Nat × Nat × List Nat) := if dC B = 0 then bVals (RS1 B) else []
def dN (B : List Nat) : Nat := (dV B).length
theorem dN_le (B : List Nat) : dN B ≤ 8 := by
  unfold dN dV
  split
  · unfold bVals; rw [(rdGo_len _ _).1]; exact bN_le _
  · simp
theorem dV_le (B : List Nat) : ∀ x ∈ dV B, x.2.2.length ≤ 700 := by
  unfold dV
  split
  · unfold bVals; exact (rdGo_len _ _).2
  · simp
/-- A batch of its own. -/
structure Bt (base : Nat) (w : World) (v : Value) (rs : List Rq) : Prop where
  own : OwnRs base w v rs
  free : FreeRs base w rs
theorem Bt.quiet {base : Nat} {w w' : World} {v : Value} {rs : List Rq} (h : Bt base w v rs) (hg : w.grownBy w' none) : Bt base w' v rs := by
  obtain ⟨a, b⟩ := h.own.quiet h.free hg
  exact ⟨a, b⟩
theorem Bt.below {base : Nat} {w w' : World} {v : Value} {rs : List Rq} (h : Bt base w v rs) (hb : Below w.heap.size w w') : Bt base w' v rs := h.quiet (below_none hb)
theorem Bt.past {base g : Nat} {w w' : World} {v : Value} {rs : List Rq} (h : Bt base w v rs) (hg : w.grownBy w' (some g)) (hl : g < base) : Bt base w' v rs := by
  obtain ⟨a, b⟩ := h.own.past h.free hg hl
  exact ⟨a, b⟩
theorem Bt.lt {base : Nat} {w : World} {v : Value} {rs : List Rq} (h : Bt base w v rs) (g : Nat) (e : v.ownBlock = some g) : base ≤ g ∧ g < w.heap.size := h.own.row.lt g e
theorem Bt.ltB {base : Nat} {w : World} {v : Value} {rs : List Rq} (h : Bt base w v rs) (g : Nat) (e : inB rs g) : base ≤ g ∧ g < w.heap.size := by
  obtain ⟨r, hr, e⟩ := e
  exact (h.free.own r hr).1.lt g e
theorem Has.out {S : Nat → Prop} {w w' : World} {base : Nat} {v : Value} {C : List Nat} (h : Owns base w v C) (ho : Out S w w') (hn : ∀ g, v.ownBlock = some g → ¬ S g) : Owns base w' v C := ⟨ho.row h.1 hn, h.2⟩
theorem Bt.out {S : Nat → Prop} {base : Nat} {w w' : World} {v : Value} {rs : List Rq} (h : Bt base w v rs) (ho : Out S w w') (h1 : ∀ g, v.ownBlock = some g → ¬ S g) (h2 : ∀ g, inB rs g → ¬ S g) : Bt base w' v rs := by
  have f2 : FreeRs base w' rs := ⟨fun r hr => Has.out (h.free.own r hr) ho (fun g e => h2 g ⟨r, hr, e⟩), h.free.apart⟩
  refine ⟨⟨ho.row h.own.row h1, fun r hx => ?_, h.own.le⟩, f2⟩
  obtain ⟨vo, vc, hv, hS, _⟩ := (f2.own r hx).form
  have hv' : Value.slice r.co r.cn r.cc = .slice vo r.C.length vc := hv
  simp only [Value.slice.injEq] at hv'
  obtain ⟨e3, e4, e5⟩ := hv'
  refine ⟨(h.own.ok r hx).hc, (h.own.ok r hx).hs, ?_⟩
  rw [e3, e4, e5]
  exact hS
theorem Bt.f0 {base base' : Nat} {w : World} {v lv : Value} {rs : List Rq} (h : Bt base w v rs) (hl : Sls base' w lv rs.length (rs.map Rq.sl)) (hc : ∀ r ∈ rs, r.C.length ≤ 700) : F0 w lv rs := by
  refine ⟨row_lower hl (by omega), fun j r hr => (h.free.own r (List.mem_of_getElem? hr)).lower (by omega), fun i j a b hij ha hb => ?_, h.own.le, fun j r hr => by have := hc r (List.mem_of_getElem? hr); omega⟩
  have hp := List.pairwise_iff_getElem.1 h.free.apart
  obtain ⟨hi, rfl⟩ := List.getElem?_eq_some_iff.1 ha
  obtain ⟨hj, rfl⟩ := List.getElem?_eq_some_iff.1 hb
  rcases Nat.lt_or_gt_of_ne hij with e | e
  · exact hp i j hi hj e
  · rcases hp j i hj hi e with h1 | h1
    · cases e2 : (rs[i]).sl.ownBlock with
      | none => exact .inl rfl
      | some g => exact .inr (by rw [h1]; simp)
    · exact .inr (fun e2 => h1 e2.symm)
theorem Bt.q1 {base : Nat} {w : World} {v : Value} {rs : List Rq} (h : Bt base w v rs) : Q1 w v rs.length 0 w := by
  refine ⟨⟨rcells rs, row_lower h.own.row (by omega), fun t ht => ?_⟩, rfl, rfl, rfl, Nat.le_refl _, fun _ _ _ => rfl⟩
  exact ⟨rs[t].sq, rcells_at rs t rs[t] (List.getElem?_eq_getElem ht) 1 _ rfl, fun h => by omega⟩
theorem Bt.form {base : Nat} {w : World} {v : Value} {rs : List Rq} (h : Bt base w v rs) : ∃ ao cap, v = .slice ao rs.length cap ∧ ∃ b, Rqs w.heap.size w ao rs b 0 := by
  obtain ⟨ao, cap, b, e, hr⟩ := h.own.form
  exact ⟨ao, cap, e, b, hr⟩
theorem Bt.ne {base base' : Nat} {w : World} {v u : Value} {rs : List Rq} (h : Bt base w v rs) {xs : List Value} {k : Nat} (hr : w.ownsRow base' 100 3 u k xs) : ∀ g, u.ownBlock = some g → ¬ inB rs g := fun g e ⟨r, hx, e2⟩ => by
  rcases owns_ne_row (h.free.own r hx) hr with h1 | h1
  · rw [h1] at e2; cases e2
  · exact h1 (e2.trans e.symm)
theorem val_len {rs : List Rq} {V : List (Nat × Nat × List Nat)} (h : rs.map Rq.val = V) : rs.length = V.length := by rw [← h]; simp
theorem val_cl {rs : List Rq} {B : List Nat} (h : rs.map Rq.val = dV B) : ∀ r ∈ rs, r.C.length ≤ 700 := fun r hr => by
  have := dV_le B (Rq.val r) (by rw [← h]; exact List.mem_map_of_mem hr)
  exact this
theorem ErrV.zero {w : World} {x : Value} {c a : Int} (h : ErrV w x c a) : ErrV w x c (if c = 0 then 0 else a) := by
  rcases h with ⟨h1, h2, h3⟩ | ⟨h1, h2⟩
  · exact .inl ⟨h1, h2, by rw [if_pos h2]⟩
  · exact .inr ⟨by rw [if_neg h2]; exact h1, h2⟩
theorem ErrV.quiet {w w' : World} {x : Value} {c a : Int} (h : ErrV w x c a) (hg : w.grownBy w' none) : ErrV w' x c a := by
  rcases h with h | ⟨⟨g, h1, h2, h3, h4⟩, hc⟩
  · exact .inl h
  · exact .inr ⟨⟨g, h1, hg.cell h2 (by simp), hg.cell h3 (by simp), hg.cell h4 (by simp)⟩, hc⟩

theorem sameB {base base' : Nat} {w : World} {a1 a2 : Option Addr} {N c1 c2 : Nat} {rs1 rs2 : List Rq} {V : List (Nat × Nat × List Nat)} (st : Nat) (h1 : Bt base w (.slice a1 N c1) rs1) (h2 : Bt base' w (.slice a2 N c2) rs2) (e1 : rs1.map Rq.val = V) (e2 : rs2.map Rq.val = V) :
    Calls Tryz.prog 27 #[.agg #[.int .u64 (st : Int), .slice a1 N c1], .agg #[.int .u64 (st : Int), .slice a2 N c2]] w fun e w' => e = .returned (.bool true) ∧ Hid (Below w.heap.size w w') := by
  obtain ⟨x1, k1, f1, b1, r1⟩ := h1.form
  obtain ⟨x2, k2, f2, b2, r2⟩ := h2.form
  cases f1
  have hn : rs2.length = rs1.length := by rw [val_len e1, val_len e2]
  rw [hn] at f2
  cases f2
  have h := sameBatch_any st c1 c2 r1 r2 (Nat.le_refl _) (Nat.le_refl _) (e1.trans e2.symm)
  rw [hn] at h
  exact h
end Go.Proofs.YtldhafpeigdloaaGreatDoor
namespace Go.Proofs.YtldhafpeigdloaaGreatDoor
open Go.RowKit Crc

def frCells (ao : Option Addr) (n cap : Nat) : Array Value := (.bool true :: .int .i64 0 :: .int .i64 0 :: .slice ao n cap :: .int .i64 0 :: mc0.R).toArray
theorem fr_new {lim : Nat} {w : World} {ao : Option Addr} {cap : Nat} {B : List Nat} (h : Shows lim w ao B.length cap B) (hl : lim ≤ w.heap.size) :
    Fr lim (w.heap.size + 1) w.heap.size ⟨true, 0, 0, B, 0, ⟨78, mc0.R⟩⟩ mc0 (w.alloc (.cells (frCells ao B.length cap) 78)) := by
  have gA := World.grownBy_alloc w (.cells (frCells ao B.length cap) 78) none
  obtain ⟨n1, n2⟩ := OwnRs.nil (w.heap.size + 1) (w.alloc (.cells (frCells ao B.length cap) 78))
  exact ⟨⟨ao, cap, alloc_at _ _, h.kept gA (fun g e => by cases e), by simp, hl⟩, rfl, n1, n2, Owns.nil _ _, by omega, by simp, fun r hr => by cases hr⟩
theorem Calls.world {P : Program} {f : FuncId} {args : Array Value} {w w' : World} {Q : Ending → World → Prop} (e : w = w') (h : Calls P f args w' Q) : Calls P f args w Q := by rw [e]; exact h
/-- A record as it is told. -/
def recAgg (k : Nat) (c : Mc) : Value := .agg #[.int .i64 (k : Int), .int .u64 (c.num : Int), .int .i64 (c.node : Int), .int .u64 (c.slot : Int), .int .u64 (c.stamp : Int), c.bv, c.dv]

theorem set7 (w : World) (R : Nat) (a b c d e f g : Value) : w.grownBy (((((((w.setCell ⟨R, 0, none⟩ a).setCell ⟨R, 1, none⟩ b).setCell ⟨R, 2, none⟩ c).setCell ⟨R, 3, none⟩ d).setCell ⟨R, 4, none⟩ e).setCell ⟨R, 5, none⟩ f).setCell ⟨R, 6, none⟩ g) (some R) := by
  have h := grown_set w R 0 a
  have h := grown_trans (row := some R) h (grown_set _ R 1 b)
  have h := grown_trans (row := some R) h (grown_set _ R 2 c)
  have h := grown_trans (row := some R) h (grown_set _ R 3 d)
  have h := grown_trans (row := some R) h (grown_set _ R 4 e)
  have h := grown_trans (row := some R) h (grown_set _ R 5 f)
  exact grown_trans (row := some R) h (grown_set _ R 6 g)
theorem set7_block {w : World} {R : Nat} {x0 x1 x2 x3 x4 x5 x6 : Value} {t : TypeId} (h : w.heap[R]? = some (.cells #[x0, x1, x2, x3, x4, x5, x6] t (0, 0))) (a b c d e f g : Value) : (((((((w.setCell ⟨R, 0, none⟩ a).setCell ⟨R, 1, none⟩ b).setCell ⟨R, 2, none⟩ c).setCell ⟨R, 3, none⟩ d).setCell ⟨R, 4, none⟩ e).setCell ⟨R, 5, none⟩ f).setCell ⟨R, 6, none⟩ g).heap[R]? = some (.cells #[a, b, c, d, e, f, g] t (0, 0)) := by
  have h0 := heap_setCell_same _ R 0 _ _ a h
  simp only [List.setIfInBounds_toArray, List.set_cons_zero] at h0
  have h1 := heap_setCell_same _ R 1 _ _ b h0
  simp only [List.setIfInBounds_toArray, List.set_cons_zero, List.set_cons_succ] at h1
  have h2 := heap_setCell_same _ R 2 _ _ c h1
  simp only [List.setIfInBounds_toArray, List.set_cons_zero, List.set_cons_succ] at h2
  have h3 := heap_setCell_same _ R 3 _ _ d h2
  simp only [List.setIfInBounds_toArray, List.set_cons_zero, List.set_cons_succ] at h3
  have h4 := heap_setCell_same _ R 4 _ _ e h3
  simp only [List.setIfInBounds_toArray, List.set_cons_zero, List.set_cons_succ] at h4
  have h5 := heap_setCell_same _ R 5 _ _ f h4
  simp only [List.setIfInBounds_toArray, List.set_cons_zero, List.set_cons_succ] at h5
  have h6 := heap_setCell_same _ R 6 _ _ g h5
  simp only [List.setIfInBounds_toArray, List.set_cons_zero, List.set_cons_succ] at h6
  exact h6
theorem cells7 {w : World} {R : Nat} {a b c d e f g : Value} {t : TypeId} (h : w.heap[R]? = some (.cells #[a, b, c, d, e, f, g] t (0, 0))) :
    w.cell? ⟨R, 0, none⟩ = some a ∧ w.cell? ⟨R, 1, none⟩ = some b ∧ w.cell? ⟨R, 2, none⟩ = some c ∧ w.cell? ⟨R, 3, none⟩ = some d ∧ w.cell? ⟨R, 4, none⟩ = some e ∧ w.cell? ⟨R, 5, none⟩ = some f ∧ w.cell? ⟨R, 6, none⟩ = some g :=
  ⟨(block_cell h 0).trans rfl, (block_cell h 1).trans rfl, (block_cell h 2).trans rfl, (block_cell h 3).trans rfl, (block_cell h 4).trans rfl, (block_cell h 5).trans rfl, (block_cell h 6).trans rfl⟩
theorem set7_new {w W : World} {R : Nat} {x0 x1 x2 x3 x4 x5 x6 : Value} {t : TypeId} (h : w.heap[R]? = some (.cells #[x0, x1, x2, x3, x4, x5, x6] t (0, 0))) (a b c d e f g : Value) (hW : (((((((w.setCell ⟨R, 0, none⟩ a).setCell ⟨R, 1, none⟩ b).setCell ⟨R, 2, none⟩ c).setCell ⟨R, 3, none⟩ d).setCell ⟨R, 4, none⟩ e).setCell ⟨R, 5, none⟩ f).setCell ⟨R, 6, none⟩ g) = W) :
    w.grownBy W (some R) ∧ (W.cell? ⟨R, 0, none⟩ = some a ∧ W.cell? ⟨R, 1, none⟩ = some b ∧ W.cell? ⟨R, 2, none⟩ = some c ∧ W.cell? ⟨R, 3, none⟩ = some d ∧ W.cell? ⟨R, 4, none⟩ = some e ∧ W.cell? ⟨R, 5, none⟩ = some f ∧ W.cell? ⟨R, 6, none⟩ = some g) := by
  have hg := set7 w R a b c d e f g
  have hs := set7_block h a b c d e f g
  rw [hW] at hg hs
  exact ⟨hg, cells7 hs⟩
theorem grown_setCells (b : Nat) : ∀ (vs : List Value) (o : Nat) (w : World), w.grownBy (w.setCells b o vs) (some b)
  | [], _, w => ⟨rfl, rfl, rfl, Nat.le_refl _, fun _ _ _ => rfl⟩
  | v :: r, o, w => by
    rw [World.setCells]
    exact grown_trans (row := some b) (grown_set w b o v) (grown_setCells b r (o + 1) _)
theorem there_new {w : World} {Z : Array Value} {t : TypeId} {n : Nat} (h : n ≤ Z.size) : (w.alloc (.cells Z t)).there w.heap.size 0 n := fun j hj => by
  have hb := alloc_at w (.cells Z t)
  rw [Nat.zero_add, block_cell hb j]
  exact ⟨by rw [Array.getElem?_eq_getElem (by omega)]; rfl, block_free hb j⟩
theorem grown_new {w W : World} {o : Obj} (h : (w.alloc o).grownBy W (some w.heap.size)) : w.grownBy W none := by
  have g := World.grownBy_alloc w o none
  exact ⟨h.os.trans g.os, h.tape.trans g.tape, h.output.trans g.output, Nat.le_trans g.size h.size, fun k hk _ => (h.block k (by simp; omega) (by simp; omega)).trans (g.block k hk (by simp))⟩
/-- A struct that is stored into a box of its own. -/
theorem wpList_store_new {P : Program} {ops : Array Oper} {rest : List Oper} {op : Oper} {a : Act} {w : World} {Z : Array Value} {t : TypeId} {Q : Exit → Act → World → Prop} (hgd : op.guard = none) (ty : TypeId) (x y : Operand) (ho : op.op = .store ty x y)
    (cs : List Value) (hx : a.eval x = .pointer (some ⟨w.heap.size, 0, none⟩)) (hy : a.eval y = .agg cs.toArray)
    (hz : cs.length ≤ Z.size) (hi : (P.info? ty).map (·.size) = some cs.length) (h1 : ∀ v ∈ cs, v.oneCell' = true)
    (h : ∀ W, w.grownBy W none → W.rangeAt w.heap.size 0 cs → w.heap.size < W.heap.size → wpList P ops Q rest (a.put op.dst undef) W) : wpList P ops Q (op :: rest) a (w.alloc (.cells Z t)) := by
  have ht : (w.alloc (.cells Z t)).there w.heap.size 0 cs.length := there_new hz
  refine wpList_store_mid hgd ty x y ho w.heap.size 0 cs.toArray hx hy (by simpa using ht) (by simpa using hi) (all_oneCell_toArray h1) ?_
  have g := grown_setCells w.heap.size cs.toArray.toList 0 (w.alloc (.cells Z t))
  exact h _ (grown_new g) (World.rangeAt_setCells_same _ _ _ _ ht) (Nat.lt_of_lt_of_le (by simp) g.size)
theorem sl_nil (w : World) : (binOp BinOp.eql 54 (.slice none 0 0) (.slice none 0 0)).run Tryz.prog w = .ok (.bool true) w := by kernel_rfl
theorem sl_some (a : Addr) (n c : Nat) (w : World) : (binOp BinOp.eql 54 (.slice (some a) n c) (.slice none 0 0)).run Tryz.prog w = .ok (.bool false) w := by kernel_rfl
theorem ErrV.past {w w' : World} {x : Value} {c a : Int} {R : Nat} {k : IntKind} {m : Int} (h : ErrV w x c a) (hg : w.grownBy w' (some R)) (hR : w.cell? ⟨R, 0, none⟩ = some (.int k m)) : ErrV w' x c a := by
  rcases h with h | ⟨⟨g, h1, h2, h3, h4⟩, hc⟩
  · exact .inl h
  · have hne : some g ≠ some R := fun e => by cases e; rw [hR] at h2; cases h2
    exact .inr ⟨⟨g, h1, hg.cell h2 hne, hg.cell h3 hne, hg.cell h4 hne⟩, hc⟩
theorem fin_rec {w w5 W : World} {bv dv : Value} {rs : List Rq} {D : List Nat} {base : Nat} (hb : Below w.heap.size w w5) (ho : OwnRs base w5 bv rs) (hf : FreeRs base w5 rs) (hd : Owns base w5 dv D) (hbs : w.heap.size < base) (hg : w5.grownBy W (some w.heap.size)) :
    Below w.heap.size w W ∧ OwnRs w.heap.size W bv rs ∧ FreeRs w.heap.size W rs ∧ Owns w.heap.size W dv D := by
  obtain ⟨a, b⟩ := ho.past hf hg hbs
  refine ⟨hb.grown hg hb.size (fun k e => by cases e; exact Nat.le_refl _), a.lower (by omega), b.lower (by omega), (hd.kept hg (.inr (fun e => by have := (hd.1.lt _ e).1; omega))).lower (by omega)⟩
theorem rec_short {B : List Nat} (h : ¬ (rs1 B).sound) : recC B = (rs1 B).errC ∧ recA B = (rs1 B).errA := by unfold recC recA; rw [if_neg h, if_neg h]; exact ⟨rfl, rfl⟩
theorem rec_kind {B : List Nat} (h : (rs1 B).sound) (hf : fsOf (rk B) = []) : recC B = 25 ∧ recA B = 0 := by unfold recC recA; rw [if_pos h, if_pos h, if_pos hf, if_pos hf]; exact ⟨rfl, rfl⟩
theorem rec_read {B : List Nat} (h : (rs1 B).sound) (hf : fsOf (rk B) ≠ []) : recC B = (recS B).1.endC ∧ recA B = (recS B).1.endA := by unfold recC recA; rw [if_pos h, if_pos h, if_neg hf, if_neg hf]; exact ⟨rfl, rfl⟩
theorem errC_not {s : RS} (h : ¬ s.sound) : s.errC ≠ 0 := fun hz => h (by
  unfold RS.errC at hz
  by_cases hm : s.made = true
  · rw [if_pos hm] at hz; exact ⟨hm, hz⟩
  · rw [if_neg hm] at hz; cases hz)
theorem errC_ok {s : RS} (h : s.sound) : s.errC = 0 := by unfold RS.errC; rw [if_pos h.1]; exact h.2
theorem rv_refused {B : List Nat} (h : recC B ≠ 0) : recV B = rv0 ∧ recK B = 0 := by unfold recV recK; rw [if_neg h, if_neg h]; exact ⟨rfl, rfl⟩
theorem rv_taken {B : List Nat} (h : recC B = 0) : recV B = (recS B).2 ∧ recK B = rk B := by unfold recV recK; rw [if_pos h, if_pos h]; exact ⟨rfl, rfl⟩

/-- Behind the first byte. -/
theorem kind_read {lim p : Nat} {B : List Nat} {W : World} (h : Fr lim (p + 1) p ⟨true, 0, 0, B, 0, ⟨78, mc0.R⟩⟩ mc0 W) :
    Calls Tryz.prog 136 #[.pointer (some ⟨p, 0, none⟩)] W fun e w3 => e = .returned (.int .u8 ((rk B : Nat) : Int)) ∧ rk B < 256 ∧ Hid (∃ s1, Fr lim (p + 1) p s1 mc0 w3 ∧ s1.un = rs1 B ∧ W.grownBy w3 (some p) ∧ (s1.sound → s1.place = 0)) := by
  have hlt : rk B < 256 := hi_take_lt (k := 1) (rest_lt h.rd).1
  refine (rU8_any lim p _ W h.rd).mono ?_
  rintro e w3 ⟨rfl, h1, h2⟩
  obtain ⟨a1, a2, a3⟩ := h.past h2
  refine ⟨rfl, hlt, _, ⟨h1, by rw [step_K], a1, a2, a3, h.hp, Nat.le_trans h.hb h2.size, h.ap⟩, un_step _ _ _, h2, RS.step_place (fun _ => rfl) _ _⟩

end Go.Proofs.YtldhafpeigdloaaGreatDoor
namespace Go.Proofs.YtldhafpeigdloaaGreatDoor
open Go.RowKit Crc

/-- A ballot that may not be. -/
def balBad (num : Nat) (node : Int) : Prop := 1099511627776 < num ∨ node < 0 ∨ 6 < node
instance (num : Nat) (node : Int) : Decidable (balBad num node) := by unfold balBad; infer_instance

set_option maxRecDepth 10000 in
theorem ballotFault_yes (num : Nat) (node : Int) (w : World) (h : balBad num node) :
    Calls Tryz.prog 75 #[.agg #[.int .u64 (num : Int), .int .i64 node]] w fun e w' => e = .returned (.int .i64 29) ∧ Hid (Below w.heap.size w w') := by
  have HB := hide (below_alloc1 w (.cells #[.int .u64 (num : Int), .int .i64 node] 25))
  by_cases h1 : 1099511627776 < num
  · have d1 : decide ((num : Int) > 1099511627776) = true := by simp; omega
    clear h
    go_enter Tryz.func75, Tryz.ntmps75
    go_wp2
    go_ret
    exact ⟨rfl, HB.out⟩
  · have d1 : decide ((num : Int) > 1099511627776) = false := by simp; omega
    by_cases h2 : node < 0
    · have d2 : decide (node < 0) = true := by simp; omega
      clear h h1
      go_enter Tryz.func75, Tryz.ntmps75
      go_wp2
      go_ret
      exact ⟨rfl, HB.out⟩
    · have d2 : decide (node < 0) = false := by simp; omega
      have h3 : 6 < node := by rcases h with h | h | h <;> omega
      have d3 : decide (node > 6) = true := by simp; omega
      clear h h1
      go_enter Tryz.func75, Tryz.ntmps75
      go_wp2
      go_ret
      exact ⟨rfl, HB.out⟩
set_option maxRecDepth 10000 in
theorem ballotFault_no (num : Nat) (node : Int) (w : World) (h : ¬ balBad num node) :
    Calls Tryz.prog 75 #[.agg #[.int .u64 (num : Int), .int .i64 node]] w fun e w' => e = .returned (.int .i64 0) ∧ Hid (Below w.heap.size w w') := by
  have HB := hide (below_alloc1 w (.cells #[.int .u64 (num : Int), .int .i64 node] 25))
  have h1 : ¬ 1099511627776 < num := fun e => h (.inl e)
  have h2 : ¬ node < 0 := fun e => h (.inr (.inl e))
  have h3 : ¬ 6 < node := fun e => h (.inr (.inr e))
  have d1 : decide ((num : Int) > 1099511627776) = false := by simp; omega
  have d2 : decide (node < 0) = false := by simp; omega
  have d3 : decide (node > 6) = false := by simp; omega
  clear h h1 h2 h3
  go_enter Tryz.func75, Tryz.ntmps75
  go_wp2
  go_ret
  exact ⟨rfl, HB.out⟩

end Go.Proofs.YtldhafpeigdloaaGreatDoor
namespace Go.Proofs.YtldhafpeigdloaaGreatDoor
open Go.RowKit Crc

/-- A message that a record becomes. -/
def msgR (num : Nat) (node : Int) (slot st : Nat) (bv dv : Value) : List Value := .int .i64 0 :: .int .u64 (num : Int) :: .int .i64 node :: .int .u64 (slot : Int) :: .int .u64 0 :: .slice none 0 0 :: .int .u64 (st : Int) :: bv :: .int .u64 0 :: .int .u64 0 :: .int .i64 0 :: .slice none 0 0 :: dv :: Mc.tail
theorem msgR_len (num : Nat) (node : Int) (slot st : Nat) (bv dv : Value) : (msgR num node slot st bv dv).length = 49 := by simp [msgR, Mc.tail]
theorem set_mid (A B C : List Value) (i f : Nat) (b : Value) (hi : i = A.length + f) (hf : f < B.length) : (A ++ (B ++ C)).set i b = A ++ (B.set f b ++ C) := by
  subst hi
  rw [List.set_append, if_neg (by omega), Nat.add_sub_cancel_left, List.set_append, if_pos hf]
theorem set_end (A B C : List Value) (i f : Nat) (b : Value) (hi : i = A.length + B.length + f) : (A ++ (B ++ C)).set i b = A ++ (B ++ C.set f b) := by
  subst hi
  rw [List.set_append, if_neg (by omega), List.set_append, if_neg (by omega)]
  rw [show A.length + B.length + f - A.length - B.length = f by omega]
/-- A check as it lies. -/
structure Ck (cb : Nat) (R : List Value) (U : List Bool) (Y : List Int) (W : World) : Prop where
  box : W.heap[cb]? = some (.cells (R ++ (U.map Value.bool ++ Y.map (Value.int .i64))).toArray 53 (0, 0))
  rl : R.length = 49
  ul : U.length = 16
  yl : Y.length = 16
theorem Ck.lt {cb : Nat} {R : List Value} {U : List Bool} {Y : List Int} {W : World} (h : Ck cb R U Y W) : cb < W.heap.size := block_lt h.box
theorem Ck.quiet {cb : Nat} {R : List Value} {U : List Bool} {Y : List Int} {W W' : World} (h : Ck cb R U Y W) (hg : W.grownBy W' none) : Ck cb R U Y W' := ⟨(hg.block _ (block_lt h.box) (by simp)).trans h.box, h.rl, h.ul, h.yl⟩
theorem Ck.cellR {cb : Nat} {R : List Value} {U : List Bool} {Y : List Int} {W : World} (h : Ck cb R U Y W) (j : Nat) {v : Value} (hj : R[j]? = some v) : W.cell? ⟨cb, j, none⟩ = some v := by
  rw [block_cell h.box j, List.getElem?_toArray, List.getElem?_append_left (List.getElem?_eq_some_iff.1 hj).1]
  exact hj
theorem Ck.cellU {cb : Nat} {R : List Value} {U : List Bool} {Y : List Int} {W : World} (h : Ck cb R U Y W) (f : Nat) (hf : f < 16) : W.cell? ⟨cb, 49 + f, none⟩ = some (.bool (U.getD f false)) := by
  have h1 := h.rl
  have h2 := h.ul
  rw [block_cell h.box (49 + f), List.getElem?_toArray, List.getElem?_append_right (by omega), List.getElem?_append_left (by simp; omega), h1, Nat.add_sub_cancel_left, List.getElem?_map, List.getElem?_eq_getElem (by omega)]
  simp [List.getD, List.getElem?_eq_getElem (show f < U.length by omega)]
theorem Ck.cellY {cb : Nat} {R : List Value} {U : List Bool} {Y : List Int} {W : World} (h : Ck cb R U Y W) (f : Nat) (hf : f < 16) : W.cell? ⟨cb, 65 + f, none⟩ = some (.int .i64 (Y.getD f 0)) := by
  have h1 := h.rl
  have h2 := h.ul
  have h3 := h.yl
  rw [block_cell h.box (65 + f), List.getElem?_toArray, List.getElem?_append_right (by omega), List.getElem?_append_right (by simp; omega), h1]
  have e : 65 + f - 49 - (U.map Value.bool).length = f := by simp; omega
  rw [e, List.getElem?_map, List.getElem?_eq_getElem (by omega)]
  simp [List.getD, List.getElem?_eq_getElem (show f < Y.length by omega)]
theorem Ck.free {cb : Nat} {R : List Value} {U : List Bool} {Y : List Int} {W : World} (h : Ck cb R U Y W) (j : Nat) : W.frozen? ⟨cb, j, none⟩ = false := block_free h.box j
theorem Ck.note {cb : Nat} {R : List Value} {U : List Bool} {Y : List Int} {W : World} (h : Ck cb R U Y W) (f : Nat) (hf : f < 16) (y : Int) : Ck cb R (U.set f true) (Y.set f y) ((W.setCell ⟨cb, 49 + f, none⟩ (.bool true)).setCell ⟨cb, 65 + f, none⟩ (.int .i64 y)) ∧ W.grownBy ((W.setCell ⟨cb, 49 + f, none⟩ (.bool true)).setCell ⟨cb, 65 + f, none⟩ (.int .i64 y)) (some cb) := by
  have h1 := h.rl
  have h2 := h.ul
  have h3 := h.yl
  have b1 := heap_setCell_same _ cb (49 + f) _ _ (.bool true) h.box
  have b2 := heap_setCell_same _ cb (65 + f) _ _ (.int .i64 y) b1
  refine ⟨⟨?_, h1, by simpa using h2, by simpa using h3⟩, grown_trans (row := some cb) (grown_set _ _ _ _) (grown_set _ _ _ _)⟩
  rw [b2]
  simp only [List.setIfInBounds_toArray]
  rw [set_mid R _ _ (49 + f) f _ (by omega) (by simp; omega), set_end R _ _ (65 + f) f _ (by simp; omega), List.map_set, List.map_set]

set_option maxRecDepth 10000 in
theorem note_1 {cb : Nat} {R : List Value} {U : List Bool} {Y : List Int} {w : World} (h : Ck cb R U Y w) (y : Int) :
    Calls Tryz.prog 74 #[.pointer (some ⟨cb, 0, none⟩), .int .i64 1, .int .i64 y] w fun e w' => e = .returned (.tuple #[]) ∧ Hid (Ck cb R (U.set 1 true) (Y.set 1 y) w' ∧ w.grownBy w' (some cb)) := by
  have u1 := h.cellU 1 (by decide)
  have u2 := h.cellY 1 (by decide)
  have f1 := h.free 50
  have f2 := h.free 66
  have FIN := hide (h.note 1 (by decide) y)
  have hl := h.lt
  simp only [Nat.reduceAdd] at u1 u2
  clear h
  go_enter Tryz.func74, Tryz.ntmps74
  go_wp2
  go_end0
  exact ⟨rfl, FIN.out⟩

set_option maxRecDepth 10000 in
theorem note_2 {cb : Nat} {R : List Value} {U : List Bool} {Y : List Int} {w : World} (h : Ck cb R U Y w) (y : Int) :
    Calls Tryz.prog 74 #[.pointer (some ⟨cb, 0, none⟩), .int .i64 2, .int .i64 y] w fun e w' => e = .returned (.tuple #[]) ∧ Hid (Ck cb R (U.set 2 true) (Y.set 2 y) w' ∧ w.grownBy w' (some cb)) := by
  have u1 := h.cellU 2 (by decide)
  have u2 := h.cellY 2 (by decide)
  have f1 := h.free 51
  have f2 := h.free 67
  have FIN := hide (h.note 2 (by decide) y)
  have hl := h.lt
  simp only [Nat.reduceAdd] at u1 u2
  clear h
  go_enter Tryz.func74, Tryz.ntmps74
  go_wp2
  go_end0
  exact ⟨rfl, FIN.out⟩

set_option maxRecDepth 10000 in
theorem note_5 {cb : Nat} {R : List Value} {U : List Bool} {Y : List Int} {w : World} (h : Ck cb R U Y w) (y : Int) :
    Calls Tryz.prog 74 #[.pointer (some ⟨cb, 0, none⟩), .int .i64 5, .int .i64 y] w fun e w' => e = .returned (.tuple #[]) ∧ Hid (Ck cb R (U.set 5 true) (Y.set 5 y) w' ∧ w.grownBy w' (some cb)) := by
  have u1 := h.cellU 5 (by decide)
  have u2 := h.cellY 5 (by decide)
  have f1 := h.free 54
  have f2 := h.free 70
  have FIN := hide (h.note 5 (by decide) y)
  have hl := h.lt
  simp only [Nat.reduceAdd] at u1 u2
  clear h
  go_enter Tryz.func74, Tryz.ntmps74
  go_wp2
  go_end0
  exact ⟨rfl, FIN.out⟩

set_option maxRecDepth 10000 in
theorem note_10 {cb : Nat} {R : List Value} {U : List Bool} {Y : List Int} {w : World} (h : Ck cb R U Y w) (y : Int) :
    Calls Tryz.prog 74 #[.pointer (some ⟨cb, 0, none⟩), .int .i64 10, .int .i64 y] w fun e w' => e = .returned (.tuple #[]) ∧ Hid (Ck cb R (U.set 10 true) (Y.set 10 y) w' ∧ w.grownBy w' (some cb)) := by
  have u1 := h.cellU 10 (by decide)
  have u2 := h.cellY 10 (by decide)
  have f1 := h.free 59
  have f2 := h.free 75
  have FIN := hide (h.note 10 (by decide) y)
  have hl := h.lt
  simp only [Nat.reduceAdd] at u1 u2
  clear h
  go_enter Tryz.func74, Tryz.ntmps74
  go_wp2
  go_end0
  exact ⟨rfl, FIN.out⟩
end Go.Proofs.YtldhafpeigdloaaGreatDoor
namespace Go.Proofs.YtldhafpeigdloaaGreatDoor
open Go.RowKit Crc

def Fd.ix : Fd → Nat
  | .ballot => 1
  | .slot => 2
  | .batch => 5
  | .snap => 10
/-- Why a field may not be. -/
def balY (num : Nat) (node : Int) : Int := if balBad num node then 29 else 0
def Fd.yv (f : Fd) (num : Nat) (node : Int) (slot st : Nat) (rs : List Rq) (m : Nat) : Int := match f with
  | .ballot => balY num node
  | .slot => bndY slot 0 1099511627776
  | .batch => (bFault st rs).2
  | .snap => cntY m 40000
theorem balF_any (num : Nat) (node : Int) (w : World) : Calls Tryz.prog 75 #[.agg #[.int .u64 (num : Int), .int .i64 node]] w fun e w' => e = .returned (.int .i64 (balY num node)) ∧ Hid (Below w.heap.size w w') := by
  unfold balY
  by_cases h : balBad num node
  · rw [if_pos h]; exact ballotFault_yes num node w h
  · rw [if_neg h]; exact ballotFault_no num node w h

theorem grown_wide {a b : World} (h : a.grownBy b none) (row : Option Nat) : a.grownBy b row := ⟨h.os, h.tape, h.output, h.size, fun k hk _ => h.block k hk (by simp)⟩
section
variable {cb : Nat} {num : Nat} {node : Int} {slot st : Nat} {ro : Option Addr} {n rc : Nat} {do_ : Option Addr} {m dc : Nat} {U : List Bool} {Y : List Int} {w : World}
set_option maxRecDepth 10000 in
theorem ck_ballot (h : Ck cb (msgR num node slot st (.slice ro n rc) (.slice do_ m dc)) U Y w) :
    Calls Tryz.prog 58 #[.pointer (some ⟨cb, 0, none⟩)] w fun e w' => e = .returned (.tuple #[]) ∧ Hid (Ck cb (msgR num node slot st (.slice ro n rc) (.slice do_ m dc)) (U.set 1 true) (Y.set 1 (balY num node)) w' ∧ w.grownBy w' (some cb)) := by
  have c1 := h.cellR 1 rfl
  have c2 := h.cellR 2 rfl
  have H := hide h
  clear h
  go_enter Tryz.func58, Tryz.ntmps58
  go_wp2_with fail
  refine (balF_any num node w).mono ?_
  rintro e w1 ⟨rfl, b1⟩
  clear c1 c2
  go_wp2_with fail
  refine (note_1 (H.out.quiet (below_none b1.out)) (balY num node)).mono ?_
  rintro e w2 ⟨rfl, G2⟩
  go_wp2
  go_end0
  exact ⟨rfl, G2.out.1, grown_trans (row := some cb) (grown_wide (below_none b1.out) _) G2.out.2⟩
set_option maxRecDepth 10000 in
theorem ck_slot (h : Ck cb (msgR num node slot st (.slice ro n rc) (.slice do_ m dc)) U Y w) :
    Calls Tryz.prog 69 #[.pointer (some ⟨cb, 0, none⟩)] w fun e w' => e = .returned (.tuple #[]) ∧ Hid (Ck cb (msgR num node slot st (.slice ro n rc) (.slice do_ m dc)) (U.set 2 true) (Y.set 2 (bndY slot 0 1099511627776)) w' ∧ w.grownBy w' (some cb)) := by
  have c1 := h.cellR 3 rfl
  have H := hide h
  clear h
  go_enter Tryz.func69, Tryz.ntmps69
  go_wp2_with fail
  refine (boundFault_any slot 0 1099511627776 w).mono ?_
  rintro e w1 ⟨rfl, rfl⟩
  clear c1
  go_wp2_with fail
  refine (note_2 H.out (bndY slot 0 1099511627776)).mono ?_
  rintro e w2 ⟨rfl, G2⟩
  go_wp2
  go_end0
  exact ⟨rfl, G2⟩
set_option maxRecDepth 10000 in
theorem ck_batch {lim : Nat} {rs : List Rq} {b off : Nat} (h : Ck cb (msgR num node slot st (.slice ro n rc) (.slice do_ m dc)) U Y w) (hR : Rqs lim w ro rs b off) (hl : lim ≤ w.heap.size) (hn : rs.length = n) :
    Calls Tryz.prog 59 #[.pointer (some ⟨cb, 0, none⟩)] w fun e w' => e = .returned (.tuple #[]) ∧ Hid (Ck cb (msgR num node slot st (.slice ro n rc) (.slice do_ m dc)) (U.set 5 true) (Y.set 5 (bFault st rs).2) w' ∧ w.grownBy w' (some cb)) := by
  have c1 := h.cellR 6 rfl
  have c2 := h.cellR 7 rfl
  have H := hide h
  have HB : Hid (Calls Tryz.prog 76 #[.agg #[.int .u64 (st : Int), .slice ro n rc]] w fun e w' => e = .returned (.tuple #[.int .i64 ((bFault st rs).1 : Int), .int .i64 (bFault st rs).2]) ∧ Hid (Below w.heap.size w w')) := by
    have h1 := batchFault_any st rc (hR.wide hl)
    rw [hn] at h1
    exact h1.mono (fun _ _ h => ⟨h.1, h.2⟩)
  clear h hR
  generalize ((bFault st rs).1 : Int) = ba at *
  generalize (bFault st rs).2 = bc at *
  go_enter Tryz.func59, Tryz.ntmps59
  go_wp2_with fail
  refine HB.out.mono ?_
  rintro e w1 ⟨rfl, b1⟩
  clear c1 c2
  go_wp2_with fail
  refine (note_5 (H.out.quiet (below_none b1.out)) bc).mono ?_
  rintro e w2 ⟨rfl, G2⟩
  go_wp2
  go_end0
  exact ⟨rfl, G2.out.1, grown_trans (row := some cb) (grown_wide (below_none b1.out) _) G2.out.2⟩
end
end Go.Proofs.YtldhafpeigdloaaGreatDoor
namespace Go.Proofs.YtldhafpeigdloaaGreatDoor
open Go.RowKit Crc

/-- The first field that may not be. -/
def fbGo (U : List Bool) (Y : List Int) (Z : List Bool) : Nat → Nat → Int × Int
  | 0, _ => (0, 0)
  | n + 1, i => if U.getD i false = true ∧ Y.getD i 0 ≠ 0 then ((i : Int), Y.getD i 0) else if U.getD i false = false ∧ Z.getD i false = false then ((i : Int), 29) else fbGo U Y Z n (i + 1)
def ckAll (num : Nat) (node : Int) (slot st : Nat) (rs : List Rq) (m : Nat) : List Fd → List Bool × List Int → List Bool × List Int
  | [], x => x
  | f :: t, x => ckAll num node slot st rs m t (x.1.set f.ix true, x.2.set f.ix (f.yv num node slot st rs m))
theorem ckAll_snoc (num : Nat) (node : Int) (slot st : Nat) (rs : List Rq) (m : Nat) : ∀ (fs : List Fd) (f : Fd) (x : List Bool × List Int), ckAll num node slot st rs m (fs ++ [f]) x = ((ckAll num node slot st rs m fs x).1.set f.ix true, (ckAll num node slot st rs m fs x).2.set f.ix (f.yv num node slot st rs m))
  | [], f, x => rfl
  | g :: t, f, x => by rw [List.cons_append, ckAll, ckAll_snoc _ _ _ _ _ _ t f]; rfl
def U0 : List Bool := List.replicate 16 false
def Y0 : List Int := List.replicate 16 0
/-- While the fields are looked over. -/
structure Cl (fs : List Fd) (cb : Nat) (num : Nat) (node : Int) (slot st : Nat) (rs : List Rq) (ro : Option Addr) (n rc : Nat) (do_ : Option Addr) (m dc : Nat) (w : World) (k : Nat) (wr : World) : Prop where
  ck : Ck cb (msgR num node slot st (.slice ro n rc) (.slice do_ m dc)) (ckAll num node slot st rs m (fs.take k) (U0, Y0)).1 (ckAll num node slot st rs m (fs.take k) (U0, Y0)).2 wr
  gr : w.grownBy wr (some cb)
theorem Cl.next {fs : List Fd} {cb : Nat} {num : Nat} {node : Int} {slot st : Nat} {rs : List Rq} {ro : Option Addr} {n rc : Nat} {do_ : Option Addr} {m dc : Nat} {w : World} {k : Nat} {wr w1 : World} {f : Fd} (h : Cl fs cb num node slot st rs ro n rc do_ m dc w k wr) (hf : fs[k]? = some f) (h1 : Ck cb (msgR num node slot st (.slice ro n rc) (.slice do_ m dc)) ((ckAll num node slot st rs m (fs.take k) (U0, Y0)).1.set f.ix true) ((ckAll num node slot st rs m (fs.take k) (U0, Y0)).2.set f.ix (f.yv num node slot st rs m)) w1) (h2 : wr.grownBy w1 (some cb)) : Cl fs cb num node slot st rs ro n rc do_ m dc w (k + 1) w1 := by
  refine ⟨?_, grown_trans (row := some cb) h.gr h2⟩
  rw [List.take_add_one, hf]
  show Ck cb _ (ckAll num node slot st rs m (fs.take k ++ [f]) (U0, Y0)).1 (ckAll num node slot st rs m (fs.take k ++ [f]) (U0, Y0)).2 w1
  rw [ckAll_snoc]
  exact h1
end Go.Proofs.YtldhafpeigdloaaGreatDoor
namespace Go.Proofs.YtldhafpeigdloaaGreatDoor
open Go.RowKit Crc

/-- A vote as it lies. -/
structure Vi where
  (slot num : Nat) (node : Int) (st : Nat) (ro : Option Addr) (n rc : Nat) (rs : List Rq) (b off : Nat)
def Vi.cells (t : Vi) : List Value := [.int .u64 (t.slot : Int), .int .u64 (t.num : Int), .int .i64 t.node, .int .u64 (t.st : Int), .slice t.ro t.n t.rc]
structure Vi.Ok (lim : Nat) (w : World) (t : Vi) : Prop where
  hslot : t.slot < 18446744073709551616
  hnum : t.num < 18446744073709551616
  hst : t.st < 18446744073709551616
  hR : Rqs lim w t.ro t.rs t.b t.off
  hn : t.rs.length = t.n
theorem Vi.Ok.below {lim : Nat} {w w' : World} {t : Vi} (h : t.Ok lim w) (hb : Below lim w w') : t.Ok lim w' := ⟨h.hslot, h.hnum, h.hst, h.hR.below hb, h.hn⟩
theorem Vi.Ok.wide {lim lim' : Nat} {w : World} {t : Vi} (h : t.Ok lim w) (hl : lim ≤ lim') : t.Ok lim' w := ⟨h.hslot, h.hnum, h.hst, h.hR.wide hl, h.hn⟩
/-- Votes as they lie, one behind the other. -/
structure Vos (lim : Nat) (w : World) (vo : Option Addr) (ts : List Vi) (b off : Nat) : Prop where
  ad : 0 < ts.length → vo = some ⟨b, off, none⟩
  lt : 0 < ts.length → b < lim
  le : ts.length ≤ 3518437208883
  at_ : ∀ (i : Nat) (t : Vi), ts[i]? = some t → ∀ j v, t.cells[j]? = some v → w.cell? ⟨b, off + i * 5 + j, none⟩ = some v
  ok : ∀ t ∈ ts, t.Ok lim w
theorem Vos.below {lim : Nat} {w w' : World} {vo : Option Addr} {ts : List Vi} {b off : Nat} (h : Vos lim w vo ts b off) (hb : Below lim w w') : Vos lim w' vo ts b off :=
  ⟨h.ad, h.lt, h.le, fun i t ht j v hv => (hb.cell (p := ⟨b, _, none⟩) (h.lt (by have := (List.getElem?_eq_some_iff.1 ht).1; omega))).trans (h.at_ i t ht j v hv), fun t ht => (h.ok t ht).below hb⟩
theorem Vos.wide {lim lim' : Nat} {w : World} {vo : Option Addr} {ts : List Vi} {b off : Nat} (h : Vos lim w vo ts b off) (hl : lim ≤ lim') : Vos lim' w vo ts b off :=
  ⟨h.ad, fun e => Nat.lt_of_lt_of_le (h.lt e) hl, h.le, h.at_, fun t ht => (h.ok t ht).wide hl⟩
/-- The vote at a place. -/
theorem Vos.get {lim : Nat} {w : World} {vo : Option Addr} {ts : List Vi} {b off : Nat} (h : Vos lim w vo ts b off) {k : Nat} (hk : k < ts.length) :
    ∃ t, ts[k]? = some t ∧ ts.drop k = t :: ts.drop (k + 1) ∧ t.Ok lim w ∧ b < lim ∧ vo = some ⟨b, off, none⟩ ∧ w.cell? ⟨b, off + k * 5, none⟩ = some (.int .u64 (t.slot : Int)) ∧ w.cell? ⟨b, off + k * 5 + 1, none⟩ = some (.int .u64 (t.num : Int)) ∧ w.cell? ⟨b, off + k * 5 + 2, none⟩ = some (.int .i64 t.node) ∧ w.cell? ⟨b, off + k * 5 + 3, none⟩ = some (.int .u64 (t.st : Int)) ∧ w.cell? ⟨b, off + k * 5 + 4, none⟩ = some (.slice t.ro t.n t.rc) := by
  have hg : ts[k]? = some ts[k] := List.getElem?_eq_getElem hk
  exact ⟨ts[k], hg, List.drop_eq_getElem_cons hk, h.ok _ (List.getElem_mem hk), h.lt (by omega), h.ad (by omega), h.at_ k _ hg 0 _ rfl, h.at_ k _ hg 1 _ rfl, h.at_ k _ hg 2 _ rfl, h.at_ k _ hg 3 _ rfl, h.at_ k _ hg 4 _ rfl⟩
/-- Hashes as they lie, one behind the other. -/
structure Hos (lim : Nat) (w : World) (po : Option Addr) (hs : List (List Nat)) (b off : Nat) : Prop where
  ad : 0 < hs.length → po = some ⟨b, off, none⟩
  lt : 0 < hs.length → b < lim
  le : hs.length ≤ 4398046511104
  len : ∀ h ∈ hs, h.length = 32 ∧ ∀ x ∈ h, x < 256
  at_ : ∀ (i : Nat) (h : List Nat), hs[i]? = some h → w.rangeAt b (off + i * 32) (vals h)
theorem Hos.below {lim : Nat} {w w' : World} {po : Option Addr} {hs : List (List Nat)} {b off : Nat} (h : Hos lim w po hs b off) (hb : Below lim w w') : Hos lim w' po hs b off :=
  ⟨h.ad, h.lt, h.le, h.len, fun i t ht j v hv => (hb.cell (p := ⟨b, _, none⟩) (h.lt (by have := (List.getElem?_eq_some_iff.1 ht).1; omega))).trans (h.at_ i t ht j v hv)⟩
theorem Hos.wide {lim lim' : Nat} {w : World} {po : Option Addr} {hs : List (List Nat)} {b off : Nat} (h : Hos lim w po hs b off) (hl : lim ≤ lim') : Hos lim' w po hs b off :=
  ⟨h.ad, fun e => Nat.lt_of_lt_of_le (h.lt e) hl, h.le, h.len, h.at_⟩
theorem Hos.get {lim : Nat} {w : World} {po : Option Addr} {hs : List (List Nat)} {b off : Nat} (h : Hos lim w po hs b off) {k : Nat} (hk : k < hs.length) :
    ∃ t, hs[k]? = some t ∧ hs.drop k = t :: hs.drop (k + 1) ∧ t.length = 32 ∧ (∀ x ∈ t, x < 256) ∧ b < lim ∧ po = some ⟨b, off, none⟩ ∧ w.rangeAt b (off + k * 32) (vals t) := by
  have hg : hs[k]? = some hs[k] := List.getElem?_eq_getElem hk
  have hl := h.len _ (List.getElem_mem hk)
  exact ⟨hs[k], hg, List.drop_eq_getElem_cons hk, hl.1, hl.2, h.lt (by omega), h.ad (by omega), h.at_ k _ hg⟩

/-- A message. -/
structure Mg where
  (kind : Int) (num : Nat) (node : Int) (slot low : Nat) (vo : Option Addr) (vn vc : Nat) (vs : List Vi) (vb voff st : Nat) (ro : Option Addr) (n rc : Nat) (rs : List Rq) (b off seq stamp : Nat) (code : Int) (co : Option Addr) (cn cc : Nat) (C : List Nat) (do_ : Option Addr) (dn dc : Nat) (D : List Nat) (sus : Bool) (idx cnt : Nat) (root : List Nat) (po : Option Addr) (pn pc : Nat) (hs : List (List Nat)) (pb poff : Nat)
def Mg.pre (m : Mg) : List Value := .int .i64 m.kind :: .int .u64 (m.num : Int) :: .int .i64 m.node :: .int .u64 (m.slot : Int) :: .int .u64 (m.low : Int) :: .slice m.vo m.vn m.vc :: .int .u64 (m.st : Int) :: .slice m.ro m.n m.rc :: .int .u64 (m.seq : Int) :: .int .u64 (m.stamp : Int) :: .int .i64 m.code :: .slice m.co m.cn m.cc :: .slice m.do_ m.dn m.dc :: .bool m.sus :: .int .u64 (m.idx : Int) :: .int .u64 (m.cnt : Int) :: []
def Mg.R (m : Mg) : List Value := m.pre ++ (vals m.root ++ [.slice m.po m.pn m.pc])
structure Mg.Ok (lim : Nat) (w : World) (m : Mg) : Prop where
  hnum : m.num < 18446744073709551616
  hslot : m.slot < 18446744073709551616
  hlow : m.low < 18446744073709551616
  hst : m.st < 18446744073709551616
  hseq : m.seq < 18446744073709551616
  hstamp : m.stamp < 18446744073709551616
  hidx : m.idx < 18446744073709551616
  hcnt : m.cnt < 18446744073709551616
  hcode : -9223372036854775808 ≤ m.code ∧ m.code < 9223372036854775808
  hV : Vos lim w m.vo m.vs m.vb m.voff
  hvn : m.vs.length = m.vn
  hR : Rqs lim w m.ro m.rs m.b m.off
  hn : m.rs.length = m.n
  hC : Shows lim w m.co m.cn m.cc m.C
  hD : Shows lim w m.do_ m.dn m.dc m.D
  rl : m.root.length = 32
  rb : ∀ x ∈ m.root, x < 256
  hP : Hos lim w m.po m.hs m.pb m.poff
  hpn : m.hs.length = m.pn
theorem Mg.Ok.below {lim : Nat} {w w' : World} {m : Mg} (h : m.Ok lim w) (hb : Below lim w w') : m.Ok lim w' :=
  ⟨h.hnum, h.hslot, h.hlow, h.hst, h.hseq, h.hstamp, h.hidx, h.hcnt, h.hcode, h.hV.below hb, h.hvn, h.hR.below hb, h.hn, h.hC.belowL hb, h.hD.belowL hb, h.rl, h.rb, h.hP.below hb, h.hpn⟩
theorem Mg.Ok.wide {lim lim' : Nat} {w : World} {m : Mg} (h : m.Ok lim w) (hl : lim ≤ lim') : m.Ok lim' w :=
  ⟨h.hnum, h.hslot, h.hlow, h.hst, h.hseq, h.hstamp, h.hidx, h.hcnt, h.hcode, h.hV.wide hl, h.hvn, h.hR.wide hl, h.hn, h.hC.wide hl, h.hD.wide hl, h.rl, h.rb, h.hP.wide hl, h.hpn⟩
/-- The bytes of a message lie in old blocks, empty lists too (a list that came in may point anywhere where it is empty). -/
structure Mg.Co (lim : Nat) (m : Mg) : Prop where
  hvco : ∀ t ∈ m.vs, ∀ r ∈ t.rs, ∀ b off, r.co = some ⟨b, off, none⟩ → b < lim
  hrco : ∀ r ∈ m.rs, ∀ b off, r.co = some ⟨b, off, none⟩ → b < lim
  hco : ∀ b off, m.co = some ⟨b, off, none⟩ → b < lim
  hdo : ∀ b off, m.do_ = some ⟨b, off, none⟩ → b < lim
theorem Mg.Co.wide {lim lim' : Nat} {m : Mg} (h : m.Co lim) (hl : lim ≤ lim') : m.Co lim' :=
  ⟨fun t ht r hr b off e => Nat.lt_of_lt_of_le (h.hvco t ht r hr b off e) hl, fun r hr b off e => Nat.lt_of_lt_of_le (h.hrco r hr b off e) hl, fun b off e => Nat.lt_of_lt_of_le (h.hco b off e) hl, fun b off e => Nat.lt_of_lt_of_le (h.hdo b off e) hl⟩
theorem Mg.len {m : Mg} (h : m.root.length = 32) : m.R.length = 49 := by simp [Mg.R, Mg.pre, vals_len, h]
theorem Mg.at48 {m : Mg} (h : m.root.length = 32) : m.R[48]? = some (.slice m.po m.pn m.pc) := by
  have e : (m.pre ++ vals m.root).length = 48 := by simp [Mg.pre, vals_len, h]
  unfold Mg.R
  rw [← List.append_assoc, List.getElem?_append_right (by omega), e]
  rfl
theorem Mg.root_at {m : Mg} (j : Nat) (v : Value) (hv : (vals m.root)[j]? = some v) : m.R[16 + j]? = some v := by
  have hj := (List.getElem?_eq_some_iff.1 hv).1
  unfold Mg.R
  rw [List.getElem?_append_right (by simp [Mg.pre]), List.getElem?_append_left (by simp only [Mg.pre, List.length_cons, List.length_nil]; omega)]
  rw [show 16 + j - m.pre.length = j by simp [Mg.pre]]
  exact hv
theorem vals_one1 (B : List Nat) : ∀ v ∈ vals B, v.oneCell' = true := fun v hv => by
  obtain ⟨x, _, rfl⟩ := List.mem_map.1 hv
  rfl
theorem Mg.one (m : Mg) : ∀ v ∈ m.R, v.oneCell' = true := by
  intro v hv
  rcases List.mem_append.1 hv with hv | hv
  · exact List.all_eq_true.1 (show m.pre.all (fun v => v.oneCell') = true from rfl) v hv
  · rcases List.mem_append.1 hv with hv | hv
    · exact vals_one1 _ v hv
    · obtain rfl := List.mem_singleton.1 hv; rfl
end Go.Proofs.YtldhafpeigdloaaGreatDoor
