import Derived.Test.YtgaalaoflaklgaaGreatM30
import Derived.Test.YtgaalaoflaklgaaGreatM35
import Derived.Deep.MidRow
namespace Go.Proofs.YtgaalaoflaklgaaGreat
open Go.RowKit Crc

def frCells (ao : Option Addr) (n cap : Nat) : Array Value := (.bool true :: .int .i64 0 :: .int .i64 0 :: .slice ao n cap :: .int .i64 0 :: mc0.R).toArray
theorem fr_new {lim : Nat} {w : World} {ao : Option Addr} {cap : Nat} {B : List Nat} (h : Shows lim w ao B.length cap B) (hl : lim ≤ w.heap.size) :
    Fr lim (w.heap.size + 1) w.heap.size ⟨true, 0, 0, B, 0, ⟨103, mc0.R⟩⟩ mc0 (w.alloc (.cells (frCells ao B.length cap) 103)) := by
  have gA := World.grownBy_alloc w (.cells (frCells ao B.length cap) 103) none
  obtain ⟨n1, n2⟩ := OwnRs.nil (w.heap.size + 1) (w.alloc (.cells (frCells ao B.length cap) 103))
  exact ⟨⟨ao, cap, alloc_at _ _, h.kept gA (fun g e => by cases e), by simp, hl⟩, rfl, n1, n2, Owns.nil _ _, by omega, by simp, fun r hr => by cases hr⟩
theorem Calls.world {P : Program} {f : FuncId} {args : Array Value} {w w' : World} {Q : Ending → World → Prop} (e : w = w') (h : Calls P f args w' Q) : Calls P f args w Q := by rw [e]; exact h
/-- A record as it is told. -/
def recAgg (k : Nat) (c : Mc) : Value := .agg #[.int .i64 (k : Int), .int .u64 (c.num : Int), .int .i64 (c.node : Int), .int .u64 (c.slot : Int), .int .u64 (c.stamp : Int), c.bv, c.dv]

theorem set7 (w : World) (R : Nat) (a b c d e f g : Value) : w.grownBy (((((((w.setCell ⟨R, 0, none⟩ a).setCell ⟨R, 1, none⟩ b).setCell ⟨R, 2, none⟩ c).setCell ⟨R, 3, none⟩ d).setCell ⟨R, 4, none⟩ e).setCell ⟨R, 5, none⟩ f).setCell ⟨R, 6, none⟩ g) (some R) := by
  have h := grown_set w R 0 a
  have h := grown_trans (row := some R) h (grown_set _ R 1 b)
  have h := grown_trans (row := some R) h (grown_set _ R 2 c)
  have h := grown_trans (row := some R) h (grown_set _ R 3 d)
  have h := grown_trans (row := some R) h (grown_set _ R 4 e)
  have h := grown_trans (row := some R) h (grown_set _ R 5 f)
  exact grown_trans (row := some R) h (grown_set _ R 6 g)
theorem set7_block {w : World} {R : Nat} {x0 x1 x2 x3 x4 x5 x6 : Value} {t : TypeId} (h : w.heap[R]? = some (.cells #[x0, x1, x2, x3, x4, x5, x6] t (0, 0))) (a b c d e f g : Value) : (((((((w.setCell ⟨R, 0, none⟩ a).setCell ⟨R, 1, none⟩ b).setCell ⟨R, 2, none⟩ c).setCell ⟨R, 3, none⟩ d).setCell ⟨R, 4, none⟩ e).setCell ⟨R, 5, none⟩ f).setCell ⟨R, 6, none⟩ g).heap[R]? = some (.cells #[a, b, c, d, e, f, g] t (0, 0)) := by
  have h0 := heap_setCell_same _ R 0 _ _ a h
  simp only [List.setIfInBounds_toArray, List.set_cons_zero] at h0
  have h1 := heap_setCell_same _ R 1 _ _ b h0
  simp only [List.setIfInBounds_toArray, List.set_cons_zero, List.set_cons_succ] at h1
  have h2 := heap_setCell_same _ R 2 _ _ c h1
  simp only [List.setIfInBounds_toArray, List.set_cons_zero, List.set_cons_succ] at h2
  have h3 := heap_setCell_same _ R 3 _ _ d h2
  simp only [List.setIfInBounds_toArray, List.set_cons_zero, List.set_cons_succ] at h3
  have h4 := heap_setCell_same _ R 4 _ _ e h3
  simp only [List.setIfInBounds_toArray, List.set_cons_zero, List.set_cons_succ] at h4
  have h5 := heap_setCell_same _ R 5 _ _ f h4
  simp only [List.setIfInBounds_toArray, List.set_cons_zero, List.set_cons_succ] at h5
  have h6 := heap_setCell_same _ R 6 _ _ g h5
  simp only [List.setIfInBounds_toArray, List.set_cons_zero, List.set_cons_succ] at h6
  exact h6
theorem cells7 {w : World} {R : Nat} {a b c d e f g : Value} {t : TypeId} (h : w.heap[R]? = some (.cells #[a, b, c, d, e, f, g] t (0, 0))) :
    w.cell? ⟨R, 0, none⟩ = some a ∧ w.cell? ⟨R, 1, none⟩ = some b ∧ w.cell? ⟨R, 2, none⟩ = some c ∧ w.cell? ⟨R, 3, none⟩ = some d ∧ w.cell? ⟨R, 4, none⟩ = some e ∧ w.cell? ⟨R, 5, none⟩ = some f ∧ w.cell? ⟨R, 6, none⟩ = some g :=
  ⟨(block_cell h 0).trans rfl, (block_cell h 1).trans rfl, (block_cell h 2).trans rfl, (block_cell h 3).trans rfl, (block_cell h 4).trans rfl, (block_cell h 5).trans rfl, (block_cell h 6).trans rfl⟩
theorem set7_new {w W : World} {R : Nat} {x0 x1 x2 x3 x4 x5 x6 : Value} {t : TypeId} (h : w.heap[R]? = some (.cells #[x0, x1, x2, x3, x4, x5, x6] t (0, 0))) (a b c d e f g : Value) (hW : (((((((w.setCell ⟨R, 0, none⟩ a).setCell ⟨R, 1, none⟩ b).setCell ⟨R, 2, none⟩ c).setCell ⟨R, 3, none⟩ d).setCell ⟨R, 4, none⟩ e).setCell ⟨R, 5, none⟩ f).setCell ⟨R, 6, none⟩ g) = W) :
    w.grownBy W (some R) ∧ (W.cell? ⟨R, 0, none⟩ = some a ∧ W.cell? ⟨R, 1, none⟩ = some b ∧ W.cell? ⟨R, 2, none⟩ = some c ∧ W.cell? ⟨R, 3, none⟩ = some d ∧ W.cell? ⟨R, 4, none⟩ = some e ∧ W.cell? ⟨R, 5, none⟩ = some f ∧ W.cell? ⟨R, 6, none⟩ = some g) := by
  have hg := set7 w R a b c d e f g
  have hs := set7_block h a b c d e f g
  rw [hW] at hg hs
  exact ⟨hg, cells7 hs⟩
theorem grown_setCells (b : Nat) : ∀ (vs : List Value) (o : Nat) (w : World), w.grownBy (w.setCells b o vs) (some b)
  | [], _, w => ⟨rfl, rfl, rfl, Nat.le_refl _, fun _ _ _ => rfl⟩
  | v :: r, o, w => by
    rw [World.setCells]
    exact grown_trans (row := some b) (grown_set w b o v) (grown_setCells b r (o + 1) _)
theorem there_new {w : World} {Z : Array Value} {t : TypeId} {n : Nat} (h : n ≤ Z.size) : (w.alloc (.cells Z t)).there w.heap.size 0 n := fun j hj => by
  have hb := alloc_at w (.cells Z t)
  rw [Nat.zero_add, block_cell hb j]
  exact ⟨by rw [Array.getElem?_eq_getElem (by omega)]; rfl, block_free hb j⟩
theorem grown_new {w W : World} {o : Obj} (h : (w.alloc o).grownBy W (some w.heap.size)) : w.grownBy W none := by
  have g := World.grownBy_alloc w o none
  exact ⟨h.os.trans g.os, h.tape.trans g.tape, h.output.trans g.output, Nat.le_trans g.size h.size, fun k hk _ => (h.block k (by simp; omega) (by simp; omega)).trans (g.block k hk (by simp))⟩
/-- A struct that is stored into a box of its own. -/
theorem wpList_store_new {P : Program} {ops : Array Oper} {rest : List Oper} {op : Oper} {a : Act} {w : World} {Z : Array Value} {t : TypeId} {Q : Exit → Act → World → Prop} (hgd : op.guard = none) (ty : TypeId) (x y : Operand) (ho : op.op = .store ty x y)
    (cs : List Value) (hx : a.eval x = .pointer (some ⟨w.heap.size, 0, none⟩)) (hy : a.eval y = .agg cs.toArray)
    (hz : cs.length ≤ Z.size) (hi : (P.info? ty).map (·.size) = some cs.length) (h1 : ∀ v ∈ cs, v.oneCell' = true)
    (h : ∀ W, w.grownBy W none → W.rangeAt w.heap.size 0 cs → w.heap.size < W.heap.size → wpList P ops Q rest (a.put op.dst undef) W) : wpList P ops Q (op :: rest) a (w.alloc (.cells Z t)) := by
  have ht : (w.alloc (.cells Z t)).there w.heap.size 0 cs.length := there_new hz
  refine wpList_store_mid hgd ty x y ho w.heap.size 0 cs.toArray hx hy (by simpa using ht) (by simpa using hi) (all_oneCell_toArray h1) ?_
  have g := grown_setCells w.heap.size cs.toArray.toList 0 (w.alloc (.cells Z t))
  exact h _ (grown_new g) (World.rangeAt_setCells_same _ _ _ _ ht) (Nat.lt_of_lt_of_le (by simp) g.size)
theorem sl_nil (w : World) : (binOp BinOp.eql 88 (.slice none 0 0) (.slice none 0 0)).run Tryz.prog w = .ok (.bool true) w := by kernel_rfl
theorem sl_some (a : Addr) (n c : Nat) (w : World) : (binOp BinOp.eql 88 (.slice (some a) n c) (.slice none 0 0)).run Tryz.prog w = .ok (.bool false) w := by kernel_rfl
theorem ErrV.past {w w' : World} {x : Value} {c a : Int} {R : Nat} {k : IntKind} {m : Int} (h : ErrV w x c a) (hg : w.grownBy w' (some R)) (hR : w.cell? ⟨R, 0, none⟩ = some (.int k m)) : ErrV w' x c a := by
  rcases h with h | ⟨⟨g, h1, h2, h3, h4⟩, hc⟩
  · exact .inl h
  · have hne : some g ≠ some R := fun e => by cases e; rw [hR] at h2; cases h2
    exact .inr ⟨⟨g, h1, hg.cell h2 hne, hg.cell h3 hne, hg.cell h4 hne⟩, hc⟩
theorem fin_rec {w w5 W : World} {bv dv : Value} {rs : List Rq} {D : List Nat} {base : Nat} (hb : Below w.heap.size w w5) (ho : OwnRs base w5 bv rs) (hf : FreeRs base w5 rs) (hd : Owns base w5 dv D) (hbs : w.heap.size < base) (hg : w5.grownBy W (some w.heap.size)) :
    Below w.heap.size w W ∧ OwnRs w.heap.size W bv rs ∧ FreeRs w.heap.size W rs ∧ Owns w.heap.size W dv D := by
  obtain ⟨a, b⟩ := ho.past hf hg hbs
  refine ⟨hb.grown hg hb.size (fun k e => by cases e; exact Nat.le_refl _), a.lower (by omega), b.lower (by omega), (hd.kept hg (.inr (fun e => by have := (hd.1.lt _ e).1; omega))).lower (by omega)⟩
theorem rec_short {B : List Nat} (h : ¬ (rs1 B).sound) : recC B = (rs1 B).errC ∧ recA B = (rs1 B).errA := by unfold recC recA; rw [if_neg h, if_neg h]; exact ⟨rfl, rfl⟩
theorem rec_kind {B : List Nat} (h : (rs1 B).sound) (hf : fsOf (rk B) = []) : recC B = 25 ∧ recA B = 0 := by unfold recC recA; rw [if_pos h, if_pos h, if_pos hf, if_pos hf]; exact ⟨rfl, rfl⟩
theorem rec_read {B : List Nat} (h : (rs1 B).sound) (hf : fsOf (rk B) ≠ []) : recC B = (recS B).1.endC ∧ recA B = (recS B).1.endA := by unfold recC recA; rw [if_pos h, if_pos h, if_neg hf, if_neg hf]; exact ⟨rfl, rfl⟩
theorem errC_not {s : RS} (h : ¬ s.sound) : s.errC ≠ 0 := fun hz => h (by
  unfold RS.errC at hz
  by_cases hm : s.made = true
  · rw [if_pos hm] at hz; exact ⟨hm, hz⟩
  · rw [if_neg hm] at hz; cases hz)
theorem errC_ok {s : RS} (h : s.sound) : s.errC = 0 := by unfold RS.errC; rw [if_pos h.1]; exact h.2
theorem rv_refused {B : List Nat} (h : recC B ≠ 0) : recV B = rv0 ∧ recK B = 0 := by unfold recV recK; rw [if_neg h, if_neg h]; exact ⟨rfl, rfl⟩
theorem rv_taken {B : List Nat} (h : recC B = 0) : recV B = (recS B).2 ∧ recK B = rk B := by unfold recV recK; rw [if_pos h, if_pos h]; exact ⟨rfl, rfl⟩

theorem fin_no {w w6 : World} {B : List Nat} {x : Value} (hb : Below w.heap.size w w6) (hR : w6.heap[w.heap.size]? = some (.cells #[.int .i64 0, .int .u64 0, .int .i64 0, .int .u64 0, .int .u64 0, .slice none 0 0, .slice none 0 0] 31 (0, 0))) (hE : ErrV w6 x (recC B) (recA B)) (hC : recC B ≠ 0) :
    ∃ (c : Mc) (x' : Value), Ending.returned (.tuple #[.agg #[.int .i64 0, .int .u64 0, .int .i64 0, .int .u64 0, .int .u64 0, .slice none 0 0, .slice none 0 0], x]) = .returned (.tuple #[recAgg (recK B) c, x']) ∧ Hid (ErrV (((((((w6.setCell ⟨w.heap.size, 0, none⟩ (.int .i64 0)).setCell ⟨w.heap.size, 1, none⟩ (.int .u64 0)).setCell ⟨w.heap.size, 2, none⟩ (.int .i64 0)).setCell ⟨w.heap.size, 3, none⟩ (.int .u64 0)).setCell ⟨w.heap.size, 4, none⟩ (.int .u64 0)).setCell ⟨w.heap.size, 5, none⟩ (.slice none 0 0)).setCell ⟨w.heap.size, 6, none⟩ (.slice none 0 0)) x' (recC B) (recA B) ∧ Below w.heap.size w (((((((w6.setCell ⟨w.heap.size, 0, none⟩ (.int .i64 0)).setCell ⟨w.heap.size, 1, none⟩ (.int .u64 0)).setCell ⟨w.heap.size, 2, none⟩ (.int .i64 0)).setCell ⟨w.heap.size, 3, none⟩ (.int .u64 0)).setCell ⟨w.heap.size, 4, none⟩ (.int .u64 0)).setCell ⟨w.heap.size, 5, none⟩ (.slice none 0 0)).setCell ⟨w.heap.size, 6, none⟩ (.slice none 0 0)) ∧ OwnRs w.heap.size (((((((w6.setCell ⟨w.heap.size, 0, none⟩ (.int .i64 0)).setCell ⟨w.heap.size, 1, none⟩ (.int .u64 0)).setCell ⟨w.heap.size, 2, none⟩ (.int .i64 0)).setCell ⟨w.heap.size, 3, none⟩ (.int .u64 0)).setCell ⟨w.heap.size, 4, none⟩ (.int .u64 0)).setCell ⟨w.heap.size, 5, none⟩ (.slice none 0 0)).setCell ⟨w.heap.size, 6, none⟩ (.slice none 0 0)) c.bv c.rs ∧ FreeRs w.heap.size (((((((w6.setCell ⟨w.heap.size, 0, none⟩ (.int .i64 0)).setCell ⟨w.heap.size, 1, none⟩ (.int .u64 0)).setCell ⟨w.heap.size, 2, none⟩ (.int .i64 0)).setCell ⟨w.heap.size, 3, none⟩ (.int .u64 0)).setCell ⟨w.heap.size, 4, none⟩ (.int .u64 0)).setCell ⟨w.heap.size, 5, none⟩ (.slice none 0 0)).setCell ⟨w.heap.size, 6, none⟩ (.slice none 0 0)) c.rs ∧ Owns w.heap.size (((((((w6.setCell ⟨w.heap.size, 0, none⟩ (.int .i64 0)).setCell ⟨w.heap.size, 1, none⟩ (.int .u64 0)).setCell ⟨w.heap.size, 2, none⟩ (.int .i64 0)).setCell ⟨w.heap.size, 3, none⟩ (.int .u64 0)).setCell ⟨w.heap.size, 4, none⟩ (.int .u64 0)).setCell ⟨w.heap.size, 5, none⟩ (.slice none 0 0)).setCell ⟨w.heap.size, 6, none⟩ (.slice none 0 0)) c.dv c.D ∧ (∀ r ∈ c.rs, r.sl.ownBlock = none ∨ r.sl.ownBlock ≠ c.dv.ownBlock) ∧ c.rv = recV B) := by
  obtain ⟨e1, e2⟩ := rv_refused hC
  have hg := set7 w6 w.heap.size (.int .i64 0) (.int .u64 0) (.int .i64 0) (.int .u64 0) (.int .u64 0) (.slice none 0 0) (.slice none 0 0)
  have n := OwnRs.nil w.heap.size (((((((w6.setCell ⟨w.heap.size, 0, none⟩ (.int .i64 0)).setCell ⟨w.heap.size, 1, none⟩ (.int .u64 0)).setCell ⟨w.heap.size, 2, none⟩ (.int .i64 0)).setCell ⟨w.heap.size, 3, none⟩ (.int .u64 0)).setCell ⟨w.heap.size, 4, none⟩ (.int .u64 0)).setCell ⟨w.heap.size, 5, none⟩ (.slice none 0 0)).setCell ⟨w.heap.size, 6, none⟩ (.slice none 0 0))
  refine ⟨mc0, x, by rw [e2]; rfl, hE.past hg ((block_cell hR 0).trans rfl), hb.grown hg hb.size (fun k e => by cases e; exact Nat.le_refl _), n.1, n.2, Owns.nil _ _, (fun r hr => by cases hr), by rw [e1]; rfl⟩

theorem fin_yes {w w6 : World} {B : List Nat} {base num node slot stamp bc dc : Nat} {bo d0 : Option Addr} {rs : List Rq} {D : List Nat} (hb : Below w.heap.size w w6) (hR : w6.heap[w.heap.size]? = some (.cells #[.int .i64 0, .int .u64 0, .int .i64 0, .int .u64 0, .int .u64 0, .slice none 0 0, .slice none 0 0] 31 (0, 0))) (hE : ErrV w6 .nilIface (recC B) (recA B)) (ho : OwnRs base w6 (.slice bo rs.length bc) rs) (hf : FreeRs base w6 rs) (hd : Owns base w6 (.slice d0 D.length dc) D) (hbs : w.heap.size < base) (hap : ∀ r ∈ rs, r.sl.ownBlock = none ∨ r.sl.ownBlock ≠ (Value.slice d0 D.length dc).ownBlock) (hK : recK B = rk B) (hV : (Mc.mk num node slot stamp (.slice bo rs.length bc) rs (.slice d0 D.length dc) D).rv = recV B) (W7 : World) (hW : (((((((w6.setCell ⟨w.heap.size, 0, none⟩ (.int .i64 ((rk B : Nat) : Int))).setCell ⟨w.heap.size, 1, none⟩ (.int .u64 (num : Int))).setCell ⟨w.heap.size, 2, none⟩ (.int .i64 (node : Int))).setCell ⟨w.heap.size, 3, none⟩ (.int .u64 (slot : Int))).setCell ⟨w.heap.size, 4, none⟩ (.int .u64 (stamp : Int))).setCell ⟨w.heap.size, 5, none⟩ (.slice bo rs.length bc)).setCell ⟨w.heap.size, 6, none⟩ (.slice d0 D.length dc)) = W7) :
    (W7.cell? ⟨w.heap.size, 0, none⟩ = some (.int .i64 ((rk B : Nat) : Int)) ∧ W7.cell? ⟨w.heap.size, 1, none⟩ = some (.int .u64 (num : Int)) ∧ W7.cell? ⟨w.heap.size, 2, none⟩ = some (.int .i64 (node : Int)) ∧ W7.cell? ⟨w.heap.size, 3, none⟩ = some (.int .u64 (slot : Int)) ∧ W7.cell? ⟨w.heap.size, 4, none⟩ = some (.int .u64 (stamp : Int)) ∧ W7.cell? ⟨w.heap.size, 5, none⟩ = some (.slice bo rs.length bc) ∧ W7.cell? ⟨w.heap.size, 6, none⟩ = some (.slice d0 D.length dc)) ∧
    ∃ (c : Mc) (x : Value), Ending.returned (.tuple #[.agg #[.int .i64 ((rk B : Nat) : Int), .int .u64 (num : Int), .int .i64 (node : Int), .int .u64 (slot : Int), .int .u64 (stamp : Int), .slice bo rs.length bc, .slice d0 D.length dc], .nilIface]) = .returned (.tuple #[recAgg (recK B) c, x]) ∧ Hid (ErrV W7 x (recC B) (recA B) ∧ Below w.heap.size w W7 ∧ OwnRs w.heap.size W7 c.bv c.rs ∧ FreeRs w.heap.size W7 c.rs ∧ Owns w.heap.size W7 c.dv c.D ∧ (∀ r ∈ c.rs, r.sl.ownBlock = none ∨ r.sl.ownBlock ≠ c.dv.ownBlock) ∧ c.rv = recV B) := by
  obtain ⟨hg, hc⟩ := set7_new hR _ _ _ _ _ _ _ hW
  obtain ⟨k1, k2, k3, k4⟩ := fin_rec hb ho hf hd hbs hg
  refine ⟨hc, ⟨num, node, slot, stamp, .slice bo rs.length bc, rs, .slice d0 D.length dc, D⟩, .nilIface, ?_, ⟨hE.past hg ((block_cell hR 0).trans rfl), k1, k2, k3, k4, hap, hV⟩⟩
  rw [hK, recAgg]

/-- Behind the first byte. -/
theorem kind_read {lim p : Nat} {B : List Nat} {W : World} (h : Fr lim (p + 1) p ⟨true, 0, 0, B, 0, ⟨103, mc0.R⟩⟩ mc0 W) :
    Calls Tryz.prog 37 #[.pointer (some ⟨p, 0, none⟩)] W fun e w3 => e = .returned (.int .u8 ((rk B : Nat) : Int)) ∧ rk B < 256 ∧ Hid (∃ s1, Fr lim (p + 1) p s1 mc0 w3 ∧ s1.un = rs1 B ∧ W.grownBy w3 (some p) ∧ (s1.sound → s1.place = 0)) := by
  have hlt : rk B < 256 := hi_take_lt (k := 1) (rest_lt h.rd).1
  refine (rU8_any lim p _ W h.rd).mono ?_
  rintro e w3 ⟨rfl, h1, h2⟩
  obtain ⟨a1, a2, a3⟩ := h.past h2
  refine ⟨rfl, hlt, _, ⟨h1, by rw [step_K], a1, a2, a3, h.hp, Nat.le_trans h.hb h2.size, h.ap⟩, un_step _ _ _, h2, RS.step_place (fun _ => rfl) _ _⟩

set_option maxRecDepth 10000 in
set_option maxHeartbeats 3200000 in
theorem decRec_prog {lim : Nat} {w : World} {ao : Option Addr} {n cap : Nat} {B : List Nat} (h : Shows lim w ao n cap B) (hl : lim ≤ w.heap.size) :
    Calls Tryz.prog 13 #[.slice ao n cap] w fun e w' => ∃ (c : Mc) (x : Value), e = .returned (.tuple #[recAgg (recK B) c, x]) ∧ Hid (ErrV w' x (recC B) (recA B) ∧ Below w.heap.size w w' ∧ OwnRs w.heap.size w' c.bv c.rs ∧ FreeRs w.heap.size w' c.rs ∧ Owns w.heap.size w' c.dv c.D ∧ (∀ r ∈ c.rs, r.sl.ownBlock = none ∨ r.sl.ownBlock ≠ c.dv.ownBlock) ∧ c.rv = recV B) := by
  obtain rfl := h.1
  have hb0 := below_alloc1 w (.cells #[.int .i64 0, .int .u64 0, .int .i64 0, .int .u64 0, .int .u64 0, .slice none 0 0, .slice none 0 0] 31)
  have H1 : Hid (Calls Tryz.prog 27 #[.slice ao B.length cap, .int .i64 0] (w.alloc (.cells #[.int .i64 0, .int .u64 0, .int .i64 0, .int .u64 0, .int .u64 0, .slice none 0 0, .slice none 0 0] 31)) fun e w1 => e = .returned (.agg #[.bool true, .int .i64 0, .int .i64 0, .slice ao B.length cap, .int .i64 0]) ∧ Hid (Below (w.heap.size + 1) (w.alloc (.cells #[.int .i64 0, .int .u64 0, .int .i64 0, .int .u64 0, .int .u64 0, .slice none 0 0, .slice none 0 0] 31)) w1)) := by
    have h1 := readerAt_any ao B.length cap 0 (w.alloc (.cells #[.int .i64 0, .int .u64 0, .int .i64 0, .int .u64 0, .int .u64 0, .slice none 0 0, .slice none 0 0] 31))
    rw [show (w.alloc (.cells #[.int .i64 0, .int .u64 0, .int .i64 0, .int .u64 0, .int .u64 0, .slice none 0 0, .slice none 0 0] 31)).heap.size = w.heap.size + 1 by simp] at h1
    exact h1.mono (fun _ _ h => ⟨h.1, h.2⟩)
  have H2 : Hid (∀ w1, Below (w.heap.size + 1) (w.alloc (.cells #[.int .i64 0, .int .u64 0, .int .i64 0, .int .u64 0, .int .u64 0, .slice none 0 0, .slice none 0 0] 31)) w1 → Fr lim (w1.heap.size + 1) w1.heap.size ⟨true, 0, 0, B, 0, ⟨103, mc0.R⟩⟩ mc0 (w1.alloc (.cells (frCells ao B.length cap) 103)) ∧ Below w.heap.size w (w1.alloc (.cells (frCells ao B.length cap) 103)) ∧ (w1.alloc (.cells (frCells ao B.length cap) 103)).heap[w.heap.size]? = some (.cells #[.int .i64 0, .int .u64 0, .int .i64 0, .int .u64 0, .int .u64 0, .slice none 0 0, .slice none 0 0] 31 (0, 0)) ∧ w.heap.size < w1.heap.size) := fun w1 hb1 => by
    have hs1 : w.heap.size + 1 ≤ w1.heap.size := by have := hb1.size; simpa using this
    have hbw : Below w.heap.size w w1 := hb0.trans (hb1.mono (by omega))
    have gA := World.grownBy_alloc w1 (.cells (frCells ao B.length cap) 103) none
    have hr : w1.heap[w.heap.size]? = some (.cells #[.int .i64 0, .int .u64 0, .int .i64 0, .int .u64 0, .int .u64 0, .slice none 0 0, .slice none 0 0] 31 (0, 0)) := (hb1.block _ (by omega)).trans (alloc_at _ _)
    exact ⟨fr_new (h.belowL (hbw.mono hl)) (by omega), hbw.grown gA hbw.size (fun k e => by cases e), (gA.block _ (block_lt hr) (by simp)).trans hr, by omega⟩
  clear h hb0
  go_enter Tryz.func13, Tryz.ntmps13
  go_wp2_with fail
  refine H1.out.mono ?_
  rintro e w1 ⟨rfl, G1⟩
  have S2 := hide (H2.out w1 G1.out)
  obtain ⟨W2, hW2⟩ : ∃ W2, w1.alloc (.cells (frCells ao B.length cap) 103) = W2 := ⟨_, rfl⟩
  rw [hW2] at S2
  have HW2 := hide hW2
  clear hW2 H1 H2 G1
  go_wp2_with fail
  refine Calls.world HW2.out ?_
  clear HW2
  generalize w1.heap.size = p at *
  obtain ⟨f2, b2, r2, hwp⟩ := S2.out
  have B2 := hide b2
  have R2 := hide r2
  refine (kind_read f2).mono ?_
  rintro e w3 ⟨rfl, hk, G3⟩
  clear f2 b2 r2 S2
  obtain ⟨s1, f3, u3, g3, pl3⟩ := G3.out
  have F3 := hide f3
  have U3 := hide u3
  have PL3 := hide pl3
  have B3 := hide (B2.out.grown g3 B2.out.size (fun k e => by cases e; omega))
  have R3 := hide ((g3.block _ (block_lt R2.out) (by simp; omega)).trans R2.out)
  clear G3 f3 u3 g3 pl3 B2 R2
  go_wp2_with fail
  refine (rErrP (.inr ⟨p, rfl, F3.out.rd⟩) PL3.out).mono ?_
  rintro e w4 ⟨x, rfl, hx, hb4⟩
  have F4 := hide (F3.out.quiet (below_none hb4))
  have B4 := hide (B3.out.trans (hb4.mono B3.out.size))
  have R4 := hide ((hb4.block _ (block_lt R3.out)).trans R3.out)
  have hEC : s1.errC = (rs1 B).errC ∧ s1.errA = (rs1 B).errA := by rw [← U3.out]; exact ⟨rfl, rfl⟩
  rw [hEC.1, hEC.2] at hx
  have HX := hide hx
  clear hx hb4 hEC F3 B3 R3
  have hm2 := R4.out
  clear hm2
  by_cases hs : (rs1 B).sound
  · have hx0 : x = .nilIface := by
      have h := HX.out
      rw [errC_ok hs] at h
      exact errV_none h
    subst hx0
    have HSD := hide hs
    clear hs HX
    go_wp2_with fail
    have hsn := sl_nil
    have hss := sl_some
    refine (recF_any (rk B) _ _ w4).mono ?_
    rintro e w5 (⟨hf, rfl, rfl⟩ | ⟨hf, rfl, G5⟩)
    · have HCA := hide (rec_kind HSD.out hf)
      clear hf
      go_wp2_with fail
      refine (refusal_any 0 25 _).mono ?_
      rintro e w6 ⟨v, rfl, rfl, hF, hb6⟩
      have FIN := hide (fin_no (B := B) (B4.out.trans (hb6.mono B4.out.size)) ((hb6.block _ (block_lt R4.out)).trans R4.out) (by rw [HCA.out.1, HCA.out.2]; exact .inr ⟨hF, by decide⟩) (by rw [HCA.out.1]; decide))
      have hr6 := (hb6.block _ (block_lt R4.out)).trans R4.out
      have y0 := block_cell hr6 0
      have y1 := block_cell hr6 1
      have y2 := block_cell hr6 2
      have y3 := block_cell hr6 3
      have y4 := block_cell hr6 4
      have y5 := block_cell hr6 5
      have y6 := block_cell hr6 6
      have z0 := block_free hr6 0
      have z1 := block_free hr6 1
      have z2 := block_free hr6 2
      have z3 := block_free hr6 3
      have z4 := block_free hr6 4
      have z5 := block_free hr6 5
      have z6 := block_free hr6 6
      simp at y0 y1 y2 y3 y4 y5 y6
      have hlt6 := block_lt hr6
      clear hr6 hF hb6
      go_wp2
      refine bodyPost_ret (v := .tuple #[.agg #[.int .i64 0, .int .u64 0, .int .i64 0, .int .u64 0, .int .u64 0, .slice none 0 0, .slice none 0 0], _]) (by simp [results, Tryz.results13, go_sem, y0, y1, y2, y3, y4, y5, y6]) rfl FIN.out
    · have HCA := hide (rec_read HSD.out hf)
      obtain ⟨hc5, hb5⟩ := G5.out
      have HC5 := hide hc5
      have F5 := hide (F4.out.quiet (below_none hb5))
      have B5 := hide (B4.out.trans (hb5.mono B4.out.size))
      have R5 := hide ((hb5.block _ (block_lt R4.out)).trans R4.out)
      have hbp : w4.heap.size ≠ p := by have := F4.out.hb; have := F4.out.hp; omega
      clear hf hc5 hb5 G5
      generalize w4.heap.size = q at *
      go_wp2_with fail
      refine (read_any (fsOf (rk B)) (fsOf_len _) F5.out HC5.out hbp PL3.out).mono ?_
      rintro e w6 ⟨x, rfl, G6⟩
      have HG : Hid (ErrV w6 x (recC B) (recA B) ∧ (recC B = 0 → ∃ s' c', Fr lim (p + 1) p s' c' w6 ∧ c'.rv = (recS B).2) ∧ w5.grownBy w6 (some p)) := by
        have h := G6.out
        rw [U3.out] at h
        show _ ∧ _ ∧ _
        rw [HCA.out.1, HCA.out.2]
        exact h
      have B6 := hide (B5.out.grown HG.out.2.2 B5.out.size (fun k e => by cases e; omega))
      have hr6 := (HG.out.2.2.block _ (block_lt R5.out) (by simp; omega)).trans R5.out
      have y0 := block_cell hr6 0
      have y1 := block_cell hr6 1
      have y2 := block_cell hr6 2
      have y3 := block_cell hr6 3
      have y4 := block_cell hr6 4
      have y5 := block_cell hr6 5
      have y6 := block_cell hr6 6
      have z0 := block_free hr6 0
      have z1 := block_free hr6 1
      have z2 := block_free hr6 2
      have z3 := block_free hr6 3
      have z4 := block_free hr6 4
      have z5 := block_free hr6 5
      have z6 := block_free hr6 6
      simp at y0 y1 y2 y3 y4 y5 y6
      have hlt6 := block_lt hr6
      have R6 := hide hr6
      clear hr6 G6 HC5 hbp F5 B5 R5 HCA
      by_cases hz : recC B = 0
      · have hx0 : x = .nilIface := by
          have h := HG.out.1
          rw [hz] at h
          exact errV_none h
        subst hx0
        obtain ⟨s6, c6, fr6, rv6⟩ := HG.out.2.1 hz
        obtain ⟨e1, e2⟩ := rv_taken hz
        have E12 := hide (And.intro e1 e2)
        obtain ⟨num, node, slot, stamp, bv, rs, dv, D⟩ := c6
        have FR6 := hide fr6
        have RV6 := hide rv6
        obtain ⟨bo, bc, _, hbv, _⟩ := fr6.own.form
        obtain ⟨d0, dc, hdv, _, _⟩ := fr6.dat.form
        simp only at hbv hdv
        subst hbv
        subst hdv
        obtain ⟨cs, hRG, l49, hone, r1, r2, r3, r6, r7, r12⟩ : ∃ cs : List Value, w6.rangeAt p 5 cs ∧ cs.length = 49 ∧ (∀ v ∈ cs, v.oneCell' = true) ∧ cs[1]? = some (.int .u64 (num : Int)) ∧ cs[2]? = some (.int .i64 (node : Int)) ∧ cs[3]? = some (.int .u64 (slot : Int)) ∧ cs[6]? = some (.int .u64 (stamp : Int)) ∧ cs[7]? = some (.slice bo rs.length bc) ∧ cs[12]? = some (.slice d0 D.length dc) := by
          refine ⟨(Mc.mk num node slot stamp (.slice bo rs.length bc) rs (.slice d0 D.length dc) D).R, fun j v hv => ?_, Mc.len _, List.all_eq_true.1 rfl, rfl, rfl, rfl, rfl, rfl, rfl⟩
          have h1 := (fr6.rd.cellR j).1
          rw [fr6.k] at h1
          rw [Nat.add_comm 5 j, h1]
          exact hv
        have HSZ : Hid ((Tryz.prog.info? 83).map (·.size) = some cs.length) := by show _ = _; rw [l49]; kernel_rfl
        have HRG := hide hRG
        have L49 := hide l49
        have HONE := hide hone
        have HCS := hide (And.intro r1 (And.intro r2 (And.intro r3 (And.intro r6 (And.intro r7 r12)))))
        have HE6 : Hid (ErrV w6 .nilIface (recC B) (recA B)) := HG.out.1
        clear fr6 rv6 hRG l49 hone r1 r2 r3 r6 r7 r12 HG hz e1 e2 y0 y1 y2 y3 y4 y5 y6 z0 z1 z2 z3 z4 z5 z6 hlt6
        go_wp2_with (first
          | (refine wpList_load_mid rfl 83 _ rfl p 5 rfl cs _ HRG.out Tryz.underlying83 rfl HSZ.out ?_)
          | (refine wpList_store_new rfl 83 _ _ rfl cs rfl rfl (by rw [L49.out]; decide) HSZ.out HONE.out ?_))
        intro W8 g8 rg8 hs8
        obtain ⟨r1, r2, r3, r6, r7, r12⟩ := HCS.out
        have x1 := rg8 1 _ r1
        have x2 := rg8 2 _ r2
        have x3 := rg8 3 _ r3
        have x6 := rg8 6 _ r6
        have x7 := rg8 7 _ r7
        have x12 := rg8 12 _ r12
        simp only [Nat.zero_add] at x1 x2 x3 x6 x7 x12
        have FR8 := hide (FR6.out.quiet g8)
        have B8 := hide (B6.out.grown g8 B6.out.size (fun k e => by cases e))
        have hr8 := (g8.block _ (block_lt R6.out) (by simp)).trans R6.out
        have HE8 := hide (HE6.out.quiet g8)
        have y0 := block_cell hr8 0
        have y1 := block_cell hr8 1
        have y2 := block_cell hr8 2
        have y3 := block_cell hr8 3
        have y4 := block_cell hr8 4
        have y5 := block_cell hr8 5
        have y6 := block_cell hr8 6
        have z0 := block_free hr8 0
        have z1 := block_free hr8 1
        have z2 := block_free hr8 2
        have z3 := block_free hr8 3
        have z4 := block_free hr8 4
        have z5 := block_free hr8 5
        have z6 := block_free hr8 6
        simp at y0 y1 y2 y3 y4 y5 y6
        have R8 := hide hr8
        have hne8 : ¬ w.heap.size = w6.heap.size := by have := block_lt R6.out; omega
        clear r1 r2 r3 r6 r7 r12 rg8 g8 hr8 HCS HONE L49 HRG HSZ FR6 B6 R6 HE6
        generalize w6.heap.size = bm at *
        go_wp2
        obtain ⟨W7, hW7⟩ : ∃ W7, (((((((W8.setCell ⟨w.heap.size, 0, none⟩ (.int .i64 ((rk B : Nat) : Int))).setCell ⟨w.heap.size, 1, none⟩ (.int .u64 (num : Int))).setCell ⟨w.heap.size, 2, none⟩ (.int .i64 (node : Int))).setCell ⟨w.heap.size, 3, none⟩ (.int .u64 (slot : Int))).setCell ⟨w.heap.size, 4, none⟩ (.int .u64 (stamp : Int))).setCell ⟨w.heap.size, 5, none⟩ (.slice bo rs.length bc)).setCell ⟨w.heap.size, 6, none⟩ (.slice d0 D.length dc)) = W7 := ⟨_, rfl⟩
        obtain ⟨⟨q0, q1, q2, q3, q4, q5, q6⟩, FIN⟩ := fin_yes B8.out R8.out HE8.out FR8.out.own FR8.out.free FR8.out.dat (by omega) FR8.out.ap E12.out.2 (RV6.out.trans E12.out.1.symm) W7 hW7
        have FIN := hide FIN
        rw [hW7]
        clear hW7 y0 y1 y2 y3 y4 y5 y6 z0 z1 z2 z3 z4 z5 z6
        refine bodyPost_ret (v := .tuple #[.agg #[.int .i64 ((rk B : Nat) : Int), .int .u64 (num : Int), .int .i64 (node : Int), .int .u64 (slot : Int), .int .u64 (stamp : Int), .slice bo rs.length bc, .slice d0 D.length dc], .nilIface]) (by simp [results, Tryz.results13, go_sem, q0, q1, q2, q3, q4, q5, q6]) rfl FIN.out
      · obtain ⟨g, hx⟩ := errV_some HG.out.1 hz
        subst hx
        have FIN := hide (fin_no (B := B) B6.out R6.out HG.out.1 hz)
        clear hz HG
        go_wp2
        refine bodyPost_ret (v := .tuple #[.agg #[.int .i64 0, .int .u64 0, .int .i64 0, .int .u64 0, .int .u64 0, .slice none 0 0, .slice none 0 0], _]) (by simp [results, Tryz.results13, go_sem, y0, y1, y2, y3, y4, y5, y6]) rfl FIN.out
  · have HCA := hide (rec_short hs)
    have HX2 : Hid (ErrV w4 x (recC B) (recA B)) := by show ErrV _ _ _ _; rw [HCA.out.1, HCA.out.2]; exact HX.out
    have hz : recC B ≠ 0 := by rw [HCA.out.1]; exact errC_not hs
    obtain ⟨g, hx⟩ := errV_some HX2.out hz
    subst hx
    have FIN := hide (fin_no (B := B) B4.out R4.out HX2.out hz)
    have hr6 := R4.out
    have y0 := block_cell hr6 0
    have y1 := block_cell hr6 1
    have y2 := block_cell hr6 2
    have y3 := block_cell hr6 3
    have y4 := block_cell hr6 4
    have y5 := block_cell hr6 5
    have y6 := block_cell hr6 6
    have z0 := block_free hr6 0
    have z1 := block_free hr6 1
    have z2 := block_free hr6 2
    have z3 := block_free hr6 3
    have z4 := block_free hr6 4
    have z5 := block_free hr6 5
    have z6 := block_free hr6 6
    simp at y0 y1 y2 y3 y4 y5 y6
    have hlt6 := block_lt hr6
    clear hr6 hz hs HX HX2 HCA
    go_wp2
    refine bodyPost_ret (v := .tuple #[.agg #[.int .i64 0, .int .u64 0, .int .i64 0, .int .u64 0, .int .u64 0, .slice none 0 0, .slice none 0 0], _]) (by simp [results, Tryz.results13, go_sem, y0, y1, y2, y3, y4, y5, y6]) rfl FIN.out
end Go.Proofs.YtgaalaoflaklgaaGreat
