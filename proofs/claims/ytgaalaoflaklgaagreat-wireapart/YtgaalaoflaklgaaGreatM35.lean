import Derived.Test.YtgaalaoflaklgaaGreatQSeqB
import Derived.Test.YtgaalaoflaklgaaGreatM30
namespace Go.Proofs.YtgaalaoflaklgaaGreat
open Go.RowKit Crc

theorem blobAt_700 (B : List Nat) : (blobAt B 700).1.length ≤ 700 := by
  unfold blobAt
  split
  · simp
  · split
    · simp
    · simp only [List.length_take, List.length_drop]
      have := countAt_ok B 700
      omega
theorem rdGo_len : ∀ (n : Nat) (s : RS), (rdGo n s).1.length = n ∧ ∀ x ∈ (rdGo n s).1, x.2.2.length ≤ 700
  | 0, s => ⟨rfl, fun x hx => by simp [rdGo] at hx⟩
  | n + 1, s => by
    obtain ⟨h1, h2⟩ := rdGo_len n (rqS3 s)
    refine ⟨by simp [rdGo, h1], fun x hx => ?_⟩
    rw [rdGo] at hx
    rcases List.mem_cons.1 hx with rfl | hx
    · exact blobAt_700 _
    · exact h2 x hx
theorem bN_le (s : RS) : bN s ≤ 8 := by
  have h := countAt_ok (bS1 s).rest 8
  unfold bN
  by_cases hz : (countAt (bS1 s).rest 8).2.2 = 0
  · have := h.2.2.1 hz (by omega); omega
  · have := (h.2.2.2.2 hz).1; omega
/-- What is read of bytes: the fault and its place, or the batch. -/
def dC (B : List Nat) : Int := (bEnd (RS1 B)).endC
def dA (B : List Nat) : Int := if dC B = 0 then 0 else (bEnd (RS1 B)).endA
def dS (B : List Nat) : Nat := if dC B = 0 then (numAt (RS1 B).rest).1 else 0
def dV (B : List Nat) : List (Nat × Nat × List Nat) := if dC B = 0 then bVals (RS1 B) else []
def dN (B : List Nat) : Nat := (dV B).length
theorem dN_le (B : List Nat) : dN B ≤ 8 := by
  unfold dN dV
  split
  · unfold bVals; rw [(rdGo_len _ _).1]; exact bN_le _
  · simp
theorem dV_le (B : List Nat) : ∀ x ∈ dV B, x.2.2.length ≤ 700 := by
  unfold dV
  split
  · unfold bVals; exact (rdGo_len _ _).2
  · simp
/-- A batch of its own. -/
structure Bt (base : Nat) (w : World) (v : Value) (rs : List Rq) : Prop where
  own : OwnRs base w v rs
  free : FreeRs base w rs
theorem Bt.quiet {base : Nat} {w w' : World} {v : Value} {rs : List Rq} (h : Bt base w v rs) (hg : w.grownBy w' none) : Bt base w' v rs := by
  obtain ⟨a, b⟩ := h.own.quiet h.free hg
  exact ⟨a, b⟩
theorem Bt.below {base : Nat} {w w' : World} {v : Value} {rs : List Rq} (h : Bt base w v rs) (hb : Below w.heap.size w w') : Bt base w' v rs := h.quiet (below_none hb)
theorem Bt.past {base g : Nat} {w w' : World} {v : Value} {rs : List Rq} (h : Bt base w v rs) (hg : w.grownBy w' (some g)) (hl : g < base) : Bt base w' v rs := by
  obtain ⟨a, b⟩ := h.own.past h.free hg hl
  exact ⟨a, b⟩
theorem Bt.lt {base : Nat} {w : World} {v : Value} {rs : List Rq} (h : Bt base w v rs) (g : Nat) (e : v.ownBlock = some g) : base ≤ g ∧ g < w.heap.size := h.own.row.lt g e
theorem Bt.ltB {base : Nat} {w : World} {v : Value} {rs : List Rq} (h : Bt base w v rs) (g : Nat) (e : inB rs g) : base ≤ g ∧ g < w.heap.size := by
  obtain ⟨r, hr, e⟩ := e
  exact (h.free.own r hr).1.lt g e
theorem Has.out {S : Nat → Prop} {w w' : World} {base : Nat} {v : Value} {C : List Nat} (h : Owns base w v C) (ho : Out S w w') (hn : ∀ g, v.ownBlock = some g → ¬ S g) : Owns base w' v C := ⟨ho.row h.1 hn, h.2⟩
theorem Bt.out {S : Nat → Prop} {base : Nat} {w w' : World} {v : Value} {rs : List Rq} (h : Bt base w v rs) (ho : Out S w w') (h1 : ∀ g, v.ownBlock = some g → ¬ S g) (h2 : ∀ g, inB rs g → ¬ S g) : Bt base w' v rs := by
  have f2 : FreeRs base w' rs := ⟨fun r hr => Has.out (h.free.own r hr) ho (fun g e => h2 g ⟨r, hr, e⟩), h.free.apart⟩
  refine ⟨⟨ho.row h.own.row h1, fun r hx => ?_, h.own.le⟩, f2⟩
  obtain ⟨vo, vc, hv, hS, _⟩ := (f2.own r hx).form
  have hv' : Value.slice r.co r.cn r.cc = .slice vo r.C.length vc := hv
  simp only [Value.slice.injEq] at hv'
  obtain ⟨e3, e4, e5⟩ := hv'
  refine ⟨(h.own.ok r hx).hc, (h.own.ok r hx).hs, ?_⟩
  rw [e3, e4, e5]
  exact hS
theorem Bt.f0 {base base' : Nat} {w : World} {v lv : Value} {rs : List Rq} (h : Bt base w v rs) (hl : Sls base' w lv rs.length (rs.map Rq.sl)) (hc : ∀ r ∈ rs, r.C.length ≤ 700) : F0 w lv rs := by
  refine ⟨row_lower hl (by omega), fun j r hr => (h.free.own r (List.mem_of_getElem? hr)).lower (by omega), fun i j a b hij ha hb => ?_, h.own.le, fun j r hr => by have := hc r (List.mem_of_getElem? hr); omega⟩
  have hp := List.pairwise_iff_getElem.1 h.free.apart
  obtain ⟨hi, rfl⟩ := List.getElem?_eq_some_iff.1 ha
  obtain ⟨hj, rfl⟩ := List.getElem?_eq_some_iff.1 hb
  rcases Nat.lt_or_gt_of_ne hij with e | e
  · exact hp i j hi hj e
  · rcases hp j i hj hi e with h1 | h1
    · cases e2 : (rs[i]).sl.ownBlock with
      | none => exact .inl rfl
      | some g => exact .inr (by rw [h1]; simp)
    · exact .inr (fun e2 => h1 e2.symm)
theorem Bt.q1 {base : Nat} {w : World} {v : Value} {rs : List Rq} (h : Bt base w v rs) : Q1 w v rs.length 0 w := by
  refine ⟨⟨rcells rs, row_lower h.own.row (by omega), fun t ht => ?_⟩, rfl, rfl, rfl, Nat.le_refl _, fun _ _ _ => rfl⟩
  exact ⟨rs[t].sq, rcells_at rs t rs[t] (List.getElem?_eq_getElem ht) 1 _ rfl, fun h => by omega⟩
theorem Bt.form {base : Nat} {w : World} {v : Value} {rs : List Rq} (h : Bt base w v rs) : ∃ ao cap, v = .slice ao rs.length cap ∧ ∃ b, Rqs w.heap.size w ao rs b 0 := by
  obtain ⟨ao, cap, b, e, hr⟩ := h.own.form
  exact ⟨ao, cap, e, b, hr⟩
theorem Bt.ne {base base' : Nat} {w : World} {v u : Value} {rs : List Rq} (h : Bt base w v rs) {xs : List Value} {k : Nat} (hr : w.ownsRow base' 67 3 u k xs) : ∀ g, u.ownBlock = some g → ¬ inB rs g := fun g e ⟨r, hx, e2⟩ => by
  rcases owns_ne_row (h.free.own r hx) hr with h1 | h1
  · rw [h1] at e2; cases e2
  · exact h1 (e2.trans e.symm)
theorem val_len {rs : List Rq} {V : List (Nat × Nat × List Nat)} (h : rs.map Rq.val = V) : rs.length = V.length := by rw [← h]; simp
theorem val_cl {rs : List Rq} {B : List Nat} (h : rs.map Rq.val = dV B) : ∀ r ∈ rs, r.C.length ≤ 700 := fun r hr => by
  have := dV_le B (Rq.val r) (by rw [← h]; exact List.mem_map_of_mem hr)
  exact this
theorem ErrV.zero {w : World} {x : Value} {c a : Int} (h : ErrV w x c a) : ErrV w x c (if c = 0 then 0 else a) := by
  rcases h with ⟨h1, h2, h3⟩ | ⟨h1, h2⟩
  · exact .inl ⟨h1, h2, by rw [if_pos h2]⟩
  · exact .inr ⟨by rw [if_neg h2]; exact h1, h2⟩
theorem ErrV.quiet {w w' : World} {x : Value} {c a : Int} (h : ErrV w x c a) (hg : w.grownBy w' none) : ErrV w' x c a := by
  rcases h with h | ⟨⟨g, h1, h2, h3, h4⟩, hc⟩
  · exact .inl h
  · exact .inr ⟨⟨g, h1, hg.cell h2 (by simp), hg.cell h3 (by simp), hg.cell h4 (by simp)⟩, hc⟩

theorem decP {lim : Nat} {w : World} {ao : Option Addr} {n cap : Nat} {B : List Nat} (h : Shows lim w ao n cap B) (hl : lim ≤ w.heap.size) :
    Calls Tryz.prog 8 #[.slice ao n cap] w fun e w' => ∃ (vo : Option Addr) (vc : Nat) (x : Value), e = .returned (.tuple #[.agg #[.int .u64 (dS B : Int), .slice vo (dN B) vc], x]) ∧ Hid (ErrV w' x (dC B) (dA B) ∧ Below w.heap.size w w' ∧ ∃ rs, Bt w.heap.size w' (.slice vo (dN B) vc) rs ∧ rs.map Rq.val = dV B) := by
  refine (decBatch_prog h hl).mono ?_
  rintro e w' ⟨st, v, x, rs, rfl, H⟩
  obtain ⟨h1, h2, h3, h4, h5⟩ := H.out
  have key : st = dS B ∧ rs.map Rq.val = dV B := by
    unfold dS dV
    by_cases hc : (bEnd (RS1 B)).endC = 0
    · rw [if_pos hc] at h5
      rw [if_pos (show dC B = 0 from hc), if_pos (show dC B = 0 from hc)]; exact h5
    · rw [if_neg hc] at h5
      rw [if_neg (show ¬ dC B = 0 from hc), if_neg (show ¬ dC B = 0 from hc)]; exact ⟨h5.1, by rw [h5.2]; rfl⟩
  obtain ⟨e1, e2⟩ := key
  subst e1
  have b : Bt w.heap.size w' v rs := ⟨h3, h4⟩
  obtain ⟨vo, vc, rfl, _⟩ := b.form
  have hn : rs.length = dN B := val_len e2
  rw [hn] at b ⊢
  exact ⟨vo, vc, x, rfl, h1.zero, h2, rs, b, e2⟩
theorem sameB {base base' : Nat} {w : World} {a1 a2 : Option Addr} {N c1 c2 : Nat} {rs1 rs2 : List Rq} {V : List (Nat × Nat × List Nat)} (st : Nat) (h1 : Bt base w (.slice a1 N c1) rs1) (h2 : Bt base' w (.slice a2 N c2) rs2) (e1 : rs1.map Rq.val = V) (e2 : rs2.map Rq.val = V) :
    Calls Tryz.prog 10 #[.agg #[.int .u64 (st : Int), .slice a1 N c1], .agg #[.int .u64 (st : Int), .slice a2 N c2]] w fun e w' => e = .returned (.bool true) ∧ Hid (Below w.heap.size w w') := by
  obtain ⟨x1, k1, f1, b1, r1⟩ := h1.form
  obtain ⟨x2, k2, f2, b2, r2⟩ := h2.form
  cases f1
  have hn : rs2.length = rs1.length := by rw [val_len e1, val_len e2]
  rw [hn] at f2
  cases f2
  have h := sameBatch_any st c1 c2 r1 r2 (Nat.le_refl _) (Nat.le_refl _) (e1.trans e2.symm)
  rw [hn] at h
  exact h
end Go.Proofs.YtgaalaoflaklgaaGreat
namespace Go.Proofs.YtgaalaoflaklgaaGreat
open Go.RowKit Crc

theorem Calls.atW {P : Program} {f : FuncId} {args : Array Value} {w w' : World} {Q : Ending → World → Prop} (e : w = w') (h : Calls P f args w' Q) : Calls P f args w Q := by rw [e]; exact h
/-- Two records of one value. -/
def SameR (w : World) (k num node slot st : Int) (r1 : Option Addr) (n1 c1 : Nat) (d1 : Option Addr) (m1 e1 : Nat) (r2 : Option Addr) (n2 c2 : Nat) (d2 : Option Addr) (m2 e2 : Nat) : Prop :=
  Calls Tryz.prog 14 #[.agg #[.int .i64 k, .int .u64 num, .int .i64 node, .int .u64 slot, .int .u64 st, .slice r1 n1 c1, .slice d1 m1 e1], .agg #[.int .i64 k, .int .u64 num, .int .i64 node, .int .u64 slot, .int .u64 st, .slice r2 n2 c2, .slice d2 m2 e2]] w fun e w' => e = .returned (.bool true) ∧ Hid (Below w.heap.size w w')

set_option maxRecDepth 10000 in
set_option maxHeartbeats 1600000 in
theorem sameRec_any {w : World} {k num node slot st : Int} {r1 : Option Addr} {n1 c1 : Nat} {d1 : Option Addr} {m1 e1 : Nat} {r2 : Option Addr} {n2 c2 : Nat} {d2 : Option Addr} {m2 e2 : Nat}
    (HB : ∀ W, Below w.heap.size w W → Calls Tryz.prog 10 #[.agg #[.int .u64 st, .slice r1 n1 c1], .agg #[.int .u64 st, .slice r2 n2 c2]] W fun e w' => e = .returned (.bool true) ∧ Hid (Below W.heap.size W w'))
    (HD : ∀ W, Below w.heap.size w W → Calls Tryz.prog 16 #[.slice d1 m1 e1, .slice d2 m2 e2] W fun e w' => e = .returned (.bool true) ∧ Hid (Below W.heap.size W w')) :
    SameR w k num node slot st r1 n1 c1 d1 m1 e1 r2 n2 c2 d2 m2 e2 := by
  unfold SameR
  have HBB := hide HB
  have HDD := hide HD
  clear HB HD
  obtain ⟨W2, hW2⟩ : ∃ W2, (w.alloc (.cells #[.int .i64 k, .int .u64 num, .int .i64 node, .int .u64 slot, .int .u64 st, .slice r1 n1 c1, .slice d1 m1 e1] 31)).alloc (.cells #[.int .i64 k, .int .u64 num, .int .i64 node, .int .u64 slot, .int .u64 st, .slice r2 n2 c2, .slice d2 m2 e2] 31) = W2 := ⟨_, rfl⟩
  have hsz : (w.alloc (.cells #[.int .i64 k, .int .u64 num, .int .i64 node, .int .u64 slot, .int .u64 st, .slice r1 n1 c1, .slice d1 m1 e1] 31)).heap.size = w.heap.size + 1 := by simp
  have b2 : Below w.heap.size w W2 := by rw [← hW2]; exact (below_alloc1 w _).alloc (by simp) _
  have q1 : W2.heap[w.heap.size]? = some (.cells #[.int .i64 k, .int .u64 num, .int .i64 node, .int .u64 slot, .int .u64 st, .slice r1 n1 c1, .slice d1 m1 e1] 31 (0, 0)) := by rw [← hW2]; exact ((World.grownBy_alloc _ _ none).block _ (by rw [hsz]; omega) (by simp)).trans (alloc_at _ _)
  have q2 : W2.heap[w.heap.size + 1]? = some (.cells #[.int .i64 k, .int .u64 num, .int .i64 node, .int .u64 slot, .int .u64 st, .slice r2 n2 c2, .slice d2 m2 e2] 31 (0, 0)) := by rw [← hW2, ← hsz]; exact alloc_at _ _
  have HB2 := hide b2
  have Q1 := hide q1
  have Q2 := hide q2
  have HW2 := hide hW2
  clear hW2 b2 q1 q2 hsz
  go_enter Tryz.func14, Tryz.ntmps14
  go_wp2_with fail
  refine Calls.atW HW2.out ?_
  clear HW2
  refine (HBB.out W2 HB2.out).mono ?_
  rintro e w3 ⟨rfl, b3⟩
  have q1 := (b3.out.block _ (block_lt Q1.out)).trans Q1.out
  have q2 := (b3.out.block _ (block_lt Q2.out)).trans Q2.out
  have x6 := block_cell q1 6
  have y6 := block_cell q2 6
  simp at x6 y6
  have HB3 := hide (HB2.out.trans (b3.out.mono HB2.out.size))
  clear q1 q2 b3
  go_wp2_with fail
  clear x6 y6
  refine (HDD.out w3 HB3.out).mono ?_
  rintro e w4 ⟨rfl, b4⟩
  go_wp2
  go_ret
  exact ⟨rfl, HB3.out.trans (b4.out.mono HB3.out.size)⟩
end Go.Proofs.YtgaalaoflaklgaaGreat
namespace Go.Proofs.YtgaalaoflaklgaaGreat
open Go.RowKit Crc

/-- A batch in a box, its lists between lo and the box. -/
structure Bx (lo p st N : Nat) (vo : Option Addr) (vc : Nat) (V : List (Nat × Nat × List Nat)) (rs : List Rq) (W : World) : Prop where
  box : W.heap[p]? = some (.cells #[.int .u64 (st : Int), .slice vo N vc] 25 (0, 0))
  bt : Bt lo W (.slice vo N vc) rs
  val : rs.map Rq.val = V
  top : ∀ g, (Value.slice vo N vc).ownBlock = some g → g < p
  topB : ∀ g, inB rs g → g < p
  hlo : lo ≤ p
theorem Bx.out {S : Nat → Prop} {lo p st N : Nat} {vo : Option Addr} {vc : Nat} {V : List (Nat × Nat × List Nat)} {rs : List Rq} {W W' : World} (h : Bx lo p st N vo vc V rs W) (ho : Out S W W') (hS : ∀ g, S g → ¬ (lo ≤ g ∧ g ≤ p)) : Bx lo p st N vo vc V rs W' :=
  ⟨(ho.block p (block_lt h.box) (fun e => hS p e ⟨h.hlo, Nat.le_refl _⟩)).trans h.box,
   h.bt.out ho (fun g e hs => hS g hs ⟨(h.bt.lt g e).1, Nat.le_of_lt (h.top g e)⟩) (fun g e hs => hS g hs ⟨(h.bt.ltB g e).1, Nat.le_of_lt (h.topB g e)⟩), h.val, h.top, h.topB, h.hlo⟩
theorem out_grown {w w' : World} {row : Option Nat} (h : w.grownBy w' row) : Out (fun q => row = some q) w w' := ⟨h.os, h.tape, h.output, h.size, fun q hq hn => h.block q hq (fun e => hn e.symm)⟩
theorem Bx.quiet {lo p st N : Nat} {vo : Option Addr} {vc : Nat} {V : List (Nat × Nat × List Nat)} {rs : List Rq} {W W' : World} (h : Bx lo p st N vo vc V rs W) (hg : W.grownBy W' none) : Bx lo p st N vo vc V rs W' := h.out (out_grown hg) (fun g e => by cases e)
theorem Bx.new {lo st N : Nat} {vo : Option Addr} {vc : Nat} {V : List (Nat × Nat × List Nat)} {rs : List Rq} {W : World} (h : Bt lo W (.slice vo N vc) rs) (hv : rs.map Rq.val = V) (hl : lo ≤ W.heap.size) : Bx lo W.heap.size st N vo vc V rs (W.alloc (.cells #[.int .u64 (st : Int), .slice vo N vc] 25)) :=
  ⟨alloc_at _ _, h.quiet (World.grownBy_alloc _ _ none), hv, fun g e => (h.lt g e).2, fun g e => (h.ltB g e).2, hl⟩
theorem Bx.cells {lo p st N : Nat} {vo : Option Addr} {vc : Nat} {V : List (Nat × Nat × List Nat)} {rs : List Rq} {W : World} (h : Bx lo p st N vo vc V rs W) : W.cell? ⟨p, 0, none⟩ = some (.int .u64 (st : Int)) ∧ W.cell? ⟨p, 1, none⟩ = some (.slice vo N vc) := ⟨(block_cell h.box 0).trans rfl, (block_cell h.box 1).trans rfl⟩
theorem Out.toBelow {S : Nat → Prop} {L : Nat} {w w' : World} (h : Out S w w') (hS : ∀ g, S g → L ≤ g) (hL : L ≤ w.heap.size) : Below L w w' := ⟨h.os, h.tape, h.output, h.size, fun k hk => h.block k (by omega) (fun e => by have := hS k e; omega)⟩
/-- The answer beside the batch. -/
def NoB (p : Nat) (c a : Int) (W : World) : Prop := W.cell? ⟨p, 0, none⟩ = some (.int .i64 c) ∧ W.cell? ⟨p, 1, none⟩ = some (.int .i64 a)
theorem NoB.quiet {p : Nat} {c a : Int} {W W' : World} (h : NoB p c a W) (hg : W.grownBy W' none) : NoB p c a W' := ⟨hg.cell h.1 (by simp), hg.cell h.2 (by simp)⟩

theorem Lent.ownsB {w : World} {gc n : Nat} {B : List Nat} (h : Lent w gc n B) (hB : ∀ x ∈ B, x < 256) (hn : n ≤ 140737488351232) : Owns gc w (.slice (some ⟨gc, 0, none⟩) n (n + 4)) B := by
  obtain ⟨h1, h2⟩ := h
  obtain ⟨cur, hg, hs, hc, ht⟩ := own_block h2
  refine ⟨?_, hB, by omega⟩
  rw [← h1]
  refine owns_of (Nat.le_refl _) hg hs (by unfold maxLen; omega) (by omega) ?_
  have h5 := congrArg (List.take n) ht
  rw [List.take_take, Nat.min_eq_left (by omega), vals_append] at h5
  rw [h5]
  have : n = (vals B).length := h1.trans (vals_len B).symm
  rw [this, List.take_left]
theorem Q1.ofRow {base : Nat} {w : World} {v : Value} {rs : List Rq} (h : w.ownsRow base 67 3 v rs.length (rcells rs)) : Q1 w v rs.length 0 w := by
  refine ⟨⟨rcells rs, row_lower h (by omega), fun t ht => ?_⟩, rfl, rfl, rfl, Nat.le_refl _, fun _ _ _ => rfl⟩
  exact ⟨rs[t].sq, rcells_at rs t rs[t] (List.getElem?_eq_getElem ht) 1 _ rfl, fun h => by omega⟩
/-- All that stands when both have read. -/
structure Al (w : World) (p gc lo2 p2 st N : Nat) (vo : Option Addr) (vc : Nat) (go : Option Addr) (gcap : Nat) (V : List (Nat × Nat × List Nat)) (rsv rsg : List Rq) (c a : Int) (n : Nat) (B : List Nat) (W : World) : Prop where
  v : Bx w.heap.size p st N vo vc V rsv W
  g : Bx lo2 p2 st N go gcap V rsg W
  no : NoB (p + 1) c a W
  l : Lent W gc n B
  bel : Below w.heap.size w W
theorem Al.quiet {w : World} {p gc lo2 p2 st N : Nat} {vo : Option Addr} {vc : Nat} {go : Option Addr} {gcap : Nat} {V : List (Nat × Nat × List Nat)} {rsv rsg : List Rq} {c a : Int} {n : Nat} {B : List Nat} {W W' : World} (h : Al w p gc lo2 p2 st N vo vc go gcap V rsv rsg c a n B W) (hg : W.grownBy W' none) : Al w p gc lo2 p2 st N vo vc go gcap V rsv rsg c a n B W' :=
  ⟨h.v.quiet hg, h.g.quiet hg, h.no.quiet hg, h.l.next hg (by simp), h.bel.grown hg h.bel.size (fun k e => by cases e)⟩

end Go.Proofs.YtgaalaoflaklgaaGreat
namespace Go.Proofs.YtgaalaoflaklgaaGreat
open Go.RowKit Crc

theorem copyB {W : World} (st : Nat) {ro : Option Addr} {rs : List Rq} {b off : Nat} (rc n : Nat) (hn : rs.length = n) (h : Rqs W.heap.size W ro rs b off) :
    Calls Tryz.prog 6 #[.agg #[.int .u64 (st : Int), .slice ro n rc]] W fun e w' => ∃ co cc, e = .returned (.agg #[.int .u64 (st : Int), .slice co n cc]) ∧ Hid (∃ rs1, rs1.length = n ∧ OwnRs W.heap.size w' (.slice co n cc) rs1 ∧ rs1.map Rq.val = rs.map Rq.val ∧ LentRs w' rs1 ∧ (∀ r ∈ rs1, r.num) ∧ Below W.heap.size W w') := by
  have h1 := copyBatch_any st rc h
  rw [hn] at h1
  refine h1.mono ?_
  rintro e w' ⟨v, rs1, rfl, H⟩
  obtain ⟨h1, h2, h3, h4, h5⟩ := H.out
  obtain ⟨co, cc, b1, rfl, hr⟩ := h1.form
  have e1 : rs1.length = n := by have := congrArg List.length h2; simp at this; omega
  have hnum : ∀ r ∈ rs1, r.num := fun r hx => by
    obtain ⟨k1, k2, k3⟩ := h1.ok r hx
    exact ⟨k1, k2, k3.2.2.2.1, k3.2.2.1⟩
  rw [e1] at h1 ⊢
  exact ⟨co, cc, rfl, rs1, e1, h1, h2, h3, hnum, h5⟩
theorem lendD {W : World} {do_ : Option Addr} {m dc : Nat} {D : List Nat} (hd : Shows W.heap.size W do_ m dc D) :
    Calls Tryz.prog 9 #[.slice do_ m dc] W fun e w' => e = .returned (.slice (some ⟨W.heap.size, 0, none⟩) m (m + 4)) ∧ Hid (Lent w' W.heap.size m D ∧ Below W.heap.size W w') := by
  obtain ⟨p1, p2, p3, p4, b, off, p5, p6, p7⟩ := hd
  exact (lend_any b off do_ D m dc W p5 p1 p3 p6 p7).mono (fun _ _ g => ⟨g.1, ⟨p1, g.2.1⟩, g.2.2⟩)
/-- A record that is lent. -/
structure Rl1 (w : World) (n : Nat) (co : Option Addr) (cc : Nat) (rs rs1 : List Rq) (W : World) : Prop where
  len : rs1.length = n
  own : OwnRs w.heap.size W (.slice co n cc) rs1
  val : rs1.map Rq.val = rs.map Rq.val
  lent : LentRs W rs1
  num : ∀ r ∈ rs1, r.num
theorem Rl1.next {w : World} {n : Nat} {co : Option Addr} {cc : Nat} {rs rs1 : List Rq} {W W' : World} {row : Option Nat} (h : Rl1 w n co cc rs rs1 W) (hg : W.grownBy W' row) (h1 : (Value.slice co n cc).ownBlock = none ∨ (Value.slice co n cc).ownBlock ≠ row) (h2 : ∀ gc n C, Lent W gc n C → row ≠ some gc) : Rl1 w n co cc rs rs1 W' := by
  have l2 := h.lent.next hg h2
  exact ⟨h.len, ⟨h.own.row.kept hg h1, (l2.ok h.num).1, h.own.le⟩, h.val, l2, h.num⟩

theorem row_ne_cells {base B : Nat} {w : World} {v : Value} {k : Nat} {xs : List Value} {cs : Array Value} {t : TypeId} (h : w.ownsRow base 67 3 v k xs) (hb : w.heap[B]? = some (.cells cs t (0, 0))) (ht : t ≠ 67) : v.ownBlock ≠ some B := by
  intro e
  rcases h.2 with ⟨rfl, _⟩ | ⟨g, cap, cur, rfl, _, hg, _⟩
  · cases e
  · cases e
    rw [hg] at hb
    cases hb
    exact ht rfl
theorem Rl1.set {w : World} {n : Nat} {co : Option Addr} {cc : Nat} {rs rs1 : List Rq} {W : World} {B : Nat} {cs : Array Value} (h : Rl1 w n co cc rs rs1 W) (hb : W.heap[B]? = some (.cells cs 31 (0, 0))) (j : Nat) (u : Value) : Rl1 w n co cc rs rs1 (W.setCell ⟨B, j, none⟩ u) ∧ (W.setCell ⟨B, j, none⟩ u).heap[B]? = some (.cells (cs.setIfInBounds j u) 31 (0, 0)) :=
  ⟨h.next (grown_set W B j u) (.inr (row_ne_cells h.own.row hb (by decide))) (fun gc n C hL => lent_ne_cells hL hb (by decide)), heap_setCell_same W B j _ _ u hb⟩
theorem Rl1.set7 {w : World} {n : Nat} {co : Option Addr} {cc : Nat} {rs rs1 : List Rq} {W : World} {B : Nat} {cs : Array Value} (h : Rl1 w n co cc rs rs1 W) (hb : W.heap[B]? = some (.cells cs 31 (0, 0))) (a b c d e f g : Value) : Rl1 w n co cc rs rs1 (((((((W.setCell ⟨B, 0, none⟩ a).setCell ⟨B, 1, none⟩ b).setCell ⟨B, 2, none⟩ c).setCell ⟨B, 3, none⟩ d).setCell ⟨B, 4, none⟩ e).setCell ⟨B, 5, none⟩ f).setCell ⟨B, 6, none⟩ g) := by
  obtain ⟨h0, q0⟩ := h.set hb 0 a
  obtain ⟨h1, q1⟩ := h0.set q0 1 b
  obtain ⟨h2, q2⟩ := h1.set q1 2 c
  obtain ⟨h3, q3⟩ := h2.set q2 3 d
  obtain ⟨h4, q4⟩ := h3.set q3 4 e
  obtain ⟨h5, q5⟩ := h4.set q4 5 f
  exact (h5.set q5 6 g).1
theorem lent7 {gc n B : Nat} {D : List Nat} {W : World} (h : Lent W gc n D) (hne : B ≠ gc) (a b c d e f g : Value) : Lent (((((((W.setCell ⟨B, 0, none⟩ a).setCell ⟨B, 1, none⟩ b).setCell ⟨B, 2, none⟩ c).setCell ⟨B, 3, none⟩ d).setCell ⟨B, 4, none⟩ e).setCell ⟨B, 5, none⟩ f).setCell ⟨B, 6, none⟩ g) gc n D := by
  have hr : some B ≠ some gc := by simpa using hne
  exact ((((((h.next (grown_set _ B 0 a) hr).next (grown_set _ B 1 b) hr).next (grown_set _ B 2 c) hr).next (grown_set _ B 3 d) hr).next (grown_set _ B 4 e) hr).next (grown_set _ B 5 f) hr).next (grown_set _ B 6 g) hr
theorem below7 {w W : World} {l B : Nat} (h : Below l w W) (hB : l ≤ B) (a b c d e f g : Value) : Below l w (((((((W.setCell ⟨B, 0, none⟩ a).setCell ⟨B, 1, none⟩ b).setCell ⟨B, 2, none⟩ c).setCell ⟨B, 3, none⟩ d).setCell ⟨B, 4, none⟩ e).setCell ⟨B, 5, none⟩ f).setCell ⟨B, 6, none⟩ g) := by
  have s := fun (X : World) (j : Nat) (u : Value) (hx : Below l w X) => hx.setCell (p := ⟨B, j, none⟩) (by simpa using hB) u
  exact s _ 6 g (s _ 5 f (s _ 4 e (s _ 3 d (s _ 2 c (s _ 1 b (s _ 0 a h))))))

set_option maxRecDepth 10000 in
set_option maxHeartbeats 1600000 in
theorem copyRec_any {w : World} (k num node slot : Int) (st : Nat) {ro : Option Addr} {rs : List Rq} {b off : Nat} (rc n : Nat) (hn : rs.length = n) (h : Rqs w.heap.size w ro rs b off) {do_ : Option Addr} {m dc : Nat} {D : List Nat} (hd : Shows w.heap.size w do_ m dc D) :
    Calls Tryz.prog 12 #[.agg #[.int .i64 k, .int .u64 num, .int .i64 node, .int .u64 slot, .int .u64 (st : Int), .slice ro n rc, .slice do_ m dc]] w fun e w' => ∃ co cc g, e = .returned (.agg #[.int .i64 k, .int .u64 num, .int .i64 node, .int .u64 slot, .int .u64 (st : Int), .slice co n cc, .slice (some ⟨g, 0, none⟩) m (m + 4)]) ∧ Hid (∃ rs1, Rl1 w n co cc rs rs1 w' ∧ Lent w' g m D ∧ Below w.heap.size w w') := by
  obtain ⟨W3, hW3⟩ : ∃ W3, ((w.alloc (.cells #[.int .i64 k, .int .u64 num, .int .i64 node, .int .u64 slot, .int .u64 (st : Int), .slice ro n rc, .slice do_ m dc] 31)).alloc (.cells #[.int .i64 0, .int .u64 0, .int .i64 0, .int .u64 0, .int .u64 0, .slice none 0 0, .slice none 0 0] 31)).alloc (.cells #[.int .i64 k, .int .u64 num, .int .i64 node, .int .u64 slot, .int .u64 (st : Int), .slice ro n rc, .slice do_ m dc] 31) = W3 := ⟨_, rfl⟩
  have s1 : (w.alloc (.cells #[.int .i64 k, .int .u64 num, .int .i64 node, .int .u64 slot, .int .u64 (st : Int), .slice ro n rc, .slice do_ m dc] 31)).heap.size = w.heap.size + 1 := by simp
  have s2 : ((w.alloc (.cells #[.int .i64 k, .int .u64 num, .int .i64 node, .int .u64 slot, .int .u64 (st : Int), .slice ro n rc, .slice do_ m dc] 31)).alloc (.cells #[.int .i64 0, .int .u64 0, .int .i64 0, .int .u64 0, .int .u64 0, .slice none 0 0, .slice none 0 0] 31)).heap.size = w.heap.size + 1 + 1 := by simp
  have s3 : W3.heap.size = w.heap.size + 3 := by rw [← hW3]; simp
  have b3 : Below w.heap.size w W3 := by rw [← hW3]; exact ((below_alloc1 w _).alloc (by simp) _).alloc (by simp; omega) _
  have q2 : W3.heap[w.heap.size + 1 + 1]? = some (.cells #[.int .i64 k, .int .u64 num, .int .i64 node, .int .u64 slot, .int .u64 (st : Int), .slice ro n rc, .slice do_ m dc] 31 (0, 0)) := by rw [← hW3, ← s2]; exact alloc_at _ _
  have q1 : W3.heap[w.heap.size + 1]? = some (.cells #[.int .i64 0, .int .u64 0, .int .i64 0, .int .u64 0, .int .u64 0, .slice none 0 0, .slice none 0 0] 31 (0, 0)) := by
    rw [← hW3, ← s1]
    exact ((World.grownBy_alloc _ _ none).block _ (by rw [s1, s2]; omega) (by simp)).trans (alloc_at _ _)
  have q0 : W3.heap[w.heap.size]? = some (.cells #[.int .i64 k, .int .u64 num, .int .i64 node, .int .u64 slot, .int .u64 (st : Int), .slice ro n rc, .slice do_ m dc] 31 (0, 0)) := by
    rw [← hW3]
    exact ((World.grownBy_alloc _ _ none).block _ (by rw [s2]; omega) (by simp)).trans (((World.grownBy_alloc _ _ none).block _ (by rw [s1]; omega) (by simp)).trans (alloc_at _ _))
  have HC := hide (copyB st rc n hn ((h.below b3).wide b3.size))
  have HDS : Hid (∀ W, Below w.heap.size w W → Shows W.heap.size W do_ m dc D) := fun W hb => (hd.belowL hb).wide hb.size
  have Q0 := hide q0
  have Q1 := hide q1
  have Q2 := hide q2
  have B3 := hide b3
  have HW3 := hide hW3
  have S3 := hide s3
  clear q0 q1 q2 b3 hW3 s1 s2 s3 h hd
  go_enter Tryz.func12, Tryz.ntmps12
  go_wp2_with fail
  refine Calls.atW HW3.out ?_
  clear HW3
  refine HC.out.mono ?_
  rintro e w4 ⟨co, cc, rfl, G4⟩
  obtain ⟨rs1, l1, o1, v1, t1, u1, b4⟩ := G4.out
  have L4 : Hid (Rl1 w n co cc rs rs1 w4) := ⟨l1, o1.lower (by have := S3.out; omega), v1, t1, u1⟩
  have B4 := hide (B3.out.trans (b4.mono B3.out.size))
  have q0 := (b4.block _ (block_lt Q0.out)).trans Q0.out
  have q1 := (b4.block _ (block_lt Q1.out)).trans Q1.out
  have q2 := (b4.block _ (block_lt Q2.out)).trans Q2.out
  clear l1 o1 v1 t1 u1 b4 G4 HC
  obtain ⟨L5, q5⟩ := L4.out.set q2 4 (.int .u64 (st : Int))
  obtain ⟨L6, q6⟩ := L5.set q5 5 (.slice co n cc)
  have g6 : w4.grownBy ((w4.setCell ⟨w.heap.size + 1 + 1, 4, none⟩ (.int .u64 (st : Int))).setCell ⟨w.heap.size + 1 + 1, 5, none⟩ (.slice co n cc)) (some (w.heap.size + 1 + 1)) := grown_trans (row := some (w.heap.size + 1 + 1)) (grown_set _ _ _ _) (grown_set _ _ _ _)
  obtain ⟨X, hX⟩ : ∃ X, (w4.setCell ⟨w.heap.size + 1 + 1, 4, none⟩ (.int .u64 (st : Int))).setCell ⟨w.heap.size + 1 + 1, 5, none⟩ (.slice co n cc) = X := ⟨_, rfl⟩
  rw [hX] at L6 q6 g6
  have LX := hide L6
  have QX2 := hide q6
  have QX1 := hide ((g6.block _ (block_lt q1) (by simp)).trans q1)
  have BX := hide (B4.out.grown g6 B4.out.size (fun k e => by cases e; omega))
  have HX := hide hX
  have y4 := block_cell q2 4
  have y5 := block_cell q2 5
  have z4 := block_free q2 4
  have z5 := block_free q2 5
  have x6 := block_cell q0 6
  simp at y4 y5 x6
  have hl4 := block_lt q2
  clear q0 q1 q2 L5 q5 L6 q6 g6 hX Q0 Q1 Q2
  go_wp2_with fail
  refine Calls.atW HX.out ?_
  clear HX y4 y5 z4 z5 x6 hl4
  refine (lendD (HDS.out X BX.out)).mono ?_
  rintro e w7 ⟨rfl, G7⟩
  have gq := below_none G7.out.2
  have L7 := hide (LX.out.next gq (by cases (Value.slice co n cc).ownBlock <;> simp) (fun _ _ _ _ => by simp))
  have T7 := hide G7.out.1
  have B7 := hide (BX.out.grown gq BX.out.size (fun k e => by cases e))
  have q2 := (gq.block _ (block_lt QX2.out) (by simp)).trans QX2.out
  have q1 := (gq.block _ (block_lt QX1.out) (by simp)).trans QX1.out
  have hXs : w.heap.size + 1 + 1 < X.heap.size := block_lt QX2.out
  clear G7 gq
  generalize X.heap.size = g at *
  obtain ⟨L8, q8⟩ := L7.out.set q2 6 (.slice (some ⟨g, 0, none⟩) m (m + 4))
  have gs := grown_set w7 (w.heap.size + 1 + 1) 6 (.slice (some ⟨g, 0, none⟩) m (m + 4))
  have q9 := (gs.block _ (block_lt q1) (by simp)).trans q1
  have T8 := hide (T7.out.next gs (by simp; omega))
  have B8 := hide (B7.out.grown gs B7.out.size (fun k e => by cases e; omega))
  obtain ⟨Y, hY⟩ : ∃ Y, w7.setCell ⟨w.heap.size + 1 + 1, 6, none⟩ (.slice (some ⟨g, 0, none⟩) m (m + 4)) = Y := ⟨_, rfl⟩
  rw [hY] at L8 q8 q9 T8 B8
  have FIN : Hid (Rl1 w n co cc rs rs1 (((((((Y.setCell ⟨w.heap.size + 1, 0, none⟩ (.int .i64 k)).setCell ⟨w.heap.size + 1, 1, none⟩ (.int .u64 num)).setCell ⟨w.heap.size + 1, 2, none⟩ (.int .i64 node)).setCell ⟨w.heap.size + 1, 3, none⟩ (.int .u64 slot)).setCell ⟨w.heap.size + 1, 4, none⟩ (.int .u64 (st : Int))).setCell ⟨w.heap.size + 1, 5, none⟩ (.slice co n cc)).setCell ⟨w.heap.size + 1, 6, none⟩ (.slice (some ⟨g, 0, none⟩) m (m + 4))) ∧ Lent (((((((Y.setCell ⟨w.heap.size + 1, 0, none⟩ (.int .i64 k)).setCell ⟨w.heap.size + 1, 1, none⟩ (.int .u64 num)).setCell ⟨w.heap.size + 1, 2, none⟩ (.int .i64 node)).setCell ⟨w.heap.size + 1, 3, none⟩ (.int .u64 slot)).setCell ⟨w.heap.size + 1, 4, none⟩ (.int .u64 (st : Int))).setCell ⟨w.heap.size + 1, 5, none⟩ (.slice co n cc)).setCell ⟨w.heap.size + 1, 6, none⟩ (.slice (some ⟨g, 0, none⟩) m (m + 4))) g m D ∧ Below w.heap.size w (((((((Y.setCell ⟨w.heap.size + 1, 0, none⟩ (.int .i64 k)).setCell ⟨w.heap.size + 1, 1, none⟩ (.int .u64 num)).setCell ⟨w.heap.size + 1, 2, none⟩ (.int .i64 node)).setCell ⟨w.heap.size + 1, 3, none⟩ (.int .u64 slot)).setCell ⟨w.heap.size + 1, 4, none⟩ (.int .u64 (st : Int))).setCell ⟨w.heap.size + 1, 5, none⟩ (.slice co n cc)).setCell ⟨w.heap.size + 1, 6, none⟩ (.slice (some ⟨g, 0, none⟩) m (m + 4)))) :=
    ⟨L8.set7 q9 _ _ _ _ _ _ _, lent7 T8.out (by omega) _ _ _ _ _ _ _, below7 B8.out (by omega) _ _ _ _ _ _ _⟩
  simp only [List.setIfInBounds_toArray, List.set_cons_zero, List.set_cons_succ] at q2
  have x0 := block_cell q2 0
  have x1 := block_cell q2 1
  have x2 := block_cell q2 2
  have x3 := block_cell q2 3
  have x4 := block_cell q2 4
  have x5 := block_cell q2 5
  have x6 := block_cell q2 6
  have y0 := block_cell q1 0
  have y1 := block_cell q1 1
  have y2 := block_cell q1 2
  have y3 := block_cell q1 3
  have y4 := block_cell q1 4
  have y5 := block_cell q1 5
  have y6 := block_cell q1 6
  have z0 := block_free q1 0
  have z1 := block_free q1 1
  have z2 := block_free q1 2
  have z3 := block_free q1 3
  have z4 := block_free q1 4
  have z5 := block_free q1 5
  have z6 := block_free q1 6
  have v6 := block_free q2 6
  simp at x0 x1 x2 x3 x4 x5 x6 y0 y1 y2 y3 y4 y5 y6
  have HY := hide hY
  have hl7 := block_lt q2
  clear q1 q2 q8 q9 L8 gs T8 B8 hY L7 T7 B7
  go_wp2
  refine bodyPost_ret (v := .agg #[.int .i64 k, .int .u64 num, .int .i64 node, .int .u64 slot, .int .u64 (st : Int), .slice co n cc, .slice (some ⟨g, 0, none⟩) m (m + 4)]) (by simp [results, Tryz.results12, go_sem, y0, y1, y2, y3, y4, y5, y6]) rfl ?_
  rw [HY.out]
  exact ⟨_, _, _, rfl, rs1, FIN.out⟩
end Go.Proofs.YtgaalaoflaklgaaGreat
namespace Go.Proofs.YtgaalaoflaklgaaGreat
open Go.RowKit Crc

/-- Why a record may not be laid down, and where. -/
def rB1 (k : Int) (num : Nat) (node : Int) : Prop := if k ≤ 3 then balBad num node else num ≠ 0 ∨ node ≠ 0
def rB2 (k : Int) (slot : Nat) : Prop := 1099511627776 < slot ∨ ((k = 1 ∨ k = 3) ∧ slot ≠ 0)
def rC3 (k : Int) (st : Nat) (rs : List Rq) : Int := if k = 2 then (bFault st rs).2 else if st ≠ 0 ∨ rs.length ≠ 0 then 29 else 0
def rC4 (k : Int) (m : Nat) : Int := if k ≠ 5 ∧ 0 < m then 29 else if 40000 < m then 21 else 0
instance (k : Int) (num : Nat) (node : Int) : Decidable (rB1 k num node) := by unfold rB1; infer_instance
instance (k : Int) (slot : Nat) : Decidable (rB2 k slot) := by unfold rB2; infer_instance
def rNo (k : Int) (num : Nat) (node : Int) (slot st : Nat) (rs : List Rq) (m : Nat) : Int × Int :=
  if k < 1 ∨ 5 < k then (25, 0) else if rB1 k num node then (29, 1) else if rB2 k slot then (29, 2) else if rC3 k st rs ≠ 0 then (rC3 k st rs, 3) else if rC4 k m ≠ 0 then (rC4 k m, 4) else (0, 0)
def NoP (w : World) (k : Int) (num : Nat) (node : Int) (slot st : Nat) (ro : Option Addr) (n rc : Nat) (do_ : Option Addr) (m dc : Nat) (c a : Int) : Prop :=
  Calls Tryz.prog 41 #[.agg #[.int .i64 k, .int .u64 (num : Int), .int .i64 node, .int .u64 (slot : Int), .int .u64 (st : Int), .slice ro n rc, .slice do_ m dc]] w fun e w' => e = .returned (.agg #[.int .i64 c, .int .i64 a]) ∧ Hid (Below w.heap.size w w')
theorem bx_no {w W : World} {R : Array Value} (hW : (w.alloc (.cells R 31)).alloc (.cells #[.int .i64 0, .int .i64 0] 51) = W) : Below w.heap.size w W ∧ W.heap[w.heap.size]? = some (.cells R 31 (0, 0)) ∧ W.heap[w.heap.size + 1]? = some (.cells #[.int .i64 0, .int .i64 0] 51 (0, 0)) := by
  have e1 : (w.alloc (.cells R 31)).heap.size = w.heap.size + 1 := by simp
  refine ⟨?_, ?_, ?_⟩
  · rw [← hW]; exact (below_alloc1 w _).alloc (by simp) _
  · rw [← hW]; exact ((World.grownBy_alloc _ _ none).block _ (by rw [e1]; omega) (by simp)).trans (alloc_at _ _)
  · rw [← hW, ← e1]; exact alloc_at _ _
theorem below_two {w W : World} (hb : Below w.heap.size w W) (x y : Value) : Below w.heap.size w ((W.setCell ⟨w.heap.size + 1, 0, none⟩ x).setCell ⟨w.heap.size + 1, 1, none⟩ y) := (hb.setCell (p := ⟨w.heap.size + 1, 0, none⟩) (by simp) x).setCell (p := ⟨w.heap.size + 1, 1, none⟩) (by simp) y
theorem below_two_alloc {w W : World} (hb : Below w.heap.size w W) (x y : Value) (o : Obj) : Below w.heap.size w (((W.setCell ⟨w.heap.size + 1, 0, none⟩ x).setCell ⟨w.heap.size + 1, 1, none⟩ y).alloc o) := (below_two hb x y).alloc (below_two hb x y).size o

theorem batchNoN {w W : World} {st : Nat} {ro : Option Addr} {rs : List Rq} {b off rc n : Nat} (h : Rqs w.heap.size w ro rs b off) (hb : Below w.heap.size w W) (hn : rs.length = n) :
    Calls Tryz.prog 67 #[.agg #[.int .u64 (st : Int), .slice ro n rc]] W fun e w' => e = .returned (.agg #[.int .i64 (bFault st rs).2, .int .i64 ((bFault st rs).1 : Int)]) ∧ Hid (Below W.heap.size W w') := by
  have h1 := batchNo_any st rc ((h.below hb).wide hb.size)
  rw [hn] at h1
  exact h1.mono (fun _ _ h => ⟨h.1, h.2⟩)

set_option maxRecDepth 10000 in
set_option maxHeartbeats 800000 in
theorem rn_lo {w : World} {k : Int} {num : Nat} {node : Int} {slot st : Nat} {ro : Option Addr} {rc n : Nat} {do_ : Option Addr} {m dc : Nat}  (hk : k < 1) : NoP w k num node slot st ro n rc do_ m dc 25 0 := by
  unfold NoP
  obtain ⟨W, hW⟩ : ∃ W, (w.alloc (.cells #[.int .i64 k, .int .u64 (num : Int), .int .i64 node, .int .u64 (slot : Int), .int .u64 (st : Int), .slice ro n rc, .slice do_ m dc] 31)).alloc (.cells #[.int .i64 0, .int .i64 0] 51) = W := ⟨_, rfl⟩
  obtain ⟨b0, q0, q1⟩ := bx_no hW
  have d0 : decide (k < 1) = true := by simp; omega
  have B0 := hide b0
  have Q0 := hide q0
  have Q1 := hide q1
  have HW := hide hW
  clear b0 q0 q1 hW
  go_enter Tryz.func41, Tryz.ntmps41
  have hWW := HW.out
  subst hWW
  go_wp2
  refine bodyPost_ret (v := .agg #[.int .i64 25, .int .i64 0]) (by simp [results, Tryz.results41, go_sem]) rfl ⟨rfl, ?_⟩
  first
  | exact below_two B0.out _ _
  | exact below_two_alloc B0.out _ _ _
  | exact (below_alloc1 w _).alloc (by simp) _
  | exact ((below_alloc1 w _).alloc (by simp) _).alloc (by simp; omega) _

set_option maxRecDepth 10000 in
set_option maxHeartbeats 800000 in
theorem rn_hi {w : World} {k : Int} {num : Nat} {node : Int} {slot st : Nat} {ro : Option Addr} {rc n : Nat} {do_ : Option Addr} {m dc : Nat}  (hk : 5 < k) : NoP w k num node slot st ro n rc do_ m dc 25 0 := by
  unfold NoP
  obtain ⟨W, hW⟩ : ∃ W, (w.alloc (.cells #[.int .i64 k, .int .u64 (num : Int), .int .i64 node, .int .u64 (slot : Int), .int .u64 (st : Int), .slice ro n rc, .slice do_ m dc] 31)).alloc (.cells #[.int .i64 0, .int .i64 0] 51) = W := ⟨_, rfl⟩
  obtain ⟨b0, q0, q1⟩ := bx_no hW
  have d0 : decide (k < 1) = false := by simp; omega
  have d1 : decide (k > 5) = true := by simp; omega
  have B0 := hide b0
  have Q0 := hide q0
  have Q1 := hide q1
  have HW := hide hW
  clear b0 q0 q1 hW
  go_enter Tryz.func41, Tryz.ntmps41
  have hWW := HW.out
  subst hWW
  go_wp2
  refine bodyPost_ret (v := .agg #[.int .i64 25, .int .i64 0]) (by simp [results, Tryz.results41, go_sem]) rfl ⟨rfl, ?_⟩
  first
  | exact below_two B0.out _ _
  | exact below_two_alloc B0.out _ _ _
  | exact (below_alloc1 w _).alloc (by simp) _
  | exact ((below_alloc1 w _).alloc (by simp) _).alloc (by simp; omega) _
end Go.Proofs.YtgaalaoflaklgaaGreat
