import Derived.Test.YthbpacilceemlaaQSeqB
namespace Go.Proofs.Ythbpacilceemlaa
open Go.RowKit Crc

theorem blobAt_700 (B : List Nat) : (blobAt B 700).1.length ≤ 700 := by
  unfold blobAt
  split
  · simp
  · split
    · simp
    · simp only [List.length_take, List.length_drop]
      have := countAt_ok B 700
      omega
theorem rdGo_len : ∀ (n : Nat) (s : RS), (rdGo n s).1.length = n ∧ ∀ x ∈ (rdGo n s).1, x.2.2.length ≤ 700
  | 0, s => ⟨rfl, fun x hx => by simp [rdGo] at hx⟩
  | n + 1, s => by
    obtain ⟨h1, h2⟩ := rdGo_len n (rqS3 s)
    refine ⟨by simp [rdGo, h1], fun x hx => ?_⟩
    rw [rdGo] at hx
    rcases List.mem_cons.1 hx with rfl | hx
    · exact blobAt_700 _
    · exact h2 x hx
theorem bN_le (s : RS) : bN s ≤ 8 := by
  have h := countAt_ok (bS1 s).rest 8
  unfold bN
  by_cases hz : (countAt (bS1 s).rest 8).2.2 = 0
  · have := h.2.2.1 hz (by omega); omega
  · have := (h.2.2.2.2 hz).1; omega
/-- What is read of bytes: the fault and its place, or the batch. -/
def dC (B : List Nat) : Int := (bEnd (RS1 B)).endC
def dA (B : List Nat) : Int := if dC B = 0 then 0 else (bEnd (RS1 B)).endA
def dS (B : List Nat) : Nat := if dC B = 0 then (numAt (RS1 B).rest).1 else 0
def dV (B : List Nat) : List (Nat × Nat × List Nat) := if dC B = 0 then bVals (RS1 B) else []
def dN (B : List Nat) : Nat := (dV B).length
theorem dN_le (B : List Nat) : dN B ≤ 8 := by
  unfold dN dV
  split
  · unfold bVals; rw [(rdGo_len _ _).1]; exact bN_le _
  · simp
theorem dV_le (B : List Nat) : ∀ x ∈ dV B, x.2.2.length ≤ 700 := by
  unfold dV
  split
  · unfold bVals; exact (rdGo_len _ _).2
  · simp
/-- A batch of its own. -/
structure Bt (base : Nat) (w : World) (v : Value) (rs : List Rq) : Prop where
  own : OwnRs base w v rs
  free : FreeRs base w rs
theorem Bt.quiet {base : Nat} {w w' : World} {v : Value} {rs : List Rq} (h : Bt base w v rs) (hg : w.grownBy w' none) : Bt base w' v rs := by
  obtain ⟨a, b⟩ := h.own.quiet h.free hg
  exact ⟨a, b⟩
theorem Bt.below {base : Nat} {w w' : World} {v : Value} {rs : List Rq} (h : Bt base w v rs) (hb : Below w.heap.size w w') : Bt base w' v rs := h.quiet (below_none hb)
theorem Bt.past {base g : Nat} {w w' : World} {v : Value} {rs : List Rq} (h : Bt base w v rs) (hg : w.grownBy w' (some g)) (hl : g < base) : Bt base w' v rs := by
  obtain ⟨a, b⟩ := h.own.past h.free hg hl
  exact ⟨a, b⟩
theorem Bt.lt {base : Nat} {w : World} {v : Value} {rs : List Rq} (h : Bt base w v rs) (g : Nat) (e : v.ownBlock = some g) : base ≤ g ∧ g < w.heap.size := h.own.row.lt g e
theorem Bt.ltB {base : Nat} {w : World} {v : Value} {rs : List Rq} (h : Bt base w v rs) (g : Nat) (e : inB rs g) : base ≤ g ∧ g < w.heap.size := by
  obtain ⟨r, hr, e⟩ := e
  exact (h.free.own r hr).1.lt g e
theorem Has.out {S : Nat → Prop} {w w' : World} {base : Nat} {v : Value} {C : List Nat} (h : Owns base w v C) (ho : Out S w w') (hn : ∀ g, v.ownBlock = some g → ¬ S g) : Owns base w' v C := ⟨ho.row h.1 hn, h.2⟩
theorem Bt.out {S : Nat → Prop} {base : Nat} {w w' : World} {v : Value} {rs : List Rq} (h : Bt base w v rs) (ho : Out S w w') (h1 : ∀ g, v.ownBlock = some g → ¬ S g) (h2 : ∀ g, inB rs g → ¬ S g) : Bt base w' v rs := by
  have f2 : FreeRs base w' rs := ⟨fun r hr => Has.out (h.free.own r hr) ho (fun g e => h2 g ⟨r, hr, e⟩), h.free.apart⟩
  refine ⟨⟨ho.row h.own.row h1, fun r hx => ?_, h.own.le⟩, f2⟩
  obtain ⟨vo, vc, hv, hS, _⟩ := (f2.own r hx).form
  have hv' : Value.slice r.co r.cn r.cc = .slice vo r.C.length vc := hv
  simp only [Value.slice.injEq] at hv'
  obtain ⟨e3, e4, e5⟩ := hv'
  refine ⟨(h.own.ok r hx).hc, (h.own.ok r hx).hs, ?_⟩
  rw [e3, e4, e5]
  exact hS
theorem Bt.f0 {base base' : Nat} {w : World} {v lv : Value} {rs : List Rq} (h : Bt base w v rs) (hl : Sls base' w lv rs.length (rs.map Rq.sl)) (hc : ∀ r ∈ rs, r.C.length ≤ 700) : F0 w lv rs := by
  refine ⟨row_lower hl (by omega), fun j r hr => (h.free.own r (List.mem_of_getElem? hr)).lower (by omega), fun i j a b hij ha hb => ?_, h.own.le, fun j r hr => by have := hc r (List.mem_of_getElem? hr); omega⟩
  have hp := List.pairwise_iff_getElem.1 h.free.apart
  obtain ⟨hi, rfl⟩ := List.getElem?_eq_some_iff.1 ha
  obtain ⟨hj, rfl⟩ := List.getElem?_eq_some_iff.1 hb
  rcases Nat.lt_or_gt_of_ne hij with e | e
  · exact hp i j hi hj e
  · rcases hp j i hj hi e with h1 | h1
    · cases e2 : (rs[i]).sl.ownBlock with
      | none => exact .inl rfl
      | some g => exact .inr (by rw [h1]; simp)
    · exact .inr (fun e2 => h1 e2.symm)
theorem Bt.q1 {base : Nat} {w : World} {v : Value} {rs : List Rq} (h : Bt base w v rs) : Q1 w v rs.length 0 w := by
  refine ⟨⟨rcells rs, row_lower h.own.row (by omega), fun t ht => ?_⟩, rfl, rfl, rfl, Nat.le_refl _, fun _ _ _ => rfl⟩
  exact ⟨rs[t].sq, rcells_at rs t rs[t] (List.getElem?_eq_getElem ht) 1 _ rfl, fun h => by omega⟩
theorem Bt.form {base : Nat} {w : World} {v : Value} {rs : List Rq} (h : Bt base w v rs) : ∃ ao cap, v = .slice ao rs.length cap ∧ ∃ b, Rqs w.heap.size w ao rs b 0 := by
  obtain ⟨ao, cap, b, e, hr⟩ := h.own.form
  exact ⟨ao, cap, e, b, hr⟩
theorem Bt.ne {base base' : Nat} {w : World} {v u : Value} {rs : List Rq} (h : Bt base w v rs) {xs : List Value} {k : Nat} (hr : w.ownsRow base' 113 3 u k xs) : ∀ g, u.ownBlock = some g → ¬ inB rs g := fun g e ⟨r, hx, e2⟩ => by
  rcases owns_ne_row (h.free.own r hx) hr with h1 | h1
  · rw [h1] at e2; cases e2
  · exact h1 (e2.trans e.symm)
theorem val_len {rs : List Rq} {V : List (Nat × Nat × List Nat)} (h : rs.map Rq.val = V) : rs.length = V.length := by rw [← h]; simp
theorem val_cl {rs : List Rq} {B : List Nat} (h : rs.map Rq.val = dV B) : ∀ r ∈ rs, r.C.length ≤ 700 := fun r hr => by
  have := dV_le B (Rq.val r) (by rw [← h]; exact List.mem_map_of_mem hr)
  exact this
theorem ErrV.zero {w : World} {x : Value} {c a : Int} (h : ErrV w x c a) : ErrV w x c (if c = 0 then 0 else a) := by
  rcases h with ⟨h1, h2, h3⟩ | ⟨h1, h2⟩
  · exact .inl ⟨h1, h2, by rw [if_pos h2]⟩
  · exact .inr ⟨by rw [if_neg h2]; exact h1, h2⟩
theorem ErrV.quiet {w w' : World} {x : Value} {c a : Int} (h : ErrV w x c a) (hg : w.grownBy w' none) : ErrV w' x c a := by
  rcases h with h | ⟨⟨g, h1, h2, h3, h4⟩, hc⟩
  · exact .inl h
  · exact .inr ⟨⟨g, h1, hg.cell h2 (by simp), hg.cell h3 (by simp), hg.cell h4 (by simp)⟩, hc⟩

theorem decP {lim : Nat} {w : World} {ao : Option Addr} {n cap : Nat} {B : List Nat} (h : Shows lim w ao n cap B) (hl : lim ≤ w.heap.size) :
    Calls Try.prog 82 #[.slice ao n cap] w fun e w' => ∃ (vo : Option Addr) (vc : Nat) (x : Value), e = .returned (.tuple #[.agg #[.int .u64 (dS B : Int), .slice vo (dN B) vc], x]) ∧ Hid (ErrV w' x (dC B) (dA B) ∧ Below w.heap.size w w' ∧ ∃ rs, Bt w.heap.size w' (.slice vo (dN B) vc) rs ∧ rs.map Rq.val = dV B) := by
  refine (decBatch_prog h hl).mono ?_
  rintro e w' ⟨st, v, x, rs, rfl, H⟩
  obtain ⟨h1, h2, h3, h4, h5⟩ := H.out
  have key : st = dS B ∧ rs.map Rq.val = dV B := by
    unfold dS dV
    by_cases hc : (bEnd (RS1 B)).endC = 0
    · rw [if_pos hc] at h5
      rw [if_pos (show dC B = 0 from hc), if_pos (show dC B = 0 from hc)]; exact h5
    · rw [if_neg hc] at h5
      rw [if_neg (show ¬ dC B = 0 from hc), if_neg (show ¬ dC B = 0 from hc)]; exact ⟨h5.1, by rw [h5.2]; rfl⟩
  obtain ⟨e1, e2⟩ := key
  subst e1
  have b : Bt w.heap.size w' v rs := ⟨h3, h4⟩
  obtain ⟨vo, vc, rfl, _⟩ := b.form
  have hn : rs.length = dN B := val_len e2
  rw [hn] at b ⊢
  exact ⟨vo, vc, x, rfl, h1.zero, h2, rs, b, e2⟩
theorem decR {lim : Nat} {w : World} {ao : Option Addr} {n cap : Nat} {B : List Nat} (h : Shows lim w ao n cap B) (hl : lim ≤ w.heap.size) :
    Calls Try.prog 81 #[.slice ao n cap] w fun e w' => ∃ (vo : Option Addr) (vc : Nat), e = .returned (.tuple #[.agg #[.int .u64 (dS B : Int), .slice vo (dN B) vc], .agg #[.int .i64 (dC B), .int .i64 (dA B)]]) ∧ Hid (Below w.heap.size w w' ∧ ∃ rs, Bt w.heap.size w' (.slice vo (dN B) vc) rs ∧ rs.map Rq.val = dV B) := by
  refine (decBatch_ref h hl).mono ?_
  rintro e w' ⟨st, v, rs, rfl, H⟩
  obtain ⟨h2, h3, h4, h5⟩ := H.out
  obtain ⟨s1, s2, s3⟩ := batch_sim (s := RS1 B) ⟨rfl, rfl⟩
  have c1 : (cEnd (RS1 B)).endC = dC B := s1.symm
  have c2 : (if (cEnd (RS1 B)).endC = 0 then (0 : Int) else (cEnd (RS1 B)).endA) = dA B := by
    rw [c1, ← s2]; rfl
  have key : st = dS B ∧ rs.map Rq.val = dV B := by
    unfold dS dV
    by_cases hc : dC B = 0
    · rw [c1, if_pos hc] at h5
      obtain ⟨e3, e4⟩ := s3 hc
      rw [if_pos hc, if_pos hc, e3, e4]; exact h5
    · rw [c1, if_neg hc] at h5
      rw [if_neg hc, if_neg hc]; exact ⟨h5.1, by rw [h5.2]; rfl⟩
  obtain ⟨e1, e2⟩ := key
  subst e1
  have b : Bt w.heap.size w' v rs := ⟨h3, h4⟩
  obtain ⟨vo, vc, rfl, _⟩ := b.form
  have hn : rs.length = dN B := val_len e2
  rw [c2, c1]
  rw [hn] at b ⊢
  exact ⟨vo, vc, rfl, h2, rs, b, e2⟩
theorem sameB {base base' : Nat} {w : World} {a1 a2 : Option Addr} {N c1 c2 : Nat} {rs1 rs2 : List Rq} {V : List (Nat × Nat × List Nat)} (st : Nat) (h1 : Bt base w (.slice a1 N c1) rs1) (h2 : Bt base' w (.slice a2 N c2) rs2) (e1 : rs1.map Rq.val = V) (e2 : rs2.map Rq.val = V) :
    Calls Try.prog 80 #[.agg #[.int .u64 (st : Int), .slice a1 N c1], .agg #[.int .u64 (st : Int), .slice a2 N c2]] w fun e w' => e = .returned (.bool true) ∧ Hid (Below w.heap.size w w') := by
  obtain ⟨x1, k1, f1, b1, r1⟩ := h1.form
  obtain ⟨x2, k2, f2, b2, r2⟩ := h2.form
  cases f1
  have hn : rs2.length = rs1.length := by rw [val_len e1, val_len e2]
  rw [hn] at f2
  cases f2
  have h := sameBatch_any st c1 c2 r1 r2 (Nat.le_refl _) (Nat.le_refl _) (e1.trans e2.symm)
  rw [hn] at h
  exact h
end Go.Proofs.Ythbpacilceemlaa
namespace Go.Proofs.Ythbpacilceemlaa
open Go.RowKit Crc

/-- A batch in a box, its lists between lo and the box. -/
structure Bx (lo p st N : Nat) (vo : Option Addr) (vc : Nat) (V : List (Nat × Nat × List Nat)) (rs : List Rq) (W : World) : Prop where
  box : W.heap[p]? = some (.cells #[.int .u64 (st : Int), .slice vo N vc] 71 (0, 0))
  bt : Bt lo W (.slice vo N vc) rs
  val : rs.map Rq.val = V
  top : ∀ g, (Value.slice vo N vc).ownBlock = some g → g < p
  topB : ∀ g, inB rs g → g < p
  hlo : lo ≤ p
theorem Bx.out {S : Nat → Prop} {lo p st N : Nat} {vo : Option Addr} {vc : Nat} {V : List (Nat × Nat × List Nat)} {rs : List Rq} {W W' : World} (h : Bx lo p st N vo vc V rs W) (ho : Out S W W') (hS : ∀ g, S g → ¬ (lo ≤ g ∧ g ≤ p)) : Bx lo p st N vo vc V rs W' :=
  ⟨(ho.block p (block_lt h.box) (fun e => hS p e ⟨h.hlo, Nat.le_refl _⟩)).trans h.box,
   h.bt.out ho (fun g e hs => hS g hs ⟨(h.bt.lt g e).1, Nat.le_of_lt (h.top g e)⟩) (fun g e hs => hS g hs ⟨(h.bt.ltB g e).1, Nat.le_of_lt (h.topB g e)⟩), h.val, h.top, h.topB, h.hlo⟩
theorem out_grown {w w' : World} {row : Option Nat} (h : w.grownBy w' row) : Out (fun q => row = some q) w w' := ⟨h.os, h.tape, h.output, h.size, fun q hq hn => h.block q hq (fun e => hn e.symm)⟩
theorem Bx.quiet {lo p st N : Nat} {vo : Option Addr} {vc : Nat} {V : List (Nat × Nat × List Nat)} {rs : List Rq} {W W' : World} (h : Bx lo p st N vo vc V rs W) (hg : W.grownBy W' none) : Bx lo p st N vo vc V rs W' := h.out (out_grown hg) (fun g e => by cases e)
theorem Bx.new {lo st N : Nat} {vo : Option Addr} {vc : Nat} {V : List (Nat × Nat × List Nat)} {rs : List Rq} {W : World} (h : Bt lo W (.slice vo N vc) rs) (hv : rs.map Rq.val = V) (hl : lo ≤ W.heap.size) : Bx lo W.heap.size st N vo vc V rs (W.alloc (.cells #[.int .u64 (st : Int), .slice vo N vc] 71)) :=
  ⟨alloc_at _ _, h.quiet (World.grownBy_alloc _ _ none), hv, fun g e => (h.lt g e).2, fun g e => (h.ltB g e).2, hl⟩
theorem Bx.cells {lo p st N : Nat} {vo : Option Addr} {vc : Nat} {V : List (Nat × Nat × List Nat)} {rs : List Rq} {W : World} (h : Bx lo p st N vo vc V rs W) : W.cell? ⟨p, 0, none⟩ = some (.int .u64 (st : Int)) ∧ W.cell? ⟨p, 1, none⟩ = some (.slice vo N vc) := ⟨(block_cell h.box 0).trans rfl, (block_cell h.box 1).trans rfl⟩
theorem Out.toBelow {S : Nat → Prop} {L : Nat} {w w' : World} (h : Out S w w') (hS : ∀ g, S g → L ≤ g) (hL : L ≤ w.heap.size) : Below L w w' := ⟨h.os, h.tape, h.output, h.size, fun k hk => h.block k (by omega) (fun e => by have := hS k e; omega)⟩
/-- The answer beside the batch. -/
def NoB (p : Nat) (c a : Int) (W : World) : Prop := W.cell? ⟨p, 0, none⟩ = some (.int .i64 c) ∧ W.cell? ⟨p, 1, none⟩ = some (.int .i64 a)
theorem NoB.quiet {p : Nat} {c a : Int} {W W' : World} (h : NoB p c a W) (hg : W.grownBy W' none) : NoB p c a W' := ⟨hg.cell h.1 (by simp), hg.cell h.2 (by simp)⟩

theorem Lent.ownsB {w : World} {gc n : Nat} {B : List Nat} (h : Lent w gc n B) (hB : ∀ x ∈ B, x < 256) (hn : n ≤ 140737488351232) : Owns gc w (.slice (some ⟨gc, 0, none⟩) n (n + 4)) B := by
  obtain ⟨h1, h2⟩ := h
  obtain ⟨cur, hg, hs, hc, ht⟩ := own_block h2
  refine ⟨?_, hB, by omega⟩
  rw [← h1]
  refine owns_of (Nat.le_refl _) hg hs (by unfold maxLen; omega) (by omega) ?_
  have h5 := congrArg (List.take n) ht
  rw [List.take_take, Nat.min_eq_left (by omega), vals_append] at h5
  rw [h5]
  have : n = (vals B).length := h1.trans (vals_len B).symm
  rw [this, List.take_left]
theorem Q1.ofRow {base : Nat} {w : World} {v : Value} {rs : List Rq} (h : w.ownsRow base 113 3 v rs.length (rcells rs)) : Q1 w v rs.length 0 w := by
  refine ⟨⟨rcells rs, row_lower h (by omega), fun t ht => ?_⟩, rfl, rfl, rfl, Nat.le_refl _, fun _ _ _ => rfl⟩
  exact ⟨rs[t].sq, rcells_at rs t rs[t] (List.getElem?_eq_getElem ht) 1 _ rfl, fun h => by omega⟩
/-- All that stands when both have read. -/
structure Al (w : World) (p gc lo2 p2 st N : Nat) (vo : Option Addr) (vc : Nat) (go : Option Addr) (gcap : Nat) (V : List (Nat × Nat × List Nat)) (rsv rsg : List Rq) (c a : Int) (n : Nat) (B : List Nat) (W : World) : Prop where
  v : Bx w.heap.size p st N vo vc V rsv W
  g : Bx lo2 p2 st N go gcap V rsg W
  no : NoB (p + 1) c a W
  l : Lent W gc n B
  bel : Below w.heap.size w W
theorem Al.quiet {w : World} {p gc lo2 p2 st N : Nat} {vo : Option Addr} {vc : Nat} {go : Option Addr} {gcap : Nat} {V : List (Nat × Nat × List Nat)} {rsv rsg : List Rq} {c a : Int} {n : Nat} {B : List Nat} {W W' : World} (h : Al w p gc lo2 p2 st N vo vc go gcap V rsv rsg c a n B W) (hg : W.grownBy W' none) : Al w p gc lo2 p2 st N vo vc go gcap V rsv rsg c a n B W' :=
  ⟨h.v.quiet hg, h.g.quiet hg, h.no.quiet hg, h.l.next hg (by simp), h.bel.grown hg h.bel.size (fun k e => by cases e)⟩

set_option maxRecDepth 10000 in
set_option maxHeartbeats 3200000 in
theorem batchRead_any {lim : Nat} {w : World} {ao : Option Addr} {n cap : Nat} {B : List Nat} (h : Shows lim w ao n cap B) (hl : lim ≤ w.heap.size) (hn : n ≤ 140737488351232) :
    Calls Try.prog 34 #[.slice ao n cap] w fun e w' => e = .returned (.bool true) ∧ Hid (Below w.heap.size w w') := by
  have H1 := hide (decR h hl)
  have hB256 : Hid (∀ x ∈ B, x < 256) := h.2.2.2.1
  have HN : Hid (n = B.length) := h.1
  have HS : Hid (∀ W, Below w.heap.size w W → Shows W.heap.size W ao n cap B) := fun W hb => (h.wide hl).belowL hb |>.wide hb.size
  clear h hl
  generalize hds : dS B = st at *
  generalize hdn : dN B = N at *
  generalize hdv : dV B = V at *
  have HN8 : Hid (N ≤ 8) := by show N ≤ 8; rw [← hdn]; exact dN_le B
  have HV7 : Hid (∀ rs : List Rq, rs.map Rq.val = V → ∀ r ∈ rs, r.C.length ≤ 700) := fun rs h => val_cl (B := B) (by rw [hdv]; exact h)
  have HDP : Hid (∀ (W : World) (ao : Option Addr) (n cap : Nat), Shows W.heap.size W ao n cap B → Calls Try.prog 82 #[.slice ao n cap] W fun e w' => ∃ (vo : Option Addr) (vc : Nat) (x : Value), e = .returned (.tuple #[.agg #[.int .u64 (st : Int), .slice vo N vc], x]) ∧ Hid (ErrV w' x (dC B) (dA B) ∧ Below W.heap.size W w' ∧ ∃ rs, Bt W.heap.size w' (.slice vo N vc) rs ∧ rs.map Rq.val = V)) := fun W ao n cap h => by
    have h1 := decP h (Nat.le_refl _)
    rw [hds, hdn, hdv] at h1
    exact h1
  clear hds hdn hdv
  generalize dC B = c at *
  generalize dA B = a at *
  go_enter Try.func34, Try.ntmps34
  go_wp2_with fail
  refine H1.out.mono ?_
  rintro e w1 ⟨vo, vc, rfl, G1⟩
  obtain ⟨W2, hW2⟩ : ∃ W2, (w1.alloc (.cells #[.int .u64 (st : Int), .slice vo N vc] 71)).alloc (.cells #[.int .i64 c, .int .i64 a] 34) = W2 := ⟨_, rfl⟩
  have S2 : Hid (∃ rs, Bx w.heap.size w1.heap.size st N vo vc V rs W2 ∧ NoB (w1.heap.size + 1) c a W2 ∧ Below w.heap.size w W2 ∧ W2.heap.size = w1.heap.size + 2) := by
    obtain ⟨hb, rs, h1, h2⟩ := G1.out
    have hbx := (Bx.new h1 h2 hb.size (st := st)).quiet (World.grownBy_alloc _ (.cells #[.int .i64 c, .int .i64 a] 34) none)
    rw [hW2] at hbx
    have e1 : (w1.alloc (.cells #[.int .u64 (st : Int), .slice vo N vc] 71)).heap.size = w1.heap.size + 1 := by simp
    refine ⟨rs, hbx, ⟨?_, ?_⟩, ?_, by rw [← hW2]; simp⟩
    · rw [← hW2, ← e1]; exact World.cell?_alloc_new _ _ _ _
    · rw [← hW2, ← e1]; exact World.cell?_alloc_new _ _ _ _
    · rw [← hW2]; exact (hb.alloc hb.size _).alloc (by rw [e1]; have := hb.size; omega) _
  have HW2 := hide hW2
  clear hW2 G1
  go_wp2_with fail
  rw [HW2.out]
  generalize w1.heap.size = p at *
  clear HW2 H1
  obtain ⟨rsv, BV, NO, HB2, hs2⟩ := S2.out
  clear S2
  refine (lend_sh (HS.out W2 HB2) (Nat.le_refl _)).mono ?_
  rintro e w3 ⟨rfl, hL3, hB3⟩
  have BV3 := hide (BV.quiet (below_none hB3))
  have NO3 := hide (NO.quiet (below_none hB3))
  have BEL3 := hide (HB2.trans (hB3.mono HB2.size))
  have L3 := hide hL3
  have hs3 := hB3.size
  have hp2 : p < W2.heap.size := by omega
  clear BV NO HB2 hL3 hB3 hs2
  generalize W2.heap.size = gc at *
  go_wp2_with fail
  refine (HDP.out w3 _ _ _ (L3.out.shows hB256.out (by omega))).mono ?_
  rintro e w4 ⟨go', gc', x, rfl, G4⟩
  have S5 : Hid (∃ rsg, Al w p gc w3.heap.size w4.heap.size st N vo vc go' gc' V rsv rsg c a n B (w4.alloc (.cells #[.int .u64 (st : Int), .slice go' N gc'] 71)) ∧ ErrV (w4.alloc (.cells #[.int .u64 (st : Int), .slice go' N gc'] 71)) x c a) := by
    obtain ⟨h1, h2, rsg, h3, h4⟩ := G4.out
    have gA := World.grownBy_alloc w4 (.cells #[.int .u64 (st : Int), .slice go' N gc'] 71) none
    have g3 := grown_quiet (below_none h2) gA
    exact ⟨rsg, ⟨BV3.out.quiet g3, Bx.new h3 h4 h2.size, NO3.out.quiet g3, L3.out.next g3 (by simp), BEL3.out.grown g3 BEL3.out.size (fun k e => by cases e)⟩, h1.quiet gA⟩
  have hg3 : gc < w3.heap.size := by
    obtain ⟨cur, hg, _⟩ := own_block L3.out.2
    exact block_lt hg
  have h34 : w3.heap.size ≤ w4.heap.size := G4.out.2.1.size
  obtain ⟨rsg, A5, E5⟩ := S5.out
  have A5 := hide A5
  have E5 := hide E5
  have hwp : w.heap.size ≤ p := A5.out.v.hlo
  clear S5 G4 BV3 NO3 L3 BEL3 hs3
  go_wp2_with fail
  generalize w4.alloc (.cells #[.int .u64 (st : Int), .slice go' N gc'] 71) = W5 at *
  generalize w3.heap.size = lo2 at *
  generalize w4.heap.size = p2 at *
  refine (told_any E5.out).mono ?_
  rintro e w6 ⟨rfl, q6, hq6⟩
  have A6 := hide (A5.out.quiet (W' := w6) (by rw [hq6]; exact drew_grown _ _))
  clear hq6 A5 E5
  obtain ⟨v0, v1⟩ := A6.out.v.cells
  obtain ⟨g0, g1⟩ := A6.out.g.cells
  go_wp2_with fail
  clear v0 v1 g0 g1
  refine (sameB st A6.out.g.bt A6.out.v.bt A6.out.g.val A6.out.v.val).mono ?_
  rintro e w7 ⟨rfl, hb7⟩
  have A7 := hide (A6.out.quiet (below_none hb7.out))
  clear hb7 A6
  obtain ⟨n0, n1⟩ := A7.out.no
  go_wp2_with fail
  clear n0 n1
  refine (kept_sh (HS.out w7 A7.out.bel) A7.out.l).mono ?_
  rintro e w8 ⟨rfl, q8, hq8⟩
  have A8 := hide (A7.out.quiet (W' := w8) (by rw [hq8]; exact drew_grown _ _))
  clear hq8 A7
  go_wp2_with fail
  refine (spoil_any (A8.out.l.ownsB hB256.out hn) (by have := HN.out; omega) 13 13 rfl (by omega)).mono ?_
  rintro e w9 ⟨rfl, hg9⟩
  have S9 : Hid (Bx w.heap.size p st N vo vc V rsv w9 ∧ Bx lo2 p2 st N go' gc' V rsg w9 ∧ Below w.heap.size w w9) := by
    have o9 := out_grown hg9
    refine ⟨A8.out.v.out o9 (fun g e => ?_), A8.out.g.out o9 (fun g e => ?_), A8.out.bel.trans (o9.toBelow (fun g e => ?_) A8.out.bel.size)⟩
    · have e : gc = g := Option.some.inj e
      omega
    · have e : gc = g := Option.some.inj e
      omega
    · have e : gc = g := Option.some.inj e
      omega
  clear hg9 A8
  go_wp2_with fail
  refine (lend_sh (HS.out w9 S9.out.2.2) (Nat.le_refl _)).mono ?_
  rintro e w10 ⟨rfl, hL10, hB10⟩
  have S10 : Hid (Bx w.heap.size p st N vo vc V rsv w10 ∧ Bx lo2 p2 st N go' gc' V rsg w10 ∧ Below w.heap.size w w10) := by
    have o9 := below_none hB10
    exact ⟨S9.out.1.quiet o9, S9.out.2.1.quiet o9, S9.out.2.2.grown o9 S9.out.2.2.size (fun k e => by cases e)⟩
  have L10 := hide hL10
  clear hL10 hB10 S9
  generalize w9.heap.size = gd at *
  go_wp2_with fail
  refine (HDP.out w10 _ _ _ (L10.out.shows hB256.out (by omega))).mono ?_
  rintro e w11 ⟨ho, hc, x2, rfl, G11⟩
  have S12 : Hid (∃ rsh, Bx w.heap.size p st N vo vc V rsv (w11.alloc (.cells #[.int .u64 (st : Int), .slice ho N hc] 71)) ∧ Bx lo2 p2 st N go' gc' V rsg (w11.alloc (.cells #[.int .u64 (st : Int), .slice ho N hc] 71)) ∧ Below w.heap.size w (w11.alloc (.cells #[.int .u64 (st : Int), .slice ho N hc] 71)) ∧ Bx w10.heap.size w11.heap.size st N ho hc V rsh (w11.alloc (.cells #[.int .u64 (st : Int), .slice ho N hc] 71)) ∧ p2 < w10.heap.size) := by
    obtain ⟨_, h2, rsh, h3, h4⟩ := G11.out
    have gA := World.grownBy_alloc w11 (.cells #[.int .u64 (st : Int), .slice ho N hc] 71) none
    have g3 := grown_quiet (below_none h2) gA
    exact ⟨rsh, S10.out.1.quiet g3, S10.out.2.1.quiet g3, S10.out.2.2.grown g3 S10.out.2.2.size (fun k e => by cases e), Bx.new h3 h4 h2.size, block_lt S10.out.2.1.box⟩
  obtain ⟨rsh, BV, BG, BL, BH, hp3⟩ := S12.out
  have BV := hide BV
  have BG := hide BG
  have BL := hide BL
  have BH := hide BH
  clear S12 S10 G11 L10
  obtain ⟨v0, v1⟩ := BV.out.cells
  obtain ⟨g0, g1⟩ := BG.out.cells
  go_wp2_with fail
  clear v0 v1 g0 g1
  generalize w11.alloc (.cells #[.int .u64 (st : Int), .slice ho N hc] 71) = W12 at *
  have h3 := BH.out.hlo
  generalize w10.heap.size = lo3 at *
  generalize w11.heap.size = p3 at *
  refine (sameB st BG.out.bt BV.out.bt BG.out.val BV.out.val).mono ?_
  rintro e w13 ⟨rfl, hb13⟩
  have BV := hide (BV.out.quiet (below_none hb13.out))
  have BG := hide (BG.out.quiet (below_none hb13.out))
  have BH := hide (BH.out.quiet (below_none hb13.out))
  have BL := hide (BL.out.trans (hb13.out.mono BL.out.size))
  have HCM : Hid (Calls Try.prog 84 #[.agg #[.int .u64 (st : Int), .slice go' N gc']] w13 fun e w' => ∃ v, e = .returned v ∧ Hid (Sls w13.heap.size w' v rsg.length (rsg.map Rq.sl) ∧ Below w13.heap.size w13 w')) := by
    obtain ⟨a1, k1, f1, b1, r1⟩ := BG.out.bt.form
    have h := cmds_any st k1 r1
    rw [← f1] at h
    exact h
  clear hb13
  obtain ⟨g0, g1⟩ := BG.out.cells
  go_wp2_with fail
  clear g0 g1
  refine HCM.out.mono ?_
  rintro e w14 ⟨lv, rfl, G14⟩
  have BV := hide (BV.out.quiet (below_none G14.out.2))
  have BG := hide (BG.out.quiet (below_none G14.out.2))
  have BH := hide (BH.out.quiet (below_none G14.out.2))
  have BL := hide (BL.out.trans (G14.out.2.mono BL.out.size))
  have F14 : Hid (F0 w14 lv rsg) := BG.out.bt.f0 G14.out.1 (HV7.out rsg BG.out.val)
  clear HCM G14
  go_wp2_with fail
  refine (free_any F14.out).mono ?_
  rintro e w15 ⟨rfl, O15⟩
  have R15 : Hid (rsg.length = N) := by
    obtain ⟨a1, k1, f1, _⟩ := BG.out.bt.form
    cases f1
    rfl
  have S15 : Hid (w15.heap[p2]? = some (.cells #[.int .u64 (st : Int), .slice go' N gc'] 71 (0, 0)) ∧ w15.ownsRow lo2 113 3 (.slice go' N gc') rsg.length (rcells rsg) ∧ ∀ g, (Value.slice go' N gc').ownBlock = some g → lo2 ≤ g ∧ g < p2) := by
    refine ⟨(O15.out.block p2 (block_lt BG.out.box) (fun e => by have := BG.out.topB p2 e; omega)).trans BG.out.box, O15.out.row BG.out.bt.own.row (BG.out.bt.ne BG.out.bt.own.row), fun g e => ⟨(BG.out.bt.lt g e).1, BG.out.top g e⟩⟩
  have BV := hide (BV.out.out O15.out (fun g e => by have := (BG.out.bt.ltB g e).1; omega))
  have BH := hide (BH.out.out O15.out (fun g e => by have := BG.out.topB g e; omega))
  have BL := hide (BL.out.trans (O15.out.toBelow (fun g e => by have := (BG.out.bt.ltB g e).1; omega) BL.out.size))
  clear O15 F14 BG
  have g0 := block_cell S15.out.1 0
  have g1 := block_cell S15.out.1 1
  simp at g0 g1
  have HFR : Hid (Calls Try.prog 85 #[.slice (some ⟨w15.heap.size, 0, none⟩) 1 1] (w15.alloc (.cells #[.int .u64 (st : Int), .slice go' N gc'] 71)) fun e w' => e = .returned (.bool true) ∧ Hid (Out (fun q => (Value.slice go' N gc').ownBlock = some q) (w15.alloc (.cells #[.int .u64 (st : Int), .slice go' N gc'] 71)) w')) := by
    have hq := Q1.ofRow (row_quiet S15.out.2.1 (World.grownBy_alloc w15 (.cells #[.int .u64 (st : Int), .slice go' N gc'] 71) none))
    rw [R15.out] at hq
    exact freeReqs_one (alloc_at _ _) hq (by have := HN8.out; omega)
  go_wp2_with fail
  clear g0 g1
  refine HFR.out.mono ?_
  rintro e w17 ⟨rfl, O17⟩
  have gA := World.grownBy_alloc w15 (.cells #[.int .u64 (st : Int), .slice go' N gc'] 71) none
  have BV := hide ((BV.out.quiet gA).out O17.out (fun g e => by have := S15.out.2.2 g e; omega))
  have BH := hide ((BH.out.quiet gA).out O17.out (fun g e => by have := S15.out.2.2 g e; omega))
  have bA := BL.out.grown gA BL.out.size (fun k e => by cases e)
  have BL := hide (bA.trans (O17.out.toBelow (fun g e => by have := S15.out.2.2 g e; omega) bA.size))
  clear O17 S15 HFR gA bA
  obtain ⟨v0, v1⟩ := BV.out.cells
  obtain ⟨g0, g1⟩ := BH.out.cells
  go_wp2_with fail
  clear v0 v1 g0 g1
  refine (sameB st BH.out.bt BV.out.bt BH.out.val BV.out.val).mono ?_
  rintro e w18 ⟨rfl, hb18⟩
  go_wp2
  go_ret
  exact ⟨rfl, BL.out.trans (hb18.out.mono BL.out.size)⟩
end Go.Proofs.Ythbpacilceemlaa
