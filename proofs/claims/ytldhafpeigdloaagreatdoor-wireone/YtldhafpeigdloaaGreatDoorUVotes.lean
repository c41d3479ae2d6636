import Derived.Test.YtldhafpeigdloaaGreatDoorM15
namespace Go.Proofs.YtldhafpeigdloaaGreatDoor
open Go.RowKit Crc

theorem un_vS1 (s : RS) (l : Nat) : (vS1 s l).un = vS1 s.un l := by
  unfold vS1
  show (if (numAt s.rest).1 < l then (rdBound s 0 1099511627776).failP s.pos 30 else rdBound s 0 1099511627776).un = if (numAt s.rest).1 < l then (rdBound s.un 0 1099511627776).failP s.pos 30 else rdBound s.un 0 1099511627776
  split
  · rw [un_failP, un_rdBound]
  · exact un_rdBound _ _ _
theorem un_vEnd (s : RS) (l : Nat) : (vEnd s l).un = vEnd s.un l := by
  unfold vEnd
  rw [(un_batch _).1, (un_balS _).1, un_vS1]
/-- A vote's values, as they are read. -/
structure Vv where
  (slot num node stamp : Nat) (V : List (Nat × Nat × List Nat))
def vRead (s : RS) (l : Nat) : Vv := ⟨(numAt s.rest).1, (numAt (vS1 s l).rest).1, nodeV (vS1 s l), (numAt (balS (vS1 s l)).rest).1, bVals (balS (vS1 s l))⟩
theorem un_vRead (s : RS) (l : Nat) : vRead s.un l = vRead s l := by
  unfold vRead
  rw [← un_vS1, ← (un_balS (vS1 s l)).1, (un_balS (vS1 s l)).2, (un_batch (balS (vS1 s l))).2]
  rfl
def vNx (a : Nat) : Nat := (a + 1) % 18446744073709551616
theorem wrap_nx (a : Nat) : IntKind.u64.wrap ((a : Int) + 1) = ((vNx a : Nat) : Int) := by
  rw [IntKind.wrap_u64]
  unfold vNx
  omega
/-- The state behind so many votes, and the least slot there. -/
def vSt (s : RS) (l : Nat) : Nat → RS × Nat
  | 0 => (s, l)
  | k + 1 => (vEnd (vSt s l k).1 (vSt s l k).2, vNx (numAt (vSt s l k).1.rest).1)
def vVals (s : RS) (l k : Nat) : List Vv := (List.range k).map fun i => vRead (vSt s l i).1 (vSt s l i).2
theorem vVals_succ (s : RS) (l k : Nat) : vVals s l (k + 1) = vVals s l k ++ [vRead (vSt s l k).1 (vSt s l k).2] := by unfold vVals; rw [List.range_succ]; simp
def vC (s : RS) : RS := s.step (countAt s.rest 8).2.1 (countAt s.rest 8).2.2

/-- A vote that lies in memory. -/
structure Vt where
  (val : Vv) (sl : Value) (rs : List Rq)
def Vt.cells (t : Vt) : List Value := [.int .u64 (t.val.slot : Int), .int .u64 (t.val.num : Int), .int .i64 (t.val.node : Int), .int .u64 (t.val.stamp : Int), t.sl]
def vcells (ts : List Vt) : List Value := (ts.map Vt.cells).flatten
theorem vcells_snoc (ts : List Vt) (t : Vt) : vcells (ts ++ [t]) = vcells ts ++ t.cells := by simp [vcells]
def Vt.lt (t : Vt) (m : Nat) : Prop := (∀ g, t.sl.ownBlock = some g → g < m) ∧ ∀ r ∈ t.rs, ∀ g, r.sl.ownBlock = some g → g < m
def Vt.ge (t : Vt) (m : Nat) : Prop := (∀ g, t.sl.ownBlock = some g → m ≤ g) ∧ ∀ r ∈ t.rs, ∀ g, r.sl.ownBlock = some g → m ≤ g
theorem Vt.lt_of {t : Vt} {base : Nat} {w : World} (h : OwnRs base w t.sl t.rs) (hf : FreeRs base w t.rs) : t.lt w.heap.size := ⟨fun g e => (h.row.lt g e).2, fun r hr g e => ((hf.own r hr).1.lt g e).2⟩
theorem Vt.ge_of {t : Vt} {base : Nat} {w : World} (h : OwnRs base w t.sl t.rs) (hf : FreeRs base w t.rs) : t.ge base := ⟨fun g e => (h.row.lt g e).1, fun r hr g e => ((hf.own r hr).1.lt g e).1⟩
/-- Votes in a list of their own, each with its own lists. -/
structure OwnVs (base : Nat) (w : World) (v : Value) (ts : List Vt) : Prop where
  row : w.ownsRow base 66 5 v ts.length (vcells ts)
  own : ∀ t ∈ ts, OwnRs base w t.sl t.rs ∧ FreeRs base w t.rs
  vals : ∀ t ∈ ts, t.rs.map Rq.val = t.val.V
  apart : ts.Pairwise fun a b => ∃ m, a.lt m ∧ b.ge m
/-- Rows of unlike types are apart. -/
theorem rows_ne {w : World} {b1 b2 s1 s2 n1 n2 : Nat} {t1 t2 : TypeId} {v1 v2 : Value} {x1 x2 : List Value} (h1 : w.ownsRow b1 t1 s1 v1 n1 x1) (h2 : w.ownsRow b2 t2 s2 v2 n2 x2) (hne : t1 ≠ t2) : v1.ownBlock = none ∨ v1.ownBlock ≠ v2.ownBlock := by
  rcases h1.2 with ⟨rfl, _⟩ | ⟨g, cap, cur, rfl, _, hg, _⟩
  · exact .inl rfl
  · refine .inr (fun e => ?_)
    rcases h2.2 with ⟨rfl, _⟩ | ⟨g', cap', cur', rfl, _, hg', _⟩
    · cases e
    · cases e
      rw [hg] at hg'
      cases hg'
      exact hne rfl
theorem rs_vrow {base base' k : Nat} {w w' : World} {v sl : Value} {rs : List Rq} {xs : List Value} (h : OwnRs base w sl rs) (hf : FreeRs base w rs) (hr : w.ownsRow base' 66 5 v k xs) (hg : w.grownBy w' v.ownBlock) : OwnRs base w' sl rs ∧ FreeRs base w' rs :=
  h.next hf hg (rows_ne h.row hr (by decide)) (fun r hx => rows_ne (hf.own r hx).1 hr (by decide))
/-- Between two votes: what has been read. -/
structure Vf (w : World) (lim p : Nat) (s0 : RS) (l0 k : Nat) (v : Value) (ts : List Vt) (s' : RS) (z : Nat) (wr : World) : Prop where
  vb : Vb w lim p s0 k v (vcells ts) s' wr
  len : ts.length = k
  own : OwnVs w.heap.size wr v ts
  st : s'.un = (vSt (vC s0) l0 k).1.un
  lst : z = (vSt (vC s0) l0 k).2
  val : ts.map Vt.val = vVals (vC s0) l0 k
theorem Vf.next {w : World} {lim p : Nat} {s0 : RS} {l0 k : Nat} {v : Value} {ts : List Vt} {s' : RS} {z : Nat} {wr : World} (h : Vf w lim p s0 l0 k v ts s' z wr) (hp : p < w.heap.size) {w1 : World} (hr : RdS lim w1 p (vEnd s' z)) (hg : wr.grownBy w1 (some p)) {t : Vt} (ht : t.val = vRead s' z) (h1 : OwnRs wr.heap.size w1 t.sl t.rs) (h2 : FreeRs wr.heap.size w1 t.rs) (h3 : t.rs.map Rq.val = t.val.V) {o1 o2 : Obj} {w2 : World} {v' : Value} (ho : w2.ownsRow w.heap.size 66 5 v' (k + 1) (vcells ts ++ t.cells)) (hg2 : ((w1.alloc o1).drew.alloc o2).grownBy w2 v.ownBlock) :
    Vf w lim p s0 l0 (k + 1) v' (ts ++ [t]) ((vEnd s' z).setR 5 v') (vNx (numAt s'.rest).1) (w2.setCell ⟨p, 10, none⟩ v') ∧ w2.cell? ⟨p, 10, none⟩ = some v ∧ w2.frozen? ⟨p, 10, none⟩ = false ∧ w1.heap.size < w2.heap.size := by
  obtain ⟨a, b, c, d⟩ := h.vb.next hp hr hg ho hg2
  have gA := grown_quiet (grown_quiet (World.grownBy_alloc w1 o1 none) (drew_grown1' _)) (World.grownBy_alloc (w1.alloc o1).drew o2 none)
  have hrow : ((w1.alloc o1).drew.alloc o2).ownsRow w.heap.size 66 5 v k (vcells ts) := row_quiet (h.vb.row.kept hg (.inr (fun e => absurd (h.vb.row.lt p e).1 (Nat.not_le.2 hp)))) gA
  have keep : ∀ {sl : Value} {rs : List Rq}, OwnRs w.heap.size w1 sl rs → FreeRs w.heap.size w1 rs → OwnRs w.heap.size (w2.setCell ⟨p, 10, none⟩ v') sl rs ∧ FreeRs w.heap.size (w2.setCell ⟨p, 10, none⟩ v') rs := fun {sl rs} q1 q2 => by
    obtain ⟨q3, q4⟩ := q1.quiet q2 gA
    obtain ⟨q5, q6⟩ := rs_vrow q3 q4 hrow hg2
    exact q5.past q6 (grown_set _ _ _ _) hp
  have hsz := h.vb.gr.size
  refine ⟨⟨by rw [vcells_snoc]; exact a, by simp [h.len], ⟨?_, ?_, ?_, ?_⟩, ?_, ?_, ?_⟩, b, c, d⟩
  · rw [vcells_snoc, List.length_append, h.len]
    exact a.row
  · intro x hx
    rcases List.mem_append.1 hx with hx | hx
    · obtain ⟨q1, q2⟩ := h.own.own x hx
      obtain ⟨q3, q4⟩ := q1.past q2 hg hp
      exact keep q3 q4
    · obtain rfl := List.mem_singleton.1 hx
      exact keep (h1.lower hsz) (h2.lower hsz)
  · intro x hx
    rcases List.mem_append.1 hx with hx | hx
    · exact h.own.vals x hx
    · obtain rfl := List.mem_singleton.1 hx
      exact h3
  · refine List.pairwise_append.2 ⟨h.own.apart, List.pairwise_singleton _ _, fun x hx y hy => ?_⟩
    obtain rfl := List.mem_singleton.1 hy
    obtain ⟨q1, q2⟩ := h.own.own x hx
    exact ⟨wr.heap.size, Vt.lt_of q1 q2, Vt.ge_of h1 h2⟩
  · rw [un_setR, un_vEnd, h.st, h.lst, vSt, un_vEnd]
  · show vNx (numAt s'.un.rest).1 = _
    rw [h.st, vSt]
    rfl
  · rw [List.map_append, List.map_singleton, vVals_succ, h.val, ht, ← un_vRead s', h.st, h.lst, un_vRead]

set_option maxRecDepth 10000 in
set_option maxHeartbeats 1600000 in
theorem fVotes_is (lim p : Nat) (s : RS) (w : World) (hR : RdS lim w p s) (hK : s.K.R.length = 49) (i : Nat) (hi : s.K.R[4]? = some (.int .u64 (i : Int))) (hv : s.K.R[5]? = some (.slice none 0 0)) (hpl : s.sound → s.place = 0) (h1c : ∀ u ∈ s.K.R, u.oneCell' = true) :
    Calls Tryz.prog 125 #[.pointer (some ⟨p, 0, none⟩)] w fun e w' => e = .returned (.tuple #[]) ∧ Hid (∃ v ts s' z, Vf w lim p s i (countAt s.rest 8).1 v ts s' z w') := by
  obtain ⟨i0, hi0, hz0, hz1, hz2⟩ := info_parts infoVote
  have hp := hR.plt
  have H2 : Hid (Calls Tryz.prog 131 #[.pointer (some ⟨p, 0, none⟩), .int .i64 8] w fun e w2 => e = .returned (.int .i64 (((countAt s.rest 8).1 : Nat) : Int)) ∧ Hid (∃ s', Vf w lim p s i 0 (.slice none 0 0) [] s' i w2)) := (rCount_any lim p s 8 w hR (by omega) (by omega)).mono (fun _ w2 h => ⟨h.1, s.step (countAt s.rest 8).2.1 (countAt s.rest 8).2.2, ⟨h.2.1, by rw [step_K], by rw [step_K]; exact hK, fun j _ => by rw [step_K], by rw [step_K]; exact hv, World.ownsRow_nil _ _ _ _, h.2.2, RS.step_place hpl _ _, by rw [step_K]; exact h1c⟩, rfl, ⟨World.ownsRow_nil _ _ _ _, fun t ht => (by cases ht), fun t ht => (by cases ht), .nil⟩, rfl, rfl, rfl⟩)
  have hn8 : (countAt s.rest 8).1 ≤ 8 := by
    have h := countAt_ok s.rest 8
    by_cases hz : (countAt s.rest 8).2.2 = 0
    · have := h.2.2.1 hz (by omega); omega
    · have := (h.2.2.2.2 hz).1; omega
  obtain ⟨c4, f4⟩ := hR.cellR 4
  rw [hi] at c4
  clear hR hK hi hv hpl h1c
  generalize (countAt s.rest 8).1 = n at *
  go_enter Tryz.func125, Tryz.ntmps125
  go_wp2_with fail
  refine H2.out.mono ?_
  rintro e w2 ⟨rfl, G2⟩
  clear H2 c4 f4
  go_wp2
  go_loopw [2, 13] (fun x c wr => ∃ (z k : Nat), k ≤ n ∧ x = .int .u64 (z : Int) ∧ c = .int .i64 k ∧ Hid (∃ v ts s', Vf w lim p s i k v ts s' z wr)) (fun _ c _ => n - (intOf c).toNat)
  case atStart =>
    obtain ⟨s', h⟩ := G2.out
    exact ⟨i, 0, by omega, rfl, rfl, _, _, s', h⟩
  case round =>
    obtain ⟨z, k, hk, rfl, rfl, HS⟩ := hrel
    obtain ⟨v, ts, s', vb⟩ := HS.out
    have VB := hide vb
    clear G2 HS vb
    by_cases hlt : k < n
    · have HRV : Hid (Calls Tryz.prog 135 #[.pointer (some ⟨p, 0, none⟩), .int .u64 (z : Int)] wr fun e w1 => ∃ (a b c d : Nat) (vo : Option Addr) (m vc : Nat), e = .returned (.agg #[.int .u64 (a : Int), .int .u64 (b : Int), .int .i64 (c : Int), .int .u64 (d : Int), .slice vo m vc]) ∧ w1.cell? ⟨p, 10, none⟩ = some v ∧ p < w1.heap.size ∧ Hid (RdS lim w1 p (vEnd s' z) ∧ wr.grownBy w1 (some p) ∧ a = (numAt s'.rest).1 ∧ ∃ t : Vt, t.val = vRead s' z ∧ t.cells = [.int .u64 (a : Int), .int .u64 (b : Int), .int .i64 (c : Int), .int .u64 (d : Int), .slice vo m vc] ∧ OwnRs wr.heap.size w1 t.sl t.rs ∧ FreeRs wr.heap.size w1 t.rs ∧ t.rs.map Rq.val = t.val.V)) := by
        refine (readVote_any lim p s' z wr VB.out.vb.rd).mono ?_
        rintro e w1 ⟨v1, rs1, rfl, G⟩
        obtain ⟨g1, g2, g3, g4, g5⟩ := G.out
        obtain ⟨vo, vc, b1, rfl, _⟩ := g1.form
        have c5 := (g4.cellR 5).1
        rw [vEnd_K, VB.out.vb.at5] at c5
        exact ⟨_, _, _, _, vo, _, vc, rfl, c5, g4.plt, g4, g5, rfl, ⟨vRead s' z, .slice vo rs1.length vc, rs1⟩, rfl, rfl, g1, g2, g3⟩
      go_wp2_with fail
      refine HRV.out.mono ?_
      rintro e w1 ⟨a, b, c, d, vo, m, vc, rfl, y1, y2, G1⟩
      clear HRV
      obtain ⟨t, ht⟩ := G1.out.2.2.2
      have HTT := hide ht
      have HAA := hide G1.out.2.2.1
      clear ht
      have HOW : Hid (∀ o1 o2, ((w1.alloc o1).drew.alloc o2).ownsRow w.heap.size 66 5 v k (vcells ts)) := fun o1 o2 => row_quiet (row_quiet (VB.out.vb.row.kept G1.out.2.1 (.inr (fun e => absurd (VB.out.vb.row.lt p e).1 (Nat.not_le.2 hp)))) (grown_quiet (World.grownBy_alloc w1 o1 none) (drew_grown1' _))) (World.grownBy_alloc _ o2 none)
      have HSZ : Hid (w.heap.size ≤ w1.heap.size) := Nat.le_trans VB.out.vb.gr.size G1.out.2.1.size
      have HNEW : Hid (∀ (o1 : Obj) (a b c d e : Value) (t : TypeId) (j : Nat) (u : Value), [a, b, c, d, e][j]? = some u → ((w1.alloc o1).drew.alloc (.cells #[a, b, c, d, e] t)).cell? (Addr.add ⟨w1.heap.size + 1, 0, none⟩ j) = some u) := fun o1 a b c d e t j u hu => by
        have h := cell_vote_new (w1.alloc o1).drew a b c d e t j u hu
        rw [show (w1.alloc o1).drew.heap.size = w1.heap.size + 1 by simp] at h
        exact h
      have HNX : Hid (∀ (v' : Value) (w2 : World) (o1 o2 : Obj), w2.ownsRow w.heap.size 66 5 v' (k + 1) (vcells ts ++ [.int .u64 (a : Int), .int .u64 (b : Int), .int .i64 (c : Int), .int .u64 (d : Int), .slice vo m vc]) → ((w1.alloc o1).drew.alloc o2).grownBy w2 v.ownBlock → Vf w lim p s i (k + 1) v' (ts ++ [t]) ((vEnd s' z).setR 5 v') (vNx a) (w2.setCell ⟨p, 10, none⟩ v') ∧ w2.cell? ⟨p, 10, none⟩ = some v ∧ w2.frozen? ⟨p, 10, none⟩ = false ∧ w1.heap.size < w2.heap.size) := fun v' w2 o1 o2 ho hg => by
        obtain ⟨t1, t2, t3, t4, t5⟩ := HTT.out
        rw [HAA.out]
        exact VB.out.next hp G1.out.1 G1.out.2.1 t1 t3 t4 t5 (o1 := o1) (o2 := o2) (by rw [t2]; exact ho) hg
      have HCX : Hid (∀ (v' : Value) (w2 : World) (a b c d e : Value) (o2 : Obj), ((w1.alloc (.cells #[a, b, c, d, e] 66)).drew.alloc o2).grownBy w2 v.ownBlock → (w2.setCell ⟨p, 10, none⟩ v').cell? ⟨w1.heap.size, 0, none⟩ = some a) := fun v' w2 a b c d e o2 hg => by
        have h1 : ((w1.alloc (.cells #[a, b, c, d, e] 66)).drew.alloc o2).heap[w1.heap.size]? = some (.cells #[a, b, c, d, e] 66 (0, 0)) := ((World.grownBy_alloc (w1.alloc (.cells #[a, b, c, d, e] 66)).drew o2 none).block _ (by simp) (by simp)).trans (alloc_at w1 _)
        have h2 := (hg.block _ (block_lt h1) (fun e2 => absurd (VB.out.vb.row.lt _ e2.symm).2 (Nat.not_lt.2 G1.out.2.1.size))).trans h1
        have h3 := ((grown_set w2 p 10 v').block _ (block_lt h2) (by simp; omega)).trans h2
        have h4 := block_cell h3 0
        simpa using h4
      go_upto_region 4 with fail
      go_region_law (refine step_append_own rfl (.tmp 25) (.tmp 27) 26 rfl w.heap.size 66 i0 (.agg #[.int .u64 0, .int .u64 0, .int .i64 0, .int .u64 0, .slice none 0 0]) 5 56 Tryz.underlying26 hi0 hz0 hz1 hz2 rfl (by decide) v k (vcells ts) (by simp [Act.eval]) (HOW.out _ _) ⟨w1.heap.size + 1, 0, none⟩ 1 1 [.int .u64 (a : Int), .int .u64 (b : Int), .int .i64 (c : Int), .int .u64 (d : Int), .slice vo m vc] (by simp [Act.eval]) rfl (HNEW.out _ _ _ _ _ _ _) (by simp [Value.oneCell']) (by unfold maxLen; omega) (by omega) (by have := HSZ.out; simp; omega) ?_; intro v' w2 ho hg; obtain ⟨g', cap', rfl⟩ := ownsRow_succ ho; have hnx := HNX.out _ _ _ _ ho hg; have NX := hide hnx; obtain ⟨-, z1, z2, z3⟩ := hnx; have hcx := HCX.out (.slice (some ⟨g', 0, none⟩) (k + 1) cap') _ _ _ _ _ _ _ hg; clear ho hg)
      all_goals clear z1 z2 y1
      all_goals go_wp2
      all_goals
        exact ⟨⟨vNx a, k + 1, by omega, by rw [wrap_nx], by go_num, _, _, _, NX.out.1⟩, by simp [intOf]; omega⟩
    · obtain rfl : k = n := by omega
      go_wp2
      go_end0
      exact ⟨rfl, v, ts, s', z, VB.out⟩
end Go.Proofs.YtldhafpeigdloaaGreatDoor
