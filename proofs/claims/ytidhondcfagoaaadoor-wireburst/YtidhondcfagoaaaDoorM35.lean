import Derived.Test.YtidhondcfagoaaaDoorM34
namespace Go.Proofs.YtidhondcfagoaaaDoor
open Go.RowKit Crc

/-- A request that is read. -/
def rqS1 (s : RS) : RS := rdBound s 256 18446744073709551615
def rqS2 (s : RS) : RS := rdNum (rqS1 s)
def rqS3 (s : RS) : RS := (rqS2 s).step (blobAt (rqS2 s).rest 700).2.1 (blobAt (rqS2 s).rest 700).2.2
def rqV (s : RS) : Nat × Nat × List Nat := ((numAt s.rest).1, (numAt (rqS1 s).rest).1, (blobAt (rqS2 s).rest 700).1)
theorem RdS.quiet {lim : Nat} {w w' : World} {p : Nat} {s : RS} (h : RdS lim w p s) (hg : w.grownBy w' none) : RdS lim w' p s := h.kept hg (fun g e => by cases e)

theorem fin_req {lim p : Nat} {w w3 : World} {v : Value} {C : List Nat} {s : RS} (hp : p < w.heap.size) (ho : Owns (w.heap.size + 1) w3 v C) (hR : RdS lim w3 p s) (hg : w.grownBy w3 (some p)) (x y z : Value) :
    Owns (w.heap.size + 1) (((w3.setCell ⟨w.heap.size, 0, none⟩ x).setCell ⟨w.heap.size, 1, none⟩ y).setCell ⟨w.heap.size, 2, none⟩ z) v C ∧ RdS lim (((w3.setCell ⟨w.heap.size, 0, none⟩ x).setCell ⟨w.heap.size, 1, none⟩ y).setCell ⟨w.heap.size, 2, none⟩ z) p s ∧ w.grownBy (((w3.setCell ⟨w.heap.size, 0, none⟩ x).setCell ⟨w.heap.size, 1, none⟩ y).setCell ⟨w.heap.size, 2, none⟩ z) (some p) := by
  have hne : v.ownBlock ≠ some w.heap.size := fun e => by have := (ho.1.lt _ e).1; omega
  have hr : ∀ g, some w.heap.size = some g → lim ≤ g ∧ g ≠ p := fun g e => by cases e; have := hR.limp; exact ⟨by omega, by omega⟩
  refine ⟨((ho.kept (grown_set _ _ _ _) (.inr hne)).kept (grown_set _ _ _ _) (.inr hne)).kept (grown_set _ _ _ _) (.inr hne), ((hR.kept (grown_set _ _ _ _) hr).kept (grown_set _ _ _ _) hr).kept (grown_set _ _ _ _) hr, hg.os, hg.tape, hg.output, by simpa using hg.size, fun k hk hn => ?_⟩
  have e1 := (grown_set w3 w.heap.size 0 x).block k (by have := hg.size; omega) (by simp; omega)
  have e2 := (grown_set (w3.setCell ⟨w.heap.size, 0, none⟩ x) w.heap.size 1 y).block k (by have := hg.size; simp; omega) (by simp; omega)
  have e3 := (grown_set ((w3.setCell ⟨w.heap.size, 0, none⟩ x).setCell ⟨w.heap.size, 1, none⟩ y) w.heap.size 2 z).block k (by have := hg.size; simp; omega) (by simp; omega)
  exact e3.trans (e2.trans (e1.trans (hg.block k hk hn)))

set_option maxRecDepth 10000 in
set_option maxHeartbeats 800000 in
theorem readRequest_any (lim p : Nat) (s : RS) (w : World) (hR : RdS lim w p s) :
    Calls Tryd.prog 69 #[.pointer (some ⟨p, 0, none⟩)] w fun e w' => ∃ vo vc, e = .returned (.agg #[.int .u64 ((rqV s).1 : Int), .int .u64 ((rqV s).2.1 : Int), .slice vo (rqV s).2.2.length vc]) ∧ Hid (Owns (w.heap.size + 1) w' (.slice vo (rqV s).2.2.length vc) (rqV s).2.2 ∧ RdS lim w' p (rqS3 s) ∧ w.grownBy w' (some p)) := by
  have hp := hR.plt
  have hA := World.grownBy_alloc w (.cells #[.int .u64 0, .int .u64 0, .slice none 0 0] 96)
  have H1 : Hid (Calls Tryd.prog 62 #[.pointer (some ⟨p, 0, none⟩), .int .u64 256, .int .u64 18446744073709551615] (w.alloc (.cells #[.int .u64 0, .int .u64 0, .slice none 0 0] 96)) fun e w1 => e = .returned (.int .u64 ((rqV s).1 : Int)) ∧ Hid (RdS lim w1 p (rqS1 s) ∧ (w.alloc (.cells #[.int .u64 0, .int .u64 0, .slice none 0 0] 96)).grownBy w1 (some p))) := readBound_any lim p s 256 18446744073709551615 _ (hR.quiet (hA none))
  have H2 : Hid (∀ w1, RdS lim w1 p (rqS1 s) → Calls Tryd.prog 65 #[.pointer (some ⟨p, 0, none⟩)] w1 fun e w2 => e = .returned (.int .u64 ((rqV s).2.1 : Int)) ∧ Hid (RdS lim w2 p (rqS2 s) ∧ w1.grownBy w2 (some p))) := fun w1 h => (rNum_any lim p (rqS1 s) w1 h).mono (fun _ _ h => ⟨h.1, h.2⟩)
  have H3 : Hid (∀ w2, RdS lim w2 p (rqS2 s) → Calls Tryd.prog 60 #[.pointer (some ⟨p, 0, none⟩), .int .i64 700] w2 fun e w3 => ∃ vo vc, e = .returned (.slice vo (rqV s).2.2.length vc) ∧ Hid (Owns w2.heap.size w3 (.slice vo (rqV s).2.2.length vc) (rqV s).2.2 ∧ RdS lim w3 p (rqS3 s) ∧ w2.grownBy w3 (some p))) := fun w2 h => by
    refine (rBlob_any lim p (rqS2 s) 700 w2 h (by omega) (by omega)).mono ?_
    rintro e w3 ⟨v, rfl, ho, _, hr, hg⟩
    obtain ⟨vo, vc, hv, _, _⟩ := ho.form
    subst hv
    exact ⟨vo, vc, rfl, ho, hr, hg⟩
  have HK : Hid (∀ w1 w2 w3, (w.alloc (.cells #[.int .u64 0, .int .u64 0, .slice none 0 0] 96)).grownBy w1 (some p) → w1.grownBy w2 (some p) → w2.grownBy w3 (some p) → w3.heap[w.heap.size]? = some (.cells #[.int .u64 0, .int .u64 0, .slice none 0 0] 96 (0, 0)) ∧ w.grownBy w3 (some p) ∧ w.heap.size + 1 ≤ w2.heap.size) := by
    intro w1 w2 w3 g1 g2 g3
    have g13 := grown_trans (row := some p) (grown_trans (row := some p) g1 g2) g3
    have hs : (w.alloc (.cells #[.int .u64 0, .int .u64 0, .slice none 0 0] 96)).heap.size = w.heap.size + 1 := by simp
    refine ⟨(g13.block _ (by rw [hs]; omega) (by simp; omega)).trans (alloc_at _ _), grown_trans (row := some p) (hA (some p)) g13, ?_⟩
    have := g1.size; have := g2.size; omega
  clear hR hA
  generalize (rqV s).2.2.length = m at *
  go_enter Tryd.func69, Tryd.ntmps69
  go_wp2_with fail
  refine H1.out.mono ?_
  rintro e w1 ⟨rfl, G1⟩
  go_wp2_with fail
  refine (H2.out w1 G1.out.1).mono ?_
  rintro e w2 ⟨rfl, G2⟩
  go_wp2_with fail
  refine (H3.out w2 G2.out.1).mono ?_
  rintro e w3 ⟨vo, vc, rfl, G3⟩
  obtain ⟨hb, hg, hs⟩ := HK.out w1 w2 w3 G1.out.2 G2.out.2 G3.out.2.2
  have c0 := block_cell hb 0
  have c1 := block_cell hb 1
  have c2 := block_cell hb 2
  have f0 := block_free hb 0
  have f1 := block_free hb 1
  have f2 := block_free hb 2
  simp at c0 c1 c2
  have HG := hide hg
  have HS := hide hs
  clear hb hg hs
  go_wp2
  refine bodyPost_ret (v := .agg #[.int .u64 ((rqV s).1 : Int), .int .u64 ((rqV s).2.1 : Int), .slice vo m vc]) (by simp [results, Tryd.results69, go_sem, c0, c1, c2]) rfl ⟨vo, vc, rfl, ?_⟩
  exact fin_req hp (G3.out.1.lower HS.out) G3.out.2.1 HG.out _ _ _
end Go.Proofs.YtidhondcfagoaaaDoor
namespace Go.Proofs.YtidhondcfagoaaaDoor
open Go.RowKit Crc

/-- Requests that are read, one behind the other. -/
def rdGo : Nat → RS → List (Nat × Nat × List Nat) × RS
  | 0, s => ([], s)
  | n + 1, s => (rqV s :: (rdGo n (rqS3 s)).1, (rdGo n (rqS3 s)).2)
def bS1 (s : RS) : RS := rdBound s 0 1099511627776
def bN (s : RS) : Nat := (countAt (bS1 s).rest 8).1
def bS2 (s : RS) : RS := (bS1 s).step (countAt (bS1 s).rest 8).2.1 (countAt (bS1 s).rest 8).2.2
def bVals (s : RS) : List (Nat × Nat × List Nat) := (rdGo (bN s) (bS2 s)).1
def bEnd (s : RS) : RS := (rdGo (bN s) (bS2 s)).2

def Rq.sl (r : Rq) : Value := .slice r.co r.cn r.cc
/-- Commands in lists of their own, apart from one another. -/
structure FreeRs (base : Nat) (w : World) (rs : List Rq) : Prop where
  own : ∀ r ∈ rs, Owns base w r.sl r.C
  apart : rs.Pairwise fun a b => a.sl.ownBlock = none ∨ a.sl.ownBlock ≠ b.sl.ownBlock
theorem FreeRs.next {base : Nat} {w w' : World} {rs : List Rq} {row : Option Nat} (h : FreeRs base w rs) (hg : w.grownBy w' row) (hr : ∀ r ∈ rs, r.sl.ownBlock = none ∨ r.sl.ownBlock ≠ row) : FreeRs base w' rs := ⟨fun r hx => (h.own r hx).kept hg (hr r hx), h.apart⟩
theorem owns_ne_cells {base B : Nat} {w : World} {v : Value} {C : List Nat} {cs : Array Value} {t : TypeId} (h : Owns base w v C) (hb : w.heap[B]? = some (.cells cs t (0, 0))) (ht : t ≠ 5) : v.ownBlock ≠ some B := by
  intro e
  rcases h.1.2 with ⟨rfl, _⟩ | ⟨g, cap, cur, rfl, _, hg, _⟩
  · cases e
  · cases e
    rw [hg] at hb
    cases hb
    exact ht rfl
theorem owns_ne_row {base base' : Nat} {w : World} {v u : Value} {C : List Nat} {k : Nat} {xs : List Value} (h : Owns base w v C) (hr : w.ownsRow base' 96 3 u k xs) : v.ownBlock = none ∨ v.ownBlock ≠ u.ownBlock := by
  rcases h.1.2 with ⟨rfl, _⟩ | ⟨g, cap, cur, rfl, _, hg, _⟩
  · exact .inl rfl
  · refine .inr (fun e => ?_)
    rcases hr.2 with ⟨rfl, _⟩ | ⟨g', cap', cur', rfl, _, hg', _⟩
    · cases e
    · cases e
      rw [hg] at hg'
      cases hg'

/-- Between two rounds of the reading. -/
structure Rb (w : World) (lim p B stamp n : Nat) (s0 : RS) (k : Nat) (v : Value) (rs1 : List Rq) (s : RS) (wr : World) : Prop where
  gr : w.grownBy wr (some p)
  res : wr.heap[w.heap.size]? = some (.cells #[.int .u64 0, .slice none 0 0] 41 (0, 0))
  box : wr.heap[B]? = some (.cells #[.int .u64 (stamp : Int), v] 41 (0, 0))
  row : wr.ownsRow (B + 1) 96 3 v k (rcells rs1)
  len : rs1.length = k
  free : FreeRs (B + 1) wr rs1
  num : ∀ r ∈ rs1, r.num
  cn : ∀ r ∈ rs1, r.cn = r.C.length
  rd : RdS lim wr p s
  go : rdGo n s0 = (rs1.map Rq.val ++ (rdGo (n - k) s).1, (rdGo (n - k) s).2)

theorem grown_pos {a b : World} {p : Nat} (h : a.grownBy b (some p)) {k : Nat} (hk : k < a.heap.size) (hne : k ≠ p) : b.heap[k]? = a.heap[k]? := h.block k hk (by simpa using hne)

theorem Rb.next {w : World} {lim p B stamp n : Nat} {s0 : RS} {k : Nat} {v v' : Value} {rs1 : List Rq} {s : RS} {wr w1 w2 : World} {vo : Option Addr} {vc : Nat} {o2 : Obj}
    (hp : p < w.heap.size) (hB : w.heap.size < B) (h : Rb w lim p B stamp n s0 k v rs1 s wr) (hkn : k < n)
    (ho : Owns (wr.heap.size + 1) w1 (.slice vo (rqV s).2.2.length vc) (rqV s).2.2) (hR : RdS lim w1 p (rqS3 s)) (hg : wr.grownBy w1 (some p)) (hn : (rqV s).1 < 18446744073709551616 ∧ (rqV s).2.1 < 18446744073709551616)
    (hr : w2.ownsRow (B + 1) 96 3 v' (k + 1) (rcells (rs1 ++ [⟨(rqV s).1, (rqV s).2.1, vo, (rqV s).2.2.length, vc, (rqV s).2.2⟩]))) (hg2 : (w1.alloc o2).grownBy w2 v.ownBlock) :
    Rb w lim p B stamp n s0 (k + 1) v' (rs1 ++ [⟨(rqV s).1, (rqV s).2.1, vo, (rqV s).2.2.length, vc, (rqV s).2.2⟩]) (rqS3 s) (w2.setCell ⟨B, 1, none⟩ v') ∧ w2.cell? ⟨B, 1, none⟩ = some v ∧ w2.frozen? ⟨B, 1, none⟩ = false := by
  have hs0 := h.gr.size
  have hBl := block_lt h.box
  have hgA := World.grownBy_alloc w1 o2 none
  have hwp : ∀ u, v.ownBlock = some u → u ≠ p := fun u e => by have := (h.row.lt u e).1; omega
  have row1 : w1.ownsRow (B + 1) 96 3 v k (rcells rs1) := h.row.kept hg (.inr (fun e => hwp p e rfl))
  have rowA := row_quiet row1 hgA
  have box1 : w1.heap[B]? = _ := (grown_pos hg hBl (by omega)).trans h.box
  have boxA : (w1.alloc o2).heap[B]? = _ := (hgA.block _ (block_lt box1) (by simp)).trans box1
  have hrc := row_ne_box rowA boxA
  have box2 : w2.heap[B]? = _ := (hg2.block _ (block_lt boxA) (fun e => hrc e.symm)).trans boxA
  have res1 : w1.heap[w.heap.size]? = _ := (grown_pos hg (block_lt h.res) (by omega)).trans h.res
  have resA : (w1.alloc o2).heap[w.heap.size]? = _ := (hgA.block _ (block_lt res1) (by simp)).trans res1
  have hrr := row_ne_box rowA resA
  have res2 : w2.heap[w.heap.size]? = _ := (hg2.block _ (block_lt resA) (fun e => hrr e.symm)).trans resA
  have f1 : FreeRs (B + 1) w1 rs1 := h.free.next hg (fun r hx => .inr (fun e => by have := ((h.free.own r hx).1.lt p e).1; omega))
  have f1' : FreeRs (B + 1) w1 (rs1 ++ [⟨(rqV s).1, (rqV s).2.1, vo, (rqV s).2.2.length, vc, (rqV s).2.2⟩]) := by
    refine ⟨fun r hx => ?_, ?_⟩
    · rcases List.mem_append.1 hx with hx | hx
      · exact f1.own r hx
      · simp at hx; subst hx; exact ho.lower (by omega)
    · rw [List.pairwise_append]
      refine ⟨h.free.apart, by simp, fun a ha b hb => ?_⟩
      simp at hb
      subst hb
      cases e : a.sl.ownBlock with
      | none => exact .inl rfl
      | some g =>
        refine .inr (fun e2 => ?_)
        have h1 := ((h.free.own a ha).1.lt g e).2
        have h2 := (ho.1.lt g e2.symm).1
        omega
  have fA := f1'.next hgA (fun r hx => by
    cases r.sl.ownBlock with
    | none => exact .inl rfl
    | some g => exact .inr (by simp))
  have f2 := fA.next hg2 (fun r hx => owns_ne_row (fA.own r hx) rowA)
  have f3 := f2.next (grown_set w2 B 1 v') (fun r hx => .inr (owns_ne_cells (f2.own r hx) box2 (by decide)))
  have hrd : RdS lim (w2.setCell ⟨B, 1, none⟩ v') p (rqS3 s) := by
    have hl := hR.limp
    refine (((hR.quiet hgA).kept hg2 (fun g e => ?_)).kept (grown_set w2 B 1 v') (fun g e => ?_))
    · have := (rowA.lt g e).1; exact ⟨by omega, by omega⟩
    · cases e; exact ⟨by omega, by omega⟩
  have g3 : w.grownBy (w2.setCell ⟨B, 1, none⟩ v') (some p) := by
    have ga := grown_trans (row := some p) h.gr hg
    have hsz := ga.size
    refine ⟨hg2.os.trans ga.os, hg2.tape.trans ga.tape, hg2.output.trans ga.output, by have := hg2.size; simp at this ⊢; omega, fun q hq hne => ?_⟩
    have e1 := ga.block q hq hne
    have e2 := hgA.block q (by omega) (by simp)
    have e3 := hg2.block q (by simp; omega) (fun e => by have := (rowA.lt q e.symm).1; omega)
    have e4 := (grown_set w2 B 1 v').block q (by have := hg2.size; simp at this; omega) (by simp; omega)
    exact e4.trans (e3.trans (e2.trans e1))
  refine ⟨⟨g3, ?_, ?_, hr.kept (grown_set _ _ _ _) (.inr (row_ne_box hr box2)), by simp [h.len], f3, ?_, ?_, hrd, ?_⟩, block_cell box2 1, block_free box2 1⟩
  · exact ((grown_set w2 B 1 v').block _ (block_lt res2) (by simp; omega)).trans res2
  · rw [heap_setCell_same w2 B 1 _ _ v' box2]; rfl
  · intro r hx
    rcases List.mem_append.1 hx with hx | hx
    · exact h.num r hx
    · simp at hx; subst hx; exact ⟨hn.1, hn.2, ho.2.1, ho.2.2⟩
  · intro r hx
    rcases List.mem_append.1 hx with hx | hx
    · exact h.cn r hx
    · simp at hx; subst hx; rfl
  · rw [h.go, show n - k = (n - (k + 1)) + 1 by omega, rdGo]
    simp [Rq.val]
end Go.Proofs.YtidhondcfagoaaaDoor
