import Derived.Test.YtpdjnbpjgpdnkaaGreatDoorV10
import Derived.Lib.OthersKept
import Derived.BigQuiet
namespace Go.Proofs.YtpdjnbpjgpdnkaaGreatDoor
open Go.RowKit

def iv (b : Bool) : Value := .int .i64 (if b then 1 else 0)
/-- A list of kinds that is shown. -/
def KL (lim : Nat) (w : World) (v : Value) (l : List Bool) : Prop := ∃ ao cap b off, v = .slice ao l.length cap ∧ l.length ≤ cap ∧ (0 < l.length → ao = some ⟨b, off, none⟩ ∧ b < lim) ∧ ∀ j x, l[j]? = some x → w.cell? ⟨b, off + j, none⟩ = some (iv x)
theorem KL.kept {lim k : Nat} {w w' : World} {v : Value} {l : List Bool} (h : KL lim w v l) (hb : Below k w w') (hk : lim ≤ k) : KL lim w' v l := by
 obtain ⟨ao, cap, b, off, h1, h2, h3, h4⟩ := h
 exact ⟨ao, cap, b, off, h1, h2, h3, fun j x hx => (hb.cell (p := ⟨b, _, none⟩) (by have := (h3 (by have := (List.getElem?_eq_some_iff.1 hx).1; omega)).2; show b < k; omega)).trans (h4 j x hx)⟩
theorem KL.wide {lim lim' : Nat} {w : World} {v : Value} {l : List Bool} (h : KL lim w v l) (hl : lim ≤ lim') : KL lim' w v l := by
 obtain ⟨ao, cap, b, off, h1, h2, h3, h4⟩ := h
 exact ⟨ao, cap, b, off, h1, h2, fun e => ⟨(h3 e).1, Nat.lt_of_lt_of_le (h3 e).2 hl⟩, h4⟩
theorem KL.own {base : Nat} {w : World} {v : Value} {l : List Bool} (h : w.ownsRow base 3 1 v l.length (l.map iv)) : KL w.heap.size w v l := by
 rcases h.2 with ⟨h1, h0⟩ | ⟨g, cap, cur, h1, hb, hc, hnc, _, hsz, htk⟩
 ·have : l = [] := List.eq_nil_of_length_eq_zero h0
  subst this
  exact ⟨none, 0, 0, 0, h1, Nat.le_refl _, fun h => by simp at h, fun j x hx => by simp at hx⟩
 ·refine ⟨_, cap, g, 0, h1, hnc, fun _ => ⟨rfl, block_lt hc⟩, fun j x hx => ?_⟩
  have hj := (List.getElem?_eq_some_iff.1 hx).1
  have h2 : (l.map iv)[j]? = some (iv x) := by rw [List.getElem?_map, hx]; rfl
  rw [← htk, List.getElem?_take, if_pos (by omega)] at h2
  rw [Nat.zero_add, block_cell hc j]
  simpa using h2
theorem Tryz.infoI : (Tryz.prog.info? 3).map (fun i => (i.zero, i.size, i.bytes)) = some (some (.int .i64 0), 1, 8) := by kernel_rfl
/-- What Verify answers. -/
def Vy (W : World) (r : Except (Int × Int) Kn) (e : Ending) (w' : World) : Prop := match r with
 | .ok _ => e = .returned .nilIface ∧ Hid (Below W.heap.size W w')
 | .error (a, y) => ∃ g, e = .returned (.iface 68 (.pointer (some ⟨g, 0, none⟩))) ∧ Hid (Ft w'.heap.size w' (.iface 68 (.pointer (some ⟨g, 0, none⟩))) a y ∧ Below W.heap.size W w')
set_option maxRecDepth 10000 in
set_option maxHeartbeats 1600000 in
theorem verifyC {W : World} {g : Pg} {p : Pv} (h : g.Ok p W.heap.size W) (hT : Tab W) :
  Calls Tryz.prog 8 #[.agg (g.cs p).toArray] W (Vy W (verF p)) := by
 obtain ⟨W1, hW1⟩ : ∃ W1, W.alloc (.cells (g.cs p).toArray 27) = W1 := ⟨_, rfl⟩
 have B1 : Below W.heap.size W W1 := by rw [← hW1]; exact below_alloc1 W _
 have A1 : W1.heap[W.heap.size]? = some (.cells (g.cs p).toArray 27 (0, 0)) := by rw [← hW1]; exact alloc_atK _ _
 have HWK := hide (walkedC ((h.kept B1 (Nat.le_refl _)).wide B1.size) (hT.below B1 hT.z))
 have z0 := block_cell A1 0
 have z1 := block_cell A1 1
 have z2 := block_cell A1 2
 have z3 := block_cell A1 3
 have z4 := block_cell A1 4
 have z5 := block_cell A1 5
 have z6 := block_cell A1 6
 have z7 := block_cell A1 7
 have z8 := block_cell A1 8
 have zl := block_lt A1
 simp [Pg.cs] at z0 z1 z2 z3 z4 z5 z6 z7 z8
 have HB1 := hide B1
 have HW1 := hide hW1
 clear h hT B1 A1 hW1
 have HCS : Hid (g.cs p = [.slice g.ca p.nc g.cc, .slice g.sa p.ns g.sc, .int .i64 (p.en 0), .int .i64 (p.en 1), .int .i64 (p.en 2), .int .i64 (p.en 3), .int .i64 (p.en 4), .int .i64 (p.en 5), .slice g.ia p.n g.ic]) := rfl
 rw [HCS.out] at HW1 HWK ⊢
 generalize verF p = r at *
 go_enter Tryz.func8, Tryz.ntmps8
 go_upto_region 1 with fail
 rw [HW1.out]
 go_wp2_with fail
 refine HWK.out.mono ?_
 intro e w2 hh
 cases r with
 | ok k =>
  obtain ⟨hb, rfl, G⟩ := hh
  have HD := hide (HB1.out.trans (G.out.2.mono HB1.out.size))
  go_wp2
  go_ret
  exact ⟨rfl, HD⟩
 | error y =>
  obtain ⟨a, y⟩ := y
  obtain ⟨g', rfl, G⟩ := hh
  have HD : Hid (Ft w2.heap.size w2 (.iface 68 (.pointer (some ⟨g', 0, none⟩))) a y ∧ Below W.heap.size W w2) := ⟨G.out.1, HB1.out.trans (G.out.2.mono HB1.out.size)⟩
  go_wp2
  go_ret
  exact ⟨g', rfl, HD⟩
theorem iter_grown (w : World) (k : Nat) (s : ByteArray) (n : Nat) : w.grownBy (w.iterAt k s n) (some k) := ⟨rfl, rfl, rfl, by rw [Lib.iterAt_size]; exact Nat.le_refl _, fun i _ hne => Lib.iterAt_other w k i s n (fun e => hne (by rw [e]))⟩
end Go.Proofs.YtpdjnbpjgpdnkaaGreatDoor
namespace Go.Proofs.YtpdjnbpjgpdnkaaGreatDoor
open Go.RowKit

end Go.Proofs.YtpdjnbpjgpdnkaaGreatDoor
namespace Go.Proofs.YtpdjnbpjgpdnkaaGreatDoor
open Go.RowKit

end Go.Proofs.YtpdjnbpjgpdnkaaGreatDoor
namespace Go.Proofs.YtpdjnbpjgpdnkaaGreatDoor
open Go.RowKit

/-- The world while the letters are gone through. -/
structure Lt (W : World) (hb n : Nat) (k : Kn) (l : List Bool) (ib j : Nat) (v : Value) (wr : World) : Prop where
 it : wr.heap[ib]? = some (.stringIter (ktx l) j)
 row : wr.ownsRow W.heap.size 3 1 v j ((l.take j).map iv)
 bel : Below W.heap.size W wr
 sh : Shp wr hb n k
 lb : W.heap.size ≤ ib
 len : l.length ≤ 64
theorem Lt.next {W : World} {hb n : Nat} {k : Kn} {l : List Bool} {ib j : Nat} {v : Value} {wr : World} (h : Lt W hb n k l ib j v wr) {b : Bool} (hb' : l[j]? = some b) {w1 w2 : World} (h1 : w1 = wr.iterAt ib (ktx l) (j + 1)) {v' : Value} {o : Obj}
  (ho : w2.ownsRow W.heap.size 3 1 v' (j + 1) ((l.take j).map iv ++ [iv b])) (hg : (w1.alloc o).grownBy w2 v.ownBlock) : Lt W hb n k l ib (j + 1) v' w2 := by
 have g1 := iter_grown wr ib (ktx l) (j + 1)
 rw [← h1] at g1
 have hi1 : w1.heap[ib]? = some (.stringIter (ktx l) (j + 1)) := by rw [h1]; exact Lib.iterAt_heap wr ib _ _ _ h.it
 have ne1 : ∀ {q : Nat} {cs : Array Value} {t : TypeId} {z : Nat × Nat}, wr.heap[q]? = some (.cells cs t z) → q ≠ ib := fun hq e => by rw [e, h.it] at hq; cases hq
 have hl1 : ib < w1.heap.size := block_lt hi1
 have hv : ∀ g, v.ownBlock = some g → g ≠ ib ∧ ∃ cur, wr.heap[g]? = some (.cells cur 3 (0, 0)) := by
  intro g hgv
  rcases h.row.2 with ⟨e, _⟩ | ⟨g', cap, cur, e, _, hc, _⟩
  ·rw [e] at hgv; cases hgv
  ·rw [e] at hgv
   cases hgv
   exact ⟨ne1 hc, cur, hc⟩
 have b1 : Below W.heap.size W (w1.alloc o) := by
  have := Lib.below_iterAt h.bel h.lb (ktx l) (j + 1)
  rw [← h1] at this
  exact this.alloc this.size o
 have al := below_alloc1 w1 o
 refine ⟨?_, ?_, ?_, ?_, h.lb, h.len⟩
 ·refine (hg.block ib (by simp; omega) (fun e => ?_)).trans ((al.block ib hl1).trans hi1)
  exact (hv ib e.symm).1 rfl
 ·rw [List.take_add_one, hb', List.map_append]
  exact ho
 ·refine b1.grown hg b1.size (fun g e => ?_)
  exact (h.row.lt g e).1
 ·obtain ⟨cs, r1, r2⟩ := h.sh
  have x1 := (g1.block _ (block_lt r1) (by simpa using ne1 r1)).trans r1
  have x2 := (al.block _ (block_lt x1)).trans x1
  refine ⟨cs, (hg.block hb (block_lt x2) (fun e => ?_)).trans x2, r2⟩
  obtain ⟨_, cur, hc⟩ := hv hb e.symm
  rw [r1] at hc
  simp at hc
end Go.Proofs.YtpdjnbpjgpdnkaaGreatDoor
