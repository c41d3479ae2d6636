import Derived.Test.YtggpaljilpbmhaaGreatDoorZ11
import Derived.Lib.OthersKept
import Derived.BigQuiet
namespace Go.Proofs.YtggpaljilpbmhaaGreatDoor
open Go.RowKit

def iv (b : Bool) : Value := .int .i64 (if b then 1 else 0)
/-- A list of kinds that is shown. -/
def KL (lim : Nat) (w : World) (v : Value) (l : List Bool) : Prop := ∃ ao cap b off, v = .slice ao l.length cap ∧ l.length ≤ cap ∧ (0 < l.length → ao = some ⟨b, off, none⟩ ∧ b < lim) ∧ ∀ j x, l[j]? = some x → w.cell? ⟨b, off + j, none⟩ = some (iv x)
theorem KL.kept {lim k : Nat} {w w' : World} {v : Value} {l : List Bool} (h : KL lim w v l) (hb : Below k w w') (hk : lim ≤ k) : KL lim w' v l := by
 obtain ⟨ao, cap, b, off, h1, h2, h3, h4⟩ := h
 exact ⟨ao, cap, b, off, h1, h2, h3, fun j x hx => (hb.cell (p := ⟨b, _, none⟩) (by have := (h3 (by have := (List.getElem?_eq_some_iff.1 hx).1; omega)).2; show b < k; omega)).trans (h4 j x hx)⟩
theorem KL.wide {lim lim' : Nat} {w : World} {v : Value} {l : List Bool} (h : KL lim w v l) (hl : lim ≤ lim') : KL lim' w v l := by
 obtain ⟨ao, cap, b, off, h1, h2, h3, h4⟩ := h
 exact ⟨ao, cap, b, off, h1, h2, fun e => ⟨(h3 e).1, Nat.lt_of_lt_of_le (h3 e).2 hl⟩, h4⟩
theorem KL.own {base : Nat} {w : World} {v : Value} {l : List Bool} (h : w.ownsRow base 3 1 v l.length (l.map iv)) : KL w.heap.size w v l := by
 rcases h.2 with ⟨h1, h0⟩ | ⟨g, cap, cur, h1, hb, hc, hnc, _, hsz, htk⟩
 ·have : l = [] := List.eq_nil_of_length_eq_zero h0
  subst this
  exact ⟨none, 0, 0, 0, h1, Nat.le_refl _, fun h => by simp at h, fun j x hx => by simp at hx⟩
 ·refine ⟨_, cap, g, 0, h1, hnc, fun _ => ⟨rfl, block_lt hc⟩, fun j x hx => ?_⟩
  have hj := (List.getElem?_eq_some_iff.1 hx).1
  have h2 : (l.map iv)[j]? = some (iv x) := by rw [List.getElem?_map, hx]; rfl
  rw [← htk, List.getElem?_take, if_pos (by omega)] at h2
  rw [Nat.zero_add, block_cell hc j]
  simpa using h2
theorem Tryz.infoI : (Tryz.prog.info? 3).map (fun i => (i.zero, i.size, i.bytes)) = some (some (.int .i64 0), 1, 8) := by kernel_rfl
/-- What Verify answers. -/
def Vy (W : World) (r : Except (Int × Int) Kn) (e : Ending) (w' : World) : Prop := match r with
 | .ok _ => e = .returned .nilIface ∧ Hid (Below W.heap.size W w')
 | .error (a, y) => ∃ g, e = .returned (.iface 74 (.pointer (some ⟨g, 0, none⟩))) ∧ Hid (Ft w'.heap.size w' (.iface 74 (.pointer (some ⟨g, 0, none⟩))) a y ∧ Below W.heap.size W w')
set_option maxRecDepth 10000 in
set_option maxHeartbeats 1600000 in
theorem verifyC {W : World} {g : Pg} {p : Pv} (h : g.Ok p W.heap.size W) (hT : Tab W) :
  Calls Tryz.prog 9 #[.agg (g.cs p).toArray] W (Vy W (verF p)) := by
 obtain ⟨W1, hW1⟩ : ∃ W1, W.alloc (.cells (g.cs p).toArray 27) = W1 := ⟨_, rfl⟩
 have B1 : Below W.heap.size W W1 := by rw [← hW1]; exact below_alloc1 W _
 have A1 : W1.heap[W.heap.size]? = some (.cells (g.cs p).toArray 27 (0, 0)) := by rw [← hW1]; exact alloc_atK _ _
 have HWK := hide (walkedC ((h.kept B1 (Nat.le_refl _)).wide B1.size) (hT.below B1 hT.z))
 have z0 := block_cell A1 0
 have z1 := block_cell A1 1
 have z2 := block_cell A1 2
 have z3 := block_cell A1 3
 have z4 := block_cell A1 4
 have z5 := block_cell A1 5
 have z6 := block_cell A1 6
 have z7 := block_cell A1 7
 have z8 := block_cell A1 8
 have zl := block_lt A1
 simp [Pg.cs] at z0 z1 z2 z3 z4 z5 z6 z7 z8
 have HB1 := hide B1
 have HW1 := hide hW1
 clear h hT B1 A1 hW1
 have HCS : Hid (g.cs p = [.slice g.ca p.nc g.cc, .slice g.sa p.ns g.sc, .int .i64 (p.en 0), .int .i64 (p.en 1), .int .i64 (p.en 2), .int .i64 (p.en 3), .int .i64 (p.en 4), .int .i64 (p.en 5), .slice g.ia p.n g.ic]) := rfl
 rw [HCS.out] at HW1 HWK ⊢
 generalize verF p = r at *
 go_enter Tryz.func9, Tryz.ntmps9
 go_upto_region 1 with fail
 rw [HW1.out]
 go_wp2_with fail
 refine HWK.out.mono ?_
 intro e w2 hh
 cases r with
 | ok k =>
  obtain ⟨hb, rfl, G⟩ := hh
  have HD := hide (HB1.out.trans (G.out.2.mono HB1.out.size))
  go_wp2
  go_ret
  exact ⟨rfl, HD⟩
 | error y =>
  obtain ⟨a, y⟩ := y
  obtain ⟨g', rfl, G⟩ := hh
  have HD : Hid (Ft w2.heap.size w2 (.iface 74 (.pointer (some ⟨g', 0, none⟩))) a y ∧ Below W.heap.size W w2) := ⟨G.out.1, HB1.out.trans (G.out.2.mono HB1.out.size)⟩
  go_wp2
  go_ret
  exact ⟨g', rfl, HD⟩
theorem iter_grown (w : World) (k : Nat) (s : ByteArray) (n : Nat) : w.grownBy (w.iterAt k s n) (some k) := ⟨rfl, rfl, rfl, by rw [Lib.iterAt_size]; exact Nat.le_refl _, fun i _ hne => Lib.iterAt_other w k i s n (fun e => hne (by rw [e]))⟩
end Go.Proofs.YtggpaljilpbmhaaGreatDoor
namespace Go.Proofs.YtggpaljilpbmhaaGreatDoor
open Go.RowKit

/-- What a refusal of the reference is. -/
def RfP (w : World) (r : Option (Int × Int)) (e : Ending) (w' : World) : Prop := match r with
 | none => e = .returned (.agg #[.slice none 0 0, .int .i64 0]) ∧ Hid (Below w.heap.size w w')
 | some (a, y) => ∃ ao cap, e = .returned (.agg #[.slice ao 1 cap, .int .i64 y]) ∧ Hid (∃ b off, FV w'.heap.size w' ao [⟨⟨#[99, 111, 100, 101]⟩, a⟩] b off ∧ Below w.heap.size w w')
/-- Letters of the reference: what is taken. -/
def rTakes (o : Nat) : List Nat := if o = 7 then [115] else if o = 8 ∨ (26 ≤ o ∧ o ≤ 28) ∨ o = 30 then [98] else if (9 ≤ o ∧ o ≤ 14) ∨ (17 ≤ o ∧ o ≤ 23) ∨ o = 29 then [110, 110] else if o = 15 ∨ o = 16 then [98, 98] else if o = 24 then [110, 110, 110] else []
def rLays (o : Nat) : List Nat := if o = 2 ∨ (17 ≤ o ∧ o ≤ 24) then [110] else if o = 3 ∨ o = 4 ∨ (8 ≤ o ∧ o ≤ 16) then [98] else if o = 6 then [115] else if o = 5 then [105] else []
set_option maxRecDepth 10000 in
set_option maxHeartbeats 6400000 in
theorem takesR (o : Nat) (h : o ≤ 32) (w : World) : Calls Tryz.prog 194 #[.int .i64 (o : Nat)] w fun e w' => e = .returned (.string (txt (rTakes o))) ∧ w' = w := by
 have key : ∀ x : Nat, x ≤ 32 → x = 0 ∨ x = 1 ∨ x = 2 ∨ x = 3 ∨ x = 4 ∨ x = 5 ∨ x = 6 ∨ x = 7 ∨ x = 8 ∨ x = 9 ∨ x = 10 ∨ x = 11 ∨ x = 12 ∨ x = 13 ∨ x = 14 ∨ x = 15 ∨ x = 16 ∨ x = 17 ∨ x = 18 ∨ x = 19 ∨ x = 20 ∨ x = 21 ∨ x = 22 ∨ x = 23 ∨ x = 24 ∨ x = 25 ∨ x = 26 ∨ x = 27 ∨ x = 28 ∨ x = 29 ∨ x = 30 ∨ x = 31 ∨ x = 32 := by omega
 rcases key o h with rfl | rfl | rfl | rfl | rfl | rfl | rfl | rfl | rfl | rfl | rfl | rfl | rfl | rfl | rfl | rfl | rfl | rfl | rfl | rfl | rfl | rfl | rfl | rfl | rfl | rfl | rfl | rfl | rfl | rfl | rfl | rfl | rfl
 all_goals
  clear key
  go_enter Tryz.func194, Tryz.ntmps194
  go_wp2
  go_ret
  exact ⟨rfl, rfl⟩
set_option maxRecDepth 10000 in
set_option maxHeartbeats 6400000 in
theorem laysR (o : Nat) (h : o ≤ 32) (w : World) : Calls Tryz.prog 196 #[.int .i64 (o : Nat)] w fun e w' => e = .returned (.string (txt (rLays o))) ∧ w' = w := by
 have key : ∀ x : Nat, x ≤ 32 → x = 0 ∨ x = 1 ∨ x = 2 ∨ x = 3 ∨ x = 4 ∨ x = 5 ∨ x = 6 ∨ x = 7 ∨ x = 8 ∨ x = 9 ∨ x = 10 ∨ x = 11 ∨ x = 12 ∨ x = 13 ∨ x = 14 ∨ x = 15 ∨ x = 16 ∨ x = 17 ∨ x = 18 ∨ x = 19 ∨ x = 20 ∨ x = 21 ∨ x = 22 ∨ x = 23 ∨ x = 24 ∨ x = 25 ∨ x = 26 ∨ x = 27 ∨ x = 28 ∨ x = 29 ∨ x = 30 ∨ x = 31 ∨ x = 32 := by omega
 rcases key o h with rfl | rfl | rfl | rfl | rfl | rfl | rfl | rfl | rfl | rfl | rfl | rfl | rfl | rfl | rfl | rfl | rfl | rfl | rfl | rfl | rfl | rfl | rfl | rfl | rfl | rfl | rfl | rfl | rfl | rfl | rfl | rfl | rfl
 all_goals
  clear key
  go_enter Tryz.func196, Tryz.ntmps196
  go_wp2
  go_ret
  exact ⟨rfl, rfl⟩
/-- The kinds that a letter of the reference means. -/
def rKind (p : Pv) (a : Int) (c : Nat) : Bool := if c = 98 then true else if c = 115 then decide (p.S a.toNat = 1) else if c = 105 then decide (a = 7) else false
theorem colB_takes (p : Pv) (o : Nat) (h : o ≤ 32) (a : Int) : (rTakes o).map (rKind p a) = colB p (fTakes o) a := by
 have : ∀ o, o ≤ 32 → ((fTakes o = [115] ∧ rTakes o = [115]) ∨ (fTakes o ≠ [115] ∧ fTakes o ≠ [105] ∧ (rTakes o).map (fun c => c == 98) = (fTakes o).map (fun x => x == 116) ∧ ∀ c ∈ rTakes o, c = 98 ∨ c = 110)) := by decide
 rcases this o h with ⟨e1, e2⟩ | ⟨n1, n2, e, hc⟩
 ·rw [e1, e2]; rfl
 ·unfold colB
  rw [if_neg n1, if_neg n2, ← e]
  refine List.map_congr_left (fun c hcm => ?_)
  rcases hc c hcm with rfl | rfl <;> rfl
theorem colB_lays (p : Pv) (o : Nat) (h : o ≤ 32) (a : Int) : (rLays o).map (rKind p a) = colB p (fLays o) a := by
 have : ∀ o, o ≤ 32 → ((fLays o = [115] ∧ rLays o = [115]) ∨ (fLays o = [105] ∧ rLays o = [105]) ∨ (fLays o ≠ [115] ∧ fLays o ≠ [105] ∧ (rLays o).map (fun c => c == 98) = (fLays o).map (fun x => x == 116) ∧ ∀ c ∈ rLays o, c = 98 ∨ c = 110)) := by decide
 rcases this o h with ⟨e1, e2⟩ | ⟨e1, e2⟩ | ⟨n1, n2, e, hc⟩
 ·rw [e1, e2]; rfl
 ·rw [e1, e2]; rfl
 ·unfold colB
  rw [if_neg n1, if_neg n2, ← e]
  refine List.map_congr_left (fun c hcm => ?_)
  rcases hc c hcm with rfl | rfl <;> rfl
end Go.Proofs.YtggpaljilpbmhaaGreatDoor
namespace Go.Proofs.YtggpaljilpbmhaaGreatDoor
open Go.RowKit

/-- The world while the letters are gone through. -/
structure Lt (W : World) (hb n : Nat) (k : Kn) (l : List Bool) (ib j : Nat) (v : Value) (wr : World) : Prop where
 it : wr.heap[ib]? = some (.stringIter (ktx l) j)
 row : wr.ownsRow W.heap.size 3 1 v j ((l.take j).map iv)
 bel : Below W.heap.size W wr
 sh : Shp wr hb n k
 lb : W.heap.size ≤ ib
 len : l.length ≤ 64
theorem Lt.next {W : World} {hb n : Nat} {k : Kn} {l : List Bool} {ib j : Nat} {v : Value} {wr : World} (h : Lt W hb n k l ib j v wr) {b : Bool} (hb' : l[j]? = some b) {w1 w2 : World} (h1 : w1 = wr.iterAt ib (ktx l) (j + 1)) {v' : Value} {o : Obj}
  (ho : w2.ownsRow W.heap.size 3 1 v' (j + 1) ((l.take j).map iv ++ [iv b])) (hg : (w1.alloc o).grownBy w2 v.ownBlock) : Lt W hb n k l ib (j + 1) v' w2 := by
 have g1 := iter_grown wr ib (ktx l) (j + 1)
 rw [← h1] at g1
 have hi1 : w1.heap[ib]? = some (.stringIter (ktx l) (j + 1)) := by rw [h1]; exact Lib.iterAt_heap wr ib _ _ _ h.it
 have ne1 : ∀ {q : Nat} {cs : Array Value} {t : TypeId} {z : Nat × Nat}, wr.heap[q]? = some (.cells cs t z) → q ≠ ib := fun hq e => by rw [e, h.it] at hq; cases hq
 have hl1 : ib < w1.heap.size := block_lt hi1
 have hv : ∀ g, v.ownBlock = some g → g ≠ ib ∧ ∃ cur, wr.heap[g]? = some (.cells cur 3 (0, 0)) := by
  intro g hgv
  rcases h.row.2 with ⟨e, _⟩ | ⟨g', cap, cur, e, _, hc, _⟩
  ·rw [e] at hgv; cases hgv
  ·rw [e] at hgv
   cases hgv
   exact ⟨ne1 hc, cur, hc⟩
 have b1 : Below W.heap.size W (w1.alloc o) := by
  have := Lib.below_iterAt h.bel h.lb (ktx l) (j + 1)
  rw [← h1] at this
  exact this.alloc this.size o
 have al := below_alloc1 w1 o
 refine ⟨?_, ?_, ?_, ?_, h.lb, h.len⟩
 ·refine (hg.block ib (by simp; omega) (fun e => ?_)).trans ((al.block ib hl1).trans hi1)
  exact (hv ib e.symm).1 rfl
 ·rw [List.take_add_one, hb', List.map_append]
  exact ho
 ·refine b1.grown hg b1.size (fun g e => ?_)
  exact (h.row.lt g e).1
 ·obtain ⟨cs, r1, r2⟩ := h.sh
  have x1 := (g1.block _ (block_lt r1) (by simpa using ne1 r1)).trans r1
  have x2 := (al.block _ (block_lt x1)).trans x1
  refine ⟨cs, (hg.block hb (block_lt x2) (fun e => ?_)).trans x2, r2⟩
  obtain ⟨_, cur, hc⟩ := hv hb e.symm
  rw [r1] at hc
  simp at hc
end Go.Proofs.YtggpaljilpbmhaaGreatDoor
namespace Go.Proofs.YtggpaljilpbmhaaGreatDoor
open Go.RowKit

theorem hasArg_eq : ∀ o, o < 33 → 1 ≤ o → (decide (o = 2 ∨ (5 ≤ o ∧ o ≤ 7) ∨ (25 ≤ o ∧ o ≤ 28) ∨ o = 30 ∨ o = 31)) = decide (fArg o ≠ 0) := by decide
set_option maxRecDepth 10000 in
theorem HasArgC (o : Nat) (h1 : 1 ≤ o) (h2 : o ≤ 32) (w : World) : Calls Tryz.prog 40 #[.int .i64 (o : Nat)] w fun e w' => e = .returned (.bool (decide (fArg o ≠ 0))) ∧ w' = w := by
 rw [← hasArg_eq o (by omega) h1]
 have hc : o = 1 ∨ o = 2 ∨ (3 ≤ o ∧ o ≤ 4) ∨ (5 ≤ o ∧ o ≤ 7) ∨ (8 ≤ o ∧ o ≤ 24) ∨ (25 ≤ o ∧ o ≤ 28) ∨ o = 29 ∨ o = 30 ∨ o = 31 ∨ o = 32 := by omega
 rcases hc with rfl | rfl | ⟨q1, q2⟩ | ⟨q1, q2⟩ | ⟨q1, q2⟩ | ⟨q1, q2⟩ | rfl | rfl | rfl | rfl
 ·show Calls _ _ _ _ fun e w' => e = .returned (.bool false) ∧ _
  go_enter Tryz.func40, Tryz.ntmps40
  go_wp2
  go_ret
  exact ⟨rfl, rfl⟩
 ·show Calls _ _ _ _ fun e w' => e = .returned (.bool true) ∧ _
  go_enter Tryz.func40, Tryz.ntmps40
  go_wp2
  go_ret
  exact ⟨rfl, rfl⟩
 ·rw [decide_eq_false (by omega)]
  have d0 : ((o : Int) == 2) = false := beq_eq_false_iff_ne.2 (by omega)
  have d1 : ((o : Int) == 30) = false := beq_eq_false_iff_ne.2 (by omega)
  have d2 : ((o : Int) == 31) = false := beq_eq_false_iff_ne.2 (by omega)
  have d3 : ¬ (5 : Int) ≤ o := by omega
  have d4 : (o : Int) ≤ 7 := by omega
  have d5 : ¬ (25 : Int) ≤ o := by omega
  have d6 : (o : Int) ≤ 28 := by omega
  generalize (o : Int) = oi at *
  go_enter Tryz.func40, Tryz.ntmps40
  go_wp2
  go_ret
  exact ⟨rfl, rfl⟩
 ·rw [decide_eq_true (by omega)]
  have d0 : ((o : Int) == 2) = false := beq_eq_false_iff_ne.2 (by omega)
  have d1 : ((o : Int) == 30) = false := beq_eq_false_iff_ne.2 (by omega)
  have d2 : ((o : Int) == 31) = false := beq_eq_false_iff_ne.2 (by omega)
  have d3 : (5 : Int) ≤ o := by omega
  have d4 : (o : Int) ≤ 7 := by omega
  have d5 : ¬ (25 : Int) ≤ o := by omega
  have d6 : (o : Int) ≤ 28 := by omega
  generalize (o : Int) = oi at *
  go_enter Tryz.func40, Tryz.ntmps40
  go_wp2
  go_ret
  exact ⟨rfl, rfl⟩
 ·rw [decide_eq_false (by omega)]
  have d0 : ((o : Int) == 2) = false := beq_eq_false_iff_ne.2 (by omega)
  have d1 : ((o : Int) == 30) = false := beq_eq_false_iff_ne.2 (by omega)
  have d2 : ((o : Int) == 31) = false := beq_eq_false_iff_ne.2 (by omega)
  have d3 : (5 : Int) ≤ o := by omega
  have d4 : ¬ (o : Int) ≤ 7 := by omega
  have d5 : ¬ (25 : Int) ≤ o := by omega
  have d6 : (o : Int) ≤ 28 := by omega
  generalize (o : Int) = oi at *
  go_enter Tryz.func40, Tryz.ntmps40
  go_wp2
  go_ret
  exact ⟨rfl, rfl⟩
 ·rw [decide_eq_true (by omega)]
  have d0 : ((o : Int) == 2) = false := beq_eq_false_iff_ne.2 (by omega)
  have d1 : ((o : Int) == 30) = false := beq_eq_false_iff_ne.2 (by omega)
  have d2 : ((o : Int) == 31) = false := beq_eq_false_iff_ne.2 (by omega)
  have d3 : (5 : Int) ≤ o := by omega
  have d4 : ¬ (o : Int) ≤ 7 := by omega
  have d5 : (25 : Int) ≤ o := by omega
  have d6 : (o : Int) ≤ 28 := by omega
  generalize (o : Int) = oi at *
  go_enter Tryz.func40, Tryz.ntmps40
  go_wp2
  go_ret
  exact ⟨rfl, rfl⟩
 ·show Calls _ _ _ _ fun e w' => e = .returned (.bool false) ∧ _
  go_enter Tryz.func40, Tryz.ntmps40
  go_wp2
  go_ret
  exact ⟨rfl, rfl⟩
 ·show Calls _ _ _ _ fun e w' => e = .returned (.bool true) ∧ _
  go_enter Tryz.func40, Tryz.ntmps40
  go_wp2
  go_ret
  exact ⟨rfl, rfl⟩
 ·show Calls _ _ _ _ fun e w' => e = .returned (.bool true) ∧ _
  go_enter Tryz.func40, Tryz.ntmps40
  go_wp2
  go_ret
  exact ⟨rfl, rfl⟩
 ·show Calls _ _ _ _ fun e w' => e = .returned (.bool false) ∧ _
  go_enter Tryz.func40, Tryz.ntmps40
  go_wp2
  go_ret
  exact ⟨rfl, rfl⟩
end Go.Proofs.YtggpaljilpbmhaaGreatDoor
