import Derived.Test.YtmoklddfaocihaaDoorV10
import Derived.Lib.OthersKept
import Derived.BigQuiet
namespace Go.Proofs.YtmoklddfaocihaaDoor
open Go.RowKit

def iv (b : Bool) : Value := .int .i64 (if b then 1 else 0)
/-- A list of kinds that is shown. -/
def KL (lim : Nat) (w : World) (v : Value) (l : List Bool) : Prop := ∃ ao cap b off, v = .slice ao l.length cap ∧ l.length ≤ cap ∧ (0 < l.length → ao = some ⟨b, off, none⟩ ∧ b < lim) ∧ ∀ j x, l[j]? = some x → w.cell? ⟨b, off + j, none⟩ = some (iv x)
theorem KL.kept {lim k : Nat} {w w' : World} {v : Value} {l : List Bool} (h : KL lim w v l) (hb : Below k w w') (hk : lim ≤ k) : KL lim w' v l := by
 obtain ⟨ao, cap, b, off, h1, h2, h3, h4⟩ := h
 exact ⟨ao, cap, b, off, h1, h2, h3, fun j x hx => (hb.cell (p := ⟨b, _, none⟩) (by have := (h3 (by have := (List.getElem?_eq_some_iff.1 hx).1; omega)).2; show b < k; omega)).trans (h4 j x hx)⟩
theorem KL.wide {lim lim' : Nat} {w : World} {v : Value} {l : List Bool} (h : KL lim w v l) (hl : lim ≤ lim') : KL lim' w v l := by
 obtain ⟨ao, cap, b, off, h1, h2, h3, h4⟩ := h
 exact ⟨ao, cap, b, off, h1, h2, fun e => ⟨(h3 e).1, Nat.lt_of_lt_of_le (h3 e).2 hl⟩, h4⟩
theorem KL.own {base : Nat} {w : World} {v : Value} {l : List Bool} (h : w.ownsRow base 3 1 v l.length (l.map iv)) : KL w.heap.size w v l := by
 rcases h.2 with ⟨h1, h0⟩ | ⟨g, cap, cur, h1, hb, hc, hnc, _, hsz, htk⟩
 ·have : l = [] := List.eq_nil_of_length_eq_zero h0
  subst this
  exact ⟨none, 0, 0, 0, h1, Nat.le_refl _, fun h => by simp at h, fun j x hx => by simp at hx⟩
 ·refine ⟨_, cap, g, 0, h1, hnc, fun _ => ⟨rfl, block_lt hc⟩, fun j x hx => ?_⟩
  have hj := (List.getElem?_eq_some_iff.1 hx).1
  have h2 : (l.map iv)[j]? = some (iv x) := by rw [List.getElem?_map, hx]; rfl
  rw [← htk, List.getElem?_take, if_pos (by omega)] at h2
  rw [Nat.zero_add, block_cell hc j]
  simpa using h2
theorem Tryd.infoI : (Tryd.prog.info? 3).map (fun i => (i.zero, i.size, i.bytes)) = some (some (.int .i64 0), 1, 8) := by kernel_rfl
/-- What Verify answers. -/
def Vy (W : World) (r : Except (Int × Int) Kn) (e : Ending) (w' : World) : Prop := match r with
 | .ok _ => e = .returned .nilIface ∧ Hid (Below W.heap.size W w')
 | .error (a, y) => ∃ g, e = .returned (.iface 96 (.pointer (some ⟨g, 0, none⟩))) ∧ Hid (Ft w'.heap.size w' (.iface 96 (.pointer (some ⟨g, 0, none⟩))) a y ∧ Below W.heap.size W w')
set_option maxRecDepth 10000 in
set_option maxHeartbeats 1600000 in
theorem verifyC {W : World} {g : Pg} {p : Pv} (h : g.Ok p W.heap.size W) (hT : Tab W) :
  Calls Tryd.prog 40 #[.agg (g.cs p).toArray] W (Vy W (verF p)) := by
 obtain ⟨W1, hW1⟩ : ∃ W1, W.alloc (.cells (g.cs p).toArray 27) = W1 := ⟨_, rfl⟩
 have B1 : Below W.heap.size W W1 := by rw [← hW1]; exact below_alloc1 W _
 have A1 : W1.heap[W.heap.size]? = some (.cells (g.cs p).toArray 27 (0, 0)) := by rw [← hW1]; exact alloc_atK _ _
 have HWK := hide (walkedC ((h.kept B1 (Nat.le_refl _)).wide B1.size) (hT.below B1 hT.z))
 have z0 := block_cell A1 0
 have z1 := block_cell A1 1
 have z2 := block_cell A1 2
 have z3 := block_cell A1 3
 have z4 := block_cell A1 4
 have z5 := block_cell A1 5
 have z6 := block_cell A1 6
 have z7 := block_cell A1 7
 have z8 := block_cell A1 8
 have zl := block_lt A1
 simp [Pg.cs] at z0 z1 z2 z3 z4 z5 z6 z7 z8
 have HB1 := hide B1
 have HW1 := hide hW1
 clear h hT B1 A1 hW1
 have HCS : Hid (g.cs p = [.slice g.ca p.nc g.cc, .slice g.sa p.ns g.sc, .int .i64 (p.en 0), .int .i64 (p.en 1), .int .i64 (p.en 2), .int .i64 (p.en 3), .int .i64 (p.en 4), .int .i64 (p.en 5), .slice g.ia p.n g.ic]) := rfl
 rw [HCS.out] at HW1 HWK ⊢
 generalize verF p = r at *
 go_enter Tryd.func40, Tryd.ntmps40
 go_upto_region 1 with fail
 rw [HW1.out]
 go_wp2_with fail
 refine HWK.out.mono ?_
 intro e w2 hh
 cases r with
 | ok k =>
  obtain ⟨hb, rfl, G⟩ := hh
  have HD := hide (HB1.out.trans (G.out.2.mono HB1.out.size))
  go_wp2
  go_ret
  exact ⟨rfl, HD⟩
 | error y =>
  obtain ⟨a, y⟩ := y
  obtain ⟨g', rfl, G⟩ := hh
  have HD : Hid (Ft w2.heap.size w2 (.iface 96 (.pointer (some ⟨g', 0, none⟩))) a y ∧ Below W.heap.size W w2) := ⟨G.out.1, HB1.out.trans (G.out.2.mono HB1.out.size)⟩
  go_wp2
  go_ret
  exact ⟨g', rfl, HD⟩
theorem iter_grown (w : World) (k : Nat) (s : ByteArray) (n : Nat) : w.grownBy (w.iterAt k s n) (some k) := ⟨rfl, rfl, rfl, by rw [Lib.iterAt_size]; exact Nat.le_refl _, fun i _ hne => Lib.iterAt_other w k i s n (fun e => hne (by rw [e]))⟩
end Go.Proofs.YtmoklddfaocihaaDoor
namespace Go.Proofs.YtmoklddfaocihaaDoor
open Go.RowKit

/-- What a refusal of the reference is. -/
def RfP (w : World) (r : Option (Int × Int)) (e : Ending) (w' : World) : Prop := match r with
 | none => e = .returned (.agg #[.slice none 0 0, .int .i64 0]) ∧ Hid (Below w.heap.size w w')
 | some (a, y) => ∃ ao cap, e = .returned (.agg #[.slice ao 1 cap, .int .i64 y]) ∧ Hid (∃ b off, FV w'.heap.size w' ao [⟨⟨#[99, 111, 100, 101]⟩, a⟩] b off ∧ Below w.heap.size w w')
/-- Letters of the reference: what is taken. -/
def rTakes (o : Nat) : List Nat := if o = 7 then [115] else if o = 8 ∨ (26 ≤ o ∧ o ≤ 28) ∨ o = 30 then [98] else if (9 ≤ o ∧ o ≤ 14) ∨ (17 ≤ o ∧ o ≤ 23) ∨ o = 29 then [110, 110] else if o = 15 ∨ o = 16 then [98, 98] else if o = 24 then [110, 110, 110] else []
def rLays (o : Nat) : List Nat := if o = 2 ∨ (17 ≤ o ∧ o ≤ 24) then [110] else if o = 3 ∨ o = 4 ∨ (8 ≤ o ∧ o ≤ 16) then [98] else if o = 6 then [115] else if o = 5 then [105] else []
set_option maxRecDepth 10000 in
set_option maxHeartbeats 6400000 in
theorem takesR (o : Nat) (h : o ≤ 32) (w : World) : Calls Tryd.prog 49 #[.int .i64 (o : Nat)] w fun e w' => e = .returned (.string (txt (rTakes o))) ∧ w' = w := by
 have key : ∀ x : Nat, x ≤ 32 → x = 0 ∨ x = 1 ∨ x = 2 ∨ x = 3 ∨ x = 4 ∨ x = 5 ∨ x = 6 ∨ x = 7 ∨ x = 8 ∨ x = 9 ∨ x = 10 ∨ x = 11 ∨ x = 12 ∨ x = 13 ∨ x = 14 ∨ x = 15 ∨ x = 16 ∨ x = 17 ∨ x = 18 ∨ x = 19 ∨ x = 20 ∨ x = 21 ∨ x = 22 ∨ x = 23 ∨ x = 24 ∨ x = 25 ∨ x = 26 ∨ x = 27 ∨ x = 28 ∨ x = 29 ∨ x = 30 ∨ x = 31 ∨ x = 32 := by omega
 rcases key o h with rfl | rfl | rfl | rfl | rfl | rfl | rfl | rfl | rfl | rfl | rfl | rfl | rfl | rfl | rfl | rfl | rfl | rfl | rfl | rfl | rfl | rfl | rfl | rfl | rfl | rfl | rfl | rfl | rfl | rfl | rfl | rfl | rfl
 all_goals
  clear key
  go_enter Tryd.func49, Tryd.ntmps49
  go_wp2
  go_ret
  exact ⟨rfl, rfl⟩
set_option maxRecDepth 10000 in
set_option maxHeartbeats 6400000 in
theorem laysR (o : Nat) (h : o ≤ 32) (w : World) : Calls Tryd.prog 94 #[.int .i64 (o : Nat)] w fun e w' => e = .returned (.string (txt (rLays o))) ∧ w' = w := by
 have key : ∀ x : Nat, x ≤ 32 → x = 0 ∨ x = 1 ∨ x = 2 ∨ x = 3 ∨ x = 4 ∨ x = 5 ∨ x = 6 ∨ x = 7 ∨ x = 8 ∨ x = 9 ∨ x = 10 ∨ x = 11 ∨ x = 12 ∨ x = 13 ∨ x = 14 ∨ x = 15 ∨ x = 16 ∨ x = 17 ∨ x = 18 ∨ x = 19 ∨ x = 20 ∨ x = 21 ∨ x = 22 ∨ x = 23 ∨ x = 24 ∨ x = 25 ∨ x = 26 ∨ x = 27 ∨ x = 28 ∨ x = 29 ∨ x = 30 ∨ x = 31 ∨ x = 32 := by omega
 rcases key o h with rfl | rfl | rfl | rfl | rfl | rfl | rfl | rfl | rfl | rfl | rfl | rfl | rfl | rfl | rfl | rfl | rfl | rfl | rfl | rfl | rfl | rfl | rfl | rfl | rfl | rfl | rfl | rfl | rfl | rfl | rfl | rfl | rfl
 all_goals
  clear key
  go_enter Tryd.func94, Tryd.ntmps94
  go_wp2
  go_ret
  exact ⟨rfl, rfl⟩
/-- The kinds that a letter of the reference means. -/
def rKind (p : Pv) (a : Int) (c : Nat) : Bool := if c = 98 then true else if c = 115 then decide (p.S a.toNat = 1) else if c = 105 then decide (a = 7) else false
theorem colB_takes (p : Pv) (o : Nat) (h : o ≤ 32) (a : Int) : (rTakes o).map (rKind p a) = colB p (fTakes o) a := by
 have : ∀ o, o ≤ 32 → ((fTakes o = [115] ∧ rTakes o = [115]) ∨ (fTakes o ≠ [115] ∧ fTakes o ≠ [105] ∧ (rTakes o).map (fun c => c == 98) = (fTakes o).map (fun x => x == 116) ∧ ∀ c ∈ rTakes o, c = 98 ∨ c = 110)) := by decide
 rcases this o h with ⟨e1, e2⟩ | ⟨n1, n2, e, hc⟩
 ·rw [e1, e2]; rfl
 ·unfold colB
  rw [if_neg n1, if_neg n2, ← e]
  refine List.map_congr_left (fun c hcm => ?_)
  rcases hc c hcm with rfl | rfl <;> rfl
theorem colB_lays (p : Pv) (o : Nat) (h : o ≤ 32) (a : Int) : (rLays o).map (rKind p a) = colB p (fLays o) a := by
 have : ∀ o, o ≤ 32 → ((fLays o = [115] ∧ rLays o = [115]) ∨ (fLays o = [105] ∧ rLays o = [105]) ∨ (fLays o ≠ [115] ∧ fLays o ≠ [105] ∧ (rLays o).map (fun c => c == 98) = (fLays o).map (fun x => x == 116) ∧ ∀ c ∈ rLays o, c = 98 ∨ c = 110)) := by decide
 rcases this o h with ⟨e1, e2⟩ | ⟨e1, e2⟩ | ⟨n1, n2, e, hc⟩
 ·rw [e1, e2]; rfl
 ·rw [e1, e2]; rfl
 ·unfold colB
  rw [if_neg n1, if_neg n2, ← e]
  refine List.map_congr_left (fun c hcm => ?_)
  rcases hc c hcm with rfl | rfl <;> rfl
end Go.Proofs.YtmoklddfaocihaaDoor
namespace Go.Proofs.YtmoklddfaocihaaDoor
open Go.RowKit

theorem FV.setB {W : World} {q : Nat} {cs : Array Value} {t : TypeId} {ao : Option Addr} {L : List Lk} {b off : Nat} (h : FV W.heap.size W ao L b off) (hq : W.heap[q]? = some (.cells cs t (0, 0))) (hs : ∀ (j : Nat) (x : ByteArray), cs[j]? ≠ some (Value.string x)) (i : Nat) (u : Value) : FV (W.setCell ⟨q, i, none⟩ u).heap.size (W.setCell ⟨q, i, none⟩ u) ao L b off := by
 refine ⟨h.ad, fun e => by simpa using h.lt e, h.le, fun j l hl => ?_⟩
 have hne : b ≠ q := fun e => by
  have := (h.at_ j l hl).1
  rw [e, block_cell hq] at this
  exact hs _ _ this
 obtain ⟨a1, a2⟩ := h.at_ j l hl
 constructor
 ·rw [World.cell?_setCell_far _ _ _ _ (by simpa using fun e => hne e.symm)]; exact a1
 ·rw [World.cell?_setCell_far _ _ _ _ (by simpa using fun e => hne e.symm)]; exact a2
theorem setFv {W : World} {q : Nat} {x0 x1 : Value} {t : TypeId} (hq : W.heap[q]? = some (.cells #[x0, x1] t (0, 0))) (h0 : ∀ x, x0 ≠ .string x) (h1 : ∀ x, x1 ≠ .string x) {ao : Option Addr} {L : List Lk} {b off : Nat} (h : FV W.heap.size W ao L b off) (n cap : Nat) (y : Int) :
  FV ((W.setCell ⟨q, 0, none⟩ (.slice ao n cap)).setCell ⟨q, 1, none⟩ (.int .i64 y)).heap.size ((W.setCell ⟨q, 0, none⟩ (.slice ao n cap)).setCell ⟨q, 1, none⟩ (.int .i64 y)) ao L b off := by
 have s1 := heap_setCell_same W q 0 _ _ (.slice ao n cap) hq
 simp only [List.setIfInBounds_toArray, List.set_cons_zero] at s1
 refine (h.setB hq ?_ 0 _).setB s1 ?_ 1 _
 ·intro j x
  match j with
  | 0 => simpa using h0 x
  | 1 => simpa using h1 x
  | j + 2 => simp
 ·intro j x
  match j with
  | 0 => simp
  | 1 => simpa using h1 x
  | j + 2 => simp
set_option maxRecDepth 10000 in
set_option maxHeartbeats 800000 in
theorem refuseR (y a : Int) (w : World) : Calls Tryd.prog 37 #[.int .i64 y, .int .i64 a] w (RfP w (some (a, y))) := by
 obtain ⟨W1, hW1⟩ : ∃ W1, w.alloc (.cells #[.slice none 0 0, .int .i64 0] 30) = W1 := ⟨_, rfl⟩
 have B1 : Below w.heap.size w W1 := by rw [← hW1]; exact below_alloc1 w _
 have A1 : W1.heap[w.heap.size]? = some (.cells #[.slice none 0 0, .int .i64 0] 30 (0, 0)) := by rw [← hW1]; exact alloc_atK _ _
 have HN := hide (new0 ⟨#[99, 111, 100, 101]⟩ a y W1)
 have HW1 := hide hW1
 have HB1 := hide B1
 have HA1 := hide A1
 clear hW1 B1 A1
 unfold FvP at HN
 go_enter Tryd.func37, Tryd.ntmps37
 go_upto_region 1 with fail
 rw [HW1.out]
 clear HW1
 go_wp2_with fail
 refine HN.out.mono ?_
 rintro e w2 ⟨ao, cap, rfl, G⟩
 obtain ⟨b, off, hf, hb⟩ := G.out
 have A2 := (hb.block _ (block_lt HA1.out)).trans HA1.out
 have z0 := block_cell A2 0
 have z1 := block_cell A2 1
 have f0 := block_free A2 0
 have f1 := block_free A2 1
 have zl := block_lt A2
 simp at z0 z1
 have HD : Hid (FV ((w2.setCell ⟨w.heap.size, 0, none⟩ (.slice ao 1 cap)).setCell ⟨w.heap.size, 1, none⟩ (.int .i64 y)).heap.size ((w2.setCell ⟨w.heap.size, 0, none⟩ (.slice ao 1 cap)).setCell ⟨w.heap.size, 1, none⟩ (.int .i64 y)) ao [⟨⟨#[99, 111, 100, 101]⟩, a⟩] b off ∧ Below w.heap.size w ((w2.setCell ⟨w.heap.size, 0, none⟩ (.slice ao 1 cap)).setCell ⟨w.heap.size, 1, none⟩ (.int .i64 y))) := by
  refine ⟨setFv A2 (fun x => by simp) (fun x => by simp) hf 1 cap y, ?_⟩
  exact ((HB1.out.trans (hb.mono HB1.out.size)).setCell (p := ⟨w.heap.size, 0, none⟩) (Nat.le_refl _) _).setCell (p := ⟨w.heap.size, 1, none⟩) (Nat.le_refl _) _
 clear hf hb A2 G
 go_wp2
 refine bodyPost_ret (v := .agg #[.slice ao 1 cap, .int .i64 y]) (by simp [results, Tryd.results37, go_sem, z0, z1]) rfl ?_
 exact ⟨ao, cap, rfl, b, off, HD.out⟩
set_option maxRecDepth 10000 in
theorem anyNo (w : World) : Calls Tryd.prog 17 #[.agg #[.slice none 0 0, .int .i64 0]] w fun e w' => e = .returned (.bool false) ∧ Hid (Below w.heap.size w w') := by
 have HB : Hid (∀ o, Below w.heap.size w (w.alloc o)) := fun o => below_alloc1 w o
 go_enter Tryd.func17, Tryd.ntmps17
 go_wp2
 go_ret
 exact ⟨rfl, HB.out _⟩
set_option maxRecDepth 10000 in
theorem anyYes (ao : Option Addr) (n cap : Nat) (y : Int) (hy : y ≠ 0) (w : World) : Calls Tryd.prog 17 #[.agg #[.slice ao n cap, .int .i64 y]] w fun e w' => e = .returned (.bool true) ∧ Hid (Below w.heap.size w w') := by
 have HB : Hid (∀ o, Below w.heap.size w (w.alloc o)) := fun o => below_alloc1 w o
 have e0 : (y != 0) = true := by simpa using hy
 go_enter Tryd.func17, Tryd.ntmps17
 go_wp2
 go_ret
 exact ⟨rfl, HB.out _⟩
/-- Two boxes: a program and an instruction. -/
theorem two9 {W W2 : World} {g : Pg} {p : Pv} {o a : Int} (h : (W.alloc (.cells (g.cs p).toArray 27)).alloc (.cells #[.int .i64 o, .int .i64 a] 83) = W2) :
  W2.heap[W.heap.size]? = some (.cells (g.cs p).toArray 27 (0, 0)) ∧ W2.heap[W.heap.size + 1]? = some (.cells #[.int .i64 o, .int .i64 a] 83 (0, 0)) ∧ Below W.heap.size W W2 := by
 have e1 : (W.alloc (.cells (g.cs p).toArray 27)).heap.size = W.heap.size + 1 := by simp
 refine ⟨?_, ?_, ?_⟩
 ·rw [← h]
  exact ((below_alloc1 _ _).block _ (by rw [e1]; omega)).trans (alloc_atK _ _)
 ·rw [← h, ← e1]
  exact alloc_atK _ _
 ·rw [← h]
  exact (below_alloc1 W _).alloc (by simp) _
set_option maxRecDepth 10000 in
set_option maxHeartbeats 1600000 in
theorem kindOfR {W : World} {g : Pg} {p : Pv} (h : g.Ok p W.heap.size W) (o a : Int) (c : Nat) (hc : c = 98 ∨ c = 110 ∨ c = 115 ∨ c = 105) (hs : c = 115 → isPl a p.ns = true ∧ (p.S a.toNat = 0 ∨ p.S a.toNat = 1)) :
  Calls Tryd.prog 52 #[.agg (g.cs p).toArray, .agg #[.int .i64 o, .int .i64 a], .int .u8 (c : Nat)] W fun e w' => e = .returned (iv (rKind p a c)) ∧ Hid (Below W.heap.size W w') := by
 obtain ⟨W2, hW2⟩ : ∃ W2, (W.alloc (.cells (g.cs p).toArray 27)).alloc (.cells #[.int .i64 o, .int .i64 a] 83) = W2 := ⟨_, rfl⟩
 obtain ⟨p0, p1, B2⟩ := two9 hW2
 have y1 := block_cell p0 1
 have yl := block_lt p0
 have x1 := block_cell p1 1
 have xl := block_lt p1
 simp [Pg.cs] at y1 x1
 have HB2 := hide B2
 have HW2 := hide hW2
 have hk := h.kept B2 (Nat.le_refl _)
 have HCS : Hid (g.cs p = [.slice g.ca p.nc g.cc, .slice g.sa p.ns g.sc, .int .i64 (p.en 0), .int .i64 (p.en 1), .int .i64 (p.en 2), .int .i64 (p.en 3), .int .i64 (p.en 4), .int .i64 (p.en 5), .slice g.ia p.n g.ic]) := rfl
 rw [HCS.out] at HW2 ⊢
 clear p0 p1 hW2
 rcases hc with rfl | rfl | rfl | rfl
 ·show Calls _ _ #[_, _, .int .u8 98] _ fun e w' => e = .returned (.int .i64 1) ∧ _
  clear h hk hs B2
  go_enter Tryd.func52, Tryd.ntmps52
  go_upto_region 1 with fail
  rw [HW2.out]
  go_wp2
  go_ret
  exact ⟨rfl, HB2⟩
 ·show Calls _ _ #[_, _, .int .u8 110] _ fun e w' => e = .returned (.int .i64 0) ∧ _
  clear h hk hs B2
  go_enter Tryd.func52, Tryd.ntmps52
  go_upto_region 1 with fail
  rw [HW2.out]
  go_wp2
  go_ret
  exact ⟨rfl, HB2⟩
 ·obtain ⟨hp, hS⟩ := hs rfl
  obtain ⟨t, ht, htn⟩ : ∃ t : Nat, a = (t : Int) ∧ t < p.ns := ⟨_, (isPl_nat hp).1, (isPl_nat hp).2⟩
  subst ht
  have hv := hk.vs t htn
  obtain ⟨hsa, hsb⟩ := hk.hs (by omega)
  have hbl : g.sb < W2.heap.size := Nat.lt_of_lt_of_le hsb B2.size
  simp only [Int.toNat_natCast] at hS
  have e : iv (rKind p (t : Int) 115) = .int .i64 (p.S t) := by
   unfold rKind iv
   simp only [Int.toNat_natCast]
   rcases hS with e | e <;> simp [e]
  rw [e]
  show Calls _ _ #[_, _, .int .u8 115] _ fun e w' => e = .returned (.int .i64 (p.S t)) ∧ _
  rw [hsa] at y1
  clear h hk hs B2 e hS hp hsb hsa
  generalize p.S t = s at *
  go_enter Tryd.func52, Tryd.ntmps52
  go_upto_region 1 with fail
  rw [HW2.out]
  go_wp2
  go_ret
  exact ⟨rfl, HB2⟩
 ·clear h hk hs B2
  by_cases h7 : a = 7
  ·subst h7
   show Calls _ _ #[_, _, .int .u8 105] _ fun e w' => e = .returned (.int .i64 1) ∧ _
   go_enter Tryd.func52, Tryd.ntmps52
   go_upto_region 1 with fail
   rw [HW2.out]
   go_wp2
   go_ret
   exact ⟨rfl, HB2⟩
  ·have e : iv (rKind p a 105) = .int .i64 0 := by
    show iv (decide (a = 7)) = _
    rw [decide_eq_false h7]
    rfl
   rw [e]
   have e7 : (a == 7) = false := by simpa using h7
   show Calls _ _ #[_, _, .int .u8 105] _ fun e w' => e = .returned (.int .i64 0) ∧ _
   go_enter Tryd.func52, Tryd.ntmps52
   go_upto_region 1 with fail
   rw [HW2.out]
   go_wp2
   go_ret
   exact ⟨rfl, HB2⟩
set_option maxRecDepth 10000 in
set_option maxHeartbeats 6400000 in
theorem argNoR {W : World} {g : Pg} {p : Pv} (hlc : p.nc ≤ 140737488355328) (hls : p.ns ≤ 140737488355328) (hli : p.n ≤ 140737488355328) (o : Nat) (ho : o ≤ 32) (ho1 : 1 ≤ o) (a : Int) :
  Calls Tryd.prog 93 #[.agg (g.cs p).toArray, .agg #[.int .i64 (o : Nat), .int .i64 a]] W fun e w' => e = .returned (.bool (!argF p o a)) ∧ Hid (Below W.heap.size W w') := by
 obtain ⟨W2, hW2⟩ : ∃ W2, (W.alloc (.cells (g.cs p).toArray 27)).alloc (.cells #[.int .i64 (o : Nat), .int .i64 a] 83) = W2 := ⟨_, rfl⟩
 obtain ⟨p0, p1, B2⟩ := two9 hW2
 have y0 := block_cell p0 0
 have y1 := block_cell p0 1
 have y8 := block_cell p0 8
 have yl := block_lt p0
 have x0 := block_cell p1 0
 have x1 := block_cell p1 1
 have xl := block_lt p1
 simp [Pg.cs] at y0 y1 y8 x0 x1
 have HB2 := hide B2
 have HW2 := hide hW2
 have HCS : Hid (g.cs p = [.slice g.ca p.nc g.cc, .slice g.sa p.ns g.sc, .int .i64 (p.en 0), .int .i64 (p.en 1), .int .i64 (p.en 2), .int .i64 (p.en 3), .int .i64 (p.en 4), .int .i64 (p.en 5), .slice g.ia p.n g.ic]) := rfl
 rw [HCS.out] at HW2 ⊢
 clear p0 p1 hW2 B2
 obtain ⟨lo, hi, hA, hcase⟩ : ∃ lo hi : Int, (argF p o a = (decide (lo ≤ a) && decide (a ≤ hi))) ∧ ((o = 2 ∧ lo = 0 ∧ hi = (p.nc : Int) - 1) ∨ (o = 5 ∧ lo = 0 ∧ hi = 7) ∨ (o = 6 ∧ lo = 0 ∧ hi = (p.ns : Int) - 1) ∨ (o = 7 ∧ lo = 0 ∧ hi = (p.ns : Int) - 1) ∨ ((25 ≤ o ∧ o ≤ 28) ∧ lo = 0 ∧ hi = (p.n : Int) - 1) ∨ (o = 30 ∧ lo = 1 ∧ hi = 999) ∨ (o = 31 ∧ lo = 1 ∧ hi = 999) ∨ ((o ≠ 2 ∧ o ≠ 5 ∧ o ≠ 6 ∧ o ≠ 7 ∧ ¬ (25 ≤ o ∧ o ≤ 28) ∧ o ≠ 30 ∧ o ≠ 31) ∧ lo = 0 ∧ hi = 0)) := by
  have kArg : ∀ o, o ≤ 32 → (fArg o = 1 ∧ o = 2) ∨ (fArg o = 2 ∧ o = 5) ∨ (fArg o = 3 ∧ (o = 6 ∨ o = 7)) ∨ (fArg o = 4 ∧ (25 ≤ o ∧ o ≤ 28)) ∨ (fArg o = 5 ∧ (o = 30 ∨ o = 31)) ∨ (fArg o = 0 ∧ (o ≠ 2 ∧ o ≠ 5 ∧ o ≠ 6 ∧ o ≠ 7 ∧ ¬ (25 ≤ o ∧ o ≤ 28) ∧ o ≠ 30 ∧ o ≠ 31)) := by decide
  have pl : ∀ n : Nat, isPl a n = (decide (0 ≤ a) && decide (a ≤ (n : Int) - 1)) := fun n => by
   unfold isPl
   congr 1
   exact decide_eq_decide.2 (by omega)
  unfold argF
  rcases kArg o ho with ⟨e, c⟩ | ⟨e, c⟩ | ⟨e, c⟩ | ⟨e, c⟩ | ⟨e, c⟩ | ⟨e, c⟩
  ·refine ⟨0, (p.nc : Int) - 1, ?_, .inl ⟨c, rfl, rfl⟩⟩
   rw [if_pos e]; exact pl _
  ·refine ⟨0, 7, ?_, .inr (.inl ⟨c, rfl, rfl⟩)⟩
   rw [if_neg (by omega), if_pos e]; exact pl 8
  ·refine ⟨0, (p.ns : Int) - 1, ?_, by rcases c with c | c; exact .inr (.inr (.inl ⟨c, rfl, rfl⟩)); exact .inr (.inr (.inr (.inl ⟨c, rfl, rfl⟩)))⟩
   rw [if_neg (by omega), if_neg (by omega), if_pos e]; exact pl _
  ·refine ⟨0, (p.n : Int) - 1, ?_, .inr (.inr (.inr (.inr (.inl ⟨c, rfl, rfl⟩))))⟩
   rw [if_neg (by omega), if_neg (by omega), if_neg (by omega), if_pos e]; exact pl _
  ·refine ⟨1, 999, ?_, by rcases c with c | c; exact .inr (.inr (.inr (.inr (.inr (.inl ⟨c, rfl, rfl⟩))))); exact .inr (.inr (.inr (.inr (.inr (.inr (.inl ⟨c, rfl, rfl⟩))))))⟩
   rw [if_neg (by omega), if_neg (by omega), if_neg (by omega), if_neg (by omega), if_pos e]
  ·refine ⟨0, 0, ?_, .inr (.inr (.inr (.inr (.inr (.inr (.inr ⟨c, rfl, rfl⟩))))))⟩
   rw [if_neg (by omega), if_neg (by omega), if_neg (by omega), if_neg (by omega), if_neg (by omega)]
   by_cases h0 : a = 0
   ·subst h0; rfl
   ·rw [decide_eq_false h0]
    by_cases h1 : 0 ≤ a
    ·rw [decide_eq_true h1, decide_eq_false (by omega)]; rfl
    ·rw [decide_eq_false h1]; rfl
 rw [hA]
 clear hA
 rcases hcase with ⟨ho', rfl, rfl⟩ | ⟨ho', rfl, rfl⟩ | ⟨ho', rfl, rfl⟩ | ⟨ho', rfl, rfl⟩ | ⟨⟨hl, hh⟩, rfl, rfl⟩ | ⟨ho', rfl, rfl⟩ | ⟨ho', rfl, rfl⟩ | ⟨⟨n2, n5, n6, n7, nr, n30, n31⟩, rfl, rfl⟩
 ·have q2 : ((o : Int) == 2) = true := by simp; omega
  clear ho' ho ho1
  by_cases h1 : 0 ≤ a
  ·have d1 : decide (a < 0) = false := decide_eq_false (by omega)
   by_cases h2 : a ≤ (p.nc : Int) - 1
   ·rw [decide_eq_true h1, decide_eq_true h2]
    have d2 : decide ((p.nc : Int) - 1 < a) = false := decide_eq_false (by omega)
    clear h1 h2
    show Calls _ _ _ _ fun e w' => e = .returned (.bool false) ∧ _
    go_enter Tryd.func93, Tryd.ntmps93
    go_upto_region 1 with fail
    rw [HW2.out]
    go_wp2
    go_ret
    exact ⟨rfl, HB2⟩
   ·rw [decide_eq_true h1, decide_eq_false h2]
    have d2 : decide ((p.nc : Int) - 1 < a) = true := decide_eq_true (by omega)
    clear h1 h2
    show Calls _ _ _ _ fun e w' => e = .returned (.bool true) ∧ _
    go_enter Tryd.func93, Tryd.ntmps93
    go_upto_region 1 with fail
    rw [HW2.out]
    go_wp2
    go_ret
    exact ⟨rfl, HB2⟩
  ·have d1 : decide (a < 0) = true := decide_eq_true (by omega)
   rw [decide_eq_false h1]
   clear h1
   show Calls _ _ _ _ fun e w' => e = .returned (.bool true) ∧ _
   go_enter Tryd.func93, Tryd.ntmps93
   go_upto_region 1 with fail
   rw [HW2.out]
   go_wp2
   go_ret
   exact ⟨rfl, HB2⟩
 ·have q2 : ((o : Int) == 2) = false := by simp; omega
  have q5 : ((o : Int) == 5) = true := by simp; omega
  clear ho' ho ho1
  by_cases h1 : 0 ≤ a
  ·have d1 : decide (a < 0) = false := decide_eq_false (by omega)
   by_cases h2 : a ≤ 7
   ·rw [decide_eq_true h1, decide_eq_true h2]
    have d2 : decide (7 < a) = false := decide_eq_false (by omega)
    clear h1 h2
    show Calls _ _ _ _ fun e w' => e = .returned (.bool false) ∧ _
    go_enter Tryd.func93, Tryd.ntmps93
    go_upto_region 1 with fail
    rw [HW2.out]
    go_wp2
    go_ret
    exact ⟨rfl, HB2⟩
   ·rw [decide_eq_true h1, decide_eq_false h2]
    have d2 : decide (7 < a) = true := decide_eq_true (by omega)
    clear h1 h2
    show Calls _ _ _ _ fun e w' => e = .returned (.bool true) ∧ _
    go_enter Tryd.func93, Tryd.ntmps93
    go_upto_region 1 with fail
    rw [HW2.out]
    go_wp2
    go_ret
    exact ⟨rfl, HB2⟩
  ·have d1 : decide (a < 0) = true := decide_eq_true (by omega)
   rw [decide_eq_false h1]
   clear h1
   show Calls _ _ _ _ fun e w' => e = .returned (.bool true) ∧ _
   go_enter Tryd.func93, Tryd.ntmps93
   go_upto_region 1 with fail
   rw [HW2.out]
   go_wp2
   go_ret
   exact ⟨rfl, HB2⟩
 ·have q2 : ((o : Int) == 2) = false := by simp; omega
  have q5 : ((o : Int) == 5) = false := by simp; omega
  have q6 : ((o : Int) == 6) = true := by simp; omega
  clear ho' ho ho1
  by_cases h1 : 0 ≤ a
  ·have d1 : decide (a < 0) = false := decide_eq_false (by omega)
   by_cases h2 : a ≤ (p.ns : Int) - 1
   ·rw [decide_eq_true h1, decide_eq_true h2]
    have d2 : decide ((p.ns : Int) - 1 < a) = false := decide_eq_false (by omega)
    clear h1 h2
    show Calls _ _ _ _ fun e w' => e = .returned (.bool false) ∧ _
    go_enter Tryd.func93, Tryd.ntmps93
    go_upto_region 1 with fail
    rw [HW2.out]
    go_wp2
    go_ret
    exact ⟨rfl, HB2⟩
   ·rw [decide_eq_true h1, decide_eq_false h2]
    have d2 : decide ((p.ns : Int) - 1 < a) = true := decide_eq_true (by omega)
    clear h1 h2
    show Calls _ _ _ _ fun e w' => e = .returned (.bool true) ∧ _
    go_enter Tryd.func93, Tryd.ntmps93
    go_upto_region 1 with fail
    rw [HW2.out]
    go_wp2
    go_ret
    exact ⟨rfl, HB2⟩
  ·have d1 : decide (a < 0) = true := decide_eq_true (by omega)
   rw [decide_eq_false h1]
   clear h1
   show Calls _ _ _ _ fun e w' => e = .returned (.bool true) ∧ _
   go_enter Tryd.func93, Tryd.ntmps93
   go_upto_region 1 with fail
   rw [HW2.out]
   go_wp2
   go_ret
   exact ⟨rfl, HB2⟩
 ·have q2 : ((o : Int) == 2) = false := by simp; omega
  have q5 : ((o : Int) == 5) = false := by simp; omega
  have q6 : ((o : Int) == 6) = false := by simp; omega
  have q7 : ((o : Int) == 7) = true := by simp; omega
  clear ho' ho ho1
  by_cases h1 : 0 ≤ a
  ·have d1 : decide (a < 0) = false := decide_eq_false (by omega)
   by_cases h2 : a ≤ (p.ns : Int) - 1
   ·rw [decide_eq_true h1, decide_eq_true h2]
    have d2 : decide ((p.ns : Int) - 1 < a) = false := decide_eq_false (by omega)
    clear h1 h2
    show Calls _ _ _ _ fun e w' => e = .returned (.bool false) ∧ _
    go_enter Tryd.func93, Tryd.ntmps93
    go_upto_region 1 with fail
    rw [HW2.out]
    go_wp2
    go_ret
    exact ⟨rfl, HB2⟩
   ·rw [decide_eq_true h1, decide_eq_false h2]
    have d2 : decide ((p.ns : Int) - 1 < a) = true := decide_eq_true (by omega)
    clear h1 h2
    show Calls _ _ _ _ fun e w' => e = .returned (.bool true) ∧ _
    go_enter Tryd.func93, Tryd.ntmps93
    go_upto_region 1 with fail
    rw [HW2.out]
    go_wp2
    go_ret
    exact ⟨rfl, HB2⟩
  ·have d1 : decide (a < 0) = true := decide_eq_true (by omega)
   rw [decide_eq_false h1]
   clear h1
   show Calls _ _ _ _ fun e w' => e = .returned (.bool true) ∧ _
   go_enter Tryd.func93, Tryd.ntmps93
   go_upto_region 1 with fail
   rw [HW2.out]
   go_wp2
   go_ret
   exact ⟨rfl, HB2⟩
 ·have q2 : ((o : Int) == 2) = false := by simp; omega
  have q5 : ((o : Int) == 5) = false := by simp; omega
  have q6 : ((o : Int) == 6) = false := by simp; omega
  have q7 : ((o : Int) == 7) = false := by simp; omega
  have q30 : ((o : Int) == 30) = false := by simp; omega
  have q31 : ((o : Int) == 31) = false := by simp; omega
  have r25 : decide (25 ≤ (o : Int)) = true := decide_eq_true (by omega)
  have r28 : decide ((o : Int) ≤ 28) = true := decide_eq_true (by omega)
  clear hl hh ho ho1
  by_cases h1 : 0 ≤ a
  ·have d1 : decide (a < 0) = false := decide_eq_false (by omega)
   by_cases h2 : a ≤ (p.n : Int) - 1
   ·rw [decide_eq_true h1, decide_eq_true h2]
    have d2 : decide ((p.n : Int) - 1 < a) = false := decide_eq_false (by omega)
    clear h1 h2
    show Calls _ _ _ _ fun e w' => e = .returned (.bool false) ∧ _
    go_enter Tryd.func93, Tryd.ntmps93
    go_upto_region 1 with fail
    rw [HW2.out]
    go_wp2
    go_ret
    exact ⟨rfl, HB2⟩
   ·rw [decide_eq_true h1, decide_eq_false h2]
    have d2 : decide ((p.n : Int) - 1 < a) = true := decide_eq_true (by omega)
    clear h1 h2
    show Calls _ _ _ _ fun e w' => e = .returned (.bool true) ∧ _
    go_enter Tryd.func93, Tryd.ntmps93
    go_upto_region 1 with fail
    rw [HW2.out]
    go_wp2
    go_ret
    exact ⟨rfl, HB2⟩
  ·have d1 : decide (a < 0) = true := decide_eq_true (by omega)
   rw [decide_eq_false h1]
   clear h1
   show Calls _ _ _ _ fun e w' => e = .returned (.bool true) ∧ _
   go_enter Tryd.func93, Tryd.ntmps93
   go_upto_region 1 with fail
   rw [HW2.out]
   go_wp2
   go_ret
   exact ⟨rfl, HB2⟩
 ·have q2 : ((o : Int) == 2) = false := by simp; omega
  have q5 : ((o : Int) == 5) = false := by simp; omega
  have q6 : ((o : Int) == 6) = false := by simp; omega
  have q7 : ((o : Int) == 7) = false := by simp; omega
  have q30 : ((o : Int) == 30) = true := by simp; omega
  have q31 : ((o : Int) == 31) = false := by simp; omega
  have r25 : decide (25 ≤ (o : Int)) = true := decide_eq_true (by omega)
  have r28 : decide ((o : Int) ≤ 28) = false := decide_eq_false (by omega)
  clear ho' ho ho1
  by_cases h1 : 1 ≤ a
  ·have d1 : decide (a < 1) = false := decide_eq_false (by omega)
   by_cases h2 : a ≤ 999
   ·rw [decide_eq_true h1, decide_eq_true h2]
    have d2 : decide (999 < a) = false := decide_eq_false (by omega)
    clear h1 h2
    show Calls _ _ _ _ fun e w' => e = .returned (.bool false) ∧ _
    go_enter Tryd.func93, Tryd.ntmps93
    go_upto_region 1 with fail
    rw [HW2.out]
    go_wp2
    go_ret
    exact ⟨rfl, HB2⟩
   ·rw [decide_eq_true h1, decide_eq_false h2]
    have d2 : decide (999 < a) = true := decide_eq_true (by omega)
    clear h1 h2
    show Calls _ _ _ _ fun e w' => e = .returned (.bool true) ∧ _
    go_enter Tryd.func93, Tryd.ntmps93
    go_upto_region 1 with fail
    rw [HW2.out]
    go_wp2
    go_ret
    exact ⟨rfl, HB2⟩
  ·have d1 : decide (a < 1) = true := decide_eq_true (by omega)
   rw [decide_eq_false h1]
   clear h1
   show Calls _ _ _ _ fun e w' => e = .returned (.bool true) ∧ _
   go_enter Tryd.func93, Tryd.ntmps93
   go_upto_region 1 with fail
   rw [HW2.out]
   go_wp2
   go_ret
   exact ⟨rfl, HB2⟩
 ·have q2 : ((o : Int) == 2) = false := by simp; omega
  have q5 : ((o : Int) == 5) = false := by simp; omega
  have q6 : ((o : Int) == 6) = false := by simp; omega
  have q7 : ((o : Int) == 7) = false := by simp; omega
  have q30 : ((o : Int) == 30) = false := by simp; omega
  have q31 : ((o : Int) == 31) = true := by simp; omega
  have r25 : decide (25 ≤ (o : Int)) = true := decide_eq_true (by omega)
  have r28 : decide ((o : Int) ≤ 28) = false := decide_eq_false (by omega)
  clear ho' ho ho1
  by_cases h1 : 1 ≤ a
  ·have d1 : decide (a < 1) = false := decide_eq_false (by omega)
   by_cases h2 : a ≤ 999
   ·rw [decide_eq_true h1, decide_eq_true h2]
    have d2 : decide (999 < a) = false := decide_eq_false (by omega)
    clear h1 h2
    show Calls _ _ _ _ fun e w' => e = .returned (.bool false) ∧ _
    go_enter Tryd.func93, Tryd.ntmps93
    go_upto_region 1 with fail
    rw [HW2.out]
    go_wp2
    go_ret
    exact ⟨rfl, HB2⟩
   ·rw [decide_eq_true h1, decide_eq_false h2]
    have d2 : decide (999 < a) = true := decide_eq_true (by omega)
    clear h1 h2
    show Calls _ _ _ _ fun e w' => e = .returned (.bool true) ∧ _
    go_enter Tryd.func93, Tryd.ntmps93
    go_upto_region 1 with fail
    rw [HW2.out]
    go_wp2
    go_ret
    exact ⟨rfl, HB2⟩
  ·have d1 : decide (a < 1) = true := decide_eq_true (by omega)
   rw [decide_eq_false h1]
   clear h1
   show Calls _ _ _ _ fun e w' => e = .returned (.bool true) ∧ _
   go_enter Tryd.func93, Tryd.ntmps93
   go_upto_region 1 with fail
   rw [HW2.out]
   go_wp2
   go_ret
   exact ⟨rfl, HB2⟩
 ·have q2 : ((o : Int) == 2) = false := by simp; omega
  have q5 : ((o : Int) == 5) = false := by simp; omega
  have q6 : ((o : Int) == 6) = false := by simp; omega
  have q7 : ((o : Int) == 7) = false := by simp; omega
  have q30 : ((o : Int) == 30) = false := by simp; omega
  have q31 : ((o : Int) == 31) = false := by simp; omega
  by_cases h25 : 25 ≤ o
  ·have r25 : decide (25 ≤ (o : Int)) = true := decide_eq_true (by omega)
   have r28 : decide ((o : Int) ≤ 28) = false := decide_eq_false (by omega)
   clear n2 n5 n6 n7 nr n30 n31 ho ho1 h25
   by_cases h1 : 0 ≤ a
   ·have d1 : decide (a < 0) = false := decide_eq_false (by omega)
    by_cases h2 : a ≤ 0
    ·rw [decide_eq_true h1, decide_eq_true h2]
     have d2 : decide (0 < a) = false := decide_eq_false (by omega)
     clear h1 h2
     show Calls _ _ _ _ fun e w' => e = .returned (.bool false) ∧ _
     go_enter Tryd.func93, Tryd.ntmps93
     go_upto_region 1 with fail
     rw [HW2.out]
     go_wp2
     go_ret
     exact ⟨rfl, HB2⟩
    ·rw [decide_eq_true h1, decide_eq_false h2]
     have d2 : decide (0 < a) = true := decide_eq_true (by omega)
     clear h1 h2
     show Calls _ _ _ _ fun e w' => e = .returned (.bool true) ∧ _
     go_enter Tryd.func93, Tryd.ntmps93
     go_upto_region 1 with fail
     rw [HW2.out]
     go_wp2
     go_ret
     exact ⟨rfl, HB2⟩
   ·have d1 : decide (a < 0) = true := decide_eq_true (by omega)
    rw [decide_eq_false h1]
    clear h1
    show Calls _ _ _ _ fun e w' => e = .returned (.bool true) ∧ _
    go_enter Tryd.func93, Tryd.ntmps93
    go_upto_region 1 with fail
    rw [HW2.out]
    go_wp2
    go_ret
    exact ⟨rfl, HB2⟩
  ·have r25 : decide (25 ≤ (o : Int)) = false := decide_eq_false (by omega)
   clear n2 n5 n6 n7 nr n30 n31 ho ho1 h25
   by_cases h1 : 0 ≤ a
   ·have d1 : decide (a < 0) = false := decide_eq_false (by omega)
    by_cases h2 : a ≤ 0
    ·rw [decide_eq_true h1, decide_eq_true h2]
     have d2 : decide (0 < a) = false := decide_eq_false (by omega)
     clear h1 h2
     show Calls _ _ _ _ fun e w' => e = .returned (.bool false) ∧ _
     go_enter Tryd.func93, Tryd.ntmps93
     go_upto_region 1 with fail
     rw [HW2.out]
     go_wp2
     go_ret
     exact ⟨rfl, HB2⟩
    ·rw [decide_eq_true h1, decide_eq_false h2]
     have d2 : decide (0 < a) = true := decide_eq_true (by omega)
     clear h1 h2
     show Calls _ _ _ _ fun e w' => e = .returned (.bool true) ∧ _
     go_enter Tryd.func93, Tryd.ntmps93
     go_upto_region 1 with fail
     rw [HW2.out]
     go_wp2
     go_ret
     exact ⟨rfl, HB2⟩
   ·have d1 : decide (a < 0) = true := decide_eq_true (by omega)
    rw [decide_eq_false h1]
    clear h1
    show Calls _ _ _ _ fun e w' => e = .returned (.bool true) ∧ _
    go_enter Tryd.func93, Tryd.ntmps93
    go_upto_region 1 with fail
    rw [HW2.out]
    go_wp2
    go_ret
    exact ⟨rfl, HB2⟩
end Go.Proofs.YtmoklddfaocihaaDoor
namespace Go.Proofs.YtmoklddfaocihaaDoor
open Go.RowKit

/-- The world while the letters are gone through. -/
structure Lt (W : World) (hb n : Nat) (k : Kn) (l : List Bool) (ib j : Nat) (v : Value) (wr : World) : Prop where
 it : wr.heap[ib]? = some (.stringIter (ktx l) j)
 row : wr.ownsRow W.heap.size 3 1 v j ((l.take j).map iv)
 bel : Below W.heap.size W wr
 sh : Shp wr hb n k
 lb : W.heap.size ≤ ib
 len : l.length ≤ 64
theorem Lt.next {W : World} {hb n : Nat} {k : Kn} {l : List Bool} {ib j : Nat} {v : Value} {wr : World} (h : Lt W hb n k l ib j v wr) {b : Bool} (hb' : l[j]? = some b) {w1 w2 : World} (h1 : w1 = wr.iterAt ib (ktx l) (j + 1)) {v' : Value} {o : Obj}
  (ho : w2.ownsRow W.heap.size 3 1 v' (j + 1) ((l.take j).map iv ++ [iv b])) (hg : (w1.alloc o).grownBy w2 v.ownBlock) : Lt W hb n k l ib (j + 1) v' w2 := by
 have g1 := iter_grown wr ib (ktx l) (j + 1)
 rw [← h1] at g1
 have hi1 : w1.heap[ib]? = some (.stringIter (ktx l) (j + 1)) := by rw [h1]; exact Lib.iterAt_heap wr ib _ _ _ h.it
 have ne1 : ∀ {q : Nat} {cs : Array Value} {t : TypeId} {z : Nat × Nat}, wr.heap[q]? = some (.cells cs t z) → q ≠ ib := fun hq e => by rw [e, h.it] at hq; cases hq
 have hl1 : ib < w1.heap.size := block_lt hi1
 have hv : ∀ g, v.ownBlock = some g → g ≠ ib ∧ ∃ cur, wr.heap[g]? = some (.cells cur 3 (0, 0)) := by
  intro g hgv
  rcases h.row.2 with ⟨e, _⟩ | ⟨g', cap, cur, e, _, hc, _⟩
  ·rw [e] at hgv; cases hgv
  ·rw [e] at hgv
   cases hgv
   exact ⟨ne1 hc, cur, hc⟩
 have b1 : Below W.heap.size W (w1.alloc o) := by
  have := Lib.below_iterAt h.bel h.lb (ktx l) (j + 1)
  rw [← h1] at this
  exact this.alloc this.size o
 have al := below_alloc1 w1 o
 refine ⟨?_, ?_, ?_, ?_, h.lb, h.len⟩
 ·refine (hg.block ib (by simp; omega) (fun e => ?_)).trans ((al.block ib hl1).trans hi1)
  exact (hv ib e.symm).1 rfl
 ·rw [List.take_add_one, hb', List.map_append]
  exact ho
 ·refine b1.grown hg b1.size (fun g e => ?_)
  exact (h.row.lt g e).1
 ·obtain ⟨cs, r1, r2⟩ := h.sh
  have x1 := (g1.block _ (block_lt r1) (by simpa using ne1 r1)).trans r1
  have x2 := (al.block _ (block_lt x1)).trans x1
  refine ⟨cs, (hg.block hb (block_lt x2) (fun e => ?_)).trans x2, r2⟩
  obtain ⟨_, cur, hc⟩ := hv hb e.symm
  rw [r1] at hc
  simp at hc
end Go.Proofs.YtmoklddfaocihaaDoor
