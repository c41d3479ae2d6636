import Derived.Test.YtggpaljilpbmhaaGreatDoorZ43
namespace Go.Proofs.YtggpaljilpbmhaaGreatDoor
open Go.RowKit

theorem FV.setB {W : World} {q : Nat} {cs : Array Value} {t : TypeId} {ao : Option Addr} {L : List Lk} {b off : Nat} (h : FV W.heap.size W ao L b off) (hq : W.heap[q]? = some (.cells cs t (0, 0))) (hs : ∀ (j : Nat) (x : ByteArray), cs[j]? ≠ some (Value.string x)) (i : Nat) (u : Value) : FV (W.setCell ⟨q, i, none⟩ u).heap.size (W.setCell ⟨q, i, none⟩ u) ao L b off := by
 refine ⟨h.ad, fun e => by simpa using h.lt e, h.le, fun j l hl => ?_⟩
 have hne : b ≠ q := fun e => by
  have := (h.at_ j l hl).1
  rw [e, block_cell hq] at this
  exact hs _ _ this
 obtain ⟨a1, a2⟩ := h.at_ j l hl
 constructor
 ·rw [World.cell?_setCell_far _ _ _ _ (by simpa using fun e => hne e.symm)]; exact a1
 ·rw [World.cell?_setCell_far _ _ _ _ (by simpa using fun e => hne e.symm)]; exact a2
theorem setFv {W : World} {q : Nat} {x0 x1 : Value} {t : TypeId} (hq : W.heap[q]? = some (.cells #[x0, x1] t (0, 0))) (h0 : ∀ x, x0 ≠ .string x) (h1 : ∀ x, x1 ≠ .string x) {ao : Option Addr} {L : List Lk} {b off : Nat} (h : FV W.heap.size W ao L b off) (n cap : Nat) (y : Int) :
  FV ((W.setCell ⟨q, 0, none⟩ (.slice ao n cap)).setCell ⟨q, 1, none⟩ (.int .i64 y)).heap.size ((W.setCell ⟨q, 0, none⟩ (.slice ao n cap)).setCell ⟨q, 1, none⟩ (.int .i64 y)) ao L b off := by
 have s1 := heap_setCell_same W q 0 _ _ (.slice ao n cap) hq
 simp only [List.setIfInBounds_toArray, List.set_cons_zero] at s1
 refine (h.setB hq ?_ 0 _).setB s1 ?_ 1 _
 ·intro j x
  match j with
  | 0 => simpa using h0 x
  | 1 => simpa using h1 x
  | j + 2 => simp
 ·intro j x
  match j with
  | 0 => simp
  | 1 => simpa using h1 x
  | j + 2 => simp
set_option maxRecDepth 10000 in
set_option maxHeartbeats 800000 in
theorem refuseR (y a : Int) (w : World) : Calls Tryz.prog 88 #[.int .i64 y, .int .i64 a] w (RfP w (some (a, y))) := by
 obtain ⟨W1, hW1⟩ : ∃ W1, w.alloc (.cells #[.slice none 0 0, .int .i64 0] 54) = W1 := ⟨_, rfl⟩
 have B1 : Below w.heap.size w W1 := by rw [← hW1]; exact below_alloc1 w _
 have A1 : W1.heap[w.heap.size]? = some (.cells #[.slice none 0 0, .int .i64 0] 54 (0, 0)) := by rw [← hW1]; exact alloc_atK _ _
 have HN := hide (new0 ⟨#[99, 111, 100, 101]⟩ a y W1)
 have HW1 := hide hW1
 have HB1 := hide B1
 have HA1 := hide A1
 clear hW1 B1 A1
 unfold FvP at HN
 go_enter Tryz.func88, Tryz.ntmps88
 go_upto_region 1 with fail
 rw [HW1.out]
 clear HW1
 go_wp2_with fail
 refine HN.out.mono ?_
 rintro e w2 ⟨ao, cap, rfl, G⟩
 obtain ⟨b, off, hf, hb⟩ := G.out
 have A2 := (hb.block _ (block_lt HA1.out)).trans HA1.out
 have z0 := block_cell A2 0
 have z1 := block_cell A2 1
 have f0 := block_free A2 0
 have f1 := block_free A2 1
 have zl := block_lt A2
 simp at z0 z1
 have HD : Hid (FV ((w2.setCell ⟨w.heap.size, 0, none⟩ (.slice ao 1 cap)).setCell ⟨w.heap.size, 1, none⟩ (.int .i64 y)).heap.size ((w2.setCell ⟨w.heap.size, 0, none⟩ (.slice ao 1 cap)).setCell ⟨w.heap.size, 1, none⟩ (.int .i64 y)) ao [⟨⟨#[99, 111, 100, 101]⟩, a⟩] b off ∧ Below w.heap.size w ((w2.setCell ⟨w.heap.size, 0, none⟩ (.slice ao 1 cap)).setCell ⟨w.heap.size, 1, none⟩ (.int .i64 y))) := by
  refine ⟨setFv A2 (fun x => by simp) (fun x => by simp) hf 1 cap y, ?_⟩
  exact ((HB1.out.trans (hb.mono HB1.out.size)).setCell (p := ⟨w.heap.size, 0, none⟩) (Nat.le_refl _) _).setCell (p := ⟨w.heap.size, 1, none⟩) (Nat.le_refl _) _
 clear hf hb A2 G
 go_wp2
 refine bodyPost_ret (v := .agg #[.slice ao 1 cap, .int .i64 y]) (by simp [results, Tryz.results88, go_sem, z0, z1]) rfl ?_
 exact ⟨ao, cap, rfl, b, off, HD.out⟩
set_option maxRecDepth 10000 in
theorem anyNo (w : World) : Calls Tryz.prog 36 #[.agg #[.slice none 0 0, .int .i64 0]] w fun e w' => e = .returned (.bool false) ∧ Hid (Below w.heap.size w w') := by
 have HB : Hid (∀ o, Below w.heap.size w (w.alloc o)) := fun o => below_alloc1 w o
 go_enter Tryz.func36, Tryz.ntmps36
 go_wp2
 go_ret
 exact ⟨rfl, HB.out _⟩
set_option maxRecDepth 10000 in
theorem anyYes (ao : Option Addr) (n cap : Nat) (y : Int) (hy : y ≠ 0) (w : World) : Calls Tryz.prog 36 #[.agg #[.slice ao n cap, .int .i64 y]] w fun e w' => e = .returned (.bool true) ∧ Hid (Below w.heap.size w w') := by
 have HB : Hid (∀ o, Below w.heap.size w (w.alloc o)) := fun o => below_alloc1 w o
 have e0 : (y != 0) = true := by simpa using hy
 go_enter Tryz.func36, Tryz.ntmps36
 go_wp2
 go_ret
 exact ⟨rfl, HB.out _⟩
/-- Two boxes: a program and an instruction. -/
theorem two9 {W W2 : World} {g : Pg} {p : Pv} {o a : Int} (h : (W.alloc (.cells (g.cs p).toArray 27)).alloc (.cells #[.int .i64 o, .int .i64 a] 42) = W2) :
  W2.heap[W.heap.size]? = some (.cells (g.cs p).toArray 27 (0, 0)) ∧ W2.heap[W.heap.size + 1]? = some (.cells #[.int .i64 o, .int .i64 a] 42 (0, 0)) ∧ Below W.heap.size W W2 := by
 have e1 : (W.alloc (.cells (g.cs p).toArray 27)).heap.size = W.heap.size + 1 := by simp
 refine ⟨?_, ?_, ?_⟩
 ·rw [← h]
  exact ((below_alloc1 _ _).block _ (by rw [e1]; omega)).trans (alloc_atK _ _)
 ·rw [← h, ← e1]
  exact alloc_atK _ _
 ·rw [← h]
  exact (below_alloc1 W _).alloc (by simp) _
set_option maxRecDepth 10000 in
set_option maxHeartbeats 1600000 in
theorem kindOfR {W : World} {g : Pg} {p : Pv} (h : g.Ok p W.heap.size W) (o a : Int) (c : Nat) (hc : c = 98 ∨ c = 110 ∨ c = 115 ∨ c = 105) (hs : c = 115 → isPl a p.ns = true ∧ (p.S a.toNat = 0 ∨ p.S a.toNat = 1)) :
  Calls Tryz.prog 195 #[.agg (g.cs p).toArray, .agg #[.int .i64 o, .int .i64 a], .int .u8 (c : Nat)] W fun e w' => e = .returned (iv (rKind p a c)) ∧ Hid (Below W.heap.size W w') := by
 obtain ⟨W2, hW2⟩ : ∃ W2, (W.alloc (.cells (g.cs p).toArray 27)).alloc (.cells #[.int .i64 o, .int .i64 a] 42) = W2 := ⟨_, rfl⟩
 obtain ⟨p0, p1, B2⟩ := two9 hW2
 have y1 := block_cell p0 1
 have yl := block_lt p0
 have x1 := block_cell p1 1
 have xl := block_lt p1
 simp [Pg.cs] at y1 x1
 have HB2 := hide B2
 have HW2 := hide hW2
 have hk := h.kept B2 (Nat.le_refl _)
 have HCS : Hid (g.cs p = [.slice g.ca p.nc g.cc, .slice g.sa p.ns g.sc, .int .i64 (p.en 0), .int .i64 (p.en 1), .int .i64 (p.en 2), .int .i64 (p.en 3), .int .i64 (p.en 4), .int .i64 (p.en 5), .slice g.ia p.n g.ic]) := rfl
 rw [HCS.out] at HW2 ⊢
 clear p0 p1 hW2
 rcases hc with rfl | rfl | rfl | rfl
 ·show Calls _ _ #[_, _, .int .u8 98] _ fun e w' => e = .returned (.int .i64 1) ∧ _
  clear h hk hs B2
  go_enter Tryz.func195, Tryz.ntmps195
  go_upto_region 1 with fail
  rw [HW2.out]
  go_wp2
  go_ret
  exact ⟨rfl, HB2⟩
 ·show Calls _ _ #[_, _, .int .u8 110] _ fun e w' => e = .returned (.int .i64 0) ∧ _
  clear h hk hs B2
  go_enter Tryz.func195, Tryz.ntmps195
  go_upto_region 1 with fail
  rw [HW2.out]
  go_wp2
  go_ret
  exact ⟨rfl, HB2⟩
 ·obtain ⟨hp, hS⟩ := hs rfl
  obtain ⟨t, ht, htn⟩ : ∃ t : Nat, a = (t : Int) ∧ t < p.ns := ⟨_, (isPl_nat hp).1, (isPl_nat hp).2⟩
  subst ht
  have hv := hk.vs t htn
  obtain ⟨hsa, hsb⟩ := hk.hs (by omega)
  have hbl : g.sb < W2.heap.size := Nat.lt_of_lt_of_le hsb B2.size
  simp only [Int.toNat_natCast] at hS
  have e : iv (rKind p (t : Int) 115) = .int .i64 (p.S t) := by
   unfold rKind iv
   simp only [Int.toNat_natCast]
   rcases hS with e | e <;> simp [e]
  rw [e]
  show Calls _ _ #[_, _, .int .u8 115] _ fun e w' => e = .returned (.int .i64 (p.S t)) ∧ _
  rw [hsa] at y1
  clear h hk hs B2 e hS hp hsb hsa
  generalize p.S t = s at *
  go_enter Tryz.func195, Tryz.ntmps195
  go_upto_region 1 with fail
  rw [HW2.out]
  go_wp2
  go_ret
  exact ⟨rfl, HB2⟩
 ·clear h hk hs B2
  by_cases h7 : a = 7
  ·subst h7
   show Calls _ _ #[_, _, .int .u8 105] _ fun e w' => e = .returned (.int .i64 1) ∧ _
   go_enter Tryz.func195, Tryz.ntmps195
   go_upto_region 1 with fail
   rw [HW2.out]
   go_wp2
   go_ret
   exact ⟨rfl, HB2⟩
  ·have e : iv (rKind p a 105) = .int .i64 0 := by
    show iv (decide (a = 7)) = _
    rw [decide_eq_false h7]
    rfl
   rw [e]
   have e7 : (a == 7) = false := by simpa using h7
   show Calls _ _ #[_, _, .int .u8 105] _ fun e w' => e = .returned (.int .i64 0) ∧ _
   go_enter Tryz.func195, Tryz.ntmps195
   go_upto_region 1 with fail
   rw [HW2.out]
   go_wp2
   go_ret
   exact ⟨rfl, HB2⟩
set_option maxRecDepth 10000 in
set_option maxHeartbeats 6400000 in
theorem argNoR {W : World} {g : Pg} {p : Pv} (hlc : p.nc ≤ 140737488355328) (hls : p.ns ≤ 140737488355328) (hli : p.n ≤ 140737488355328) (o : Nat) (ho : o ≤ 32) (ho1 : 1 ≤ o) (a : Int) :
  Calls Tryz.prog 164 #[.agg (g.cs p).toArray, .agg #[.int .i64 (o : Nat), .int .i64 a]] W fun e w' => e = .returned (.bool (!argF p o a)) ∧ Hid (Below W.heap.size W w') := by
 obtain ⟨W2, hW2⟩ : ∃ W2, (W.alloc (.cells (g.cs p).toArray 27)).alloc (.cells #[.int .i64 (o : Nat), .int .i64 a] 42) = W2 := ⟨_, rfl⟩
 obtain ⟨p0, p1, B2⟩ := two9 hW2
 have y0 := block_cell p0 0
 have y1 := block_cell p0 1
 have y8 := block_cell p0 8
 have yl := block_lt p0
 have x0 := block_cell p1 0
 have x1 := block_cell p1 1
 have xl := block_lt p1
 simp [Pg.cs] at y0 y1 y8 x0 x1
 have HB2 := hide B2
 have HW2 := hide hW2
 have HCS : Hid (g.cs p = [.slice g.ca p.nc g.cc, .slice g.sa p.ns g.sc, .int .i64 (p.en 0), .int .i64 (p.en 1), .int .i64 (p.en 2), .int .i64 (p.en 3), .int .i64 (p.en 4), .int .i64 (p.en 5), .slice g.ia p.n g.ic]) := rfl
 rw [HCS.out] at HW2 ⊢
 clear p0 p1 hW2 B2
 obtain ⟨lo, hi, hA, hcase⟩ : ∃ lo hi : Int, (argF p o a = (decide (lo ≤ a) && decide (a ≤ hi))) ∧ ((o = 2 ∧ lo = 0 ∧ hi = (p.nc : Int) - 1) ∨ (o = 5 ∧ lo = 0 ∧ hi = 7) ∨ (o = 6 ∧ lo = 0 ∧ hi = (p.ns : Int) - 1) ∨ (o = 7 ∧ lo = 0 ∧ hi = (p.ns : Int) - 1) ∨ ((25 ≤ o ∧ o ≤ 28) ∧ lo = 0 ∧ hi = (p.n : Int) - 1) ∨ (o = 30 ∧ lo = 1 ∧ hi = 999) ∨ (o = 31 ∧ lo = 1 ∧ hi = 999) ∨ ((o ≠ 2 ∧ o ≠ 5 ∧ o ≠ 6 ∧ o ≠ 7 ∧ ¬ (25 ≤ o ∧ o ≤ 28) ∧ o ≠ 30 ∧ o ≠ 31) ∧ lo = 0 ∧ hi = 0)) := by
  have kArg : ∀ o, o ≤ 32 → (fArg o = 1 ∧ o = 2) ∨ (fArg o = 2 ∧ o = 5) ∨ (fArg o = 3 ∧ (o = 6 ∨ o = 7)) ∨ (fArg o = 4 ∧ (25 ≤ o ∧ o ≤ 28)) ∨ (fArg o = 5 ∧ (o = 30 ∨ o = 31)) ∨ (fArg o = 0 ∧ (o ≠ 2 ∧ o ≠ 5 ∧ o ≠ 6 ∧ o ≠ 7 ∧ ¬ (25 ≤ o ∧ o ≤ 28) ∧ o ≠ 30 ∧ o ≠ 31)) := by decide
  have pl : ∀ n : Nat, isPl a n = (decide (0 ≤ a) && decide (a ≤ (n : Int) - 1)) := fun n => by
   unfold isPl
   congr 1
   exact decide_eq_decide.2 (by omega)
  unfold argF
  rcases kArg o ho with ⟨e, c⟩ | ⟨e, c⟩ | ⟨e, c⟩ | ⟨e, c⟩ | ⟨e, c⟩ | ⟨e, c⟩
  ·refine ⟨0, (p.nc : Int) - 1, ?_, .inl ⟨c, rfl, rfl⟩⟩
   rw [if_pos e]; exact pl _
  ·refine ⟨0, 7, ?_, .inr (.inl ⟨c, rfl, rfl⟩)⟩
   rw [if_neg (by omega), if_pos e]; exact pl 8
  ·refine ⟨0, (p.ns : Int) - 1, ?_, by rcases c with c | c; exact .inr (.inr (.inl ⟨c, rfl, rfl⟩)); exact .inr (.inr (.inr (.inl ⟨c, rfl, rfl⟩)))⟩
   rw [if_neg (by omega), if_neg (by omega), if_pos e]; exact pl _
  ·refine ⟨0, (p.n : Int) - 1, ?_, .inr (.inr (.inr (.inr (.inl ⟨c, rfl, rfl⟩))))⟩
   rw [if_neg (by omega), if_neg (by omega), if_neg (by omega), if_pos e]; exact pl _
  ·refine ⟨1, 999, ?_, by rcases c with c | c; exact .inr (.inr (.inr (.inr (.inr (.inl ⟨c, rfl, rfl⟩))))); exact .inr (.inr (.inr (.inr (.inr (.inr (.inl ⟨c, rfl, rfl⟩))))))⟩
   rw [if_neg (by omega), if_neg (by omega), if_neg (by omega), if_neg (by omega), if_pos e]
  ·refine ⟨0, 0, ?_, .inr (.inr (.inr (.inr (.inr (.inr (.inr ⟨c, rfl, rfl⟩))))))⟩
   rw [if_neg (by omega), if_neg (by omega), if_neg (by omega), if_neg (by omega), if_neg (by omega)]
   by_cases h0 : a = 0
   ·subst h0; rfl
   ·rw [decide_eq_false h0]
    by_cases h1 : 0 ≤ a
    ·rw [decide_eq_true h1, decide_eq_false (by omega)]; rfl
    ·rw [decide_eq_false h1]; rfl
 rw [hA]
 clear hA
 rcases hcase with ⟨ho', rfl, rfl⟩ | ⟨ho', rfl, rfl⟩ | ⟨ho', rfl, rfl⟩ | ⟨ho', rfl, rfl⟩ | ⟨⟨hl, hh⟩, rfl, rfl⟩ | ⟨ho', rfl, rfl⟩ | ⟨ho', rfl, rfl⟩ | ⟨⟨n2, n5, n6, n7, nr, n30, n31⟩, rfl, rfl⟩
 ·have q2 : ((o : Int) == 2) = true := by simp; omega
  clear ho' ho ho1
  by_cases h1 : 0 ≤ a
  ·have d1 : decide (a < 0) = false := decide_eq_false (by omega)
   by_cases h2 : a ≤ (p.nc : Int) - 1
   ·rw [decide_eq_true h1, decide_eq_true h2]
    have d2 : decide ((p.nc : Int) - 1 < a) = false := decide_eq_false (by omega)
    clear h1 h2
    show Calls _ _ _ _ fun e w' => e = .returned (.bool false) ∧ _
    go_enter Tryz.func164, Tryz.ntmps164
    go_upto_region 1 with fail
    rw [HW2.out]
    go_wp2
    go_ret
    exact ⟨rfl, HB2⟩
   ·rw [decide_eq_true h1, decide_eq_false h2]
    have d2 : decide ((p.nc : Int) - 1 < a) = true := decide_eq_true (by omega)
    clear h1 h2
    show Calls _ _ _ _ fun e w' => e = .returned (.bool true) ∧ _
    go_enter Tryz.func164, Tryz.ntmps164
    go_upto_region 1 with fail
    rw [HW2.out]
    go_wp2
    go_ret
    exact ⟨rfl, HB2⟩
  ·have d1 : decide (a < 0) = true := decide_eq_true (by omega)
   rw [decide_eq_false h1]
   clear h1
   show Calls _ _ _ _ fun e w' => e = .returned (.bool true) ∧ _
   go_enter Tryz.func164, Tryz.ntmps164
   go_upto_region 1 with fail
   rw [HW2.out]
   go_wp2
   go_ret
   exact ⟨rfl, HB2⟩
 ·have q2 : ((o : Int) == 2) = false := by simp; omega
  have q5 : ((o : Int) == 5) = true := by simp; omega
  clear ho' ho ho1
  by_cases h1 : 0 ≤ a
  ·have d1 : decide (a < 0) = false := decide_eq_false (by omega)
   by_cases h2 : a ≤ 7
   ·rw [decide_eq_true h1, decide_eq_true h2]
    have d2 : decide (7 < a) = false := decide_eq_false (by omega)
    clear h1 h2
    show Calls _ _ _ _ fun e w' => e = .returned (.bool false) ∧ _
    go_enter Tryz.func164, Tryz.ntmps164
    go_upto_region 1 with fail
    rw [HW2.out]
    go_wp2
    go_ret
    exact ⟨rfl, HB2⟩
   ·rw [decide_eq_true h1, decide_eq_false h2]
    have d2 : decide (7 < a) = true := decide_eq_true (by omega)
    clear h1 h2
    show Calls _ _ _ _ fun e w' => e = .returned (.bool true) ∧ _
    go_enter Tryz.func164, Tryz.ntmps164
    go_upto_region 1 with fail
    rw [HW2.out]
    go_wp2
    go_ret
    exact ⟨rfl, HB2⟩
  ·have d1 : decide (a < 0) = true := decide_eq_true (by omega)
   rw [decide_eq_false h1]
   clear h1
   show Calls _ _ _ _ fun e w' => e = .returned (.bool true) ∧ _
   go_enter Tryz.func164, Tryz.ntmps164
   go_upto_region 1 with fail
   rw [HW2.out]
   go_wp2
   go_ret
   exact ⟨rfl, HB2⟩
 ·have q2 : ((o : Int) == 2) = false := by simp; omega
  have q5 : ((o : Int) == 5) = false := by simp; omega
  have q6 : ((o : Int) == 6) = true := by simp; omega
  clear ho' ho ho1
  by_cases h1 : 0 ≤ a
  ·have d1 : decide (a < 0) = false := decide_eq_false (by omega)
   by_cases h2 : a ≤ (p.ns : Int) - 1
   ·rw [decide_eq_true h1, decide_eq_true h2]
    have d2 : decide ((p.ns : Int) - 1 < a) = false := decide_eq_false (by omega)
    clear h1 h2
    show Calls _ _ _ _ fun e w' => e = .returned (.bool false) ∧ _
    go_enter Tryz.func164, Tryz.ntmps164
    go_upto_region 1 with fail
    rw [HW2.out]
    go_wp2
    go_ret
    exact ⟨rfl, HB2⟩
   ·rw [decide_eq_true h1, decide_eq_false h2]
    have d2 : decide ((p.ns : Int) - 1 < a) = true := decide_eq_true (by omega)
    clear h1 h2
    show Calls _ _ _ _ fun e w' => e = .returned (.bool true) ∧ _
    go_enter Tryz.func164, Tryz.ntmps164
    go_upto_region 1 with fail
    rw [HW2.out]
    go_wp2
    go_ret
    exact ⟨rfl, HB2⟩
  ·have d1 : decide (a < 0) = true := decide_eq_true (by omega)
   rw [decide_eq_false h1]
   clear h1
   show Calls _ _ _ _ fun e w' => e = .returned (.bool true) ∧ _
   go_enter Tryz.func164, Tryz.ntmps164
   go_upto_region 1 with fail
   rw [HW2.out]
   go_wp2
   go_ret
   exact ⟨rfl, HB2⟩
 ·have q2 : ((o : Int) == 2) = false := by simp; omega
  have q5 : ((o : Int) == 5) = false := by simp; omega
  have q6 : ((o : Int) == 6) = false := by simp; omega
  have q7 : ((o : Int) == 7) = true := by simp; omega
  clear ho' ho ho1
  by_cases h1 : 0 ≤ a
  ·have d1 : decide (a < 0) = false := decide_eq_false (by omega)
   by_cases h2 : a ≤ (p.ns : Int) - 1
   ·rw [decide_eq_true h1, decide_eq_true h2]
    have d2 : decide ((p.ns : Int) - 1 < a) = false := decide_eq_false (by omega)
    clear h1 h2
    show Calls _ _ _ _ fun e w' => e = .returned (.bool false) ∧ _
    go_enter Tryz.func164, Tryz.ntmps164
    go_upto_region 1 with fail
    rw [HW2.out]
    go_wp2
    go_ret
    exact ⟨rfl, HB2⟩
   ·rw [decide_eq_true h1, decide_eq_false h2]
    have d2 : decide ((p.ns : Int) - 1 < a) = true := decide_eq_true (by omega)
    clear h1 h2
    show Calls _ _ _ _ fun e w' => e = .returned (.bool true) ∧ _
    go_enter Tryz.func164, Tryz.ntmps164
    go_upto_region 1 with fail
    rw [HW2.out]
    go_wp2
    go_ret
    exact ⟨rfl, HB2⟩
  ·have d1 : decide (a < 0) = true := decide_eq_true (by omega)
   rw [decide_eq_false h1]
   clear h1
   show Calls _ _ _ _ fun e w' => e = .returned (.bool true) ∧ _
   go_enter Tryz.func164, Tryz.ntmps164
   go_upto_region 1 with fail
   rw [HW2.out]
   go_wp2
   go_ret
   exact ⟨rfl, HB2⟩
 ·have q2 : ((o : Int) == 2) = false := by simp; omega
  have q5 : ((o : Int) == 5) = false := by simp; omega
  have q6 : ((o : Int) == 6) = false := by simp; omega
  have q7 : ((o : Int) == 7) = false := by simp; omega
  have q30 : ((o : Int) == 30) = false := by simp; omega
  have q31 : ((o : Int) == 31) = false := by simp; omega
  have r25 : decide (25 ≤ (o : Int)) = true := decide_eq_true (by omega)
  have r28 : decide ((o : Int) ≤ 28) = true := decide_eq_true (by omega)
  clear hl hh ho ho1
  by_cases h1 : 0 ≤ a
  ·have d1 : decide (a < 0) = false := decide_eq_false (by omega)
   by_cases h2 : a ≤ (p.n : Int) - 1
   ·rw [decide_eq_true h1, decide_eq_true h2]
    have d2 : decide ((p.n : Int) - 1 < a) = false := decide_eq_false (by omega)
    clear h1 h2
    show Calls _ _ _ _ fun e w' => e = .returned (.bool false) ∧ _
    go_enter Tryz.func164, Tryz.ntmps164
    go_upto_region 1 with fail
    rw [HW2.out]
    go_wp2
    go_ret
    exact ⟨rfl, HB2⟩
   ·rw [decide_eq_true h1, decide_eq_false h2]
    have d2 : decide ((p.n : Int) - 1 < a) = true := decide_eq_true (by omega)
    clear h1 h2
    show Calls _ _ _ _ fun e w' => e = .returned (.bool true) ∧ _
    go_enter Tryz.func164, Tryz.ntmps164
    go_upto_region 1 with fail
    rw [HW2.out]
    go_wp2
    go_ret
    exact ⟨rfl, HB2⟩
  ·have d1 : decide (a < 0) = true := decide_eq_true (by omega)
   rw [decide_eq_false h1]
   clear h1
   show Calls _ _ _ _ fun e w' => e = .returned (.bool true) ∧ _
   go_enter Tryz.func164, Tryz.ntmps164
   go_upto_region 1 with fail
   rw [HW2.out]
   go_wp2
   go_ret
   exact ⟨rfl, HB2⟩
 ·have q2 : ((o : Int) == 2) = false := by simp; omega
  have q5 : ((o : Int) == 5) = false := by simp; omega
  have q6 : ((o : Int) == 6) = false := by simp; omega
  have q7 : ((o : Int) == 7) = false := by simp; omega
  have q30 : ((o : Int) == 30) = true := by simp; omega
  have q31 : ((o : Int) == 31) = false := by simp; omega
  have r25 : decide (25 ≤ (o : Int)) = true := decide_eq_true (by omega)
  have r28 : decide ((o : Int) ≤ 28) = false := decide_eq_false (by omega)
  clear ho' ho ho1
  by_cases h1 : 1 ≤ a
  ·have d1 : decide (a < 1) = false := decide_eq_false (by omega)
   by_cases h2 : a ≤ 999
   ·rw [decide_eq_true h1, decide_eq_true h2]
    have d2 : decide (999 < a) = false := decide_eq_false (by omega)
    clear h1 h2
    show Calls _ _ _ _ fun e w' => e = .returned (.bool false) ∧ _
    go_enter Tryz.func164, Tryz.ntmps164
    go_upto_region 1 with fail
    rw [HW2.out]
    go_wp2
    go_ret
    exact ⟨rfl, HB2⟩
   ·rw [decide_eq_true h1, decide_eq_false h2]
    have d2 : decide (999 < a) = true := decide_eq_true (by omega)
    clear h1 h2
    show Calls _ _ _ _ fun e w' => e = .returned (.bool true) ∧ _
    go_enter Tryz.func164, Tryz.ntmps164
    go_upto_region 1 with fail
    rw [HW2.out]
    go_wp2
    go_ret
    exact ⟨rfl, HB2⟩
  ·have d1 : decide (a < 1) = true := decide_eq_true (by omega)
   rw [decide_eq_false h1]
   clear h1
   show Calls _ _ _ _ fun e w' => e = .returned (.bool true) ∧ _
   go_enter Tryz.func164, Tryz.ntmps164
   go_upto_region 1 with fail
   rw [HW2.out]
   go_wp2
   go_ret
   exact ⟨rfl, HB2⟩
 ·have q2 : ((o : Int) == 2) = false := by simp; omega
  have q5 : ((o : Int) == 5) = false := by simp; omega
  have q6 : ((o : Int) == 6) = false := by simp; omega
  have q7 : ((o : Int) == 7) = false := by simp; omega
  have q30 : ((o : Int) == 30) = false := by simp; omega
  have q31 : ((o : Int) == 31) = true := by simp; omega
  have r25 : decide (25 ≤ (o : Int)) = true := decide_eq_true (by omega)
  have r28 : decide ((o : Int) ≤ 28) = false := decide_eq_false (by omega)
  clear ho' ho ho1
  by_cases h1 : 1 ≤ a
  ·have d1 : decide (a < 1) = false := decide_eq_false (by omega)
   by_cases h2 : a ≤ 999
   ·rw [decide_eq_true h1, decide_eq_true h2]
    have d2 : decide (999 < a) = false := decide_eq_false (by omega)
    clear h1 h2
    show Calls _ _ _ _ fun e w' => e = .returned (.bool false) ∧ _
    go_enter Tryz.func164, Tryz.ntmps164
    go_upto_region 1 with fail
    rw [HW2.out]
    go_wp2
    go_ret
    exact ⟨rfl, HB2⟩
   ·rw [decide_eq_true h1, decide_eq_false h2]
    have d2 : decide (999 < a) = true := decide_eq_true (by omega)
    clear h1 h2
    show Calls _ _ _ _ fun e w' => e = .returned (.bool true) ∧ _
    go_enter Tryz.func164, Tryz.ntmps164
    go_upto_region 1 with fail
    rw [HW2.out]
    go_wp2
    go_ret
    exact ⟨rfl, HB2⟩
  ·have d1 : decide (a < 1) = true := decide_eq_true (by omega)
   rw [decide_eq_false h1]
   clear h1
   show Calls _ _ _ _ fun e w' => e = .returned (.bool true) ∧ _
   go_enter Tryz.func164, Tryz.ntmps164
   go_upto_region 1 with fail
   rw [HW2.out]
   go_wp2
   go_ret
   exact ⟨rfl, HB2⟩
 ·have q2 : ((o : Int) == 2) = false := by simp; omega
  have q5 : ((o : Int) == 5) = false := by simp; omega
  have q6 : ((o : Int) == 6) = false := by simp; omega
  have q7 : ((o : Int) == 7) = false := by simp; omega
  have q30 : ((o : Int) == 30) = false := by simp; omega
  have q31 : ((o : Int) == 31) = false := by simp; omega
  by_cases h25 : 25 ≤ o
  ·have r25 : decide (25 ≤ (o : Int)) = true := decide_eq_true (by omega)
   have r28 : decide ((o : Int) ≤ 28) = false := decide_eq_false (by omega)
   clear n2 n5 n6 n7 nr n30 n31 ho ho1 h25
   by_cases h1 : 0 ≤ a
   ·have d1 : decide (a < 0) = false := decide_eq_false (by omega)
    by_cases h2 : a ≤ 0
    ·rw [decide_eq_true h1, decide_eq_true h2]
     have d2 : decide (0 < a) = false := decide_eq_false (by omega)
     clear h1 h2
     show Calls _ _ _ _ fun e w' => e = .returned (.bool false) ∧ _
     go_enter Tryz.func164, Tryz.ntmps164
     go_upto_region 1 with fail
     rw [HW2.out]
     go_wp2
     go_ret
     exact ⟨rfl, HB2⟩
    ·rw [decide_eq_true h1, decide_eq_false h2]
     have d2 : decide (0 < a) = true := decide_eq_true (by omega)
     clear h1 h2
     show Calls _ _ _ _ fun e w' => e = .returned (.bool true) ∧ _
     go_enter Tryz.func164, Tryz.ntmps164
     go_upto_region 1 with fail
     rw [HW2.out]
     go_wp2
     go_ret
     exact ⟨rfl, HB2⟩
   ·have d1 : decide (a < 0) = true := decide_eq_true (by omega)
    rw [decide_eq_false h1]
    clear h1
    show Calls _ _ _ _ fun e w' => e = .returned (.bool true) ∧ _
    go_enter Tryz.func164, Tryz.ntmps164
    go_upto_region 1 with fail
    rw [HW2.out]
    go_wp2
    go_ret
    exact ⟨rfl, HB2⟩
  ·have r25 : decide (25 ≤ (o : Int)) = false := decide_eq_false (by omega)
   clear n2 n5 n6 n7 nr n30 n31 ho ho1 h25
   by_cases h1 : 0 ≤ a
   ·have d1 : decide (a < 0) = false := decide_eq_false (by omega)
    by_cases h2 : a ≤ 0
    ·rw [decide_eq_true h1, decide_eq_true h2]
     have d2 : decide (0 < a) = false := decide_eq_false (by omega)
     clear h1 h2
     show Calls _ _ _ _ fun e w' => e = .returned (.bool false) ∧ _
     go_enter Tryz.func164, Tryz.ntmps164
     go_upto_region 1 with fail
     rw [HW2.out]
     go_wp2
     go_ret
     exact ⟨rfl, HB2⟩
    ·rw [decide_eq_true h1, decide_eq_false h2]
     have d2 : decide (0 < a) = true := decide_eq_true (by omega)
     clear h1 h2
     show Calls _ _ _ _ fun e w' => e = .returned (.bool true) ∧ _
     go_enter Tryz.func164, Tryz.ntmps164
     go_upto_region 1 with fail
     rw [HW2.out]
     go_wp2
     go_ret
     exact ⟨rfl, HB2⟩
   ·have d1 : decide (a < 0) = true := decide_eq_true (by omega)
    rw [decide_eq_false h1]
    clear h1
    show Calls _ _ _ _ fun e w' => e = .returned (.bool true) ∧ _
    go_enter Tryz.func164, Tryz.ntmps164
    go_upto_region 1 with fail
    rw [HW2.out]
    go_wp2
    go_ret
    exact ⟨rfl, HB2⟩
end Go.Proofs.YtggpaljilpbmhaaGreatDoor
