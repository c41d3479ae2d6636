import Derived.Test.YtggpaljilpbmhaaGreatDoorZ22
import Derived.Test.YtggpaljilpbmhaaGreatDoorZ30
import Derived.Test.YtggpaljilpbmhaaGreatDoorZ06
import Derived.Test.YtggpaljilpbmhaaGreatDoorZ43
import Derived.Test.YtggpaljilpbmhaaGreatDoorZ36
namespace Go.Proofs.YtggpaljilpbmhaaGreatDoor
open Go.RowKit

/-- An instruction as it is read: its operation, its argument, how many bytes, why not. -/
def inR (B : List Nat) : Nat × Nat × Nat × Int :=
 (hi (aheadV B 1), if fArg (hi (aheadV B 1)) = 0 then 0 else (numAt (B.drop 1)).1, if fArg (hi (aheadV B 1)) = 0 then 1 else 1 + (numAt (B.drop 1)).2.1,
  if aheadW B 1 = 0 then (if isO (hi (aheadV B 1) : Nat) = true then (if fArg (hi (aheadV B 1)) = 0 then 0 else plW 1023 (numAt (B.drop 1))) else 1) else aheadW B 1)
theorem tab_grownU {w w' : World} {rp : Nat} (hT : Tab w) (hz : 10 < rp) (hr : rp < w.heap.size) (h : w.grownBy w' (some rp)) : Tab w' :=
 hT.below ((Below.refl rp w).grown h (Nat.le_of_lt hr) (fun q e => by cases e; exact Nat.le_refl _)) hz
theorem err_grownU {w w' : World} {rp : Nat} (hT : ErrT w) (hz : 10 < rp) (h : w.grownBy w' (some rp)) : ErrT w' := hT.grown h (by omega)
theorem grown_newU {a b c : World} {rp nb : Nat} (h1 : a.grownBy b (some rp)) (h2 : b.grownBy c (some nb)) (hn : a.heap.size ≤ nb) : a.grownBy c (some rp) :=
 ⟨h2.os.trans h1.os, h2.tape.trans h1.tape, h2.output.trans h1.output, Nat.le_trans h1.size h2.size, fun i hi hne => (h2.block i (Nat.lt_of_lt_of_le hi h1.size) (fun e => by cases e; omega)).trans (h1.block i hi hne)⟩
end Go.Proofs.YtggpaljilpbmhaaGreatDoor
namespace Go.Proofs.YtggpaljilpbmhaaGreatDoor
open Go.RowKit

/-- A fault: its links, and its number. -/
abbrev Fz := List Lk × Int
/-- A field of layer wire that was refused at that place. -/
def fzW (pos : Int) (why : Int) : Fz := ([⟨⟨#[99, 111, 100, 101]⟩, pos⟩, ⟨⟨#[119, 105, 114, 101]⟩, pos⟩], why)
/-- A fault of the layer's own. -/
def fzO (pos : Int) (y : Int) : Fz := ([⟨⟨#[99, 111, 100, 101]⟩, pos⟩], y)
/-- Given up with this fault. -/
def PnX (f : Fz) (e : Ending) (w' : World) : Prop := ∃ g, e = .panicked [{ v := .iface 74 (.pointer (some ⟨g, 0, none⟩)), recovered := false }] ∧ Hid (Chain w'.heap.size w' f.1 (.iface 74 (.pointer (some ⟨g, 0, none⟩))) f.2)
set_option maxRecDepth 10000 in
theorem refusalX (at_ : Int) (t : TypeId) (x : Value) (w : World) :
  Calls Tryz.prog 30 #[.int .i64 at_, .iface t x] w fun e w' => e = .returned (.pointer (some ⟨w.heap.size, 0, none⟩)) ∧ w' = w.alloc (.cells #[.string ⟨#[99, 111, 100, 101]⟩, .int .i64 at_, .iface t x] 130) := by
 go_enter Tryz.func30, Tryz.ntmps30
 go_wp2
 go_ret
 exact ⟨rfl, rfl⟩
set_option maxRecDepth 10000 in
set_option maxHeartbeats 1600000 in
/-- What is behind a refusal: a fault, always. -/
theorem behindX {w : World} {v : Value} {a c : Int} (hg : ErrT w) (h : IsFault w v a c) : Calls Tryz.prog 52 #[v] w fun e w' => ∃ g, e = .returned (.pointer (some ⟨g, 0, none⟩)) ∧ Hid (Chain w'.heap.size w' (fzW a c).1 (.iface 74 (.pointer (some ⟨g, 0, none⟩))) (fzW a c).2 ∧ Below w.heap.size w w') := by
 obtain ⟨g, rfl, h0, h1, h2⟩ := h
 have hlt : g < w.heap.size := by
  rcases Nat.lt_or_ge g w.heap.size with h | h
  ·exact h
  ·simp [World.cell?, Array.getElem?_eq_none h] at h0
 obtain ⟨W2, hW2⟩ : ∃ W2, w.alloc (.cells #[.pointer none] 74) = W2 := ⟨_, rfl⟩
 have b2 : Below w.heap.size w W2 := by rw [← hW2]; exact below_alloc1 w _
 have q0 : W2.heap[w.heap.size]? = some (.cells #[.pointer none] 74 (0, 0)) := by rw [← hW2]; exact alloc_atK _ _
 have HA1 := hide (as_fault ⟨g, 0, none⟩ ⟨w.heap.size, 0, none⟩ (.pointer none) W2 ((b2.cell (p := ⟨1, 0, none⟩) hg.lt).trans hg) (block_cell q0 0) (block_free q0 0))
 have S2 := hide (And.intro b2 q0)
 have HW2 := hide hW2
 have HC := hide (And.intro h0 (And.intro h1 h2))
 clear b2 q0 hW2 hg h0 h1 h2
 go_enter Tryz.func52, Tryz.ntmps52
 go_wp2_with fail
 rw [HW2.out]
 refine HA1.out.mono ?_
 rintro e W3 ⟨rfl, hW3⟩
 obtain ⟨b2, q0⟩ := S2.out
 have g3 : W2.grownBy W3 (some w.heap.size) := by rw [hW3]; exact grown_trans (row := some w.heap.size) (grown_weakU (grown_quiet (grown_quiet (grown_quiet (World.grownBy_alloc _ _ none) (World.grownBy_alloc _ _ none)) (World.grownBy_alloc _ _ none)) (World.grownBy_alloc _ _ none)) _) (grown_set _ _ _ _)
 have z0 : W3.cell? ⟨w.heap.size, 0, none⟩ = some (.pointer (some ⟨g, 0, none⟩)) := by
  obtain ⟨W4, g4, hW4⟩ : ∃ W4, W2.grownBy W4 none ∧ W3 = W4.setCell ⟨w.heap.size, 0, none⟩ (.pointer (some ⟨g, 0, none⟩)) := ⟨_, grown_quiet (grown_quiet (grown_quiet (World.grownBy_alloc _ _ none) (World.grownBy_alloc _ _ none)) (World.grownBy_alloc _ _ none)) (World.grownBy_alloc _ _ none), hW3⟩
  have e := heap_setCell_same W4 w.heap.size 0 _ _ (.pointer (some ⟨g, 0, none⟩)) ((g4.block _ (block_lt q0) (by simp)).trans q0)
  rw [← hW4] at e
  exact (block_cell e 0).trans rfl
 have b3 : Below w.heap.size w W3 := b2.grown g3 b2.size (fun k e => by cases e; exact Nat.le_refl _)
 have ra := (b3.cell (p := ⟨g, 1, none⟩) hlt).trans HC.out.2.1
 have HB3 := hide b3
 have ra0 := (b3.cell (p := ⟨g, 0, none⟩) hlt).trans HC.out.1
 have ra2 := (b3.cell (p := ⟨g, 2, none⟩) hlt).trans HC.out.2.2
 have HCH : Hid (Chain W3.heap.size W3 [⟨⟨#[119, 105, 114, 101]⟩, a⟩] (.iface 74 (.pointer (some ⟨g, 0, none⟩))) c) := ⟨g, _, rfl, Nat.lt_of_lt_of_le hlt b3.size, ra0, ra, ra2, rfl⟩
 clear ra0 ra2
 have zl : w.heap.size < W3.heap.size := Nat.lt_of_lt_of_le (block_lt q0) g3.size
 have HR := hide (refusalX a 74 (.pointer (some ⟨g, 0, none⟩)) W3)
 clear b2 q0 g3 b3 hW3 HA1 S2 HW2 HC
 go_wp2_with fail
 refine HR.out.mono ?_
 rintro e W4 ⟨rfl, hW4⟩
 have b4 : Below W3.heap.size W3 W4 := by rw [hW4]; exact below_alloc1 _ _
 have s4 : W3.heap.size < W4.heap.size := by rw [hW4]; simp
 have HD : Hid (Chain W4.heap.size W4 (fzW a c).1 (.iface 74 (.pointer (some ⟨W3.heap.size, 0, none⟩))) (fzW a c).2 ∧ Below w.heap.size w W4) := by
  refine ⟨⟨W3.heap.size, .iface 74 (.pointer (some ⟨g, 0, none⟩)), rfl, s4, ?_, ?_, ?_, (Chain.below b4 HCH.out).wide b4.size⟩, HB3.out.trans (b4.mono HB3.out.size)⟩
  ·rw [hW4]; exact (World.cell?_alloc_new W3 _ _ 0).trans rfl
  ·rw [hW4]; exact (World.cell?_alloc_new W3 _ _ 1).trans rfl
  ·rw [hW4]; exact (World.cell?_alloc_new W3 _ _ 2).trans rfl
 clear HB3 hW4 b4 s4 HCH HR ra z0 zl
 go_wp2
 go_ret
 exact ⟨_, rfl, HD⟩
set_option maxRecDepth 10000 in
set_option maxHeartbeats 1600000 in
theorem soundX {lim rp : Nat} {w : World} {s : RS} (h : RdS lim w rp s) (hm : s.made = true) (hz : s.sound → s.place = 0) (hg : ErrT w) : Calls Tryz.prog 138 #[.agg #[.pointer (some ⟨rp, 0, none⟩)]] w fun e w' => Hid (Below w.heap.size w w') ∧ ((s.why = 0 ∧ e = .returned (.tuple #[])) ∨ (s.why ≠ 0 ∧ PnX (fzW s.place s.why) e w')) := by
 obtain ⟨W1, hW1⟩ : ∃ W1, w.alloc (.cells #[.pointer (some ⟨rp, 0, none⟩)] 185) = W1 := ⟨_, rfl⟩
 have b1 : Below w.heap.size w W1 := by rw [← hW1]; exact below_alloc1 w _
 have q0 : W1.heap[w.heap.size]? = some (.cells #[.pointer (some ⟨rp, 0, none⟩)] 185 (0, 0)) := by rw [← hW1]; exact alloc_atK _ _
 have hR : RdS lim W1 rp s := h.kept (row := none) (grown_belowU b1) (fun g e => by cases e)
 have HER := hide (rErrP (po := some ⟨rp, 0, none⟩) (.inr ⟨rp, rfl, hR⟩) hz)
 have HG1 : Hid (ErrT W1) := (b1.cell (p := ⟨1, 0, none⟩) hg.lt).trans hg
 have HW1 := hide hW1
 have HB1 := hide b1
 have z0 := block_cell q0 0
 have zl := block_lt q0
 simp at z0
 have hec : s.errC = s.why := by unfold RS.errC; rw [if_pos hm]
 have hea : s.errA = s.place := by unfold RS.errA; rw [if_pos hm]
 rw [hec, hea] at HER
 clear hW1 b1 q0 hR h hg hm hz hec hea
 go_enter Tryz.func138, Tryz.ntmps138
 go_upto_region 1 with fail
 rw [HW1.out]
 clear HW1
 go_wp2_with fail
 refine HER.out.mono ?_
 rintro x w2 ⟨v, rfl, hv, hb⟩
 have HB2 : Hid (Below w.heap.size w w2) := HB1.out.trans (hb.mono HB1.out.size)
 have HG2 : Hid (ErrT w2) := (hb.cell (p := ⟨1, 0, none⟩) HG1.out.lt).trans HG1.out
 clear hb HB1 HG1 HER z0 zl
 rcases hv with ⟨rfl, hc, _⟩ | ⟨hf, hc⟩
 ·go_wp2
  go_end0
  exact ⟨HB2, .inl ⟨hc, rfl⟩⟩
 ·have HBH := hide (behindX HG2.out hf)
  obtain ⟨gf, rfl, -⟩ := hf
  go_wp2_with fail
  refine HBH.out.mono ?_
  rintro x w3 ⟨g3, rfl, G3⟩
  have HB3 : Hid (Below w.heap.size w w3) := HB2.out.trans (G3.out.2.mono HB2.out.size)
  have HCH := hide G3.out.1
  clear G3 HBH HB2 HG2
  go_wp2
  exact ⟨rfl, HB3, .inr ⟨hc, g3, rfl, HCH⟩⟩
end Go.Proofs.YtggpaljilpbmhaaGreatDoor
namespace Go.Proofs.YtggpaljilpbmhaaGreatDoor
open Go.RowKit Crc

/-- A number that is taken is one that was laid down just so. -/
theorem numGo_inv : ∀ (B : List Nat) (i n : Nat), i ≤ 9 → (∀ x ∈ B, x < 256) → (numGo B i n).2.2 = 0 → ∃ v, (numGo B i n).1 = n + v * 2 ^ (7 * i) ∧ (0 < i → 0 < v) ∧ (numGo B i n).2.1 = i + (numTo (9 - i) v).length ∧ B = numTo (9 - i) v ++ B.drop (numTo (9 - i) v).length
 | [], _, _, _, _, h => by cases h
 | c :: r, i, n, hi, hB, h => by
  have hc : c < 256 := hB c (by simp)
  rw [numGo] at h ⊢
  by_cases h1 : i = 9 ∧ 1 < c
  ·rw [if_pos h1] at h; cases h
  ·rw [if_neg h1] at h ⊢
   by_cases h2 : 128 ≤ c
   ·rw [if_pos h2] at h ⊢
    obtain ⟨v, e1, e2, e3, e4⟩ := numGo_inv r (i + 1) _ (by omega) (fun x hx => hB x (by simp [hx])) h
    have e2 := e2 (by omega)
    have ef : 9 - i = (9 - (i + 1)) + 1 := by omega
    have en : numTo (9 - i) (c % 128 + 128 * v) = c :: numTo (9 - (i + 1)) v := by
     rw [ef, numTo, if_neg (by omega)]
     congr 1
     ·omega
     ·congr 1; omega
    refine ⟨c % 128 + 128 * v, ?_, fun _ => by omega, ?_, ?_⟩
    ·rw [e1, show 7 * (i + 1) = 7 + 7 * i by omega, Nat.pow_add, show (2 : Nat) ^ 7 = 128 from rfl, Nat.add_mul, ← Nat.mul_assoc, Nat.mul_comm 128 v]
     omega
    ·rw [e3, en, List.length_cons]; omega
    ·rw [en, List.length_cons, List.drop_succ_cons, List.cons_append, ← e4]
   ·rw [if_neg h2] at h ⊢
    by_cases h3 : c = 0 ∧ 0 < i
    ·rw [if_pos h3] at h; cases h
    ·rw [if_neg h3]
     have en : numTo (9 - i) c = [c] := by
      cases 9 - i with
      | zero => rfl
      | succ f => rw [numTo, if_pos (by omega)]
     refine ⟨c, by rw [Nat.mod_eq_of_lt (by omega)], fun _ => by omega, by rw [en]; rfl, by rw [en]; rfl⟩
theorem numAt_inv {B : List Nat} (hB : ∀ x ∈ B, x < 256) (h : (numAt B).2.2 = 0) : (numAt B).2.1 = (numB (numAt B).1).length ∧ B = numB (numAt B).1 ++ B.drop (numAt B).2.1 := by
 unfold numAt numB at *
 obtain ⟨v, e1, e2, e3, e4⟩ := numGo_inv B 0 0 (by omega) hB h
 have ev : (numGo B 0 0).1 = v := by rw [e1]; simp
 rw [ev, e3]
 rw [Nat.zero_add]
 exact ⟨rfl, e4⟩
theorem countAt_inv {B : List Nat} {most : Int} (hB : ∀ x ∈ B, x < 256) (h : (countAt B most).2.2 = 0) : ((countAt B most).1 : Int) ≤ most ∧ (countAt B most).2.1 = (numB (countAt B most).1).length ∧ B = numB (countAt B most).1 ++ B.drop (countAt B most).2.1 := by
 unfold countAt at h ⊢
 by_cases h1 : (numAt B).2.2 ≠ 0
 ·rw [if_pos h1] at h; exact absurd h h1
 ·rw [if_neg h1] at h ⊢
  by_cases h2 : most < ((numAt B).1 : Int)
  ·rw [if_pos h2] at h; cases h
  ·rw [if_neg h2]
   exact ⟨by show ((numAt B).1 : Int) ≤ most; omega, numAt_inv hB (Classical.not_not.1 h1)⟩
section
variable {X B : List Nat}
theorem pre_drop {Y : List Nat} (h : X ++ Y <+: B) : ∃ R, B.drop X.length = Y ++ R := by
 obtain ⟨R, hR⟩ := h
 refine ⟨R, ?_⟩
 rw [← hR, List.append_assoc, List.drop_left]
theorem pre_app {Y R : List Nat} (h : X <+: B) (hd : B.drop X.length = Y ++ R) : X ++ Y <+: B := by
 obtain ⟨Z, hZ⟩ := h
 refine ⟨R, ?_⟩
 rw [← hZ, List.drop_left] at hd
 rw [List.append_assoc, ← hd]
 exact hZ
theorem pre_num {v : Nat} (h : X ++ numB v <+: B) (hv : v < 18446744073709551616) : numAt (B.drop X.length) = (v, (numB v).length, 0) := by
 obtain ⟨R, hR⟩ := pre_drop h
 rw [hR]
 exact numAt_numB v R hv
theorem pre_cnt {v : Nat} {most : Int} (h : X ++ numB v <+: B) (hv : v < 18446744073709551616) (hm : (v : Int) ≤ most) : countAt (B.drop X.length) most = (v, (numB v).length, 0) := by
 obtain ⟨R, hR⟩ := pre_drop h
 rw [hR]
 exact countAt_numB v R most hv hm
theorem drop_lt (hB : ∀ x ∈ B, x < 256) (n : Nat) : ∀ x ∈ B.drop n, x < 256 := fun x hx => hB x (List.mem_of_mem_drop hx)
theorem num_pre (h : X <+: B) (hB : ∀ x ∈ B, x < 256) (h0 : (numAt (B.drop X.length)).2.2 = 0) : X ++ numB (numAt (B.drop X.length)).1 <+: B ∧ (numAt (B.drop X.length)).2.1 = (numB (numAt (B.drop X.length)).1).length := by
 obtain ⟨e1, e2⟩ := numAt_inv (drop_lt hB _) h0
 exact ⟨pre_app h e2, e1⟩
theorem cnt_pre {most : Int} (h : X <+: B) (hB : ∀ x ∈ B, x < 256) (h0 : (countAt (B.drop X.length) most).2.2 = 0) : ((countAt (B.drop X.length) most).1 : Int) ≤ most ∧ X ++ numB (countAt (B.drop X.length) most).1 <+: B ∧ (countAt (B.drop X.length) most).2.1 = (numB (countAt (B.drop X.length) most).1).length := by
 obtain ⟨e0, e1, e2⟩ := countAt_inv (drop_lt hB _) h0
 exact ⟨e0, pre_app h e2, e1⟩
theorem big_one {v : Nat} (hv : v < 256) : big v 1 = [v] := by
 unfold big bigTo
 simp [bigTo]
 omega
theorem oct_of {C R : List Nat} {v : Nat} (h : C = v :: R) : aheadW C 1 = 0 ∧ hi (aheadV C 1) = v := by
 subst h
 unfold aheadW aheadV
 simp [hi]
theorem two_of {C R : List Nat} {a b : Nat} (h : C = a :: b :: R) : aheadW C 2 = 0 ∧ hi (aheadV C 2) = a * 256 + b := by
 subst h
 have hn : ¬ R.length + 1 + 1 < 2 := by omega
 unfold aheadW aheadV
 simp [hi, hn]
theorem oct_inv {C : List Nat} (h : aheadW C 1 = 0) : ∃ v R, C = v :: R := by
 cases C with
 | nil => simp [aheadW] at h
 | cons v R => exact ⟨v, R, rfl⟩
theorem two_inv {C : List Nat} (h : aheadW C 2 = 0) : ∃ a b R, C = a :: b :: R := by
 match C with
 | [] => simp [aheadW] at h
 | [_] => simp [aheadW] at h
 | a :: b :: R => exact ⟨a, b, R, rfl⟩
theorem pre_oct {v : Nat} (h : X ++ big v 1 <+: B) (hv : v < 256) : aheadW (B.drop X.length) 1 = 0 ∧ hi (aheadV (B.drop X.length) 1) = v := by
 obtain ⟨R, hR⟩ := pre_drop h
 rw [big_one hv] at hR
 exact oct_of hR
theorem oct_pre (h : X <+: B) (hB : ∀ x ∈ B, x < 256) (h0 : aheadW (B.drop X.length) 1 = 0) : hi (aheadV (B.drop X.length) 1) < 256 ∧ X ++ big (hi (aheadV (B.drop X.length) 1)) 1 <+: B := by
 obtain ⟨v, R, e⟩ := oct_inv h0
 have hv : v < 256 := drop_lt hB X.length v (by rw [e]; exact List.mem_cons_self ..)
 rw [(oct_of e).2, big_one hv]
 exact ⟨hv, pre_app h e⟩
/-- The head. -/
theorem head_iff (hB : ∀ x ∈ B, x < 256) : hdW B = 0 ↔ encH <+: B := by
 have e : encH = [81, 67, 1] := by decide
 rw [e]
 constructor
 ·intro h
  unfold hdW at h
  split at h
  ·rename_i q
   obtain ⟨q1, q2, q3, q4⟩ := q
   obtain ⟨a, b, R, e1⟩ := two_inv q1
   rw [(two_of e1).2] at q2
   have ha : a < 256 := hB a (by rw [e1]; exact List.mem_cons_self ..)
   have hb : b < 256 := hB b (by rw [e1]; simp)
   rw [e1] at q3 q4
   obtain ⟨c, R', e2⟩ := oct_inv q3
   have e3 : R = c :: R' := e2
   rw [(oct_of e2).2] at q4
   refine ⟨R', ?_⟩
   rw [e1, e3, q4]
   have h1 : a = 81 := by omega
   have h2 : b = 67 := by omega
   rw [h1, h2]
   rfl
  ·cases h
 ·rintro ⟨R, rfl⟩
  unfold hdW
  rw [if_pos]
  have h1 := two_of (C := [81, 67, 1] ++ R) (a := 81) (b := 67) (R := 1 :: R) rfl
  have h2 := oct_of (C := ([81, 67, 1] ++ R).drop 2) (v := 1) (R := R) rfl
  exact ⟨h1.1, h1.2, h2.1, h2.2⟩
end
/-- A program whose fields can be packed, whatever they say together. -/
structure Pkw (p : Pv) : Prop where
 nc : p.nc ≤ 256
 ns : p.ns ≤ 128
 n : p.n ≤ 1024
 C : ∀ j, j < p.nc → 0 ≤ p.C j ∧ p.C j < 18446744073709551616
 S : ∀ j, j < p.ns → 0 ≤ p.S j ∧ p.S j < 256
 en : ∀ e, e < 6 → -1 ≤ p.en e ∧ p.en e ≤ 1023
 op : ∀ i, i < p.n → 1 ≤ p.op i ∧ p.op i ≤ 32
 arg : ∀ i, i < p.n → 0 ≤ p.arg i ∧ p.arg i ≤ 1023
 zr : ∀ i, i < p.n → fArg (p.op i).toNat = 0 → p.arg i = 0
theorem Wf.arg23 {p : Pv} (h : Wf p) {i : Nat} (hi : i < p.n) : 0 ≤ p.arg i ∧ p.arg i ≤ 1023 ∧ (fArg (p.op i).toNat = 0 → p.arg i = 0) := by
 have g := h.ins i hi
 have h1 := op_nat g
 have ha := g.a
 obtain ⟨s1, s2, s3⟩ := h.sz
 rcases fArg_le (p.op i).toNat (by omega) with f | f | f | f | f | f
 ·simp [argF, f] at ha; omega
 ·simp [argF, f] at ha; have := isPl_nat ha; omega
 ·simp [argF, f] at ha; have := isPl_nat ha; omega
 ·simp [argF, f] at ha; have := isPl_nat ha; omega
 ·simp [argF, f] at ha; have := isPl_nat ha; omega
 ·simp [argF, f] at ha; omega
theorem Pkw.of {p : Pv} (h : Wf p) (hC : ∀ j, j < p.nc → 0 ≤ p.C j ∧ p.C j < 18446744073709551616) : Pkw p :=
 ⟨h.sz.1, h.sz.2.1, h.sz.2.2, hC, fun j hj => by rcases h.sl j hj with q | q <;> rw [q] <;> decide, fun e he => h.enb he, fun i hi => ⟨(op_nat (h.ins i hi)).1, (op_nat (h.ins i hi)).2.1⟩, fun i hi => ⟨(h.arg23 hi).1, (h.arg23 hi).2.1⟩, fun i hi => (h.arg23 hi).2.2⟩
section
variable {p q : Pv}
theorem enc1_mono {i j : Nat} (h : i ≤ j) : enc1 p i <+: enc1 p j := by
 induction j with
 | zero =>
  obtain rfl : i = 0 := by omega
  exact List.prefix_refl _
 | succ j ih =>
  by_cases e : i = j + 1
  ·subst e; exact List.prefix_refl _
  ·rw [enc1_next]; exact (ih (by omega)).trans (List.prefix_append _ _)
theorem enc2_mono {i j : Nat} (h : i ≤ j) : enc2 p i <+: enc2 p j := by
 induction j with
 | zero =>
  obtain rfl : i = 0 := by omega
  exact List.prefix_refl _
 | succ j ih =>
  by_cases e : i = j + 1
  ·subst e; exact List.prefix_refl _
  ·rw [enc2_next]; exact (ih (by omega)).trans (List.prefix_append _ _)
theorem enc3_mono {i j : Nat} (h : i ≤ j) : enc3 p i <+: enc3 p j := by
 induction j with
 | zero =>
  obtain rfl : i = 0 := by omega
  exact List.prefix_refl _
 | succ j ih =>
  by_cases e : i = j + 1
  ·subst e; exact List.prefix_refl _
  ·rw [enc3_next]; exact (ih (by omega)).trans (List.prefix_append _ _)
theorem enc4_mono {i j : Nat} (h : i ≤ j) : enc4 p i <+: enc4 p j := by
 induction j with
 | zero =>
  obtain rfl : i = 0 := by omega
  exact List.prefix_refl _
 | succ j ih =>
  by_cases e : i = j + 1
  ·subst e; exact List.prefix_refl _
  ·rw [enc4_next, List.append_assoc]; exact (ih (by omega)).trans (List.prefix_append _ _)
theorem enc2_zero (p : Pv) : enc2 p 0 = enc1 p p.nc ++ numB p.ns := List.append_nil _
theorem enc1_zero (p : Pv) : enc1 p 0 = encH ++ numB p.nc := List.append_nil _
theorem enc3_zero (p : Pv) : enc3 p 0 = enc2 p p.ns := List.append_nil _
theorem enc4_zero (p : Pv) : enc4 p 0 = enc3 p 6 ++ numB p.n := List.append_nil _
theorem pre4 {i : Nat} (h : i ≤ p.n) : enc4 p i <+: encP p := enc4_mono h
theorem pre3 {i : Nat} (h : i ≤ 6) : enc3 p i <+: encP p := (enc3_mono h).trans (((by rw [enc4_zero]; exact List.prefix_append _ _ : enc3 p 6 <+: enc4 p 0)).trans (pre4 (Nat.zero_le _)))
theorem pre2 {i : Nat} (h : i ≤ p.ns) : enc2 p i <+: encP p := (enc2_mono h).trans (by rw [← enc3_zero]; exact pre3 (Nat.zero_le _))
theorem pre1 {i : Nat} (h : i ≤ p.nc) : enc1 p i <+: encP p := (enc1_mono h).trans (((by rw [enc2_zero]; exact List.prefix_append _ _ : enc1 p p.nc <+: enc2 p 0)).trans (pre2 (Nat.zero_le _)))
theorem Pkw.ob (h : Pkw p) {i : Nat} (hi : i < p.n) : (p.op i).toNat < 256 ∧ 0 ≤ p.op i := by
 have := h.op i hi
 omega
theorem Pkw.sb (h : Pkw p) {i : Nat} (hi : i < p.ns) : (p.S i).toNat < 256 ∧ 0 ≤ p.S i := by
 have := h.S i hi
 omega
end
end Go.Proofs.YtggpaljilpbmhaaGreatDoor
namespace Go.Proofs.YtggpaljilpbmhaaGreatDoor
open Go.RowKit

/-- A refusal that a function hands out, its links in a list that is new. -/
def FvN (w : World) (L : List Lk) (c : Int) (e : Ending) (w' : World) : Prop := ∃ ao cap, e = .returned (.agg #[.slice ao L.length cap, .int .i64 c]) ∧ Hid (∃ b off, w.heap.size ≤ b ∧ FV w'.heap.size w' ao L b off ∧ Below w.heap.size w w')
set_option maxRecDepth 10000 in
set_option maxHeartbeats 800000 in
theorem newN (layer : ByteArray) (at_ c : Int) (w : World) : Calls Tryz.prog 98 #[.string layer, .int .i64 at_, .int .i64 c] w (FvN w [⟨layer, at_⟩] c) := by
 unfold FvN
 go_enter Tryz.func98, Tryz.ntmps98
 go_wp2
 refine bodyPost_ret (v := .agg #[.slice (some ⟨w.heap.size + 1, 0, none⟩) 1 1, .int .i64 c]) (by simp [results, Tryz.results98, go_sem]) rfl ⟨some ⟨w.heap.size + 1, 0, none⟩, 1, rfl, w.heap.size + 1, 0, by omega, ?_, ?_⟩
 ·have e1 : (w.alloc (.cells #[.slice (some ⟨w.heap.size + 1, 0, none⟩) 1 1, .int .i64 c] 54)).heap.size = w.heap.size + 1 := by simp
  have q0 := World.cell?_alloc_new (w.alloc (.cells #[.slice (some ⟨w.heap.size + 1, 0, none⟩) 1 1, .int .i64 c] 54)) #[.string layer, .int .i64 at_] 165 0
  have q1 := World.cell?_alloc_new (w.alloc (.cells #[.slice (some ⟨w.heap.size + 1, 0, none⟩) 1 1, .int .i64 c] 54)) #[.string layer, .int .i64 at_] 165 1
  rw [e1] at q0 q1
  exact fv_one q0 q1
 ·exact ((Below.refl _ w).alloc (Nat.le_refl _) _).alloc (by simp) _
/-- Between two links of the wrapping. -/
structure Wl (w : World) (l : Lk) (L : List Lk) (ao : Option Addr) (n cp : Nat) (c : Int) (k : Nat) (v : Value) (W : World) : Prop where
 bel : Below w.heap.size w W
 box : W.heap[w.heap.size]? = some (.cells #[.slice ao n cp, .int .i64 c] 54 (0, 0))
 res : ∃ Z : Array Value, W.heap[w.heap.size + 1]? = some (.cells Z 54 (0, 0)) ∧ Z.size = 2
 row : W.ownsRow w.heap.size 165 2 v (k + 1) (lkcells (l :: L.take k))
theorem row_fault {base k : Nat} {w : World} {v : Value} {xs : List Value} {j : Nat} {X : Array Value} (h : w.ownsRow base 165 2 v k xs) (hX : w.heap[j]? = some (.cells X 54 (0, 0))) : v.ownBlock ≠ some j := fun e => by
 rcases h.2 with ⟨rfl, _⟩ | ⟨g', cap, cur, rfl, _, hb, _⟩
 ·cases e
 ·cases e
  rw [hb] at hX
  cases hX
theorem Wl.next {w : World} {l : Lk} {L : List Lk} {ao : Option Addr} {n cp : Nat} {c : Int} {k : Nat} {v v' : Value} {W w2 : World} {o : Obj} (h : Wl w l L ao n cp c k v W) {x : Lk} (hx : L[k]? = some x) (ho : w2.ownsRow w.heap.size 165 2 v' (k + 1 + 1) (lkcells (l :: L.take k) ++ [.string x.layer, .int .i64 x.at_])) (hg : (W.alloc o).grownBy w2 v.ownBlock) : Wl w l L ao n cp c (k + 1) v' w2 := by
 have gA := World.grownBy_alloc W o none
 have row1 := row_quietT h.row gA
 obtain ⟨Z, z1, z2⟩ := h.res
 have b1 := (gA.block _ (block_lt h.box) (by simp)).trans h.box
 have r1 := (gA.block _ (block_lt z1) (by simp)).trans z1
 have bel1 := h.bel.grown gA h.bel.size (fun k e => by cases e)
 refine ⟨bel1.grown hg bel1.size (fun k e => (row1.lt k e).1), (hg.block _ (block_lt b1) (fun e => row_fault row1 b1 e.symm)).trans b1, ⟨Z, (hg.block _ (block_lt r1) (fun e => row_fault row1 r1 e.symm)).trans r1, z2⟩, ?_⟩
 have e : lkcells (l :: L.take (k + 1)) = lkcells (l :: L.take k) ++ [.string x.layer, .int .i64 x.at_] := by
  rw [List.take_add_one, hx]
  exact lkcells_snoc (l :: L.take k) x
 rw [e]
 exact ho
set_option maxRecDepth 10000 in
set_option maxHeartbeats 1600000 in
theorem wrapN (layer : ByteArray) (at_ c : Int) {L : List Lk} {ao : Option Addr} {b off : Nat} (n cp : Nat) (hn : L.length = n) (hl : n ≤ 100) (w : World) (hf : FV w.heap.size w ao L b off) : Calls Tryz.prog 97 #[.string layer, .int .i64 at_, .agg #[.slice ao n cp, .int .i64 c]] w (FvN w (⟨layer, at_⟩ :: L) c) := by
 obtain ⟨i0, hi0, hz0, hz1, hz2⟩ := info_parts infoLink
 unfold FvN
 have HF := hide hf
 have HN := hide hn
 clear hf hn
 obtain ⟨W2, hW2⟩ : ∃ W2, (w.alloc (.cells #[.slice ao n cp, .int .i64 c] 54)).alloc (.cells #[.slice none 0 0, .int .i64 0] 54) = W2 := ⟨_, rfl⟩
 have e1 : (w.alloc (.cells #[.slice ao n cp, .int .i64 c] 54)).heap.size = w.heap.size + 1 := by simp
 have s2 : W2.heap.size = w.heap.size + 1 + 1 := by rw [← hW2]; simp
 have WL0 : Hid (Wl w ⟨layer, at_⟩ L ao n cp c 0 (.slice (some ⟨w.heap.size + 1 + 1, 0, none⟩) 1 1) (W2.alloc (.cells #[.string layer, .int .i64 at_] 165))) := by
  have q1 : W2.heap[w.heap.size + 1]? = some (.cells #[.slice none 0 0, .int .i64 0] 54 (0, 0)) := by rw [← hW2, ← e1]; exact alloc_atK _ _
  have q0 : W2.heap[w.heap.size]? = some (.cells #[.slice ao n cp, .int .i64 c] 54 (0, 0)) := by rw [← hW2]; exact ((World.grownBy_alloc _ _ none).block _ (by rw [e1]; omega) (by simp)).trans (alloc_atK _ _)
  have b2 : Below w.heap.size w W2 := by rw [← hW2]; exact ((Below.refl _ w).alloc (Nat.le_refl _) _).alloc (by simp) _
  have gA := World.grownBy_alloc W2 (.cells #[.string layer, .int .i64 at_] 165) none
  refine ⟨b2.grown gA b2.size (fun k e => by cases e), (gA.block _ (block_lt q0) (by simp)).trans q0, ⟨_, (gA.block _ (block_lt q1) (by simp)).trans q1, rfl⟩, rfl, .inr ⟨w.heap.size + 1 + 1, 1, #[.string layer, .int .i64 at_], rfl, by omega, ?_, by omega, by unfold maxLen; omega, rfl, rfl⟩⟩
  rw [← s2]
  exact alloc_atK _ _
 have HW2 := hide hW2
 have HS2 := hide s2
 clear hW2 e1 s2
 go_enter Tryz.func97, Tryz.ntmps97
 go_wp2
 rw [HW2.out]
 go_loopw [7, 8] (fun v i wr => ∃ k : Nat, k ≤ n ∧ i = .int .i64 k ∧ Hid (Wl w ⟨layer, at_⟩ L ao n cp c k v wr)) (fun _ i _ => n - (intOf i).toNat)
 case atStart => exact ⟨0, by omega, rfl, WL0.out⟩
 case round =>
  obtain ⟨k, hk, rfl, HR⟩ := hrel
  clear WL0
  have x0 := block_cell HR.out.box 0
  have x1 := block_cell HR.out.box 1
  have hlx := block_lt HR.out.box
  simp at x0 x1
  by_cases hlt : k < n
  ·obtain ⟨ly, a1, hg, e1, hbl, p0, p1⟩ := (HF.out.below HR.out.bel).get (k := k) (by rw [HN.out]; exact hlt)
   rw [e1] at x0
   have hbw : b < wr.heap.size := Nat.lt_of_lt_of_le hbl HR.out.bel.size
   have HOW : Hid (∀ o, (wr.alloc o).ownsRow w.heap.size 165 2 u7 (k + 1) (lkcells (⟨layer, at_⟩ :: L.take k))) := fun o => row_quietT HR.out.row (World.grownBy_alloc _ _ none)
   have HNX : Hid (∀ (v' : Value) (w2 : World) (o : Obj), w2.ownsRow w.heap.size 165 2 v' (k + 1 + 1) (lkcells (⟨layer, at_⟩ :: L.take k) ++ [.string ly, .int .i64 a1]) → (wr.alloc o).grownBy w2 u7.ownBlock → Wl w ⟨layer, at_⟩ L ao n cp c (k + 1) v' w2) := fun v' w2 o ho hg2 => HR.out.next hg ho hg2
   have HSW : Hid (w.heap.size ≤ wr.heap.size) := HR.out.bel.size
   clear hg e1 hbl
   go_wp2_with (first
    | (at_builtin; refine wpList_append_own_wide _ rfl (.tmp 20) (.tmp 26) 52 rfl w.heap.size 165 i0 (.agg #[.string ⟨#[]⟩, .int .i64 0]) 2 24 Tryz.underlying52 hi0 hz0 hz1 hz2 rfl (by decide) u7 (k + 1) (lkcells (⟨layer, at_⟩ :: L.take k)) rfl (HOW.out _) ⟨wr.heap.size, 0, none⟩ 1 1 [.string ly, .int .i64 a1] rfl rfl (cells_newK _ _ _) (by simp [Value.oneCell']) (by unfold maxLen; omega) (by omega) (Nat.le_trans HSW.out (by simp)) ?_; intro v' w2 ho hg _; obtain ⟨g', cap', rfl⟩ := ownsRow_succ ho; have NX := hide (HNX.out _ _ _ ho hg); clear ho hg))
   go_roundw
   case rel => exact ⟨k + 1, by omega, by go_num, NX.out⟩
   case measure => simp [intOf]; omega
  ·obtain rfl : k = n := by omega
   have hrow := HR.out.row
   rw [List.take_of_length_le (by rw [HN.out]; omega)] at hrow
   have hlen : (⟨layer, at_⟩ :: L : List Lk).length = k + 1 := by rw [List.length_cons, HN.out]
   rw [← hlen] at hrow
   have hlo := hrow.lt
   obtain ⟨ao', cap', b', rfl, hfv⟩ := fv_row hrow (by rw [hlen]; omega)
   have HLO : Hid (w.heap.size ≤ b') := by
    have e := hfv.ad (by rw [hlen]; omega)
    exact (hlo b' (by rw [e]; rfl)).1
   obtain ⟨Z, z1, z2⟩ := HR.out.res
   have y0 : (wr.cell? ⟨w.heap.size + 1, 0, none⟩).isSome = true := by rw [block_cell z1 0]; simp [z2]
   have y1 : (wr.cell? ⟨w.heap.size + 1, 1, none⟩).isSome = true := by rw [block_cell z1 1]; simp [z2]
   obtain ⟨p0, hp0⟩ := Option.isSome_iff_exists.1 y0
   obtain ⟨p1, hp1⟩ := Option.isSome_iff_exists.1 y1
   have g0 := block_free z1 0
   have g1 := block_free z1 1
   have hlz := block_lt z1
   have FIN : Hid (∀ x y, FV ((wr.setCell ⟨w.heap.size + 1, 0, none⟩ x).setCell ⟨w.heap.size + 1, 1, none⟩ y).heap.size ((wr.setCell ⟨w.heap.size + 1, 0, none⟩ x).setCell ⟨w.heap.size + 1, 1, none⟩ y) ao' (⟨layer, at_⟩ :: L) b' 0 ∧ Below w.heap.size w ((wr.setCell ⟨w.heap.size + 1, 0, none⟩ x).setCell ⟨w.heap.size + 1, 1, none⟩ y)) := fun x y => by
    have ra := hrow.kept (grown_set wr (w.heap.size + 1) 0 x) (.inr (row_fault hrow z1))
    have za := heap_setCell_same wr (w.heap.size + 1) 0 _ _ x z1
    have rb := ra.kept (grown_set _ (w.heap.size + 1) 1 y) (.inr (row_fault ra za))
    obtain ⟨ao2, cap2, b2, e, hf⟩ := fv_row rb (by rw [hlen]; omega)
    cases e
    refine ⟨?_, (HR.out.bel.setCell (p := ⟨w.heap.size + 1, 0, none⟩) (by simp) x).setCell (p := ⟨w.heap.size + 1, 1, none⟩) (by simp) y⟩
    have hbb : b2 = b' := by
     have e1 := hf.ad (by simp)
     have e2 := hfv.ad (by simp)
     rw [e1] at e2
     cases e2
     rfl
    rw [hbb] at hf
    exact hf
   clear y0 y1 z1 hrow hfv hlen hlo
   go_wp2
   refine bodyPost_ret (v := .agg #[.slice ao' (L.length + 1) cap', .int .i64 c]) (by simp [results, Tryz.results97, go_sem, hp0, hp1]) rfl ⟨ao', cap', rfl, b', 0, HLO.out, ?_⟩
   exact FIN.out _ _
end Go.Proofs.YtggpaljilpbmhaaGreatDoor
