import Derived.Test.YtggpaljilpbmhaaGreatDoorW07
namespace Go.Proofs.YtggpaljilpbmhaaGreatDoor
open Go.RowKit

/-- The lengths of what is known. -/
def KB (k : Kn) : Prop := ∀ j, (kin (k j)).length ≤ 64
theorem KB.upd {k : Kn} (h : KB k) (t : Nat) {l : List Bool} (hl : l.length ≤ 64) : KB (updK k t l) := by
 intro j
 unfold updK
 by_cases e : j = t
 ·rw [if_pos e]; exact hl
 ·rw [if_neg e]; exact h j
theorem KB.hand {k k' : Kn} (h : KB k) {p : Pv} {f d : Nat} {l : List Bool} (hl : l.length ≤ 64) (e : handF p k f d l = .ok k') : KB k' := by
 unfold handF at e
 split at e
 ·cases e
 ·split at e
  ·cases e
  ·split at e
   ·cases e; exact h
   ·split at e
    ·cases e
    ·cases e; exact h.upd d hl
theorem bindK_ok {r : Except Int Kn} {f : Kn → Except Int Kn} {k : Kn} (h : bindK r f = .ok k) : ∃ k', r = .ok k' ∧ f k' = .ok k := by
 cases r with
 | ok k' => exact ⟨k', rfl, h⟩
 | error y => cases h
theorem KB.visit {k k' : Kn} (h : KB k) {p : Pv} {i : Nat} (e : visitF p k i = .ok k') : KB k' := by
 unfold visitF at e
 split at e
 ·cases e
 ·split at e
  ·cases e
  ·split at e
   ·cases e
   ·rename_i h1 h2 h3
    have hl : ((kin (k i)).take ((kin (k i)).length - (colB p (fTakes (p.op i).toNat) (p.arg i)).length) ++ colB p (fLays (p.op i).toNat) (p.arg i)).length ≤ 64 := by
     simp only [List.length_append, List.length_take]
     omega
    split at e
    ·cases e; exact h
    ·split at e
     ·exact h.hand hl e
     ·split at e
      ·obtain ⟨k1, e1, e2⟩ := bindK_ok e
       exact (h.hand (h i) e1).hand hl e2
      ·split at e
       ·obtain ⟨k1, e1, e2⟩ := bindK_ok e
        exact (h.hand hl e1).hand hl e2
       ·exact h.hand hl e
/-- The entries are known from the start. -/
def entK (p : Pv) : Nat → Kn
 | 0 => fun _ => none
 | e + 1 => if 0 ≤ p.en e then updK (entK p e) (p.en e).toNat [] else entK p e
theorem entK_nil (p : Pv) (e j : Nat) : kin (entK p e j) = [] := by
 induction e with
 | zero => rfl
 | succ e ih =>
  unfold entK
  split
  ·unfold updK
   split
   ·rfl
   ·exact ih
  ·exact ih
theorem entK_kb (p : Pv) (e : Nat) : KB (entK p e) := fun j => by rw [entK_nil]; simp
/-- The first j places gone through. -/
def goF (p : Pv) : Nat → Except (Int × Int) Kn
 | 0 => .ok (entK p 6)
 | j + 1 => match goF p j with
  | .error y => .error y
  | .ok k => if (k j).isSome = true then (match visitF p k j with
   | .ok k' => .ok k'
   | .error y => .error ((j : Int), y)) else .ok k
theorem goF_stays {p : Pv} {j n : Nat} {y : Int × Int} (hj : j ≤ n) (h : goF p j = .error y) : goF p n = .error y := by
 induction n with
 | zero =>
  obtain rfl : j = 0 := by omega
  exact h
 | succ n ih =>
  by_cases e : j = n + 1
  ·subst e; exact h
  ·unfold goF; rw [ih (by omega)]
theorem goF_kb {p : Pv} : ∀ {j : Nat} {k : Kn}, goF p j = .ok k → KB k
 | 0, k, h => by cases h; exact entK_kb p 6
 | j + 1, k, h => by
  unfold goF at h
  split at h
  ·cases h
  ·rename_i k0 e0
   have hb := goF_kb e0
   split at h
   ·split at h
    ·rename_i k1 e1
     cases h
     exact hb.visit e1
    ·cases h
   ·cases h; exact hb
/-- What becomes of the going through. -/
def Gt (lim : Nat) (W : World) (q : Nat) (g : Pg) (p : Pv) (r : Except (Int × Int) Kn) (e : Ending) (w' : World) : Prop := match r with
 | .ok k' => e = .returned (.tuple #[]) ∧ Hid (∃ hb, WK lim w' q hb g p k' ∧ W.grownBy w' (some q) ∧ W.heap.size ≤ hb)
 | .error (a, y) => ∃ g, e = .panicked [{ v := .iface 74 (.pointer (some ⟨g, 0, none⟩)), recovered := false }] ∧ Hid (Ft w'.heap.size w' (.iface 74 (.pointer (some ⟨g, 0, none⟩))) a y ∧ W.grownBy w' (some q))
theorem made2 (n j : Nat) (hj : j < n) (a b : Value) : (madeCells #[a, b] (n * 2)).toList[j * 2]? = some a ∧ (madeCells #[a, b] (n * 2)).toList[j * 2 + 1]? = some b := by
 constructor
 ·have h1 : j * 2 < n * 2 := by omega
  simp [madeCells, h1]
 ·have h1 : j * 2 + 1 < n * 2 := by omega
  have h2 : (j * 2 + 1) % 2 = 1 := by omega
  simp [madeCells, h1, h2]
theorem Tryz.infoSh : (Tryz.prog.info? 78).map (fun i => (i.zero, i.size, i.bytes)) = some (some (.agg #[.bool false, .string ⟨#[]⟩]), 2, 24) := by kernel_rfl
theorem InOk.of {p : Pv} (h : insF p = none) {i : Nat} (hi : i < p.n) : InOk p i := by
 have key : ∀ n, firstBad (insB p) n = none → ∀ j, j < n → insB p j = none := by
  intro n
  induction n with
  | zero => intro _ j hj; omega
  | succ n ih =>
   intro h j hj
   unfold firstBad at h
   have h1 : firstBad (insB p) n = none := by
    cases e : firstBad (insB p) n with
    | none => rfl
    | some r => rw [e] at h; cases h
   rw [h1] at h
   by_cases e : j = n
   ·subst e; simpa using h
   ·exact ih h1 j (by omega)
 have := key p.n h i hi
 unfold insB at this
 split at this
 ·cases this
 ·rename_i h1
  split at this
  ·cases this
  ·rename_i h2
   exact ⟨hi, by simpa using h1, by simpa using h2⟩
theorem ent_of {p : Pv} (h : entF p = none) {e : Nat} (he : e < 6) : p.en e = -1 ∨ isPl (p.en e) p.n = true := by
 have key : ∀ n, firstBad (entB p) n = none → ∀ j, j < n → entB p j = none := by
  intro n
  induction n with
  | zero => intro _ j hj; omega
  | succ n ih =>
   intro h j hj
   unfold firstBad at h
   have h1 : firstBad (entB p) n = none := by
    cases e : firstBad (entB p) n with
    | none => rfl
    | some r => rw [e] at h; cases h
   rw [h1] at h
   by_cases e : j = n
   ·subst e; simpa using h
   ·exact ih h1 j (by omega)
 have := key 6 h e he
 unfold entB at this
 split at this
 ·cases this
 ·rename_i h1
  by_cases e1 : p.en e = -1
  ·exact .inl e1
  ·right
   cases e2 : isPl (p.en e) p.n
   ·exact absurd ⟨e1, e2⟩ h1
   ·rfl
end Go.Proofs.YtggpaljilpbmhaaGreatDoor
namespace Go.Proofs.YtggpaljilpbmhaaGreatDoor
open Go.RowKit

theorem grown_new {A B C : World} {r : Option Nat} {hb : Nat} (h1 : A.grownBy B r) (h2 : B.grownBy C (some hb)) (hn : A.heap.size ≤ hb) : A.grownBy C r :=
 ⟨h2.os.trans h1.os, h2.tape.trans h1.tape, h2.output.trans h1.output, Nat.le_trans h1.size h2.size, fun k hk hne => (h2.block k (Nat.lt_of_lt_of_le hk h1.size) (by simp; omega)).trans (h1.block k hk hne)⟩
theorem WK.know {lim : Nat} {W : World} {q hb : Nat} {g : Pg} {p : Pv} {k : Kn} (h : WK lim W q hb g p k) (t : Nat) (ht : t < p.n) (hz : kin (k t) = []) : WK lim (W.setCell ⟨hb, t * 2, none⟩ (.bool true)) q hb g p (updK k t []) ∧ W.grownBy (W.setCell ⟨hb, t * 2, none⟩ (.bool true)) (some hb) := by
 obtain ⟨cs, h1, h2⟩ := h.row
 have s1 := heap_setCell_same W hb (t * 2) _ _ (.bool true) h1
 have G := grown_set W hb (t * 2) (.bool true)
 have hne : q ≠ hb := fun e => by have := h.blk; rw [e, h1] at this; simp at this
 have hB := below_of_grown G h.lh h.le
 refine ⟨⟨(G.block _ (block_lt h.blk) (by simpa using hne)).trans h.blk, ⟨_, s1, fun j hj => ?_⟩, h.ok.kept hB (Nat.le_refl _), h.lq, h.lh, h.tab.below hB h.l2, h.l2⟩, G⟩
 obtain ⟨a1, a2⟩ := h2 j hj
 have b1 := (Array.getElem?_eq_some_iff.1 (h2 t ht).1).1
 unfold updK
 by_cases e : j = t
 ·subst e
  rw [if_pos rfl]
  constructor
  ·rw [Array.getElem?_setIfInBounds_self_of_lt b1]; rfl
  ·rw [Array.getElem?_setIfInBounds_ne (by omega), a2, hz]; rfl
 ·rw [if_neg e]
  constructor
  ·rw [Array.getElem?_setIfInBounds_ne (by omega)]; exact a1
  ·rw [Array.getElem?_setIfInBounds_ne (by omega)]; exact a2
theorem WK.born {lim : Nat} {W w0 : World} {q : Nat} {g : Pg} {p : Pv} (h : WC lim W q g p) (hx : W.heap[q]? = some (.cells (g.cs p ++ [Value.slice none 0 0]).toArray 128 (0, 0)))
  (ho : w0.ownsRow W.heap.size 78 2 (.slice (some ⟨W.heap.size, 0, none⟩) p.n p.n) p.n (madeCells #[.bool false, .string ⟨#[]⟩] (p.n * 2)).toList) (hg : W.grownBy w0 none) :
  WK lim (w0.setCell ⟨q, 9, none⟩ (.slice (some ⟨W.heap.size, 0, none⟩) p.n p.n)) q W.heap.size g p (entK p 0) ∧ W.grownBy (w0.setCell ⟨q, 9, none⟩ (.slice (some ⟨W.heap.size, 0, none⟩) p.n p.n)) (some q) := by
 have hb0 : Below W.heap.size W w0 := ⟨hg.os, hg.tape, hg.output, hg.size, fun k hk => hg.block k hk (by simp)⟩
 have h0 := h.kept hb0
 have hx0 := (hb0.block _ (block_lt hx)).trans hx
 have G := grown_set w0 q 9 (.slice (some ⟨W.heap.size, 0, none⟩) p.n p.n)
 have s1 := heap_setCell_same w0 q 9 _ _ (.slice (some ⟨W.heap.size, 0, none⟩) p.n p.n) hx0
 have hB : Below lim w0 (w0.setCell ⟨q, 9, none⟩ (.slice (some ⟨W.heap.size, 0, none⟩) p.n p.n)) := ⟨G.os, G.tape, G.output, G.size, fun k hk => G.block k (by have := h0.le; omega) (by have := h0.lq; simp; omega)⟩
 have hrow : ∃ cs, w0.heap[W.heap.size]? = some (.cells cs 78 (0, 0)) ∧ ∀ j, j < p.n → cs[j * 2]? = some (.bool false) ∧ cs[j * 2 + 1]? = some (.string ⟨#[]⟩) := by
  rcases ho.2 with ⟨e, _⟩ | ⟨g', cap, cur, e, _, hg', hnc, _, hsz, htk⟩
  ·cases e
  ·cases e
   refine ⟨cur, hg', fun j hj => ?_⟩
   obtain ⟨m1, m2⟩ := made2 p.n j hj (.bool false) (.string ⟨#[]⟩)
   rw [← htk] at m1 m2
   rw [List.getElem?_take, if_pos (by omega)] at m1 m2
   constructor
   ·simpa using m1
   ·simpa using m2
 obtain ⟨cs, r1, r2⟩ := hrow
 have hne : W.heap.size ≠ q := by have := block_lt hx; omega
 refine ⟨⟨?_, ⟨cs, (G.block _ (block_lt r1) (by simpa using hne)).trans r1, fun j hj => r2 j hj⟩, h0.ok.kept hB (Nat.le_refl _), h0.lq, h.le, h0.tab.below hB h0.l2, h0.l2⟩, grown_tr (grown_of_below hb0 _) G⟩
 rw [s1]
 rfl
theorem WK.ents {lim : Nat} {W : World} {q hb : Nat} {g : Pg} {p : Pv} {k : Kn} (h : WK lim W q hb g p k) : W.cell? ⟨q, 2, none⟩ = some (.int .i64 (p.en 0)) ∧ W.cell? ⟨q, 3, none⟩ = some (.int .i64 (p.en 1)) ∧ W.cell? ⟨q, 4, none⟩ = some (.int .i64 (p.en 2)) ∧ W.cell? ⟨q, 5, none⟩ = some (.int .i64 (p.en 3)) ∧ W.cell? ⟨q, 6, none⟩ = some (.int .i64 (p.en 4)) ∧ W.cell? ⟨q, 7, none⟩ = some (.int .i64 (p.en 5)) :=
 ⟨block_cell h.blk 2, block_cell h.blk 3, block_cell h.blk 4, block_cell h.blk 5, block_cell h.blk 6, block_cell h.blk 7⟩
theorem goF_err {p : Pv} {j n : Nat} {k : Kn} {y : Int} (hj : j < n) (h : goF p j = .ok k) (hk : (k j).isSome = true) (hv : visitF p k j = .error y) : goF p n = .error ((j : Int), y) := by
 refine goF_stays (j := j + 1) hj ?_
 unfold goF
 rw [h]
 simp only [hk, if_true, hv]
theorem goF_ok {p : Pv} {j : Nat} {k k' : Kn} (h : goF p j = .ok k) (hk : (k j).isSome = true) (hv : visitF p k j = .ok k') : goF p (j + 1) = .ok k' := by
 unfold goF
 rw [h]
 simp only [hk, if_true, hv]
theorem goF_skip {p : Pv} {j : Nat} {k : Kn} (h : goF p j = .ok k) (hk : (k j).isSome = false) : goF p (j + 1) = .ok k := by
 unfold goF
 rw [h]
 simp [hk]
set_option maxRecDepth 10000 in
set_option maxHeartbeats 6400000 in
theorem goThroughC {lim : Nat} {W : World} {q : Nat} {g : Pg} {p : Pv} (h : WC lim W q g p) (hx : W.heap[q]? = some (.cells (g.cs p ++ [Value.slice none 0 0]).toArray 128 (0, 0))) (hn : p.n ≤ 1024) (hE : entF p = none) (hI : insF p = none) :
  Calls Tryz.prog 65 #[.pointer (some ⟨q, 0, none⟩)] W (Gt lim W q g p (goF p p.n)) := by
 obtain ⟨i0, hi, hz0, hz1, hz2⟩ := info_parts Tryz.infoSh
 have HZ0 := hide hz0
 clear hz0
 obtain ⟨c0, c1, c8, ql⟩ := h.cells
 have c9 : W.cell? ⟨q, 9, none⟩ = some (.slice none 0 0) := block_cell hx 9
 have f9 := block_free hx 9
 obtain ⟨r, hr⟩ : ∃ r, goF p p.n = r := ⟨_, rfl⟩
 rw [hr]
 have HR := hide hr
 have HE : Hid (∀ e, e < 6 → p.en e = -1 ∨ isPl (p.en e) p.n = true) := fun e he => ent_of hE he
 have HI : Hid (∀ i, i < p.n → InOk p i) := fun i hi => InOk.of hI hi
 have HBorn : Hid (∀ w0, w0.ownsRow W.heap.size 78 2 (.slice (some ⟨W.heap.size, 0, none⟩) p.n p.n) p.n (madeCells #[.bool false, .string ⟨#[]⟩] (p.n * 2)).toList → W.grownBy w0 none → WK lim (w0.setCell ⟨q, 9, none⟩ (.slice (some ⟨W.heap.size, 0, none⟩) p.n p.n)) q W.heap.size g p (entK p 0) ∧ W.grownBy (w0.setCell ⟨q, 9, none⟩ (.slice (some ⟨W.heap.size, 0, none⟩) p.n p.n)) (some q)) := fun w0 h1 h2 => WK.born h hx h1 h2
 have HX := hide hx
 clear h hx hE hI hr
 go_enter Tryz.func65, Tryz.ntmps65
 go_upto_region 1 with (at_make; refine wpList_make_full _ rfl _ _ 70 rfl W.heap.size 78 i0 _ 2 Tryz.underlying70 hi HZ0.out hz1 .i64 .i64 _ _ p.n rfl rfl rfl rfl (by rw [hz2]; omega) (by unfold maxLen; omega) (Nat.le_refl _) ?_; intro w0 hown0 hgrow0; have HO0 := hide hown0; have HG0 := hide hgrow0; have d9 := HG0.out.cell c9 (by simp); have e9 : w0.frozen? ⟨q, 9, none⟩ = false := (block_free ((HG0.out.block _ ql (by simp)).trans HX.out) 9); have dl := Nat.lt_of_lt_of_le ql HG0.out.size; clear hown0 hgrow0 c0 c1 c8 c9 f9)
 have hB := HBorn.out w0 HO0.out HG0.out
 obtain ⟨W5, hW5⟩ : ∃ W5, w0.setCell ⟨q, 9, none⟩ (.slice (some ⟨W.heap.size, 0, none⟩) p.n p.n) = W5 := ⟨_, rfl⟩
 rw [hW5] at hB ⊢
 have HK5 := hide hB.1
 have HG5 := hide hB.2
 obtain ⟨e0, e1, e2, e3, e4, e5⟩ := HK5.out.ents
 have ql5 := HK5.out.cells.2.2.2.2
 clear hB hW5 HBorn HX HO0 HG0 d9 e9 dl ql
 have HWS : Hid (W.heap.size ≤ W.heap.size) := Nat.le_refl _
 obtain ⟨hb, hhb⟩ : ∃ hb, W.heap.size = hb := ⟨_, rfl⟩
 rw [hhb] at HK5 ⊢
 have HWS : Hid (W.heap.size ≤ hb) := Nat.le_of_eq hhb
 clear hhb
 go_wp2
 clear e0 e1 e2 e3 e4 e5 ql5
 go_loopw [21] (fun i wr => ∃ e : Nat, e ≤ 6 ∧ i = .int .i64 (e : Nat) ∧ Hid (WK lim wr q hb g p (entK p e) ∧ W5.grownBy wr (some hb))) (fun i _ => 6 - (intOf i).toNat)
 case atStart => exact ⟨0, by omega, rfl, HK5.out, ⟨rfl, rfl, rfl, Nat.le_refl _, fun _ _ _ => rfl⟩⟩
 case round =>
  obtain ⟨e, he6, rfl, HV⟩ := hrel
  have HK := hide HV.out.1
  have HG := hide HV.out.2
  clear HV HK5
  by_cases hlt : e < 6
  ·have h6 : e = 0 ∨ e = 1 ∨ e = 2 ∨ e = 3 ∨ e = 4 ∨ e = 5 := by omega
   rcases h6 with rfl | rfl | rfl | rfl | rfl | rfl
   ·have hix := idx6_0 (p.en 0) (p.en 1) (p.en 2) (p.en 3) (p.en 4) (p.en 5)
    have HU : Hid (entK p (0 + 1) = if 0 ≤ p.en 0 then updK (entK p 0) (p.en 0).toNat [] else entK p 0) := rfl
    have he := HE.out 0 (by omega)
    generalize p.en 0 = s at *
    by_cases h0 : 0 ≤ s
    ·obtain ⟨t, rfl⟩ := Int.eq_ofNat_of_zero_le h0
     have ht : t < p.n := by
      rcases he with he | he
      ·omega
      ·have := (isPl_nat he).2
       simpa using this
     obtain ⟨s0, s1, f0, f1, sl⟩ := HK.out.shape t ht
     obtain ⟨_, _, _, c9, ql⟩ := HK.out.cells
     have HKn := hide (HK.out.know t ht (entK_nil p _ t))
     rw [if_pos (by omega)] at HU
     simp only [Int.toNat_natCast] at HU
     clear he h0
     go_wp2
     go_roundw
     case rel => exact ⟨1, by omega, by go_num, by rw [HU.out]; exact HKn.out.1, grown_tr HG.out HKn.out.2⟩
     case measure => simp [intOf]
    ·rw [if_neg h0] at HU
     have h0' : (decide (0 ≤ s)) = false := decide_eq_false h0
     go_wp2
     go_roundw
     case rel => exact ⟨1, by omega, by go_num, by rw [HU.out]; exact HK.out, HG.out⟩
     case measure => simp [intOf]
   ·have hix := idx6_1 (p.en 0) (p.en 1) (p.en 2) (p.en 3) (p.en 4) (p.en 5)
    have HU : Hid (entK p (1 + 1) = if 0 ≤ p.en 1 then updK (entK p 1) (p.en 1).toNat [] else entK p 1) := rfl
    have he := HE.out 1 (by omega)
    generalize p.en 1 = s at *
    by_cases h0 : 0 ≤ s
    ·obtain ⟨t, rfl⟩ := Int.eq_ofNat_of_zero_le h0
     have ht : t < p.n := by
      rcases he with he | he
      ·omega
      ·have := (isPl_nat he).2
       simpa using this
     obtain ⟨s0, s1, f0, f1, sl⟩ := HK.out.shape t ht
     obtain ⟨_, _, _, c9, ql⟩ := HK.out.cells
     have HKn := hide (HK.out.know t ht (entK_nil p _ t))
     rw [if_pos (by omega)] at HU
     simp only [Int.toNat_natCast] at HU
     clear he h0
     go_wp2
     go_roundw
     case rel => exact ⟨2, by omega, by go_num, by rw [HU.out]; exact HKn.out.1, grown_tr HG.out HKn.out.2⟩
     case measure => simp [intOf]
    ·rw [if_neg h0] at HU
     have h0' : (decide (0 ≤ s)) = false := decide_eq_false h0
     go_wp2
     go_roundw
     case rel => exact ⟨2, by omega, by go_num, by rw [HU.out]; exact HK.out, HG.out⟩
     case measure => simp [intOf]
   ·have hix := idx6_2 (p.en 0) (p.en 1) (p.en 2) (p.en 3) (p.en 4) (p.en 5)
    have HU : Hid (entK p (2 + 1) = if 0 ≤ p.en 2 then updK (entK p 2) (p.en 2).toNat [] else entK p 2) := rfl
    have he := HE.out 2 (by omega)
    generalize p.en 2 = s at *
    by_cases h0 : 0 ≤ s
    ·obtain ⟨t, rfl⟩ := Int.eq_ofNat_of_zero_le h0
     have ht : t < p.n := by
      rcases he with he | he
      ·omega
      ·have := (isPl_nat he).2
       simpa using this
     obtain ⟨s0, s1, f0, f1, sl⟩ := HK.out.shape t ht
     obtain ⟨_, _, _, c9, ql⟩ := HK.out.cells
     have HKn := hide (HK.out.know t ht (entK_nil p _ t))
     rw [if_pos (by omega)] at HU
     simp only [Int.toNat_natCast] at HU
     clear he h0
     go_wp2
     go_roundw
     case rel => exact ⟨3, by omega, by go_num, by rw [HU.out]; exact HKn.out.1, grown_tr HG.out HKn.out.2⟩
     case measure => simp [intOf]
    ·rw [if_neg h0] at HU
     have h0' : (decide (0 ≤ s)) = false := decide_eq_false h0
     go_wp2
     go_roundw
     case rel => exact ⟨3, by omega, by go_num, by rw [HU.out]; exact HK.out, HG.out⟩
     case measure => simp [intOf]
   ·have hix := idx6_3 (p.en 0) (p.en 1) (p.en 2) (p.en 3) (p.en 4) (p.en 5)
    have HU : Hid (entK p (3 + 1) = if 0 ≤ p.en 3 then updK (entK p 3) (p.en 3).toNat [] else entK p 3) := rfl
    have he := HE.out 3 (by omega)
    generalize p.en 3 = s at *
    by_cases h0 : 0 ≤ s
    ·obtain ⟨t, rfl⟩ := Int.eq_ofNat_of_zero_le h0
     have ht : t < p.n := by
      rcases he with he | he
      ·omega
      ·have := (isPl_nat he).2
       simpa using this
     obtain ⟨s0, s1, f0, f1, sl⟩ := HK.out.shape t ht
     obtain ⟨_, _, _, c9, ql⟩ := HK.out.cells
     have HKn := hide (HK.out.know t ht (entK_nil p _ t))
     rw [if_pos (by omega)] at HU
     simp only [Int.toNat_natCast] at HU
     clear he h0
     go_wp2
     go_roundw
     case rel => exact ⟨4, by omega, by go_num, by rw [HU.out]; exact HKn.out.1, grown_tr HG.out HKn.out.2⟩
     case measure => simp [intOf]
    ·rw [if_neg h0] at HU
     have h0' : (decide (0 ≤ s)) = false := decide_eq_false h0
     go_wp2
     go_roundw
     case rel => exact ⟨4, by omega, by go_num, by rw [HU.out]; exact HK.out, HG.out⟩
     case measure => simp [intOf]
   ·have hix := idx6_4 (p.en 0) (p.en 1) (p.en 2) (p.en 3) (p.en 4) (p.en 5)
    have HU : Hid (entK p (4 + 1) = if 0 ≤ p.en 4 then updK (entK p 4) (p.en 4).toNat [] else entK p 4) := rfl
    have he := HE.out 4 (by omega)
    generalize p.en 4 = s at *
    by_cases h0 : 0 ≤ s
    ·obtain ⟨t, rfl⟩ := Int.eq_ofNat_of_zero_le h0
     have ht : t < p.n := by
      rcases he with he | he
      ·omega
      ·have := (isPl_nat he).2
       simpa using this
     obtain ⟨s0, s1, f0, f1, sl⟩ := HK.out.shape t ht
     obtain ⟨_, _, _, c9, ql⟩ := HK.out.cells
     have HKn := hide (HK.out.know t ht (entK_nil p _ t))
     rw [if_pos (by omega)] at HU
     simp only [Int.toNat_natCast] at HU
     clear he h0
     go_wp2
     go_roundw
     case rel => exact ⟨5, by omega, by go_num, by rw [HU.out]; exact HKn.out.1, grown_tr HG.out HKn.out.2⟩
     case measure => simp [intOf]
    ·rw [if_neg h0] at HU
     have h0' : (decide (0 ≤ s)) = false := decide_eq_false h0
     go_wp2
     go_roundw
     case rel => exact ⟨5, by omega, by go_num, by rw [HU.out]; exact HK.out, HG.out⟩
     case measure => simp [intOf]
   ·have hix := idx6_5 (p.en 0) (p.en 1) (p.en 2) (p.en 3) (p.en 4) (p.en 5)
    have HU : Hid (entK p (5 + 1) = if 0 ≤ p.en 5 then updK (entK p 5) (p.en 5).toNat [] else entK p 5) := rfl
    have he := HE.out 5 (by omega)
    generalize p.en 5 = s at *
    by_cases h0 : 0 ≤ s
    ·obtain ⟨t, rfl⟩ := Int.eq_ofNat_of_zero_le h0
     have ht : t < p.n := by
      rcases he with he | he
      ·omega
      ·have := (isPl_nat he).2
       simpa using this
     obtain ⟨s0, s1, f0, f1, sl⟩ := HK.out.shape t ht
     obtain ⟨_, _, _, c9, ql⟩ := HK.out.cells
     have HKn := hide (HK.out.know t ht (entK_nil p _ t))
     rw [if_pos (by omega)] at HU
     simp only [Int.toNat_natCast] at HU
     clear he h0
     go_wp2
     go_roundw
     case rel => exact ⟨6, by omega, by go_num, by rw [HU.out]; exact HKn.out.1, grown_tr HG.out HKn.out.2⟩
     case measure => simp [intOf]
    ·rw [if_neg h0] at HU
     have h0' : (decide (0 ≤ s)) = false := decide_eq_false h0
     go_wp2
     go_roundw
     case rel => exact ⟨6, by omega, by go_num, by rw [HU.out]; exact HK.out, HG.out⟩
     case measure => simp [intOf]
  ·obtain rfl : e = 6 := by omega
   obtain ⟨_, _, c8, _, ql⟩ := HK.out.cells
   go_wp2
   clear c8 ql
   go_loopw [40] (fun i wr2 => ∃ (j : Nat) (k : Kn), j ≤ p.n ∧ i = .int .i64 (j : Nat) ∧ Hid (goF p j = .ok k ∧ WK lim wr2 q hb g p k ∧ W5.grownBy wr2 (some hb))) (fun i _ => p.n - (intOf i).toNat)
   case atStart => exact ⟨0, _, by omega, rfl, rfl, HK.out, HG.out⟩
   case round =>
    obtain ⟨j, k, hj, rfl, HV⟩ := hrel
    clear HK HG
    by_cases hlt2 : j < p.n
    ·have hok := HV.out.2.1.ok
     have vo := hok.vo j hlt2
     have va := hok.va j hlt2
     obtain ⟨hia, hib⟩ := hok.hi (by omega)
     have hbl : g.ib < wr.heap.size := Nat.lt_of_lt_of_le hib HV.out.2.1.le
     obtain ⟨W1, hW1⟩ : ∃ W1, wr.alloc (.cells #[.int .i64 (p.op j), .int .i64 (p.arg j)] 42) = W1 := ⟨_, rfl⟩
     have B1 : Below wr.heap.size wr W1 := by rw [← hW1]; exact below_alloc1 wr _
     have A1 : W1.heap[wr.heap.size]? = some (.cells #[.int .i64 (p.op j), .int .i64 (p.arg j)] 42 (0, 0)) := by rw [← hW1]; exact alloc_atK _ _
     have HK1 := hide (HV.out.2.1.kept B1)
     have HG1 : Hid (W5.grownBy W1 (some hb)) := grown_tr HV.out.2.2 (grown_of_below B1 _)
     have z0 := block_cell A1 0
     have z1 := block_cell A1 1
     have zl := block_lt A1
     simp at z0 z1
     obtain ⟨s0, s1, f0, f1, sl⟩ := HK1.out.shape j hlt2
     obtain ⟨_, _, _, c9, ql⟩ := HK1.out.cells
     have HVI := hide (visitC HK1.out j (HI.out j hlt2) hn (goF_kb HV.out.1 j))
     have HW1 := hide hW1
     have HGO := hide HV.out.1
     rw [hia]
     clear hok A1 B1 hW1 hia HV
     generalize p.op j = oo at *
     generalize p.arg j = aa at *
     go_upto_region 10 with fail
     rw [HW1.out]
     clear HW1 vo va
     cases hks : (k j).isSome
     ·rw [hks] at s0
      have HNx := hide (goF_skip HGO.out hks)
      clear hks HVI
      go_wp2
      go_roundw
      case rel => exact ⟨j + 1, k, by omega, by go_num, HNx.out, HK1.out, HG1.out⟩
      case measure => simp [intOf]; omega
     ·rw [hks] at s0
      go_wp2_with fail
      refine HVI.out.mono ?_
      intro e w3 hh
      cases hres : visitF p k j with
      | error y =>
       rw [hres] at hh
       obtain ⟨g', rfl, G⟩ := hh
       have hr : r = .error ((j : Int), y) := HR.out.symm.trans (goF_err hlt2 HGO.out hks hres)
       subst hr
       have HD : Hid (Ft w3.heap.size w3 (.iface 74 (.pointer (some ⟨g', 0, none⟩))) (j : Int) y ∧ W.grownBy w3 (some q)) := ⟨G.out.1, grown_new HG5.out (grown_tr HG1.out G.out.2) (HWS.out)⟩
       clear hres hks
       go_wp2
       exact ⟨rfl, g', rfl, HD⟩
      | ok k' =>
       rw [hres] at hh
       obtain ⟨rfl, G⟩ := hh
       have HNx := hide (goF_ok HGO.out hks hres)
       clear hres hks
       go_wp2
       go_roundw
       case rel =>
        exact ⟨_, _, _, _, _, _, _, _, _, _, _, _, _, _, _, _, _, _, _, _, ⟨j + 1, k', by omega, by go_num, HNx.out, G.out.1, grown_tr HG1.out G.out.2⟩, rfl⟩
       case measure => simp [intOf]; omega
    ·obtain rfl : j = p.n := by omega
     have hr : r = .ok k := HR.out.symm.trans HV.out.1
     subst hr
     have HD : Hid (∃ hb, WK lim wr q hb g p k ∧ W.grownBy wr (some q) ∧ W.heap.size ≤ hb) := ⟨hb, HV.out.2.1, grown_new HG5.out HV.out.2.2 HWS.out, HWS.out⟩
     clear HV
     go_wp2
     go_end0
     exact ⟨rfl, HD⟩
end Go.Proofs.YtggpaljilpbmhaaGreatDoor
namespace Go.Proofs.YtggpaljilpbmhaaGreatDoor
open Go.RowKit

def orE (o : Option (Int × Int)) (r : Except (Int × Int) Kn) : Except (Int × Int) Kn := match o with
 | some y => .error y
 | none => r
/-- What Verify finds. -/
def verF (p : Pv) : Except (Int × Int) Kn := orE (sizeF p) (orE (slotF p) (orE (entF p) (orE (insF p) (goF p p.n))))
/-- Shapes as they lie. -/
def Shp (w : World) (hb n : Nat) (k : Kn) : Prop := ∃ cs, w.heap[hb]? = some (.cells cs 78 (0, 0)) ∧ ∀ j, j < n → cs[j * 2]? = some (.bool (k j).isSome) ∧ cs[j * 2 + 1]? = some (.string (ktx (kin (k j))))
theorem Shp.kept {w w' : World} {hb n : Nat} {k : Kn} (h : Shp w hb n k) (hB : Below w.heap.size w w') : Shp w' hb n k := by
 obtain ⟨cs, h1, h2⟩ := h
 exact ⟨cs, (hB.block _ (block_lt h1)).trans h1, h2⟩
theorem Ft.kept {w w' : World} {v : Value} {a y : Int} (h : Ft w.heap.size w v a y) (hB : Below w.heap.size w w') : Ft w'.heap.size w' v a y := (Chain.below hB h).wide hB.size
theorem Ft.set {W : World} {v u : Value} {q : Nat} {t : TypeId} {cs : Array Value} {a y : Int} (h : Ft W.heap.size W v a y) (hq : W.heap[q]? = some (.cells cs t (0, 0))) (ht : ∀ x, cs[0]? ≠ some (.string x)) (i : Nat) : Ft (W.setCell ⟨q, i, none⟩ u).heap.size (W.setCell ⟨q, i, none⟩ u) v a y := by
 obtain ⟨g, u', hv, hg, c0, c1, c2, hr⟩ := h
 have hne : g ≠ q := fun e => by subst e; rw [block_cell hq 0] at c0; exact ht _ c0
 refine ⟨g, u', hv, by simpa using hg, ?_, ?_, ?_, hr⟩
 ·rw [World.cell?_setCell_far _ _ _ _ (by simpa using fun e => hne e.symm)]; exact c0
 ·rw [World.cell?_setCell_far _ _ _ _ (by simpa using fun e => hne e.symm)]; exact c1
 ·rw [World.cell?_setCell_far _ _ _ _ (by simpa using fun e => hne e.symm)]; exact c2
theorem asrt_nilF (w : World) : (Instr.typeAssert .nilIface 20 74 true).run Tryz.prog w = .ok (.tuple #[.pointer none, .bool false]) w := by kernel_rfl
theorem asrt_hitF (g : Nat) (w : World) : (Instr.typeAssert (.iface 74 (.pointer (some ⟨g, 0, none⟩))) 20 74 true).run Tryz.prog w = .ok (.tuple #[.pointer (some ⟨g, 0, none⟩), .bool true]) w := by kernel_rfl
/-- The deferred function, where nothing was given up. -/
theorem catch_idle (a b : Addr) (w : World) :
  CallsD Tryz.prog 60 #[.pointer (some a), .pointer (some b)] .returning w fun e u' w' => e = .returned (.tuple #[]) ∧ u' = .returning ∧ w' = w := by
 have ha := asrt_nilF w
 refine callsD_of_wpS Tryz.func60 rfl fun c₀ cs hu => ?_
 apply wpS_seq
 apply wpS_region
 simp [wpOpsS, go_sem, recoverD, hu, Tryz.ntmps60, Exit.thenS, ha]
 apply wpS_seq
 apply wpS_region
 simp [wpOpsS, go_sem, Exit.thenS]
 refine wpS_cond (t := false) (by simp [Act.eval, Array.replicate]) ?_
 simp only [Bool.false_eq_true, if_false]
 refine wpS_of_wp (wp_skip ?_)
 cases c₀
 simp_all [bodyPostS, results, Tryz.results60]
/-- The deferred function, where it was given up. -/
theorem catch_fault (a b g : Nat) (x y : Value) (w : World) (hx : w.cell? ⟨a, 0, none⟩ = some x) (hy : w.cell? ⟨b, 0, none⟩ = some y) (fx : w.frozen? ⟨a, 0, none⟩ = false) (fy : w.frozen? ⟨b, 0, none⟩ = false) (hab : ¬ a = b) :
  CallsD Tryz.prog 60 #[.pointer (some ⟨a, 0, none⟩), .pointer (some ⟨b, 0, none⟩)] (.panicking [{ v := .iface 74 (.pointer (some ⟨g, 0, none⟩)), recovered := false }]) w fun e u' w' => e = .returned (.tuple #[]) ∧ u' = .panicking [{ v := .iface 74 (.pointer (some ⟨g, 0, none⟩)), recovered := true }] ∧ w' = (w.setCell ⟨a, 0, none⟩ (.slice none 0 0)).setCell ⟨b, 0, none⟩ (.iface 74 (.pointer (some ⟨g, 0, none⟩))) := by
 have ha := asrt_hitF g w
 refine callsD_of_wpS Tryz.func60 rfl fun c₀ cs hu => ?_
 apply wpS_seq
 apply wpS_region
 simp [wpOpsS, go_sem, recoverD, hu, Tryz.ntmps60, Exit.thenS, ha]
 apply wpS_seq
 apply wpS_region
 simp [wpOpsS, go_sem, Exit.thenS]
 refine wpS_cond (t := true) (by simp [Act.eval, Array.replicate]) ?_
 simp only [if_true]
 apply wpS_region
 have hy' : (w.setCell ⟨a, 0, none⟩ (.slice none 0 0)).cell? ⟨b, 0, none⟩ = some y := by rw [World.cell?_setCell_far _ _ _ _ (by simpa using fun e => hab e)]; exact hy
 simp [wpOpsS, go_sem, hx, hy', fx, fy, bodyPostS, results, Tryz.results60, Array.replicate]
/-- What becomes of walked. -/
def Wd (W : World) (p : Pv) (r : Except (Int × Int) Kn) (e : Ending) (w' : World) : Prop := match r with
 | .ok k => ∃ hb, e = .returned (.tuple #[.slice (some ⟨hb, 0, none⟩) p.n p.n, .nilIface]) ∧ Hid (Shp w' hb p.n k ∧ Below W.heap.size W w')
 | .error (a, y) => ∃ g, e = .returned (.tuple #[.slice none 0 0, .iface 74 (.pointer (some ⟨g, 0, none⟩))]) ∧ Hid (Ft w'.heap.size w' (.iface 74 (.pointer (some ⟨g, 0, none⟩))) a y ∧ Below W.heap.size W w')
/-- The boxes of walked: the program, the results, the walk. -/
structure BxW (W : World) (b : Nat) (cs : List Value) : Prop where
 b0 : W.heap[b]? = some (.cells cs.toArray 27 (0, 0))
 b1 : W.heap[b + 1]? = some (.cells #[.slice none 0 0] 70 (0, 0))
 b2 : W.heap[b + 1 + 1]? = some (.cells #[.nilIface] 33 (0, 0))
theorem bxW_new {W W3 : World} {cs : List Value} (h : ((W.alloc (.cells cs.toArray 27)).alloc (.cells #[.slice none 0 0] 70)).alloc (.cells #[.nilIface] 33) = W3) : BxW W3 W.heap.size cs ∧ Below W.heap.size W W3 ∧ W3.heap.size = W.heap.size + 1 + 1 + 1 := by
 have e1 : (W.alloc (.cells cs.toArray 27)).heap.size = W.heap.size + 1 := by simp
 have e2 : ((W.alloc (.cells cs.toArray 27)).alloc (.cells #[.slice none 0 0] 70)).heap.size = W.heap.size + 1 + 1 := by simp
 refine ⟨⟨?_, ?_, ?_⟩, by rw [← h]; exact ((below_alloc1 W _).alloc (by simp) _).alloc (by simp; omega) _, by rw [← h]; simp⟩
 ·rw [← h]
  exact ((below_alloc1 _ _).block _ (by rw [e2]; omega)).trans (((below_alloc1 _ _).block _ (by rw [e1]; omega)).trans (alloc_atK _ _))
 ·rw [← h, ← e1]
  exact ((below_alloc1 _ _).block _ (by rw [e2, e1]; omega)).trans (alloc_atK _ _)
 ·rw [← h, ← e2]
  exact alloc_atK _ _
theorem BxW.kept {W W' : World} {b : Nat} {cs : List Value} (h : BxW W b cs) (hb : Below W.heap.size W W') : BxW W' b cs := ⟨(hb.block _ (block_lt h.b0)).trans h.b0, (hb.block _ (block_lt h.b1)).trans h.b1, (hb.block _ (block_lt h.b2)).trans h.b2⟩
theorem BxW.grown {W W' : World} {b q : Nat} {cs : List Value} (h : BxW W b cs) (hg : W.grownBy W' (some q)) (hq : b + 1 + 1 < q) : BxW W' b cs := ⟨(hg.block _ (block_lt h.b0) (by simp; omega)).trans h.b0, (hg.block _ (block_lt h.b1) (by simp; omega)).trans h.b1, (hg.block _ (block_lt h.b2) (by simp; omega)).trans h.b2⟩
/-- The end of walked where it was given up. -/
theorem walked_gave {W w5 : World} {p : Pv} {g : Nat} {cs : List Value} {a y : Int} (hx : BxW w5 W.heap.size cs) (hf : Ft w5.heap.size w5 (.iface 74 (.pointer (some ⟨g, 0, none⟩))) a y) (hB : Below W.heap.size W w5) (tmps : Array Value) (h1 : tmps[2]? = some (.pointer (some ⟨W.heap.size + 1, 0, none⟩))) (h2 : tmps[3]? = some (.pointer (some ⟨W.heap.size + 1 + 1, 0, none⟩))) :
  bodyPostD Tryz.prog Tryz.f28 (Wd W p (.error (a, y))) (.panic [{ v := .iface 74 (.pointer (some ⟨g, 0, none⟩)), recovered := false }]) { tmps := tmps, defers := [{ target := .fn (.func 60) #[.pointer (some ⟨W.heap.size + 1, 0, none⟩), .pointer (some ⟨W.heap.size + 1 + 1, 0, none⟩)], args := #[] }] } w5 := by
 have z1 := block_cell hx.b1 0
 have z2 := block_cell hx.b2 0
 simp at z1 z2
 refine leaves_cons (f := 60) (args := #[.pointer (some ⟨W.heap.size + 1, 0, none⟩), .pointer (some ⟨W.heap.size + 1 + 1, 0, none⟩)]) (by simp) (by simp [go_sem]) ?_
 refine (catch_fault _ _ g _ _ w5 z1 z2 (block_free hx.b1 0) (block_free hx.b2 0) (by omega)).mono ?_
 rintro e u' w6 ⟨rfl, rfl, hw6⟩
 have s1 := heap_setCell_same w5 (W.heap.size + 1) 0 _ _ (.slice none 0 0) hx.b1
 have k2 := ((grown_set w5 (W.heap.size + 1) 0 (.slice none 0 0)).block _ (block_lt hx.b2) (by simp)).trans hx.b2
 have s2 := heap_setCell_same _ (W.heap.size + 1 + 1) 0 _ _ (.iface 74 (.pointer (some ⟨g, 0, none⟩))) k2
 have k1 := ((grown_set (w5.setCell ⟨W.heap.size + 1, 0, none⟩ (.slice none 0 0)) (W.heap.size + 1 + 1) 0 (.iface 74 (.pointer (some ⟨g, 0, none⟩)))).block _ (block_lt s1) (by simp)).trans s1
 have d1 : w6.cell? ⟨W.heap.size + 1, 0, none⟩ = some (.slice none 0 0) := by rw [hw6, block_cell k1 0]; rfl
 have d2 : w6.cell? ⟨W.heap.size + 1 + 1, 0, none⟩ = some (.iface 74 (.pointer (some ⟨g, 0, none⟩))) := by rw [hw6, block_cell s2 0]; rfl
 have hF : Ft w6.heap.size w6 (.iface 74 (.pointer (some ⟨g, 0, none⟩))) a y := by
  rw [hw6]
  exact (hf.set hx.b1 (by simp) 0).set k2 (by simp) 0
 have hB6 : Below W.heap.size W w6 := by
  rw [hw6]
  exact (hB.setCell (p := ⟨W.heap.size + 1, 0, none⟩) (by simp) _).setCell (p := ⟨W.heap.size + 1 + 1, 0, none⟩) (by simp; omega) _
 exact ⟨.tuple #[.slice none 0 0, .iface 74 (.pointer (some ⟨g, 0, none⟩))], by simp [results, Tryz.results28, go_sem, h1, h2, d1, d2], g, rfl, hF, hB6⟩
end Go.Proofs.YtggpaljilpbmhaaGreatDoor
namespace Go.Proofs.YtggpaljilpbmhaaGreatDoor
open Go.RowKit

theorem sizeF_n {p : Pv} (h : sizeF p = none) : p.n ≤ 1024 ∧ p.ns ≤ 128 ∧ p.nc ≤ 256 := by
 unfold sizeF at h
 split at h
 ·cases h
 ·split at h
  ·cases h
  ·split at h
   ·cases h
   ·omega
set_option maxRecDepth 10000 in
set_option maxHeartbeats 6400000 in
theorem walkedC {W : World} {g : Pg} {p : Pv} (h : g.Ok p W.heap.size W) (hT : Tab W) :
  Calls Tryz.prog 28 #[.agg (g.cs p).toArray] W (Wd W p (verF p)) := by
 have hmf : ∀ (fn : Fn) (first cap : Array Value) (w : World), (Instr.makeFunc fn first cap).run Tryz.prog w = .ok (.func fn first cap) w := fun _ _ _ _ => rfl
 obtain ⟨W3, hW3⟩ : ∃ W3, ((W.alloc (.cells (g.cs p).toArray 27)).alloc (.cells #[.slice none 0 0] 70)).alloc (.cells #[.nilIface] 33) = W3 := ⟨_, rfl⟩
 have hX := bxW_new hW3
 obtain ⟨W4, hW4⟩ : ∃ W4, W3.alloc (.cells (g.cs p ++ [Value.slice none 0 0]).toArray 128) = W4 := ⟨_, rfl⟩
 have b34 : Below W3.heap.size W3 W4 := by rw [← hW4]; exact below_alloc1 W3 _
 have B4 := hide (hX.2.1.trans (b34.mono hX.2.1.size))
 have Q4 : Hid (W4.heap[W3.heap.size]? = some (.cells (g.cs p ++ [Value.slice none 0 0]).toArray 128 (0, 0))) := by rw [← hW4]; exact alloc_atK _ _
 have C4 : Hid (WC W.heap.size W4 W3.heap.size g p) := ⟨⟨_, Q4.out⟩, h.kept B4.out (Nat.le_refl _), hX.2.1.size, hT.below B4.out hT.z, hT.z, B4.out.size⟩
 have X4 := hide (hX.1.kept b34)
 obtain ⟨r, hr⟩ : ∃ r, verF p = r := ⟨_, rfl⟩
 rw [hr]
 have HR := hide hr
 have z0 := block_cell hX.1.b0 0
 have z1 := block_cell hX.1.b0 1
 have z2 := block_cell hX.1.b0 2
 have z3 := block_cell hX.1.b0 3
 have z4 := block_cell hX.1.b0 4
 have z5 := block_cell hX.1.b0 5
 have z6 := block_cell hX.1.b0 6
 have z7 := block_cell hX.1.b0 7
 have z8 := block_cell hX.1.b0 8
 have zl := block_lt hX.1.b0
 simp [Pg.cs] at z0 z1 z2 z3 z4 z5 z6 z7 z8
 have HS := hide hX.2.2
 have HW3 := hide hW3
 have HW4 := hide hW4
 clear h hT hX b34 hr hW3 hW4
 have HCS : Hid (g.cs p = [.slice g.ca p.nc g.cc, .slice g.sa p.ns g.sc, .int .i64 (p.en 0), .int .i64 (p.en 1), .int .i64 (p.en 2), .int .i64 (p.en 3), .int .i64 (p.en 4), .int .i64 (p.en 5), .slice g.ia p.n g.ic]) := rfl
 rw [HCS.out] at HW3 HW4 ⊢
 simp only [List.cons_append, List.nil_append] at HW4
 go_enter_defers Tryz.func28, Tryz.ntmps28
 go_upto_region 1 with fail
 rw [HW3.out]
 clear HW3
 go_upto_region 3 with fail
 rw [HW4.out]
 clear HW4 z0 z1 z2 z3 z4 z5 z6 z7 z8 zl
 go_wp2_with fail
 refine (checkSizesC C4.out).mono ?_
 intro e w5 hh
 cases h0 : sizeF p with
 | some y =>
  obtain ⟨a, y⟩ := y
  rw [h0] at hh
  obtain ⟨g', rfl, G⟩ := hh
  have hr : r = .error (a, y) := by rw [← HR.out]; unfold verF; rw [h0]; rfl
  subst hr
  have HD := hide (walked_gave (p := p) (X4.out.kept G.out.2) G.out.1 (B4.out.trans (G.out.2.mono B4.out.size)))
  go_wp2
  exact HD.out _ rfl rfl
 | none =>
 rw [h0] at hh
 obtain ⟨rfl, G5⟩ := hh
 have C5 := hide (C4.out.kept G5.out)
 have X5 := hide (X4.out.kept G5.out)
 have B5 := hide (B4.out.trans (G5.out.mono B4.out.size))
 have Q5 := hide ((G5.out.block _ (block_lt Q4.out)).trans Q4.out)
 go_wp2_with fail
 refine (checkSlotsC C5.out).mono ?_
 intro e w6 hh
 cases h1 : slotF p with
 | some y =>
  obtain ⟨a, y⟩ := y
  rw [h1] at hh
  obtain ⟨g', rfl, G⟩ := hh
  have hr : r = .error (a, y) := by rw [← HR.out]; unfold verF; rw [h0, h1]; rfl
  subst hr
  have HD := hide (walked_gave (p := p) (X5.out.kept G.out.2) G.out.1 (B5.out.trans (G.out.2.mono B5.out.size)))
  go_wp2
  exact HD.out _ rfl rfl
 | none =>
 rw [h1] at hh
 obtain ⟨rfl, G6⟩ := hh
 have C6 := hide (C5.out.kept G6.out)
 have X6 := hide (X5.out.kept G6.out)
 have B6 := hide (B5.out.trans (G6.out.mono B5.out.size))
 have Q6 := hide ((G6.out.block _ (block_lt Q5.out)).trans Q5.out)
 go_wp2_with fail
 refine (checkEntriesC C6.out).mono ?_
 intro e w7 hh
 cases h2 : entF p with
 | some y =>
  obtain ⟨a, y⟩ := y
  rw [h2] at hh
  obtain ⟨g', rfl, G⟩ := hh
  have hr : r = .error (a, y) := by rw [← HR.out]; unfold verF; rw [h0, h1, h2]; rfl
  subst hr
  have HD := hide (walked_gave (p := p) (X6.out.kept G.out.2) G.out.1 (B6.out.trans (G.out.2.mono B6.out.size)))
  go_wp2
  exact HD.out _ rfl rfl
 | none =>
 rw [h2] at hh
 obtain ⟨rfl, G7⟩ := hh
 have C7 := hide (C6.out.kept G7.out)
 have X7 := hide (X6.out.kept G7.out)
 have B7 := hide (B6.out.trans (G7.out.mono B6.out.size))
 have Q7 := hide ((G7.out.block _ (block_lt Q6.out)).trans Q6.out)
 go_wp2_with fail
 refine (checkInsC C7.out).mono ?_
 intro e w8 hh
 cases h3 : insF p with
 | some y =>
  obtain ⟨a, y⟩ := y
  rw [h3] at hh
  obtain ⟨g', rfl, G⟩ := hh
  have hr : r = .error (a, y) := by rw [← HR.out]; unfold verF; rw [h0, h1, h2, h3]; rfl
  subst hr
  have HD := hide (walked_gave (p := p) (X7.out.kept G.out.2) G.out.1 (B7.out.trans (G.out.2.mono B7.out.size)))
  go_wp2
  exact HD.out _ rfl rfl
 | none =>
 rw [h3] at hh
 obtain ⟨rfl, G8⟩ := hh
 have C8 := hide (C7.out.kept G8.out)
 have X8 := hide (X7.out.kept G8.out)
 have B8 := hide (B7.out.trans (G8.out.mono B7.out.size))
 have Q8 := hide ((G8.out.block _ (block_lt Q7.out)).trans Q7.out)
 go_wp2_with fail
 have hz := sizeF_n h0
 have HGT := hide (goThroughC C8.out Q8.out hz.1 h2 h3)
 refine HGT.out.mono ?_
 intro e w9 hh
 have hr : r = goF p p.n := by rw [← HR.out]; unfold verF; rw [h0, h1, h2, h3]; rfl
 cases h4 : goF p p.n with
 | error y =>
  obtain ⟨a, y⟩ := y
  rw [h4] at hh hr
  obtain ⟨g', rfl, G⟩ := hh
  subst hr
  have HD := hide (walked_gave (p := p) (X8.out.grown G.out.2 (by rw [HS.out]; omega)) G.out.1 (B8.out.trans (below_of_grown G.out.2 (by rw [HS.out]; omega) B8.out.size)))
  go_wp2
  exact HD.out _ rfl rfl
 | ok k =>
  rw [h4] at hh hr
  obtain ⟨rfl, G⟩ := hh
  subst hr
  obtain ⟨hb, hk, hg, hlt⟩ := G.out
  have hq : W.heap.size + 1 + 1 < W3.heap.size := by rw [HS.out]; omega
  have X9 := X8.out.grown hg hq
  have B9 := B8.out.trans (below_of_grown hg (by omega) B8.out.size)
  have hB8 := B8.out.size
  have hS8 := block_lt X8.out.b2
  obtain ⟨_, _, _, c9, ql⟩ := hk.cells
  have z1 := block_cell X9.b1 0
  have z2 := block_cell X9.b2 0
  have f1 := block_free X9.b1 0
  have f2 := block_free X9.b2 0
  have l1 := block_lt X9.b1
  have l2 := block_lt X9.b2
  simp at z1 z2
  have HD : Hid (∀ W10, (w9.setCell ⟨W.heap.size + 1, 0, none⟩ (.slice (some ⟨hb, 0, none⟩) p.n p.n)).setCell ⟨W.heap.size + 1 + 1, 0, none⟩ .nilIface = W10 → Shp W10 hb p.n k ∧ Below W.heap.size W W10 ∧ W10.cell? ⟨W.heap.size + 1, 0, none⟩ = some (.slice (some ⟨hb, 0, none⟩) p.n p.n) ∧ W10.cell? ⟨W.heap.size + 1 + 1, 0, none⟩ = some .nilIface) := by
   intro W10 hW
   have s1 := heap_setCell_same w9 (W.heap.size + 1) 0 _ _ (.slice (some ⟨hb, 0, none⟩) p.n p.n) X9.b1
   have k2 := ((grown_set w9 (W.heap.size + 1) 0 (.slice (some ⟨hb, 0, none⟩) p.n p.n)).block _ (block_lt X9.b2) (by simp)).trans X9.b2
   have s2 := heap_setCell_same _ (W.heap.size + 1 + 1) 0 _ _ .nilIface k2
   have k1 := ((grown_set (w9.setCell ⟨W.heap.size + 1, 0, none⟩ (.slice (some ⟨hb, 0, none⟩) p.n p.n)) (W.heap.size + 1 + 1) 0 .nilIface).block _ (block_lt s1) (by simp)).trans s1
   obtain ⟨cs, r1, r2⟩ := hk.row
   have n1 : hb ≠ W.heap.size + 1 := by omega
   have n2 : hb ≠ W.heap.size + 1 + 1 := by omega
   have r3 := ((grown_set w9 (W.heap.size + 1) 0 (.slice (some ⟨hb, 0, none⟩) p.n p.n)).block _ (block_lt r1) (by simpa using n1)).trans r1
   have r4 := ((grown_set (w9.setCell ⟨W.heap.size + 1, 0, none⟩ (.slice (some ⟨hb, 0, none⟩) p.n p.n)) (W.heap.size + 1 + 1) 0 .nilIface).block _ (block_lt r3) (by simpa using n2)).trans r3
   rw [hW] at k1 s2 r4
   refine ⟨⟨cs, r4, r2⟩, ?_, ?_, ?_⟩
   ·rw [← hW]
    exact (B9.setCell (p := ⟨W.heap.size + 1, 0, none⟩) (by simp) _).setCell (p := ⟨W.heap.size + 1 + 1, 0, none⟩) (by simp; omega) _
   ·rw [block_cell k1 0]; rfl
   ·rw [block_cell s2 0]; rfl
  clear hk hg X9 B9 G X8 B8
  go_upto_region 8 with fail
  go_wp2
  obtain ⟨W10, hW10⟩ : ∃ W10, (w9.setCell ⟨W.heap.size + 1, 0, none⟩ (.slice (some ⟨hb, 0, none⟩) p.n p.n)).setCell ⟨W.heap.size + 1 + 1, 0, none⟩ .nilIface = W10 := ⟨_, rfl⟩
  obtain ⟨hsh, hB10, d1, d2⟩ := HD.out W10 hW10
  rw [hW10]
  refine leaves_cons (f := 60) (args := #[.pointer (some ⟨W.heap.size + 1, 0, none⟩), .pointer (some ⟨W.heap.size + 1 + 1, 0, none⟩)]) (by simp) (by simp [go_sem]) ?_
  refine (catch_idle _ _ W10).mono ?_
  rintro e u' w11 ⟨rfl, rfl, hw11⟩
  rw [hw11]
  exact ⟨.tuple #[.slice (some ⟨hb, 0, none⟩) p.n p.n, .nilIface], by simp [results, Tryz.results28, go_sem, d1, d2], hb, rfl, hsh, hB10⟩
end Go.Proofs.YtggpaljilpbmhaaGreatDoor
