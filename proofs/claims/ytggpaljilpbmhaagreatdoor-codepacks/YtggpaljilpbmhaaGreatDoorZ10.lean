import Derived.Test.YtggpaljilpbmhaaGreatDoorZ09
namespace Go.Proofs.YtggpaljilpbmhaaGreatDoor
open Go.RowKit

/-- The lengths of what is known. -/
def KB (k : Kn) : Prop := ∀ j, (kin (k j)).length ≤ 64
theorem KB.upd {k : Kn} (h : KB k) (t : Nat) {l : List Bool} (hl : l.length ≤ 64) : KB (updK k t l) := by
 intro j
 unfold updK
 by_cases e : j = t
 ·rw [if_pos e]; exact hl
 ·rw [if_neg e]; exact h j
theorem KB.hand {k k' : Kn} (h : KB k) {p : Pv} {f d : Nat} {l : List Bool} (hl : l.length ≤ 64) (e : handF p k f d l = .ok k') : KB k' := by
 unfold handF at e
 split at e
 ·cases e
 ·split at e
  ·cases e
  ·split at e
   ·cases e; exact h
   ·split at e
    ·cases e
    ·cases e; exact h.upd d hl
theorem bindK_ok {r : Except Int Kn} {f : Kn → Except Int Kn} {k : Kn} (h : bindK r f = .ok k) : ∃ k', r = .ok k' ∧ f k' = .ok k := by
 cases r with
 | ok k' => exact ⟨k', rfl, h⟩
 | error y => cases h
theorem KB.visit {k k' : Kn} (h : KB k) {p : Pv} {i : Nat} (e : visitF p k i = .ok k') : KB k' := by
 unfold visitF at e
 split at e
 ·cases e
 ·split at e
  ·cases e
  ·split at e
   ·cases e
   ·rename_i h1 h2 h3
    have hl : ((kin (k i)).take ((kin (k i)).length - (colB p (fTakes (p.op i).toNat) (p.arg i)).length) ++ colB p (fLays (p.op i).toNat) (p.arg i)).length ≤ 64 := by
     simp only [List.length_append, List.length_take]
     omega
    split at e
    ·cases e; exact h
    ·split at e
     ·exact h.hand hl e
     ·split at e
      ·obtain ⟨k1, e1, e2⟩ := bindK_ok e
       exact (h.hand (h i) e1).hand hl e2
      ·split at e
       ·obtain ⟨k1, e1, e2⟩ := bindK_ok e
        exact (h.hand hl e1).hand hl e2
       ·exact h.hand hl e
/-- The entries are known from the start. -/
def entK (p : Pv) : Nat → Kn
 | 0 => fun _ => none
 | e + 1 => if 0 ≤ p.en e then updK (entK p e) (p.en e).toNat [] else entK p e
theorem entK_nil (p : Pv) (e j : Nat) : kin (entK p e j) = [] := by
 induction e with
 | zero => rfl
 | succ e ih =>
  unfold entK
  split
  ·unfold updK
   split
   ·rfl
   ·exact ih
  ·exact ih
theorem entK_kb (p : Pv) (e : Nat) : KB (entK p e) := fun j => by rw [entK_nil]; simp
/-- The first j places gone through. -/
def goF (p : Pv) : Nat → Except (Int × Int) Kn
 | 0 => .ok (entK p 6)
 | j + 1 => match goF p j with
  | .error y => .error y
  | .ok k => if (k j).isSome = true then (match visitF p k j with
   | .ok k' => .ok k'
   | .error y => .error ((j : Int), y)) else .ok k
theorem goF_stays {p : Pv} {j n : Nat} {y : Int × Int} (hj : j ≤ n) (h : goF p j = .error y) : goF p n = .error y := by
 induction n with
 | zero =>
  obtain rfl : j = 0 := by omega
  exact h
 | succ n ih =>
  by_cases e : j = n + 1
  ·subst e; exact h
  ·unfold goF; rw [ih (by omega)]
theorem goF_kb {p : Pv} : ∀ {j : Nat} {k : Kn}, goF p j = .ok k → KB k
 | 0, k, h => by cases h; exact entK_kb p 6
 | j + 1, k, h => by
  unfold goF at h
  split at h
  ·cases h
  ·rename_i k0 e0
   have hb := goF_kb e0
   split at h
   ·split at h
    ·rename_i k1 e1
     cases h
     exact hb.visit e1
    ·cases h
   ·cases h; exact hb
/-- What becomes of the going through. -/
def Gt (lim : Nat) (W : World) (q : Nat) (g : Pg) (p : Pv) (r : Except (Int × Int) Kn) (e : Ending) (w' : World) : Prop := match r with
 | .ok k' => e = .returned (.tuple #[]) ∧ Hid (∃ hb, WK lim w' q hb g p k' ∧ W.grownBy w' (some q) ∧ W.heap.size ≤ hb)
 | .error (a, y) => ∃ g, e = .panicked [{ v := .iface 74 (.pointer (some ⟨g, 0, none⟩)), recovered := false }] ∧ Hid (Ft w'.heap.size w' (.iface 74 (.pointer (some ⟨g, 0, none⟩))) a y ∧ W.grownBy w' (some q))
theorem made2 (n j : Nat) (hj : j < n) (a b : Value) : (madeCells #[a, b] (n * 2)).toList[j * 2]? = some a ∧ (madeCells #[a, b] (n * 2)).toList[j * 2 + 1]? = some b := by
 constructor
 ·have h1 : j * 2 < n * 2 := by omega
  simp [madeCells, h1]
 ·have h1 : j * 2 + 1 < n * 2 := by omega
  have h2 : (j * 2 + 1) % 2 = 1 := by omega
  simp [madeCells, h1, h2]
theorem Tryz.infoSh : (Tryz.prog.info? 78).map (fun i => (i.zero, i.size, i.bytes)) = some (some (.agg #[.bool false, .string ⟨#[]⟩]), 2, 24) := by kernel_rfl
theorem InOk.of {p : Pv} (h : insF p = none) {i : Nat} (hi : i < p.n) : InOk p i := by
 have key : ∀ n, firstBad (insB p) n = none → ∀ j, j < n → insB p j = none := by
  intro n
  induction n with
  | zero => intro _ j hj; omega
  | succ n ih =>
   intro h j hj
   unfold firstBad at h
   have h1 : firstBad (insB p) n = none := by
    cases e : firstBad (insB p) n with
    | none => rfl
    | some r => rw [e] at h; cases h
   rw [h1] at h
   by_cases e : j = n
   ·subst e; simpa using h
   ·exact ih h1 j (by omega)
 have := key p.n h i hi
 unfold insB at this
 split at this
 ·cases this
 ·rename_i h1
  split at this
  ·cases this
  ·rename_i h2
   exact ⟨hi, by simpa using h1, by simpa using h2⟩
theorem ent_of {p : Pv} (h : entF p = none) {e : Nat} (he : e < 6) : p.en e = -1 ∨ isPl (p.en e) p.n = true := by
 have key : ∀ n, firstBad (entB p) n = none → ∀ j, j < n → entB p j = none := by
  intro n
  induction n with
  | zero => intro _ j hj; omega
  | succ n ih =>
   intro h j hj
   unfold firstBad at h
   have h1 : firstBad (entB p) n = none := by
    cases e : firstBad (entB p) n with
    | none => rfl
    | some r => rw [e] at h; cases h
   rw [h1] at h
   by_cases e : j = n
   ·subst e; simpa using h
   ·exact ih h1 j (by omega)
 have := key 6 h e he
 unfold entB at this
 split at this
 ·cases this
 ·rename_i h1
  by_cases e1 : p.en e = -1
  ·exact .inl e1
  ·right
   cases e2 : isPl (p.en e) p.n
   ·exact absurd ⟨e1, e2⟩ h1
   ·rfl
end Go.Proofs.YtggpaljilpbmhaaGreatDoor
namespace Go.Proofs.YtggpaljilpbmhaaGreatDoor
open Go.RowKit

theorem grown_new {A B C : World} {r : Option Nat} {hb : Nat} (h1 : A.grownBy B r) (h2 : B.grownBy C (some hb)) (hn : A.heap.size ≤ hb) : A.grownBy C r :=
 ⟨h2.os.trans h1.os, h2.tape.trans h1.tape, h2.output.trans h1.output, Nat.le_trans h1.size h2.size, fun k hk hne => (h2.block k (Nat.lt_of_lt_of_le hk h1.size) (by simp; omega)).trans (h1.block k hk hne)⟩
theorem WK.know {lim : Nat} {W : World} {q hb : Nat} {g : Pg} {p : Pv} {k : Kn} (h : WK lim W q hb g p k) (t : Nat) (ht : t < p.n) (hz : kin (k t) = []) : WK lim (W.setCell ⟨hb, t * 2, none⟩ (.bool true)) q hb g p (updK k t []) ∧ W.grownBy (W.setCell ⟨hb, t * 2, none⟩ (.bool true)) (some hb) := by
 obtain ⟨cs, h1, h2⟩ := h.row
 have s1 := heap_setCell_same W hb (t * 2) _ _ (.bool true) h1
 have G := grown_set W hb (t * 2) (.bool true)
 have hne : q ≠ hb := fun e => by have := h.blk; rw [e, h1] at this; simp at this
 have hB := below_of_grown G h.lh h.le
 refine ⟨⟨(G.block _ (block_lt h.blk) (by simpa using hne)).trans h.blk, ⟨_, s1, fun j hj => ?_⟩, h.ok.kept hB (Nat.le_refl _), h.lq, h.lh, h.tab.below hB h.l2, h.l2⟩, G⟩
 obtain ⟨a1, a2⟩ := h2 j hj
 have b1 := (Array.getElem?_eq_some_iff.1 (h2 t ht).1).1
 unfold updK
 by_cases e : j = t
 ·subst e
  rw [if_pos rfl]
  constructor
  ·rw [Array.getElem?_setIfInBounds_self_of_lt b1]; rfl
  ·rw [Array.getElem?_setIfInBounds_ne (by omega), a2, hz]; rfl
 ·rw [if_neg e]
  constructor
  ·rw [Array.getElem?_setIfInBounds_ne (by omega)]; exact a1
  ·rw [Array.getElem?_setIfInBounds_ne (by omega)]; exact a2
theorem WK.born {lim : Nat} {W w0 : World} {q : Nat} {g : Pg} {p : Pv} (h : WC lim W q g p) (hx : W.heap[q]? = some (.cells (g.cs p ++ [Value.slice none 0 0]).toArray 128 (0, 0)))
  (ho : w0.ownsRow W.heap.size 78 2 (.slice (some ⟨W.heap.size, 0, none⟩) p.n p.n) p.n (madeCells #[.bool false, .string ⟨#[]⟩] (p.n * 2)).toList) (hg : W.grownBy w0 none) :
  WK lim (w0.setCell ⟨q, 9, none⟩ (.slice (some ⟨W.heap.size, 0, none⟩) p.n p.n)) q W.heap.size g p (entK p 0) ∧ W.grownBy (w0.setCell ⟨q, 9, none⟩ (.slice (some ⟨W.heap.size, 0, none⟩) p.n p.n)) (some q) := by
 have hb0 : Below W.heap.size W w0 := ⟨hg.os, hg.tape, hg.output, hg.size, fun k hk => hg.block k hk (by simp)⟩
 have h0 := h.kept hb0
 have hx0 := (hb0.block _ (block_lt hx)).trans hx
 have G := grown_set w0 q 9 (.slice (some ⟨W.heap.size, 0, none⟩) p.n p.n)
 have s1 := heap_setCell_same w0 q 9 _ _ (.slice (some ⟨W.heap.size, 0, none⟩) p.n p.n) hx0
 have hB : Below lim w0 (w0.setCell ⟨q, 9, none⟩ (.slice (some ⟨W.heap.size, 0, none⟩) p.n p.n)) := ⟨G.os, G.tape, G.output, G.size, fun k hk => G.block k (by have := h0.le; omega) (by have := h0.lq; simp; omega)⟩
 have hrow : ∃ cs, w0.heap[W.heap.size]? = some (.cells cs 78 (0, 0)) ∧ ∀ j, j < p.n → cs[j * 2]? = some (.bool false) ∧ cs[j * 2 + 1]? = some (.string ⟨#[]⟩) := by
  rcases ho.2 with ⟨e, _⟩ | ⟨g', cap, cur, e, _, hg', hnc, _, hsz, htk⟩
  ·cases e
  ·cases e
   refine ⟨cur, hg', fun j hj => ?_⟩
   obtain ⟨m1, m2⟩ := made2 p.n j hj (.bool false) (.string ⟨#[]⟩)
   rw [← htk] at m1 m2
   rw [List.getElem?_take, if_pos (by omega)] at m1 m2
   constructor
   ·simpa using m1
   ·simpa using m2
 obtain ⟨cs, r1, r2⟩ := hrow
 have hne : W.heap.size ≠ q := by have := block_lt hx; omega
 refine ⟨⟨?_, ⟨cs, (G.block _ (block_lt r1) (by simpa using hne)).trans r1, fun j hj => r2 j hj⟩, h0.ok.kept hB (Nat.le_refl _), h0.lq, h.le, h0.tab.below hB h0.l2, h0.l2⟩, grown_tr (grown_of_below hb0 _) G⟩
 rw [s1]
 rfl
theorem WK.ents {lim : Nat} {W : World} {q hb : Nat} {g : Pg} {p : Pv} {k : Kn} (h : WK lim W q hb g p k) : W.cell? ⟨q, 2, none⟩ = some (.int .i64 (p.en 0)) ∧ W.cell? ⟨q, 3, none⟩ = some (.int .i64 (p.en 1)) ∧ W.cell? ⟨q, 4, none⟩ = some (.int .i64 (p.en 2)) ∧ W.cell? ⟨q, 5, none⟩ = some (.int .i64 (p.en 3)) ∧ W.cell? ⟨q, 6, none⟩ = some (.int .i64 (p.en 4)) ∧ W.cell? ⟨q, 7, none⟩ = some (.int .i64 (p.en 5)) :=
 ⟨block_cell h.blk 2, block_cell h.blk 3, block_cell h.blk 4, block_cell h.blk 5, block_cell h.blk 6, block_cell h.blk 7⟩
theorem goF_err {p : Pv} {j n : Nat} {k : Kn} {y : Int} (hj : j < n) (h : goF p j = .ok k) (hk : (k j).isSome = true) (hv : visitF p k j = .error y) : goF p n = .error ((j : Int), y) := by
 refine goF_stays (j := j + 1) hj ?_
 unfold goF
 rw [h]
 simp only [hk, if_true, hv]
theorem goF_ok {p : Pv} {j : Nat} {k k' : Kn} (h : goF p j = .ok k) (hk : (k j).isSome = true) (hv : visitF p k j = .ok k') : goF p (j + 1) = .ok k' := by
 unfold goF
 rw [h]
 simp only [hk, if_true, hv]
theorem goF_skip {p : Pv} {j : Nat} {k : Kn} (h : goF p j = .ok k) (hk : (k j).isSome = false) : goF p (j + 1) = .ok k := by
 unfold goF
 rw [h]
 simp [hk]
set_option maxRecDepth 10000 in
set_option maxHeartbeats 6400000 in
theorem goThroughC {lim : Nat} {W : World} {q : Nat} {g : Pg} {p : Pv} (h : WC lim W q g p) (hx : W.heap[q]? = some (.cells (g.cs p ++ [Value.slice none 0 0]).toArray 128 (0, 0))) (hn : p.n ≤ 1024) (hE : entF p = none) (hI : insF p = none) :
  Calls Tryz.prog 65 #[.pointer (some ⟨q, 0, none⟩)] W (Gt lim W q g p (goF p p.n)) := by
 obtain ⟨i0, hi, hz0, hz1, hz2⟩ := info_parts Tryz.infoSh
 have HZ0 := hide hz0
 clear hz0
 obtain ⟨c0, c1, c8, ql⟩ := h.cells
 have c9 : W.cell? ⟨q, 9, none⟩ = some (.slice none 0 0) := block_cell hx 9
 have f9 := block_free hx 9
 obtain ⟨r, hr⟩ : ∃ r, goF p p.n = r := ⟨_, rfl⟩
 rw [hr]
 have HR := hide hr
 have HE : Hid (∀ e, e < 6 → p.en e = -1 ∨ isPl (p.en e) p.n = true) := fun e he => ent_of hE he
 have HI : Hid (∀ i, i < p.n → InOk p i) := fun i hi => InOk.of hI hi
 have HBorn : Hid (∀ w0, w0.ownsRow W.heap.size 78 2 (.slice (some ⟨W.heap.size, 0, none⟩) p.n p.n) p.n (madeCells #[.bool false, .string ⟨#[]⟩] (p.n * 2)).toList → W.grownBy w0 none → WK lim (w0.setCell ⟨q, 9, none⟩ (.slice (some ⟨W.heap.size, 0, none⟩) p.n p.n)) q W.heap.size g p (entK p 0) ∧ W.grownBy (w0.setCell ⟨q, 9, none⟩ (.slice (some ⟨W.heap.size, 0, none⟩) p.n p.n)) (some q)) := fun w0 h1 h2 => WK.born h hx h1 h2
 have HX := hide hx
 clear h hx hE hI hr
 go_enter Tryz.func65, Tryz.ntmps65
 go_upto_region 1 with (at_make; refine wpList_make_full _ rfl _ _ 70 rfl W.heap.size 78 i0 _ 2 Tryz.underlying70 hi HZ0.out hz1 .i64 .i64 _ _ p.n rfl rfl rfl rfl (by rw [hz2]; omega) (by unfold maxLen; omega) (Nat.le_refl _) ?_; intro w0 hown0 hgrow0; have HO0 := hide hown0; have HG0 := hide hgrow0; have d9 := HG0.out.cell c9 (by simp); have e9 : w0.frozen? ⟨q, 9, none⟩ = false := (block_free ((HG0.out.block _ ql (by simp)).trans HX.out) 9); have dl := Nat.lt_of_lt_of_le ql HG0.out.size; clear hown0 hgrow0 c0 c1 c8 c9 f9)
 have hB := HBorn.out w0 HO0.out HG0.out
 obtain ⟨W5, hW5⟩ : ∃ W5, w0.setCell ⟨q, 9, none⟩ (.slice (some ⟨W.heap.size, 0, none⟩) p.n p.n) = W5 := ⟨_, rfl⟩
 rw [hW5] at hB ⊢
 have HK5 := hide hB.1
 have HG5 := hide hB.2
 obtain ⟨e0, e1, e2, e3, e4, e5⟩ := HK5.out.ents
 have ql5 := HK5.out.cells.2.2.2.2
 clear hB hW5 HBorn HX HO0 HG0 d9 e9 dl ql
 have HWS : Hid (W.heap.size ≤ W.heap.size) := Nat.le_refl _
 obtain ⟨hb, hhb⟩ : ∃ hb, W.heap.size = hb := ⟨_, rfl⟩
 rw [hhb] at HK5 ⊢
 have HWS : Hid (W.heap.size ≤ hb) := Nat.le_of_eq hhb
 clear hhb
 go_wp2
 clear e0 e1 e2 e3 e4 e5 ql5
 go_loopw [21] (fun i wr => ∃ e : Nat, e ≤ 6 ∧ i = .int .i64 (e : Nat) ∧ Hid (WK lim wr q hb g p (entK p e) ∧ W5.grownBy wr (some hb))) (fun i _ => 6 - (intOf i).toNat)
 case atStart => exact ⟨0, by omega, rfl, HK5.out, ⟨rfl, rfl, rfl, Nat.le_refl _, fun _ _ _ => rfl⟩⟩
 case round =>
  obtain ⟨e, he6, rfl, HV⟩ := hrel
  have HK := hide HV.out.1
  have HG := hide HV.out.2
  clear HV HK5
  by_cases hlt : e < 6
  ·have h6 : e = 0 ∨ e = 1 ∨ e = 2 ∨ e = 3 ∨ e = 4 ∨ e = 5 := by omega
   rcases h6 with rfl | rfl | rfl | rfl | rfl | rfl
   ·have hix := idx6_0 (p.en 0) (p.en 1) (p.en 2) (p.en 3) (p.en 4) (p.en 5)
    have HU : Hid (entK p (0 + 1) = if 0 ≤ p.en 0 then updK (entK p 0) (p.en 0).toNat [] else entK p 0) := rfl
    have he := HE.out 0 (by omega)
    generalize p.en 0 = s at *
    by_cases h0 : 0 ≤ s
    ·obtain ⟨t, rfl⟩ := Int.eq_ofNat_of_zero_le h0
     have ht : t < p.n := by
      rcases he with he | he
      ·omega
      ·have := (isPl_nat he).2
       simpa using this
     obtain ⟨s0, s1, f0, f1, sl⟩ := HK.out.shape t ht
     obtain ⟨_, _, _, c9, ql⟩ := HK.out.cells
     have HKn := hide (HK.out.know t ht (entK_nil p _ t))
     rw [if_pos (by omega)] at HU
     simp only [Int.toNat_natCast] at HU
     clear he h0
     go_wp2
     go_roundw
     case rel => exact ⟨1, by omega, by go_num, by rw [HU.out]; exact HKn.out.1, grown_tr HG.out HKn.out.2⟩
     case measure => simp [intOf]
    ·rw [if_neg h0] at HU
     have h0' : (decide (0 ≤ s)) = false := decide_eq_false h0
     go_wp2
     go_roundw
     case rel => exact ⟨1, by omega, by go_num, by rw [HU.out]; exact HK.out, HG.out⟩
     case measure => simp [intOf]
   ·have hix := idx6_1 (p.en 0) (p.en 1) (p.en 2) (p.en 3) (p.en 4) (p.en 5)
    have HU : Hid (entK p (1 + 1) = if 0 ≤ p.en 1 then updK (entK p 1) (p.en 1).toNat [] else entK p 1) := rfl
    have he := HE.out 1 (by omega)
    generalize p.en 1 = s at *
    by_cases h0 : 0 ≤ s
    ·obtain ⟨t, rfl⟩ := Int.eq_ofNat_of_zero_le h0
     have ht : t < p.n := by
      rcases he with he | he
      ·omega
      ·have := (isPl_nat he).2
       simpa using this
     obtain ⟨s0, s1, f0, f1, sl⟩ := HK.out.shape t ht
     obtain ⟨_, _, _, c9, ql⟩ := HK.out.cells
     have HKn := hide (HK.out.know t ht (entK_nil p _ t))
     rw [if_pos (by omega)] at HU
     simp only [Int.toNat_natCast] at HU
     clear he h0
     go_wp2
     go_roundw
     case rel => exact ⟨2, by omega, by go_num, by rw [HU.out]; exact HKn.out.1, grown_tr HG.out HKn.out.2⟩
     case measure => simp [intOf]
    ·rw [if_neg h0] at HU
     have h0' : (decide (0 ≤ s)) = false := decide_eq_false h0
     go_wp2
     go_roundw
     case rel => exact ⟨2, by omega, by go_num, by rw [HU.out]; exact HK.out, HG.out⟩
     case measure => simp [intOf]
   ·have hix := idx6_2 (p.en 0) (p.en 1) (p.en 2) (p.en 3) (p.en 4) (p.en 5)
    have HU : Hid (entK p (2 + 1) = if 0 ≤ p.en 2 then updK (entK p 2) (p.en 2).toNat [] else entK p 2) := rfl
    have he := HE.out 2 (by omega)
    generalize p.en 2 = s at *
    by_cases h0 : 0 ≤ s
    ·obtain ⟨t, rfl⟩ := Int.eq_ofNat_of_zero_le h0
     have ht : t < p.n := by
      rcases he with he | he
      ·omega
      ·have := (isPl_nat he).2
       simpa using this
     obtain ⟨s0, s1, f0, f1, sl⟩ := HK.out.shape t ht
     obtain ⟨_, _, _, c9, ql⟩ := HK.out.cells
     have HKn := hide (HK.out.know t ht (entK_nil p _ t))
     rw [if_pos (by omega)] at HU
     simp only [Int.toNat_natCast] at HU
     clear he h0
     go_wp2
     go_roundw
     case rel => exact ⟨3, by omega, by go_num, by rw [HU.out]; exact HKn.out.1, grown_tr HG.out HKn.out.2⟩
     case measure => simp [intOf]
    ·rw [if_neg h0] at HU
     have h0' : (decide (0 ≤ s)) = false := decide_eq_false h0
     go_wp2
     go_roundw
     case rel => exact ⟨3, by omega, by go_num, by rw [HU.out]; exact HK.out, HG.out⟩
     case measure => simp [intOf]
   ·have hix := idx6_3 (p.en 0) (p.en 1) (p.en 2) (p.en 3) (p.en 4) (p.en 5)
    have HU : Hid (entK p (3 + 1) = if 0 ≤ p.en 3 then updK (entK p 3) (p.en 3).toNat [] else entK p 3) := rfl
    have he := HE.out 3 (by omega)
    generalize p.en 3 = s at *
    by_cases h0 : 0 ≤ s
    ·obtain ⟨t, rfl⟩ := Int.eq_ofNat_of_zero_le h0
     have ht : t < p.n := by
      rcases he with he | he
      ·omega
      ·have := (isPl_nat he).2
       simpa using this
     obtain ⟨s0, s1, f0, f1, sl⟩ := HK.out.shape t ht
     obtain ⟨_, _, _, c9, ql⟩ := HK.out.cells
     have HKn := hide (HK.out.know t ht (entK_nil p _ t))
     rw [if_pos (by omega)] at HU
     simp only [Int.toNat_natCast] at HU
     clear he h0
     go_wp2
     go_roundw
     case rel => exact ⟨4, by omega, by go_num, by rw [HU.out]; exact HKn.out.1, grown_tr HG.out HKn.out.2⟩
     case measure => simp [intOf]
    ·rw [if_neg h0] at HU
     have h0' : (decide (0 ≤ s)) = false := decide_eq_false h0
     go_wp2
     go_roundw
     case rel => exact ⟨4, by omega, by go_num, by rw [HU.out]; exact HK.out, HG.out⟩
     case measure => simp [intOf]
   ·have hix := idx6_4 (p.en 0) (p.en 1) (p.en 2) (p.en 3) (p.en 4) (p.en 5)
    have HU : Hid (entK p (4 + 1) = if 0 ≤ p.en 4 then updK (entK p 4) (p.en 4).toNat [] else entK p 4) := rfl
    have he := HE.out 4 (by omega)
    generalize p.en 4 = s at *
    by_cases h0 : 0 ≤ s
    ·obtain ⟨t, rfl⟩ := Int.eq_ofNat_of_zero_le h0
     have ht : t < p.n := by
      rcases he with he | he
      ·omega
      ·have := (isPl_nat he).2
       simpa using this
     obtain ⟨s0, s1, f0, f1, sl⟩ := HK.out.shape t ht
     obtain ⟨_, _, _, c9, ql⟩ := HK.out.cells
     have HKn := hide (HK.out.know t ht (entK_nil p _ t))
     rw [if_pos (by omega)] at HU
     simp only [Int.toNat_natCast] at HU
     clear he h0
     go_wp2
     go_roundw
     case rel => exact ⟨5, by omega, by go_num, by rw [HU.out]; exact HKn.out.1, grown_tr HG.out HKn.out.2⟩
     case measure => simp [intOf]
    ·rw [if_neg h0] at HU
     have h0' : (decide (0 ≤ s)) = false := decide_eq_false h0
     go_wp2
     go_roundw
     case rel => exact ⟨5, by omega, by go_num, by rw [HU.out]; exact HK.out, HG.out⟩
     case measure => simp [intOf]
   ·have hix := idx6_5 (p.en 0) (p.en 1) (p.en 2) (p.en 3) (p.en 4) (p.en 5)
    have HU : Hid (entK p (5 + 1) = if 0 ≤ p.en 5 then updK (entK p 5) (p.en 5).toNat [] else entK p 5) := rfl
    have he := HE.out 5 (by omega)
    generalize p.en 5 = s at *
    by_cases h0 : 0 ≤ s
    ·obtain ⟨t, rfl⟩ := Int.eq_ofNat_of_zero_le h0
     have ht : t < p.n := by
      rcases he with he | he
      ·omega
      ·have := (isPl_nat he).2
       simpa using this
     obtain ⟨s0, s1, f0, f1, sl⟩ := HK.out.shape t ht
     obtain ⟨_, _, _, c9, ql⟩ := HK.out.cells
     have HKn := hide (HK.out.know t ht (entK_nil p _ t))
     rw [if_pos (by omega)] at HU
     simp only [Int.toNat_natCast] at HU
     clear he h0
     go_wp2
     go_roundw
     case rel => exact ⟨6, by omega, by go_num, by rw [HU.out]; exact HKn.out.1, grown_tr HG.out HKn.out.2⟩
     case measure => simp [intOf]
    ·rw [if_neg h0] at HU
     have h0' : (decide (0 ≤ s)) = false := decide_eq_false h0
     go_wp2
     go_roundw
     case rel => exact ⟨6, by omega, by go_num, by rw [HU.out]; exact HK.out, HG.out⟩
     case measure => simp [intOf]
  ·obtain rfl : e = 6 := by omega
   obtain ⟨_, _, c8, _, ql⟩ := HK.out.cells
   go_wp2
   clear c8 ql
   go_loopw [40] (fun i wr2 => ∃ (j : Nat) (k : Kn), j ≤ p.n ∧ i = .int .i64 (j : Nat) ∧ Hid (goF p j = .ok k ∧ WK lim wr2 q hb g p k ∧ W5.grownBy wr2 (some hb))) (fun i _ => p.n - (intOf i).toNat)
   case atStart => exact ⟨0, _, by omega, rfl, rfl, HK.out, HG.out⟩
   case round =>
    obtain ⟨j, k, hj, rfl, HV⟩ := hrel
    clear HK HG
    by_cases hlt2 : j < p.n
    ·have hok := HV.out.2.1.ok
     have vo := hok.vo j hlt2
     have va := hok.va j hlt2
     obtain ⟨hia, hib⟩ := hok.hi (by omega)
     have hbl : g.ib < wr.heap.size := Nat.lt_of_lt_of_le hib HV.out.2.1.le
     obtain ⟨W1, hW1⟩ : ∃ W1, wr.alloc (.cells #[.int .i64 (p.op j), .int .i64 (p.arg j)] 42) = W1 := ⟨_, rfl⟩
     have B1 : Below wr.heap.size wr W1 := by rw [← hW1]; exact below_alloc1 wr _
     have A1 : W1.heap[wr.heap.size]? = some (.cells #[.int .i64 (p.op j), .int .i64 (p.arg j)] 42 (0, 0)) := by rw [← hW1]; exact alloc_atK _ _
     have HK1 := hide (HV.out.2.1.kept B1)
     have HG1 : Hid (W5.grownBy W1 (some hb)) := grown_tr HV.out.2.2 (grown_of_below B1 _)
     have z0 := block_cell A1 0
     have z1 := block_cell A1 1
     have zl := block_lt A1
     simp at z0 z1
     obtain ⟨s0, s1, f0, f1, sl⟩ := HK1.out.shape j hlt2
     obtain ⟨_, _, _, c9, ql⟩ := HK1.out.cells
     have HVI := hide (visitC HK1.out j (HI.out j hlt2) hn (goF_kb HV.out.1 j))
     have HW1 := hide hW1
     have HGO := hide HV.out.1
     rw [hia]
     clear hok A1 B1 hW1 hia HV
     generalize p.op j = oo at *
     generalize p.arg j = aa at *
     go_upto_region 10 with fail
     rw [HW1.out]
     clear HW1 vo va
     cases hks : (k j).isSome
     ·rw [hks] at s0
      have HNx := hide (goF_skip HGO.out hks)
      clear hks HVI
      go_wp2
      go_roundw
      case rel => exact ⟨j + 1, k, by omega, by go_num, HNx.out, HK1.out, HG1.out⟩
      case measure => simp [intOf]; omega
     ·rw [hks] at s0
      go_wp2_with fail
      refine HVI.out.mono ?_
      intro e w3 hh
      cases hres : visitF p k j with
      | error y =>
       rw [hres] at hh
       obtain ⟨g', rfl, G⟩ := hh
       have hr : r = .error ((j : Int), y) := HR.out.symm.trans (goF_err hlt2 HGO.out hks hres)
       subst hr
       have HD : Hid (Ft w3.heap.size w3 (.iface 74 (.pointer (some ⟨g', 0, none⟩))) (j : Int) y ∧ W.grownBy w3 (some q)) := ⟨G.out.1, grown_new HG5.out (grown_tr HG1.out G.out.2) (HWS.out)⟩
       clear hres hks
       go_wp2
       exact ⟨rfl, g', rfl, HD⟩
      | ok k' =>
       rw [hres] at hh
       obtain ⟨rfl, G⟩ := hh
       have HNx := hide (goF_ok HGO.out hks hres)
       clear hres hks
       go_wp2
       go_roundw
       case rel =>
        exact ⟨_, _, _, _, _, _, _, _, _, _, _, _, _, _, _, _, _, _, _, _, ⟨j + 1, k', by omega, by go_num, HNx.out, G.out.1, grown_tr HG1.out G.out.2⟩, rfl⟩
       case measure => simp [intOf]; omega
    ·obtain rfl : j = p.n := by omega
     have hr : r = .ok k := HR.out.symm.trans HV.out.1
     subst hr
     have HD : Hid (∃ hb, WK lim wr q hb g p k ∧ W.grownBy wr (some q) ∧ W.heap.size ≤ hb) := ⟨hb, HV.out.2.1, grown_new HG5.out HV.out.2.2 HWS.out, HWS.out⟩
     clear HV
     go_wp2
     go_end0
     exact ⟨rfl, HD⟩
end Go.Proofs.YtggpaljilpbmhaaGreatDoor
