import Derived.Test.YtggpaljilpbmhaaGreatDoorZ37
import Derived.Test.YtggpaljilpbmhaaGreatDoorZ32
namespace Go.Proofs.YtggpaljilpbmhaaGreatDoor
open Go.RowKit

theorem RdS.offU {lim rp q : Nat} {w w' : World} {s : RS} {cs : Array Value} {t : TypeId} (h : RdS lim w rp s) (hq : w.heap[q]? = some (.cells cs t (0, 0))) (hc : ∀ (i : Nat) (k : Int), cs[i]? ≠ some (Value.int .u8 k)) (hg : w.grownBy w' (some q)) (hne : q ≠ rp) : RdS lim w' rp s := by
 obtain ⟨ao, cap, hb, hS, hp, hl⟩ := h
 refine ⟨ao, cap, (hg.block rp (block_lt hb) (by simpa using fun e => hne e.symm)).trans hb, ?_, hp, hl⟩
 obtain ⟨h1, h2, h3, h4, b, off, h5, h6, h7⟩ := hS
 refine ⟨h1, h2, h3, h4, b, off, h5, h6, fun i hi => hg.cell (h7 i hi) (fun e => ?_)⟩
 have e : b = q := by simpa using e
 have := h7 i hi
 rw [e, block_cell hq] at this
 exact hc _ _ this
theorem prog_u8 (x0 x1 x8 : Option Addr) (n0 c0 n1 c1 n8 c8 : Nat) (e0 e1 e2 e3 e4 e5 : Int) : ∀ (i : Nat) (k : Int), (#[.slice x0 n0 c0, .slice x1 n1 c1, .int .i64 e0, .int .i64 e1, .int .i64 e2, .int .i64 e3, .int .i64 e4, .int .i64 e5, .slice x8 n8 c8] : Array Value)[i]? ≠ some (Value.int .u8 k)
 | 0, _ => by simp
 | 1, _ => by simp
 | 2, _ => by simp
 | 3, _ => by simp
 | 4, _ => by simp
 | 5, _ => by simp
 | 6, _ => by simp
 | 7, _ => by simp
 | 8, _ => by simp
 | n + 9, _ => by simp
/-- The world of code.unpacked: the results, the fields, what was read so far. -/
structure Uw (W : World) (R0 lim pb fb rp : Nat) (B : List Nat) (pos : Nat) (va vb vc : Value) (ja jb jc : Nat) (xa xb xc : List Value) (en : Nat → Int) (w : World) : Prop where
 pc : w.heap[pb]? = some (.cells #[va, vb, .int .i64 (en 0), .int .i64 (en 1), .int .i64 (en 2), .int .i64 (en 3), .int .i64 (en 4), .int .i64 (en 5), vc] 27 (0, 0))
 pe : w.heap[pb + 1]? = some (.cells #[.nilIface] 33 (0, 0))
 pf : w.heap[fb]? = some (.cells #[.pointer (some ⟨rp, 0, none⟩)] 185 (0, 0))
 rd : RdS lim w rp (rsU B pos)
 qa : w.ownsRow R0 28 1 va ja xa
 qb : w.ownsRow R0 3 1 vb jb xb
 qc : w.ownsRow R0 42 2 vc jc xc
 tab : Tab w
 err : ErrT w
 bel : Below W.heap.size W w
 z : 10 < W.heap.size
 o1 : W.heap.size ≤ pb
 o2 : pb + 1 < rp
 o3 : rp < fb
 o4 : fb < R0
 o5 : R0 ≤ w.heap.size
 o6 : lim ≤ R0
section
variable {W : World} {R0 lim pb fb rp : Nat} {B : List Nat} {pos pos2 : Nat} {va vb vc : Value} {ja jb jc : Nat} {xa xb xc : List Value} {en : Nat → Int} {w w' : World}
theorem Uw.rtype (h : Uw W R0 lim pb fb rp B pos va vb vc ja jb jc xa xb xc en w) : ∃ cs, w.heap[rp]? = some (.cells cs 217 (0, 0)) := by
 obtain ⟨ao, cap, hb, _⟩ := h.rd
 exact ⟨_, hb⟩
theorem Uw.next (h : Uw W R0 lim pb fb rp B pos va vb vc ja jb jc xa xb xc en w) (hb : Below w.heap.size w w') : Uw W R0 lim pb fb rp B pos va vb vc ja jb jc xa xb xc en w' :=
 ⟨(hb.block _ (block_lt h.pc)).trans h.pc, (hb.block _ (block_lt h.pe)).trans h.pe, (hb.block _ (block_lt h.pf)).trans h.pf, h.rd.kept (row := none) (grown_belowU hb) (fun g e => by cases e), row_quietT h.qa (grown_belowU hb), row_quietT h.qb (grown_belowU hb), row_quietT h.qc (grown_belowU hb), h.tab.below hb h.tab.z, (hb.cell (p := ⟨1, 0, none⟩) h.err.lt).trans h.err, h.bel.trans (hb.mono h.bel.size), h.z, h.o1, h.o2, h.o3, h.o4, Nat.le_trans h.o5 hb.size, h.o6⟩
/-- A field was read. -/
theorem Uw.read (h : Uw W R0 lim pb fb rp B pos va vb vc ja jb jc xa xb xc en w) (hg : w.grownBy w' (some rp)) (hr : RdS lim w' rp (rsU B pos2)) : Uw W R0 lim pb fb rp B pos2 va vb vc ja jb jc xa xb xc en w' := by
 obtain ⟨cs, hq⟩ := h.rtype
 have i1 := h.o1
 have i2 := h.o2
 have i3 := h.o3
 have iz := h.z
 exact ⟨(hg.block _ (block_lt h.pc) (by simp; omega)).trans h.pc, (hg.block _ (block_lt h.pe) (by simp; omega)).trans h.pe, (hg.block _ (block_lt h.pf) (by simp; omega)).trans h.pf, hr, own_far h.qa hq (by decide) hg, own_far h.qb hq (by decide) hg, own_far h.qc hq (by decide) hg, tab_grownU h.tab (by omega) (block_lt hq) hg, err_grownU h.err (by omega) hg, h.bel.grown hg h.bel.size (fun x e => by cases e; omega), h.z, h.o1, h.o2, h.o3, h.o4, Nat.le_trans h.o5 hg.size, h.o6⟩
theorem Uw.stepA {o : Obj} {va' : Value} {ys : List Value} (h : Uw W R0 lim pb fb rp B pos va vb vc ja jb jc xa xb xc en w) (ho : w'.ownsRow R0 28 1 va' (ja + 1) (xa ++ ys)) (hg : (w.alloc o).grownBy w' va.ownBlock) :
  Uw W R0 lim pb fb rp B pos va' vb vc (ja + 1) jb jc (xa ++ ys) xb xc en (w'.setCell ⟨pb, 0, none⟩ va') ∧ w'.heap[pb]? = some (.cells #[va, vb, .int .i64 (en 0), .int .i64 (en 1), .int .i64 (en 2), .int .i64 (en 3), .int .i64 (en 4), .int .i64 (en 5), vc] 27 (0, 0)) ∧ w'.heap[fb]? = some (.cells #[.pointer (some ⟨rp, 0, none⟩)] 185 (0, 0)) := by
 have al := below_alloc1 w o
 have K : ∀ {b : Nat} {cs : Array Value} {t' : TypeId} {z : Nat × Nat}, (28 : TypeId) ≠ t' → w.heap[b]? = some (.cells cs t' z) → w'.heap[b]? = some (.cells cs t' z) := fun hne e =>
  (hg.block _ (Nat.lt_of_lt_of_le (block_lt e) al.size) (fun x => own_off2 h.qa hne e x.symm)).trans ((al.block _ (block_lt e)).trans e)
 have i1 := h.o1
 have i2 := h.o2
 have i3 := h.o3
 have i4 := h.o4
 have i5 := h.o5
 have i6 := h.o6
 have iz := h.z
 have kw := K (by decide) h.pc
 have ke := K (by decide) h.pe
 have kf := K (by decide) h.pf
 have G := grown_set w' pb 0 va'
 have s1 := heap_setCell_same w' pb 0 _ _ va' kw
 have bw : Below R0 w w' := (al.mono i5).grown hg (Nat.le_trans i5 al.size) (fun b e => (h.qa.lt b e).1)
 have hrw : RdS lim w' rp (rsU B pos) := by
  obtain ⟨cs, hq⟩ := h.rtype
  refine (h.rd.kept (row := none) (World.grownBy_alloc w o none) (fun g e => by cases e)).kept hg (fun b e => ⟨by have := (h.qa.lt b e).1; omega, fun q => ?_⟩)
  subst q
  exact own_off2 h.qa (by decide) hq e
 have rb : w'.ownsRow R0 3 1 vb jb xb := by
  refine (row_quietT h.qb (World.grownBy_alloc w o none)).kept hg ?_
  cases e : vb.ownBlock with
  | none => exact .inl rfl
  | some b =>
   obtain ⟨_, cs, hc⟩ := own_typ2 h.qb e
   exact .inr (fun y => own_off2 h.qa (by decide) hc y.symm)
 have rc : w'.ownsRow R0 42 2 vc jc xc := by
  refine (row_quietT h.qc (World.grownBy_alloc w o none)).kept hg ?_
  cases e : vc.ownBlock with
  | none => exact .inl rfl
  | some b =>
   obtain ⟨_, cs, hc⟩ := own_typ2 h.qc e
   exact .inr (fun y => own_off2 h.qa (by decide) hc y.symm)
 have bel' : Below W.heap.size W w' := h.bel.trans (bw.mono (by omega))
 refine ⟨⟨by simpa using s1, (G.block _ (block_lt ke) (by simp)).trans ke, (G.block _ (block_lt kf) (by simp; omega)).trans kf, ?_, ho.kept G (.inr (own_off2 ho (by decide) kw)), rb.kept G (.inr (own_off2 rb (by decide) kw)), rc.kept G (.inr (own_off2 rc (by decide) kw)), ?_, ?_, bel'.grown G bel'.size (fun x e => by cases e; omega), h.z, h.o1, h.o2, h.o3, h.o4, Nat.le_trans h.o5 (Nat.le_trans bw.size G.size), h.o6⟩, kw, kf⟩
 ·obtain ⟨ka, da, ea⟩ := own_val2 h.qa
  obtain ⟨kb, db, eb⟩ := own_val2 h.qb
  obtain ⟨kc, dc, ec⟩ := own_val2 h.qc
  rw [ea, eb, ec] at kw
  exact hrw.offU kw (prog_u8 _ _ _ _ _ _ _ _ _ _ _ _ _ _ _) G (by omega)
 ·exact h.tab.below ((bw.mono (by omega : pb ≤ R0)).trans ((Below.refl pb w').grown G (Nat.le_trans (by omega) bw.size) (fun x e => by cases e; exact Nat.le_refl _))) (by omega)
 ·have e1 : ErrT w' := (bw.cell (p := ⟨1, 0, none⟩) (by have := h.err.lt; show 1 < R0; omega)).trans h.err
  exact e1.grown G (by omega)
theorem Uw.stepB {o : Obj} {vb' : Value} {ys : List Value} (h : Uw W R0 lim pb fb rp B pos va vb vc ja jb jc xa xb xc en w) (ho : w'.ownsRow R0 3 1 vb' (jb + 1) (xb ++ ys)) (hg : (w.alloc o).grownBy w' vb.ownBlock) :
  Uw W R0 lim pb fb rp B pos va vb' vc ja (jb + 1) jc xa (xb ++ ys) xc en (w'.setCell ⟨pb, 1, none⟩ vb') ∧ w'.heap[pb]? = some (.cells #[va, vb, .int .i64 (en 0), .int .i64 (en 1), .int .i64 (en 2), .int .i64 (en 3), .int .i64 (en 4), .int .i64 (en 5), vc] 27 (0, 0)) ∧ w'.heap[fb]? = some (.cells #[.pointer (some ⟨rp, 0, none⟩)] 185 (0, 0)) := by
 have al := below_alloc1 w o
 have K : ∀ {b : Nat} {cs : Array Value} {t' : TypeId} {z : Nat × Nat}, (3 : TypeId) ≠ t' → w.heap[b]? = some (.cells cs t' z) → w'.heap[b]? = some (.cells cs t' z) := fun hne e =>
  (hg.block _ (Nat.lt_of_lt_of_le (block_lt e) al.size) (fun x => own_off2 h.qb hne e x.symm)).trans ((al.block _ (block_lt e)).trans e)
 have i1 := h.o1
 have i2 := h.o2
 have i3 := h.o3
 have i4 := h.o4
 have i5 := h.o5
 have i6 := h.o6
 have iz := h.z
 have kw := K (by decide) h.pc
 have ke := K (by decide) h.pe
 have kf := K (by decide) h.pf
 have G := grown_set w' pb 1 vb'
 have s1 := heap_setCell_same w' pb 1 _ _ vb' kw
 have bw : Below R0 w w' := (al.mono i5).grown hg (Nat.le_trans i5 al.size) (fun b e => (h.qb.lt b e).1)
 have hrw : RdS lim w' rp (rsU B pos) := by
  obtain ⟨cs, hq⟩ := h.rtype
  refine (h.rd.kept (row := none) (World.grownBy_alloc w o none) (fun g e => by cases e)).kept hg (fun b e => ⟨by have := (h.qb.lt b e).1; omega, fun q => ?_⟩)
  subst q
  exact own_off2 h.qb (by decide) hq e
 have ra : w'.ownsRow R0 28 1 va ja xa := by
  refine (row_quietT h.qa (World.grownBy_alloc w o none)).kept hg ?_
  cases e : va.ownBlock with
  | none => exact .inl rfl
  | some b =>
   obtain ⟨_, cs, hc⟩ := own_typ2 h.qa e
   exact .inr (fun y => own_off2 h.qb (by decide) hc y.symm)
 have rc : w'.ownsRow R0 42 2 vc jc xc := by
  refine (row_quietT h.qc (World.grownBy_alloc w o none)).kept hg ?_
  cases e : vc.ownBlock with
  | none => exact .inl rfl
  | some b =>
   obtain ⟨_, cs, hc⟩ := own_typ2 h.qc e
   exact .inr (fun y => own_off2 h.qb (by decide) hc y.symm)
 have bel' : Below W.heap.size W w' := h.bel.trans (bw.mono (by omega))
 refine ⟨⟨by simpa using s1, (G.block _ (block_lt ke) (by simp)).trans ke, (G.block _ (block_lt kf) (by simp; omega)).trans kf, ?_, ra.kept G (.inr (own_off2 ra (by decide) kw)), ho.kept G (.inr (own_off2 ho (by decide) kw)), rc.kept G (.inr (own_off2 rc (by decide) kw)), ?_, ?_, bel'.grown G bel'.size (fun x e => by cases e; omega), h.z, h.o1, h.o2, h.o3, h.o4, Nat.le_trans h.o5 (Nat.le_trans bw.size G.size), h.o6⟩, kw, kf⟩
 ·obtain ⟨ka, da, ea⟩ := own_val2 h.qa
  obtain ⟨kb, db, eb⟩ := own_val2 h.qb
  obtain ⟨kc, dc, ec⟩ := own_val2 h.qc
  rw [ea, eb, ec] at kw
  exact hrw.offU kw (prog_u8 _ _ _ _ _ _ _ _ _ _ _ _ _ _ _) G (by omega)
 ·exact h.tab.below ((bw.mono (by omega : pb ≤ R0)).trans ((Below.refl pb w').grown G (Nat.le_trans (by omega) bw.size) (fun x e => by cases e; exact Nat.le_refl _))) (by omega)
 ·have e1 : ErrT w' := (bw.cell (p := ⟨1, 0, none⟩) (by have := h.err.lt; show 1 < R0; omega)).trans h.err
  exact e1.grown G (by omega)
theorem Uw.stepC {o : Obj} {vc' : Value} {ys : List Value} (h : Uw W R0 lim pb fb rp B pos va vb vc ja jb jc xa xb xc en w) (ho : w'.ownsRow R0 42 2 vc' (jc + 1) (xc ++ ys)) (hg : (w.alloc o).grownBy w' vc.ownBlock) :
  Uw W R0 lim pb fb rp B pos va vb vc' ja jb (jc + 1) xa xb (xc ++ ys) en (w'.setCell ⟨pb, 8, none⟩ vc') ∧ w'.heap[pb]? = some (.cells #[va, vb, .int .i64 (en 0), .int .i64 (en 1), .int .i64 (en 2), .int .i64 (en 3), .int .i64 (en 4), .int .i64 (en 5), vc] 27 (0, 0)) ∧ w'.heap[fb]? = some (.cells #[.pointer (some ⟨rp, 0, none⟩)] 185 (0, 0)) := by
 have al := below_alloc1 w o
 have K : ∀ {b : Nat} {cs : Array Value} {t' : TypeId} {z : Nat × Nat}, (42 : TypeId) ≠ t' → w.heap[b]? = some (.cells cs t' z) → w'.heap[b]? = some (.cells cs t' z) := fun hne e =>
  (hg.block _ (Nat.lt_of_lt_of_le (block_lt e) al.size) (fun x => own_off2 h.qc hne e x.symm)).trans ((al.block _ (block_lt e)).trans e)
 have i1 := h.o1
 have i2 := h.o2
 have i3 := h.o3
 have i4 := h.o4
 have i5 := h.o5
 have i6 := h.o6
 have iz := h.z
 have kw := K (by decide) h.pc
 have ke := K (by decide) h.pe
 have kf := K (by decide) h.pf
 have G := grown_set w' pb 8 vc'
 have s1 := heap_setCell_same w' pb 8 _ _ vc' kw
 have bw : Below R0 w w' := (al.mono i5).grown hg (Nat.le_trans i5 al.size) (fun b e => (h.qc.lt b e).1)
 have hrw : RdS lim w' rp (rsU B pos) := by
  obtain ⟨cs, hq⟩ := h.rtype
  refine (h.rd.kept (row := none) (World.grownBy_alloc w o none) (fun g e => by cases e)).kept hg (fun b e => ⟨by have := (h.qc.lt b e).1; omega, fun q => ?_⟩)
  subst q
  exact own_off2 h.qc (by decide) hq e
 have ra : w'.ownsRow R0 28 1 va ja xa := by
  refine (row_quietT h.qa (World.grownBy_alloc w o none)).kept hg ?_
  cases e : va.ownBlock with
  | none => exact .inl rfl
  | some b =>
   obtain ⟨_, cs, hc⟩ := own_typ2 h.qa e
   exact .inr (fun y => own_off2 h.qc (by decide) hc y.symm)
 have rb : w'.ownsRow R0 3 1 vb jb xb := by
  refine (row_quietT h.qb (World.grownBy_alloc w o none)).kept hg ?_
  cases e : vb.ownBlock with
  | none => exact .inl rfl
  | some b =>
   obtain ⟨_, cs, hc⟩ := own_typ2 h.qb e
   exact .inr (fun y => own_off2 h.qc (by decide) hc y.symm)
 have bel' : Below W.heap.size W w' := h.bel.trans (bw.mono (by omega))
 refine ⟨⟨by simpa using s1, (G.block _ (block_lt ke) (by simp)).trans ke, (G.block _ (block_lt kf) (by simp; omega)).trans kf, ?_, ra.kept G (.inr (own_off2 ra (by decide) kw)), rb.kept G (.inr (own_off2 rb (by decide) kw)), ho.kept G (.inr (own_off2 ho (by decide) kw)), ?_, ?_, bel'.grown G bel'.size (fun x e => by cases e; omega), h.z, h.o1, h.o2, h.o3, h.o4, Nat.le_trans h.o5 (Nat.le_trans bw.size G.size), h.o6⟩, kw, kf⟩
 ·obtain ⟨ka, da, ea⟩ := own_val2 h.qa
  obtain ⟨kb, db, eb⟩ := own_val2 h.qb
  obtain ⟨kc, dc, ec⟩ := own_val2 h.qc
  rw [ea, eb, ec] at kw
  exact hrw.offU kw (prog_u8 _ _ _ _ _ _ _ _ _ _ _ _ _ _ _) G (by omega)
 ·exact h.tab.below ((bw.mono (by omega : pb ≤ R0)).trans ((Below.refl pb w').grown G (Nat.le_trans (by omega) bw.size) (fun x e => by cases e; exact Nat.le_refl _))) (by omega)
 ·have e1 : ErrT w' := (bw.cell (p := ⟨1, 0, none⟩) (by have := h.err.lt; show 1 < R0; omega)).trans h.err
  exact e1.grown G (by omega)
theorem Uw.setE (h : Uw W R0 lim pb fb rp B pos va vb vc ja jb jc xa xb xc en w) {e : Nat} (he : e < 6) (x : Int) : Uw W R0 lim pb fb rp B pos va vb vc ja jb jc xa xb xc (fun j => if j = e then x else en j) (w.setCell ⟨pb, 2 + e, none⟩ (.int .i64 x)) := by
 have i1 := h.o1
 have i2 := h.o2
 have i3 := h.o3
 have i4 := h.o4
 have iz := h.z
 have kw := h.pc
 have G := grown_set w pb (2 + e) (.int .i64 x)
 have s1 := heap_setCell_same w pb (2 + e) _ _ (.int .i64 x) kw
 refine ⟨?_, (G.block _ (block_lt h.pe) (by simp)).trans h.pe, (G.block _ (block_lt h.pf) (by simp; omega)).trans h.pf, ?_, h.qa.kept G (.inr (own_off2 h.qa (by decide) kw)), h.qb.kept G (.inr (own_off2 h.qb (by decide) kw)), h.qc.kept G (.inr (own_off2 h.qc (by decide) kw)), ?_, h.err.grown G (by omega), h.bel.grown G h.bel.size (fun y e => by cases e; omega), h.z, h.o1, h.o2, h.o3, h.o4, Nat.le_trans h.o5 G.size, h.o6⟩
 ·rw [s1]
  match e, he with
  | 0, _ => simp
  | 1, _ => simp
  | 2, _ => simp
  | 3, _ => simp
  | 4, _ => simp
  | 5, _ => simp
 ·obtain ⟨ka, da, ea⟩ := own_val2 h.qa
  obtain ⟨kb, db, eb⟩ := own_val2 h.qb
  obtain ⟨kc, dc, ec⟩ := own_val2 h.qc
  rw [ea, eb, ec] at kw
  exact h.rd.offU kw (prog_u8 _ _ _ _ _ _ _ _ _ _ _ _ _ _ _) G (by omega)
 ·exact tab_grownU h.tab (by omega) (block_lt h.pc) G
end
end Go.Proofs.YtggpaljilpbmhaaGreatDoor
namespace Go.Proofs.YtggpaljilpbmhaaGreatDoor
open Go.RowKit

/-- The deferred function of unpacked, where nothing was given up. -/
theorem catchU_idle (a b : Addr) (w : World) :
  CallsD Tryz.prog 99 #[.pointer (some a), .pointer (some b)] .returning w fun e u' w' => e = .returned (.tuple #[]) ∧ u' = .returning ∧ w' = w := by
 have ha := asrt_nilF w
 refine callsD_of_wpS Tryz.func99 rfl fun c₀ cs hu => ?_
 apply wpS_seq
 apply wpS_region
 simp [wpOpsS, go_sem, recoverD, hu, Tryz.ntmps99, Exit.thenS, ha]
 apply wpS_seq
 apply wpS_region
 simp [wpOpsS, go_sem, Exit.thenS]
 refine wpS_cond (t := false) (by simp [Act.eval, Array.replicate]) ?_
 simp only [Bool.false_eq_true, if_false]
 refine wpS_of_wp (wp_skip ?_)
 cases c₀
 simp_all [bodyPostS, results, Tryz.results99]
set_option maxRecDepth 10000 in
set_option maxHeartbeats 3200000 in
/-- The deferred function, where it was given up. -/
theorem catchU_fault (a b g : Nat) {x0 x1 x2 x3 x4 x5 x6 x7 x8 y : Value} (w : World) (hx : w.heap[a]? = some (.cells #[x0, x1, x2, x3, x4, x5, x6, x7, x8] 27 (0, 0))) (hy : w.heap[b]? = some (.cells #[y] 33 (0, 0))) (hab : ¬ a = b) :
  CallsD Tryz.prog 99 #[.pointer (some ⟨a, 0, none⟩), .pointer (some ⟨b, 0, none⟩)] (.panicking [{ v := .iface 74 (.pointer (some ⟨g, 0, none⟩)), recovered := false }]) w fun e u' w' => e = .returned (.tuple #[]) ∧ u' = .panicking [{ v := .iface 74 (.pointer (some ⟨g, 0, none⟩)), recovered := true }] ∧ w' = (set9 w a (.slice none 0 0) (.slice none 0 0) (.int .i64 0) (.int .i64 0) (.int .i64 0) (.int .i64 0) (.int .i64 0) (.int .i64 0) (.slice none 0 0)).setCell ⟨b, 0, none⟩ (.iface 74 (.pointer (some ⟨g, 0, none⟩))) := by
 have ha := asrt_hitF g w
 have c0 := block_cell hx 0
 have c1 := block_cell hx 1
 have c2 := block_cell hx 2
 have c3 := block_cell hx 3
 have c4 := block_cell hx 4
 have c5 := block_cell hx 5
 have c6 := block_cell hx 6
 have c7 := block_cell hx 7
 have c8 := block_cell hx 8
 have f0 := block_free hx 0
 have f1 := block_free hx 1
 have f2 := block_free hx 2
 have f3 := block_free hx 3
 have f4 := block_free hx 4
 have f5 := block_free hx 5
 have f6 := block_free hx 6
 have f7 := block_free hx 7
 have f8 := block_free hx 8
 simp at c0 c1 c2 c3 c4 c5 c6 c7 c8
 obtain ⟨w9, hw9⟩ : ∃ w9, set9 w a (.slice none 0 0) (.slice none 0 0) (.int .i64 0) (.int .i64 0) (.int .i64 0) (.int .i64 0) (.int .i64 0) (.int .i64 0) (.slice none 0 0) = w9 := ⟨_, rfl⟩
 have k9 : w9.heap[b]? = some (.cells #[y] 33 (0, 0)) := by
  rw [← hw9]
  exact ((set9_grown w a _ _ _ _ _ _ _ _ _).block _ (block_lt hy) (by simpa using fun e => hab e.symm)).trans hy
 have y0 := block_cell k9 0
 have yf := block_free k9 0
 simp at y0
 refine callsD_of_wpS Tryz.func99 rfl fun c₀ cs hu => ?_
 apply wpS_seq
 apply wpS_region
 simp [wpOpsS, go_sem, recoverD, hu, Tryz.ntmps99, Exit.thenS, ha]
 apply wpS_seq
 apply wpS_region
 simp [wpOpsS, go_sem, Exit.thenS]
 refine wpS_cond (t := true) (by simp [Act.eval, Array.replicate]) ?_
 simp only [if_true]
 apply wpS_region
 rw [hw9]
 unfold set9 at hw9
 simp [wpOpsS, go_sem, c0, c1, c2, c3, c4, c5, c6, c7, c8, f0, f1, f2, f3, f4, f5, f6, f7, f8, hw9, y0, yf, bodyPostS, results, Tryz.results99, Array.replicate]
end Go.Proofs.YtggpaljilpbmhaaGreatDoor
namespace Go.Proofs.YtggpaljilpbmhaaGreatDoor
open Go.RowKit

section
variable {p q : Pv}
theorem enc1_congr (h : p.nc = q.nc) : ∀ {i : Nat}, (∀ j, j < i → p.C j = q.C j) → enc1 p i = enc1 q i
 | 0, _ => by rw [enc1_zero, enc1_zero, h]
 | i + 1, hC => by rw [enc1_next, enc1_next, enc1_congr h (fun j hj => hC j (by omega)), hC i (by omega)]
theorem enc2_congr (h : enc1 p p.nc = enc1 q q.nc) (hn : p.ns = q.ns) : ∀ {i : Nat}, (∀ j, j < i → p.S j = q.S j) → enc2 p i = enc2 q i
 | 0, _ => by rw [enc2_zero, enc2_zero, h, hn]
 | i + 1, hC => by rw [enc2_next, enc2_next, enc2_congr h hn (fun j hj => hC j (by omega)), hC i (by omega)]
theorem enc3_congr (h : enc2 p p.ns = enc2 q q.ns) : ∀ {i : Nat}, (∀ j, j < i → p.en j = q.en j) → enc3 p i = enc3 q i
 | 0, _ => by rw [enc3_zero, enc3_zero, h]
 | i + 1, hC => by rw [enc3_next, enc3_next, enc3_congr h (fun j hj => hC j (by omega)), hC i (by omega)]
theorem enc4_congr (h : enc3 p 6 = enc3 q 6) (hn : p.n = q.n) : ∀ {i : Nat}, (∀ j, j < i → p.op j = q.op j ∧ p.arg j = q.arg j) → enc4 p i = enc4 q i
 | 0, _ => by rw [enc4_zero, enc4_zero, h, hn]
 | i + 1, hC => by
  have := hC i (by omega)
  rw [enc4_next, enc4_next, enc4_congr h hn (fun j hj => hC j (by omega)), this.1]
  unfold argB
  rw [this.1, this.2]
end
/-- What was read so far: of the constants. -/
structure R1 (B : List Nat) (q : Pv) (i pos : Nat) : Prop where
 nc : q.nc ≤ 256
 pr : enc1 q i <+: B
 ps : pos = (enc1 q i).length
 C : ∀ j, j < i → 0 ≤ q.C j ∧ q.C j < 18446744073709551616
 ag : ∀ p, Pkw p → encP p = B → p.nc = q.nc ∧ (enc1 p i).length = pos
/-- Of the slots. -/
structure R2 (B : List Nat) (q : Pv) (i pos : Nat) : Prop where
 nc : q.nc ≤ 256
 ns : q.ns ≤ 128
 pr : enc2 q i <+: B
 ps : pos = (enc2 q i).length
 C : ∀ j, j < q.nc → 0 ≤ q.C j ∧ q.C j < 18446744073709551616
 S : ∀ j, j < i → 0 ≤ q.S j ∧ q.S j < 256
 ag : ∀ p, Pkw p → encP p = B → p.nc = q.nc ∧ p.ns = q.ns ∧ (enc2 p i).length = pos
/-- Of the entries. -/
structure R3 (B : List Nat) (q : Pv) (i pos : Nat) : Prop where
 nc : q.nc ≤ 256
 ns : q.ns ≤ 128
 pr : enc3 q i <+: B
 ps : pos = (enc3 q i).length
 C : ∀ j, j < q.nc → 0 ≤ q.C j ∧ q.C j < 18446744073709551616
 S : ∀ j, j < q.ns → 0 ≤ q.S j ∧ q.S j < 256
 en : ∀ j, j < i → -1 ≤ q.en j ∧ q.en j ≤ 1023
 ag : ∀ p, Pkw p → encP p = B → p.nc = q.nc ∧ p.ns = q.ns ∧ (enc3 p i).length = pos
/-- Of the instructions. -/
structure R4 (B : List Nat) (q : Pv) (i pos : Nat) : Prop where
 nc : q.nc ≤ 256
 ns : q.ns ≤ 128
 n : q.n ≤ 1024
 pr : enc4 q i <+: B
 ps : pos = (enc4 q i).length
 C : ∀ j, j < q.nc → 0 ≤ q.C j ∧ q.C j < 18446744073709551616
 S : ∀ j, j < q.ns → 0 ≤ q.S j ∧ q.S j < 256
 en : ∀ j, j < 6 → -1 ≤ q.en j ∧ q.en j ≤ 1023
 ins : ∀ j, j < i → 1 ≤ q.op j ∧ q.op j ≤ 32 ∧ 0 ≤ q.arg j ∧ q.arg j ≤ 1023 ∧ (fArg (q.op j).toNat = 0 → q.arg j = 0)
 ag : ∀ p, Pkw p → encP p = B → p.n = q.n ∧ (enc4 p i).length = pos
def setC (q : Pv) (i : Nat) (v : Int) : Pv := { q with C := fun j => if j = i then v else q.C j }
def setS (q : Pv) (i : Nat) (v : Int) : Pv := { q with S := fun j => if j = i then v else q.S j }
def setE (q : Pv) (i : Nat) (v : Int) : Pv := { q with en := fun j => if j = i then v else q.en j }
def setI (q : Pv) (i : Nat) (o a : Int) : Pv := { q with op := fun j => if j = i then o else q.op j, arg := fun j => if j = i then a else q.arg j }
section
variable {B : List Nat} {q : Pv} {i pos : Nat}
theorem R1.start (hh : encH <+: B) (hB : ∀ x ∈ B, x < 256) (hw : (countAt (B.drop 3) 256).2.2 = 0) : R1 B ⟨(countAt (B.drop 3) 256).1, 0, 0, fun _ => 0, fun _ => 0, fun _ => 0, fun _ => 0, fun _ => 0⟩ 0 (3 + (countAt (B.drop 3) 256).2.1) := by
 have hl : encH.length = 3 := by decide
 have hw' : (countAt (B.drop encH.length) 256).2.2 = 0 := by rw [hl]; exact hw
 obtain ⟨e0, e1, e2⟩ := cnt_pre hh hB hw'
 rw [hl] at e0 e1 e2
 refine ⟨by show (countAt (B.drop 3) 256).1 ≤ 256; omega, by rw [enc1_zero]; exact e1, by rw [enc1_zero, List.length_append, hl, e2], fun j hj => absurd hj (Nat.not_lt_zero j), fun p hp e => ?_⟩
 have a := (by rw [← enc1_zero]; exact pre1 (Nat.zero_le _) : encH ++ numB p.nc <+: encP p)
 rw [e] at a
 have := pre_cnt (most := 256) a (by have := hp.nc; omega) (by have := hp.nc; omega)
 rw [hl] at this
 rw [this]
 exact ⟨rfl, by rw [enc1_zero, List.length_append, hl]⟩
theorem R1.fail (h : R1 B q i pos) (hi : i < q.nc) (hw : (numAt (B.drop pos)).2.2 ≠ 0) : ∀ p, Pkw p → encP p ≠ B := fun p hp e => by
 obtain ⟨a, b⟩ := h.ag p hp e
 have c := (by rw [← enc1_next]; exact pre1 (by omega) : enc1 p i ++ numB (p.C i).toNat <+: encP p)
 rw [e] at c
 have hc := hp.C i (by omega)
 have := pre_num c (by omega)
 rw [b] at this
 rw [this] at hw
 exact hw rfl
theorem R1.step (h : R1 B q i pos) (hB : ∀ x ∈ B, x < 256) (hi : i < q.nc) (hw : (numAt (B.drop pos)).2.2 = 0) : R1 B (setC q i ((numAt (B.drop pos)).1 : Nat)) (i + 1) (pos + (numAt (B.drop pos)).2.1) := by
 have hv := (numAt_ok (B.drop pos)).1
 have hps := h.ps
 have hw' : (numAt (B.drop (enc1 q i).length)).2.2 = 0 := by rw [← hps]; exact hw
 obtain ⟨e1, e2⟩ := num_pre h.pr hB hw'
 rw [← hps] at e1 e2
 have e3 : enc1 (setC q i ((numAt (B.drop pos)).1 : Nat)) (i + 1) = enc1 q i ++ numB (numAt (B.drop pos)).1 := by
  rw [enc1_next, enc1_congr (p := setC q i ((numAt (B.drop pos)).1 : Nat)) (q := q) rfl (fun j hj => by show (if j = i then _ else _) = _; rw [if_neg (by omega)])]
  have : (setC q i ((numAt (B.drop pos)).1 : Nat)).C i = ((numAt (B.drop pos)).1 : Nat) := by show (if i = i then _ else _) = _; rw [if_pos rfl]
  rw [this]
  rfl
 refine ⟨h.nc, by rw [e3]; exact e1, by rw [e3, List.length_append, ← hps, e2], fun j hj => ?_, fun p hp e => ?_⟩
 ·show 0 ≤ (if j = i then _ else _) ∧ (if j = i then _ else _) < _
  by_cases ej : j = i
  ·rw [if_pos ej]; omega
  ·rw [if_neg ej]; exact h.C j (by omega)
 ·obtain ⟨a, b⟩ := h.ag p hp e
  have c := (by rw [← enc1_next]; exact pre1 (by omega) : enc1 p i ++ numB (p.C i).toNat <+: encP p)
  rw [e] at c
  have hc := hp.C i (by omega)
  have := pre_num c (by omega)
  rw [b] at this
  rw [this]
  exact ⟨a, by rw [enc1_next, List.length_append, b]⟩
end
end Go.Proofs.YtggpaljilpbmhaaGreatDoor
