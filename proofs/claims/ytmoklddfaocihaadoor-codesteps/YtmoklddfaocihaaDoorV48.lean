import Derived.Test.YtmoklddfaocihaaDoorV44
import Derived.Test.YtmoklddfaocihaaDoorV19
namespace Go.Proofs.YtmoklddfaocihaaDoor
open Go.RowKit

theorem own_place {w : World} {B n sz cap b off : Nat} {t : TypeId} {ao : Option Addr} {xs : List Value} (h : w.ownsRow B t sz (.slice ao n cap) n xs) (ha : ao = some ⟨b, off, none⟩) : off = 0 ∧ b < w.heap.size ∧ ∀ j, j < n * sz → w.cell? ⟨b, off + j, none⟩ = xs[j]? := by
 subst ha
 rcases h.2 with ⟨e, _⟩ | ⟨gb, cp, cur, e, _⟩
 ·cases e
 ·cases e
  refine ⟨rfl, (h.lt b rfl).2, fun j hj => ?_⟩
  rw [Nat.zero_add]
  exact h.cellAt j hj
theorem own_set {w : World} {B n sz b cap i : Nat} {t : TypeId} {xs : List Value} {x : Value} (h : w.ownsRow B t sz (.slice (some ⟨b, 0, none⟩) n cap) n xs) (_hi : i < n * sz) : (w.setCell ⟨b, i, none⟩ x).ownsRow B t sz (.slice (some ⟨b, 0, none⟩) n cap) n (xs.set i x) := by
 refine ⟨by rw [List.length_set]; exact h.1, ?_⟩
 rcases h.2 with ⟨e, _⟩ | ⟨g', cap', cur, e, hb, hc, hnc, hm, hsz, htk⟩
 ·cases e
 ·cases e
  refine .inr ⟨b, cap, cur.setIfInBounds i x, rfl, hb, ?_, hnc, hm, by simpa using hsz, ?_⟩
  ·simp [World.setCell, Array.getElem?_modify, hc]
  ·rw [← htk, Array.toList_setIfInBounds, List.take_set]
theorem own_cell {w : World} {B n sz b cap i : Nat} {t : TypeId} {xs : List Value} (h : w.ownsRow B t sz (.slice (some ⟨b, 0, none⟩) n cap) n xs) (hi : i < n * sz) : b < w.heap.size ∧ w.cell? ⟨b, i, none⟩ = xs[i]? ∧ w.frozen? ⟨b, i, none⟩ = false := by
 obtain ⟨_, h2, h3⟩ := own_place h rfl
 have := h3 i hi
 rw [Nat.zero_add] at this
 obtain ⟨_, cs, hc⟩ := own_typ2 h (b := b) rfl
 exact ⟨h2, this, block_free hc i⟩
theorem own_some {w : World} {B n sz : Nat} {t : TypeId} {v : Value} {xs : List Value} (h : w.ownsRow B t sz v n xs) (hn : 0 < n) : ∃ b cap, v = .slice (some ⟨b, 0, none⟩) n cap ∧ n ≤ cap := by
 rcases h.2 with ⟨_, h0⟩ | ⟨b, cap, cur, e, _, _, hnc, _⟩
 ·omega
 ·exact ⟨b, cap, e, hnc⟩
def IntsK (k : IntKind) (xs : List Value) : Prop := ∀ v ∈ xs, ∃ x, v = .int k x
theorem IntsK.at {k : IntKind} {xs : List Value} (h : IntsK k xs) {i : Nat} (hi : i < xs.length) : ∃ x, xs[i]? = some (.int k x) := by
 obtain ⟨x, hx⟩ := h xs[i] (List.getElem_mem hi)
 exact ⟨x, by rw [List.getElem?_eq_getElem hi, hx]⟩
theorem IntsK.set {k : IntKind} {xs : List Value} (h : IntsK k xs) (i : Nat) (x : Int) : IntsK k (xs.set i (.int k x)) := fun v hv => by
 rcases List.mem_or_eq_of_mem_set hv with q | q
 ·exact h v q
 ·exact ⟨x, q⟩
theorem IntsK.nums (k : IntKind) (f : Nat → Int) (n : Nat) : IntsK k (nums k f n) := fun v hv => by
 simp only [Go.Proofs.YtmoklddfaocihaaDoor.nums, List.mem_map] at hv
 obtain ⟨j, _, rfl⟩ := hv
 exact ⟨_, rfl⟩
theorem IntsK.nums2 (o a : Nat → Int) (n : Nat) : IntsK .i64 (nums2 o a n) := fun v hv => by
 simp only [Go.Proofs.YtmoklddfaocihaaDoor.nums2, List.mem_map] at hv
 obtain ⟨j, _, rfl⟩ := hv
 split
 ·exact ⟨_, rfl⟩
 ·exact ⟨_, rfl⟩
theorem IntsK.app {k : IntKind} {xs ys : List Value} (h : IntsK k xs) (h2 : IntsK k ys) : IntsK k (xs ++ ys) := fun v hv => by
 rcases List.mem_append.1 hv with q | q
 ·exact h v q
 ·exact h2 v q
/-- The law's spoil under way: the box, three rows of numbers. -/
structure So (W : World) (B H : Nat) (g : Pg) (p : Pv) (vc vs vi : Value) (n0 n1 n2 : Nat) (xc xs xi : List Value) (w : World) : Prop where
 pb : w.heap[W.heap.size]? = some (.cells (g.cs p).toArray 27 (0, 0))
 c : w.ownsRow B 42 1 vc n0 xc
 s : w.ownsRow B 3 1 vs n1 xs
 i : w.ownsRow B 83 2 vi n2 xi
 kc : IntsK .u64 xc
 ks : IntsK .i64 xs
 ki : IntsK .i64 xi
 bel : Below B W w
 sz : W.heap.size < w.heap.size
 lb : B ≤ W.heap.size
 mid : ∀ b, H ≤ b → b < W.heap.size → w.heap[b]? = W.heap[b]?
 oc : ∀ q, vc.ownBlock = some q → q < H ∨ W.heap.size ≤ q
 os : ∀ q, vs.ownBlock = some q → q < H ∨ W.heap.size ≤ q
 oi : ∀ q, vi.ownBlock = some q → q < H ∨ W.heap.size ≤ q
section
variable {W : World} {B H : Nat} {g : Pg} {p : Pv} {vc vs vi : Value} {n0 n1 n2 : Nat} {xc xs xi : List Value} {w w' : World}
theorem So.next (h : So W B H g p vc vs vi n0 n1 n2 xc xs xi w) (hb : Below w.heap.size w w') : So W B H g p vc vs vi n0 n1 n2 xc xs xi w' :=
 ⟨(hb.block _ (block_lt h.pb)).trans h.pb, own_keep h.c hb, own_keep h.s hb, own_keep h.i hb, h.kc, h.ks, h.ki, h.bel.trans (hb.mono (by have := h.sz; have := h.lb; omega)), Nat.lt_of_lt_of_le h.sz hb.size, h.lb, fun b h1 h2 => (hb.block b (Nat.lt_trans h2 h.sz)).trans (h.mid b h1 h2), h.oc, h.os, h.oi⟩
theorem So.setC {b cap j : Nat} {x : Int} (h : So W B H g p (.slice (some ⟨b, 0, none⟩) n0 cap) vs vi n0 n1 n2 xc xs xi w) (hj : j < n0 * 1) : So W B H g p (.slice (some ⟨b, 0, none⟩) n0 cap) vs vi n0 n1 n2 (xc.set j (.int .u64 x)) xs xi (w.setCell ⟨b, j, none⟩ (.int .u64 x)) := by
 have hg := grown_setT w b j (.int .u64 x)
 obtain ⟨hb, cs, hc⟩ := own_typ2 h.c (b := b) rfl
 have p1 := (hg.block _ (block_lt h.pb) (fun y => own_off2 h.c (by decide) h.pb (by rw [y]; rfl))).trans h.pb
 exact ⟨p1, own_set h.c hj, own_offT h.s hc (by decide) hg, own_offT h.i hc (by decide) hg, h.kc.set j x, h.ks, h.ki, h.bel.trans ((Below.refl _ w).setCell (p := ⟨b, j, none⟩) hb _), Nat.lt_of_lt_of_le h.sz hg.size, h.lb, fun b' h1 h2 => (hg.block b' (Nat.lt_trans h2 h.sz) (fun e => by have e1 := h.oc b rfl; have e2 : b' = b := (by simpa using e); omega)).trans (h.mid b' h1 h2), h.oc, h.os, h.oi⟩
theorem So.appC {v' : Value} {ys : List Value} {o : Obj} (h : So W B H g p vc vs vi n0 n1 n2 xc xs xi w) (hy : IntsK .u64 ys) (ho : w'.ownsRow B 42 1 v' (n0 + 1) (xc ++ ys)) (hg : (w.alloc o).grownBy w' vc.ownBlock) (hq : ∀ q, v'.ownBlock = some q → vc.ownBlock = some q ∨ (w.alloc o).heap.size ≤ q) : So W B H g p v' vs vi (n0 + 1) n1 n2 (xc ++ ys) xs xi w' := by
 have hn := h.next (below_alloc1 w o)
 have row : ∀ {t : TypeId} {v : Value} {n sz : Nat} {zs : List Value}, (42 : TypeId) ≠ t → (w.alloc o).ownsRow B t sz v n zs → w'.ownsRow B t sz v n zs := fun ht hr => by
  refine hr.kept hg ?_
  cases e : Value.ownBlock _ with
  | none => exact .inl rfl
  | some b =>
   obtain ⟨_, cs, hc⟩ := own_typ2 hr e
   exact .inr (fun x => own_off2 hn.c ht hc x.symm)
 have p1 := (hg.block _ (block_lt hn.pb) (fun x => own_off2 hn.c (by decide) hn.pb x.symm)).trans hn.pb
 exact ⟨p1, ho, row (by decide) hn.s, row (by decide) hn.i, h.kc.app hy, h.ks, h.ki, hn.bel.trans ((Below.refl _ _).grown hg (by have := hn.sz; have := hn.lb; omega) (fun x hx => (hn.c.lt x hx).1)), Nat.lt_of_lt_of_le hn.sz hg.size, h.lb, fun b' h1 h2 => (hg.block b' (Nat.lt_trans h2 hn.sz) (fun e => by have := h.oc b' e.symm; omega)).trans (hn.mid b' h1 h2), fun q e => (hq q e).elim (h.oc q) (fun l => .inr (Nat.le_trans (Nat.le_of_lt hn.sz) l)), h.os, h.oi⟩
theorem So.setS {b cap j : Nat} {x : Int} (h : So W B H g p vc (.slice (some ⟨b, 0, none⟩) n1 cap) vi n0 n1 n2 xc xs xi w) (hj : j < n1 * 1) : So W B H g p vc (.slice (some ⟨b, 0, none⟩) n1 cap) vi n0 n1 n2 xc (xs.set j (.int .i64 x)) xi (w.setCell ⟨b, j, none⟩ (.int .i64 x)) := by
 have hg := grown_setT w b j (.int .i64 x)
 obtain ⟨hb, cs, hc⟩ := own_typ2 h.s (b := b) rfl
 have p1 := (hg.block _ (block_lt h.pb) (fun y => own_off2 h.s (by decide) h.pb (by rw [y]; rfl))).trans h.pb
 exact ⟨p1, own_offT h.c hc (by decide) hg, own_set h.s hj, own_offT h.i hc (by decide) hg, h.kc, h.ks.set j x, h.ki, h.bel.trans ((Below.refl _ w).setCell (p := ⟨b, j, none⟩) hb _), Nat.lt_of_lt_of_le h.sz hg.size, h.lb, fun b' h1 h2 => (hg.block b' (Nat.lt_trans h2 h.sz) (fun e => by have e1 := h.os b rfl; have e2 : b' = b := (by simpa using e); omega)).trans (h.mid b' h1 h2), h.oc, h.os, h.oi⟩
theorem So.appS {v' : Value} {ys : List Value} {o : Obj} (h : So W B H g p vc vs vi n0 n1 n2 xc xs xi w) (hy : IntsK .i64 ys) (ho : w'.ownsRow B 3 1 v' (n1 + 1) (xs ++ ys)) (hg : (w.alloc o).grownBy w' vs.ownBlock) (hq : ∀ q, v'.ownBlock = some q → vs.ownBlock = some q ∨ (w.alloc o).heap.size ≤ q) : So W B H g p vc v' vi n0 (n1 + 1) n2 xc (xs ++ ys) xi w' := by
 have hn := h.next (below_alloc1 w o)
 have row : ∀ {t : TypeId} {v : Value} {n sz : Nat} {zs : List Value}, (3 : TypeId) ≠ t → (w.alloc o).ownsRow B t sz v n zs → w'.ownsRow B t sz v n zs := fun ht hr => by
  refine hr.kept hg ?_
  cases e : Value.ownBlock _ with
  | none => exact .inl rfl
  | some b =>
   obtain ⟨_, cs, hc⟩ := own_typ2 hr e
   exact .inr (fun x => own_off2 hn.s ht hc x.symm)
 have p1 := (hg.block _ (block_lt hn.pb) (fun x => own_off2 hn.s (by decide) hn.pb x.symm)).trans hn.pb
 exact ⟨p1, row (by decide) hn.c, ho, row (by decide) hn.i, h.kc, h.ks.app hy, h.ki, hn.bel.trans ((Below.refl _ _).grown hg (by have := hn.sz; have := hn.lb; omega) (fun x hx => (hn.s.lt x hx).1)), Nat.lt_of_lt_of_le hn.sz hg.size, h.lb, fun b' h1 h2 => (hg.block b' (Nat.lt_trans h2 hn.sz) (fun e => by have := h.os b' e.symm; omega)).trans (hn.mid b' h1 h2), h.oc, fun q e => (hq q e).elim (h.os q) (fun l => .inr (Nat.le_trans (Nat.le_of_lt hn.sz) l)), h.oi⟩
theorem So.setI {b cap j : Nat} {x : Int} (h : So W B H g p vc vs (.slice (some ⟨b, 0, none⟩) n2 cap) n0 n1 n2 xc xs xi w) (hj : j < n2 * 2) : So W B H g p vc vs (.slice (some ⟨b, 0, none⟩) n2 cap) n0 n1 n2 xc xs (xi.set j (.int .i64 x)) (w.setCell ⟨b, j, none⟩ (.int .i64 x)) := by
 have hg := grown_setT w b j (.int .i64 x)
 obtain ⟨hb, cs, hc⟩ := own_typ2 h.i (b := b) rfl
 have p1 := (hg.block _ (block_lt h.pb) (fun y => own_off2 h.i (by decide) h.pb (by rw [y]; rfl))).trans h.pb
 exact ⟨p1, own_offT h.c hc (by decide) hg, own_offT h.s hc (by decide) hg, own_set h.i hj, h.kc, h.ks, h.ki.set j x, h.bel.trans ((Below.refl _ w).setCell (p := ⟨b, j, none⟩) hb _), Nat.lt_of_lt_of_le h.sz hg.size, h.lb, fun b' h1 h2 => (hg.block b' (Nat.lt_trans h2 h.sz) (fun e => by have e1 := h.oi b rfl; have e2 : b' = b := (by simpa using e); omega)).trans (h.mid b' h1 h2), h.oc, h.os, h.oi⟩
theorem So.appI {v' : Value} {ys : List Value} {o : Obj} (h : So W B H g p vc vs vi n0 n1 n2 xc xs xi w) (hy : IntsK .i64 ys) (ho : w'.ownsRow B 83 2 v' (n2 + 1) (xi ++ ys)) (hg : (w.alloc o).grownBy w' vi.ownBlock) (hq : ∀ q, v'.ownBlock = some q → vi.ownBlock = some q ∨ (w.alloc o).heap.size ≤ q) : So W B H g p vc vs v' n0 n1 (n2 + 1) xc xs (xi ++ ys) w' := by
 have hn := h.next (below_alloc1 w o)
 have row : ∀ {t : TypeId} {v : Value} {n sz : Nat} {zs : List Value}, (83 : TypeId) ≠ t → (w.alloc o).ownsRow B t sz v n zs → w'.ownsRow B t sz v n zs := fun ht hr => by
  refine hr.kept hg ?_
  cases e : Value.ownBlock _ with
  | none => exact .inl rfl
  | some b =>
   obtain ⟨_, cs, hc⟩ := own_typ2 hr e
   exact .inr (fun x => own_off2 hn.i ht hc x.symm)
 have p1 := (hg.block _ (block_lt hn.pb) (fun x => own_off2 hn.i (by decide) hn.pb x.symm)).trans hn.pb
 exact ⟨p1, row (by decide) hn.c, row (by decide) hn.s, ho, h.kc, h.ks, h.ki.app hy, hn.bel.trans ((Below.refl _ _).grown hg (by have := hn.sz; have := hn.lb; omega) (fun x hx => (hn.i.lt x hx).1)), Nat.lt_of_lt_of_le hn.sz hg.size, h.lb, fun b' h1 h2 => (hg.block b' (Nat.lt_trans h2 hn.sz) (fun e => by have := h.oi b' e.symm; omega)).trans (hn.mid b' h1 h2), h.oc, h.os, fun q e => (hq q e).elim (h.oi q) (fun l => .inr (Nat.le_trans (Nat.le_of_lt hn.sz) l))⟩
end
def Bh (H : Nat) (g : Pg) : Prop := (∀ a, g.ca = some a → a.block < H) ∧ (∀ a, g.sa = some a → a.block < H) ∧ (∀ a, g.ia = some a → a.block < H)
theorem own_bh {a : Option Addr} {n c H q : Nat} {S : Prop} (h : ∀ x, a = some x → x.block < H) (e : (Value.slice a n c).ownBlock = some q) : q < H ∨ S := by
 cases a with
 | none => simp [Value.ownBlock] at e
 | some x =>
  simp [Value.ownBlock] at e
  exact .inl (e ▸ h x rfl)
theorem so_new {W W1 : World} {B H : Nat} {g : Pg} {p : Pv} (h : Po B g p W) (hB : B ≤ W.heap.size) (hH : Bh H g) (hW : W.alloc (.cells (g.cs p).toArray 27) = W1) : So W B H g p (.slice g.ca p.nc g.cc) (.slice g.sa p.ns g.sc) (.slice g.ia p.n g.ic) p.nc p.ns p.n (nums .u64 p.C p.nc) (nums .i64 p.S p.ns) (nums2 p.op p.arg p.n) W1 := by
 have B1 : Below W.heap.size W W1 := by rw [← hW]; exact below_alloc1 W _
 have A1 : W1.heap[W.heap.size]? = some (.cells (g.cs p).toArray 27 (0, 0)) := by rw [← hW]; exact alloc_atK _ _
 exact ⟨A1, own_keep h.c B1, own_keep h.s B1, own_keep h.i B1, IntsK.nums _ _ _, IntsK.nums _ _ _, IntsK.nums2 _ _ _, B1.mono hB, block_lt A1, hB, fun b _ h2 => B1.block b h2, fun q e => own_bh hH.1 e, fun q e => own_bh hH.2.1 e, fun q e => own_bh hH.2.2 e⟩
end Go.Proofs.YtmoklddfaocihaaDoor
namespace Go.Proofs.YtmoklddfaocihaaDoor
open Go.RowKit

set_option maxRecDepth 10000 in
set_option maxHeartbeats 12800000 in
/-- The law's spoil. -/
theorem spoilQ {W : World} {B H : Nat} {g : Pg} {p : Pv} (h : Po B g p W) (hB : B ≤ W.heap.size) (hH : Bh H g) (hlc : p.nc ≤ 1024) (hls : p.ns ≤ 1024) (hli : p.n ≤ 1024) : Calls Tryd.prog 12 #[.agg (g.cs p).toArray] W fun e w' => e = .returned (.tuple #[]) ∧ Hid (Below B W w' ∧ W.heap.size ≤ w'.heap.size ∧ ∀ b, H ≤ b → b < W.heap.size → w'.heap[b]? = W.heap[b]?) := by
 obtain ⟨iU, hU, hU0, hU1, hU2⟩ := info_parts Tryd.infoU
 obtain ⟨iI, hI, hI0, hI1, hI2⟩ := info_parts Tryd.infoI
 obtain ⟨iN, hN, hN0, hN1, hN2⟩ := info_parts Tryd.infoN
 obtain ⟨W1, hW1⟩ : ∃ W1, W.alloc (.cells (g.cs p).toArray 27) = W1 := ⟨_, rfl⟩
 have HQ : Hid (∃ xc xs xi, So W B H g p (.slice g.ca p.nc g.cc) (.slice g.sa p.ns g.sc) (.slice g.ia p.n g.ic) p.nc p.ns p.n xc xs xi W1) := ⟨_, _, _, so_new h hB hH hW1⟩
 have HW1 := hide hW1
 have HCS : Hid (g.cs p = [.slice g.ca p.nc g.cc, .slice g.sa p.ns g.sc, .int .i64 (p.en 0), .int .i64 (p.en 1), .int .i64 (p.en 2), .int .i64 (p.en 3), .int .i64 (p.en 4), .int .i64 (p.en 5), .slice g.ia p.n g.ic]) := rfl
 rw [HCS.out] at HW1 ⊢
 clear h hB hH hW1
 go_enter Tryd.func12, Tryd.ntmps12
 go_upto_region 1 with fail
 rw [HW1.out]
 clear HW1
 go_upto_block 0 with fail
 go_cut [2] from 8 (fun _ V => Hid (∃ xc xs xi, So W B H g p (.slice g.ca p.nc g.cc) (.slice g.sa p.ns g.sc) (.slice g.ia p.n g.ic) p.nc p.ns p.n xc xs xi V))
 case first =>
  go_wp2
  go_loopw [2] (fun i wr => ∃ j : Nat, j ≤ p.nc ∧ i = .int .i64 (j : Nat) ∧ Hid (∃ xc xs xi, So W B H g p (.slice g.ca p.nc g.cc) (.slice g.sa p.ns g.sc) (.slice g.ia p.n g.ic) p.nc p.ns p.n xc xs xi wr)) (fun i _ => p.nc - (intOf i).toNat)
  case atStart => exact ⟨0, by omega, rfl, HQ.out⟩
  case round =>
   obtain ⟨j, hj, rfl, HJ⟩ := hrel
   clear HQ
   obtain ⟨xc, xs, xi, hso⟩ := HJ.out
   have y := block_cell hso.pb 0
   have yl := block_lt hso.pb
   simp [Pg.cs] at y
   by_cases hlt : j < p.nc
   ·obtain ⟨b, cap, hv, hcap⟩ := own_some hso.c (by omega)
    have hia : g.ca = some ⟨b, 0, none⟩ := (Value.slice.inj hv).1
    have hcc : g.cc = cap := (Value.slice.inj hv).2.2
    rw [← hcc] at hcap
    have hrow := hso.c
    rw [hia] at hrow
    obtain ⟨gl, cj, cf⟩ := own_cell (i := j) hrow (by omega)
    obtain ⟨x, hx⟩ := hso.kc.at (i := j) (by rw [hrow.1]; omega)
    rw [hx] at cj
    rw [hia] at y
    have HIA := hide hia
    have HN : Hid (∀ z : Int, So W B H g p (.slice (some ⟨b, 0, none⟩) p.nc g.cc) (.slice g.sa p.ns g.sc) (.slice g.ia p.n g.ic) p.nc p.ns p.n (xc.set (j) (.int .u64 z)) xs xi (wr.drew.setCell ⟨b, j, none⟩ (.int .u64 z))) := fun z => by
     have q := hso.next (w' := wr.drew) (Below.refl _ _).drew
     rw [hia] at q
     exact q.setC (by omega)
    have HS9 : Hid ((fun (w : World) => w.cell? ⟨W.heap.size, 0, none⟩ = some (.slice (some ⟨b, 0, none⟩) p.nc g.cc) ∧ W.heap.size < w.heap.size ∧ w.cell? ⟨b, j, none⟩ = some (.int .u64 x) ∧ b < w.heap.size ∧ w.frozen? ⟨b, j, none⟩ = false) wr.drew) := ⟨y, yl, cj, gl, cf⟩
    clear hso HJ hv hia hrow hx hcc
    go_upto_region 4 with fail
    clear y yl cj gl cf
    refine wp_region_L 10 (fun (w : World) => w.cell? ⟨W.heap.size, 0, none⟩ = some (.slice (some ⟨b, 0, none⟩) p.nc g.cc) ∧ W.heap.size < w.heap.size ∧ w.cell? ⟨b, j, none⟩ = some (.int .u64 x) ∧ b < w.heap.size ∧ w.frozen? ⟨b, j, none⟩ = false) (fun _ => True) (by kernel_rfl) HS9.out trivial (fun hS0 => ?_)
    generalize wr.drew = wz at *
    refine wpAnyL_take (i := 0) (oi := ⟨some 15, .fieldAddr 27 (.tmp 1) 0, 0, "exact.go:56", #[], none⟩) (v := .pointer (some ⟨W.heap.size, 0, none⟩)) rfl (by decide) (by kernel_rfl) (by kernel_rfl) (by kernel_rfl) (fun _ _ _ h => h) (Or.inl ⟨by rfl, fun w2 hSw => ?_⟩) hS0 (fun hS1 => ?_)
    ·go_simp
    simp only [Act.put, lsA, lsB, lsC]
    clear hS0
    refine wpAnyL_take1 (i := 1) (oi := ⟨some 16, .load 22 (.tmp 15), 22, "exact.go:56", #[⟨0, .data⟩], none⟩) (v := .slice (some ⟨b, 0, none⟩) p.nc g.cc) rfl (by decide) (by kernel_rfl) (by kernel_rfl) (by kernel_rfl) (fun _ _ _ h => h) (Or.inl ⟨by rfl, fun w2 hSw => ?_⟩) hS1 (by kernel_rfl) rfl (by kernel_rfl) (fun hS2 => ?_)
    ·obtain ⟨k8, kl, kj, gl, kf⟩ := hSw
     go_simp
    simp only [Act.put, lsA, lsB, lsC]
    clear hS1
    refine wpAnyL_take (i := 2) (oi := ⟨some 17, .move (.tmp 2), 3, "exact.go:56", #[], none⟩) (v := .int .i64 (j : Nat)) rfl (by decide) (by kernel_rfl) (by kernel_rfl) (by kernel_rfl) (fun _ _ _ h => h) (Or.inl ⟨by rfl, fun w2 hSw => ?_⟩) hS2 (fun hS3 => ?_)
    ·go_simp
    simp only [Act.put, lsA, lsB, lsC]
    clear hS2
    refine wpAnyL_take (i := 3) (oi := ⟨some 18, .fieldAddr 27 (.tmp 1) 0, 0, "exact.go:56", #[], none⟩) (v := .pointer (some ⟨W.heap.size, 0, none⟩)) rfl (by decide) (by kernel_rfl) (by kernel_rfl) (by kernel_rfl) (fun _ _ _ h => h) (Or.inl ⟨by rfl, fun w2 hSw => ?_⟩) hS3 (fun hS4 => ?_)
    ·go_simp
    simp only [Act.put, lsA, lsB, lsC]
    clear hS3
    refine wpAnyL_take1 (i := 4) (oi := ⟨some 19, .load 22 (.tmp 18), 22, "exact.go:56", #[⟨3, .data⟩], none⟩) (v := .slice (some ⟨b, 0, none⟩) p.nc g.cc) rfl (by decide) (by kernel_rfl) (by kernel_rfl) (by kernel_rfl) (fun _ _ _ h => h) (Or.inl ⟨by rfl, fun w2 hSw => ?_⟩) hS4 (by kernel_rfl) rfl (by kernel_rfl) (fun hS5 => ?_)
    ·obtain ⟨k8, kl, kj, gl, kf⟩ := hSw
     go_simp
    simp only [Act.put, lsA, lsB, lsC]
    clear hS4
    refine wpAnyL_take (i := 5) (oi := ⟨some 20, .move (.tmp 2), 3, "exact.go:56", #[], none⟩) (v := .int .i64 (j : Nat)) rfl (by decide) (by kernel_rfl) (by kernel_rfl) (by kernel_rfl) (fun _ _ _ h => h) (Or.inl ⟨by rfl, fun w2 hSw => ?_⟩) hS5 (fun hS6 => ?_)
    ·go_simp
    simp only [Act.put, lsA, lsB, lsC]
    clear hS5
    refine wpAnyL_take (i := 6) (oi := ⟨some 21, .indexAddr 22 (.tmp 19) (.tmp 20), 0, "exact.go:56", #[⟨4, .data⟩, ⟨5, .data⟩], none⟩) (v := .pointer (some ⟨b, j, none⟩)) rfl (by decide) (by kernel_rfl) (by kernel_rfl) (by kernel_rfl) (fun _ _ _ h => h) (Or.inl ⟨by rfl, fun w2 hSw => ?_⟩) hS6 (fun hS7 => ?_)
    ·go_simp
    simp only [Act.put, lsA, lsB, lsC]
    clear hS6
    refine wpAnyL_take1 (i := 7) (oi := ⟨some 22, .load 42 (.tmp 21), 42, "exact.go:56", #[⟨6, .data⟩], none⟩) (v := .int .u64 x) rfl (by decide) (by kernel_rfl) (by kernel_rfl) (by kernel_rfl) (fun _ _ _ h => h) (Or.inl ⟨by rfl, fun w2 hSw => ?_⟩) hS7 (by kernel_rfl) rfl (by kernel_rfl) (fun hS8 => ?_)
    ·obtain ⟨k8, kl, kj, gl, kf⟩ := hSw
     go_simp
    simp only [Act.put, lsA, lsB, lsC]
    clear hS7
    refine wpAnyL_take (i := 8) (oi := ⟨some 23, .binOp .add 42 (.tmp 22) (.const (.int .u64 1)) 42, 42, "exact.go:56", #[⟨7, .data⟩], none⟩) (v := .int .u64 (IntKind.u64.wrap (x + 1))) rfl (by decide) (by kernel_rfl) (by kernel_rfl) (by kernel_rfl) (fun _ _ _ h => h) (Or.inl ⟨by rfl, fun w2 hSw => ?_⟩) hS8 (fun hS9 => ?_)
    ·go_simp
    simp only [Act.put, lsA, lsB, lsC]
    clear hS8
    refine wpAnyL_take (i := 9) (oi := ⟨some 24, .indexAddr 22 (.tmp 16) (.tmp 17), 0, "exact.go:56", #[⟨1, .data⟩, ⟨2, .data⟩, ⟨0, .phase⟩, ⟨1, .phase⟩, ⟨2, .phase⟩, ⟨3, .phase⟩, ⟨4, .phase⟩, ⟨5, .phase⟩, ⟨6, .phase⟩, ⟨7, .phase⟩, ⟨8, .phase⟩], none⟩) (v := .pointer (some ⟨b, j, none⟩)) rfl (by decide) (by kernel_rfl) (by kernel_rfl) (by kernel_rfl) (fun _ _ _ h => h) (Or.inl ⟨by rfl, fun w2 hSw => ?_⟩) hS9 (fun hS10 => ?_)
    ·go_simp
    simp only [Act.put, lsA, lsB, lsC]
    clear hS9
    obtain ⟨k8, kl, kj, gl, kf⟩ := hS10.1 rfl
    clear hS10
    refine wpAnyL_one (i := 10) (o := ⟨none, .store 42 (.tmp 24) (.tmp 23), 0, "exact.go:56", #[⟨9, .data⟩, ⟨8, .data⟩, ⟨0, .phase⟩, ⟨1, .phase⟩, ⟨2, .phase⟩, ⟨3, .phase⟩, ⟨4, .phase⟩, ⟨5, .phase⟩, ⟨6, .phase⟩, ⟨7, .phase⟩, ⟨8, .phase⟩], none⟩) (by kernel_rfl) rfl (fun K hK => ?_)
    go_simp
    go_wp2_with fail
    refine hK.out _ _ ⟨fun h => (by cases (show true = false from h)), trivial⟩ ?_
    clear hK K k8 kl kj gl kf
    refine wpAnyL_done (by kernel_rfl) ?_ _
    have HNX : Hid (∀ z : Int, ∃ xc xs xi, So W B H g p (.slice g.ca p.nc g.cc) (.slice g.sa p.ns g.sc) (.slice g.ia p.n g.ic) p.nc p.ns p.n xc xs xi (wz.setCell ⟨b, j, none⟩ (.int .u64 z))) := fun z => by
     have q := HN.out z
     rw [← HIA.out] at q
     exact ⟨_, _, _, q⟩
    clear HN HS9
    go_wp2
    go_roundw
    case rel => exact ⟨j + 1, by omega, by go_num, HNX.out _⟩
    case measure => simp [intOf]; omega
   ·obtain rfl : j = p.nc := by omega
    clear hso
    go_wp2
    go_meet
    case rel => exact HJ.out
 case rest =>
 clear HQ
 have HQ := hide hcut.out
 clear hcut
 go_upto_block 2 with fail
 go_cut [3] from 25 (fun _ V => Hid (∃ xc xs xi, So W B H g p (.slice g.ca p.nc g.cc) (.slice g.sa p.ns g.sc) (.slice g.ia p.n g.ic) p.nc p.ns p.n xc xs xi V))
 case first =>
  go_wp2
  go_loopw [3] (fun i wr => ∃ j : Nat, j ≤ p.ns ∧ i = .int .i64 (j : Nat) ∧ Hid (∃ xc xs xi, So W B H g p (.slice g.ca p.nc g.cc) (.slice g.sa p.ns g.sc) (.slice g.ia p.n g.ic) p.nc p.ns p.n xc xs xi wr)) (fun i _ => p.ns - (intOf i).toNat)
  case atStart => exact ⟨0, by omega, rfl, HQ.out⟩
  case round =>
   obtain ⟨j, hj, rfl, HJ⟩ := hrel
   clear HQ
   obtain ⟨xc, xs, xi, hso⟩ := HJ.out
   have y := block_cell hso.pb 1
   have yl := block_lt hso.pb
   simp [Pg.cs] at y
   by_cases hlt : j < p.ns
   ·obtain ⟨b, cap, hv, hcap⟩ := own_some hso.s (by omega)
    have hia : g.sa = some ⟨b, 0, none⟩ := (Value.slice.inj hv).1
    have hcc : g.sc = cap := (Value.slice.inj hv).2.2
    rw [← hcc] at hcap
    have hrow := hso.s
    rw [hia] at hrow
    obtain ⟨gl, cj, cf⟩ := own_cell (i := j) hrow (by omega)
    obtain ⟨x, hx⟩ := hso.ks.at (i := j) (by rw [hrow.1]; omega)
    rw [hx] at cj
    rw [hia] at y
    have HIA := hide hia
    have HN : Hid (∀ z : Int, So W B H g p (.slice g.ca p.nc g.cc) (.slice (some ⟨b, 0, none⟩) p.ns g.sc) (.slice g.ia p.n g.ic) p.nc p.ns p.n xc (xs.set (j) (.int .i64 z)) xi (wr.drew.setCell ⟨b, j, none⟩ (.int .i64 z))) := fun z => by
     have q := hso.next (w' := wr.drew) (Below.refl _ _).drew
     rw [hia] at q
     exact q.setS (by omega)
    have HS9 : Hid ((fun (w : World) => w.cell? ⟨W.heap.size, 1, none⟩ = some (.slice (some ⟨b, 0, none⟩) p.ns g.sc) ∧ W.heap.size < w.heap.size ∧ w.cell? ⟨b, j, none⟩ = some (.int .i64 x) ∧ b < w.heap.size ∧ w.frozen? ⟨b, j, none⟩ = false) wr.drew) := ⟨y, yl, cj, gl, cf⟩
    clear hso HJ hv hia hrow hx hcc
    go_upto_region 8 with fail
    clear y yl cj gl cf
    refine wp_region_L 10 (fun (w : World) => w.cell? ⟨W.heap.size, 1, none⟩ = some (.slice (some ⟨b, 0, none⟩) p.ns g.sc) ∧ W.heap.size < w.heap.size ∧ w.cell? ⟨b, j, none⟩ = some (.int .i64 x) ∧ b < w.heap.size ∧ w.frozen? ⟨b, j, none⟩ = false) (fun _ => True) (by kernel_rfl) HS9.out trivial (fun hS0 => ?_)
    generalize wr.drew = wz at *
    refine wpAnyL_take (i := 0) (oi := ⟨some 32, .fieldAddr 27 (.tmp 1) 1, 0, "exact.go:59", #[], none⟩) (v := .pointer (some ⟨W.heap.size, 1, none⟩)) rfl (by decide) (by kernel_rfl) (by kernel_rfl) (by kernel_rfl) (fun _ _ _ h => h) (Or.inl ⟨by rfl, fun w2 hSw => ?_⟩) hS0 (fun hS1 => ?_)
    ·go_simp
    simp only [Act.put, lsA, lsB, lsC]
    clear hS0
    refine wpAnyL_take1 (i := 1) (oi := ⟨some 33, .load 23 (.tmp 32), 23, "exact.go:59", #[⟨0, .data⟩], none⟩) (v := .slice (some ⟨b, 0, none⟩) p.ns g.sc) rfl (by decide) (by kernel_rfl) (by kernel_rfl) (by kernel_rfl) (fun _ _ _ h => h) (Or.inl ⟨by rfl, fun w2 hSw => ?_⟩) hS1 (by kernel_rfl) rfl (by kernel_rfl) (fun hS2 => ?_)
    ·obtain ⟨k8, kl, kj, gl, kf⟩ := hSw
     go_simp
    simp only [Act.put, lsA, lsB, lsC]
    clear hS1
    refine wpAnyL_take (i := 2) (oi := ⟨some 34, .move (.tmp 3), 3, "exact.go:59", #[], none⟩) (v := .int .i64 (j : Nat)) rfl (by decide) (by kernel_rfl) (by kernel_rfl) (by kernel_rfl) (fun _ _ _ h => h) (Or.inl ⟨by rfl, fun w2 hSw => ?_⟩) hS2 (fun hS3 => ?_)
    ·go_simp
    simp only [Act.put, lsA, lsB, lsC]
    clear hS2
    refine wpAnyL_take (i := 3) (oi := ⟨some 35, .fieldAddr 27 (.tmp 1) 1, 0, "exact.go:59", #[], none⟩) (v := .pointer (some ⟨W.heap.size, 1, none⟩)) rfl (by decide) (by kernel_rfl) (by kernel_rfl) (by kernel_rfl) (fun _ _ _ h => h) (Or.inl ⟨by rfl, fun w2 hSw => ?_⟩) hS3 (fun hS4 => ?_)
    ·go_simp
    simp only [Act.put, lsA, lsB, lsC]
    clear hS3
    refine wpAnyL_take1 (i := 4) (oi := ⟨some 36, .load 23 (.tmp 35), 23, "exact.go:59", #[⟨3, .data⟩], none⟩) (v := .slice (some ⟨b, 0, none⟩) p.ns g.sc) rfl (by decide) (by kernel_rfl) (by kernel_rfl) (by kernel_rfl) (fun _ _ _ h => h) (Or.inl ⟨by rfl, fun w2 hSw => ?_⟩) hS4 (by kernel_rfl) rfl (by kernel_rfl) (fun hS5 => ?_)
    ·obtain ⟨k8, kl, kj, gl, kf⟩ := hSw
     go_simp
    simp only [Act.put, lsA, lsB, lsC]
    clear hS4
    refine wpAnyL_take (i := 5) (oi := ⟨some 37, .move (.tmp 3), 3, "exact.go:59", #[], none⟩) (v := .int .i64 (j : Nat)) rfl (by decide) (by kernel_rfl) (by kernel_rfl) (by kernel_rfl) (fun _ _ _ h => h) (Or.inl ⟨by rfl, fun w2 hSw => ?_⟩) hS5 (fun hS6 => ?_)
    ·go_simp
    simp only [Act.put, lsA, lsB, lsC]
    clear hS5
    refine wpAnyL_take (i := 6) (oi := ⟨some 38, .indexAddr 23 (.tmp 36) (.tmp 37), 0, "exact.go:59", #[⟨4, .data⟩, ⟨5, .data⟩], none⟩) (v := .pointer (some ⟨b, j, none⟩)) rfl (by decide) (by kernel_rfl) (by kernel_rfl) (by kernel_rfl) (fun _ _ _ h => h) (Or.inl ⟨by rfl, fun w2 hSw => ?_⟩) hS6 (fun hS7 => ?_)
    ·go_simp
    simp only [Act.put, lsA, lsB, lsC]
    clear hS6
    refine wpAnyL_take1 (i := 7) (oi := ⟨some 39, .load 3 (.tmp 38), 3, "exact.go:59", #[⟨6, .data⟩], none⟩) (v := .int .i64 x) rfl (by decide) (by kernel_rfl) (by kernel_rfl) (by kernel_rfl) (fun _ _ _ h => h) (Or.inl ⟨by rfl, fun w2 hSw => ?_⟩) hS7 (by kernel_rfl) rfl (by kernel_rfl) (fun hS8 => ?_)
    ·obtain ⟨k8, kl, kj, gl, kf⟩ := hSw
     go_simp
    simp only [Act.put, lsA, lsB, lsC]
    clear hS7
    refine wpAnyL_take (i := 8) (oi := ⟨some 40, .binOp .sub 3 (.const (.int .i64 1)) (.tmp 39) 3, 3, "exact.go:59", #[⟨7, .data⟩], none⟩) (v := .int .i64 (IntKind.i64.wrap (1 - x))) rfl (by decide) (by kernel_rfl) (by kernel_rfl) (by kernel_rfl) (fun _ _ _ h => h) (Or.inl ⟨by rfl, fun w2 hSw => ?_⟩) hS8 (fun hS9 => ?_)
    ·go_simp
    simp only [Act.put, lsA, lsB, lsC]
    clear hS8
    refine wpAnyL_take (i := 9) (oi := ⟨some 41, .indexAddr 23 (.tmp 33) (.tmp 34), 0, "exact.go:59", #[⟨1, .data⟩, ⟨2, .data⟩, ⟨0, .phase⟩, ⟨1, .phase⟩, ⟨2, .phase⟩, ⟨3, .phase⟩, ⟨4, .phase⟩, ⟨5, .phase⟩, ⟨6, .phase⟩, ⟨7, .phase⟩, ⟨8, .phase⟩], none⟩) (v := .pointer (some ⟨b, j, none⟩)) rfl (by decide) (by kernel_rfl) (by kernel_rfl) (by kernel_rfl) (fun _ _ _ h => h) (Or.inl ⟨by rfl, fun w2 hSw => ?_⟩) hS9 (fun hS10 => ?_)
    ·go_simp
    simp only [Act.put, lsA, lsB, lsC]
    clear hS9
    obtain ⟨k8, kl, kj, gl, kf⟩ := hS10.1 rfl
    clear hS10
    refine wpAnyL_one (i := 10) (o := ⟨none, .store 3 (.tmp 41) (.tmp 40), 0, "exact.go:59", #[⟨9, .data⟩, ⟨8, .data⟩, ⟨0, .phase⟩, ⟨1, .phase⟩, ⟨2, .phase⟩, ⟨3, .phase⟩, ⟨4, .phase⟩, ⟨5, .phase⟩, ⟨6, .phase⟩, ⟨7, .phase⟩, ⟨8, .phase⟩], none⟩) (by kernel_rfl) rfl (fun K hK => ?_)
    go_simp
    go_wp2_with fail
    refine hK.out _ _ ⟨fun h => (by cases (show true = false from h)), trivial⟩ ?_
    clear hK K k8 kl kj gl kf
    refine wpAnyL_done (by kernel_rfl) ?_ _
    have HNX : Hid (∀ z : Int, ∃ xc xs xi, So W B H g p (.slice g.ca p.nc g.cc) (.slice g.sa p.ns g.sc) (.slice g.ia p.n g.ic) p.nc p.ns p.n xc xs xi (wz.setCell ⟨b, j, none⟩ (.int .i64 z))) := fun z => by
     have q := HN.out z
     rw [← HIA.out] at q
     exact ⟨_, _, _, q⟩
    clear HN HS9
    go_wp2
    go_roundw
    case rel => exact ⟨j + 1, by omega, by go_num, HNX.out _⟩
    case measure => simp [intOf]; omega
   ·obtain rfl : j = p.ns := by omega
    clear hso
    go_wp2
    go_meet
    case rel => exact HJ.out
 case rest =>
 clear HQ
 have HQ := hide hcut.out
 clear hcut
 go_upto_block 4 with fail
 go_cut [4] from 42 (fun _ V => Hid (∃ xc xs xi, So W B H g p (.slice g.ca p.nc g.cc) (.slice g.sa p.ns g.sc) (.slice g.ia p.n g.ic) p.nc p.ns p.n xc xs xi V))
 case first =>
  go_wp2
  go_loopw [4] (fun i wr => ∃ j : Nat, j ≤ p.n ∧ i = .int .i64 (j : Nat) ∧ Hid (∃ xc xs xi, So W B H g p (.slice g.ca p.nc g.cc) (.slice g.sa p.ns g.sc) (.slice g.ia p.n g.ic) p.nc p.ns p.n xc xs xi wr)) (fun i _ => p.n - (intOf i).toNat)
  case atStart => exact ⟨0, by omega, rfl, HQ.out⟩
  case round =>
   obtain ⟨j, hj, rfl, HJ⟩ := hrel
   clear HQ
   obtain ⟨xc, xs, xi, hso⟩ := HJ.out
   have y := block_cell hso.pb 8
   have yl := block_lt hso.pb
   simp [Pg.cs] at y
   by_cases hlt : j < p.n
   ·obtain ⟨b, cap, hv, hcap⟩ := own_some hso.i (by omega)
    have hia : g.ia = some ⟨b, 0, none⟩ := (Value.slice.inj hv).1
    have hcc : g.ic = cap := (Value.slice.inj hv).2.2
    rw [← hcc] at hcap
    have hrow := hso.i
    rw [hia] at hrow
    obtain ⟨gl, cj, cf⟩ := own_cell (i := j * 2 + 1) hrow (by omega)
    obtain ⟨x, hx⟩ := hso.ki.at (i := j * 2 + 1) (by rw [hrow.1]; omega)
    rw [hx] at cj
    rw [hia] at y
    have HIA := hide hia
    have HN : Hid (∀ z : Int, So W B H g p (.slice g.ca p.nc g.cc) (.slice g.sa p.ns g.sc) (.slice (some ⟨b, 0, none⟩) p.n g.ic) p.nc p.ns p.n xc xs (xi.set (j * 2 + 1) (.int .i64 z)) (wr.drew.setCell ⟨b, j * 2 + 1, none⟩ (.int .i64 z))) := fun z => by
     have q := hso.next (w' := wr.drew) (Below.refl _ _).drew
     rw [hia] at q
     exact q.setI (by omega)
    have HS9 : Hid ((fun (w : World) => w.cell? ⟨W.heap.size, 8, none⟩ = some (.slice (some ⟨b, 0, none⟩) p.n g.ic) ∧ W.heap.size < w.heap.size ∧ w.cell? ⟨b, j * 2 + 1, none⟩ = some (.int .i64 x) ∧ b < w.heap.size ∧ w.frozen? ⟨b, j * 2 + 1, none⟩ = false) wr.drew) := ⟨y, yl, cj, gl, cf⟩
    clear hso HJ hv hia hrow hx hcc
    go_upto_region 12 with fail
    clear y yl cj gl cf
    refine wp_region_L 12 (fun (w : World) => w.cell? ⟨W.heap.size, 8, none⟩ = some (.slice (some ⟨b, 0, none⟩) p.n g.ic) ∧ W.heap.size < w.heap.size ∧ w.cell? ⟨b, j * 2 + 1, none⟩ = some (.int .i64 x) ∧ b < w.heap.size ∧ w.frozen? ⟨b, j * 2 + 1, none⟩ = false) (fun _ => True) (by kernel_rfl) HS9.out trivial (fun hS0 => ?_)
    generalize wr.drew = wz at *
    refine wpAnyL_take (i := 0) (oi := ⟨some 49, .fieldAddr 27 (.tmp 1) 3, 0, "exact.go:62", #[], none⟩) (v := .pointer (some ⟨W.heap.size, 8, none⟩)) rfl (by decide) (by kernel_rfl) (by kernel_rfl) (by kernel_rfl) (fun _ _ _ h => h) (Or.inl ⟨by rfl, fun w2 hSw => ?_⟩) hS0 (fun hS1 => ?_)
    ·go_simp
    simp only [Act.put, lsA, lsB, lsC]
    clear hS0
    refine wpAnyL_take1 (i := 1) (oi := ⟨some 50, .load 25 (.tmp 49), 25, "exact.go:62", #[⟨0, .data⟩], none⟩) (v := .slice (some ⟨b, 0, none⟩) p.n g.ic) rfl (by decide) (by kernel_rfl) (by kernel_rfl) (by kernel_rfl) (fun _ _ _ h => h) (Or.inl ⟨by rfl, fun w2 hSw => ?_⟩) hS1 (by kernel_rfl) rfl (by kernel_rfl) (fun hS2 => ?_)
    ·obtain ⟨k8, kl, kj, gl, kf⟩ := hSw
     go_simp
    simp only [Act.put, lsA, lsB, lsC]
    clear hS1
    refine wpAnyL_take (i := 2) (oi := ⟨some 51, .move (.tmp 4), 3, "exact.go:62", #[], none⟩) (v := .int .i64 (j : Nat)) rfl (by decide) (by kernel_rfl) (by kernel_rfl) (by kernel_rfl) (fun _ _ _ h => h) (Or.inl ⟨by rfl, fun w2 hSw => ?_⟩) hS2 (fun hS3 => ?_)
    ·go_simp
    simp only [Act.put, lsA, lsB, lsC]
    clear hS2
    refine wpAnyL_take (i := 3) (oi := ⟨some 52, .fieldAddr 27 (.tmp 1) 3, 0, "exact.go:62", #[], none⟩) (v := .pointer (some ⟨W.heap.size, 8, none⟩)) rfl (by decide) (by kernel_rfl) (by kernel_rfl) (by kernel_rfl) (fun _ _ _ h => h) (Or.inl ⟨by rfl, fun w2 hSw => ?_⟩) hS3 (fun hS4 => ?_)
    ·go_simp
    simp only [Act.put, lsA, lsB, lsC]
    clear hS3
    refine wpAnyL_take1 (i := 4) (oi := ⟨some 53, .load 25 (.tmp 52), 25, "exact.go:62", #[⟨3, .data⟩], none⟩) (v := .slice (some ⟨b, 0, none⟩) p.n g.ic) rfl (by decide) (by kernel_rfl) (by kernel_rfl) (by kernel_rfl) (fun _ _ _ h => h) (Or.inl ⟨by rfl, fun w2 hSw => ?_⟩) hS4 (by kernel_rfl) rfl (by kernel_rfl) (fun hS5 => ?_)
    ·obtain ⟨k8, kl, kj, gl, kf⟩ := hSw
     go_simp
    simp only [Act.put, lsA, lsB, lsC]
    clear hS4
    refine wpAnyL_take (i := 5) (oi := ⟨some 54, .move (.tmp 4), 3, "exact.go:62", #[], none⟩) (v := .int .i64 (j : Nat)) rfl (by decide) (by kernel_rfl) (by kernel_rfl) (by kernel_rfl) (fun _ _ _ h => h) (Or.inl ⟨by rfl, fun w2 hSw => ?_⟩) hS5 (fun hS6 => ?_)
    ·go_simp
    simp only [Act.put, lsA, lsB, lsC]
    clear hS5
    refine wpAnyL_take (i := 6) (oi := ⟨some 55, .indexAddr 25 (.tmp 53) (.tmp 54), 0, "exact.go:62", #[⟨4, .data⟩, ⟨5, .data⟩], none⟩) (v := .pointer (some ⟨b, j * 2, none⟩)) rfl (by decide) (by kernel_rfl) (by kernel_rfl) (by kernel_rfl) (fun _ _ _ h => h) (Or.inl ⟨by rfl, fun w2 hSw => ?_⟩) hS6 (fun hS7 => ?_)
    ·go_simp
    simp only [Act.put, lsA, lsB, lsC]
    clear hS6
    refine wpAnyL_take (i := 7) (oi := ⟨some 56, .fieldAddr 83 (.tmp 55) 1, 0, "exact.go:62", #[⟨6, .data⟩], none⟩) (v := .pointer (some ⟨b, j * 2 + 1, none⟩)) rfl (by decide) (by kernel_rfl) (by kernel_rfl) (by kernel_rfl) (fun _ _ _ h => h) (Or.inl ⟨by rfl, fun w2 hSw => ?_⟩) hS7 (fun hS8 => ?_)
    ·go_simp
    simp only [Act.put, lsA, lsB, lsC]
    clear hS7
    refine wpAnyL_take1 (i := 8) (oi := ⟨some 57, .load 3 (.tmp 56), 3, "exact.go:62", #[⟨7, .data⟩], none⟩) (v := .int .i64 x) rfl (by decide) (by kernel_rfl) (by kernel_rfl) (by kernel_rfl) (fun _ _ _ h => h) (Or.inl ⟨by rfl, fun w2 hSw => ?_⟩) hS8 (by kernel_rfl) rfl (by kernel_rfl) (fun hS9 => ?_)
    ·obtain ⟨k8, kl, kj, gl, kf⟩ := hSw
     go_simp
    simp only [Act.put, lsA, lsB, lsC]
    clear hS8
    refine wpAnyL_take (i := 9) (oi := ⟨some 58, .binOp .add 3 (.tmp 57) (.const (.int .i64 1)) 3, 3, "exact.go:62", #[⟨8, .data⟩], none⟩) (v := .int .i64 (IntKind.i64.wrap (x + 1))) rfl (by decide) (by kernel_rfl) (by kernel_rfl) (by kernel_rfl) (fun _ _ _ h => h) (Or.inl ⟨by rfl, fun w2 hSw => ?_⟩) hS9 (fun hS10 => ?_)
    ·go_simp
    simp only [Act.put, lsA, lsB, lsC]
    clear hS9
    refine wpAnyL_take (i := 10) (oi := ⟨some 59, .indexAddr 25 (.tmp 50) (.tmp 51), 0, "exact.go:62", #[⟨1, .data⟩, ⟨2, .data⟩, ⟨0, .phase⟩, ⟨1, .phase⟩, ⟨2, .phase⟩, ⟨3, .phase⟩, ⟨4, .phase⟩, ⟨5, .phase⟩, ⟨6, .phase⟩, ⟨7, .phase⟩, ⟨8, .phase⟩, ⟨9, .phase⟩], none⟩) (v := .pointer (some ⟨b, j * 2, none⟩)) rfl (by decide) (by kernel_rfl) (by kernel_rfl) (by kernel_rfl) (fun _ _ _ h => h) (Or.inl ⟨by rfl, fun w2 hSw => ?_⟩) hS10 (fun hS11 => ?_)
    ·go_simp
    simp only [Act.put, lsA, lsB, lsC]
    clear hS10
    refine wpAnyL_take (i := 11) (oi := ⟨some 60, .fieldAddr 83 (.tmp 59) 1, 0, "exact.go:62", #[⟨10, .data⟩, ⟨0, .phase⟩, ⟨1, .phase⟩, ⟨2, .phase⟩, ⟨3, .phase⟩, ⟨4, .phase⟩, ⟨5, .phase⟩, ⟨6, .phase⟩, ⟨7, .phase⟩, ⟨8, .phase⟩, ⟨9, .phase⟩], none⟩) (v := .pointer (some ⟨b, j * 2 + 1, none⟩)) rfl (by decide) (by kernel_rfl) (by kernel_rfl) (by kernel_rfl) (fun _ _ _ h => h) (Or.inl ⟨by rfl, fun w2 hSw => ?_⟩) hS11 (fun hS12 => ?_)
    ·go_simp
    simp only [Act.put, lsA, lsB, lsC]
    clear hS11
    obtain ⟨k8, kl, kj, gl, kf⟩ := hS12.1 rfl
    clear hS12
    refine wpAnyL_one (i := 12) (o := ⟨none, .store 3 (.tmp 60) (.tmp 58), 0, "exact.go:62", #[⟨11, .data⟩, ⟨9, .data⟩, ⟨0, .phase⟩, ⟨1, .phase⟩, ⟨2, .phase⟩, ⟨3, .phase⟩, ⟨4, .phase⟩, ⟨5, .phase⟩, ⟨6, .phase⟩, ⟨7, .phase⟩, ⟨8, .phase⟩, ⟨9, .phase⟩], none⟩) (by kernel_rfl) rfl (fun K hK => ?_)
    go_simp
    go_wp2_with fail
    refine hK.out _ _ ⟨fun h => (by cases (show true = false from h)), trivial⟩ ?_
    clear hK K k8 kl kj gl kf
    refine wpAnyL_done (by kernel_rfl) ?_ _
    have HNX : Hid (∀ z : Int, ∃ xc xs xi, So W B H g p (.slice g.ca p.nc g.cc) (.slice g.sa p.ns g.sc) (.slice g.ia p.n g.ic) p.nc p.ns p.n xc xs xi (wz.setCell ⟨b, j * 2 + 1, none⟩ (.int .i64 z))) := fun z => by
     have q := HN.out z
     rw [← HIA.out] at q
     exact ⟨_, _, _, q⟩
    clear HN HS9
    go_wp2
    go_roundw
    case rel => exact ⟨j + 1, by omega, by go_num, HNX.out _⟩
    case measure => simp [intOf]; omega
   ·obtain rfl : j = p.n := by omega
    clear hso
    go_wp2
    go_meet
    case rel => exact HJ.out
 case rest =>
 clear HQ
 have HQ := hide hcut.out
 clear hcut
 obtain ⟨xc, xs, xi, hso⟩ := HQ.out
 have HA0 := hide hso
 clear HQ hso
 have y := block_cell HA0.out.pb 0
 have yl := block_lt HA0.out.pb
 simp [Pg.cs] at y
 have HOW : Hid (∀ o, (wc.alloc o).ownsRow B 42 1 (.slice g.ca p.nc g.cc) p.nc _) := fun o => (HA0.out.next (below_alloc1 wc o)).c
 have HSZ : Hid (∀ o, B ≤ (wc.alloc o).heap.size) := fun o => by
  have h1 := (HA0.out.next (below_alloc1 wc o)).sz
  have h2 := HA0.out.lb
  show _ ≤ _
  omega
 go_upto_region 14 with (at_builtin; refine wpList_append_keep _ rfl (.tmp 62) (.tmp 63) 22 rfl B 42 iU (.int .u64 0) 1 8 Tryd.underlying22 hU hU0 hU1 hU2 rfl (by decide) (.slice g.ca p.nc g.cc) p.nc _ rfl (HOW.out _) ⟨wc.heap.size, 0, none⟩ 1 1 [.int .u64 77] rfl rfl (cell_one_new _ _ _) (by simp [Value.oneCell']) (by decide) (by unfold maxLen; omega) (by omega) (HSZ.out _) ?_; intro v0 w0 ho hg _ hn)
 have HA1 := hide (HA0.out.appC (ys := [.int .u64 77]) (by intro v hv; simp at hv; first | exact ⟨_, hv⟩ | (rcases hv with hv | hv; exact ⟨_, hv⟩; exact ⟨_, hv⟩)) ho hg hn)
 obtain ⟨ba0, ca0, hv0, _⟩ := own_some HA1.out.c (by omega)
 subst hv0
 clear ho hg hn HOW HSZ y yl HA0
 have y := block_cell HA1.out.pb 1
 have yl := block_lt HA1.out.pb
 simp [Pg.cs] at y
 have HOW : Hid (∀ o, (w0.alloc o).ownsRow B 3 1 (.slice g.sa p.ns g.sc) p.ns _) := fun o => (HA1.out.next (below_alloc1 w0 o)).s
 have HSZ : Hid (∀ o, B ≤ (w0.alloc o).heap.size) := fun o => by
  have h1 := (HA1.out.next (below_alloc1 w0 o)).sz
  have h2 := HA1.out.lb
  show _ ≤ _
  omega
 go_upto_region 15 with (at_builtin; refine wpList_append_keep _ rfl (.tmp 66) (.tmp 67) 23 rfl B 3 iI (.int .i64 0) 1 8 Tryd.underlying23 hI hI0 hI1 hI2 rfl (by decide) (.slice g.sa p.ns g.sc) p.ns _ rfl (HOW.out _) ⟨w0.heap.size, 0, none⟩ 1 1 [.int .i64 78] rfl rfl (cell_one_new _ _ _) (by simp [Value.oneCell']) (by decide) (by unfold maxLen; omega) (by omega) (HSZ.out _) ?_; intro v1 w1 ho hg _ hn)
 have HA2 := hide (HA1.out.appS (ys := [.int .i64 78]) (by intro v hv; simp at hv; first | exact ⟨_, hv⟩ | (rcases hv with hv | hv; exact ⟨_, hv⟩; exact ⟨_, hv⟩)) ho hg hn)
 obtain ⟨ba1, ca1, hv1, _⟩ := own_some HA2.out.s (by omega)
 subst hv1
 clear ho hg hn HOW HSZ y yl HA1
 have y := block_cell HA2.out.pb 8
 have yl := block_lt HA2.out.pb
 simp [Pg.cs] at y
 have HOW : Hid (∀ o, (w1.alloc o).ownsRow B 83 2 (.slice g.ia p.n g.ic) p.n _) := fun o => (HA2.out.next (below_alloc1 w1 o)).i
 have HSZ : Hid (∀ o, B ≤ (w1.alloc o).heap.size) := fun o => by
  have h1 := (HA2.out.next (below_alloc1 w1 o)).sz
  have h2 := HA2.out.lb
  show _ ≤ _
  omega
 go_upto_region 16 with (at_builtin; refine wpList_append_keep _ rfl (.tmp 70) (.tmp 72) 25 rfl B 83 iN _ 2 16 Tryd.underlying25 hN hN0 hN1 hN2 rfl (by decide) (.slice g.ia p.n g.ic) p.n _ rfl (HOW.out _) ⟨w1.heap.size, 0, none⟩ 1 1 [.int .i64 79, .int .i64 0] rfl rfl (cell_two_new _ _ _ _) (by simp [Value.oneCell']) (by decide) (by unfold maxLen; omega) (by omega) (HSZ.out _) ?_; intro v2 w2 ho hg _ hn)
 have HA3 := hide (HA2.out.appI (ys := [.int .i64 79, .int .i64 0]) (by intro v hv; simp at hv; first | exact ⟨_, hv⟩ | (rcases hv with hv | hv; exact ⟨_, hv⟩; exact ⟨_, hv⟩)) ho hg hn)
 obtain ⟨ba2, ca2, hv2, _⟩ := own_some HA3.out.i (by omega)
 subst hv2
 clear ho hg hn HOW HSZ y yl HA2
 have y := block_cell HA3.out.pb 0
 have yl := block_lt HA3.out.pb
 simp [Pg.cs] at y
 have hk0 : p.nc + 1 ≤ ca0 := by
  obtain ⟨_, _, e, hh⟩ := own_some HA3.out.c (by omega)
  cases e
  exact hh
 obtain ⟨gl, cj, cf⟩ := own_cell (i := p.nc) HA3.out.c (by omega)
 obtain ⟨x, hx⟩ := HA3.out.kc.at (i := p.nc) (by rw [HA3.out.c.1]; omega)
 rw [hx] at cj
 have HA4 := hide (HA3.out.setC (j := p.nc) (x := 1) (by omega))
 clear HA3 hx
 go_upto_region 17 with fail
 obtain ⟨wz0, hwz⟩ : ∃ wz, w2.setCell ⟨ba0, p.nc, none⟩ (.int .u64 1) = wz := ⟨_, rfl⟩
 rw [hwz] at HA4 ⊢
 clear hwz y yl gl cj cf
 have y := block_cell HA4.out.pb 1
 have yl := block_lt HA4.out.pb
 simp [Pg.cs] at y
 have hk1 : p.ns + 1 ≤ ca1 := by
  obtain ⟨_, _, e, hh⟩ := own_some HA4.out.s (by omega)
  cases e
  exact hh
 obtain ⟨gl, cj, cf⟩ := own_cell (i := p.ns) HA4.out.s (by omega)
 obtain ⟨x, hx⟩ := HA4.out.ks.at (i := p.ns) (by rw [HA4.out.s.1]; omega)
 rw [hx] at cj
 have HA5 := hide (HA4.out.setS (j := p.ns) (x := 2) (by omega))
 clear HA4 hx
 go_upto_region 18 with fail
 obtain ⟨wz1, hwz⟩ : ∃ wz, wz0.setCell ⟨ba1, p.ns, none⟩ (.int .i64 2) = wz := ⟨_, rfl⟩
 rw [hwz] at HA5 ⊢
 clear hwz y yl gl cj cf
 have y := block_cell HA5.out.pb 8
 have yl := block_lt HA5.out.pb
 simp [Pg.cs] at y
 have hk2 : p.n + 1 ≤ ca2 := by
  obtain ⟨_, _, e, hh⟩ := own_some HA5.out.i (by omega)
  cases e
  exact hh
 obtain ⟨gl, cj, cf⟩ := own_cell (i := p.n * 2 + 1) HA5.out.i (by omega)
 obtain ⟨x, hx⟩ := HA5.out.ki.at (i := p.n * 2 + 1) (by rw [HA5.out.i.1]; omega)
 rw [hx] at cj
 have HA6 := hide (HA5.out.setI (j := p.n * 2 + 1) (x := 3) (by omega))
 clear HA5 hx
 go_wp2
 go_end0
 exact ⟨rfl, HA6.out.bel, Nat.le_of_lt HA6.out.sz, HA6.out.mid⟩
end Go.Proofs.YtmoklddfaocihaaDoor
