import Derived.Test.YtggpaljilpbmhaaGreatDoorZ21
import Derived.Deep.RegionLaw
import Derived.Deep.RegionHeld
import Derived.Deep.DeepAppendWide
namespace Go.Proofs.YtggpaljilpbmhaaGreatDoor
open Go.RowKit

theorem block_cell {w : World} {p : Nat} {cs : Array Value} {t : TypeId} (h : w.heap[p]? = some (.cells cs t (0, 0))) (j : Nat) : w.cell? ⟨p, j, none⟩ = cs[j]? := cell_of_row w p j cs t (0, 0) h
theorem block_free {w : World} {p : Nat} {cs : Array Value} {t : TypeId} (h : w.heap[p]? = some (.cells cs t (0, 0))) (j : Nat) : w.frozen? ⟨p, j, none⟩ = false := frozen_of_row w p j cs t h
theorem block_lt {w : World} {p : Nat} {o : Obj} (h : w.heap[p]? = some o) : p < w.heap.size := (Array.getElem?_eq_some_iff.1 h).1

/-- A link of a chain of faults: the layer's name and the place. -/
structure Lk where
 (layer : ByteArray) (at_ : Int)
def Lk.cells (l : Lk) : List Value := [.string l.layer, .int .i64 l.at_]
def lkcells (L : List Lk) : List Value := (L.map Lk.cells).flatten
theorem lkcells_snoc (L : List Lk) (l : Lk) : lkcells (L ++ [l]) = lkcells L ++ [.string l.layer, .int .i64 l.at_] := by simp [lkcells, Lk.cells]
theorem lkcells_at : ∀ (L : List Lk) (i : Nat) (l : Lk), L[i]? = some l → (lkcells L)[i * 2]? = some (.string l.layer) ∧ (lkcells L)[i * 2 + 1]? = some (.int .i64 l.at_)
 | [], i, l, h => by simp at h
 | x :: t, 0, l, h => by
  simp at h
  subst h
  exact ⟨rfl, rfl⟩
 | x :: t, i + 1, l, h => by
  have ih := lkcells_at t i l (by simpa using h)
  have e1 : (i + 1) * 2 = i * 2 + 2 := by omega
  rw [e1]
  exact ih
/-- An error that is a chain of faults with a number at its end. -/
def Chain (lim : Nat) (w : World) : List Lk → Value → Int → Prop
 | [], v, c => v = .iface 76 (.int .i64 c)
 | l :: r, v, c => ∃ (g : Nat) (u : Value), v = .iface 74 (.pointer (some ⟨g, 0, none⟩)) ∧ g < lim ∧ w.cell? ⟨g, 0, none⟩ = some (.string l.layer) ∧ w.cell? ⟨g, 1, none⟩ = some (.int .i64 l.at_) ∧ w.cell? ⟨g, 2, none⟩ = some u ∧ Chain lim w r u c
theorem Chain.below {lim : Nat} {w w' : World} (hb : Below lim w w') : ∀ {L : List Lk} {v : Value} {c : Int}, Chain lim w L v c → Chain lim w' L v c
 | [], _, _, h => h
 | _ :: _, _, _, h => by
  obtain ⟨g, u, e, hg, c0, c1, c2, h⟩ := h
  exact ⟨g, u, e, hg, (hb.cell (p := ⟨g, 0, none⟩) hg).trans c0, (hb.cell (p := ⟨g, 1, none⟩) hg).trans c1, (hb.cell (p := ⟨g, 2, none⟩) hg).trans c2, Chain.below hb h⟩
theorem Chain.wide {lim lim' : Nat} {w : World} (hl : lim ≤ lim') : ∀ {L : List Lk} {v : Value} {c : Int}, Chain lim w L v c → Chain lim' w L v c
 | [], _, _, h => h
 | _ :: _, _, _, h => by
  obtain ⟨g, u, e, hg, c0, c1, c2, h⟩ := h
  exact ⟨g, u, e, Nat.lt_of_lt_of_le hg hl, c0, c1, c2, Chain.wide hl h⟩
/-- A refusal as plain data. -/
structure FV (lim : Nat) (w : World) (ao : Option Addr) (L : List Lk) (b off : Nat) : Prop where
 ad : 0 < L.length → ao = some ⟨b, off, none⟩
 lt : 0 < L.length → b < lim
 le : L.length ≤ 1000
 at_ : ∀ (i : Nat) (l : Lk), L[i]? = some l → w.cell? ⟨b, off + i * 2, none⟩ = some (.string l.layer) ∧ w.cell? ⟨b, off + i * 2 + 1, none⟩ = some (.int .i64 l.at_)
theorem FV.below {lim : Nat} {w w' : World} {ao : Option Addr} {L : List Lk} {b off : Nat} (h : FV lim w ao L b off) (hb : Below lim w w') : FV lim w' ao L b off :=
 ⟨h.ad, h.lt, h.le, fun i l hl => by
  have hlt := h.lt (by have := (List.getElem?_eq_some_iff.1 hl).1; omega)
  exact ⟨(hb.cell (p := ⟨b, _, none⟩) hlt).trans (h.at_ i l hl).1, (hb.cell (p := ⟨b, _, none⟩) hlt).trans (h.at_ i l hl).2⟩⟩
theorem FV.wide {lim lim' : Nat} {w : World} {ao : Option Addr} {L : List Lk} {b off : Nat} (h : FV lim w ao L b off) (hl : lim ≤ lim') : FV lim' w ao L b off := ⟨h.ad, fun e => Nat.lt_of_lt_of_le (h.lt e) hl, h.le, h.at_⟩
theorem FV.nil (lim : Nat) (w : World) (ao : Option Addr) (b off : Nat) : FV lim w ao [] b off := ⟨fun h => by simp at h, fun h => by simp at h, by simp, fun i l h => by simp at h⟩
/-- Links in a row of their own. -/
theorem fv_row {base : Nat} {w : World} {v : Value} {L : List Lk} (h : w.ownsRow base 165 2 v L.length (lkcells L)) (hl : L.length ≤ 1000) : ∃ ao cap b, v = .slice ao L.length cap ∧ FV w.heap.size w ao L b 0 := by
 rcases h.2 with ⟨rfl, h0⟩ | ⟨g, cap, cur, rfl, hbg, hg, hnc, hcm, hcs, htake⟩
 ·have : L = [] := List.eq_nil_of_length_eq_zero h0
  subst this
  exact ⟨none, 0, 0, rfl, FV.nil _ _ _ _ _⟩
 ·refine ⟨some ⟨g, 0, none⟩, cap, g, rfl, fun _ => rfl, fun _ => (Array.getElem?_eq_some_iff.1 hg).1, hl, fun i l hi => ?_⟩
  obtain ⟨e0, e1⟩ := lkcells_at L i l hi
  have hlt : i < L.length := (List.getElem?_eq_some_iff.1 hi).1
  rw [← htake, List.getElem?_take, if_pos (by omega)] at e0 e1
  have h2 := cell_of_row w g (0 + i * 2) cur _ (0, 0) hg
  have h3 := cell_of_row w g (0 + i * 2 + 1) cur _ (0, 0) hg
  rw [h2, h3, Nat.zero_add]
  exact ⟨by simpa using e0, by simpa using e1⟩
theorem infoLink : (Tryz.prog.info? 165).map (fun i => (i.zero, i.size, i.bytes)) = some (some (.agg #[.string ⟨#[]⟩, .int .i64 0]), 2, 24) := by kernel_rfl

theorem row_quietT {base size k : Nat} {e : TypeId} {w w' : World} {v : Value} {xs : List Value} (h : w.ownsRow base e size v k xs) (hg : w.grownBy w' none) : w'.ownsRow base e size v k xs := by
 refine h.kept hg ?_
 cases v.ownBlock with
 | none => exact .inl rfl
 | some g => exact .inr (by simp)
set_option maxRecDepth 10000 in
set_option maxHeartbeats 800000 in
theorem told0_nil (w : World) : Calls Tryz.prog 47 #[.nilIface] w fun e w' => e = .returned (.tuple #[.agg #[.slice none 0 0, .int .i64 0], .bool true]) ∧ Hid (Below w.heap.size w w') := by
 go_enter Tryz.func47, Tryz.ntmps47
 go_wp2
 refine wp_loop_rounds 1 ?_
 rw [rounds_succ]
 go_wp2_with fail
 go_region_held (fun V => V.cell? ⟨w.heap.size + 1, 0, none⟩ = some (.slice none 0 0) ∧ V.cell? ⟨w.heap.size + 1, 1, none⟩ = some (.int .i64 0)) (go_keep) (fail)
 go_wp2
 refine bodyPost_ret (v := .tuple #[.agg #[.slice none 0 0, .int .i64 0], .bool true]) (by simp [results, Tryz.results47, go_sem]) rfl ⟨rfl, ?_⟩
 exact Go.below_drewN (((Below.refl _ w).alloc (Nat.le_refl _) _).alloc (by simp) _) 1

/-- Between two links of a chain. -/
structure Tl (w : World) (L : List Lk) (c : Int) (k : Nat) (v u : Value) (W : World) : Prop where
 bel : Below w.heap.size w W
 res : ∃ Z : Array Value, W.heap[w.heap.size]? = some (.cells Z 54 (0, 0)) ∧ Z.size = 2
 box : W.heap[w.heap.size + 1]? = some (.cells #[v, .int .i64 0] 54 (0, 0))
 row : W.ownsRow w.heap.size 165 2 v k (lkcells (L.take k))
 ch : Chain w.heap.size W (L.drop k) u c
theorem Tl.next {w : World} {L : List Lk} {c : Int} {k : Nat} {v u : Value} {W : World} (h : Tl w L c k v u W) {l : Lk} (hl : L[k]? = some l) {u' v' : Value} (hu : Chain w.heap.size W (L.drop (k + 1)) u' c) {W1 w2 : World} {o2 : Obj} (h1 : W.grownBy W1 none) (ho : w2.ownsRow w.heap.size 165 2 v' (k + 1) (lkcells (L.take k) ++ [.string l.layer, .int .i64 l.at_])) (hg : (W1.alloc o2).grownBy w2 v.ownBlock) :
  Tl w L c (k + 1) v' u' (w2.setCell ⟨w.heap.size + 1, 0, none⟩ v') ∧ w2.cell? ⟨w.heap.size + 1, 0, none⟩ = some v ∧ w2.frozen? ⟨w.heap.size + 1, 0, none⟩ = false := by
 have gA := grown_quiet h1 (World.grownBy_alloc W1 o2 none)
 have row1 := row_quietT h.row gA
 have ne : ∀ (j : Nat) (X : Array Value), (W1.alloc o2).heap[j]? = some (.cells X 54 (0, 0)) → some j ≠ v.ownBlock := fun j X hX e => by
  rcases row1.2 with ⟨rfl, _⟩ | ⟨g', cap, cur, rfl, _, hb, _⟩
  ·cases e
  ·cases e
   rw [hb] at hX
   cases hX
 obtain ⟨Z, z1, z2⟩ := h.res
 have z3 := (gA.block _ (block_lt z1) (by simp)).trans z1
 have b3 := (gA.block _ (block_lt h.box) (by simp)).trans h.box
 have z4 := (hg.block _ (block_lt z3) (ne _ _ z3)).trans z3
 have b4 := (hg.block _ (block_lt b3) (ne _ _ b3)).trans b3
 have bel1 := h.bel.grown gA h.bel.size (fun k e => by cases e)
 have bel2 := bel1.grown hg bel1.size (fun k e => (row1.lt k e).1)
 have hvb : v'.ownBlock ≠ some (w.heap.size + 1) := fun e => by
  rcases ho.2 with ⟨rfl, _⟩ | ⟨g', cap, cur, rfl, _, hb, _⟩
  ·cases e
  ·cases e
   rw [b4] at hb
   cases hb
 have hbW : Below w.heap.size W w2 := ⟨hg.os.trans gA.os, hg.tape.trans gA.tape, hg.output.trans gA.output, Nat.le_trans gA.size hg.size, fun i hi => (hg.block i (Nat.lt_of_lt_of_le hi bel1.size) (fun e => absurd (row1.lt i e.symm).1 (by omega))).trans (gA.block i (Nat.lt_of_lt_of_le hi h.bel.size) (by simp))⟩
 have gs := grown_set w2 (w.heap.size + 1) 0 v'
 refine ⟨⟨bel2.grown gs bel2.size (fun k e => by cases e; omega), ⟨Z, (gs.block _ (block_lt z4) (by simp)).trans z4, z2⟩, ?_, ?_, Chain.below (hbW.trans ((Below.refl _ w2).setCell (p := ⟨w.heap.size + 1, 0, none⟩) (by simp) v')) hu⟩, block_cell b4 0, block_free b4 0⟩
 ·rw [heap_setCell_same w2 (w.heap.size + 1) 0 _ _ v' b4]; rfl
 ·have e : lkcells (L.take (k + 1)) = lkcells (L.take k) ++ [.string l.layer, .int .i64 l.at_] := by rw [List.take_add_one, hl]; exact lkcells_snoc _ _
  rw [e]
  exact ho.kept gs (.inr hvb)
end Go.Proofs.YtggpaljilpbmhaaGreatDoor
namespace Go.Proofs.YtggpaljilpbmhaaGreatDoor
open Go.RowKit Crc

/-- The block that a writer or reader opens: its type, and what lies behind it there. -/
structure Kd where
 t : TypeId
 R : List Value
def KW : Kd := ⟨156, []⟩
def KR : Kd := ⟨217, []⟩
/-- A writer as it lies: the block p; what is laid down is its own. -/
def Wr (K : Kd) (base : Nat) (w : World) (p : Nat) (made : Bool) (place why most : Int) (L : List Nat) : Prop :=
 ∃ v, w.heap[p]? = some (.cells (List.toArray (.bool made :: .int .i64 place :: .int .i64 why :: .int .i64 most :: v :: K.R)) K.t (0, 0)) ∧ Owns base w v L ∧ v.ownBlock ≠ some p

variable {K : Kd}

set_option maxRecDepth 10000 in
set_option maxHeartbeats 400000 in
theorem sound_any (p : Nat) (made : Bool) (why : Int) (w : World) (h0 : w.cell? ⟨p, 0, none⟩ = some (.bool made)) (h2 : w.cell? ⟨p, 2, none⟩ = some (.int .i64 why)) :
  Calls Tryz.prog 130 #[.pointer (some ⟨p, 0, none⟩)] w fun e w' => e = .returned (.bool (made && (why == 0))) ∧ w' = w := by
 cases made
 ·go_enter Tryz.func130, Tryz.ntmps130
  go_wp2
  go_ret
  exact ⟨rfl, rfl⟩
 ·go_enter Tryz.func130, Tryz.ntmps130
  go_wp2
  go_ret
  exact ⟨rfl, rfl⟩

set_option maxRecDepth 10000 in
set_option maxHeartbeats 400000 in
theorem takes_good (p : Nat) (most : Int) (ao : Option Addr) (n cap : Nat) (sz : Int) (w : World) (h0 : w.cell? ⟨p, 0, none⟩ = some (.bool true)) (h2 : w.cell? ⟨p, 2, none⟩ = some (.int .i64 0)) (h3 : w.cell? ⟨p, 3, none⟩ = some (.int .i64 most)) (h4 : w.cell? ⟨p, 4, none⟩ = some (.slice ao n cap))
 (hm1 : most ≤ 65507) (hm2 : (n : Int) ≤ most) (hfit : sz ≤ most - (n : Int)) :
  Calls Tryz.prog 81 #[.pointer (some ⟨p, 0, none⟩), .int .i64 sz, .int .i64 0] w fun e w' => e = .returned (.bool true) ∧ ∃ q, w' = w.drewN q := by
 have hd : decide (most - (n : Int) < sz) = false := by simp; omega
 go_enter Tryz.func81, Tryz.ntmps81
 go_wp2_with fail
 refine (sound_any p true 0 _ h0 h2).mono ?_
 rintro e w1 ⟨rfl, rfl⟩
 go_wp2_with fail
 go_quiet (fail)
 go_wp2_with fail
 refine (sound_any p true 0 (w1.drewN nq) h0 h2).mono ?_
 rintro e w2 ⟨rfl, rfl⟩
 go_wp2
 go_ret
 exact ⟨rfl, _, rfl⟩

/-- What is laid down has grown, and is put back into the writer. -/
theorem wr_after {base lim : Nat} {w w2 : World} {p : Nat} {made : Bool} {place why most : Int} {v v' : Value} {L : List Nat} (hb : w.heap[p]? = some (.cells (List.toArray (.bool made :: .int .i64 place :: .int .i64 why :: .int .i64 most :: v :: K.R)) K.t (0, 0)))
  (hne : v.ownBlock ≠ some p) (hO0 : ∀ g, v.ownBlock = some g → base ≤ g) (hE : ExtP w w2 v v') (hO : Owns base w2 v' L) (hl1 : lim ≤ base) (hl2 : lim ≤ p) :
  Wr K base (w2.setCell ⟨p, 4, none⟩ v') p made place why most L ∧ Below lim w (w2.setCell ⟨p, 4, none⟩ v') := by
 have hp := block_lt hb
 have hb2 : w2.heap[p]? = some (.cells (List.toArray (.bool made :: .int .i64 place :: .int .i64 why :: .int .i64 most :: v :: K.R)) K.t (0, 0)) := (hE.1.block p hp (fun e => hne e.symm)).trans hb
 have hne' : v'.ownBlock ≠ some p := by
  intro e
  rcases hE.2 p e with h | h
  ·exact hne h
  ·omega
 refine ⟨⟨v', ?_, hO.kept (grown_set _ _ _ _) (.inr hne'), hne'⟩, ?_⟩
 ·rw [heap_setCell_same w2 p 4 _ _ v' hb2]; rfl
 ·refine Below.setCell ?_ hl2 _
  exact ⟨hE.1.os, hE.1.tape, hE.1.output, hE.1.size, fun k hk => hE.1.block k (by omega) (fun e => by have := hO0 k e.symm; omega)⟩
theorem wr_cell {w w2 : World} {p : Nat} {made : Bool} {place why most : Int} {v v' : Value} (hb : w.heap[p]? = some (.cells (List.toArray (.bool made :: .int .i64 place :: .int .i64 why :: .int .i64 most :: v :: K.R)) K.t (0, 0)))
  (hne : v.ownBlock ≠ some p) (hE : ExtP w w2 v v') : w2.cell? ⟨p, 4, none⟩ = some v ∧ w2.frozen? ⟨p, 4, none⟩ = false := by
 have hb2 : w2.heap[p]? = some (.cells (List.toArray (.bool made :: .int .i64 place :: .int .i64 why :: .int .i64 most :: v :: K.R)) K.t (0, 0)) := (hE.1.block p (block_lt hb) (fun e => hne e.symm)).trans hb
 exact ⟨block_cell hb2 4, block_free hb2 4⟩

set_option maxRecDepth 10000 in
set_option maxHeartbeats 800000 in
theorem fixed_good (base lim p v s : Nat) (vi si place most : Int) (L : List Nat) (w : World) (hvi : vi = (v : Int)) (hsi : si = (s : Int)) (hs : s ≤ 8) (hW : Wr K base w p true place 0 most L) (hm : most ≤ 65507) (hfit : ((L.length + s : Nat) : Int) ≤ most) (hbs : base ≤ w.heap.size) (hl1 : lim ≤ base) (hl2 : lim ≤ p) :
  Calls Tryz.prog 80 #[.pointer (some ⟨p, 0, none⟩), .int .u64 vi, .int .i64 si] w fun e w' => e = .returned (.tuple #[]) ∧ Wr K base w' p true place 0 most (L ++ big v s) ∧ Below lim w w' := by
 obtain ⟨u, hb, hO, hne⟩ := hW
 obtain ⟨ao, cap, rfl, hS, _⟩ := hO.form
 have c0 := block_cell hb 0
 have c2 := block_cell hb 2
 have c3 := block_cell hb 3
 have c4 := block_cell hb 4
 simp at c0 c2 c3 c4
 have HTK : Hid (Calls Tryz.prog 81 #[.pointer (some ⟨p, 0, none⟩), .int .i64 si, .int .i64 0] w fun e w' => e = .returned (.bool true) ∧ ∃ q, w' = w.drewN q) := takes_good p most ao L.length cap si w c0 c2 c3 c4 hm (by omega) (by omega)
 have HAP : Hid (∀ q, Calls Tryz.prog 129 #[.slice ao L.length cap, .int .u64 vi, .int .i64 si] (w.drewN q) fun e w' => ∃ v', e = .returned v' ∧ Owns base w' v' (L ++ big v s) ∧ ExtP (w.drewN q) w' (.slice ao L.length cap) v') :=
  fun q => appendHigh_any base v s _ vi si L (w.drewN q) hvi hsi hs (hO.drew q) (by omega) hbs
 have HFIN : Hid (∀ (q : Nat) (w2 : World) (v' : Value), Owns base w2 v' (L ++ big v s) → ExtP (w.drewN q) w2 (.slice ao L.length cap) v' → Wr K base (w2.setCell ⟨p, 4, none⟩ v') p true place 0 most (L ++ big v s) ∧ Below lim w (w2.setCell ⟨p, 4, none⟩ v')) := by
  intro q w2 v' ho he
  have he' : ExtP w w2 (.slice ao L.length cap) v' := ⟨⟨he.1.os, he.1.tape, he.1.output, he.1.size, he.1.block⟩, he.2⟩
  exact wr_after hb hne (fun g hg => (hO.1.lt g hg).1) he' ho hl1 hl2
 have HCL : Hid (∀ (q : Nat) (w2 : World) (v' : Value), ExtP (w.drewN q) w2 (.slice ao L.length cap) v' → w2.cell? ⟨p, 4, none⟩ = some (.slice ao L.length cap) ∧ w2.frozen? ⟨p, 4, none⟩ = false) := by
  intro q w2 v' he
  exact wr_cell hb hne (show ExtP w w2 (.slice ao L.length cap) v' from ⟨⟨he.1.os, he.1.tape, he.1.output, he.1.size, he.1.block⟩, he.2⟩)
 clear hb hO hne hS c0 c2 c3 hvi hsi
 go_enter Tryz.func80, Tryz.ntmps80
 go_wp2_with fail
 refine HTK.out.mono ?_
 rintro e w1 ⟨rfl, q, rfl⟩
 go_wp2_with fail
 refine (HAP.out q).mono ?_
 rintro e w2 ⟨v', rfl, ho, he⟩
 obtain ⟨k4, f4⟩ := HCL.out q w2 v' he
 have HF2 := HFIN.out q w2 v' ho he
 obtain ⟨a', c', rfl, _, _⟩ := ho.form
 have HF2' : Hid (Wr K base (w2.setCell ⟨p, 4, none⟩ (.slice a' (L ++ big v s).length c')) p true place 0 most (L ++ big v s) ∧ Below lim w (w2.setCell ⟨p, 4, none⟩ (.slice a' (L ++ big v s).length c'))) := HF2
 clear HF2 ho he HFIN HCL HAP HTK c4
 generalize (L ++ big v s).length = m at *
 go_wp2
 go_end0
 exact ⟨rfl, HF2'.out⟩
end Go.Proofs.YtggpaljilpbmhaaGreatDoor
namespace Go.Proofs.YtggpaljilpbmhaaGreatDoor
open Go.RowKit Crc
variable {K : Kd}

set_option maxRecDepth 10000 in
set_option maxHeartbeats 400000 in
theorem wU8_good (base lim p v : Nat) (vi place most : Int) (L : List Nat) (w : World) (hvi : vi = (v : Int)) (hv : v < 256) (hW : Wr K base w p true place 0 most L) (hm : most ≤ 65507) (hfit : ((L.length + 1 : Nat) : Int) ≤ most) (hbs : base ≤ w.heap.size) (hl1 : lim ≤ base) (hl2 : lim ≤ p) :
  Calls Tryz.prog 43 #[.pointer (some ⟨p, 0, none⟩), .int .u8 vi] w fun e w' => e = .returned (.tuple #[]) ∧ Wr K base w' p true place 0 most (L ++ big v 1) ∧ Below lim w w' := by
 have HF : Hid (Calls Tryz.prog 80 #[.pointer (some ⟨p, 0, none⟩), .int .u64 vi, .int .i64 1] w fun e w' => e = .returned (.tuple #[]) ∧ Wr K base w' p true place 0 most (L ++ big v 1) ∧ Below lim w w') := fixed_good base lim p v 1 vi 1 place most L w hvi rfl (by omega) hW hm hfit hbs hl1 hl2
 have h0 : 0 ≤ vi := by omega
 have h1 : vi < 256 := by omega
 clear hW hvi
 go_enter Tryz.func43, Tryz.ntmps43
 go_wp2_with fail
 refine HF.out.mono ?_
 rintro e w1 ⟨rfl, hr⟩
 have HR : Hid (Wr K base w1 p true place 0 most (L ++ big v 1) ∧ Below lim w w1) := hr
 clear hr
 go_wp2
 go_end0
 exact ⟨rfl, HR.out⟩

set_option maxRecDepth 10000 in
set_option maxHeartbeats 400000 in
theorem wU16_good (base lim p v : Nat) (vi place most : Int) (L : List Nat) (w : World) (hvi : vi = (v : Int)) (hv : v < 65536) (hW : Wr K base w p true place 0 most L) (hm : most ≤ 65507) (hfit : ((L.length + 2 : Nat) : Int) ≤ most) (hbs : base ≤ w.heap.size) (hl1 : lim ≤ base) (hl2 : lim ≤ p) :
  Calls Tryz.prog 42 #[.pointer (some ⟨p, 0, none⟩), .int .u16 vi] w fun e w' => e = .returned (.tuple #[]) ∧ Wr K base w' p true place 0 most (L ++ big v 2) ∧ Below lim w w' := by
 have HF : Hid (Calls Tryz.prog 80 #[.pointer (some ⟨p, 0, none⟩), .int .u64 vi, .int .i64 2] w fun e w' => e = .returned (.tuple #[]) ∧ Wr K base w' p true place 0 most (L ++ big v 2) ∧ Below lim w w') := fixed_good base lim p v 2 vi 2 place most L w hvi rfl (by omega) hW hm hfit hbs hl1 hl2
 have h0 : 0 ≤ vi := by omega
 have h1 : vi < 65536 := by omega
 clear hW hvi
 go_enter Tryz.func42, Tryz.ntmps42
 go_wp2_with fail
 refine HF.out.mono ?_
 rintro e w1 ⟨rfl, hr⟩
 have HR : Hid (Wr K base w1 p true place 0 most (L ++ big v 2) ∧ Below lim w w1) := hr
 clear hr
 go_wp2
 go_end0
 exact ⟨rfl, HR.out⟩

/-- All that a method of the writer's needs behind 'takes': the laid list, its growth, its store. -/
theorem wr_open {base lim p : Nat} {w : World} {place most : Int} {L : List Nat} (hW : Wr K base w p true place 0 most L) (hm : most ≤ 65507) (hlen : (L.length : Int) ≤ most) (hl1 : lim ≤ base) (hl2 : lim ≤ p) :
  ∃ (ao : Option Addr) (cap : Nat), w.cell? ⟨p, 4, none⟩ = some (.slice ao L.length cap) ∧ Owns base w (.slice ao L.length cap) L ∧
   (∀ sz : Int, sz ≤ most - (L.length : Int) → Calls Tryz.prog 81 #[.pointer (some ⟨p, 0, none⟩), .int .i64 sz, .int .i64 0] w fun e w' => e = .returned (.bool true) ∧ ∃ q, w' = w.drewN q) ∧
   (∀ (w2 : World) (v' : Value) (L' : List Nat), Owns base w2 v' L' → ExtP w w2 (.slice ao L.length cap) v' → w2.cell? ⟨p, 4, none⟩ = some (.slice ao L.length cap) ∧ w2.frozen? ⟨p, 4, none⟩ = false ∧ Wr K base (w2.setCell ⟨p, 4, none⟩ v') p true place 0 most L' ∧ Below lim w (w2.setCell ⟨p, 4, none⟩ v')) := by
 obtain ⟨u, hb, hO, hne⟩ := hW
 obtain ⟨ao, cap, rfl, hS, _⟩ := hO.form
 have c0 := block_cell hb 0
 have c2 := block_cell hb 2
 have c3 := block_cell hb 3
 have c4 := block_cell hb 4
 simp at c0 c2 c3 c4
 refine ⟨ao, cap, c4, hO, fun sz hsz => takes_good p most ao L.length cap sz w c0 c2 c3 c4 hm hlen hsz, fun w2 v' L' ho he => ?_⟩
 obtain ⟨k4, f4⟩ := wr_cell hb hne he
 exact ⟨k4, f4, wr_after hb hne (fun g hg => (hO.1.lt g hg).1) he ho hl1 hl2⟩
theorem ext_drew {w w2 : World} {v v' : Value} {q : Nat} (he : ExtP (w.drewN q) w2 v v') : ExtP w w2 v v' := ⟨⟨he.1.os, he.1.tape, he.1.output, he.1.size, he.1.block⟩, he.2⟩

set_option maxRecDepth 10000 in
set_option maxHeartbeats 800000 in
theorem wNum_good (base lim p v : Nat) (vi place most : Int) (L : List Nat) (w : World) (hvi : vi = (v : Int)) (hv : v < 18446744073709551616) (hW : Wr K base w p true place 0 most L) (hm : most ≤ 65507) (hfit : ((L.length + (numB v).length : Nat) : Int) ≤ most) (hbs : base ≤ w.heap.size) (hl1 : lim ≤ base) (hl2 : lim ≤ p) :
  Calls Tryz.prog 45 #[.pointer (some ⟨p, 0, none⟩), .int .u64 vi] w fun e w' => e = .returned (.tuple #[]) ∧ Wr K base w' p true place 0 most (L ++ numB v) ∧ Below lim w w' := by
 obtain ⟨ao, cap, c4, hO, htk, hfin⟩ := wr_open hW hm (by omega) hl1 hl2
 have HNS : Hid (Calls Tryz.prog 82 #[.int .u64 vi] w fun e w' => e = .returned (.int .i64 ((numB v).length : Nat)) ∧ w' = w) := numSize_any v vi w hvi hv
 have HTK : Hid (Calls Tryz.prog 81 #[.pointer (some ⟨p, 0, none⟩), .int .i64 ((numB v).length : Nat), .int .i64 0] w fun e w' => e = .returned (.bool true) ∧ ∃ q, w' = w.drewN q) := htk _ (by omega)
 have HAP : Hid (∀ q, Calls Tryz.prog 84 #[.slice ao L.length cap, .int .u64 vi] (w.drewN q) fun e w' => ∃ v', e = .returned v' ∧ Owns base w' v' (L ++ numB v) ∧ ExtP (w.drewN q) w' (.slice ao L.length cap) v') :=
  fun q => appendNum_any base _ L v vi (w.drewN q) hvi hv (hO.drew q) (by omega) hbs
 have HFIN := hide hfin
 clear hfin htk hO hW hvi
 generalize (numB v).length = ns at *
 go_enter Tryz.func45, Tryz.ntmps45
 go_wp2_with fail
 refine HNS.out.mono ?_
 rintro e w0 ⟨rfl, rfl⟩
 go_wp2_with fail
 refine HTK.out.mono ?_
 rintro e w1 ⟨rfl, q, rfl⟩
 go_wp2_with fail
 refine (HAP.out q).mono ?_
 rintro e w2 ⟨v', rfl, ho, he⟩
 obtain ⟨k4, f4, hr⟩ := HFIN.out w2 v' _ ho (ext_drew he)
 obtain ⟨a', c', rfl, _, _⟩ := ho.form
 have HR := hide hr
 clear hr ho he HFIN HAP HTK HNS c4
 generalize (L ++ numB v).length = m at *
 go_wp2
 go_end0
 exact ⟨rfl, HR.out⟩
end Go.Proofs.YtggpaljilpbmhaaGreatDoor
namespace Go.Proofs.YtggpaljilpbmhaaGreatDoor
open Go.RowKit Crc
variable {K : Kd}

set_option maxRecDepth 10000 in
set_option maxHeartbeats 400000 in
theorem countFault_good (n most : Int) (w : World) (h0 : 0 ≤ n) (h1 : n ≤ most) :
  Calls Tryz.prog 83 #[.int .i64 n, .int .i64 most] w fun e w' => e = .returned (.int .i64 0) ∧ w' = w := by
 have d0 : decide (n < 0) = false := by simp; omega
 have d1 : decide (most < n) = false := by simp; omega
 go_enter Tryz.func83, Tryz.ntmps83
 go_wp2
 go_ret
 exact ⟨rfl, rfl⟩

set_option maxRecDepth 10000 in
set_option maxHeartbeats 800000 in
theorem wCount_good (base lim p v : Nat) (vi cm place most : Int) (L : List Nat) (w : World) (hvi : vi = (v : Int)) (hv : v < 9223372036854775808) (hcm : vi ≤ cm) (hW : Wr K base w p true place 0 most L) (hm : most ≤ 65507) (hfit : ((L.length + (numB v).length : Nat) : Int) ≤ most) (hbs : base ≤ w.heap.size) (hl1 : lim ≤ base) (hl2 : lim ≤ p) :
  Calls Tryz.prog 44 #[.pointer (some ⟨p, 0, none⟩), .int .i64 vi, .int .i64 cm] w fun e w' => e = .returned (.tuple #[]) ∧ Wr K base w' p true place 0 most (L ++ numB v) ∧ Below lim w w' := by
 obtain ⟨ao, cap, c4, hO, htk, hfin⟩ := wr_open hW hm (by omega) hl1 hl2
 have HNS : Hid (Calls Tryz.prog 82 #[.int .u64 vi] w fun e w' => e = .returned (.int .i64 ((numB v).length : Nat)) ∧ w' = w) := numSize_any v vi w hvi (by omega)
 have HCF : Hid (Calls Tryz.prog 83 #[.int .i64 vi, .int .i64 cm] w fun e w' => e = .returned (.int .i64 0) ∧ w' = w) := countFault_good vi cm w (by omega) hcm
 have HTK : Hid (Calls Tryz.prog 81 #[.pointer (some ⟨p, 0, none⟩), .int .i64 ((numB v).length : Nat), .int .i64 0] w fun e w' => e = .returned (.bool true) ∧ ∃ q, w' = w.drewN q) := htk _ (by omega)
 have HAP : Hid (∀ q, Calls Tryz.prog 84 #[.slice ao L.length cap, .int .u64 vi] (w.drewN q) fun e w' => ∃ v', e = .returned v' ∧ Owns base w' v' (L ++ numB v) ∧ ExtP (w.drewN q) w' (.slice ao L.length cap) v') :=
  fun q => appendNum_any base _ L v vi (w.drewN q) hvi (by omega) (hO.drew q) (by omega) hbs
 have HFIN := hide hfin
 have h0 : 0 ≤ vi := by omega
 have h1 : vi ≤ 9223372036854775807 := by omega
 clear hfin htk hO hW hvi
 generalize (numB v).length = ns at *
 go_enter Tryz.func44, Tryz.ntmps44
 go_wp2_with fail
 refine HNS.out.mono ?_
 rintro e w0 ⟨rfl, rfl⟩
 go_wp2_with fail
 refine HCF.out.mono ?_
 rintro e w0 ⟨rfl, rfl⟩
 go_wp2_with fail
 refine HTK.out.mono ?_
 rintro e w1 ⟨rfl, q, rfl⟩
 go_wp2_with fail
 refine (HAP.out q).mono ?_
 rintro e w2 ⟨v', rfl, ho, he⟩
 obtain ⟨k4, f4, hr⟩ := HFIN.out w2 v' _ ho (ext_drew he)
 obtain ⟨a', c', rfl, _, _⟩ := ho.form
 have HR := hide hr
 clear hr ho he HFIN HAP HTK HNS HCF c4
 generalize (L ++ numB v).length = m at *
 go_wp2
 go_end0
 exact ⟨rfl, HR.out⟩

/-- The writer's list has its block from base on. -/
theorem Wr.own_lt {base : Nat} {w : World} {p : Nat} {made : Bool} {place why most : Int} {L : List Nat} (h : Wr K base w p made place why most L) {u : Value} {g : Nat} (hu : w.cell? ⟨p, 4, none⟩ = some u) (hg : u.ownBlock = some g) : base ≤ g ∧ g < w.heap.size := by
 obtain ⟨v, hb, hO, _⟩ := h
 have c4 := block_cell hb 4
 rw [hu] at c4
 simp at c4
 subst c4
 exact hO.1.lt g hg
end Go.Proofs.YtggpaljilpbmhaaGreatDoor
namespace Go.Proofs.YtggpaljilpbmhaaGreatDoor
open Go.RowKit Crc

/-- A reader as it lies. -/
def Rd (K : Kd) (lim : Nat) (w : World) (p : Nat) (made : Bool) (place why : Int) (B : List Nat) (pos : Nat) : Prop :=
 ∃ ao cap, w.heap[p]? = some (.cells (List.toArray (.bool made :: .int .i64 place :: .int .i64 why :: .slice ao B.length cap :: .int .i64 (pos : Int) :: K.R)) K.t (0, 0)) ∧ Shows lim w ao B.length cap B ∧ pos ≤ B.length ∧ lim ≤ p
variable {K : Kd}
def restB (made : Bool) (why : Int) (B : List Nat) (pos : Nat) : List Nat := if made = true ∧ why = 0 then B.drop pos else []

theorem Rd.world {lim : Nat} {w w' : World} {p : Nat} {made : Bool} {place why : Int} {B : List Nat} {pos : Nat} (h : Rd K lim w p made place why B pos) (he : w'.heap = w.heap) : Rd K lim w' p made place why B pos := by
 obtain ⟨ao, cap, hb, hS, hp, hl⟩ := h
 exact ⟨ao, cap, by rw [he]; exact hb, hS.world he, hp, hl⟩
theorem shows_drop {lim : Nat} {w : World} {ao : Option Addr} {n cap : Nat} {B : List Nat} (h : Shows lim w ao n cap B) {b off k : Nat} (hao : ao = some ⟨b, off, none⟩) (hk : k ≤ n) (hkc : 0 < n) : Shows lim w (some ⟨b, off + k, none⟩) (n - k) (cap - k) (B.drop k) := by
 obtain ⟨h1, h2, h3, h4, b', off', h5, h6, h7⟩ := h
 have e := h5 hkc
 rw [hao] at e
 cases e
 refine ⟨by rw [List.length_drop]; omega, by omega, by omega, fun x hx => h4 x (List.mem_of_mem_drop hx), b, off + k, fun _ => rfl, fun _ => h6 hkc, fun i hi => ?_⟩
 rw [List.getD_eq_getElem?_getD, List.getElem?_drop, ← List.getD_eq_getElem?_getD, Nat.add_assoc]
 exact h7 (k + i) (by omega)
theorem shows_none {lim : Nat} {w : World} {ao : Option Addr} {cap : Nat} : Shows lim w ao 0 cap [] := ⟨rfl, by omega, by omega, by simp, 0, 0, fun h => by omega, fun h => by omega, fun i hi => by omega⟩

set_option maxRecDepth 10000 in
set_option maxHeartbeats 800000 in
theorem rest_any (lim p : Nat) (made : Bool) (place why : Int) (B : List Nat) (pos : Nat) (w : World) (hR : Rd K lim w p made place why B pos) :
  Calls Tryz.prog 168 #[.pointer (some ⟨p, 0, none⟩)] w fun e w' => ∃ ao n cap, e = .returned (.slice ao n cap) ∧ Shows lim w ao n cap (restB made why B pos) ∧ ∃ q, w' = w.drewN q := by
 obtain ⟨ao, cap, hb, hS, hp, hl⟩ := hR
 have c0 := block_cell hb 0
 have c2 := block_cell hb 2
 have c3 := block_cell hb 3
 have c4 := block_cell hb 4
 simp at c0 c2 c3 c4
 have HSD := hide (sound_any p made why w c0 c2)
 have HS := hide hS
 have hlen := hS.2.2.1
 have hcapl := hS.2.1
 clear hb hS
 by_cases hd : made = true ∧ why = 0
 ·obtain ⟨rfl, rfl⟩ := hd
  have HRB : Hid (restB true 0 B pos = B.drop pos) := by simp [restB, Hid]
  have h1 : (0 : Int) ≤ (pos : Int) := by omega
  have h2 : (pos : Int) ≤ (B.length : Int) := by omega
  by_cases hz : B.length = 0
  ·have HB0 : Hid (B = []) := List.eq_nil_of_length_eq_zero hz
   obtain rfl : pos = 0 := by omega
   rw [hz] at c3 h2
   clear hz hlen hcapl
   go_enter Tryz.func168, Tryz.ntmps168
   go_wp2_with fail
   refine HSD.out.mono ?_
   rintro e w1 ⟨rfl, rfl⟩
   go_wp2_with fail
   go_quiet (fail)
   go_wp2
   go_ret
   refine ⟨_, _, _, rfl, ?_, _, rfl⟩
   rw [HRB.out, HB0.out]
   exact shows_none
  ·obtain ⟨b, off, hao⟩ : ∃ b off, ao = some ⟨b, off, none⟩ := by
    obtain ⟨_, _, _, _, b, off, h5, _, _⟩ := HS.out
    exact ⟨b, off, h5 (by omega)⟩
   subst hao
   have HFI := hide (shows_drop HS.out rfl hp (by omega))
   obtain ⟨n, hn⟩ : ∃ n, n = B.length := ⟨_, rfl⟩
   rw [← hn] at c3 hlen hcapl h2 hp hz HFI
   have HN := hide hn
   clear hn HS
   by_cases hce : cap = pos
   ·have HBD : Hid (B.drop pos = []) := by
     apply List.drop_eq_nil_of_le
     have := HN.out; omega
    subst hce
    go_enter Tryz.func168, Tryz.ntmps168
    go_wp2_with fail
    refine HSD.out.mono ?_
    rintro e w1 ⟨rfl, rfl⟩
    go_wp2_with fail
    go_quiet (fail)
    go_wp2
    go_ret
    obtain rfl : n = cap := by omega
    refine ⟨_, _, _, rfl, ?_, _, rfl⟩
    rw [HRB.out, HBD.out]
    exact shows_none
   ·go_enter Tryz.func168, Tryz.ntmps168
    go_wp2_with fail
    refine HSD.out.mono ?_
    rintro e w1 ⟨rfl, rfl⟩
    go_wp2_with fail
    go_quiet (fail)
    go_wp2
    go_ret
    refine ⟨_, _, _, rfl, ?_, _, rfl⟩
    rw [HRB.out]
    exact HFI.out
 ·have HRB : Hid (restB made why B pos = []) := by show _ = _; unfold restB; rw [if_neg hd]
  have hsb : (made && (why == 0)) = false := by
   cases made
   ·rfl
   ·simp at hd; simp [hd]
  rw [hsb] at HSD
  clear hd hsb
  go_enter Tryz.func168, Tryz.ntmps168
  go_wp2_with fail
  refine HSD.out.mono ?_
  rintro e w1 ⟨rfl, rfl⟩
  go_wp2
  go_ret
  refine ⟨_, _, _, rfl, ?_, 0, rfl⟩
  rw [HRB.out]
  exact shows_none
end Go.Proofs.YtggpaljilpbmhaaGreatDoor
