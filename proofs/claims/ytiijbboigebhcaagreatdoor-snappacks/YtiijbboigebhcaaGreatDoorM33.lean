import Derived.Test.YtiijbboigebhcaaGreatDoorM31
import Derived.Test.YtiijbboigebhcaaGreatDoorOSl
import Derived.Test.YtiijbboigebhcaaGreatDoorKToldB
namespace Go.Proofs.YtiijbboigebhcaaGreatDoor
open Go.RowKit Crc

theorem box_other {W W' : World} {k : Nat} {c : Array Value} {e t : TypeId} {row : Option Nat} (h : W.heap[k]? = some (.cells c e (0, 0))) (hg : W.grownBy W' row) (hr : row = none ∨ ∃ g cur, row = some g ∧ W.heap[g]? = some (.cells cur t (0, 0))) (hne : e ≠ t) : W'.heap[k]? = some (.cells c e (0, 0)) := by
  refine (hg.block k (block_lt h) (fun e1 => ?_)).trans h
  rcases hr with rfl | ⟨g, cur, rfl, hgc⟩
  · cases e1
  · cases e1
    rw [h] at hgc
    injection hgc with hgc
    injection hgc with _ ht _
    exact hne ht
/-- The copy as it is made: the image, the answer's box, the copy's box, and the five rows. -/
structure Tg (m : Mi) (w : World) (ca va : Value) (na : Nat) (xa : List Value) (ch vh : Value) (nh : Nat) (xh : List Value) (cj vj : Value) (nj : Nat) (xj : List Value) (cd vd : Value) (nd : Nat) (xd : List Value) (cs vs : Value) (ns : Nat) (xs : List Value) (W : World) : Prop where
  bel : Below w.heap.size w W
  ia : W.heap[w.heap.size]? = some (.cells #[.int .u64 (m.slot : Int), .int .u64 (m.now : Int), .int .u64 (m.tot : Int), .int .u64 (m.nx : Int), .slice m.ao m.an m.ac, .slice m.ho m.hn m.hc, .slice m.jo m.jn m.jc, .slice m.dO m.dn m.dc, .int .u64 (m.ends : Int), .slice m.so m.sn m.sc] 33 (0, 0))
  ir : W.heap[w.heap.size + 1]? = some (.cells #[.int .u64 0, .int .u64 0, .int .u64 0, .int .u64 0, .slice none 0 0, .slice none 0 0, .slice none 0 0, .slice none 0 0, .int .u64 0, .slice none 0 0] 33 (0, 0))
  ib : W.heap[w.heap.size + 2]? = some (.cells #[.int .u64 (m.slot : Int), .int .u64 (m.now : Int), .int .u64 (m.tot : Int), .int .u64 (m.nx : Int), ca, ch, cj, cd, .int .u64 (m.ends : Int), cs] 33 (0, 0))
  ra : W.ownsRow (w.heap.size + 3) 63 4 va na xa
  rh : W.ownsRow (w.heap.size + 3) 65 3 vh nh xh
  rj : W.ownsRow (w.heap.size + 3) 67 5 vj nj xj
  rd : W.ownsRow (w.heap.size + 3) 58 13 vd nd xd
  rs : W.ownsRow (w.heap.size + 3) 61 5 vs ns xs
theorem Tg.quiet {m : Mi} {w : World} {ca va : Value} {na : Nat} {xa : List Value} {ch vh : Value} {nh : Nat} {xh : List Value} {cj vj : Value} {nj : Nat} {xj : List Value} {cd vd : Value} {nd : Nat} {xd : List Value} {cs vs : Value} {ns : Nat} {xs : List Value} {W W' : World} (h : Tg m w ca va na xa ch vh nh xh cj vj nj xj cd vd nd xd cs vs ns xs W) (hb : Below W.heap.size W W') : Tg m w ca va na xa ch vh nh xh cj vj nj xj cd vd nd xd cs vs ns xs W' := by
  have g := below_none hb
  exact ⟨below_trans1 h.bel hb, (hb.block _ (block_lt h.ia)).trans h.ia, (hb.block _ (block_lt h.ir)).trans h.ir, (hb.block _ (block_lt h.ib)).trans h.ib, own_other h.ra g (.inl rfl) (t := 0) (by decide), own_other h.rh g (.inl rfl) (t := 0) (by decide), own_other h.rj g (.inl rfl) (t := 0) (by decide), own_other h.rd g (.inl rfl) (t := 0) (by decide), own_other h.rs g (.inl rfl) (t := 0) (by decide)⟩
theorem own_set {W : World} {base z n g i : Nat} {e : TypeId} {v u : Value} {xs : List Value} (h : W.ownsRow base e z v n xs) (hg : g < base) : (W.setCell ⟨g, i, none⟩ u).ownsRow base e z v n xs := h.kept (grown_set W g i u) (by
  cases e1 : v.ownBlock with
  | none => exact .inl rfl
  | some k => exact .inr (fun e2 => by cases e2; have := (h.lt g e1).1; omega))
theorem box_set {W : World} {g k i : Nat} {u : Value} {ob : Obj} (h : W.heap[k]? = some ob) (hk : k < W.heap.size) (hne : k ≠ g) : (W.setCell ⟨g, i, none⟩ u).heap[k]? = some ob := ((grown_set W g i u).block k hk (by simpa using fun e => hne e)).trans h
theorem Tg.step_a {m : Mi} {w : World} {ca va : Value} {na : Nat} {xa : List Value} {ch vh : Value} {nh : Nat} {xh : List Value} {cj vj : Value} {nj : Nat} {xj : List Value} {cd vd : Value} {nd : Nat} {xd : List Value} {cs vs : Value} {ns : Nat} {xs : List Value} {W W0 w2 : World} (h : Tg m w ca va na xa ch vh nh xh cj vj nj xj cd vd nd xd cs vs ns xs W) (hW : Below W.heap.size W W0) {v' c' : Value} {nw : List Value} (ho : w2.ownsRow (w.heap.size + 3) 63 4 v' (na + 1) (xa ++ nw)) (hg : W0.grownBy w2 va.ownBlock) : Tg m w c' v' (na + 1) (xa ++ nw) ch vh nh xh cj vj nj xj cd vd nd xd cs vs ns xs (w2.setCell ⟨w.heap.size + 2, 4, none⟩ c') ∧ w2.cell? ⟨w.heap.size + 2, 4, none⟩ = some ca ∧ w2.frozen? ⟨w.heap.size + 2, 4, none⟩ = false ∧ w.heap.size + 2 < w2.heap.size := by
  have h0 := h.quiet hW
  have hr := (hr_of h0.ra).block
  have i1 := box_other h0.ia hg hr (by decide)
  have i2 := box_other h0.ir hg hr (by decide)
  have i3 := box_other h0.ib hg hr (by decide)
  have c3 := block_cell i3 4
  simp at c3
  have hb : Below w.heap.size w w2 := ⟨hg.os.trans h0.bel.os, hg.tape.trans h0.bel.tape, hg.output.trans h0.bel.output, Nat.le_trans h0.bel.size hg.size, fun k hk => (hg.block k (Nat.lt_of_lt_of_le hk h0.bel.size) (fun e => by
    have := (h0.ra.lt k e.symm).1
    omega)).trans (h0.bel.block k hk)⟩
  refine ⟨⟨hb.setCell (p := ⟨w.heap.size + 2, 4, none⟩) (by simp) _, box_set i1 (block_lt i1) (by omega), box_set i2 (block_lt i2) (by omega), ?_, own_set ho (by omega), own_set (own_other h0.rh hg hr (by decide)) (by omega), own_set (own_other h0.rj hg hr (by decide)) (by omega), own_set (own_other h0.rd hg hr (by decide)) (by omega), own_set (own_other h0.rs hg hr (by decide)) (by omega)⟩, c3, block_free i3 4, block_lt i3⟩
  rw [heap_setCell_same w2 (w.heap.size + 2) 4 _ _ c' i3]
  rfl
theorem Tg.step_h {m : Mi} {w : World} {ca va : Value} {na : Nat} {xa : List Value} {ch vh : Value} {nh : Nat} {xh : List Value} {cj vj : Value} {nj : Nat} {xj : List Value} {cd vd : Value} {nd : Nat} {xd : List Value} {cs vs : Value} {ns : Nat} {xs : List Value} {W W0 w2 : World} (h : Tg m w ca va na xa ch vh nh xh cj vj nj xj cd vd nd xd cs vs ns xs W) (hW : Below W.heap.size W W0) {v' c' : Value} {nw : List Value} (ho : w2.ownsRow (w.heap.size + 3) 65 3 v' (nh + 1) (xh ++ nw)) (hg : W0.grownBy w2 vh.ownBlock) : Tg m w ca va na xa c' v' (nh + 1) (xh ++ nw) cj vj nj xj cd vd nd xd cs vs ns xs (w2.setCell ⟨w.heap.size + 2, 5, none⟩ c') ∧ w2.cell? ⟨w.heap.size + 2, 5, none⟩ = some ch ∧ w2.frozen? ⟨w.heap.size + 2, 5, none⟩ = false ∧ w.heap.size + 2 < w2.heap.size := by
  have h0 := h.quiet hW
  have hr := (hr_of h0.rh).block
  have i1 := box_other h0.ia hg hr (by decide)
  have i2 := box_other h0.ir hg hr (by decide)
  have i3 := box_other h0.ib hg hr (by decide)
  have c3 := block_cell i3 5
  simp at c3
  have hb : Below w.heap.size w w2 := ⟨hg.os.trans h0.bel.os, hg.tape.trans h0.bel.tape, hg.output.trans h0.bel.output, Nat.le_trans h0.bel.size hg.size, fun k hk => (hg.block k (Nat.lt_of_lt_of_le hk h0.bel.size) (fun e => by
    have := (h0.rh.lt k e.symm).1
    omega)).trans (h0.bel.block k hk)⟩
  refine ⟨⟨hb.setCell (p := ⟨w.heap.size + 2, 5, none⟩) (by simp) _, box_set i1 (block_lt i1) (by omega), box_set i2 (block_lt i2) (by omega), ?_, own_set (own_other h0.ra hg hr (by decide)) (by omega), own_set ho (by omega), own_set (own_other h0.rj hg hr (by decide)) (by omega), own_set (own_other h0.rd hg hr (by decide)) (by omega), own_set (own_other h0.rs hg hr (by decide)) (by omega)⟩, c3, block_free i3 5, block_lt i3⟩
  rw [heap_setCell_same w2 (w.heap.size + 2) 5 _ _ c' i3]
  rfl
theorem Tg.step_j {m : Mi} {w : World} {ca va : Value} {na : Nat} {xa : List Value} {ch vh : Value} {nh : Nat} {xh : List Value} {cj vj : Value} {nj : Nat} {xj : List Value} {cd vd : Value} {nd : Nat} {xd : List Value} {cs vs : Value} {ns : Nat} {xs : List Value} {W W0 w2 : World} (h : Tg m w ca va na xa ch vh nh xh cj vj nj xj cd vd nd xd cs vs ns xs W) (hW : Below W.heap.size W W0) {v' c' : Value} {nw : List Value} (ho : w2.ownsRow (w.heap.size + 3) 67 5 v' (nj + 1) (xj ++ nw)) (hg : W0.grownBy w2 vj.ownBlock) : Tg m w ca va na xa ch vh nh xh c' v' (nj + 1) (xj ++ nw) cd vd nd xd cs vs ns xs (w2.setCell ⟨w.heap.size + 2, 6, none⟩ c') ∧ w2.cell? ⟨w.heap.size + 2, 6, none⟩ = some cj ∧ w2.frozen? ⟨w.heap.size + 2, 6, none⟩ = false ∧ w.heap.size + 2 < w2.heap.size := by
  have h0 := h.quiet hW
  have hr := (hr_of h0.rj).block
  have i1 := box_other h0.ia hg hr (by decide)
  have i2 := box_other h0.ir hg hr (by decide)
  have i3 := box_other h0.ib hg hr (by decide)
  have c3 := block_cell i3 6
  simp at c3
  have hb : Below w.heap.size w w2 := ⟨hg.os.trans h0.bel.os, hg.tape.trans h0.bel.tape, hg.output.trans h0.bel.output, Nat.le_trans h0.bel.size hg.size, fun k hk => (hg.block k (Nat.lt_of_lt_of_le hk h0.bel.size) (fun e => by
    have := (h0.rj.lt k e.symm).1
    omega)).trans (h0.bel.block k hk)⟩
  refine ⟨⟨hb.setCell (p := ⟨w.heap.size + 2, 6, none⟩) (by simp) _, box_set i1 (block_lt i1) (by omega), box_set i2 (block_lt i2) (by omega), ?_, own_set (own_other h0.ra hg hr (by decide)) (by omega), own_set (own_other h0.rh hg hr (by decide)) (by omega), own_set ho (by omega), own_set (own_other h0.rd hg hr (by decide)) (by omega), own_set (own_other h0.rs hg hr (by decide)) (by omega)⟩, c3, block_free i3 6, block_lt i3⟩
  rw [heap_setCell_same w2 (w.heap.size + 2) 6 _ _ c' i3]
  rfl
theorem Tg.step_d {m : Mi} {w : World} {ca va : Value} {na : Nat} {xa : List Value} {ch vh : Value} {nh : Nat} {xh : List Value} {cj vj : Value} {nj : Nat} {xj : List Value} {cd vd : Value} {nd : Nat} {xd : List Value} {cs vs : Value} {ns : Nat} {xs : List Value} {W W0 w2 : World} (h : Tg m w ca va na xa ch vh nh xh cj vj nj xj cd vd nd xd cs vs ns xs W) (hW : Below W.heap.size W W0) {v' c' : Value} {nw : List Value} (ho : w2.ownsRow (w.heap.size + 3) 58 13 v' (nd + 1) (xd ++ nw)) (hg : W0.grownBy w2 vd.ownBlock) : Tg m w ca va na xa ch vh nh xh cj vj nj xj c' v' (nd + 1) (xd ++ nw) cs vs ns xs (w2.setCell ⟨w.heap.size + 2, 7, none⟩ c') ∧ w2.cell? ⟨w.heap.size + 2, 7, none⟩ = some cd ∧ w2.frozen? ⟨w.heap.size + 2, 7, none⟩ = false ∧ w.heap.size + 2 < w2.heap.size := by
  have h0 := h.quiet hW
  have hr := (hr_of h0.rd).block
  have i1 := box_other h0.ia hg hr (by decide)
  have i2 := box_other h0.ir hg hr (by decide)
  have i3 := box_other h0.ib hg hr (by decide)
  have c3 := block_cell i3 7
  simp at c3
  have hb : Below w.heap.size w w2 := ⟨hg.os.trans h0.bel.os, hg.tape.trans h0.bel.tape, hg.output.trans h0.bel.output, Nat.le_trans h0.bel.size hg.size, fun k hk => (hg.block k (Nat.lt_of_lt_of_le hk h0.bel.size) (fun e => by
    have := (h0.rd.lt k e.symm).1
    omega)).trans (h0.bel.block k hk)⟩
  refine ⟨⟨hb.setCell (p := ⟨w.heap.size + 2, 7, none⟩) (by simp) _, box_set i1 (block_lt i1) (by omega), box_set i2 (block_lt i2) (by omega), ?_, own_set (own_other h0.ra hg hr (by decide)) (by omega), own_set (own_other h0.rh hg hr (by decide)) (by omega), own_set (own_other h0.rj hg hr (by decide)) (by omega), own_set ho (by omega), own_set (own_other h0.rs hg hr (by decide)) (by omega)⟩, c3, block_free i3 7, block_lt i3⟩
  rw [heap_setCell_same w2 (w.heap.size + 2) 7 _ _ c' i3]
  rfl
theorem Tg.step_s {m : Mi} {w : World} {ca va : Value} {na : Nat} {xa : List Value} {ch vh : Value} {nh : Nat} {xh : List Value} {cj vj : Value} {nj : Nat} {xj : List Value} {cd vd : Value} {nd : Nat} {xd : List Value} {cs vs : Value} {ns : Nat} {xs : List Value} {W W0 w2 : World} (h : Tg m w ca va na xa ch vh nh xh cj vj nj xj cd vd nd xd cs vs ns xs W) (hW : Below W.heap.size W W0) {v' c' : Value} {nw : List Value} (ho : w2.ownsRow (w.heap.size + 3) 61 5 v' (ns + 1) (xs ++ nw)) (hg : W0.grownBy w2 vs.ownBlock) : Tg m w ca va na xa ch vh nh xh cj vj nj xj cd vd nd xd c' v' (ns + 1) (xs ++ nw) (w2.setCell ⟨w.heap.size + 2, 9, none⟩ c') ∧ w2.cell? ⟨w.heap.size + 2, 9, none⟩ = some cs ∧ w2.frozen? ⟨w.heap.size + 2, 9, none⟩ = false ∧ w.heap.size + 2 < w2.heap.size := by
  have h0 := h.quiet hW
  have hr := (hr_of h0.rs).block
  have i1 := box_other h0.ia hg hr (by decide)
  have i2 := box_other h0.ir hg hr (by decide)
  have i3 := box_other h0.ib hg hr (by decide)
  have c3 := block_cell i3 9
  simp at c3
  have hb : Below w.heap.size w w2 := ⟨hg.os.trans h0.bel.os, hg.tape.trans h0.bel.tape, hg.output.trans h0.bel.output, Nat.le_trans h0.bel.size hg.size, fun k hk => (hg.block k (Nat.lt_of_lt_of_le hk h0.bel.size) (fun e => by
    have := (h0.rs.lt k e.symm).1
    omega)).trans (h0.bel.block k hk)⟩
  refine ⟨⟨hb.setCell (p := ⟨w.heap.size + 2, 9, none⟩) (by simp) _, box_set i1 (block_lt i1) (by omega), box_set i2 (block_lt i2) (by omega), ?_, own_set (own_other h0.ra hg hr (by decide)) (by omega), own_set (own_other h0.rh hg hr (by decide)) (by omega), own_set (own_other h0.rj hg hr (by decide)) (by omega), own_set (own_other h0.rd hg hr (by decide)) (by omega), own_set ho (by omega)⟩, c3, block_free i3 9, block_lt i3⟩
  rw [heap_setCell_same w2 (w.heap.size + 2) 9 _ _ c' i3]
  rfl
end Go.Proofs.YtiijbboigebhcaaGreatDoor
namespace Go.Proofs.YtiijbboigebhcaaGreatDoor
open Go.RowKit Crc

theorem below_ad (W : World) (o : Obj) : Below W.heap.size W (W.alloc o).drew := below_trans1 ((Below.refl _ W).alloc (Nat.le_refl _) o) (Go.below_drewN (Below.refl _ _) 1)
theorem flat_take {α : Type} (f : α → List Value) (L : List α) (k : Nat) (x : α) (h : L[k]? = some x) : flat f (L.take k) ++ f x = flat f (L.take (k + 1)) := by
  rw [List.take_add_one, h]
  simp [flat]
theorem tg_start (m : Mi) (w : World) : Tg m w (.slice none 0 0) (.slice none 0 0) 0 [] (.slice none 0 0) (.slice none 0 0) 0 [] (.slice none 0 0) (.slice none 0 0) 0 [] (.slice none 0 0) (.slice none 0 0) 0 [] (.slice none 0 0) (.slice none 0 0) 0 [] (((w.alloc (.cells #[.int .u64 (m.slot : Int), .int .u64 (m.now : Int), .int .u64 (m.tot : Int), .int .u64 (m.nx : Int), .slice m.ao m.an m.ac, .slice m.ho m.hn m.hc, .slice m.jo m.jn m.jc, .slice m.dO m.dn m.dc, .int .u64 (m.ends : Int), .slice m.so m.sn m.sc] 33)).alloc (.cells #[.int .u64 0, .int .u64 0, .int .u64 0, .int .u64 0, .slice none 0 0, .slice none 0 0, .slice none 0 0, .slice none 0 0, .int .u64 0, .slice none 0 0] 33)).alloc (.cells #[.int .u64 (m.slot : Int), .int .u64 (m.now : Int), .int .u64 (m.tot : Int), .int .u64 (m.nx : Int), .slice none 0 0, .slice none 0 0, .slice none 0 0, .slice none 0 0, .int .u64 (m.ends : Int), .slice none 0 0] 33)) := by
  obtain ⟨W1, hW1⟩ : ∃ W1, w.alloc (.cells #[.int .u64 (m.slot : Int), .int .u64 (m.now : Int), .int .u64 (m.tot : Int), .int .u64 (m.nx : Int), .slice m.ao m.an m.ac, .slice m.ho m.hn m.hc, .slice m.jo m.jn m.jc, .slice m.dO m.dn m.dc, .int .u64 (m.ends : Int), .slice m.so m.sn m.sc] 33) = W1 := ⟨_, rfl⟩
  rw [hW1]
  obtain ⟨W2, hW2⟩ : ∃ W2, W1.alloc (.cells #[.int .u64 0, .int .u64 0, .int .u64 0, .int .u64 0, .slice none 0 0, .slice none 0 0, .slice none 0 0, .slice none 0 0, .int .u64 0, .slice none 0 0] 33) = W2 := ⟨_, rfl⟩
  rw [hW2]
  have s1 : W1.heap.size = w.heap.size + 1 := by rw [← hW1]; simp
  have s2 : W2.heap.size = w.heap.size + 2 := by rw [← hW2]; simp [s1]
  have b1 : Below w.heap.size w W1 := by rw [← hW1]; exact (Below.refl _ w).alloc (Nat.le_refl _) _
  have b2 : Below W1.heap.size W1 W2 := by rw [← hW2]; exact (Below.refl _ W1).alloc (Nat.le_refl _) _
  have b3 := fun o => (Below.refl W2.heap.size W2).alloc (Nat.le_refl _) o
  have q1 := alloc_atN w (.cells #[.int .u64 (m.slot : Int), .int .u64 (m.now : Int), .int .u64 (m.tot : Int), .int .u64 (m.nx : Int), .slice m.ao m.an m.ac, .slice m.ho m.hn m.hc, .slice m.jo m.jn m.jc, .slice m.dO m.dn m.dc, .int .u64 (m.ends : Int), .slice m.so m.sn m.sc] 33)
  rw [hW1] at q1
  have q2 := alloc_atN W1 (.cells #[.int .u64 0, .int .u64 0, .int .u64 0, .int .u64 0, .slice none 0 0, .slice none 0 0, .slice none 0 0, .slice none 0 0, .int .u64 0, .slice none 0 0] 33)
  rw [hW2] at q2
  have q1' := (b2.block _ (by omega)).trans q1
  rw [s1] at q2
  refine ⟨below_trans1 b1 (below_trans1 b2 (b3 _)), ((b3 _).block _ (by omega)).trans q1', ((b3 _).block _ (by omega)).trans q2, ?_, World.ownsRow_nil _ _ _ _, World.ownsRow_nil _ _ _ _, World.ownsRow_nil _ _ _ _, World.ownsRow_nil _ _ _ _, World.ownsRow_nil _ _ _ _⟩
  rw [← s2]
  exact alloc_atN _ _
/-- A session's copy. -/
def Sn.tw (x : Sn) (g : Nat) : Sn := ⟨x.cl, x.sq, x.st, x.cd, some ⟨g, 0, none⟩, x.cn, x.cn + 72, x.D⟩
structure Tds (m : Mi) (lo : Nat) (k : Nat) (T : List Sn) (W : World) : Prop where
  len : T.length = k
  at_ : ∀ (j : Nat) (y : Sn), T[j]? = some y → ∃ (x : Sn) (g : Nat), m.S[j]? = some x ∧ y = x.tw g ∧ Tw W g x.cn x.D ∧ lo ≤ g ∧ g < W.heap.size
  ap : T.Pairwise fun a b => a.sl.ownBlock = none ∨ a.sl.ownBlock ≠ b.sl.ownBlock
/-- The copy: the same values in memory of its own, a mark behind each list. -/
structure Twn (m m' : Mi) (lo : Nat) (W : World) : Prop where
  val : m'.val = m.val
  len : m'.an = m.an ∧ m'.hn = m.hn ∧ m'.jn = m.jn ∧ m'.dn = m.dn ∧ m'.sn = m.sn
  own : m'.Own lo W
  ka : ∃ xs, W.ownsRow lo 63 4 (.slice m'.ao (m'.an + 1) m'.ac) (m'.an + 1) (xs ++ [.int .u64 81, .int .u64 0, .int .u64 0, .int .u64 0])
  kh : ∃ xs, W.ownsRow lo 65 3 (.slice m'.ho (m'.hn + 1) m'.hc) (m'.hn + 1) (xs ++ [.int .u64 82, .int .u64 0, .int .u64 0])
  kj : ∃ xs, W.ownsRow lo 67 5 (.slice m'.jo (m'.jn + 1) m'.jc) (m'.jn + 1) (xs ++ [.int .u64 83, .int .i64 0, .int .u64 0, .int .u64 0, .int .u64 0])
  kd : ∃ xs, W.ownsRow lo 58 13 (.slice m'.dO (m'.dn + 1) m'.dc) (m'.dn + 1) (xs ++ [.int .u64 84, .int .u64 0, .int .u64 0, .int .u64 0, .int .u64 0, .int .u64 0, .int .u64 0, .int .i64 0, .int .u64 0, .int .u64 0, .int .u64 0, .int .u64 0, .string ⟨#[]⟩])
  ks : ∃ xs, W.ownsRow lo 61 5 (.slice m'.so (m'.sn + 1) m'.sc) (m'.sn + 1) (xs ++ [.int .u64 85, .int .u64 0, .int .u64 0, .int .i64 0, .slice none 0 0])
  dat : Tds m lo m.sn m'.S W
def TwQ (m : Mi) (w : World) (e : Ending) (w' : World) : Prop := ∃ m' : Mi, e = .returned (.agg #[.int .u64 (m'.slot : Int), .int .u64 (m'.now : Int), .int .u64 (m'.tot : Int), .int .u64 (m'.nx : Int), .slice m'.ao m'.an m'.ac, .slice m'.ho m'.hn m'.hc, .slice m'.jo m'.jn m'.jc, .slice m'.dO m'.dn m'.dc, .int .u64 (m'.ends : Int), .slice m'.so m'.sn m'.sc]) ∧ Hid (Twn m m' w.heap.size w' ∧ Below w.heap.size w w')
end Go.Proofs.YtiijbboigebhcaaGreatDoor
namespace Go.Proofs.YtiijbboigebhcaaGreatDoor
open Go.RowKit Crc

theorem Tw.other {W W' : World} {g n : Nat} {B : List Nat} {t : TypeId} {row : Option Nat} (h : Tw W g n B) (hg : W.grownBy W' row) (hr : row = none ∨ ∃ k cur, row = some k ∧ W.heap[k]? = some (.cells cur t (0, 0))) (hne : (5 : TypeId) ≠ t) : Tw W' g n B := ⟨h.1, own_other h.2 hg hr hne⟩
theorem Tw.set {W : World} {g n k i : Nat} {B : List Nat} {u : Value} (h : Tw W g n B) (hk : k < g) : Tw (W.setCell ⟨k, i, none⟩ u) g n B := ⟨h.1, own_set h.2 hk⟩
theorem Tds.quiet {m : Mi} {lo k : Nat} {T : List Sn} {W W' : World} (h : Tds m lo k T W) (hb : Below W.heap.size W W') : Tds m lo k T W' := ⟨h.len, fun j y hy => by
  obtain ⟨x, g, h1, h2, h3, h4, h5⟩ := h.at_ j y hy
  exact ⟨x, g, h1, h2, h3.other (below_none hb) (.inl rfl) (t := 0) (by decide), h4, Nat.lt_of_lt_of_le h5 hb.size⟩, h.ap⟩
theorem Tds.other {m : Mi} {lo k : Nat} {T : List Sn} {W W' : World} {t : TypeId} {row : Option Nat} (h : Tds m lo k T W) (hg : W.grownBy W' row) (hr : row = none ∨ ∃ k cur, row = some k ∧ W.heap[k]? = some (.cells cur t (0, 0))) (hne : (5 : TypeId) ≠ t) : Tds m lo k T W' := ⟨h.len, fun j y hy => by
  obtain ⟨x, g, h1, h2, h3, h4, h5⟩ := h.at_ j y hy
  exact ⟨x, g, h1, h2, h3.other hg hr hne, h4, Nat.lt_of_lt_of_le h5 hg.size⟩, h.ap⟩
theorem Tds.set {m : Mi} {lo k b i : Nat} {T : List Sn} {W : World} {u : Value} (h : Tds m lo k T W) (hb : b < lo) : Tds m lo k T (W.setCell ⟨b, i, none⟩ u) := ⟨h.len, fun j y hy => by
  obtain ⟨x, g, h1, h2, h3, h4, h5⟩ := h.at_ j y hy
  exact ⟨x, g, h1, h2, h3.set (by omega), h4, by have := (grown_set W b i u).size; omega⟩, h.ap⟩
theorem Tds.snoc {m : Mi} {lo k g : Nat} {T : List Sn} {W W' : World} {x : Sn} (h : Tds m lo k T W) (h' : Tds m lo k T W') (hx : m.S[k]? = some x) (ht : Tw W' g x.cn x.D) (hlo : lo ≤ g) (hg : W.heap.size ≤ g) (hg' : g < W'.heap.size) : Tds m lo (k + 1) (T ++ [x.tw g]) W' := by
  refine ⟨by simp [h.len], fun j y hy => ?_, ?_⟩
  · by_cases hj : j < k
    · rw [List.getElem?_append_left (by rw [h.len]; exact hj)] at hy
      exact h'.at_ j y hy
    · rw [List.getElem?_append_right (by rw [h.len]; omega), h.len] at hy
      have hj0 : j - k = 0 := by
        have := (List.getElem?_eq_some_iff.1 hy).1
        simp at this
        omega
      rw [hj0] at hy
      simp at hy
      subst hy
      obtain rfl : j = k := by omega
      exact ⟨x, g, hx, rfl, ht, hlo, hg'⟩
  · refine List.pairwise_append.2 ⟨h.ap, by simp, fun a ha b hb => ?_⟩
    simp at hb
    subst hb
    obtain ⟨j, hj, e⟩ := List.getElem_of_mem ha
    obtain ⟨x', g', -, h2, -, -, h5⟩ := h.at_ j a (by rw [List.getElem?_eq_getElem hj, e])
    subst h2
    refine .inr (fun e => ?_)
    simp [Sn.sl, Sn.tw, Value.ownBlock] at e
    omega
theorem Tds.cells {T : List Sn} {x : Sn} {g : Nat} : flat Sn.cells T ++ [.int .u64 (x.cl : Int), .int .u64 (x.sq : Int), .int .u64 (x.st : Int), .int .i64 x.cd, .slice (some ⟨g, 0, none⟩) x.cn (x.cn + 72)] = flat Sn.cells (T ++ [x.tw g]) := by
  rw [flat_snoc]
  rfl
/-- A row with its mark behind it is the row. -/
theorem own_cut {W : World} {base z n g cap : Nat} {e : TypeId} {xs ys : List Value} (h : W.ownsRow base e z (.slice (some ⟨g, 0, none⟩) (n + 1) cap) (n + 1) (xs ++ ys)) (hl : xs.length = n * z) : W.ownsRow base e z (.slice (some ⟨g, 0, none⟩) n cap) n xs := by
  refine ⟨hl, ?_⟩
  rcases h.2 with ⟨h0, _⟩ | ⟨g', cap', cur, he, h1, h2, h3, h4, h5, h6⟩
  · cases h0
  · cases he
    refine .inr ⟨g, cap, cur, rfl, h1, h2, by omega, h4, h5, ?_⟩
    have h7 := congrArg (List.take (n * z)) h6
    rw [List.take_take, Nat.add_mul, Nat.min_eq_left (by omega), ← hl, List.take_left] at h7
    rw [← hl]
    exact h7
theorem own_cap {W : World} {base z n g cap : Nat} {e : TypeId} {xs : List Value} (h : W.ownsRow base e z (.slice (some ⟨g, 0, none⟩) n cap) n xs) : n ≤ cap := by
  rcases h.2 with ⟨h0, _⟩ | ⟨g', cap', cur, he, h1, h2, h3, _⟩
  · cases h0
  · cases he
    exact h3
theorem flat_len {α : Type} {f : α → List Value} {z : Nat} (hf : ∀ x, (f x).length = z) : ∀ (L : List α), (flat f L).length = L.length * z
  | [] => by simp [flat]
  | x :: r => by
    have := flat_len hf r
    simp only [flat, List.map_cons, List.flatten_cons, List.length_append, List.length_cons, hf] at this ⊢
    rw [this, Nat.add_mul]
    omega
theorem Tds.val {m : Mi} {lo : Nat} {T : List Sn} {W : World} (h : Tds m lo m.S.length T W) : T.map Sn.val = m.S.map Sn.val := by
  apply List.ext_getElem?
  intro j
  rw [List.getElem?_map, List.getElem?_map]
  by_cases hj : j < T.length
  · obtain ⟨x, g, h1, h2, -⟩ := h.at_ j _ (List.getElem?_eq_getElem hj)
    rw [List.getElem?_eq_getElem hj, h2, h1]
    rfl
  · rw [List.getElem?_eq_none (by omega), List.getElem?_eq_none (by have := h.len; omega)]
end Go.Proofs.YtiijbboigebhcaaGreatDoor
namespace Go.Proofs.YtiijbboigebhcaaGreatDoor
open Go.RowKit Crc

theorem own_cutm {W : World} {base z n m g cap : Nat} {e : TypeId} {xs ys : List Value} (h : W.ownsRow base e z (.slice (some ⟨g, 0, none⟩) (n + m) cap) (n + m) (xs ++ ys)) (hl : xs.length = n * z) : W.ownsRow base e z (.slice (some ⟨g, 0, none⟩) n cap) n xs := by
  refine ⟨hl, ?_⟩
  rcases h.2 with ⟨h0, _⟩ | ⟨g', cap', cur, he, h1, h2, h3, h4, h5, h6⟩
  · cases h0
  · cases he
    refine .inr ⟨g, cap, cur, rfl, h1, h2, by omega, h4, h5, ?_⟩
    have h7 := congrArg (List.take (n * z)) h6
    rw [List.take_take, Nat.add_mul, Nat.min_eq_left (by omega), ← hl, List.take_left] at h7
    rw [← hl]
    exact h7
theorem own_past {W W' : World} {base z n b : Nat} {e : TypeId} {v : Value} {xs : List Value} (h : W.ownsRow base e z v n xs) (hg : W.grownBy W' (some b)) (hb : b < base) : W'.ownsRow base e z v n xs := h.kept hg (by
  cases e1 : v.ownBlock with
  | none => exact .inl rfl
  | some k => exact .inr (fun e2 => by cases e2; have := (h.lt b e1).1; omega))
theorem own_lower {W : World} {base base' z n : Nat} {e : TypeId} {v : Value} {xs : List Value} (h : W.ownsRow base e z v n xs) (hb : base' ≤ base) : W.ownsRow base' e z v n xs := by
  refine ⟨h.1, ?_⟩
  rcases h.2 with h0 | ⟨g, cap, cur, h1, h2, h3⟩
  · exact .inl h0
  · exact .inr ⟨g, cap, cur, h1, by omega, h3⟩
theorem Tds.past {m : Mi} {lo k b : Nat} {T : List Sn} {W W' : World} (h : Tds m lo k T W) (hg : W.grownBy W' (some b)) (hb : b < lo) : Tds m lo k T W' := ⟨h.len, fun j y hy => by
  obtain ⟨x, g, h1, h2, h3, h4, h5⟩ := h.at_ j y hy
  exact ⟨x, g, h1, h2, ⟨h3.1, own_past h3.2 hg (by omega)⟩, h4, Nat.lt_of_lt_of_le h5 hg.size⟩, h.ap⟩
theorem Tds.lower {m : Mi} {lo lo' k : Nat} {T : List Sn} {W : World} (h : Tds m lo k T W) (hl : lo' ≤ lo) : Tds m lo' k T W := ⟨h.len, fun j y hy => by
  obtain ⟨x, g, h1, h2, h3, h4, h5⟩ := h.at_ j y hy
  exact ⟨x, g, h1, h2, h3, by omega, h5⟩, h.ap⟩
theorem tw_fin {m : Mi} {w W : World} {ga ka gh kh gj kj gd kd gs ks : Nat} {T : List Sn} (lA : m.A.length = m.an) (lH : m.H.length = m.hn) (lJ : m.J.length = m.jn) (lD : m.D.length = m.dn) (lS : m.S.length = m.sn) (hS : ∀ x ∈ m.S, x.cn = x.D.length ∧ x.cn ≤ 140737488355328 ∧ ∀ b ∈ x.D, b < 256)
    (h : Tg m w (.slice (some ⟨ga, 0, none⟩) m.an ka) (.slice (some ⟨ga, 0, none⟩) (m.an + 1) ka) (m.an + 1) ((flat Ac.cells m.A) ++ [.int .u64 81, .int .u64 0, .int .u64 0, .int .u64 0]) (.slice (some ⟨gh, 0, none⟩) m.hn kh) (.slice (some ⟨gh, 0, none⟩) (m.hn + 1) kh) (m.hn + 1) ((flat Ho.cells m.H) ++ [.int .u64 82, .int .u64 0, .int .u64 0]) (.slice (some ⟨gj, 0, none⟩) m.jn kj) (.slice (some ⟨gj, 0, none⟩) (m.jn + 1) kj) (m.jn + 1) ((flat En.cells m.J) ++ [.int .u64 83, .int .i64 0, .int .u64 0, .int .u64 0, .int .u64 0]) (.slice (some ⟨gd, 0, none⟩) m.dn kd) (.slice (some ⟨gd, 0, none⟩) (m.dn + 1) kd) (m.dn + 1) ((flat De.cells m.D) ++ [.int .u64 84, .int .u64 0, .int .u64 0, .int .u64 0, .int .u64 0, .int .u64 0, .int .u64 0, .int .i64 0, .int .u64 0, .int .u64 0, .int .u64 0, .int .u64 0, .string ⟨#[]⟩]) (.slice (some ⟨gs, 0, none⟩) m.sn ks) (.slice (some ⟨gs, 0, none⟩) (m.sn + 1) ks) (m.sn + 1) ((flat Sn.cells T) ++ [.int .u64 85, .int .u64 0, .int .u64 0, .int .i64 0, .slice none 0 0]) W) (hd : Tds m (w.heap.size + 3) m.sn T W) (x0 x1 x2 x3 x4 x5 x6 x7 x8 x9 : Value) : Twn m (⟨m.slot, m.now, m.tot, m.nx, m.A, m.H, m.J, m.D, m.ends, T, some ⟨ga, 0, none⟩, m.an, ka, some ⟨gh, 0, none⟩, m.hn, kh, some ⟨gj, 0, none⟩, m.jn, kj, some ⟨gd, 0, none⟩, m.dn, kd, some ⟨gs, 0, none⟩, m.sn, ks⟩ : Mi) w.heap.size (st10 W (w.heap.size + 1) x0 x1 x2 x3 x4 x5 x6 x7 x8 x9) ∧ Below w.heap.size w (st10 W (w.heap.size + 1) x0 x1 x2 x3 x4 x5 x6 x7 x8 x9) := by
  have g := st10_grown W (w.heap.size + 1) x0 x1 x2 x3 x4 x5 x6 x7 x8 x9
  generalize st10 W (w.heap.size + 1) x0 x1 x2 x3 x4 x5 x6 x7 x8 x9 = V at *
  have rA := own_lower (base' := w.heap.size) (own_past h.ra g (by omega)) (by omega)
  have rH := own_lower (base' := w.heap.size) (own_past h.rh g (by omega)) (by omega)
  have rJ := own_lower (base' := w.heap.size) (own_past h.rj g (by omega)) (by omega)
  have rD := own_lower (base' := w.heap.size) (own_past h.rd g (by omega)) (by omega)
  have rS := own_lower (base' := w.heap.size) (own_past h.rs g (by omega)) (by omega)
  have dd := (hd.past g (by omega)).lower (lo' := w.heap.size) (by omega)
  have lT : T.length = m.sn := hd.len
  refine ⟨⟨?_, ⟨rfl, rfl, rfl, rfl, rfl⟩, ⟨⟨?_, ?_, ?_⟩, ?_, ⟨?_, fun y hy => ?_, dd.ap⟩⟩, ⟨_, rA⟩, ⟨_, rH⟩, ⟨_, rJ⟩, ⟨_, rD⟩, ⟨_, rS⟩, dd⟩, ?_⟩
  · have hv : T.map Sn.val = m.S.map Sn.val := Tds.val (lo := w.heap.size) (W := V) (by rw [lS]; exact dd)
    show Vm.mk _ _ _ _ _ _ _ _ _ (T.map Sn.val) = _
    rw [hv]
    rfl
  · unfold Rw
    rw [lA]
    exact own_cut rA (by rw [flat_len (z := 4) (fun _ => rfl), lA])
  · unfold Rw
    rw [lH]
    exact own_cut rH (by rw [flat_len (z := 3) (fun _ => rfl), lH])
  · unfold Rw
    rw [lJ]
    exact own_cut rJ (by rw [flat_len (z := 5) (fun _ => rfl), lJ])
  · unfold Rw
    rw [lD]
    exact own_cut rD (by rw [flat_len (z := 13) (fun _ => rfl), lD])
  · show Rw _ _ _ _ _ _ T
    unfold Rw
    rw [lT]
    exact own_cut rS (by rw [flat_len (z := 5) (fun _ => rfl), lT])
  · obtain ⟨j, hj, e⟩ := List.getElem_of_mem hy
    obtain ⟨x, gg, h1, h2, h3, h4, h5⟩ := dd.at_ j y (by rw [List.getElem?_eq_getElem hj, e])
    subst h2
    obtain ⟨s1, s2, s3⟩ := hS x (List.mem_of_getElem? h1)
    refine ⟨?_, s3, ?_⟩
    · have q := h3.2
      rw [show vals (x.D ++ marksTo 72) = vals x.D ++ vals (marksTo 72) by simp [vals]] at q
      have q2 := own_cutm q (by simp [vals, s1])
      show V.ownsRow _ _ _ (.slice (some ⟨gg, 0, none⟩) x.cn (x.cn + 72)) x.D.length (vals x.D)
      rw [← s1]
      exact own_lower q2 h4
    · show x.D.length ≤ _
      omega
  · exact ⟨g.os.trans h.bel.os, g.tape.trans h.bel.tape, g.output.trans h.bel.output, Nat.le_trans h.bel.size g.size, fun k hk => (g.block k (Nat.lt_of_lt_of_le hk h.bel.size) (by simp; omega)).trans (h.bel.block k hk)⟩
end Go.Proofs.YtiijbboigebhcaaGreatDoor
