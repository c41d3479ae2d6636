import Derived.Test.YtgeacmhofgnkfaaLNobP
namespace Go.Proofs.Ytgeacmhofgnkfaa
open Go.RowKit Go.Shelf
attribute [local go_sem] Oper.semAt_some

/-- A script that came in. -/
def OpsP (lim : Nat) (W : World) (so : Option Addr) (n : Nat) : Prop :=
  n ≤ 140737488355328 ∧ ∃ b off, (0 < n → so = some ⟨b, off, none⟩) ∧ (0 < n → b < lim) ∧ ∀ i, i < n → ∃ o : OpS, (∀ j v, o.cells[j]? = some v → W.cell? ⟨b, off + i * 6 + j, none⟩ = some v) ∧ ShP lim W o.so o.sn

theorem ShP.lim {lim lim' : Nat} {W : World} {so : Option Addr} {n : Nat} (h : ShP lim W so n) (hl : lim ≤ lim') : ShP lim' W so n := by
  obtain ⟨h1, b, off, h2, h3, h4⟩ := h
  exact ⟨h1, b, off, h2, fun h => Nat.lt_of_lt_of_le (h3 h) hl, h4⟩

theorem neq_acc (W : World) : (binOp BinOp.neq 51 (.agg #[.int .u64 0, .int .u64 0, .int .u64 0, .int .u64 0]) (.agg #[.int .u64 0, .int .u64 0, .int .u64 0, .int .u64 0])).run Try.prog W = .ok (.bool false) W := by kernel_rfl
theorem neq_hold (W : World) : (binOp BinOp.neq 55 (.agg #[.int .u64 0, .int .u64 0, .int .u64 0]) (.agg #[.int .u64 0, .int .u64 0, .int .u64 0])).run Try.prog W = .ok (.bool false) W := by kernel_rfl

/-- A new ledger, and Create on it: nothing that lay has turned. -/
theorem new_create (w : World) : Calls Try.prog 4 #[.slice none 0 0] w fun e w1 => ∃ p, e = .returned (.tuple #[.pointer (some ⟨p, 0, none⟩), .nilIface]) ∧ Hid (Calls Try.prog 5 #[.pointer (some ⟨p, 0, none⟩), .int .u64 1, .int .u64 1, .int .u64 1] w1 fun e w2 => e = .returned (.int .i64 0) ∧ Hid (Below w.heap.size w w2)) := by
  refine (new_nil w).mono ?_
  rintro e w1 ⟨rfl, rfl⟩
  refine ⟨_, rfl, (create_new (newL_blank w)).mono ?_⟩
  rintro e w2 ⟨rfl, hk⟩
  have hg := grownBy_trans3 w (.map #[] 0) (.map #[] 0) (.cells (led w.heap.size (w.heap.size + 1)) 37)
  have hb : Below w.heap.size w (((w.alloc (.map #[] 0)).alloc (.map #[] 0)).alloc (.cells (led w.heap.size (w.heap.size + 1)) 37)) := ⟨hg.os, hg.tape, hg.output, hg.size, fun k hk => hg.block k hk (by simp)⟩
  exact ⟨rfl, hb.trans (hk.below (Nat.le_refl _) (by omega) hg.size)⟩

/-- What is kept between two steps of a script: the result's cell, and what lay. -/
def Inv (w : World) (po : Option Addr) (W : World) : Prop := W.cell? ⟨w.heap.size, 0, none⟩ = some (.bool false) ∧ W.frozen? ⟨w.heap.size, 0, none⟩ = false ∧ Below w.heap.size w W ∧ Nob W po
theorem Inv.below {w W W' : World} {po : Option Addr} (h : Inv w po W) (hb : Below W.heap.size W W') : Inv w po W' :=
  ⟨(hb.cell (p := ⟨w.heap.size, 0, none⟩) (World.block_lt_of_cell? W _ h.1)).trans h.1, (World.frozen?_of_block (hb.block _ (World.block_lt_of_cell? W ⟨w.heap.size, 0, none⟩ h.1))).trans h.2.1, h.2.2.1.trans (hb.mono h.2.2.1.size), h.2.2.2.below hb⟩

theorem Inv.alloc {w W : World} {po : Option Addr} (h : Inv w po W) (o : Obj) : Inv w po (W.alloc o) := h.below (below_alloc W o)

/-- A step's box and what is kept. -/
def Stp (w : World) (po : Option Addr) (B : Nat) (A : Int) (W : World) : Prop := W.cell? ⟨B, 1, none⟩ = some (.int .u64 A) ∧ B < W.heap.size ∧ Hid (Inv w po W)
theorem Stp.below {w W W' : World} {po : Option Addr} {B : Nat} {A : Int} (h : Stp w po B A W) (hb : Below W.heap.size W W') : Stp w po B A W' :=
  ⟨(hb.cell (p := ⟨B, 1, none⟩) h.2.1).trans h.1, Nat.lt_of_lt_of_le h.2.1 hb.size, h.2.2.out.below hb⟩
theorem Stp.alloc {w W : World} {po : Option Addr} {B : Nat} {A : Int} (h : Stp w po B A W) (o : Obj) : Stp w po B A (W.alloc o) := h.below (below_alloc W o)
theorem acc_stp {w W : World} {po : Option Addr} {B : Nat} {A : Int} (h : Stp w po B A W) :
    Calls Try.prog 8 #[.pointer po, .int .u64 A] W fun e w' => e = .returned (.tuple #[.agg #[.int .u64 0, .int .u64 0, .int .u64 0, .int .u64 0], .int .i64 3]) ∧ Stp w po B A w' :=
  (account_nob A h.2.2.out.2.2.2).mono (fun _ _ hh => ⟨hh.1, h.below hh.2⟩)
theorem held_stp2 {w W : World} {po : Option Addr} {B : Nat} {A : Int} (h : Stp w po B A W) :
    Calls Try.prog 9 #[.pointer po, .int .u64 A] (W.alloc (.cells #[.int .u64 0, .int .u64 0, .int .u64 0, .int .u64 0] 51)) fun e w' => e = .returned (.tuple #[.agg #[.int .u64 0, .int .u64 0, .int .u64 0], .int .i64 3]) ∧ W.heap.size < w'.heap.size ∧ (w'.cell? ⟨W.heap.size, 0, none⟩ = some (.int .u64 0) ∧ w'.cell? ⟨W.heap.size, 1, none⟩ = some (.int .u64 0) ∧ w'.cell? ⟨W.heap.size, 2, none⟩ = some (.int .u64 0) ∧ w'.cell? ⟨W.heap.size, 3, none⟩ = some (.int .u64 0)) ∧ Stp w po B A w' := by
  have h2 := h.alloc (.cells #[.int .u64 0, .int .u64 0, .int .u64 0, .int .u64 0] 51)
  refine (held_nob A h2.2.2.out.2.2.2).mono ?_
  rintro e w' ⟨he, hb⟩
  have hc : ∀ k v, (#[Value.int .u64 0, .int .u64 0, .int .u64 0, .int .u64 0])[k]? = some v → w'.cell? ⟨W.heap.size, k, none⟩ = some v := fun k v hv => (hb.cell (p := ⟨W.heap.size, k, none⟩) (by simp)).trans ((World.cell?_alloc_new W _ _ _).trans hv)
  exact ⟨he, by have := hb.size; simp at this; omega, ⟨hc 0 _ rfl, hc 1 _ rfl, hc 2 _ rfl, hc 3 _ rfl⟩, h2.below hb⟩
theorem mark_stp {w W : World} {po : Option Addr} {B : Nat} {A : Int} (h : Stp w po B A W) :
    Calls Try.prog 7 #[.pointer po] W fun e w' => e = .returned (.tuple #[.int .i64 0, .int .i64 3]) ∧ Stp w po B A w' :=
  (mark_nob h.2.2.out.2.2.2).mono (fun _ _ hh => ⟨hh.1, by rw [hh.2]; exact h⟩)

theorem own_inv (w : World) (po : Option Addr) (L : Nat) (hL : w.heap.size ≤ L) : OwnFrom L (fun (_ : List Empty) W => Inv w po W) := by
  intro s A B row hs hg hr
  have hr' : ∀ r, row = some r → ∃ o : Obj, A.heap[r]? = some o ∧ o.isCells = false := fun r e => (hr r e).2
  refine ⟨cell_kept hs.1 hg hr', (frozen_kept hs.1 hg hr').trans hs.2.1, hs.2.2.1.grown hg hs.2.2.1.size (fun k e => Nat.le_trans hL (hr k e).1), ?_⟩
  rcases hs.2.2.2 with h | ⟨p, h, c⟩
  · exact .inl h
  · exact .inr ⟨p, h, cell_kept c hg hr'⟩

/-- Behind the ranging. -/
def Fin (w : World) (po : Option Addr) (D : Nat) (W : World) : Prop := Inv w po W ∧ W.heap[D]? = some (.deferred (some []))
theorem Fin.below {w W W' : World} {po : Option Addr} {D : Nat} (h : Fin w po D W) (hb : Below W.heap.size W W') : Fin w po D W' := ⟨h.1.below hb, (hb.block D (Array.getElem?_eq_some_iff.1 h.2).1).trans h.2⟩
theorem image_fin {w W : World} {po : Option Addr} {D : Nat} (h : Fin w po D W) :
    Calls Try.prog 11 #[.pointer po] W fun e w' => e = .returned (.agg #[.int .u64 0, .int .u64 0, .slice none 0 0, .slice none 0 0, .slice none 0 0]) ∧ Hid (Fin w po D w') :=
  (image_nob h.1.2.2.2).mono (fun _ _ hh => ⟨hh.1, h.below hh.2⟩)
theorem total_fin {w W : World} {po : Option Addr} {D : Nat} (h : Fin w po D W) (o : Obj) :
    Calls Try.prog 12 #[.pointer po] (W.alloc o) fun e w' => e = .returned (.int .u64 0) ∧ w' = W.alloc o := total_nob (h.below (below_alloc W o)).1.2.2.2
theorem same_fin {w W : World} {po : Option Addr} {D : Nat} (h : Fin w po D W) :
    Calls Try.prog 13 #[.agg #[.int .u64 0, .int .u64 0, .slice none 0 0, .slice none 0 0, .slice none 0 0], .agg #[.int .u64 0, .int .u64 0, .slice none 0 0, .slice none 0 0, .slice none 0 0]] (W.alloc (.cells #[.int .u64 0, .int .u64 0, .slice none 0 0, .slice none 0 0, .slice none 0 0] 65)) fun e w' => e = .returned (.bool true) ∧ (w'.cell? ⟨W.heap.size, 0, none⟩ = some (.int .u64 0) ∧ w'.cell? ⟨W.heap.size, 1, none⟩ = some (.int .u64 0) ∧ w'.cell? ⟨W.heap.size, 2, none⟩ = some (.slice none 0 0) ∧ w'.cell? ⟨W.heap.size, 3, none⟩ = some (.slice none 0 0) ∧ w'.cell? ⟨W.heap.size, 4, none⟩ = some (.slice none 0 0)) ∧ Hid (Fin w po D w') := by
  refine (sameimg_nil _).mono ?_
  rintro e w' ⟨he, hb⟩
  have hc : ∀ k v, (#[Value.int .u64 0, .int .u64 0, .slice none 0 0, .slice none 0 0, .slice none 0 0])[k]? = some v → w'.cell? ⟨W.heap.size, k, none⟩ = some v := fun k v hv => (hb.cell (p := ⟨W.heap.size, k, none⟩) (by simp)).trans ((World.cell?_alloc_new W _ _ _).trans hv)
  exact ⟨he, ⟨hc 0 _ rfl, hc 1 _ rfl, hc 2 _ rfl, hc 3 _ rfl, hc 4 _ rfl⟩, (h.below (below_alloc W _)).below hb⟩
theorem bare_fin {w W : World} {po : Option Addr} {D : Nat} (h : Fin w po D W) :
    Calls Try.prog 14 #[.agg #[.int .u64 0, .int .u64 0, .slice none 0 0, .slice none 0 0, .slice none 0 0]] W fun e w' => e = .returned (.bool true) ∧ Hid (Fin w po D w') :=
  (bare_nil W).mono (fun _ _ hh => ⟨hh.1, h.below hh.2⟩)

end Go.Proofs.Ytgeacmhofgnkfaa
