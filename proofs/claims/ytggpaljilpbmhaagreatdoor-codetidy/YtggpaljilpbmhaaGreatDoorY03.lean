import Derived.Test.YtggpaljilpbmhaaGreatDoorY02
import Derived.ArgAppend
import Derived.Laws.CopyOwn
import Derived.Laws.OwnMore
import Derived.WalkSmall
import Derived.Deep.QuietTactic
import Derived.BigQuiet
import Derived.Deep.RegionHeld
import Derived.Laws.BitsAllLaws
namespace Go.Proofs.YtggpaljilpbmhaaGreatDoor
open Go.RowKit Crc

def hi (B : List Nat) : Nat := B.foldl (fun v c => v * 256 + c) 0
theorem grown_trans {a b c : World} {row : Option Nat} (h : a.grownBy b row) (k : b.grownBy c row) : a.grownBy c row :=
 ⟨k.os.trans h.os, k.tape.trans h.tape, k.output.trans h.output, Nat.le_trans h.size k.size, fun i hi hr => (k.block i (Nat.lt_of_lt_of_le hi h.size) hr).trans (h.block i hi hr)⟩
/-- What is owned, cell by cell. -/
theorem owned_cells {w : World} {base g n cap : Nat} {B : List Nat} (hown : w.ownsRow base 5 1 (.slice (some ⟨g, 0, none⟩) n cap) n (vals B)) : ∀ i, i < n → w.cell? ⟨g, i, none⟩ = some (.int .u8 ((B.getD i 0 : Nat) : Int)) := by
 intro i hi
 have hl : (vals B).length = n := by have := hown.1; omega
 have hlB : B.length = n := by simpa [vals] using hl
 rw [hown.cellAt i (by omega)]
 unfold vals
 rw [List.getElem?_map, List.getD_eq_getElem?_getD, List.getElem?_eq_getElem (by omega)]
 rfl
/-- The slice shows these bytes; they lie in a block below lim. -/
def Shows (lim : Nat) (w : World) (ao : Option Addr) (n cap : Nat) (B : List Nat) : Prop :=
 n = B.length ∧ n ≤ cap ∧ n ≤ 140737488355328 ∧ (∀ x ∈ B, x < 256) ∧ ∃ b off, (0 < n → ao = some ⟨b, off, none⟩) ∧ (0 < n → b < lim) ∧ ∀ i, i < n → w.cell? ⟨b, off + i, none⟩ = some (.int .u8 ((B.getD i 0 : Nat) : Int))
theorem Shows.kept {lim : Nat} {w w' : World} {row : Option Nat} {ao : Option Addr} {n cap : Nat} {B : List Nat} (h : Shows lim w ao n cap B) (hg : w.grownBy w' row) (hr : ∀ g, row = some g → lim ≤ g) : Shows lim w' ao n cap B := by
 obtain ⟨h1, h2, h3, h4, b, off, h5, h6, h7⟩ := h
 refine ⟨h1, h2, h3, h4, b, off, h5, h6, fun i hi => ?_⟩
 have hb := h6 (by omega)
 exact hg.cell (h7 i hi) (fun e => by have := hr b e.symm; omega)
theorem Shows.wide {lim lim' : Nat} {w : World} {ao : Option Addr} {n cap : Nat} {B : List Nat} (h : Shows lim w ao n cap B) (hl : lim ≤ lim') : Shows lim' w ao n cap B := by
 obtain ⟨h1, h2, h3, h4, b, off, h5, h6, h7⟩ := h
 exact ⟨h1, h2, h3, h4, b, off, h5, fun h => Nat.lt_of_lt_of_le (h6 h) hl, h7⟩
theorem Shows.world {lim : Nat} {w w' : World} {ao : Option Addr} {n cap : Nat} {B : List Nat} (h : Shows lim w ao n cap B) (he : w'.heap = w.heap) : Shows lim w' ao n cap B := by
 obtain ⟨h1, h2, h3, h4, b, off, h5, h6, h7⟩ := h
 exact ⟨h1, h2, h3, h4, b, off, h5, h6, fun i hi => (World.cell?_of_block (w := w) (w' := w') (a := ⟨b, off + i, none⟩) (by rw [he])).trans (h7 i hi)⟩
/-- Bytes of its own. -/
def Owns (base : Nat) (w : World) (v : Value) (B : List Nat) : Prop := w.ownsRow base 5 1 v B.length (vals B) ∧ (∀ x ∈ B, x < 256) ∧ B.length ≤ 140737488355328
theorem Owns.kept {base : Nat} {w w' : World} {v : Value} {B : List Nat} {row : Option Nat} (h : Owns base w v B) (hg : w.grownBy w' row) (hne : v.ownBlock = none ∨ v.ownBlock ≠ row) : Owns base w' v B := ⟨h.1.kept hg hne, h.2⟩
theorem Owns.form {base : Nat} {w : World} {v : Value} {B : List Nat} (h : Owns base w v B) : ∃ ao cap, v = .slice ao B.length cap ∧ Shows w.heap.size w ao B.length cap B ∧ (ao = none ∧ cap = 0 ∨ ∃ g, ao = some ⟨g, 0, none⟩ ∧ base ≤ g ∧ g < w.heap.size) := by
 obtain ⟨ho, hB, hl⟩ := h
 rcases ho.2 with ⟨rfl, h0⟩ | ⟨g, cap, cur, rfl, hbg, hg, hnc, hcm, hcs, htake⟩
 ·refine ⟨none, 0, by rw [h0], ⟨rfl, by omega, hl, hB, 0, 0, fun h => by omega, fun h => by omega, fun i hi => by omega⟩, .inl ⟨rfl, rfl⟩⟩
 ·have hlt : g < w.heap.size := (Array.getElem?_eq_some_iff.1 hg).1
  refine ⟨some ⟨g, 0, none⟩, cap, rfl, ⟨rfl, hnc, hl, hB, g, 0, fun _ => rfl, fun _ => hlt, fun i hi => ?_⟩, .inr ⟨g, rfl, hbg, hlt⟩⟩
  rw [Nat.zero_add]
  exact owned_cells ho i hi
theorem Owns.nil (base : Nat) (w : World) : Owns base w (.slice none 0 0) [] := ⟨World.ownsRow_nil _ _ _ _, by simp, by simp⟩
theorem grown_quiet {a b c : World} {row : Option Nat} (h : a.grownBy b row) (k : b.grownBy c none) : a.grownBy c row :=
 ⟨k.os.trans h.os, k.tape.trans h.tape, k.output.trans h.output, Nat.le_trans h.size k.size, fun i hi hr => (k.block i (Nat.lt_of_lt_of_le hi h.size) (by simp)).trans (h.block i hi hr)⟩
theorem grown_set (w : World) (g j : Nat) (u : Value) : w.grownBy (w.setCell ⟨g, j, none⟩ u) (some g) :=
 ⟨rfl, rfl, rfl, by simp, fun k _ hk => heap_setCell_other w ⟨g, j, none⟩ k u (fun e => hk (by simp [e]))⟩
theorem drew_grown (w : World) (q : Nat) : w.grownBy (w.drewN q) none := ⟨rfl, rfl, rfl, Nat.le_refl _, fun _ _ _ => rfl⟩
theorem Owns.drew {b : Nat} {w : World} {v : Value} {B : List Nat} (h : Owns b w v B) (q : Nat) : Owns b (w.drewN q) v B := h.kept (drew_grown w q) (by cases v.ownBlock <;> simp)
theorem Owns.quiet {b : Nat} {w w' : World} {v : Value} {B : List Nat} (h : Owns b w v B) (hg : w.grownBy w' none) : Owns b w' v B := h.kept hg (by cases v.ownBlock <;> simp)
theorem wpList_append_nothing {P : Program} {w : World} {ops : Array Oper} {rest : List Oper} {o : Oper} {a : Act} {Q : Exit → Act → World → Prop} (hgd : o.guard = none) (s x : Operand) (t : TypeId)
  (ho : o.op = .call { callee := .builtin .append, args := #[s, x], argTypes := #[t, t] }) (v x' : Value) (hs : a.eval s = v) (hx : a.eval x = x')
  (hrun : (Builtin.append_ #[t, t] o.type #[v, x']).run P w = .ok v w) (h : wpList P ops Q rest (a.put o.dst v) w) : wpList P ops Q (o :: rest) a w := by
 refine wpList_plain hgd fun _ hK => ?_
 unfold Oper.wp execOp
 simp only [ho, resolve, invoke, builtin, Sem.run_bind, Sem.run_pure, Result.andThen_ok, List.map_toArray, List.map_cons, List.map_nil, hs, hx, hrun]
 exact hK _ _ h
end Go.Proofs.YtggpaljilpbmhaaGreatDoor
