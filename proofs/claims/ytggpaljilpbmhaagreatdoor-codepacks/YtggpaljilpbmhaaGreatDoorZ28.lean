import Derived.Test.YtggpaljilpbmhaaGreatDoorZ27
import Derived.Test.YtggpaljilpbmhaaGreatDoorZ36
import Derived.BigQuiet
import Derived.Test.YtggpaljilpbmhaaGreatDoorZ32
import Derived.Test.YtggpaljilpbmhaaGreatDoorZ24
import Derived.Deep.DeepAppendRoom
import Derived.Deep.DeepAppendWide
namespace Go.Proofs.YtggpaljilpbmhaaGreatDoor
open Go.RowKit Go.Sort

def ndc (l : List (Int × Int)) : List Value := l.flatMap (fun x => [.int .i64 x.1, .int .u64 x.2, .string ⟨#[]⟩])
def opc (l : List (Int × Int)) : List Value := l.flatMap (fun x => [.int .i64 x.1, .int .u64 x.2])
def itc (l : List Int) : List Value := l.map (fun x => .int .i64 x)
/-- The four slices of a growth. -/
structure Gv where
 (aN aE aA aO : Option Addr) (cN cE cA cO : Nat)
/-- A growth as it lies. -/
structure Gr (B gb : Nat) (v : Gv) (L : List (Int × Int)) (E A : List Int) (O : List (Int × Int)) (w : World) : Prop where
 blk : w.heap[gb]? = some (.cells #[.slice v.aN L.length v.cN, .slice v.aE E.length v.cE, .slice v.aA A.length v.cA, .slice v.aO O.length v.cO] 222 (0, 0))
 n : w.ownsRow B 121 3 (.slice v.aN L.length v.cN) L.length (ndc L)
 e : w.ownsRow B 3 1 (.slice v.aE E.length v.cE) E.length (itc E)
 a : w.ownsRow B 3 1 (.slice v.aA A.length v.cA) A.length (itc A)
 o : w.ownsRow B 257 2 (.slice v.aO O.length v.cO) O.length (opc O)
 ap : ∀ x y, v.aE = some x → v.aA = some y → x.block ≠ y.block
section
variable {B gb : Nat} {v : Gv} {L : List (Int × Int)} {E A : List Int} {O : List (Int × Int)} {w w' : World}
theorem Gr.next (h : Gr B gb v L E A O w) (hb : Below w.heap.size w w') : Gr B gb v L E A O w' :=
 ⟨(hb.block _ (block_lt h.blk)).trans h.blk, own_keep h.n hb, own_keep h.e hb, own_keep h.a hb, own_keep h.o hb, h.ap⟩
end
end Go.Proofs.YtggpaljilpbmhaaGreatDoor
namespace Go.Proofs.YtggpaljilpbmhaaGreatDoor
open Go.RowKit Go.Sort

section
variable {B gb : Nat} {v : Gv} {ev kk : Int} {w : World}
end
end Go.Proofs.YtggpaljilpbmhaaGreatDoor
namespace Go.Proofs.YtggpaljilpbmhaaGreatDoor
open Go.RowKit

section
variable {P : Program} {ops : Array Oper} {rest : List Oper} {o : Oper} {a : Act} {Q : Exit → Act → World → Prop}
end

section
variable {w w' w1 w2 : World} {B B' n sz n' sz' : Nat} {t t' : TypeId} {v v' : Value} {xs xs' : List Value}
end
section
variable {B gb : Nat} {v : Gv} {L : List (Int × Int)} {E A : List Int} {O : List (Int × Int)} {w w1 w2 : World}
theorem own_blk {a : Option Addr} {n c q : Nat} (e : (Value.slice a n c).ownBlock = some q) : ∃ x, a = some x ∧ x.block = q := by
 cases a with
 | none => simp [Value.ownBlock] at e
 | some x => simp [Value.ownBlock] at e; exact ⟨x, rfl, e⟩
theorem own_offI {B' n sz n' c c' : Nat} {t : TypeId} {a a' : Option Addr} {xs : List Value} (h : w1.ownsRow B' t sz (.slice a n c) n xs) (hne : ∀ x y, a = some x → a' = some y → x.block ≠ y.block) (hg : w1.grownBy w2 (Value.slice a' n' c').ownBlock) : w2.ownsRow B' t sz (.slice a n c) n xs := by
 refine World.ownsRow.kept h hg ?_
 cases a with
 | none => exact .inl rfl
 | some x =>
  refine .inr (fun e => ?_)
  obtain ⟨y, hy, hq⟩ := own_blk e.symm
  exact hne x y rfl hy hq.symm
/-- A number of the ends is written. -/
theorem Gr.setE (h : Gr B gb v L E A O w) (hlt : gb < B) {i b : Nat} (he : v.aE = some ⟨b, 0, none⟩) (_hi : i < E.length) (x : Int) : Gr B gb v L (E.set i x) A O (w.setCell ⟨b, i, none⟩ (.int .i64 x)) ∧ Below gb w (w.setCell ⟨b, i, none⟩ (.int .i64 x)) := by
 have gs := grown_setT w b i (.int .i64 x)
 obtain ⟨hB, cs, hc⟩ := own_typ2 h.e (b := b) (by rw [he]; rfl)
 have hle : gb ≤ w.heap.size := Nat.le_of_lt (block_lt h.blk)
 have bel : Below gb w (w.setCell ⟨b, i, none⟩ (.int .i64 x)) := (Below.refl _ w).grown gs hle (fun q e => by cases e; omega)
 refine ⟨⟨?_, own_offT h.n hc (by decide) gs, ?_, ?_, own_offT h.o hc (by decide) gs, h.ap⟩, bel⟩
 ·rw [List.length_set]; exact (gs.block _ (block_lt h.blk) (by simp; omega)).trans h.blk
 ·have q := h.e
  rw [he] at q ⊢
  rcases q.2 with ⟨e, _⟩ | ⟨g', cap', cur, e, hb, hc', hnc, hm, hsz, htk⟩
  ·cases e
  ·cases e
   refine ⟨by simp [itc], .inr ⟨b, _, cur.setIfInBounds i (.int .i64 x), by simp, hb, ?_, by simpa using hnc, hm, by simpa using hsz, ?_⟩⟩
   ·simp [World.setCell, Array.getElem?_modify, hc']
   ·have e2 : itc (E.set i x) = (itc E).set i (.int .i64 x) := by simp [itc, List.map_set]
    rw [e2, ← htk, Array.toList_setIfInBounds, List.length_set, List.take_set]
 ·exact own_offI (n' := 0) (c' := 0) (a' := some ⟨b, 0, none⟩) h.a (fun x y e1 e2 => by rw [← he] at e2; exact (h.ap y x e2 e1).symm) gs
end
end Go.Proofs.YtggpaljilpbmhaaGreatDoor
