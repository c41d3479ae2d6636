import Derived.Test.YtggpaljilpbmhaaGreatDoorY51
import Derived.Test.YtggpaljilpbmhaaGreatDoorY22
import Derived.BigQuiet
namespace Go.Proofs.YtggpaljilpbmhaaGreatDoor
open Go.RowKit Go.Sort

def ndc (l : List (Int × Int)) : List Value := l.flatMap (fun x => [.int .i64 x.1, .int .u64 x.2, .string ⟨#[]⟩])
def opc (l : List (Int × Int)) : List Value := l.flatMap (fun x => [.int .i64 x.1, .int .u64 x.2])
def itc (l : List Int) : List Value := l.map (fun x => .int .i64 x)
theorem opc_len (l : List (Int × Int)) : (opc l).length = l.length * 2 := by
 induction l with
 | nil => rfl
 | cons y l ih => have e : opc (y :: l) = [.int .i64 y.1, .int .u64 y.2] ++ opc l := rfl; rw [e, List.length_append, ih]; simp; omega
/-- The four slices of a growth. -/
structure Gv where
 (aN aE aA aO : Option Addr) (cN cE cA cO : Nat)
/-- A growth as it lies. -/
structure Gr (B gb : Nat) (v : Gv) (L : List (Int × Int)) (E A : List Int) (O : List (Int × Int)) (w : World) : Prop where
 blk : w.heap[gb]? = some (.cells #[.slice v.aN L.length v.cN, .slice v.aE E.length v.cE, .slice v.aA A.length v.cA, .slice v.aO O.length v.cO] 222 (0, 0))
 n : w.ownsRow B 121 3 (.slice v.aN L.length v.cN) L.length (ndc L)
 e : w.ownsRow B 3 1 (.slice v.aE E.length v.cE) E.length (itc E)
 a : w.ownsRow B 3 1 (.slice v.aA A.length v.cA) A.length (itc A)
 o : w.ownsRow B 257 2 (.slice v.aO O.length v.cO) O.length (opc O)
 ap : ∀ x y, v.aE = some x → v.aA = some y → x.block ≠ y.block
section
variable {B gb : Nat} {v : Gv} {L : List (Int × Int)} {E A : List Int} {O : List (Int × Int)} {w w' : World}
theorem Gr.next (h : Gr B gb v L E A O w) (hb : Below w.heap.size w w') : Gr B gb v L E A O w' :=
 ⟨(hb.block _ (block_lt h.blk)).trans h.blk, own_keep h.n hb, own_keep h.e hb, own_keep h.a hb, own_keep h.o hb, h.ap⟩
/-- Where a row's cells lie. -/
theorem own_at {t : TypeId} {sz n c : Nat} {a : Option Addr} {xs : List Value} (h : w.ownsRow B t sz (.slice a n c) n xs) (hn : 0 < n) : ∃ b, a = some ⟨b, 0, none⟩ ∧ b < w.heap.size ∧ n ≤ c ∧ (∀ i u, xs[i]? = some u → w.cell? ⟨b, i, none⟩ = some u) ∧ ∀ i, w.frozen? ⟨b, i, none⟩ = false := by
 rcases h.2 with ⟨e, h0⟩ | ⟨g, cap, cur, e, hb, hc, hnc, _, hsz, htk⟩
 ·omega
 ·cases e
  refine ⟨g, rfl, block_lt hc, hnc, fun i u hi => ?_, fun i => block_free hc i⟩
  have hl := (List.getElem?_eq_some_iff.1 hi).1
  have hx := h.1
  rw [← htk, List.getElem?_take, if_pos (by omega)] at hi
  rw [block_cell hc i]
  simpa using hi
set_option maxRecDepth 10000 in
theorem endedC (h : Gr B gb v L E A O w) {b : Bool} (hb : b = (decide (0 < L.length) && decide (O.length = 0))) : Calls Tryz.prog 147 #[.pointer (some ⟨gb, 0, none⟩)] w fun e w' => e = .returned (.bool b) ∧ w' = w := by
 have c0 := block_cell h.blk 0
 have c3 := block_cell h.blk 3
 have cl := block_lt h.blk
 simp at c0 c3
 have HB := hide hb
 clear h hb
 generalize L.length = n at *
 generalize O.length = m at *
 by_cases h1 : 0 < n
 ·have d1 : decide ((n : Int) > 0) = true := by simp; omega
  have e2 : b = ((m : Int) == 0) := by rw [HB.out]; simp [h1]; rw [Bool.eq_iff_iff]; simp
  subst e2
  clear HB
  go_enter Tryz.func147, Tryz.ntmps147
  go_wp2
  go_ret
  exact ⟨rfl, rfl⟩
 ·have d1 : decide ((n : Int) > 0) = false := by simp; omega
  have e2 : b = false := by rw [HB.out]; simp [h1]
  subst e2
  clear HB
  go_enter Tryz.func147, Tryz.ntmps147
  go_wp2
  go_ret
  exact ⟨rfl, rfl⟩
set_option maxRecDepth 10000 in
theorem place0 (h : Gr B gb v L E A [] w) : Calls Tryz.prog 171 #[.pointer (some ⟨gb, 0, none⟩)] w fun e w' => e = .returned (.int .u8 116) ∧ w' = w := by
 have c3 := block_cell h.blk 3
 have cl := block_lt h.blk
 simp at c3
 clear h
 go_enter Tryz.func171, Tryz.ntmps171
 go_wp2
 go_ret
 exact ⟨rfl, rfl⟩
end
end Go.Proofs.YtggpaljilpbmhaaGreatDoor
