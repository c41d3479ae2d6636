import Derived.Test.YtidhondcfagoaaaDoorM2
import Derived.Test.YtidhondcfagoaaaDoorM20
import Derived.Test.YtidhondcfagoaaaDoorM19
namespace Go.Proofs.YtidhondcfagoaaaDoor
open Go.RowKit Crc

theorem Tch.trans {j p : Nat} {a b c : World} (h : Tch j a b p) (k : Tch j b c p) : Tch j a c p :=
  ⟨k.os.trans h.os, k.tape.trans h.tape, k.output.trans h.output, Nat.le_trans h.size k.size,
   fun q hq hf => (k.keep q (Nat.lt_of_lt_of_le hq h.size) (fun e => (h.foot q e).elim hf (fun e => by omega))).trans (h.keep q hq hf),
   fun q hq => (k.foot q hq).elim (fun e => h.foot q e) (fun e => .inr (Nat.le_trans h.size e))⟩

/-- A writer, the program's or the reference's: its own block p, its list in cell j. -/
structure Mach (j p base : Nat) (I : World → WS → Prop) : Prop where
  lt : ∀ w s, I w s → ∀ k, Foot w p j k → base ≤ k ∧ k < w.heap.size
  below : ∀ w w' s, I w s → Below w.heap.size w w' → I w' s
structure LS (j p base : Nat) (I : World → WS → Prop) (s : WS) (w0 w : World) : Prop where
  i : I w s
  inv : s.Inv
  bs : base ≤ w.heap.size
  tch : Tch j w0 w p
/-- A block that is not the writer's. -/
structure Box (j p : Nat) (w : World) (B : Nat) (o : Obj) : Prop where
  sep : ¬ Foot w p j B
  at_ : w.heap[B]? = some o
section
variable {j p base : Nat} {I : World → WS → Prop} {s : WS} {w0 w w' : World} {B : Nat} {o : Obj}
theorem Mach.plt (M : Mach j p base I) (h : I w s) : p < w.heap.size := (M.lt w s h p (.inl rfl)).2
theorem Tch.of_below (hb : Below w.heap.size w w') (hp : p < w.heap.size) : Tch j w w' p := Tch.from hb hp (Tch.refl j p w')
theorem LS.begin (h : I w s) (hi : s.Inv) (hbs : base ≤ w.heap.size) : LS j p base I s w w := ⟨h, hi, hbs, Tch.refl _ _ _⟩
theorem LS.quiet (M : Mach j p base I) (h : LS j p base I s w0 w) (hb : Below w.heap.size w w') : LS j p base I s w0 w' :=
  ⟨M.below _ _ _ h.i hb, h.inv, Nat.le_trans h.bs hb.size, h.tch.trans (Tch.of_below hb (M.plt h.i))⟩
theorem LS.step {F : List Nat} {y : Int} (h : LS j p base I s w0 w) (hi : I w' (s.put F y)) (ht : Tch j w w' p) : LS j p base I (s.put F y) w0 w' :=
  ⟨hi, WS.put_inv h.inv F y, Nat.le_trans h.bs ht.size, h.tch.trans ht⟩
theorem Mach.belowOf (M : Mach j p base I) (h0 : I w s) (hbs : base ≤ w.heap.size) (ht : Tch j w w' p) : Below base w w' :=
  ⟨ht.os, ht.tape, ht.output, ht.size, fun k hk => ht.keep k (by omega) (fun hf => by have := (M.lt _ _ h0 k hf).1; omega)⟩
theorem Box.step (h : Box j p w B o) (ht : Tch j w w' p) : Box j p w' B o := by
  have hlt := (Array.getElem?_eq_some_iff.1 h.at_).1
  exact ⟨fun hf => (ht.foot B hf).elim h.sep (fun e => by omega), (ht.keep B hlt h.sep).trans h.at_⟩
theorem Box.new (M : Mach j p base I) (h : I w s) (o : Obj) : Box j p (w.alloc o) w.heap.size o := by
  refine ⟨fun hf => ?_, by simp [World.alloc, -World.alloc_eq]⟩
  have := (M.lt _ _ h _ ((Foot.old (below_alloc1 w o) (M.plt h)).1 hf)).2
  omega
theorem Box.quiet (h : Box j p w B o) (hp : p < w.heap.size) (hb : Below w.heap.size w w') : Box j p w' B o := h.step (Tch.of_below hb hp)
end

/-- A batch as it is laid down. -/
def layGo : WS → List Rq → WS
  | s, [] => s
  | s, r :: t => layGo (((s.put (numB r.cl) 0).put (numB r.sq) 0).put (numB r.cn ++ r.C) (cntY r.cn 700)) t
def layB (s : WS) (stamp : Nat) (rs : List Rq) : WS := layGo ((s.put (numB stamp) 0).put (numB rs.length) 0) rs

end Go.Proofs.YtidhondcfagoaaaDoor
namespace Go.Proofs.YtidhondcfagoaaaDoor
open Go.RowKit Crc

end Go.Proofs.YtidhondcfagoaaaDoor
