import Derived.Test.YtidhondcfagoaaaDoorM37
import Derived.Test.YtidhondcfagoaaaDoorM36
import Derived.Test.YtidhondcfagoaaaDoorM17
namespace Go.Proofs.YtidhondcfagoaaaDoor
open Go.RowKit Crc

def Keep (base : Nat) (w w' : World) : Prop := ∀ W, Below base W w → Below base W w'
theorem Keep.trans {base : Nat} {a b c : World} (h : Keep base a b) (k : Keep base b c) : Keep base a c := fun W hW => k W (h W hW)
theorem RS.step_place {s : RS} (h : s.sound → s.place = 0) (z : Nat) (y : Int) : (s.step z y).sound → (s.step z y).place = 0 := by
  intro hs
  by_cases h0 : s.sound
  · by_cases hy : y = 0
    · subst hy
      rw [RS.step_ok h0]
      exact h h0
    · exact absurd hs (RS.unsound z hy)
  · rw [RS.step_not h0] at hs ⊢
    exact h hs
theorem RS.step_plain {s : RS} (h : s.made = false → s.B.length = s.pos) (z : Nat) (y : Int) : (s.step z y).made = false → (s.step z y).B.length = (s.step z y).pos := by
  by_cases h0 : s.sound
  · intro hm
    have : (s.step z y).made = s.made := by unfold RS.step; split <;> (try split) <;> rfl
    rw [this, h0.1] at hm
    cases hm
  · rw [RS.step_not h0]
    exact h
end Go.Proofs.YtidhondcfagoaaaDoor
namespace Go.Proofs.YtidhondcfagoaaaDoor
open Go.RowKit Crc

theorem failP_place {s : RS} (h : s.sound → s.place = 0) (a y : Int) (hy : y ≠ 0) : (s.failP a y).sound → (s.failP a y).place = 0 := by
  unfold RS.failP
  by_cases hs : s.sound
  · rw [if_pos hs]
    intro h2
    exact absurd h2.2 hy
  · rw [if_neg hs]
    exact h
theorem rdBound_place {s : RS} (h : s.sound → s.place = 0) (a b : Nat) : (rdBound s a b).sound → (rdBound s a b).place = 0 := by
  unfold rdBound
  have h1 : (rdNum s).sound → (rdNum s).place = 0 := RS.step_place h _ _
  split
  · exact h1
  · exact failP_place h1 _ _ (by decide)
theorem rqS3_place {s : RS} (h : s.sound → s.place = 0) : (rqS3 s).sound → (rqS3 s).place = 0 := RS.step_place (RS.step_place (rdBound_place h _ _) _ _) _ _
theorem rdGo_place : ∀ (n : Nat) (s : RS), (s.sound → s.place = 0) → (rdGo n s).2.sound → (rdGo n s).2.place = 0
  | 0, _, h => h
  | n + 1, s, h => rdGo_place n (rqS3 s) (rqS3_place h)
theorem bEnd_place {s : RS} (h : s.sound → s.place = 0) : (bEnd s).sound → (bEnd s).place = 0 := rdGo_place _ _ (RS.step_place (rdBound_place h _ _) _ _)

/-- The state of a new reader. -/
def RS1 (B : List Nat) : RS := ⟨true, 0, 0, B, 0, KR⟩

theorem OwnRs.next {base : Nat} {w w' : World} {v : Value} {rs : List Rq} {row : Option Nat} (h : OwnRs base w v rs) (hf : FreeRs base w rs) (hg : w.grownBy w' row) (h1 : v.ownBlock = none ∨ v.ownBlock ≠ row) (h2 : ∀ r ∈ rs, r.sl.ownBlock = none ∨ r.sl.ownBlock ≠ row) : OwnRs base w' v rs ∧ FreeRs base w' rs := by
  have f2 := hf.next hg h2
  refine ⟨⟨h.row.kept hg h1, fun r hx => ?_, h.le⟩, f2⟩
  obtain ⟨vo, vc, hv, hS, _⟩ := (f2.own r hx).form
  have hv' : Value.slice r.co r.cn r.cc = .slice vo r.C.length vc := hv
  simp only [Value.slice.injEq] at hv'
  obtain ⟨e3, e4, e5⟩ := hv'
  refine ⟨(h.ok r hx).hc, (h.ok r hx).hs, ?_⟩
  rw [e3, e4, e5]
  exact hS
theorem OwnRs.quiet {base : Nat} {w w' : World} {v : Value} {rs : List Rq} (h : OwnRs base w v rs) (hf : FreeRs base w rs) (hg : w.grownBy w' none) : OwnRs base w' v rs ∧ FreeRs base w' rs := by
  refine h.next hf hg ?_ (fun r hx => ?_)
  · cases v.ownBlock with
    | none => exact .inl rfl
    | some g => exact .inr (by simp)
  · cases r.sl.ownBlock with
    | none => exact .inl rfl
    | some g => exact .inr (by simp)
theorem OwnRs.past {base g : Nat} {w w' : World} {v : Value} {rs : List Rq} (h : OwnRs base w v rs) (hf : FreeRs base w rs) (hg : w.grownBy w' (some g)) (hl : g < base) : OwnRs base w' v rs ∧ FreeRs base w' rs :=
  h.next hf hg (.inr (fun e => by have := (h.row.lt _ e).1; omega)) (fun r hx => .inr (fun e => by have := ((hf.own r hx).1.lt _ e).1; omega))
theorem OwnRs.lower {base base' : Nat} {w : World} {v : Value} {rs : List Rq} (h : OwnRs base w v rs) (hl : base' ≤ base) : OwnRs base' w v rs := by
  refine ⟨⟨h.row.1, ?_⟩, h.ok, h.le⟩
  rcases h.row.2 with h0 | ⟨g, cap, cur, h1, h2, h3⟩
  · exact .inl h0
  · exact .inr ⟨g, cap, cur, h1, by omega, h3⟩
theorem FreeRs.lower {base base' : Nat} {w : World} {rs : List Rq} (h : FreeRs base w rs) (hl : base' ≤ base) : FreeRs base' w rs := ⟨fun r hx => (h.own r hx).lower hl, h.apart⟩
theorem OwnRs.nil (base : Nat) (w : World) : OwnRs base w (.slice none 0 0) [] ∧ FreeRs base w [] := ⟨⟨World.ownsRow_nil _ _ _ _, fun r hx => by simp at hx, by simp⟩, fun r hx => by simp at hx, by simp⟩

theorem errV_set2 {w : World} {x : Value} {c a : Int} {B : Nat} {k : IntKind} {m : Int} (h : ErrV w x c a) (hB : w.cell? ⟨B, 0, none⟩ = some (.int k m)) (u1 u2 : Value) : ErrV ((w.setCell ⟨B, 0, none⟩ u1).setCell ⟨B, 1, none⟩ u2) x c a := by
  rcases h with h | ⟨⟨g, h1, h2, h3, h4⟩, hc⟩
  · exact .inl h
  · have hne : B ≠ g := fun e => by subst e; rw [hB] at h2; cases h2
    have hk : ∀ j, ((w.setCell ⟨B, 0, none⟩ u1).setCell ⟨B, 1, none⟩ u2).cell? ⟨g, j, none⟩ = w.cell? ⟨g, j, none⟩ := fun j => by
      rw [World.cell?_setCell_other _ _ _ _ (by simp), World.cell?_setCell_other _ _ _ _ (by simp)]
    exact .inr ⟨⟨g, h1, (hk 0).trans h2, (hk 1).trans h3, (hk 2).trans h4⟩, hc⟩
theorem fin_dp {w w4 : World} {o : Obj} {v : Value} {rs1 : List Rq} (hb : Below (w.heap.size + 1) (w.alloc o) w4) (h : OwnRs (w.heap.size + 1) w4 v rs1) (hf : FreeRs (w.heap.size + 1) w4 rs1) (x y : Value) :
    Below w.heap.size w ((w4.setCell ⟨w.heap.size, 0, none⟩ x).setCell ⟨w.heap.size, 1, none⟩ y) ∧ OwnRs w.heap.size ((w4.setCell ⟨w.heap.size, 0, none⟩ x).setCell ⟨w.heap.size, 1, none⟩ y) v rs1 ∧ FreeRs w.heap.size ((w4.setCell ⟨w.heap.size, 0, none⟩ x).setCell ⟨w.heap.size, 1, none⟩ y) rs1 := by
  obtain ⟨a1, a2⟩ := h.past hf (grown_set w4 w.heap.size 0 x) (by omega)
  obtain ⟨b1, b2⟩ := a1.past a2 (grown_set _ w.heap.size 1 y) (by omega)
  have hbw : Below w.heap.size w w4 := (below_alloc1 w o).trans (hb.mono (by omega))
  exact ⟨(hbw.setCell (p := ⟨w.heap.size, 0, none⟩) (Nat.le_refl _) _).setCell (p := ⟨w.heap.size, 1, none⟩) (Nat.le_refl _) _, b1.lower (by omega), b2.lower (by omega)⟩

end Go.Proofs.YtidhondcfagoaaaDoor
