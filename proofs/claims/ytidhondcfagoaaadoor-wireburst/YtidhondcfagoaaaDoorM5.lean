import Derived.Test.YtidhondcfagoaaaDoorM4
namespace Go.Proofs.YtidhondcfagoaaaDoor
open Go.RowKit Crc
variable {K : Kd}

theorem ext_drew {w w2 : World} {v v' : Value} {q : Nat} (he : Ext (w.drewN q) w2 v v') : Ext w w2 v v' := ⟨⟨he.1.os, he.1.tape, he.1.output, he.1.size, he.1.block⟩, he.2⟩

end Go.Proofs.YtidhondcfagoaaaDoor
namespace Go.Proofs.YtidhondcfagoaaaDoor
open Go.RowKit Crc
variable {K : Kd}

theorem owns_join {base : Nat} {w w' : World} {v v' : Value} {A B : List Nat} (h : Owns base w v A) (hB : ∀ x ∈ B, x < 256) (hl : A.length + B.length ≤ 140737488355328) (ho : w'.ownsRow base 5 1 v' (A.length + B.length) (vals A ++ vals B)) : Owns base w' v' (A ++ B) := by
  refine ⟨?_, ?_, by rw [List.length_append]; exact hl⟩
  · rw [vals_append, List.length_append]; exact ho
  · intro x hx
    rcases List.mem_append.1 hx with hx | hx
    · exact h.2.1 x hx
    · exact hB x hx
theorem append_none_run (a b : Option Addr) (n c m : Nat) (hn : n ≤ c) (w : World) : (Builtin.append_ #[22, 22] 22 #[.slice a n c, .slice b 0 m]).run Tryd.prog w = .ok (.slice a n c) w := by
  obtain ⟨i0, hi, hz0, hz1, hz2⟩ := info_parts Tryd.info5
  cases a <;> cases b <;> simp [Builtin.append_, run_underlying Tryd.underlying22, sizeOf, typeInfo, hi, storeCells, go_sem, hn]

/-- The writer's list has its block from base on. -/
theorem Wr.own_lt {base : Nat} {w : World} {p : Nat} {made : Bool} {place why most : Int} {L : List Nat} (h : Wr K base w p made place why most L) {u : Value} {g : Nat} (hu : w.cell? ⟨p, 4, none⟩ = some u) (hg : u.ownBlock = some g) : base ≤ g ∧ g < w.heap.size := by
  obtain ⟨v, hb, hO, _⟩ := h
  have c4 := block_cell hb 4
  rw [hu] at c4
  simp at c4
  subst c4
  exact hO.1.lt g hg
end Go.Proofs.YtidhondcfagoaaaDoor
