import Derived.Test.YtlidehhcoepikaaGreatDoorNAsC
import Derived.Deep.RegionHeld
namespace Go.Proofs.YtlidehhcoepikaaGreatDoor
open Go.RowKit

theorem grown_weakK {a b : World} (h : a.grownBy b none) (g : Nat) : a.grownBy b (some g) := ⟨h.os, h.tape, h.output, h.size, fun i hi _ => h.block i hi (by simp)⟩
def snapN : ByteArray := ⟨#[115, 110, 97, 112]⟩
def wireN : ByteArray := ⟨#[119, 105, 114, 101]⟩
theorem IsFault.chain {w : World} {v : Value} {a c : Int} (h : IsFault w v a c) : Chain w.heap.size w [⟨wireN, a⟩] v c := by
  obtain ⟨g, rfl, h0, h1, h2⟩ := h
  have hlt : g < w.heap.size := by
    rcases Nat.lt_or_ge g w.heap.size with h | h
    · exact h
    · simp [World.cell?, Array.getElem?_eq_none h] at h0
  exact ⟨g, _, rfl, hlt, h0, h1, h2, rfl⟩
set_option maxRecDepth 10000 in
theorem refusalD {w : World} {L : List Lk} {u : Value} {c : Int} (at_ : Int) (h : Chain w.heap.size w L u c) : Calls Tryz.prog 19 #[.int .i64 at_, u] w fun e w' => ∃ g, e = .returned (.iface 117 (.pointer (some ⟨g, 0, none⟩))) ∧ Hid (Chain w'.heap.size w' (⟨snapN, at_⟩ :: L) (.iface 117 (.pointer (some ⟨g, 0, none⟩))) c ∧ Below w.heap.size w w') := by
  have hw : w.heap.size < (w.alloc (.cells #[.string ⟨#[115, 110, 97, 112]⟩, .int .i64 at_, u] 119)).heap.size := by simp
  have hb : Below w.heap.size w (w.alloc (.cells #[.string ⟨#[115, 110, 97, 112]⟩, .int .i64 at_, u] 119)) := (Below.refl _ w).alloc (Nat.le_refl _) _
  have FIN : Hid (Chain (w.alloc (.cells #[.string ⟨#[115, 110, 97, 112]⟩, .int .i64 at_, u] 119)).heap.size (w.alloc (.cells #[.string ⟨#[115, 110, 97, 112]⟩, .int .i64 at_, u] 119)) (⟨snapN, at_⟩ :: L) (.iface 117 (.pointer (some ⟨w.heap.size, 0, none⟩))) c) :=
    ⟨w.heap.size, u, rfl, hw, World.cell?_alloc_new w _ _ 0, World.cell?_alloc_new w _ _ 1, World.cell?_alloc_new w _ _ 2, (Chain.below hb h).wide (Nat.le_of_lt hw)⟩
  obtain ⟨t, x, rfl⟩ : ∃ t x, u = .iface t x := by
    cases L with
    | nil => exact ⟨_, _, h⟩
    | cons l r => obtain ⟨g, _, e, _⟩ := h; exact ⟨_, _, e⟩
  clear h
  go_enter Tryz.func19, Tryz.ntmps19
  go_wp2
  go_ret
  exact ⟨_, rfl, FIN.out, hb⟩
set_option maxRecDepth 10000 in
set_option maxHeartbeats 1600000 in
/-- A fault of layer wire as what is behind a refusal of this layer. -/
theorem behind_any {w : World} {v : Value} {a c : Int} (hg : ErrT w) (h : IsFault w v a c) : Calls Tryz.prog 25 #[v] w fun e w' => ∃ g, e = .returned (.iface 117 (.pointer (some ⟨g, 0, none⟩))) ∧ Hid (Chain w'.heap.size w' [⟨snapN, a⟩, ⟨wireN, a⟩] (.iface 117 (.pointer (some ⟨g, 0, none⟩))) c ∧ Below w.heap.size w w') := by
  have hch := h.chain
  obtain ⟨g, rfl, h0, h1, h2⟩ := h
  have hlt : g < w.heap.size := by
    rcases Nat.lt_or_ge g w.heap.size with h | h
    · exact h
    · simp [World.cell?, Array.getElem?_eq_none h] at h0
  obtain ⟨W2, hW2⟩ : ∃ W2, (w.alloc (.cells #[.pointer none] 117)) = W2 := ⟨_, rfl⟩
  have b2 : Below w.heap.size w W2 := by rw [← hW2]; exact (Below.refl _ w).alloc (Nat.le_refl _) _
  have q0 : W2.heap[w.heap.size]? = some (.cells #[.pointer none] 117 (0, 0)) := by rw [← hW2]; exact alloc_atK _ _
  have HA1 := hide (as_fault ⟨g, 0, none⟩ ⟨w.heap.size, 0, none⟩ (.pointer none) W2 ((b2.cell (p := ⟨0, 0, none⟩) hg.lt).trans hg) (block_cell q0 0) (block_free q0 0))
  have S2 := hide (And.intro b2 q0)
  have HW2 := hide hW2
  have HC := hide (And.intro h1 hch)
  clear b2 q0 hW2 hg h0 h1 h2 hch
  go_enter Tryz.func25, Tryz.ntmps25
  go_wp2_with fail
  rw [HW2.out]
  refine HA1.out.mono ?_
  rintro e W3 ⟨rfl, hW3⟩
  obtain ⟨b2, q0⟩ := S2.out
  obtain ⟨W5, g5, hW5⟩ : ∃ W5, W2.grownBy W5 none ∧ W3 = W5.setCell ⟨w.heap.size, 0, none⟩ (.pointer (some ⟨g, 0, none⟩)) := ⟨_, grown_quiet (grown_quiet (grown_quiet (World.grownBy_alloc _ _ none) (World.grownBy_alloc _ _ none)) (World.grownBy_alloc _ _ none)) (World.grownBy_alloc _ _ none), hW3⟩
  have g3 : W2.grownBy W3 (some w.heap.size) := by rw [hW5]; exact grown_trans (row := some w.heap.size) (grown_weakK g5 _) (grown_set _ _ _ _)
  have z0 : W3.heap[w.heap.size]? = some (.cells #[.pointer (some ⟨g, 0, none⟩)] 117 (0, 0)) := by
    rw [hW5, heap_setCell_same _ w.heap.size 0 _ _ _ ((g5.block _ (block_lt q0) (by simp)).trans q0)]
    rfl
  have b3 : Below w.heap.size w W3 := b2.grown g3 b2.size (fun k e => by cases e; exact Nat.le_refl _)
  have r0 := block_cell z0 0
  have ra := (b3.cell (p := ⟨g, 1, none⟩) hlt).trans HC.out.1
  simp at r0
  have HR : Hid (∀ q, Calls Tryz.prog 19 #[.int .i64 a, .iface 117 (.pointer (some ⟨g, 0, none⟩))] (W3.drewN q) fun e w' => ∃ g2, e = .returned (.iface 117 (.pointer (some ⟨g2, 0, none⟩))) ∧ Hid ((Chain w'.heap.size w' [⟨snapN, a⟩, ⟨wireN, a⟩] (.iface 117 (.pointer (some ⟨g2, 0, none⟩))) c ∧ Below w.heap.size w w') ∧ Below W3.heap.size (W3.drewN q) w')) := fun q => by
    have b4 : Below w.heap.size w (W3.drewN q) := Go.below_drewN b3 q
    refine (refusalD a ((Chain.below b4 HC.out.2).wide b4.size)).mono ?_
    rintro e w' ⟨g2, he, G⟩
    exact ⟨g2, he, ⟨G.out.1, b4.trans (G.out.2.mono b4.size)⟩, G.out.2⟩
  have SB : Hid (∀ q V, Below W3.heap.size (W3.drewN q) V → V.cell? ⟨w.heap.size, 0, none⟩ = some (.pointer (some ⟨g, 0, none⟩)) ∧ V.cell? ⟨g, 1, none⟩ = some (.int .i64 a)) := fun q V hb => by
    have hz := block_lt z0
    have hs3 := b3.size
    exact ⟨(hb.cell (p := ⟨w.heap.size, 0, none⟩) hz).trans r0, (hb.cell (p := ⟨g, 1, none⟩) (by show g < _; omega)).trans ra⟩
  clear b2 q0 g3 z0 b3 hW3 hW5 g5 HA1 S2 HW2
  go_wp2_with fail
  go_region_held (fun V => V.cell? ⟨w.heap.size, 0, none⟩ = some (.pointer (some ⟨g, 0, none⟩)) ∧ V.cell? ⟨g, 1, none⟩ = some (.int .i64 a)) (first | go_keep | exact SB.out _ _ G2.out.2)
    (first
      | (go_at_call 19; refine (HR.out _).mono ?_; rintro e w2 ⟨g2, rfl, G2⟩))
  all_goals go_wp2
  all_goals go_ret
  all_goals exact ⟨_, rfl, G2.out.1⟩
end Go.Proofs.YtlidehhcoepikaaGreatDoor
