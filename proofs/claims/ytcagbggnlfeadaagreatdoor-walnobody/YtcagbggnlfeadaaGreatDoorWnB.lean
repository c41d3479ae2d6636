import Derived.Test.YtcagbggnlfeadaaGreatDoorWnA
import Derived.Defers
import Derived.Recover
namespace Go.Proofs.YtcagbggnlfeadaaGreatDoor
open Go.RowKit Crc

/-- The three boxes of Open's results. -/
structure Bx3 (W : World) (b : Nat) : Prop where
  b0 : W.heap[b]? = some (.cells #[.pointer none] 24 (0, 0))
  b1 : W.heap[b + 1]? = some (.cells #[.slice none 0 0] 31 (0, 0))
  b2 : W.heap[b + 1 + 1]? = some (.cells #[.nilIface] 33 (0, 0))
theorem bx3_new {W W3 : World} (h : ((W.alloc (.cells #[.pointer none] 24)).alloc (.cells #[.slice none 0 0] 31)).alloc (.cells #[.nilIface] 33) = W3) : Bx3 W3 W.heap.size ∧ Below W.heap.size W W3 := by
  have e1 : (W.alloc (.cells #[.pointer none] 24)).heap.size = W.heap.size + 1 := by simp
  have e2 : ((W.alloc (.cells #[.pointer none] 24)).alloc (.cells #[.slice none 0 0] 31)).heap.size = W.heap.size + 1 + 1 := by simp
  refine ⟨⟨?_, ?_, ?_⟩, by rw [← h]; exact ((below_alloc1 W _).alloc (by simp) _).alloc (by simp; omega) _⟩
  · rw [← h]
    exact ((below_alloc1 _ _).block _ (by rw [e2]; omega)).trans (((below_alloc1 _ _).block _ (by rw [e1]; omega)).trans (alloc_atK _ _))
  · rw [← h, ← e1]
    exact ((below_alloc1 _ _).block _ (by rw [e2, e1]; omega)).trans (alloc_atK _ _)
  · rw [← h, ← e2]
    exact alloc_atK _ _
theorem Bx3.kept {W W' : World} {b : Nat} (h : Bx3 W b) (hb : Below W.heap.size W W') : Bx3 W' b := ⟨(hb.block _ (block_lt h.b0)).trans h.b0, (hb.block _ (block_lt h.b1)).trans h.b1, (hb.block _ (block_lt h.b2)).trans h.b2⟩
theorem Nf.kept {W W' : World} {v : Value} (h : Nf W v) (hb : Below W.heap.size W W') : Nf W' v := (Chain.below hb h).wide hb.size
theorem Nf.form {W : World} {v : Value} (h : Nf W v) : ∃ g, v = .iface 95 (.pointer (some ⟨g, 0, none⟩)) := by
  obtain ⟨g, u, hv, _⟩ := h
  exact ⟨g, hv⟩
theorem Nf.set {W : World} {v u : Value} {q : Nat} {t : TypeId} {cs : Array Value} (h : Nf W v) (hq : W.heap[q]? = some (.cells cs t (0, 0))) (ht : ∀ x, cs[0]? ≠ some (.string x)) (i : Nat) : Nf (W.setCell ⟨q, i, none⟩ u) v := by
  obtain ⟨g, u', hv, hg, c0, c1, c2, hr⟩ := h
  have hne : g ≠ q := fun e => by subst e; rw [block_cell hq 0] at c0; exact ht _ c0
  refine ⟨g, u', hv, by simpa using hg, ?_, ?_, ?_, hr⟩
  · rw [World.cell?_setCell_far _ _ _ _ (by simpa using fun e => hne e.symm)]; exact c0
  · rw [World.cell?_setCell_far _ _ _ _ (by simpa using fun e => hne e.symm)]; exact c1
  · rw [World.cell?_setCell_far _ _ _ _ (by simpa using fun e => hne e.symm)]; exact c2

set_option maxRecDepth 10000 in
set_option maxHeartbeats 800000 in
theorem openD {W : World} {v : Value} (h : Dn W v) : Calls Tryz.prog 4 #[v] W fun e w' => ∃ f, e = .returned (.tuple #[.pointer none, .slice none 0 0, f]) ∧ Hid (Nf w' f ∧ Below W.heap.size W w') := by
  obtain ⟨W3, hW3⟩ : ∃ W3, ((W.alloc (.cells #[.pointer none] 24)).alloc (.cells #[.slice none 0 0] 31)).alloc (.cells #[.nilIface] 33) = W3 := ⟨_, rfl⟩
  have HX := hide (bx3_new hW3)
  have HM := hide (madeD (h.kept HX.out.2))
  have HZ := hide (zeroW W3)
  have HW3 := hide hW3
  clear h hW3
  go_enter_defers Tryz.func4, Tryz.ntmps4
  go_upto_region 1 with fail
  rw [HW3.out]
  go_wp2_with fail
  refine HM.out.mono ?_
  rintro e w1 ⟨rfl, hw⟩
  rw [hw]
  go_wp2_with fail
  refine HZ.out.mono ?_
  rintro e w2 ⟨f, rfl, G⟩
  obtain ⟨g, hf⟩ := G.out.1.form
  subst hf
  have X := HX.out.1.kept G.out.2
  have z0 := block_cell X.b0 0
  have z1 := block_cell X.b1 0
  have z2 := block_cell X.b2 0
  have f0 := block_free X.b0 0
  have f1 := block_free X.b1 0
  have f2 := block_free X.b2 0
  have l0 := block_lt X.b0
  have l1 := block_lt X.b1
  have l2 := block_lt X.b2
  simp at z0 z1 z2
  have HF : Hid (Nf (((w2.setCell ⟨W.heap.size, 0, none⟩ (.pointer none)).setCell ⟨W.heap.size + 1, 0, none⟩ (.slice none 0 0)).setCell ⟨W.heap.size + 1 + 1, 0, none⟩ (.iface 95 (.pointer (some ⟨g, 0, none⟩)))) (.iface 95 (.pointer (some ⟨g, 0, none⟩))) ∧ Below W.heap.size W (((w2.setCell ⟨W.heap.size, 0, none⟩ (.pointer none)).setCell ⟨W.heap.size + 1, 0, none⟩ (.slice none 0 0)).setCell ⟨W.heap.size + 1 + 1, 0, none⟩ (.iface 95 (.pointer (some ⟨g, 0, none⟩))))) := by
    refine ⟨?_, ?_⟩
    · have k1 : (w2.setCell ⟨W.heap.size, 0, none⟩ (.pointer none)).heap[W.heap.size + 1]? = _ := ((grown_set w2 W.heap.size 0 _).block _ (block_lt X.b1) (by simp)).trans X.b1
      have k2 : (w2.setCell ⟨W.heap.size, 0, none⟩ (.pointer none)).heap[W.heap.size + 1 + 1]? = _ := ((grown_set w2 W.heap.size 0 _).block _ (block_lt X.b2) (by simp; omega)).trans X.b2
      have k3 : ((w2.setCell ⟨W.heap.size, 0, none⟩ (.pointer none)).setCell ⟨W.heap.size + 1, 0, none⟩ (.slice none 0 0)).heap[W.heap.size + 1 + 1]? = _ := ((grown_set _ (W.heap.size + 1) 0 _).block _ (block_lt k2) (by simp)).trans k2
      exact ((G.out.1.set X.b0 (by simp) 0).set k1 (by simp) 0).set k3 (by simp) 0
    · exact (((HX.out.2.trans (G.out.2.mono HX.out.2.size)).setCell (p := ⟨W.heap.size, 0, none⟩) (by simp) _).setCell (p := ⟨W.heap.size + 1, 0, none⟩) (by simp) _).setCell (p := ⟨W.heap.size + 1 + 1, 0, none⟩) (by simp; omega) _
  clear X G HX
  go_wp2
  exact ⟨.tuple #[.pointer none, .slice none 0 0, .iface 95 (.pointer (some ⟨g, 0, none⟩))], by simp [results, Tryz.results4, go_sem, z0, z1, z2], _, rfl, HF⟩
/-- The two boxes of Rotate. -/
structure Bx2 (W : World) (b : Nat) (v : Value) : Prop where
  b0 : W.heap[b]? = some (.cells #[v] 24 (0, 0))
  b1 : W.heap[b + 1]? = some (.cells #[.nilIface] 33 (0, 0))
theorem bx2_new {W W3 : World} {v : Value} (h : (W.alloc (.cells #[v] 24)).alloc (.cells #[.nilIface] 33) = W3) : Bx2 W3 W.heap.size v ∧ Below W.heap.size W W3 := by
  have e1 : (W.alloc (.cells #[v] 24)).heap.size = W.heap.size + 1 := by simp
  refine ⟨⟨?_, ?_⟩, by rw [← h]; exact (below_alloc1 W _).alloc (by simp) _⟩
  · rw [← h]
    exact ((below_alloc1 _ _).block _ (by rw [e1]; omega)).trans (alloc_atK _ _)
  · rw [← h, ← e1]
    exact alloc_atK _ _
theorem Bx2.kept {W W' : World} {b : Nat} {v : Value} (h : Bx2 W b v) (hb : Below W.heap.size W W') : Bx2 W' b v := ⟨(hb.block _ (block_lt h.b0)).trans h.b0, (hb.block _ (block_lt h.b1)).trans h.b1⟩
theorem Gn.form {W : World} {v : Value} (h : Gn W v) : ∃ p, v = .pointer p := by
  rcases h with h | ⟨p, h, _⟩
  · exact ⟨_, h⟩
  · exact ⟨_, h⟩
set_option maxRecDepth 10000 in
set_option maxHeartbeats 800000 in
theorem rotateG {W : World} {v : Value} (h : Gn W v) (a : Option Addr) (n c : Nat) : Calls Tryz.prog 18 #[v, .slice a n c] W fun e w' => ∃ f, e = .returned f ∧ Hid (Nf w' f ∧ Below W.heap.size W w') := by
  obtain ⟨po, rfl⟩ := h.form
  obtain ⟨W3, hW3⟩ : ∃ W3, (W.alloc (.cells #[.pointer po] 24)).alloc (.cells #[.nilIface] 33) = W3 := ⟨_, rfl⟩
  have HX := hide (bx2_new hW3)
  have HM := hide (closedG (h.kept HX.out.2))
  have HZ := hide (zeroW W3)
  have y0 := block_cell HX.out.1.b0 0
  simp at y0
  have HW3 := hide hW3
  clear h hW3
  go_enter_defers Tryz.func18, Tryz.ntmps18
  go_upto_region 1 with fail
  rw [HW3.out]
  go_wp2_with fail
  refine HM.out.mono ?_
  rintro e w1 ⟨rfl, hw⟩
  rw [hw]
  go_wp2_with fail
  refine HZ.out.mono ?_
  rintro e w2 ⟨f, rfl, G⟩
  obtain ⟨g, hf⟩ := G.out.1.form
  subst hf
  have X := HX.out.1.kept G.out.2
  have z1 := block_cell X.b1 0
  have f1 := block_free X.b1 0
  have l1 := block_lt X.b1
  simp at z1
  have HF : Hid (Nf (w2.setCell ⟨W.heap.size + 1, 0, none⟩ (.iface 95 (.pointer (some ⟨g, 0, none⟩)))) (.iface 95 (.pointer (some ⟨g, 0, none⟩))) ∧ Below W.heap.size W (w2.setCell ⟨W.heap.size + 1, 0, none⟩ (.iface 95 (.pointer (some ⟨g, 0, none⟩))))) := by
    refine ⟨?_, ?_⟩
    · exact G.out.1.set X.b1 (by simp) 0
    · exact (HX.out.2.trans (G.out.2.mono HX.out.2.size)).setCell (p := ⟨W.heap.size + 1, 0, none⟩) (by simp) _
  clear X G HX
  go_wp2
  exact ⟨.iface 95 (.pointer (some ⟨g, 0, none⟩)), by simp [results, Tryz.results18, go_sem, z1], _, rfl, HF⟩
set_option maxRecDepth 10000 in
set_option maxHeartbeats 800000 in
/-- The law's none: the refusal of nobody is. -/
theorem noneN {W : World} {v : Value} (h : Nf W v) : Calls Tryz.prog 16 #[v] W fun e w' => e = .returned (.bool true) ∧ Hid (Below W.heap.size W w') := by
  have HN := hide (new0 ⟨#[119, 97, 108]⟩ 0 3 W)
  have HI : Hid (∀ w1 ao cap, (∃ b off, FV w1.heap.size w1 ao [⟨⟨#[119, 97, 108]⟩, 0⟩] b off ∧ Below W.heap.size W w1) → Calls Tryz.prog 42 #[v, .agg #[.slice ao 1 cap, .int .i64 3]] w1 fun e w' => e = .returned (.bool true) ∧ Hid (Below W.heap.size W w')) := by
    intro w1 ao cap ⟨b, off, hf, hb⟩
    refine (is_any 1 cap rfl (.inr ⟨h.kept hb, by simp, by simp, by decide⟩) hf).mono (fun _ _ g => ⟨g.1, hb.trans (g.2.out.mono hb.size)⟩)
  unfold FvP at HN
  clear h
  go_enter Tryz.func16, Tryz.ntmps16
  go_wp2_with fail
  refine HN.out.mono ?_
  rintro e w1 ⟨ao, cap, rfl, G⟩
  go_wp2_with fail
  refine (HI.out w1 ao cap G.out).mono ?_
  rintro e w2 ⟨rfl, G2⟩
  go_wp2
  go_ret
  exact ⟨rfl, G2⟩
set_option maxRecDepth 10000 in
set_option maxHeartbeats 800000 in
theorem imageD {W : World} {v : Value} (h : Dn W v) : Calls Tryz.prog 23 #[v] W fun e w' => e = .returned (.agg #[.slice none 0 0, .int .i64 0]) ∧ Hid (Below W.heap.size W w') := by
  obtain ⟨W1, hW1⟩ : ∃ W1, W.alloc (.cells #[.slice none 0 0, .int .i64 0] 60) = W1 := ⟨_, rfl⟩
  have B1 : Below W.heap.size W W1 := by rw [← hW1]; exact below_alloc1 W _
  have HA : W1.heap[W.heap.size]? = some (.cells #[.slice none 0 0, .int .i64 0] 60 (0, 0)) := by rw [← hW1]; exact alloc_atK _ _
  have z0 := block_cell HA 0
  have z1 := block_cell HA 1
  have f0 := block_free HA 0
  have f1 := block_free HA 1
  have zl := block_lt HA
  simp at z0 z1
  have HM := hide (madeD (h.kept B1))
  have FIN : Hid (∀ a b, Below W.heap.size W ((W1.setCell ⟨W.heap.size, 0, none⟩ a).setCell ⟨W.heap.size, 1, none⟩ b)) := fun a b => (B1.setCell (p := ⟨W.heap.size, 0, none⟩) (by simp) a).setCell (p := ⟨W.heap.size, 1, none⟩) (by simp) b
  have HW1 := hide hW1
  clear h HA B1 hW1
  go_enter Tryz.func23, Tryz.ntmps23
  go_upto_region 1 with fail
  rw [HW1.out]
  clear HW1
  go_wp2_with fail
  refine HM.out.mono ?_
  rintro e w1 ⟨rfl, hw⟩
  rw [hw]
  go_wp2
  refine bodyPost_ret (v := .agg #[.slice none 0 0, .int .i64 0]) (by simp [results, Tryz.results23, go_sem, z0, z1]) rfl ?_
  exact ⟨rfl, FIN.out _ _⟩
set_option maxRecDepth 10000 in
set_option maxHeartbeats 800000 in
theorem sameImage0 (w : World) : Calls Tryz.prog 22 #[.agg #[.slice none 0 0, .int .i64 0], .agg #[.slice none 0 0, .int .i64 0]] w fun e w' => e = .returned (.bool true) ∧ Hid (Below w.heap.size w w') := by
  have HB : Hid (∀ a b q, Below w.heap.size w (((w.alloc a).alloc b).drewN q)) := fun a b q => Go.below_drewN ((below_alloc1 w a).alloc (by simp) b) q
  go_enter Tryz.func22, Tryz.ntmps22
  go_wp2
  refine wp_loop_rounds 1 ?_
  rw [rounds_succ]
  go_wp2
  go_ret
  exact ⟨rfl, HB.out _ _ 0⟩
end Go.Proofs.YtcagbggnlfeadaaGreatDoor
