import Derived.Test.YtcagbggnlfeadaaGreatDoorWnE
namespace Go.Proofs.YtcagbggnlfeadaaGreatDoor
open Go.RowKit Crc Go.Shelf
attribute [local go_sem] Oper.semAt_some

/-- The boxes of current. -/
structure Bx4 (W : World) (b : Nat) (v : Value) : Prop where
  c0 : W.cell? ⟨b, 0, none⟩ = some v
  c1 : W.cell? ⟨b + 1, 0, none⟩ = some (.int .u64 0)
  c2 : W.cell? ⟨b + 1 + 1, 0, none⟩ = some (.slice none 0 0)
  c3 : W.cell? ⟨b + 1 + 1 + 1, 0, none⟩ = some (.int .i64 0)
  f1 : W.frozen? ⟨b + 1, 0, none⟩ = false
  f2 : W.frozen? ⟨b + 1 + 1, 0, none⟩ = false
  f3 : W.frozen? ⟨b + 1 + 1 + 1, 0, none⟩ = false
theorem bx4_new {W W4 : World} {v : Value} (h : (((W.alloc (.cells #[v] 23)).alloc (.cells #[.int .u64 0] 28)).alloc (.cells #[.slice none 0 0] 31)).alloc (.cells #[.int .i64 0] 3) = W4) : Bx4 W4 W.heap.size v ∧ Below W.heap.size W W4 ∧ W4.heap.size = W.heap.size + 4 := by
  have e1 : (W.alloc (.cells #[v] 23)).heap.size = W.heap.size + 1 := by simp
  have e2 : ((W.alloc (.cells #[v] 23)).alloc (.cells #[.int .u64 0] 28)).heap.size = W.heap.size + 1 + 1 := by simp
  have e3 : (((W.alloc (.cells #[v] 23)).alloc (.cells #[.int .u64 0] 28)).alloc (.cells #[.slice none 0 0] 31)).heap.size = W.heap.size + 1 + 1 + 1 := by simp
  have q0 := alloc_atK W (.cells #[v] 23)
  have q1 := alloc_atK (W.alloc (.cells #[v] 23)) (.cells #[.int .u64 0] 28)
  have q2 := alloc_atK ((W.alloc (.cells #[v] 23)).alloc (.cells #[.int .u64 0] 28)) (.cells #[.slice none 0 0] 31)
  have q3 := alloc_atK (((W.alloc (.cells #[v] 23)).alloc (.cells #[.int .u64 0] 28)).alloc (.cells #[.slice none 0 0] 31)) (.cells #[.int .i64 0] 3)
  rw [e1] at q1
  rw [e2] at q2
  rw [e3] at q3
  have p0 := ((below_alloc1 _ (.cells #[.int .i64 0] 3)).block _ (by rw [e3]; omega)).trans (((below_alloc1 _ (.cells #[.slice none 0 0] 31)).block _ (by rw [e2]; omega)).trans (((below_alloc1 _ (.cells #[.int .u64 0] 28)).block _ (by rw [e1]; omega)).trans q0))
  have p1 := ((below_alloc1 _ (.cells #[.int .i64 0] 3)).block _ (by rw [e3]; omega)).trans (((below_alloc1 _ (.cells #[.slice none 0 0] 31)).block _ (by rw [e2]; omega)).trans q1)
  have p2 := ((below_alloc1 _ (.cells #[.int .i64 0] 3)).block _ (by rw [e3]; omega)).trans q2
  rw [h] at p0 p1 p2 q3
  refine ⟨⟨block_cell p0 0, block_cell p1 0, block_cell p2 0, block_cell q3 0, block_free p1 0, block_free p2 0, block_free q3 0⟩, ?_, ?_⟩
  · rw [← h]; exact (((below_alloc1 W _).alloc (by simp) _).alloc (by simp; omega) _).alloc (by simp; omega) _
  · rw [← h]; simp
theorem Bx4.own {b : Nat} {v : Value} : Own (fun (_ : List Empty) W => Bx4 W b v) := fun _ _ _ _ hs hg hr =>
  ⟨cell_kept hs.c0 hg hr, cell_kept hs.c1 hg hr, cell_kept hs.c2 hg hr, cell_kept hs.c3 hg hr, (frozen_kept hs.c1 hg hr).trans hs.f1, (frozen_kept hs.c2 hg hr).trans hs.f2, (frozen_kept hs.c3 hg hr).trans hs.f3⟩
theorem Bx4.kept {W W' : World} {b : Nat} {v : Value} (h : Bx4 W b v) (hb : Below W.heap.size W W') : Bx4 W' b v := by
  have l0 := World.block_lt_of_cell? W _ h.c0
  have l1 := World.block_lt_of_cell? W _ h.c1
  have l2 := World.block_lt_of_cell? W _ h.c2
  have l3 := World.block_lt_of_cell? W _ h.c3
  exact ⟨(hb.cell (p := ⟨b, 0, none⟩) l0).trans h.c0, (hb.cell (p := ⟨b + 1, 0, none⟩) l1).trans h.c1, (hb.cell (p := ⟨b + 1 + 1, 0, none⟩) l2).trans h.c2, (hb.cell (p := ⟨b + 1 + 1 + 1, 0, none⟩) l3).trans h.c3, (hb.frozen (p := ⟨b + 1, 0, none⟩) l1).trans h.f1, (hb.frozen (p := ⟨b + 1 + 1, 0, none⟩) l2).trans h.f2, (hb.frozen (p := ⟨b + 1 + 1 + 1, 0, none⟩) l3).trans h.f3⟩
set_option maxRecDepth 100000 in
set_option maxHeartbeats 2000000 in
theorem currentF {lim : Nat} {w : World} {p m : Nat} {v : Value} {b : Bool} (h : FD lim w p m 0 v b) : Calls Tryz.prog 28 #[.pointer (some ⟨p, 0, none⟩)] w fun e w' => e = .returned (.tuple #[.int .u64 0, .slice none 0 0, .int .i64 0]) ∧ Below w.heap.size w w' := by
  refine (callsIn_wide (n := 3)).1 ?_
  obtain ⟨W4, hW4⟩ : ∃ W4, (((w.alloc (.cells #[.pointer (some ⟨p, 0, none⟩)] 23)).alloc (.cells #[.int .u64 0] 28)).alloc (.cells #[.slice none 0 0] 31)).alloc (.cells #[.int .i64 0] 3) = W4 := ⟨_, rfl⟩
  have HX := hide (bx4_new hW4)
  have HN := hide (numbersF (h.kept HX.out.2.1))
  have y0 := HX.out.1.c0
  have yl := World.block_lt_of_cell? W4 _ y0
  have HW4 := hide hW4
  clear h hW4
  refine callsIn_of_wp_marks Tryz.func28 rfl trivial ?_ rfl
  simp only [Tryz.ntmps28, List.size_toArray, List.length_cons, List.length_nil, Nat.reduceAdd, Nat.reduceSub, Array.replicate_succ, Array.replicate_zero, List.push_toArray, List.append_toArray, List.nil_append, List.cons_append]
  gi_wp2_with fail
  rw [HW4.out]
  refine ⟨trivial, (callsIn_wide.2 HN.out).mono ?_⟩
  rintro e w5 ⟨a, c, rfl, G5⟩
  gi_wp2_with fail
  refine ⟨trivial, (callsIn_wide.2 (backward_any _ _ _ _)).mono ?_⟩
  rintro e w6 ⟨rfl, hw6⟩
  have hc6 : w6.cell? ⟨w5.heap.size, 0, none⟩ = some (.slice a 0 c) := by rw [hw6]; exact World.cell?_alloc_new w5 _ _ _
  have b6 : Below w5.heap.size w5 w6 := by rw [hw6]; exact below_alloc1 w5 _
  have HV : Hid (Bx4 w6 w.heap.size (.pointer (some ⟨p, 0, none⟩)) ∧ Below w.heap.size w w6) := by
    have b4 := G5.out.trans (b6.mono G5.out.size)
    exact ⟨HX.out.1.kept b4, HX.out.2.1.trans (b4.mono HX.out.2.1.size)⟩
  clear HN y0 yl HX HW4 G5 hw6 b6
  gi_wp2_with fail
  refine wpIn_rangeFunc_ownF rfl (by omega) (gf := 61) (lb := #[.pointer (some ⟨w5.heap.size, 0, none⟩)]) rfl trivial (enters_of Tryz.func61 (by kernel_rfl) rfl)
    (iter_stopsW _ w5.heap.size hc6) belowK_t (belowK_b (Nat.le_refl _)) (Below.refl _ _) (fun x => x.elim)
    (fun _ W => Bx4 W w.heap.size (.pointer (some ⟨p, 0, none⟩)) ∧ Below w.heap.size w W) (fun _ _ _ => False) (OwnFrom.and (Own.from Bx4.own _) (ownFrom_below (Nat.le_refl _) HV.out.2.size)) (fun _ _ _ _ _ hs _ _ => hs) HV.out (fun x => x.elim) ?assign ?body ?done ?stop
  case assign => intro l x; exact x.elim
  case body => intro l pre x; exact x.elim
  case stop =>
    rintro D c pre W _ _ h _
    exact h.elim
  case done =>
    rintro D ys W hD rfl hI hK
    have hwD : w.heap.size ≤ D := Nat.le_trans HV.out.2.size hD
    have r1 := hI.1.c1
    have r2 := hI.1.c2
    have r3 := hI.1.c3
    have f1 := hI.1.f1
    have f2 := hI.1.f2
    have f3 := hI.1.f3
    have l1 := World.block_lt_of_cell? W _ r1
    have l2 := World.block_lt_of_cell? W _ r2
    have l3 := World.block_lt_of_cell? W _ r3
    have HI := hide hI
    have HK := hide hK
    clear hI hK HV hc6
    gi_wp2
    obtain ⟨W7, hW7⟩ : ∃ W7, ((W.setCell ⟨w.heap.size + 1, 0, none⟩ (.int .u64 0)).setCell ⟨w.heap.size + 1 + 1, 0, none⟩ (.slice none 0 0)).setCell ⟨w.heap.size + 1 + 1 + 1, 0, none⟩ (.int .i64 0) = W7 := ⟨_, rfl⟩
    have hK' : W7.heap[D]? = some (.deferred (some [])) := by
      rw [← hW7]
      exact (KeepsOthers.setCell _ _ _).same D _ ((KeepsOthers.setCell _ _ _).same D _ ((KeepsOthers.setCell _ _ _).same D _ HK.out rfl) rfl) rfl
    have b7 : Below w.heap.size w W7 := by
      rw [← hW7]
      exact ((HI.out.2.setCell (p := ⟨w.heap.size + 1, 0, none⟩) (by simp) _).setCell (p := ⟨w.heap.size + 1 + 1, 0, none⟩) (by simp; omega) _).setCell (p := ⟨w.heap.size + 1 + 1 + 1, 0, none⟩) (by simp; omega) _
    have d1 : W7.cell? ⟨w.heap.size + 1, 0, none⟩ = some (.int .u64 0) := by rw [← hW7, World.cell?_setCell_far _ _ _ _ (by simp; omega), World.cell?_setCell_far _ _ _ _ (by simp)]; exact World.cell?_setCell_same' _ _ _ (by rw [r1]; rfl)
    have d2 : W7.cell? ⟨w.heap.size + 1 + 1, 0, none⟩ = some (.slice none 0 0) := by rw [← hW7]; simp [World.cell?_setCell_far, World.cell?_setCell_same', r2]
    have d3 : W7.cell? ⟨w.heap.size + 1 + 1 + 1, 0, none⟩ = some (.int .i64 0) := by rw [← hW7]; simp [World.cell?_setCell_far, World.cell?_setCell_same', r3]
    rw [hW7]
    clear hW7
    refine ⟨by simp, .inl ⟨_, _, rfl, run_takeDeferred hK', ?_⟩⟩
    have e1 := cell_kept d1 (grownBy_putObj' _ D (.deferred none)) (fun r e => by cases e; exact ⟨_, hK', rfl⟩)
    have e2 := cell_kept d2 (grownBy_putObj' _ D (.deferred none)) (fun r e => by cases e; exact ⟨_, hK', rfl⟩)
    have e3 := cell_kept d3 (grownBy_putObj' _ D (.deferred none)) (fun r e => by cases e; exact ⟨_, hK', rfl⟩)
    refine ⟨.tuple #[.int .u64 0, .slice none 0 0, .int .i64 0], ?_, rfl, b7.trans (belowK_b (w := w) (Nat.le_refl _) _ D _ _ hwD hK' rfl rfl)⟩
    simp [results, Tryz.results28, go_sem, e1, e2, e3]
set_option maxRecDepth 10000 in
set_option maxHeartbeats 800000 in
theorem unbegunF {lim : Nat} {W : World} {p m : Nat} {v : Value} (h : FD lim W p m 0 v false) : Calls Tryz.prog 30 #[.pointer (some ⟨p, 0, none⟩)] W fun e w' => e = .returned (.bool true) ∧ w' = W := by
  obtain ⟨q0, q1, ql⟩ := h.cells
  have hl := h.look
  have hn := h.len
  clear h
  go_enter Tryz.func30, Tryz.ntmps30
  go_wp2
  go_ret
  exact ⟨rfl, rfl⟩
/-- Of the old blocks none but m has turned. -/
def KeepB (m : Nat) (W W' : World) : Prop := ∀ k, k < W.heap.size → k ≠ m → W'.heap[k]? = W.heap[k]?
/-- A disk with one file. -/
structure FC (lim : Nat) (W : World) (p m c : Nat) (a : Option Addr) (n k : Nat) (s : Int) : Prop where
  fd : FD lim W p m 1 (.pointer (some ⟨c, 0, none⟩)) true
  con : W.heap[c]? = some (.cells #[.slice a n k, .int .i64 s] 79 (0, 0))
  lc : lim ≤ c
theorem FC.kept {lim : Nat} {W W' : World} {p m c : Nat} {a : Option Addr} {n k : Nat} {s : Int} (h : FC lim W p m c a n k s) (hb : Below W.heap.size W W') : FC lim W' p m c a n k s := ⟨h.fd.kept hb, (hb.block _ (block_lt h.con)).trans h.con, h.lc⟩
set_option maxRecDepth 10000 in
set_option maxHeartbeats 800000 in
theorem createF {lim : Nat} {W : World} {p m : Nat} {v : Value} (h : FD lim W p m 0 v false) (hlim : lim ≤ W.heap.size) : Calls Tryz.prog 8 #[.pointer (some ⟨p, 0, none⟩), .int .u64 1] W fun e w' => e = .returned (.int .i64 0) ∧ Hid (FC lim w' p m W.heap.size none 0 0 0 ∧ Below lim W w' ∧ KeepB m W w') := by
  have HA := hide (aliveF h)
  have HF := hide (findF0 h)
  have HB := hide (burnF h)
  obtain ⟨q0, q1, ql⟩ := h.cells
  have hn := h.len
  have b1 := below_alloc1 W (.cells #[.slice none 0 0, .int .i64 0] 79)
  obtain ⟨w', hr, hF, hg⟩ := (h.kept b1).store (.pointer (some ⟨W.heap.size, 0, none⟩))
  have HZ : Hid (FC lim w' p m W.heap.size none 0 0 0 ∧ Below lim W w' ∧ KeepB m W w') := by
    have hne : W.heap.size ≠ m := by
      obtain ⟨D, hD, _⟩ := h.map
      have := hD.lt
      omega
    refine ⟨⟨hF, (hg.block _ (by simp) (by simpa using hne)).trans (alloc_atK _ _), hlim⟩, (b1.mono hlim).grown hg (by simp; omega) (fun k e => by cases e; exact h.lm), fun k hk hne => ?_⟩
    exact (hg.block k (by simp; omega) (by simpa using hne)).trans (b1.block k hk)
  clear h b1 hF hg
  go_enter Tryz.func8, Tryz.ntmps8
  go_wp2_with fail
  refine HA.out.mono ?_
  rintro e w1 ⟨rfl, hw⟩
  rw [hw]
  go_wp2_with fail
  refine HF.out.mono ?_
  rintro e w1 ⟨rfl, hw⟩
  rw [hw]
  go_wp2_with fail
  refine HB.out.mono ?_
  rintro e w1 ⟨rfl, hw⟩
  rw [hw]
  go_wp2
  go_ret
  exact ⟨rfl, HZ⟩
set_option maxRecDepth 10000 in
set_option maxHeartbeats 800000 in
theorem segmentF (w : World) (h0 : 0 < w.heap.size) (hT : Table w) : Calls Tryz.prog 57 #[.int .u64 1, .slice none 0 0] w fun e w' => ∃ v', e = .returned v' ∧ Hid (Owns w.heap.size w' v' (hdr 1 0) ∧ Below w.heap.size w w') := by
  have HA := hide (appendHeader_any 1 0 w h0 hT (by omega))
  clear hT
  go_enter Tryz.func57, Tryz.ntmps57
  go_wp2_with fail
  refine HA.out.mono ?_
  rintro e w1 ⟨v1, rfl, ho, hb⟩
  have HO := hide ho
  have HB := hide hb
  clear ho hb
  go_wp2_with fail
  refine wp_loop_rounds 1 ?_
  rw [rounds_succ]
  go_wp2
  go_ret
  exact ⟨_, rfl, HO.out, HB.out⟩
theorem FC.cells {lim : Nat} {W : World} {p m c : Nat} {a : Option Addr} {n k : Nat} {s : Int} (h : FC lim W p m c a n k s) : W.cell? ⟨c, 0, none⟩ = some (.slice a n k) ∧ W.cell? ⟨c, 1, none⟩ = some (.int .i64 s) ∧ W.frozen? ⟨c, 0, none⟩ = false ∧ W.frozen? ⟨c, 1, none⟩ = false ∧ c < W.heap.size := ⟨block_cell h.con 0, block_cell h.con 1, block_free h.con 0, block_free h.con 1, block_lt h.con⟩
theorem FC.set0 {lim : Nat} {W : World} {p m c : Nat} {a : Option Addr} {n k : Nat} {s : Int} (h : FC lim W p m c a n k s) (a' : Option Addr) (n' k' : Nat) : FC lim (W.setCell ⟨c, 0, none⟩ (.slice a' n' k')) p m c a' n' k' s := by
  have s1 := heap_setCell_same W c 0 _ _ (.slice a' n' k') h.con
  simp only [List.setIfInBounds_toArray, List.set_cons_zero] at s1
  exact ⟨h.fd.set h.con (by decide) 0 _, s1, h.lc⟩
theorem FC.set1 {lim : Nat} {W : World} {p m c : Nat} {a : Option Addr} {n k : Nat} {s : Int} (h : FC lim W p m c a n k s) (s' : Int) : FC lim (W.setCell ⟨c, 1, none⟩ (.int .i64 s')) p m c a n k s' := by
  have s1 := heap_setCell_same W c 1 _ _ (.int .i64 s') h.con
  simp only [List.setIfInBounds_toArray, List.set_cons_zero, List.set_cons_succ] at s1
  exact ⟨h.fd.set h.con (by decide) 1 _, s1, h.lc⟩
set_option maxRecDepth 10000 in
set_option maxHeartbeats 800000 in
theorem syncF {lim : Nat} {W : World} {p m c : Nat} {a : Option Addr} {n k : Nat} {s : Int} (h : FC lim W p m c a n k s) : Calls Tryz.prog 11 #[.pointer (some ⟨p, 0, none⟩), .int .u64 1] W fun e w' => ∃ s', e = .returned (.int .i64 0) ∧ Hid (FC lim w' p m c a n k s' ∧ Below lim W w' ∧ KeepB c W w') := by
  have HW := hide (writableF h.fd)
  have HB := hide (burnF h.fd)
  obtain ⟨q0, q1, f0, f1, ql⟩ := h.cells
  have HZ : Hid (∀ s', FC lim (W.setCell ⟨c, 1, none⟩ (.int .i64 s')) p m c a n k s' ∧ Below lim W (W.setCell ⟨c, 1, none⟩ (.int .i64 s')) ∧ KeepB c W (W.setCell ⟨c, 1, none⟩ (.int .i64 s'))) := fun s' => ⟨h.set1 s', (Below.refl _ _).setCell (p := ⟨c, 1, none⟩) h.lc _, fun j hj hne => (grown_set W c 1 _).block j hj (by simpa using hne)⟩
  clear h
  go_enter Tryz.func11, Tryz.ntmps11
  go_wp2_with fail
  refine HW.out.mono ?_
  rintro e w1 ⟨rfl, hw⟩
  rw [hw]
  go_wp2_with fail
  refine HB.out.mono ?_
  rintro e w1 ⟨rfl, hw⟩
  rw [hw]
  go_wp2
  go_ret
  exact ⟨_, rfl, HZ.out _⟩
end Go.Proofs.YtcagbggnlfeadaaGreatDoor
