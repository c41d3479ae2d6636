import Derived.Test.YtcagbggnlfeadaaGreatDoorWnF
namespace Go.Proofs.YtcagbggnlfeadaaGreatDoor
open Go.RowKit Crc

set_option maxRecDepth 10000 in
set_option maxHeartbeats 800000 in
theorem appendF {lim : Nat} {W : World} {p m c : Nat} {s : Int} (h : FC lim W p m c none 0 0 s) {ad : Addr} {k : Nat} (hs : Shows W.heap.size W (some ad) 21 k (hdr 1 0)) (hlim : lim ≤ W.heap.size) : Calls Tryz.prog 9 #[.pointer (some ⟨p, 0, none⟩), .int .u64 1, .slice (some ad) 21 k] W fun e w' => ∃ a n k, e = .returned (.int .i64 0) ∧ Hid (FC lim w' p m c a n k s ∧ Below lim W w' ∧ KeepB c W w') := by
  obtain ⟨i0, hi, hz0, hz1, hz2⟩ := info_parts Tryz.info5
  have HW := hide (writableF h.fd)
  have HB := hide (burnF h.fd)
  obtain ⟨ad', had, hcd⟩ := shows_cells hs (by omega)
  cases had
  have HC := hide hcd
  have HV : Hid ((vals (hdr 1 0)).length = 21) := by show _ = _; rw [vals_len, hdr_len]
  obtain ⟨q0, q1, f0, f1, ql⟩ := h.cells
  have HH := hide h
  clear h hs hcd
  go_enter Tryz.func9, Tryz.ntmps9
  go_wp2_with fail
  refine HW.out.mono ?_
  rintro e w1 ⟨rfl, hw⟩
  rw [hw]
  go_wp2_with fail
  refine HB.out.mono ?_
  rintro e w1 ⟨rfl, hw⟩
  rw [hw]
  go_wp2_with (first
    | (at_builtin; refine wpList_append_ext _ rfl (.tmp 35) (.tmp 36) 37 rfl W.heap.size 5 i0 (.int .u8 0) Tryz.underlying37 hi hz0 hz1 hz2 rfl (.slice none 0 0) 0 [] rfl (World.ownsRow_nil _ _ _ _) ad 21 k (vals (hdr 1 0)) rfl HV.out HC.out (vals_one' _) (by omega) (by omega) (Nat.le_refl _) ?_; intro v4 w4 hown4 hext4; obtain ⟨g4, c4, hv4, -⟩ := own_shape hown4 (by omega); subst hv4; have B4 : Hid (Below W.heap.size W w4) := (Below.refl _ _).grown hext4.1 (Nat.le_refl _) (fun k h => by cases h); have HX := hide (HH.out.kept B4.out); obtain ⟨r0, r1, g0, g1, rl⟩ := HX.out.cells; clear hown4 hext4 q0 q1 f0 f1 ql))
  go_ret
  have := HX.out.set0 (some ⟨g4, 0, none⟩) (0 + 21) c4
  exact ⟨_, _, _, rfl, this, (B4.out.mono hlim).setCell (p := ⟨c, 0, none⟩) HX.out.lc _, fun j hj hne => ((grown_set w4 c 0 _).block j (Nat.lt_of_lt_of_le hj B4.out.size) (by simpa using hne)).trans (B4.out.block j hj)⟩
set_option maxRecDepth 10000 in
set_option maxHeartbeats 800000 in
theorem layF {lim : Nat} {W : World} {p m : Nat} {v : Value} (h : FD lim W p m 0 v false) (hlim : lim ≤ W.heap.size) (h0 : 0 < lim) (hT : Table W) : Calls Tryz.prog 46 #[.pointer (some ⟨p, 0, none⟩), .int .u64 1, .slice none 0 0] W fun e w' => e = .returned (.tuple #[]) ∧ Hid (Below lim W w' ∧ KeepB m W w') := by
  have HC := hide (createF h hlim)
  have HT := hide hT
  clear h hT
  go_enter Tryz.func46, Tryz.ntmps46
  go_wp2_with fail
  refine HC.out.mono ?_
  rintro e w1 ⟨rfl, G1⟩
  go_wp2_with fail
  refine (insist0 w1).mono ?_
  rintro e w2 ⟨rfl, hw⟩
  rw [hw]
  have HS := hide (segmentF w1 (by have := G1.out.2.1.size; omega) (HT.out.below G1.out.2.1 h0))
  go_wp2_with fail
  refine HS.out.mono ?_
  rintro e w3 ⟨v3, rfl, G3⟩
  obtain ⟨a3, c3, hv3, hs3, -⟩ := G3.out.1.form
  rw [hdr_len] at hv3 hs3
  subst hv3
  obtain ⟨ad3, ha3, -⟩ := shows_cells hs3 (by omega)
  subst ha3
  have HL3 : Hid (lim ≤ w3.heap.size ∧ Below lim W w3 ∧ KeepB m W w3 ∧ W.heap.size ≤ w3.heap.size) := by
    have e1 := G1.out.2.1.size
    have e2 := G3.out.2.size
    exact ⟨by omega, G1.out.2.1.trans (G3.out.2.mono (by omega)), fun k hk hne => (G3.out.2.block k (by omega)).trans (G1.out.2.2 k hk hne), by omega⟩
  have HA := hide (appendF (G1.out.1.kept G3.out.2) hs3 HL3.out.1)
  clear hs3 G3 HS
  go_wp2_with fail
  refine HA.out.mono ?_
  rintro e w4 ⟨a4, n4, k4, rfl, G4⟩
  go_wp2_with fail
  refine (insist0 w4).mono ?_
  rintro e w5 ⟨rfl, hw⟩
  rw [hw]
  have HY := hide (syncF G4.out.1)
  go_wp2_with fail
  refine HY.out.mono ?_
  rintro e w6 ⟨s6, rfl, G6⟩
  go_wp2_with fail
  refine (insist0 w6).mono ?_
  rintro e w7 ⟨rfl, hw⟩
  rw [hw]
  go_wp2
  go_end0
  refine ⟨rfl, (HL3.out.2.1.trans G4.out.2.1).trans G6.out.2.1, fun k hk hne => ?_⟩
  have e4 := HL3.out.2.2.2
  have e5 := G4.out.2.1.size
  exact (G6.out.2.2 k (by omega) (by omega)).trans ((G4.out.2.2 k (by omega) (by omega)).trans (HL3.out.2.2.1 k hk hne))
set_option maxRecDepth 10000 in
set_option maxHeartbeats 800000 in
theorem beginF {lim : Nat} {W : World} {p m : Nat} {v : Value} (h : FD lim W p m 0 v false) (hlim : lim ≤ W.heap.size) (h0 : 0 < lim) (hT : Table W) : Calls Tryz.prog 31 #[.pointer (some ⟨p, 0, none⟩)] W fun e w' => e = .returned (.tuple #[]) ∧ Hid (Below lim W w' ∧ KeepB m W w') := by
  have HL := hide (layF h hlim h0 hT)
  obtain ⟨q0, q1, ql⟩ := h.cells
  have hn := h.len
  clear h hT
  go_enter Tryz.func31, Tryz.ntmps31
  go_wp2_with fail
  refine HL.out.mono ?_
  rintro e w1 ⟨rfl, G⟩
  go_wp2
  go_end0
  exact ⟨rfl, G⟩
theorem asrt_nilE (w : World) : (Instr.typeAssert .nilIface 20 33 true).run Tryz.prog w = .ok (.tuple #[.nilIface, .bool false]) w := by kernel_rfl
/-- The deferred function, where nothing has gone wrong. -/
theorem deferred_idle (a b c : Addr) (w : World) :
    CallsD Tryz.prog 26 #[.pointer (some a), .pointer (some b), .pointer (some c)] .returning w fun e u' w' => e = .returned (.tuple #[]) ∧ u' = .returning ∧ w' = w := by
  have ha := asrt_nilE w
  refine callsD_of_wpS Tryz.func26 rfl fun c₀ cs hu => ?_
  apply wpS_seq
  apply wpS_region
  simp [wpOpsS, go_sem, recoverD, hu, Tryz.ntmps26, Exit.thenS, ha]
  apply wpS_seq
  apply wpS_region
  simp [wpOpsS, go_sem, Exit.thenS]
  refine wpS_cond (t := false) (by simp [Act.eval, Array.replicate]) ?_
  simp only [Bool.false_eq_true, if_false]
  refine wpS_of_wp (wp_skip ?_)
  cases c₀
  simp_all [bodyPostS, results, Tryz.results26]
set_option maxRecDepth 10000 in
set_option maxHeartbeats 1600000 in
theorem openF {lim : Nat} {W : World} {p m : Nat} {v : Value} (h : FD lim W p m 0 v false) (hlim : lim ≤ W.heap.size) (h0 : 0 < lim) (hT : Table W) : Calls Tryz.prog 4 #[.pointer (some ⟨p, 0, none⟩)] W fun e w' => ∃ q, e = .returned (.tuple #[.pointer (some q), .slice none 0 0, .nilIface]) ∧ Hid (Below lim W w') := by
  have hmf : ∀ (fn : Fn) (first cap : Array Value) (w : World), (Instr.makeFunc fn first cap).run Tryz.prog w = .ok (.func fn first cap) w := fun _ _ _ _ => rfl
  obtain ⟨W3, hW3⟩ : ∃ W3, ((W.alloc (.cells #[.pointer none] 24)).alloc (.cells #[.slice none 0 0] 31)).alloc (.cells #[.nilIface] 33) = W3 := ⟨_, rfl⟩
  have HX := hide (bx3_new hW3)
  have H3 := hide (h.kept HX.out.2)
  have HM := hide (madeF H3.out)
  have HC := hide (currentF H3.out)
  have HT := hide (hT.below HX.out.2 (by omega))
  have HW3 := hide hW3
  clear h hW3 hT
  go_enter_defers Tryz.func4, Tryz.ntmps4
  go_upto_region 1 with fail
  rw [HW3.out]
  clear HW3
  go_wp2_with fail
  refine HM.out.mono ?_
  rintro e w1 ⟨rfl, hw⟩
  rw [hw]
  go_wp2_with fail
  refine HC.out.mono ?_
  rintro e w4 ⟨rfl, hb4⟩
  have X4 := HX.out.1.kept hb4
  have HF4 := hide (H3.out.kept hb4)
  have HT4 := hide (HT.out.below hb4 (by have := HX.out.2.size; omega))
  have HB4 : Hid (Below W.heap.size W w4) := HX.out.2.trans (hb4.mono HX.out.2.size)
  obtain ⟨W5, hW5⟩ : ∃ W5, w4.setCell ⟨W.heap.size + 1, 0, none⟩ (.slice none 0 0) = W5 := ⟨_, rfl⟩
  have k0 : W5.heap[W.heap.size]? = some (.cells #[.pointer none] 24 (0, 0)) := by rw [← hW5]; exact ((grown_set w4 (W.heap.size + 1) 0 _).block _ (block_lt X4.b0) (by simp)).trans X4.b0
  have k2 : W5.heap[W.heap.size + 1 + 1]? = some (.cells #[.nilIface] 33 (0, 0)) := by rw [← hW5]; exact ((grown_set w4 (W.heap.size + 1) 0 _).block _ (block_lt X4.b2) (by simp)).trans X4.b2
  have k1 : W5.heap[W.heap.size + 1]? = some (.cells #[.slice none 0 0] 31 (0, 0)) := by
    rw [← hW5]
    have s1 := heap_setCell_same w4 (W.heap.size + 1) 0 _ _ (.slice none 0 0) X4.b1
    simpa using s1
  have HX5 : Hid (Bx3 W5 W.heap.size) := ⟨k0, k1, k2⟩
  have HF5 : Hid (FD lim W5 p m 0 v false) := by rw [← hW5]; exact HF4.out.set X4.b1 (by decide) 0 _
  have HB5 : Hid (Below W.heap.size W W5) := by rw [← hW5]; exact HB4.out.setCell (p := ⟨W.heap.size + 1, 0, none⟩) (by simp) _
  have b5 : Below 1 w4 W5 := by rw [← hW5]; exact (Below.refl _ _).setCell (p := ⟨W.heap.size + 1, 0, none⟩) (by simp) _
  have HT5 : Hid (Table W5) := HT4.out.below b5 (by omega)
  have HU := hide (unbegunF HF5.out)
  have HG := hide (beginF HF5.out (by have := HB5.out.size; omega) h0 HT5.out)
  have z1 := block_cell X4.b1 0
  have f1 := block_free X4.b1 0
  have l1 := block_lt X4.b1
  simp at z1
  have HW5 := hide hW5
  clear X4 hb4 k0 k1 k2 b5 HF4 HT4 hW5
  go_upto_region 6 with fail
  rw [HW5.out]
  clear HW5
  clear z1 f1 l1
  go_wp2_with fail
  refine HU.out.mono ?_
  rintro e w6 ⟨rfl, hw⟩
  rw [hw]
  go_wp2_with fail
  refine HG.out.mono ?_
  rintro e w7 ⟨rfl, G7⟩
  have HX7 : Hid (Bx3 w7 W.heap.size) := by
    have hm : ∀ {k : Nat} {cs : Array Value} {t : TypeId} {z : Nat × Nat}, W5.heap[k]? = some (.cells cs t z) → k ≠ m := by
      intro k cs t z hk e
      obtain ⟨D, ⟨es, q, hD, _⟩, _⟩ := HF5.out.map
      rw [e, hD] at hk; cases hk
    have x := HX5.out
    exact ⟨(G7.out.2 _ (block_lt x.b0) (hm x.b0)).trans x.b0, (G7.out.2 _ (block_lt x.b1) (hm x.b1)).trans x.b1, (G7.out.2 _ (block_lt x.b2) (hm x.b2)).trans x.b2⟩
  have HB7 : Hid (Below lim W w7) := (HB5.out.mono hlim).trans G7.out.1
  have z0 := block_cell HX7.out.b0 0
  have z1 := block_cell HX7.out.b1 0
  have z2 := block_cell HX7.out.b2 0
  have f0 := block_free HX7.out.b0 0
  have f1 := block_free HX7.out.b1 0
  have f2 := block_free HX7.out.b2 0
  have l0 := block_lt HX7.out.b0
  have l1 := block_lt HX7.out.b1
  have l2 := block_lt HX7.out.b2
  simp at z0 z1 z2
  clear HU HG G7 HX HX5 HF5 HT5 HB5 HB4 H3 HM HC HT
  go_upto_region 11 with fail
  go_region
  obtain ⟨W9, hW9⟩ : ∃ W9, ((((w7.setCell ⟨W.heap.size, 0, none⟩ (.pointer (some ⟨w7.heap.size, 0, none⟩))).setCell ⟨W.heap.size + 1, 0, none⟩ (.slice none 0 0)).setCell ⟨W.heap.size + 1 + 1, 0, none⟩ .nilIface).alloc (.cells #[.pointer (some ⟨p, 0, none⟩), .int .u64 1, .int .i64 0, .int .i64 0, .bool false] 30)).drew = W9 := ⟨_, rfl⟩
  have b9 : Below lim W W9 := by
    rw [← hW9]
    exact ((((HB7.out.setCell (p := ⟨W.heap.size, 0, none⟩) hlim _).setCell (p := ⟨W.heap.size + 1, 0, none⟩) (by simp; omega) _).setCell (p := ⟨W.heap.size + 1 + 1, 0, none⟩) (by simp; omega) _).alloc (by simp; omega) _).drew
  have d0 : W9.cell? ⟨W.heap.size, 0, none⟩ = some (.pointer (some ⟨w7.heap.size, 0, none⟩)) := by
    rw [← hW9]
    show World.cell? (World.alloc _ _) _ = _
    rw [World.cell?_alloc_past _ _ _ (by simp; omega), World.cell?_setCell_far _ _ _ _ (by simp; omega), World.cell?_setCell_far _ _ _ _ (by simp)]
    exact World.cell?_setCell_same' _ _ _ (by rw [z0]; rfl)
  have d1 : W9.cell? ⟨W.heap.size + 1, 0, none⟩ = some (.slice none 0 0) := by
    rw [← hW9]
    show World.cell? (World.alloc _ _) _ = _
    rw [World.cell?_alloc_past _ _ _ (by simp; omega), World.cell?_setCell_far _ _ _ _ (by simp)]
    refine World.cell?_setCell_same' _ _ _ ?_
    rw [World.cell?_setCell_far _ _ _ _ (by simp), z1]; rfl
  have d2 : W9.cell? ⟨W.heap.size + 1 + 1, 0, none⟩ = some .nilIface := by
    rw [← hW9]
    show World.cell? (World.alloc _ _) _ = _
    rw [World.cell?_alloc_past _ _ _ (by simp; omega)]
    refine World.cell?_setCell_same' _ _ _ ?_
    rw [World.cell?_setCell_far _ _ _ _ (by simp), World.cell?_setCell_far _ _ _ _ (by simp; omega), z2]; rfl
  rw [hW9]
  clear hW9 z0 z1 z2 f0 f1 f2
  go_wp2
  refine leaves_cons (f := 26) (args := #[.pointer (some ⟨W.heap.size, 0, none⟩), .pointer (some ⟨W.heap.size + 1, 0, none⟩), .pointer (some ⟨W.heap.size + 1 + 1, 0, none⟩)]) (by simp) (by simp [go_sem]) ?_
  refine (deferred_idle _ _ _ W9).mono ?_
  rintro e u' w10 ⟨rfl, rfl, rfl⟩
  refine ⟨.tuple #[.pointer (some ⟨w7.heap.size, 0, none⟩), .slice none 0 0, .nilIface], by simp [results, Tryz.results4, go_sem, d0, d1, d2], _, rfl, b9⟩
end Go.Proofs.YtcagbggnlfeadaaGreatDoor
