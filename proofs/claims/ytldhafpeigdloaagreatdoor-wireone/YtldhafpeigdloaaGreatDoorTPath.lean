import Derived.Test.YtldhafpeigdloaaGreatDoorM15
namespace Go.Proofs.YtldhafpeigdloaaGreatDoor
open Go.RowKit Crc

theorem infoHash : (Tryz.prog.info? 33).map (fun i => (i.zero, i.size, i.bytes)) = some (some (.agg (vals (List.replicate 32 0)).toArray), 32, 32) := by kernel_rfl
theorem rdHash_K (s : RS) : (rdHash s).K = s.K := by unfold rdHash; rw [step_K]
theorem rdHash_place {s : RS} (h : s.sound → s.place = 0) : (rdHash s).sound → (rdHash s).place = 0 := RS.step_place h _ _
/-- Between two hashes. -/
structure Pb (w : World) (lim p : Nat) (s0 : RS) (k : Nat) (v : Value) (xs : List Value) (s' : RS) (wr : World) : Prop where
  rd : RdS lim wr p s'
  t : s'.K.t = s0.K.t
  len : s'.K.R.length = 49
  far : ∀ j, j ≠ 48 → s'.K.R[j]? = s0.K.R[j]?
  at5 : s'.K.R[48]? = some v
  row : wr.ownsRow w.heap.size 33 32 v k xs
  gr : w.grownBy wr (some p)
  pl : s'.sound → s'.place = 0
  one : ∀ u ∈ s'.K.R, u.oneCell' = true
theorem Pb.next {w : World} {lim p : Nat} {s0 : RS} {k : Nat} {v : Value} {xs : List Value} {s' : RS} {wr : World} (h : Pb w lim p s0 k v xs s' wr) (hp : p < w.heap.size) {w1 : World} (hr : RdS lim w1 p (rdHash s')) (hg : wr.grownBy w1 (some p)) {o2 : Obj} {w2 : World} {v' : Value} {ys : List Value} (ho : w2.ownsRow w.heap.size 33 32 v' (k + 1) ys) (hg2 : (w1.alloc o2).grownBy w2 v.ownBlock) :
    Pb w lim p s0 (k + 1) v' ys ((rdHash s').setR 48 v') (w2.setCell ⟨p, 53, none⟩ v') ∧ w2.cell? ⟨p, 53, none⟩ = some v ∧ w2.frozen? ⟨p, 53, none⟩ = false := by
  have hb : ∀ g, v.ownBlock = some g → w.heap.size ≤ g := fun g e => (h.row.lt g e).1
  have hl := h.rd.limp
  have gA := World.grownBy_alloc w1 o2 none
  have r2 : RdS lim w2 p (rdHash s') := (hr.quiet gA).kept hg2 (fun g e => ⟨Nat.le_trans hl (Nat.le_trans (Nat.le_of_lt hp) (hb g e)), fun e2 => absurd (hb g e) (by rw [e2]; exact Nat.not_le.2 hp)⟩)
  have g2 : w.grownBy w2 (some p) := by
    have h1 := grown_trans (row := some p) (grown_trans (row := some p) h.gr hg) (grown_weak gA p)
    refine ⟨hg2.os.trans h1.os, hg2.tape.trans h1.tape, hg2.output.trans h1.output, Nat.le_trans h1.size hg2.size, fun j hj hne => ?_⟩
    exact (hg2.block j (Nat.lt_of_lt_of_le hj h1.size) (fun e => absurd hj (Nat.not_lt.2 (hb j e.symm)))).trans (h1.block j hj hne)
  have hnp : v'.ownBlock = none ∨ v'.ownBlock ≠ some p := .inr (fun e => absurd (ho.lt p e).1 (Nat.not_le.2 hp))
  obtain ⟨c5, f5⟩ := r2.cellR 48
  rw [rdHash_K, h.at5] at c5
  refine ⟨⟨r2.setR 48 v', ?_, ?_, fun j hj => ?_, ?_, ho.kept (grown_set _ _ _ _) hnp, grown_trans (row := some p) g2 (grown_set _ _ _ _), setR_place (rdHash_place h.pl) 48 v', setR_one (by rw [rdHash_K]; exact h.one) 48 (row_one ho)⟩, c5, f5⟩
  · rw [setR_t, rdHash_K]; exact h.t
  · rw [setR_len, rdHash_K]; exact h.len
  · rw [setR_far _ _ _ _ hj, rdHash_K]; exact h.far j hj
  · exact setR_same _ 48 v' (by rw [rdHash_K, h.len]; omega)
theorem cells_new (W : World) (cs : List Value) (t : TypeId) : ∀ (j : Nat) (u : Value), cs[j]? = some u → (W.alloc (.cells cs.toArray t)).cell? (Addr.add ⟨W.heap.size, 0, none⟩ j) = some u := by
  intro j u hu
  have := World.cell?_alloc_new W cs.toArray t j
  have he : Addr.add ⟨W.heap.size, 0, none⟩ j = ⟨W.heap.size, j, none⟩ := by
    simp only [Addr.add]
    split <;> simp_all
  rw [he, this]
  simpa using hu

theorem list32 {cs : List Value} (h : cs.length = 32) : ∃ a0 a1 a2 a3 a4 a5 a6 a7 a8 a9 a10 a11 a12 a13 a14 a15 a16 a17 a18 a19 a20 a21 a22 a23 a24 a25 a26 a27 a28 a29 a30 a31, cs = [a0, a1, a2, a3, a4, a5, a6, a7, a8, a9, a10, a11, a12, a13, a14, a15, a16, a17, a18, a19, a20, a21, a22, a23, a24, a25, a26, a27, a28, a29, a30, a31] := by
  match cs, h with
  | [a0, a1, a2, a3, a4, a5, a6, a7, a8, a9, a10, a11, a12, a13, a14, a15, a16, a17, a18, a19, a20, a21, a22, a23, a24, a25, a26, a27, a28, a29, a30, a31], _ => exact ⟨a0, a1, a2, a3, a4, a5, a6, a7, a8, a9, a10, a11, a12, a13, a14, a15, a16, a17, a18, a19, a20, a21, a22, a23, a24, a25, a26, a27, a28, a29, a30, a31, rfl⟩
theorem build_hash {cs : List Value} (h : cs.length = 32) (w : World) : (Instr.buildSlice 34 1 #[(0, .agg cs.toArray)]).run Tryz.prog w = .ok (.slice (some ⟨w.heap.size, 0, none⟩) 1 1) (w.alloc (.cells cs.toArray 33)) := by
  obtain ⟨a0, a1, a2, a3, a4, a5, a6, a7, a8, a9, a10, a11, a12, a13, a14, a15, a16, a17, a18, a19, a20, a21, a22, a23, a24, a25, a26, a27, a28, a29, a30, a31, rfl⟩ := list32 h
  kernel_rfl
theorem exec_buildSlice {P : Program} {o : Oper} {a : Act} {w w' : World} {t : TypeId} {n : Nat} {x : Operand} {X V : Value} (ho : o.op = .buildSlice t n #[(0, x)]) (hx : a.eval x = X) (h : (Instr.buildSlice t n #[(0, X)]).run P w = .ok V w') : (execOp a.eval o).run P w = .ok (.value V) w' := by
  unfold execOp
  simp only [ho, List.map_toArray, List.map_cons, List.map_nil, hx, Sem.run_bind, h, Result.andThen_ok, Sem.run_pure]
theorem step_value {P : Program} {ops : Array Oper} {o : Oper} {a : Act} {w w' : World} {K : Act → World → Prop} {Q : Exit → Act → World → Prop} {E : Prop} {v : Value} (hgd : o.guard = none) (e : (execOp a.eval o).run P w = .ok (.value v) w') (h : K (a.put o.dst v) w') : if Region.wanted o (yielded ops a.tmps) = true then Oper.wp P o a w K Q else E := by
  have hw : Region.wanted o (yielded ops a.tmps) = true := by simp [Region.wanted, hgd]
  rw [if_pos hw]
  exact op_value e h

set_option maxRecDepth 10000 in
set_option maxHeartbeats 1600000 in
theorem fPath_any (lim p : Nat) (s : RS) (w : World) (hR : RdS lim w p s) (hK : s.K.R.length = 49) (hv : s.K.R[48]? = some (.slice none 0 0)) (hpl : s.sound → s.place = 0) (h1c : ∀ u ∈ s.K.R, u.oneCell' = true) :
    Calls Tryz.prog 117 #[.pointer (some ⟨p, 0, none⟩)] w fun e w' => e = .returned (.tuple #[]) ∧ Hid (∃ k v xs s', Pb w lim p s k v xs s' w') := by
  obtain ⟨i0, hi0, hz0, hz1, hz2⟩ := info_parts infoHash
  have hp := hR.plt
  have H2 : Hid (Calls Tryz.prog 131 #[.pointer (some ⟨p, 0, none⟩), .int .i64 6] w fun e w2 => e = .returned (.int .i64 (((countAt s.rest 6).1 : Nat) : Int)) ∧ Hid (∃ s', Pb w lim p s 0 (.slice none 0 0) [] s' w2)) := (rCount_any lim p s 6 w hR (by omega) (by omega)).mono (fun _ w2 h => ⟨h.1, s.step (countAt s.rest 6).2.1 (countAt s.rest 6).2.2, h.2.1, by rw [step_K], by rw [step_K]; exact hK, fun j _ => by rw [step_K], by rw [step_K]; exact hv, World.ownsRow_nil _ _ _ _, h.2.2, RS.step_place hpl _ _, by rw [step_K]; exact h1c⟩)
  have hn8 : (countAt s.rest 6).1 ≤ 6 := by
    have h := countAt_ok s.rest 6
    by_cases hz : (countAt s.rest 6).2.2 = 0
    · have := h.2.2.1 hz (by omega); omega
    · have := (h.2.2.2.2 hz).1; omega
  clear hR hK hv hpl h1c
  generalize (countAt s.rest 6).1 = n at *
  have HZA := hide hz0
  clear hz0
  go_enter Tryz.func117, Tryz.ntmps117
  go_wp2_with fail
  refine H2.out.mono ?_
  rintro e w2 ⟨rfl, G2⟩
  clear H2
  go_wp2
  go_loopw [6] (fun c wr => ∃ (k : Nat), k ≤ n ∧ c = .int .i64 k ∧ Hid (∃ v xs s', Pb w lim p s k v xs s' wr)) (fun c _ => n - (intOf c).toNat)
  case atStart =>
    obtain ⟨s', h⟩ := G2.out
    exact ⟨0, by omega, rfl, _, _, s', h⟩
  case round =>
    obtain ⟨k, hk, rfl, HS⟩ := hrel
    obtain ⟨v, xs, s', vb⟩ := HS.out
    have VB := hide vb
    have x1 := (vb.rd.cellR 48).1
    rw [vb.at5] at x1
    clear G2 HS vb
    by_cases hlt : k < n
    · obtain ⟨cs, hcs⟩ : ∃ cs, vals (hashB s'.rest) = cs := ⟨_, rfl⟩
      have HL : Hid (cs.length = 32 ∧ ∀ u ∈ cs, u.oneCell' = true) := by rw [← hcs]; exact ⟨by rw [vals_len, hashB_len], vals_one' _⟩
      have HRH : Hid (∀ q, Calls Tryz.prog 132 #[.pointer (some ⟨p, 0, none⟩)] (wr.drewN q) fun e w1 => e = .returned (.agg cs.toArray) ∧ w1.cell? ⟨p, 53, none⟩ = some v ∧ p < w1.heap.size ∧ Hid (RdS lim w1 p (rdHash s') ∧ wr.grownBy w1 (some p))) := fun q => by
        have h := readHash_any lim p s' (wr.drewN q) (VB.out.rd.quiet (drew_grown wr q))
        rw [hcs] at h
        refine h.mono ?_
        rintro e w1 ⟨rfl, G⟩
        have c5 := (G.out.1.cellR 48).1
        rw [rdHash_K, VB.out.at5] at c5
        exact ⟨rfl, c5, G.out.1.plt, G.out.1, grown_trans (row := some p) (grown_weak (drew_grown wr q) p) G.out.2⟩
      clear hcs
      obtain ⟨a0, a1, a2, a3, a4, a5, a6, a7, a8, a9, a10, a11, a12, a13, a14, a15, a16, a17, a18, a19, a20, a21, a22, a23, a24, a25, a26, a27, a28, a29, a30, a31, hcs⟩ := list32 HL.out.1
      subst hcs
      have HOW : Hid (∀ w1, wr.grownBy w1 (some p) → ∀ o, (w1.alloc o).ownsRow w.heap.size 33 32 v k xs) := fun w1 hg o => row_quiet (VB.out.row.kept hg (.inr (fun e => absurd (VB.out.row.lt p e).1 (Nat.not_le.2 hp)))) (World.grownBy_alloc _ _ none)
      have HSZ := hide VB.out.gr.size
      have HNX : Hid (∀ (v' : Value) (w1 w2 : World) (o2 : Obj) (ys : List Value), RdS lim w1 p (rdHash s') → wr.grownBy w1 (some p) → w2.ownsRow w.heap.size 33 32 v' (k + 1) ys → (w1.alloc o2).grownBy w2 v.ownBlock → Pb w lim p s (k + 1) v' ys ((rdHash s').setR 48 v') (w2.setCell ⟨p, 53, none⟩ v') ∧ w2.cell? ⟨p, 53, none⟩ = some v ∧ w2.frozen? ⟨p, 53, none⟩ = false) := fun v' w1 w2 o2 ys hr hg ho hg2 => VB.out.next hp hr hg ho hg2
      go_wp2_with fail
      go_region_law (first
        | (refine step_append_own rfl (.tmp 13) (.tmp 18) 34 rfl w.heap.size 33 i0 _ 32 32 Tryz.underlying34 hi0 HZA.out hz1 hz2 rfl (by decide) v k xs (by simp [Act.eval]) (HOW.out _ G1.out.2 _) ⟨w1.heap.size, 0, none⟩ 1 1 [a0, a1, a2, a3, a4, a5, a6, a7, a8, a9, a10, a11, a12, a13, a14, a15, a16, a17, a18, a19, a20, a21, a22, a23, a24, a25, a26, a27, a28, a29, a30, a31] (by simp [Act.eval]) rfl (cells_new _ _ _) HL.out.2 (by unfold maxLen; omega) (by omega) (by have := HSZ.out; have := G1.out.2.size; simp; omega) ?_; intro v' w2 ho hg; obtain ⟨g', cap', rfl⟩ := ownsRow_succ ho; have hnx := HNX.out _ _ _ _ _ G1.out.1 G1.out.2 ho hg; have NX := hide hnx.1; obtain ⟨-, z1, z2⟩ := hnx; clear ho hg)
        | (go_simp; go_wp2_with (go_at_call 132; refine (HRH.out 1).mono ?_; rintro e w1 ⟨rfl, y1, y2, G1⟩)))
      all_goals clear z1 z2 y1
      all_goals go_wp2
      all_goals exact ⟨⟨k + 1, by omega, by go_num, _, _, _, NX.out⟩, by simp [intOf]; omega⟩
    · obtain rfl : k = n := by omega
      go_wp2
      go_end0
      exact ⟨rfl, k, v, xs, s', VB.out⟩
end Go.Proofs.YtldhafpeigdloaaGreatDoor
