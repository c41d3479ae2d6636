import Derived.Test.YtldhafpeigdloaaGreatDoorTVote
import Derived.Test.YtldhafpeigdloaaGreatDoorM12
namespace Go.Proofs.YtldhafpeigdloaaGreatDoor
open Go.RowKit Crc

theorem infoVote : (Tryz.prog.info? 66).map (fun i => (i.zero, i.size, i.bytes)) = some (some (.agg #[.int .u64 0, .int .u64 0, .int .i64 0, .int .u64 0, .slice none 0 0]), 5, 56) := by kernel_rfl
theorem vS1_K (s : RS) (l : Nat) : (vS1 s l).K = s.K := by
  unfold vS1
  split
  · rw [failP_K]; exact rdBound_K _ _ _
  · exact rdBound_K _ _ _
theorem vEnd_K (s : RS) (l : Nat) : (vEnd s l).K = s.K := by unfold vEnd; rw [bEnd_K, balS_K, vS1_K]
theorem cell_vote_new (W : World) (a b c d e : Value) (t : TypeId) : ∀ (j : Nat) (u : Value), [a, b, c, d, e][j]? = some u → (W.alloc (.cells #[a, b, c, d, e] t)).cell? (Addr.add ⟨W.heap.size, 0, none⟩ j) = some u := by
  intro j u hu
  have := World.cell?_alloc_new W #[a, b, c, d, e] t j
  have he : Addr.add ⟨W.heap.size, 0, none⟩ j = ⟨W.heap.size, j, none⟩ := by
    simp only [Addr.add]
    split <;> simp_all
  rw [he, this]
  simpa using hu
theorem setR_t (s : RS) (j : Nat) (v : Value) : (s.setR j v).K.t = s.K.t := rfl
theorem setR_same (s : RS) (j : Nat) (v : Value) (h : j < s.K.R.length) : (s.setR j v).K.R[j]? = some v := by
  simp only [RS.setR]
  rw [List.getElem?_set_self h]
theorem wrap_nat (a : Nat) : ∃ z : Nat, IntKind.u64.wrap ((a : Int) + 1) = (z : Int) := by
  rw [IntKind.wrap_u64]
  exact ⟨(((a : Int) + 1) % 18446744073709551616).toNat, by omega⟩
theorem setR_place {s : RS} (h : s.sound → s.place = 0) (j : Nat) (v : Value) : (s.setR j v).sound → (s.setR j v).place = 0 := h
theorem vS1_place {s : RS} (h : s.sound → s.place = 0) (l : Nat) : (vS1 s l).sound → (vS1 s l).place = 0 := by
  unfold vS1
  split
  · exact failP_place (rdBound_place h _ _) _ _ (by decide)
  · exact rdBound_place h _ _
theorem bal_placeM {s : RS} (h : s.sound → s.place = 0) : (balS s).sound → (balS s).place = 0 := by
  have h1 : (balS1 s).sound → (balS1 s).place = 0 := rdBound_place h _ _
  have h2 : (balS2 s).sound → (balS2 s).place = 0 := RS.step_place h1 _ _
  unfold balS
  split
  · exact failP_place h2 _ _ (by decide)
  · exact h2
theorem vEnd_place {s : RS} (h : s.sound → s.place = 0) (l : Nat) : (vEnd s l).sound → (vEnd s l).place = 0 := bEnd_place (bal_placeM (vS1_place h l))
theorem row_one {base n size : Nat} {e : TypeId} {w : World} {v : Value} {xs : List Value} (h : w.ownsRow base e size v n xs) : v.oneCell' = true := by
  rcases h.2 with ⟨rfl, _⟩ | ⟨g, cap, cur, rfl, _⟩ <;> rfl
theorem setR_one {s : RS} (h : ∀ u ∈ s.K.R, u.oneCell' = true) (j : Nat) {v : Value} (hv : v.oneCell' = true) : ∀ u ∈ (s.setR j v).K.R, u.oneCell' = true := fun u hu => by
  rcases List.mem_or_eq_of_mem_set hu with h0 | rfl
  · exact h u h0
  · exact hv
/-- Between two votes. -/
structure Vb (w : World) (lim p : Nat) (s0 : RS) (k : Nat) (v : Value) (xs : List Value) (s' : RS) (wr : World) : Prop where
  rd : RdS lim wr p s'
  t : s'.K.t = s0.K.t
  len : s'.K.R.length = 49
  far : ∀ j, j ≠ 5 → s'.K.R[j]? = s0.K.R[j]?
  at5 : s'.K.R[5]? = some v
  row : wr.ownsRow w.heap.size 66 5 v k xs
  gr : w.grownBy wr (some p)
  pl : s'.sound → s'.place = 0
  one : ∀ u ∈ s'.K.R, u.oneCell' = true
theorem Vb.next {w : World} {lim p : Nat} {s0 : RS} {k : Nat} {v : Value} {xs : List Value} {s' : RS} {wr : World} (h : Vb w lim p s0 k v xs s' wr) (hp : p < w.heap.size) {l : Nat} {w1 : World} (hr : RdS lim w1 p (vEnd s' l)) (hg : wr.grownBy w1 (some p)) {o1 o2 : Obj} {w2 : World} {v' : Value} {ys : List Value} (ho : w2.ownsRow w.heap.size 66 5 v' (k + 1) ys) (hg2 : ((w1.alloc o1).drew.alloc o2).grownBy w2 v.ownBlock) :
    Vb w lim p s0 (k + 1) v' ys ((vEnd s' l).setR 5 v') (w2.setCell ⟨p, 10, none⟩ v') ∧ w2.cell? ⟨p, 10, none⟩ = some v ∧ w2.frozen? ⟨p, 10, none⟩ = false ∧ w1.heap.size < w2.heap.size := by
  have hb : ∀ g, v.ownBlock = some g → w.heap.size ≤ g := fun g e => (h.row.lt g e).1
  have hl := h.rd.limp
  have gA := grown_quiet (grown_quiet (World.grownBy_alloc w1 o1 none) (drew_grown1' _)) (World.grownBy_alloc (w1.alloc o1).drew o2 none)
  have r2 : RdS lim w2 p (vEnd s' l) := (hr.quiet gA).kept hg2 (fun g e => ⟨Nat.le_trans hl (Nat.le_trans (Nat.le_of_lt hp) (hb g e)), fun e2 => absurd (hb g e) (by rw [e2]; exact Nat.not_le.2 hp)⟩)
  have g2 : w.grownBy w2 (some p) := by
    have h1 := grown_trans (row := some p) (grown_trans (row := some p) h.gr hg) (grown_weak gA p)
    refine ⟨hg2.os.trans h1.os, hg2.tape.trans h1.tape, hg2.output.trans h1.output, Nat.le_trans h1.size hg2.size, fun j hj hne => ?_⟩
    exact (hg2.block j (Nat.lt_of_lt_of_le hj h1.size) (fun e => absurd hj (Nat.not_lt.2 (hb j e.symm)))).trans (h1.block j hj hne)
  have hnp : v'.ownBlock = none ∨ v'.ownBlock ≠ some p := .inr (fun e => absurd (ho.lt p e).1 (Nat.not_le.2 hp))
  obtain ⟨c5, f5⟩ := r2.cellR 5
  rw [vEnd_K, h.at5] at c5
  have hs2 : w1.heap.size < w2.heap.size := by have := hg2.size; simp at this; omega
  refine ⟨⟨r2.setR 5 v', ?_, ?_, fun j hj => ?_, ?_, ho.kept (grown_set _ _ _ _) hnp, grown_trans (row := some p) g2 (grown_set _ _ _ _), setR_place (vEnd_place h.pl l) 5 v', setR_one (by rw [vEnd_K]; exact h.one) 5 (row_one ho)⟩, c5, f5, hs2⟩
  · rw [setR_t, vEnd_K]; exact h.t
  · rw [setR_len, vEnd_K]; exact h.len
  · rw [setR_far _ _ _ _ hj, vEnd_K]; exact h.far j hj
  · exact setR_same _ 5 v' (by rw [vEnd_K, h.len]; omega)

set_option maxRecDepth 10000 in
set_option maxHeartbeats 1600000 in
theorem fVotes_any (lim p : Nat) (s : RS) (w : World) (hR : RdS lim w p s) (hK : s.K.R.length = 49) (i : Nat) (hi : s.K.R[4]? = some (.int .u64 (i : Int))) (hv : s.K.R[5]? = some (.slice none 0 0)) (hpl : s.sound → s.place = 0) (h1c : ∀ u ∈ s.K.R, u.oneCell' = true) :
    Calls Tryz.prog 125 #[.pointer (some ⟨p, 0, none⟩)] w fun e w' => e = .returned (.tuple #[]) ∧ Hid (∃ k v xs s', Vb w lim p s k v xs s' w') := by
  obtain ⟨i0, hi0, hz0, hz1, hz2⟩ := info_parts infoVote
  have hp := hR.plt
  have H2 : Hid (Calls Tryz.prog 131 #[.pointer (some ⟨p, 0, none⟩), .int .i64 8] w fun e w2 => e = .returned (.int .i64 (((countAt s.rest 8).1 : Nat) : Int)) ∧ Hid (∃ s', Vb w lim p s 0 (.slice none 0 0) [] s' w2)) := (rCount_any lim p s 8 w hR (by omega) (by omega)).mono (fun _ w2 h => ⟨h.1, s.step (countAt s.rest 8).2.1 (countAt s.rest 8).2.2, h.2.1, by rw [step_K], by rw [step_K]; exact hK, fun j _ => by rw [step_K], by rw [step_K]; exact hv, World.ownsRow_nil _ _ _ _, h.2.2, RS.step_place hpl _ _, by rw [step_K]; exact h1c⟩)
  have hn8 : (countAt s.rest 8).1 ≤ 8 := by
    have h := countAt_ok s.rest 8
    by_cases hz : (countAt s.rest 8).2.2 = 0
    · have := h.2.2.1 hz (by omega); omega
    · have := (h.2.2.2.2 hz).1; omega
  obtain ⟨c4, f4⟩ := hR.cellR 4
  rw [hi] at c4
  clear hR hK hi hv hpl h1c
  generalize (countAt s.rest 8).1 = n at *
  go_enter Tryz.func125, Tryz.ntmps125
  go_wp2_with fail
  refine H2.out.mono ?_
  rintro e w2 ⟨rfl, G2⟩
  clear H2 c4 f4
  go_wp2
  go_loopw [2, 13] (fun x c wr => ∃ (z k : Nat), k ≤ n ∧ x = .int .u64 (z : Int) ∧ c = .int .i64 k ∧ Hid (∃ v xs s', Vb w lim p s k v xs s' wr)) (fun _ c _ => n - (intOf c).toNat)
  case atStart =>
    obtain ⟨s', h⟩ := G2.out
    exact ⟨i, 0, by omega, rfl, rfl, _, _, s', h⟩
  case round =>
    obtain ⟨z, k, hk, rfl, rfl, HS⟩ := hrel
    obtain ⟨v, xs, s', vb⟩ := HS.out
    have VB := hide vb
    clear G2 HS vb
    by_cases hlt : k < n
    · have HRV : Hid (Calls Tryz.prog 135 #[.pointer (some ⟨p, 0, none⟩), .int .u64 (z : Int)] wr fun e w1 => ∃ (a b : Nat) (c : Nat) (d : Nat) (vo : Option Addr) (m vc : Nat), e = .returned (.agg #[.int .u64 (a : Int), .int .u64 (b : Int), .int .i64 (c : Int), .int .u64 (d : Int), .slice vo m vc]) ∧ w1.cell? ⟨p, 10, none⟩ = some v ∧ p < w1.heap.size ∧ Hid (RdS lim w1 p (vEnd s' z) ∧ wr.grownBy w1 (some p))) := by
        refine (readVote_any lim p s' z wr VB.out.rd).mono ?_
        rintro e w1 ⟨v1, rs1, rfl, G⟩
        obtain ⟨g1, g2, g3, g4, g5⟩ := G.out
        obtain ⟨vo, vc, b1, rfl, _⟩ := g1.form
        have c5 := (g4.cellR 5).1
        rw [vEnd_K, VB.out.at5] at c5
        exact ⟨_, _, _, _, vo, _, vc, rfl, c5, g4.plt, g4, g5⟩
      go_wp2_with fail
      refine HRV.out.mono ?_
      rintro e w1 ⟨a, b, c, d, vo, m, vc, rfl, y1, y2, G1⟩
      clear HRV
      have HOW : Hid (∀ o1 o2, ((w1.alloc o1).drew.alloc o2).ownsRow w.heap.size 66 5 v k xs) := fun o1 o2 => row_quiet (row_quiet (VB.out.row.kept G1.out.2 (.inr (fun e => absurd (VB.out.row.lt p e).1 (Nat.not_le.2 hp)))) (grown_quiet (World.grownBy_alloc w1 o1 none) (drew_grown1' _))) (World.grownBy_alloc _ o2 none)
      have HSZ : Hid (w.heap.size ≤ w1.heap.size) := Nat.le_trans VB.out.gr.size G1.out.2.size
      have HNEW : Hid (∀ (o1 : Obj) (a b c d e : Value) (t : TypeId) (j : Nat) (u : Value), [a, b, c, d, e][j]? = some u → ((w1.alloc o1).drew.alloc (.cells #[a, b, c, d, e] t)).cell? (Addr.add ⟨w1.heap.size + 1, 0, none⟩ j) = some u) := fun o1 a b c d e t j u hu => by
        have h := cell_vote_new (w1.alloc o1).drew a b c d e t j u hu
        rw [show (w1.alloc o1).drew.heap.size = w1.heap.size + 1 by simp] at h
        exact h
      have HNX : Hid (∀ (v' : Value) (w2 : World) (o1 o2 : Obj) (ys : List Value), w2.ownsRow w.heap.size 66 5 v' (k + 1) ys → ((w1.alloc o1).drew.alloc o2).grownBy w2 v.ownBlock → Vb w lim p s (k + 1) v' ys ((vEnd s' z).setR 5 v') (w2.setCell ⟨p, 10, none⟩ v') ∧ w2.cell? ⟨p, 10, none⟩ = some v ∧ w2.frozen? ⟨p, 10, none⟩ = false ∧ w1.heap.size < w2.heap.size) := fun v' w2 o1 o2 ys ho hg => VB.out.next hp G1.out.1 G1.out.2 ho (o1 := o1) (o2 := o2) hg
      have HCX : Hid (∀ (v' : Value) (w2 : World) (a b c d e : Value) (o2 : Obj), ((w1.alloc (.cells #[a, b, c, d, e] 66)).drew.alloc o2).grownBy w2 v.ownBlock → (w2.setCell ⟨p, 10, none⟩ v').cell? ⟨w1.heap.size, 0, none⟩ = some a) := fun v' w2 a b c d e o2 hg => by
        have h1 : ((w1.alloc (.cells #[a, b, c, d, e] 66)).drew.alloc o2).heap[w1.heap.size]? = some (.cells #[a, b, c, d, e] 66 (0, 0)) := ((World.grownBy_alloc (w1.alloc (.cells #[a, b, c, d, e] 66)).drew o2 none).block _ (by simp) (by simp)).trans (alloc_at w1 _)
        have h2 := (hg.block _ (block_lt h1) (fun e2 => absurd (VB.out.row.lt _ e2.symm).2 (Nat.not_lt.2 G1.out.2.size))).trans h1
        have h3 := ((grown_set w2 p 10 v').block _ (block_lt h2) (by simp; omega)).trans h2
        have h4 := block_cell h3 0
        simpa using h4
      go_upto_region 4 with fail
      go_region_law (refine step_append_own rfl (.tmp 25) (.tmp 27) 26 rfl w.heap.size 66 i0 (.agg #[.int .u64 0, .int .u64 0, .int .i64 0, .int .u64 0, .slice none 0 0]) 5 56 Tryz.underlying26 hi0 hz0 hz1 hz2 rfl (by decide) v k xs (by simp [Act.eval]) (HOW.out _ _) ⟨w1.heap.size + 1, 0, none⟩ 1 1 [.int .u64 (a : Int), .int .u64 (b : Int), .int .i64 (c : Int), .int .u64 (d : Int), .slice vo m vc] (by simp [Act.eval]) rfl (HNEW.out _ _ _ _ _ _ _) (by simp [Value.oneCell']) (by unfold maxLen; omega) (by omega) (by have := HSZ.out; simp; omega) ?_; intro v' w2 ho hg; obtain ⟨g', cap', rfl⟩ := ownsRow_succ ho; have hnx := HNX.out _ _ _ _ _ ho hg; have NX := hide hnx; obtain ⟨-, z1, z2, z3⟩ := hnx; have hcx := HCX.out (.slice (some ⟨g', 0, none⟩) (k + 1) cap') _ _ _ _ _ _ _ hg; clear ho hg)
      all_goals clear z1 z2 y1
      all_goals go_wp2
      all_goals
        obtain ⟨z', hz'⟩ := wrap_nat a
        exact ⟨⟨z', k + 1, by omega, by rw [hz'], by go_num, _, _, _, NX.out.1⟩, by simp [intOf]; omega⟩
    · obtain rfl : k = n := by omega
      go_wp2
      go_end0
      exact ⟨rfl, k, v, xs, s', VB.out⟩
end Go.Proofs.YtldhafpeigdloaaGreatDoor
namespace Go.Proofs.YtldhafpeigdloaaGreatDoor
open Go.RowKit Crc

/-- A reader's state, whatever lies behind it. -/
def RS.un (s : RS) : RS := { s with K := KR }
theorem un_setR (s : RS) (j : Nat) (v : Value) : (s.setR j v).un = s.un := rfl
theorem un_sound (s : RS) : s.un.sound ↔ s.sound := Iff.rfl
theorem un_step (s : RS) (z : Nat) (y : Int) : (s.step z y).un = s.un.step z y := by
  unfold RS.step
  by_cases h : s.sound
  · rw [if_pos h, if_pos (show s.un.sound from h)]
    split <;> rfl
  · rw [if_neg h, if_neg (show ¬ s.un.sound from h)]
theorem un_failP (s : RS) (a y : Int) : (s.failP a y).un = s.un.failP a y := by
  unfold RS.failP
  by_cases h : s.sound
  · rw [if_pos h, if_pos (show s.un.sound from h)]; rfl
  · rw [if_neg h, if_neg (show ¬ s.un.sound from h)]
theorem un_rdBound (s : RS) (a b : Nat) : (rdBound s a b).un = rdBound s.un a b := by
  unfold rdBound
  show (if bndY (numAt s.rest).1 a b = 0 then rdNum s else (rdNum s).failP s.pos 29).un = if bndY (numAt s.rest).1 a b = 0 then rdNum s.un else (rdNum s.un).failP s.pos 29
  split
  · exact un_step _ _ _
  · rw [un_failP]; unfold rdNum; rw [un_step]; rfl
theorem un_balS (s : RS) : (balS s).un = balS s.un ∧ nodeV s.un = nodeV s := by
  have h1 : (balS1 s).un = balS1 s.un := un_rdBound _ _ _
  have h2 : nodeV s.un = nodeV s := by unfold nodeV; rw [← h1]; rfl
  have h3 : (balS2 s).un = balS2 s.un := by unfold balS2; rw [un_step, ← h1]; rfl
  refine ⟨?_, h2⟩
  unfold balS
  rw [h2]
  split
  · rw [un_failP, h3, ← h1]; rfl
  · exact h3
theorem un_rq (s : RS) : (rqS3 s).un = rqS3 s.un ∧ rqV s.un = rqV s := by
  have h1 : (rqS1 s).un = rqS1 s.un := un_rdBound _ _ _
  have h2 : (rqS2 s).un = rqS2 s.un := by unfold rqS2 rdNum; rw [un_step, ← h1]; rfl
  refine ⟨?_, ?_⟩
  · unfold rqS3; rw [un_step, ← h2]; rfl
  · unfold rqV; rw [← h2, ← h1]; rfl
theorem un_rdGo : ∀ (n : Nat) (s : RS), (rdGo n s).2.un = (rdGo n s.un).2 ∧ (rdGo n s.un).1 = (rdGo n s).1
  | 0, s => ⟨rfl, rfl⟩
  | n + 1, s => by
    obtain ⟨h1, h2⟩ := un_rq s
    obtain ⟨h3, h4⟩ := un_rdGo n (rqS3 s)
    rw [rdGo, rdGo, ← h1, h2]
    exact ⟨h3, by rw [h4]⟩
theorem un_batch (s : RS) : (bEnd s).un = bEnd s.un ∧ bVals s.un = bVals s := by
  have h1 : (bS1 s).un = bS1 s.un := un_rdBound _ _ _
  have h2 : bN s.un = bN s := by unfold bN; rw [← h1]; rfl
  have h3 : (bS2 s).un = bS2 s.un := by unfold bS2; rw [un_step, ← h1]; rfl
  obtain ⟨h4, h5⟩ := un_rdGo (bN s) (bS2 s)
  unfold bEnd bVals
  rw [h2, ← h3]
  exact ⟨h4, h5⟩
theorem un_rest (s : RS) : s.un.rest = s.rest := rfl
theorem setR_K (s : RS) (j : Nat) (v : Value) : (s.setR j v).K = ⟨s.K.t, s.K.R.set j v⟩ := rfl
end Go.Proofs.YtldhafpeigdloaaGreatDoor
