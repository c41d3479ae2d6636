import Derived.Test.YtlnfkooimpmahaaGreatM31
namespace Go.Proofs.YtlnfkooimpmahaaGreat
open Go.RowKit Crc

/-- A ballot that the reference reads. -/
def rbS1 (s : RS) : RS := upS s 1099511627776
def rbN (s : RS) : Nat := hi (aheadV (rbS1 s).rest 1)
def rbS2 (s : RS) : RS := (rbS1 s).step 1 (aheadW (rbS1 s).rest 1)
def rbS (s : RS) : RS := if (rbS2 s).sound ∧ 6 < rbN s then (rbS2 s).failR (rbS1 s).pos else rbS2 s

theorem refS_lt {d p : Nat} {s : RS} {w : World} (h : RefS d w p s) : ∀ x ∈ s.rest, x < 256 := by
  obtain ⟨ao, cap, hb, h1, h2, h3, h4, h5, h6, h7⟩ := h
  intro x hx
  unfold RS.rest restB at hx
  split at hx
  · exact h3 x (List.mem_of_mem_drop hx)
  · cases hx
theorem fin_rbal {d p : Nat} {w w3 : World} {s : RS} (hp : p < w.heap.size) (hd : d < w.heap.size) (hR : RefS d w3 p s) (hg : w.grownBy w3 (some p)) (x y : Value) :
    RefS d ((w3.setCell ⟨w.heap.size, 0, none⟩ x).setCell ⟨w.heap.size, 1, none⟩ y) p s ∧ w.grownBy ((w3.setCell ⟨w.heap.size, 0, none⟩ x).setCell ⟨w.heap.size, 1, none⟩ y) (some p) := by
  have hr : some w.heap.size ≠ some p := by simp; omega
  have hr2 : some w.heap.size ≠ some d := by simp; omega
  refine ⟨(hR.kept (grown_set w3 w.heap.size 0 x) hr hr2).kept (grown_set _ w.heap.size 1 y) hr hr2, hg.os, hg.tape, hg.output, by simpa using hg.size, fun k hk hne => ?_⟩
  have hsz := hg.size
  have e1 := (grown_set w3 w.heap.size 0 x).block k (by omega) (by simp; omega)
  have e2 := (grown_set (w3.setCell ⟨w.heap.size, 0, none⟩ x) w.heap.size 1 y).block k (by simp; omega) (by simp; omega)
  exact e2.trans (e1.trans (hg.block k hk hne))

set_option maxRecDepth 10000 in
set_option maxHeartbeats 1600000 in
theorem refBallot_any (d p : Nat) (s : RS) (w : World) (hR : RefS d w p s) (hdl : d < w.heap.size) :
    Calls Tryz.prog 50 #[.pointer (some ⟨p, 0, none⟩)] w fun e w' => e = .returned (.agg #[.int .u64 (upV s 1099511627776 : Nat), .int .i64 ((rbN s : Nat) : Int)]) ∧ Hid (RefS d w' p (rbS s) ∧ w.grownBy w' (some p)) := by
  have hp := refS_size hR
  have hA := World.grownBy_alloc w (.cells #[.int .u64 0, .int .i64 0] 25)
  have H1 : Hid (Calls Tryz.prog 51 #[.pointer (some ⟨p, 0, none⟩), .int .u64 1099511627776] (w.alloc (.cells #[.int .u64 0, .int .i64 0] 25)) fun e w1 => e = .returned (.int .u64 (upV s 1099511627776 : Nat)) ∧ Hid (RefS d w1 p (rbS1 s) ∧ (w.alloc (.cells #[.int .u64 0, .int .i64 0] 25)).grownBy w1 (some p))) := upTo_any d p s 1099511627776 _ (hR.kept (hA none) (by simp) (by simp))
  have HC : Hid (∀ w1, RefS d w1 p (rbS1 s) → w1.cell? ⟨p, 2, none⟩ = some (.int .i64 ((rbS1 s).pos : Int))) := by
    intro w1 h
    obtain ⟨ao, cap, hb, -⟩ := h
    have c2 := block_cell hb 2
    simpa using c2
  have H3 : Hid (∀ w1, RefS d w1 p (rbS1 s) → Calls Tryz.prog 48 #[.pointer (some ⟨p, 0, none⟩), .int .i64 1] w1 fun e w2 => e = .returned (.int .u64 ((rbN s : Nat) : Int)) ∧ Hid (RefS d w2 p (rbS2 s) ∧ w1.grownBy w2 (some p))) := fun w1 h => (refFixed_any d p (rbS1 s) 1 1 w1 rfl (by decide) (by decide) h).mono (fun _ _ h => ⟨h.1, h.2⟩)
  have hBB : (rbS2 s).B = (rbS1 s).B := RS.step_B _ _ _
  have H4 : Hid (∀ w2, RefS d w2 p (rbS1 s) → ∀ w2, RefS d w2 p (rbS2 s) → Calls Tryz.prog 65 #[.pointer (some ⟨p, 0, none⟩), .int .i64 29, .int .i64 ((rbS1 s).pos : Int)] w2 fun e w3 => e = .returned (.tuple #[]) ∧ Hid (RefS d w3 p ((rbS2 s).failR (rbS1 s).pos) ∧ w2.grownBy w3 (some p))) := fun w1 h1 w2 h => (refFail_any d p (rbS2 s) 29 (rbS1 s).pos w2 h (by rw [hBB]; exact h1.posle)).mono (fun _ _ h => ⟨h.1, h.2⟩)
  have HK : Hid (∀ w3, (w.alloc (.cells #[.int .u64 0, .int .i64 0] 25)).grownBy w3 (some p) → w3.heap[w.heap.size]? = some (.cells #[.int .u64 0, .int .i64 0] 25 (0, 0)) ∧ w.grownBy w3 (some p)) := by
    intro w3 g
    have hs : (w.alloc (.cells #[.int .u64 0, .int .i64 0] 25)).heap.size = w.heap.size + 1 := by simp
    exact ⟨(g.block _ (by rw [hs]; omega) (by simp; omega)).trans (alloc_at _ _), grown_trans (row := some p) (hA (some p)) g⟩
  have HN : Hid (∀ w1, RefS d w1 p (rbS1 s) → rbN s < 256) := fun w1 h => hi_take_lt (k := 1) (refS_lt h)
  have HDS : Hid ((rbS2 s).sound → ∀ w1, RefS d w1 p (rbS2 s) → Calls Tryz.prog 49 #[.pointer (some ⟨p, 0, none⟩)] w1 fun e w2 => e = .returned (.bool false) ∧ w2 = w1) := fun hs w1 h => dead_sound d p _ w1 h hs
  have HDN : Hid (¬ (rbS2 s).sound → ∀ w1, RefS d w1 p (rbS2 s) → Calls Tryz.prog 49 #[.pointer (some ⟨p, 0, none⟩)] w1 fun e w2 => e = .returned (.bool true) ∧ w2 = w1) := fun hs w1 h => dead_not d p _ w1 h hs
  clear hR hA hBB
  have HBS : Hid (rbS s = if (rbS2 s).sound ∧ 6 < rbN s then (rbS2 s).failR (rbS1 s).pos else rbS2 s) := rfl
  generalize rbS s = t at *
  generalize rbN s = nd at *
  generalize upV s 1099511627776 = nm at *
  generalize (rbS1 s).pos = ps at *
  by_cases hs : (rbS2 s).sound
  · have HS := hide hs
    by_cases h6 : 6 < nd
    · have HE := HBS.out
      rw [if_pos ⟨hs, h6⟩] at HE
      subst HE
      have hd : decide ((nd : Int) > 6) = true := by simp; omega
      clear hs
      go_enter Tryz.func50, Tryz.ntmps50
      go_wp2_with fail
      refine H1.out.mono ?_
      rintro e w1 ⟨rfl, G1⟩
      have hn := HN.out w1 G1.out.1
      have hc := HC.out w1 G1.out.1
      go_wp2_with fail
      refine (H3.out _ G1.out.1).mono ?_
      rintro e w2 ⟨rfl, G2⟩
      clear hc
      go_wp2_with fail
      refine (HDS.out HS.out _ G2.out.1).mono ?_
      rintro e w2' ⟨rfl, rfl⟩
      go_wp2_with fail
      refine (H4.out _ G1.out.1 _ G2.out.1).mono ?_
      rintro e w3 ⟨rfl, G3⟩
      obtain ⟨hb, hg⟩ := HK.out w3 (grown_trans (row := some p) (grown_trans (row := some p) G1.out.2 G2.out.2) G3.out.2)
      have c0 := block_cell hb 0
      have c1 := block_cell hb 1
      have f0 := block_free hb 0
      have f1 := block_free hb 1
      simp at c0 c1
      have HG := hide hg
      have hlt := block_lt hb
      clear hb hg
      go_wp2
      refine bodyPost_ret (v := .agg #[.int .u64 (nm : Int), .int .i64 (nd : Int)]) (by simp [results, Tryz.results50, go_sem, c0, c1]) rfl ⟨rfl, ?_⟩
      exact fin_rbal hp hdl G3.out.1 HG.out _ _
    · have HE := HBS.out
      rw [if_neg (fun h => h6 h.2)] at HE
      subst HE
      have hd : decide ((nd : Int) > 6) = false := by simp; omega
      clear hs
      go_enter Tryz.func50, Tryz.ntmps50
      go_wp2_with fail
      refine H1.out.mono ?_
      rintro e w1 ⟨rfl, G1⟩
      have hn := HN.out w1 G1.out.1
      have hc := HC.out w1 G1.out.1
      go_wp2_with fail
      refine (H3.out _ G1.out.1).mono ?_
      rintro e w2 ⟨rfl, G2⟩
      clear hc
      go_wp2_with fail
      refine (HDS.out HS.out _ G2.out.1).mono ?_
      rintro e w2' ⟨rfl, rfl⟩
      obtain ⟨hb, hg⟩ := HK.out _ (grown_trans (row := some p) G1.out.2 G2.out.2)
      have c0 := block_cell hb 0
      have c1 := block_cell hb 1
      have f0 := block_free hb 0
      have f1 := block_free hb 1
      simp at c0 c1
      have HG := hide hg
      have hlt := block_lt hb
      clear hb hg
      go_wp2
      refine bodyPost_ret (v := .agg #[.int .u64 (nm : Int), .int .i64 (nd : Int)]) (by simp [results, Tryz.results50, go_sem, c0, c1]) rfl ⟨rfl, ?_⟩
      exact fin_rbal hp hdl G2.out.1 HG.out _ _
  · have HS := hide hs
    have HE := HBS.out
    rw [if_neg (fun h => hs h.1)] at HE
    subst HE
    clear hs
    go_enter Tryz.func50, Tryz.ntmps50
    go_wp2_with fail
    refine H1.out.mono ?_
    rintro e w1 ⟨rfl, G1⟩
    have hn := HN.out w1 G1.out.1
    have hc := HC.out w1 G1.out.1
    go_wp2_with fail
    refine (H3.out _ G1.out.1).mono ?_
    rintro e w2 ⟨rfl, G2⟩
    clear hc
    go_wp2_with fail
    refine (HDN.out HS.out _ G2.out.1).mono ?_
    rintro e w2' ⟨rfl, rfl⟩
    obtain ⟨hb, hg⟩ := HK.out _ (grown_trans (row := some p) G1.out.2 G2.out.2)
    have c0 := block_cell hb 0
    have c1 := block_cell hb 1
    have f0 := block_free hb 0
    have f1 := block_free hb 1
    simp at c0 c1
    have HG := hide hg
    have hlt := block_lt hb
    clear hb hg
    go_wp2
    refine bodyPost_ret (v := .agg #[.int .u64 (nm : Int), .int .i64 (nd : Int)]) (by simp [results, Tryz.results50, go_sem, c0, c1]) rfl ⟨rfl, ?_⟩
    exact fin_rbal hp hdl G2.out.1 HG.out _ _

/-- Both read one ballot. -/
theorem upS_dead {s : RS} (h : ¬ s.sound) (m : Nat) : upS s m = s := by
  unfold upS
  rw [rdNum_dead h, if_neg (fun g => h g.1)]
theorem rbS_dead {s : RS} (h : ¬ s.sound) : rbS s = s := by
  have h1 : rbS1 s = s := upS_dead h _
  have h2 : rbS2 s = s := by unfold rbS2; rw [h1]; exact step_dead h _ _
  unfold rbS
  rw [h2, if_neg (fun g => h g.1)]
theorem upV_sound {s : RS} {m : Nat} (h : (upS s m).sound) : upV s m = (numAt s.rest).1 := by
  unfold upV
  by_cases hc : (rdNum s).sound ∧ m < (numAt s.rest).1
  · exfalso
    unfold upS at h
    rw [if_pos hc] at h
    exact absurd h.2 (by simp [RS.failR])
  · rw [if_neg hc]
theorem bal_sim {s : RS} (hs : s.sound) : Sim (balS s) (rbS s) ∧ ((balS s).sound → upV s 1099511627776 = (numAt s.rest).1 ∧ rbN s = nodeV s) := by
  have h1 : Sim (balS1 s) (rbS1 s) := bS1_sim hs
  rcases h1 with h1 | ⟨h1, h2, h3⟩
  · have e1 : rbN s = nodeV s := by unfold rbN nodeV; rw [h1]
    have e2 : rbS2 s = balS2 s := by unfold rbS2 balS2; rw [h1]
    have hv : (balS s).sound → upV s 1099511627776 = (numAt s.rest).1 := by
      intro h
      refine upV_sound ?_
      show (rbS1 s).sound
      rw [← h1]
      refine Classical.byContradiction (fun hn => ?_)
      have g2 : balS2 s = balS1 s := step_dead hn _ _
      unfold balS at h
      rw [g2, failP_dead hn] at h
      split at h <;> exact hn h
    refine ⟨?_, fun h => ⟨hv h, e1⟩⟩
    unfold balS rbS
    rw [e1, e2, h1]
    by_cases h6 : 6 < nodeV s
    · rw [if_pos h6]
      by_cases hs2 : (balS2 s).sound
      · rw [if_pos ⟨hs2, h6⟩]
        exact fail_sim hs2 _
      · rw [if_neg (fun g => hs2 g.1), failP_dead hs2]
        exact .inl rfl
    · rw [if_neg h6, if_neg (fun g => h6 g.2)]
      exact .inl rfl
  · have a2 : balS2 s = balS1 s := step_dead h1 _ _
    have b2 : rbS2 s = rbS1 s := step_dead h2 _ _
    have ea : balS s = balS1 s := by
      unfold balS
      rw [a2, failP_dead h1]
      split <;> rfl
    have eb : rbS s = rbS1 s := by
      unfold rbS
      rw [b2, if_neg (fun g => h2 g.1)]
    rw [ea, eb]
    exact ⟨.inr ⟨h1, h2, h3⟩, fun h => absurd h h1⟩
end Go.Proofs.YtlnfkooimpmahaaGreat
namespace Go.Proofs.YtlnfkooimpmahaaGreat
open Go.RowKit Crc

/-- The reference's reading of a field. -/
def Fd.nxtR : Fd → RS → RS
  | .ballot, s => rbS s
  | .slot, s => upS s 1099511627776
  | .batch, s => cEnd s
  | .snap, s => s.step (blobAt s.rest 40000).2.1 (blobAt s.rest 40000).2.2
def Fd.updR : Fd → RS → Rv → Rv
  | .ballot, s, v => { v with num := upV s 1099511627776, node := rbN s }
  | .slot, s, v => { v with slot := upV s 1099511627776 }
  | .batch, s, v => { v with stamp := upV s 1099511627776, V := cVals s }
  | .snap, s, v => { v with D := (blobAt s.rest 40000).1 }
def frunR : List Fd → RS → Rv → RS × Rv
  | [], s, v => (s, v)
  | f :: t, s, v => frunR t (f.nxtR s) (f.updR s v)
theorem cEnd_dead {s : RS} (h : ¬ s.sound) : cEnd s = s := by
  have h1 : cS2 s = s := by unfold cS2; rw [upS_dead h]; exact step_dead h _ _
  unfold cEnd
  rw [h1, rrGo_dead _ _ h]
theorem nxtR_dead (f : Fd) {s : RS} (h : ¬ s.sound) : f.nxtR s = s := by
  cases f with
  | ballot => exact rbS_dead h
  | slot => exact upS_dead h _
  | batch => exact cEnd_dead h
  | snap => exact step_dead h _ _
theorem frunR_dead : ∀ (fs : List Fd) {s : RS} (v : Rv), ¬ s.sound → (frunR fs s v).1 = s
  | [], _, _, _ => rfl
  | f :: t, s, v, h => by
    rw [frunR, nxtR_dead f h]
    exact frunR_dead t _ h
theorem sim_not {s t : RS} (h : Sim s t) (hn : ¬ s.sound) : ¬ t.sound := by
  rcases h with rfl | ⟨_, h2, _⟩
  · exact hn
  · exact h2
theorem sim_eq {s t : RS} (h : Sim s t) (hs : s.sound) : s = t := by
  rcases h with h | ⟨h1, _⟩
  · exact h
  · exact absurd hs h1
theorem nxt_sim (f : Fd) {s : RS} (hs : s.sound) (v : Rv) : Sim (f.nxt s) (f.nxtR s) ∧ ((f.nxt s).sound → f.upd s v = f.updR s v) := by
  cases f with
  | ballot =>
    obtain ⟨h1, h2⟩ := bal_sim hs
    refine ⟨h1, fun h => ?_⟩
    obtain ⟨e1, e2⟩ := h2 h
    show Rv.mk _ _ _ _ _ _ = Rv.mk _ _ _ _ _ _
    rw [e1, e2]
  | slot =>
    have h1 : Sim (Fd.slot.nxt s) (Fd.slot.nxtR s) := bS1_sim hs
    refine ⟨h1, fun h => ?_⟩
    have e : (upS s 1099511627776).sound := by
      have := sim_eq h1 h
      rw [this] at h
      exact h
    show Rv.mk _ _ _ _ _ _ = Rv.mk _ _ _ _ _ _
    rw [upV_sound e]
  | batch =>
    obtain ⟨h1, h2⟩ := batch_key hs
    refine ⟨h1, fun h => ?_⟩
    obtain ⟨e1, e2⟩ := h2 h
    show Rv.mk _ _ _ _ _ _ = Rv.mk _ _ _ _ _ _
    rw [e1, e2]
  | snap => exact ⟨.inl rfl, fun _ => rfl⟩
theorem frun_sim : ∀ (fs : List Fd) (s : RS) (v : Rv), Sim (frun fs s v).1 (frunR fs s v).1 ∧ ((frun fs s v).1.sound → (frun fs s v).2 = (frunR fs s v).2)
  | [], s, v => ⟨.inl rfl, fun _ => rfl⟩
  | f :: t, s, v => by
    by_cases hs : s.sound
    · obtain ⟨h1, h2⟩ := nxt_sim f hs v
      rw [frun, frunR]
      by_cases hn : (f.nxt s).sound
      · rw [← sim_eq h1 hn, ← h2 hn]
        exact frun_sim t _ _
      · rw [frun_dead t _ hn, frunR_dead t _ (sim_not h1 hn)]
        exact ⟨h1, fun h => absurd h hn⟩
    · rw [frun_dead _ _ hs, frunR_dead _ _ hs]
      exact ⟨.inl rfl, fun h => absurd h hs⟩
theorem endA_zero {s : RS} (h : s.endC = 0) : s.endA = 0 := by
  have hs := endC_sound h
  unfold RS.endC at h
  unfold RS.endA
  rw [if_pos hs] at h ⊢
  split
  · rename_i h1
    rw [if_pos h1] at h
    cases h
  · rfl
theorem rec_ref {B : List Nat} (hs : (rs1 B).sound) (hf : fsOf (rk B) ≠ []) :
    (frunR (fsOf (rk B)) (rs1 B) rv0).1.endC = recC B ∧ (frunR (fsOf (rk B)) (rs1 B) rv0).1.endA = recA B ∧ (recC B = 0 → (frunR (fsOf (rk B)) (rs1 B) rv0).2 = recV B ∧ recK B = rk B ∧ recA B = 0) := by
  obtain ⟨e1, e2⟩ := rec_read hs hf
  obtain ⟨h1, h2⟩ := frun_sim (fsOf (rk B)) (rs1 B) rv0
  have he := sim_end h1
  refine ⟨?_, ?_, fun hz => ?_⟩
  · rw [e1, ← he.1]; rfl
  · rw [e2, ← he.2]; rfl
  · obtain ⟨e3, e4⟩ := rv_taken hz
    rw [e1] at hz
    exact ⟨by rw [e3]; exact (h2 (endC_sound hz)).symm, e4, by rw [e2]; exact endA_zero hz⟩
theorem rec_ref_short {B : List Nat} (hs : ¬ (rs1 B).sound) : (rs1 B).endC = recC B ∧ (rs1 B).endA = recA B ∧ recC B ≠ 0 ∧ rk B = 0 := by
  obtain ⟨e1, e2⟩ := rec_short hs
  refine ⟨?_, ?_, ?_, ?_⟩
  · rw [e1]; unfold RS.endC; rw [if_neg hs]
  · rw [e2]; unfold RS.endA; rw [if_neg hs]
  · rw [e1]; exact errC_not hs
  · unfold rk aheadV
    by_cases h : (RS1 B).rest.length < 1
    · rw [if_pos h]; rfl
    · exfalso
      apply hs
      unfold rs1 aheadW
      rw [if_neg h]
      exact RS.sound_ok ⟨rfl, rfl⟩ 1
end Go.Proofs.YtlnfkooimpmahaaGreat
namespace Go.Proofs.YtlnfkooimpmahaaGreat
open Go.RowKit Crc

/-- The reference's record in the midst of its reading. -/
structure Rf (w0 : World) (n0 d p V k : Nat) (s : RS) (c : Mc) (W : World) : Prop where
  rd : RefS d W p s
  bel : Below n0 w0 W
  box : W.heap[V]? = some (.cells #[.int .i64 (k : Int), .int .u64 (c.num : Int), .int .i64 (c.node : Int), .int .u64 (c.slot : Int), .int .u64 (c.stamp : Int), c.bv, c.dv] 31 (0, 0))
  own : OwnRs (V + 1) W c.bv c.rs
  free : FreeRs (V + 1) W c.rs
  dat : Owns (V + 1) W c.dv c.D
  hp : p < V
  hd : d < V
  hn : n0 ≤ p
theorem Rf.lt {w0 : World} {n0 d p V k : Nat} {s : RS} {c : Mc} {W : World} (h : Rf w0 n0 d p V k s c W) : n0 ≤ W.heap.size := by
  have := h.hn; have := h.hp; have := block_lt h.box; omega
theorem Rf.call {w0 : World} {n0 d p V k : Nat} {s s1 : RS} {c : Mc} {W W1 : World} (h : Rf w0 n0 d p V k s c W) (hr : RefS d W1 p s1) (hg : W.grownBy W1 (some p)) : Rf w0 n0 d p V k s1 c W1 := by
  have hp := h.hp
  obtain ⟨a, b⟩ := h.own.past h.free hg (by omega)
  exact ⟨hr, h.bel.grown hg h.lt (fun k e => by cases e; exact h.hn), (hg.block V (block_lt h.box) (by simp; omega)).trans h.box, a, b, h.dat.kept hg (.inr (fun e => by have := (h.dat.1.lt _ e).1; omega)), h.hp, h.hd, h.hn⟩
theorem Rf.still {w0 : World} {n0 d p V k : Nat} {s : RS} {c : Mc} {W W1 : World} (h : Rf w0 n0 d p V k s c W) (hg : W.grownBy W1 none) : Rf w0 n0 d p V k s c W1 := by
  obtain ⟨a, b⟩ := h.own.quiet h.free hg
  exact ⟨h.rd.kept hg (by simp) (by simp), h.bel.grown hg h.lt (fun k e => by cases e), (hg.block V (block_lt h.box) (by simp)).trans h.box, a, b, h.dat.quiet hg, h.hp, h.hd, h.hn⟩
theorem Rf.put {w0 : World} {n0 d p V k : Nat} {s : RS} {c c' : Mc} {W W2 : World} (h : Rf w0 n0 d p V k s c W) (hg : W.grownBy W2 (some V)) (hb : W2.heap[V]? = some (.cells #[.int .i64 (k : Int), .int .u64 (c'.num : Int), .int .i64 (c'.node : Int), .int .u64 (c'.slot : Int), .int .u64 (c'.stamp : Int), c'.bv, c'.dv] 31 (0, 0))) (o : OwnRs (V + 1) W c'.bv c'.rs) (f : FreeRs (V + 1) W c'.rs) (dt : Owns (V + 1) W c'.dv c'.D) : Rf w0 n0 d p V k s c' W2 := by
  have hp := h.hp
  have hd := h.hd
  have hn := h.hn
  obtain ⟨a, b⟩ := o.past f hg (by omega)
  exact ⟨h.rd.kept hg (by simp; omega) (by simp; omega), h.bel.grown hg h.lt (fun k e => by cases e; omega), hb, a, b, dt.kept hg (.inr (fun e => by have := (dt.1.lt _ e).1; omega)), h.hp, h.hd, h.hn⟩
theorem Rf.ballot {w0 : World} {n0 d p V k : Nat} {s : RS} {c : Mc} {W : World} (h : Rf w0 n0 d p V k s c W) (num node : Nat) : Rf w0 n0 d p V k s ⟨num, node, c.slot, c.stamp, c.bv, c.rs, c.dv, c.D⟩ ((W.setCell ⟨V, 1, none⟩ (.int .u64 (num : Int))).setCell ⟨V, 2, none⟩ (.int .i64 (node : Int))) := by
  have h0 := heap_setCell_same _ V 1 _ _ (.int .u64 (num : Int)) h.box
  simp only [List.setIfInBounds_toArray, List.set_cons_zero, List.set_cons_succ] at h0
  have h1 := heap_setCell_same _ V 2 _ _ (.int .i64 (node : Int)) h0
  simp only [List.setIfInBounds_toArray, List.set_cons_zero, List.set_cons_succ] at h1
  exact h.put (grown_trans (row := some V) (grown_set _ V 1 _) (grown_set _ V 2 _)) h1 h.own h.free h.dat
theorem Rf.slot {w0 : World} {n0 d p V k : Nat} {s : RS} {c : Mc} {W : World} (h : Rf w0 n0 d p V k s c W) (slot : Nat) : Rf w0 n0 d p V k s ⟨c.num, c.node, slot, c.stamp, c.bv, c.rs, c.dv, c.D⟩ (W.setCell ⟨V, 3, none⟩ (.int .u64 (slot : Int))) := by
  have h0 := heap_setCell_same _ V 3 _ _ (.int .u64 (slot : Int)) h.box
  simp only [List.setIfInBounds_toArray, List.set_cons_zero, List.set_cons_succ] at h0
  exact h.put (grown_set _ V 3 _) h0 h.own h.free h.dat
theorem Rf.batch {w0 : World} {n0 d p V k : Nat} {s : RS} {c : Mc} {W : World} {v : Value} {rs : List Rq} (h : Rf w0 n0 d p V k s c W) (stamp : Nat) (o : OwnRs (V + 1) W v rs) (f : FreeRs (V + 1) W rs) : Rf w0 n0 d p V k s ⟨c.num, c.node, c.slot, stamp, v, rs, c.dv, c.D⟩ ((W.setCell ⟨V, 4, none⟩ (.int .u64 (stamp : Int))).setCell ⟨V, 5, none⟩ v) := by
  have h0 := heap_setCell_same _ V 4 _ _ (.int .u64 (stamp : Int)) h.box
  simp only [List.setIfInBounds_toArray, List.set_cons_zero, List.set_cons_succ] at h0
  have h1 := heap_setCell_same _ V 5 _ _ v h0
  simp only [List.setIfInBounds_toArray, List.set_cons_zero, List.set_cons_succ] at h1
  exact h.put (grown_trans (row := some V) (grown_set _ V 4 _) (grown_set _ V 5 _)) h1 o f h.dat
theorem Rf.snap {w0 : World} {n0 d p V k : Nat} {s : RS} {c : Mc} {W : World} {v : Value} {D : List Nat} (h : Rf w0 n0 d p V k s c W) (o : Owns (V + 1) W v D) : Rf w0 n0 d p V k s ⟨c.num, c.node, c.slot, c.stamp, c.bv, c.rs, v, D⟩ (W.setCell ⟨V, 6, none⟩ v) := by
  have h0 := heap_setCell_same _ V 6 _ _ v h.box
  simp only [List.setIfInBounds_toArray, List.set_cons_zero, List.set_cons_succ] at h0
  exact h.put (grown_set _ V 6 _) h0 h.own h.free o

theorem cBallot {w0 : World} {n0 d p V k : Nat} {s : RS} {c : Mc} {W : World} (h : Rf w0 n0 d p V k s c W) :
    Calls Tryz.prog 50 #[.pointer (some ⟨p, 0, none⟩)] W fun e W1 => e = .returned (.agg #[.int .u64 (upV s 1099511627776 : Nat), .int .i64 ((rbN s : Nat) : Int)]) ∧ Hid (Rf w0 n0 d p V k (rbS s) c W1) :=
  (refBallot_any d p s W h.rd (by have := h.hd; have := block_lt h.box; omega)).mono (fun _ _ g => ⟨g.1, h.call g.2.out.1 g.2.out.2⟩)
theorem cSlot {w0 : World} {n0 d p V k : Nat} {s : RS} {c : Mc} {W : World} (h : Rf w0 n0 d p V k s c W) :
    Calls Tryz.prog 51 #[.pointer (some ⟨p, 0, none⟩), .int .u64 1099511627776] W fun e W1 => e = .returned (.int .u64 (upV s 1099511627776 : Nat)) ∧ Hid (Rf w0 n0 d p V k (upS s 1099511627776) c W1) :=
  (upTo_any d p s 1099511627776 W h.rd).mono (fun _ _ g => ⟨g.1, h.call g.2.out.1 g.2.out.2⟩)
theorem cBatch {w0 : World} {n0 d p V k : Nat} {s : RS} {c : Mc} {W : World} (h : Rf w0 n0 d p V k s c W) :
    Calls Tryz.prog 52 #[.pointer (some ⟨p, 0, none⟩)] W fun e W1 => ∃ vo vn vc, e = .returned (.agg #[.int .u64 (upV s 1099511627776 : Nat), .slice vo vn vc]) ∧ Hid (Rf w0 n0 d p V k (cEnd s) c W1 ∧ ∃ rs, OwnRs (V + 1) W1 (.slice vo vn vc) rs ∧ FreeRs (V + 1) W1 rs ∧ rs.map Rq.val = cVals s) := by
  have hV := block_lt h.box
  refine (refBatch_any d p s W h.rd (by have := h.hd; omega)).mono ?_
  rintro e W1 ⟨v, rs, rfl, G⟩
  obtain ⟨g1, g2, g3, g4, g5⟩ := G.out
  obtain ⟨vo, vc, _, hv, _⟩ := g1.form
  subst hv
  exact ⟨vo, _, vc, rfl, h.call g4 g5, rs, g1.lower (by omega), g2.lower (by omega), g3⟩
theorem cSnap {w0 : World} {n0 d p V k : Nat} {s : RS} {c : Mc} {W : World} (h : Rf w0 n0 d p V k s c W) :
    Calls Tryz.prog 53 #[.pointer (some ⟨p, 0, none⟩), .int .i64 40000] W fun e W1 => ∃ vo vn vc, e = .returned (.slice vo vn vc) ∧ Hid (Rf w0 n0 d p V k (s.step (blobAt s.rest 40000).2.1 (blobAt s.rest 40000).2.2) c W1 ∧ Owns (V + 1) W1 (.slice vo vn vc) (blobAt s.rest 40000).1) := by
  have hV := block_lt h.box
  refine (refBlob_any d p s 40000 W h.rd (by decide) (by decide)).mono ?_
  rintro e W1 ⟨v, rfl, g1, g2, g3⟩
  obtain ⟨vo, vc, hv, _⟩ := g1.form
  subst hv
  exact ⟨vo, _, vc, rfl, h.call g2 g3, g1.lower (by omega)⟩
theorem cEndR {w0 : World} {n0 d p V k : Nat} {s : RS} {c : Mc} {W : World} (h : Rf w0 n0 d p V k s c W) {ec ea : Int} (h1 : s.endC = ec) (h2 : s.endA = ea) :
    Calls Tryz.prog 54 #[.pointer (some ⟨p, 0, none⟩)] W fun e W1 => e = .returned (.agg #[.int .i64 ec, .int .i64 ea]) ∧ Hid (Rf w0 n0 d p V k s c W1) := by
  subst h1
  subst h2
  exact (refEnd_any d p s W h.rd).mono (fun _ _ g => ⟨g.1, h.still (below_none g.2)⟩)

theorem fin9 {w W : World} (hb : Below w.heap.size w W) (a b c d e f g x y : Value) :
    Below w.heap.size w (((((((((W.setCell ⟨w.heap.size, 0, none⟩ a).setCell ⟨w.heap.size, 1, none⟩ b).setCell ⟨w.heap.size, 2, none⟩ c).setCell ⟨w.heap.size, 3, none⟩ d).setCell ⟨w.heap.size, 4, none⟩ e).setCell ⟨w.heap.size, 5, none⟩ f).setCell ⟨w.heap.size, 6, none⟩ g).setCell ⟨w.heap.size + 1, 0, none⟩ x).setCell ⟨w.heap.size + 1, 1, none⟩ y) ∧
    ∀ {V : Nat} {m : Mc}, w.heap.size + 1 < V → OwnRs V W m.bv m.rs → FreeRs V W m.rs → Owns V W m.dv m.D → OwnRs w.heap.size (((((((((W.setCell ⟨w.heap.size, 0, none⟩ a).setCell ⟨w.heap.size, 1, none⟩ b).setCell ⟨w.heap.size, 2, none⟩ c).setCell ⟨w.heap.size, 3, none⟩ d).setCell ⟨w.heap.size, 4, none⟩ e).setCell ⟨w.heap.size, 5, none⟩ f).setCell ⟨w.heap.size, 6, none⟩ g).setCell ⟨w.heap.size + 1, 0, none⟩ x).setCell ⟨w.heap.size + 1, 1, none⟩ y) m.bv m.rs ∧ FreeRs w.heap.size (((((((((W.setCell ⟨w.heap.size, 0, none⟩ a).setCell ⟨w.heap.size, 1, none⟩ b).setCell ⟨w.heap.size, 2, none⟩ c).setCell ⟨w.heap.size, 3, none⟩ d).setCell ⟨w.heap.size, 4, none⟩ e).setCell ⟨w.heap.size, 5, none⟩ f).setCell ⟨w.heap.size, 6, none⟩ g).setCell ⟨w.heap.size + 1, 0, none⟩ x).setCell ⟨w.heap.size + 1, 1, none⟩ y) m.rs ∧ Owns w.heap.size (((((((((W.setCell ⟨w.heap.size, 0, none⟩ a).setCell ⟨w.heap.size, 1, none⟩ b).setCell ⟨w.heap.size, 2, none⟩ c).setCell ⟨w.heap.size, 3, none⟩ d).setCell ⟨w.heap.size, 4, none⟩ e).setCell ⟨w.heap.size, 5, none⟩ f).setCell ⟨w.heap.size, 6, none⟩ g).setCell ⟨w.heap.size + 1, 0, none⟩ x).setCell ⟨w.heap.size + 1, 1, none⟩ y) m.dv m.D := by
  have hg := set7 W w.heap.size a b c d e f g
  revert hg
  generalize (((((((W.setCell ⟨w.heap.size, 0, none⟩ a).setCell ⟨w.heap.size, 1, none⟩ b).setCell ⟨w.heap.size, 2, none⟩ c).setCell ⟨w.heap.size, 3, none⟩ d).setCell ⟨w.heap.size, 4, none⟩ e).setCell ⟨w.heap.size, 5, none⟩ f).setCell ⟨w.heap.size, 6, none⟩ g) = X
  intro hg
  have hk := grown_trans (row := some (w.heap.size + 1)) (grown_set X (w.heap.size + 1) 0 x) (grown_set _ (w.heap.size + 1) 1 y)
  revert hk
  generalize ((X.setCell ⟨w.heap.size + 1, 0, none⟩ x).setCell ⟨w.heap.size + 1, 1, none⟩ y) = Z
  intro hk
  have b1 := hb.grown hg hb.size (fun k e => by cases e; exact Nat.le_refl _)
  refine ⟨b1.grown hk b1.size (fun k e => by cases e; omega), fun {V m} hV o fr dt => ?_⟩
  obtain ⟨o1, f1⟩ := o.past fr hg (by omega)
  obtain ⟨o2, f2⟩ := o1.past f1 hk (by omega)
  have d1 := dt.kept hg (.inr (fun e => by have := (dt.1.lt _ e).1; omega))
  have d2 := d1.kept hk (.inr (fun e => by have := (d1.1.lt _ e).1; omega))
  exact ⟨o2.lower (by omega), f2.lower (by omega), d2.lower (by omega)⟩
end Go.Proofs.YtlnfkooimpmahaaGreat
namespace Go.Proofs.YtlnfkooimpmahaaGreat
open Go.RowKit Crc

/-- The two boxes of the results. -/
def Bx2 (w W0 : World) : Prop := Below w.heap.size w W0 ∧ W0.heap[w.heap.size]? = some (.cells #[.int .i64 0, .int .u64 0, .int .i64 0, .int .u64 0, .int .u64 0, .slice none 0 0, .slice none 0 0] 31 (0, 0)) ∧ W0.heap[w.heap.size + 1]? = some (.cells #[.int .i64 0, .int .i64 0] 33 (0, 0)) ∧ W0.heap.size = w.heap.size + 1 + 1
theorem bx2 {w W0 : World} (hW0 : (w.alloc (.cells #[.int .i64 0, .int .u64 0, .int .i64 0, .int .u64 0, .int .u64 0, .slice none 0 0, .slice none 0 0] 31)).alloc (.cells #[.int .i64 0, .int .i64 0] 33) = W0) : Bx2 w W0 := by
  have e1 : (w.alloc (.cells #[.int .i64 0, .int .u64 0, .int .i64 0, .int .u64 0, .int .u64 0, .slice none 0 0, .slice none 0 0] 31)).heap.size = w.heap.size + 1 := by simp
  refine ⟨?_, ?_, ?_, ?_⟩
  · rw [← hW0]; exact (below_alloc1 w _).alloc (by simp) _
  · rw [← hW0]; exact ((World.grownBy_alloc _ _ none).block _ (by rw [e1]; omega) (by simp)).trans (alloc_at _ _)
  · rw [← hW0, ← e1]; exact alloc_at _ _
  · rw [← hW0]; simp
theorem newR {lim : Nat} {w W0 : World} {ao : Option Addr} {n cap : Nat} {B : List Nat} (h : Shows lim w ao n cap B) (hl : lim ≤ w.heap.size) (h0 : Bx2 w W0) :
    Calls Tryz.prog 47 #[.slice ao n cap] W0 fun e w1 => ∃ p, e = .returned (.pointer (some ⟨p, 0, none⟩)) ∧ Hid (∃ d, RefS d w1 p (RS1 B) ∧ Below (w.heap.size + 1 + 1) W0 w1 ∧ w.heap.size + 1 + 1 ≤ p ∧ d ≤ p) := by
  have hs := h0.2.2.2
  refine (refNew_any (w := W0) (h.belowL (h0.1.mono hl)) (by omega)).mono ?_
  rintro e w1 ⟨p, d, rfl, hp, hd, hdp, hr, hb⟩
  rw [hs] at hp hb
  exact ⟨p, rfl, d, hr, hb, hp, hdp⟩
theorem kindR {d p : Nat} {w1 W0 : World} {n0 : Nat} {B : List Nat} (hr : RefS d w1 p (RS1 B)) (hb : Below n0 W0 w1) (hp : n0 ≤ p) :
    Calls Tryz.prog 48 #[.pointer (some ⟨p, 0, none⟩), .int .i64 1] w1 fun e w2 => e = .returned (.int .u64 ((rk B : Nat) : Int)) ∧ rk B < 256 ∧ Hid (RefS d w2 p (rs1 B) ∧ Below n0 W0 w2) :=
  (refFixed_any d p (RS1 B) 1 1 w1 rfl (by decide) (by decide) hr).mono (fun _ _ g => ⟨g.1, hi_take_lt (k := 1) (refS_lt hr), g.2.1, hb.grown g.2.2 (by have := refS_size hr; omega) (fun k e => by cases e; exact hp)⟩)
theorem rf_new {w0 w2 : World} {n0 d p k : Nat} {s : RS} (hr : RefS d w2 p s) (hb : Below n0 w0 w2) (hp : n0 ≤ p) (hd : d ≤ p) : Rf w0 n0 d p w2.heap.size k s mc0 (w2.alloc (.cells #[.int .i64 (k : Int), .int .u64 0, .int .i64 0, .int .u64 0, .int .u64 0, .slice none 0 0, .slice none 0 0] 31)) := by
  have hps := refS_size hr
  have gA := World.grownBy_alloc w2 (.cells #[.int .i64 (k : Int), .int .u64 0, .int .i64 0, .int .u64 0, .int .u64 0, .slice none 0 0, .slice none 0 0] 31) none
  obtain ⟨a, b⟩ := OwnRs.nil (w2.heap.size + 1) (w2.alloc (.cells #[.int .i64 (k : Int), .int .u64 0, .int .i64 0, .int .u64 0, .int .u64 0, .slice none 0 0, .slice none 0 0] 31))
  exact ⟨hr.kept gA (by simp) (by simp), hb.grown gA (by omega) (fun k e => by cases e), alloc_at _ _, a, b, Owns.nil _ _, hps, by omega, hp⟩
/-- The end of a reading that was taken. -/
theorem fin_ryes {w W0 W : World} {d p V k : Nat} {s : RS} {c : Mc} (h0 : Bx2 w W0) (h : Rf W0 (w.heap.size + 1 + 1) d p V k s c W) : Below w.heap.size w W ∧ w.heap.size + 1 + 1 ≤ W.heap.size ∧ W.heap[w.heap.size]? = some (.cells #[.int .i64 0, .int .u64 0, .int .i64 0, .int .u64 0, .int .u64 0, .slice none 0 0, .slice none 0 0] 31 (0, 0)) ∧ W.heap[w.heap.size + 1]? = some (.cells #[.int .i64 0, .int .i64 0] 33 (0, 0)) ∧ w.heap.size + 1 < V := by
  have h1 := h.hn
  have h2 := h.hp
  exact ⟨h0.1.trans (h.bel.mono (by omega)), h.lt, (h.bel.block _ (by omega)).trans h0.2.1, (h.bel.block _ (by omega)).trans h0.2.2.1, by omega⟩
theorem below_drew {l : Nat} {w w1 : World} (h : Below l w w1) : Below l w w1.drew := ⟨h.os, h.tape, h.output, h.size, h.block⟩
theorem fin_no9 {w W : World} (hb : Below w.heap.size w W) (a b c d e f g x y : Value) {vv : Rv} (hv : vv = rv0) :
    Below w.heap.size w ((((((((((W.setCell ⟨w.heap.size, 0, none⟩ a).setCell ⟨w.heap.size, 1, none⟩ b).setCell ⟨w.heap.size, 2, none⟩ c).setCell ⟨w.heap.size, 3, none⟩ d).setCell ⟨w.heap.size, 4, none⟩ e).setCell ⟨w.heap.size, 5, none⟩ f).setCell ⟨w.heap.size, 6, none⟩ g).setCell ⟨w.heap.size + 1, 0, none⟩ x).setCell ⟨w.heap.size + 1, 1, none⟩ y).drew) ∧ OwnRs w.heap.size ((((((((((W.setCell ⟨w.heap.size, 0, none⟩ a).setCell ⟨w.heap.size, 1, none⟩ b).setCell ⟨w.heap.size, 2, none⟩ c).setCell ⟨w.heap.size, 3, none⟩ d).setCell ⟨w.heap.size, 4, none⟩ e).setCell ⟨w.heap.size, 5, none⟩ f).setCell ⟨w.heap.size, 6, none⟩ g).setCell ⟨w.heap.size + 1, 0, none⟩ x).setCell ⟨w.heap.size + 1, 1, none⟩ y).drew) mc0.bv mc0.rs ∧ FreeRs w.heap.size ((((((((((W.setCell ⟨w.heap.size, 0, none⟩ a).setCell ⟨w.heap.size, 1, none⟩ b).setCell ⟨w.heap.size, 2, none⟩ c).setCell ⟨w.heap.size, 3, none⟩ d).setCell ⟨w.heap.size, 4, none⟩ e).setCell ⟨w.heap.size, 5, none⟩ f).setCell ⟨w.heap.size, 6, none⟩ g).setCell ⟨w.heap.size + 1, 0, none⟩ x).setCell ⟨w.heap.size + 1, 1, none⟩ y).drew) mc0.rs ∧ Owns w.heap.size ((((((((((W.setCell ⟨w.heap.size, 0, none⟩ a).setCell ⟨w.heap.size, 1, none⟩ b).setCell ⟨w.heap.size, 2, none⟩ c).setCell ⟨w.heap.size, 3, none⟩ d).setCell ⟨w.heap.size, 4, none⟩ e).setCell ⟨w.heap.size, 5, none⟩ f).setCell ⟨w.heap.size, 6, none⟩ g).setCell ⟨w.heap.size + 1, 0, none⟩ x).setCell ⟨w.heap.size + 1, 1, none⟩ y).drew) mc0.dv mc0.D ∧ mc0.rv = vv := by
  have k := (fin9 hb a b c d e f g x y).1
  revert k
  generalize (((((((((W.setCell ⟨w.heap.size, 0, none⟩ a).setCell ⟨w.heap.size, 1, none⟩ b).setCell ⟨w.heap.size, 2, none⟩ c).setCell ⟨w.heap.size, 3, none⟩ d).setCell ⟨w.heap.size, 4, none⟩ e).setCell ⟨w.heap.size, 5, none⟩ f).setCell ⟨w.heap.size, 6, none⟩ g).setCell ⟨w.heap.size + 1, 0, none⟩ x).setCell ⟨w.heap.size + 1, 1, none⟩ y) = Z
  intro k
  have n := OwnRs.nil w.heap.size Z.drew
  exact ⟨below_drew k, n.1, n.2, Owns.nil _ _, hv.symm⟩
theorem fin_yes9 {w W W0 : World} {d p V k : Nat} {s : RS} {m : Mc} (h0 : Bx2 w W0) (h : Rf W0 (w.heap.size + 1 + 1) d p V k s m W) (a b c d e f g x y : Value) (o : Obj) {vv : Rv} (hv : m.rv = vv) :
    Below w.heap.size w ((((((((((W.setCell ⟨w.heap.size, 0, none⟩ a).setCell ⟨w.heap.size, 1, none⟩ b).setCell ⟨w.heap.size, 2, none⟩ c).setCell ⟨w.heap.size, 3, none⟩ d).setCell ⟨w.heap.size, 4, none⟩ e).setCell ⟨w.heap.size, 5, none⟩ f).setCell ⟨w.heap.size, 6, none⟩ g).setCell ⟨w.heap.size + 1, 0, none⟩ x).setCell ⟨w.heap.size + 1, 1, none⟩ y).alloc o) ∧ OwnRs w.heap.size ((((((((((W.setCell ⟨w.heap.size, 0, none⟩ a).setCell ⟨w.heap.size, 1, none⟩ b).setCell ⟨w.heap.size, 2, none⟩ c).setCell ⟨w.heap.size, 3, none⟩ d).setCell ⟨w.heap.size, 4, none⟩ e).setCell ⟨w.heap.size, 5, none⟩ f).setCell ⟨w.heap.size, 6, none⟩ g).setCell ⟨w.heap.size + 1, 0, none⟩ x).setCell ⟨w.heap.size + 1, 1, none⟩ y).alloc o) m.bv m.rs ∧ FreeRs w.heap.size ((((((((((W.setCell ⟨w.heap.size, 0, none⟩ a).setCell ⟨w.heap.size, 1, none⟩ b).setCell ⟨w.heap.size, 2, none⟩ c).setCell ⟨w.heap.size, 3, none⟩ d).setCell ⟨w.heap.size, 4, none⟩ e).setCell ⟨w.heap.size, 5, none⟩ f).setCell ⟨w.heap.size, 6, none⟩ g).setCell ⟨w.heap.size + 1, 0, none⟩ x).setCell ⟨w.heap.size + 1, 1, none⟩ y).alloc o) m.rs ∧ Owns w.heap.size ((((((((((W.setCell ⟨w.heap.size, 0, none⟩ a).setCell ⟨w.heap.size, 1, none⟩ b).setCell ⟨w.heap.size, 2, none⟩ c).setCell ⟨w.heap.size, 3, none⟩ d).setCell ⟨w.heap.size, 4, none⟩ e).setCell ⟨w.heap.size, 5, none⟩ f).setCell ⟨w.heap.size, 6, none⟩ g).setCell ⟨w.heap.size + 1, 0, none⟩ x).setCell ⟨w.heap.size + 1, 1, none⟩ y).alloc o) m.dv m.D ∧ m.rv = vv := by
  obtain ⟨f1, f2, f3, f4, f5⟩ := fin_ryes h0 h
  obtain ⟨k, k2⟩ := fin9 f1 a b c d e f g x y
  obtain ⟨k3, k4, k5⟩ := k2 (m := m) (by omega : w.heap.size + 1 < V + 1) h.own h.free h.dat
  revert k k3 k4 k5
  generalize (((((((((W.setCell ⟨w.heap.size, 0, none⟩ a).setCell ⟨w.heap.size, 1, none⟩ b).setCell ⟨w.heap.size, 2, none⟩ c).setCell ⟨w.heap.size, 3, none⟩ d).setCell ⟨w.heap.size, 4, none⟩ e).setCell ⟨w.heap.size, 5, none⟩ f).setCell ⟨w.heap.size, 6, none⟩ g).setCell ⟨w.heap.size + 1, 0, none⟩ x).setCell ⟨w.heap.size + 1, 1, none⟩ y) = Z
  intro k k3 k4 k5
  have gA := World.grownBy_alloc Z o none
  obtain ⟨o1, o2⟩ := k3.quiet k4 gA
  exact ⟨k.alloc k.size _, o1, o2, k5.quiet gA, hv⟩
end Go.Proofs.YtlnfkooimpmahaaGreat
