import Derived.Test.YtgaalaoflaklgaaGreatM27
import Derived.Deep.RegionHeld
import Derived.Test.YtgaalaoflaklgaaGreatM18
import Derived.Test.YtgaalaoflaklgaaGreatM13
import Derived.Test.YtgaalaoflaklgaaGreatM19
import Derived.Test.YtgaalaoflaklgaaGreatM20
import Derived.Test.YtgaalaoflaklgaaGreatQRrW
namespace Go.Proofs.YtgaalaoflaklgaaGreat
open Go.RowKit Crc

theorem Pair.alloc {base limr d pv : Nat} {po : Option Addr} {w : World} {s : RS} (h : Pair base limr d pv po w s) (o : Obj) : Pair base limr d pv po (w.alloc o) s ∧ Keep base w (w.alloc o) := h.quiet (World.grownBy_alloc w o none) (fun g e => by cases e)
theorem Pair.below {base limr d pv : Nat} {po : Option Addr} {w w' : World} {s : RS} (h : Pair base limr d pv po w s) (hb : Below w.heap.size w w') : Pair base limr d pv po w' s ∧ Keep base w w' := h.quiet (below_none hb) (fun g e => by cases e)
theorem Pair.drewN {base limr d pv : Nat} {po : Option Addr} {w : World} {s : RS} (h : Pair base limr d pv po w s) (q : Nat) : Pair base limr d pv po (w.drewN q) s ∧ Keep base w (w.drewN q) := h.quiet (drew_grown w q) (fun g e => by cases e)

end Go.Proofs.YtgaalaoflaklgaaGreat
namespace Go.Proofs.YtgaalaoflaklgaaGreat
open Go.RowKit Crc

theorem Res.from {base limr d pv : Nat} {po : Option Addr} {w w1 w2 : World} (hk : Keep base w w1) (h : Res base limr d pv po w1 w2) : Res base limr d pv po w w2 := ⟨h.1, hk.trans h.2⟩
theorem Res.keep {base limr d pv : Nat} {po : Option Addr} {w w2 : World} {s : RS} (h : Pair base limr d pv po w2 s ∧ Keep base w w2) : Res base limr d pv po w w2 := ⟨⟨s, h.1⟩, h.2⟩
theorem Pair.drew {base limr d pv : Nat} {po : Option Addr} {w : World} {s : RS} (h : Pair base limr d pv po w s) : Pair base limr d pv po w.drew s ∧ Keep base w w.drew := h.quiet (row := none) ⟨rfl, rfl, rfl, Nat.le_refl _, fun _ _ _ => rfl⟩ (fun g e => by cases e)

end Go.Proofs.YtgaalaoflaklgaaGreat
namespace Go.Proofs.YtgaalaoflaklgaaGreat
open Go.RowKit Crc

/-- A new block's cells, behind the program's step and the reference's. -/
theorem Pair.cellP {base limr d pv : Nat} {po : Option Addr} {w wx w1 : World} {s : RS} (h : Pair base limr d pv po w s) {b j : Nat} {v : Value} (hb : w.heap.size ≤ b) (hc : wx.cell? ⟨b, j, none⟩ = some v) (hg : wx.grownBy w1 (rowP po)) : w1.cell? ⟨b, j, none⟩ = some v :=
  hg.cell hc (fun e => by have := (h.bpo b e.symm).2; omega)
theorem Pair.cellR {base limr d pv : Nat} {po : Option Addr} {w wx w1 : World} {s : RS} (h : Pair base limr d pv po w s) {b j : Nat} {v : Value} (hb : w.heap.size ≤ b) (hc : wx.cell? ⟨b, j, none⟩ = some v) (hg : wx.grownBy w1 (some pv)) : w1.cell? ⟨b, j, none⟩ = some v :=
  hg.cell hc (fun e => by have h1 := h.pvlt; have h2 : b = pv := (by simpa using e); omega)

theorem blobAt_len (B : List Nat) (most : Int) : (blobAt B most).1.length ≤ B.length := by
  unfold blobAt
  split
  · simp
  · split
    · simp
    · simp only [List.length_take, List.length_drop]; omega
theorem rest_le (s : RS) : s.rest.length ≤ s.B.length := by
  unfold RS.rest restB
  split
  · rw [List.length_drop]; omega
  · simp
theorem own_far {base : Nat} {w : World} {v : Value} {B : List Nat} (h : Owns base w v B) : ∀ g, v.ownBlock = some g → base ≤ g := by
  intro g hg
  obtain ⟨a0, c0, rfl, _, (⟨rfl, _⟩ | ⟨g', rfl, hb, _⟩)⟩ := h.form
  · cases hg
  · have : g' = g := by simpa [Value.ownBlock] using hg
    omega

end Go.Proofs.YtgaalaoflaklgaaGreat
namespace Go.Proofs.YtgaalaoflaklgaaGreat
open Go.RowKit Crc

theorem copy_sh {lim : Nat} {w : World} {ao : Option Addr} {n cap : Nat} {B : List Nat} (h : Shows lim w ao n cap B) (hlw : lim ≤ w.heap.size) :
    Calls Tryz.prog 95 #[.slice ao n cap] w fun e w' => ∃ v, e = .returned v ∧ Owns w.heap.size w' v B ∧ Below w.heap.size w w' := by
  obtain ⟨h1, h2, h3, h4, b, off, h5, h6, h7⟩ := h
  exact copy_walk b off ao B n cap w h5 h1 h3 h4 (fun h => Nat.lt_of_lt_of_le (h6 h) hlw) h7

set_option maxRecDepth 10000 in
set_option maxHeartbeats 800000 in
theorem refNew_any {lim : Nat} {w : World} {ao : Option Addr} {n cap : Nat} {B : List Nat} (h : Shows lim w ao n cap B) (hlw : lim ≤ w.heap.size) :
    Calls Tryz.prog 72 #[.slice ao n cap] w fun e w' => ∃ p d, e = .returned (.pointer (some ⟨p, 0, none⟩)) ∧ w.heap.size ≤ p ∧ w.heap.size ≤ d ∧ d ≤ p ∧ RefS d w' p ⟨true, 0, 0, B, 0, KR⟩ ∧ Below w.heap.size w w' := by
  have HCP := hide (copy_sh h hlw)
  clear h
  go_enter Tryz.func72, Tryz.ntmps72
  go_wp2_with fail
  refine HCP.out.mono ?_
  rintro e w1 ⟨v, rfl, hO, hb1⟩
  obtain ⟨a1, c1, rfl, hs1, ha⟩ := hO.form
  have HO := hide (And.intro hO (And.intro hs1 ha))
  have HB1 := hide hb1
  clear hO hs1 ha hb1
  generalize hbl : B.length = m at *
  go_wp2
  go_ret
  have hsz := HB1.out.size
  obtain ⟨hO, hs1, ha⟩ := HO.out
  have hbel : Below w.heap.size w (w1.alloc (.cells #[.bool true, .slice a1 m c1, .int .i64 0, .int .i64 0, .int .i64 0] 166 (0, 0))) := HB1.out.alloc hsz _
  have hg : w1.grownBy (w1.alloc (.cells #[.bool true, .slice a1 m c1, .int .i64 0, .int .i64 0, .int .i64 0] 166 (0, 0))) none := World.grownBy_alloc w1 _ none
  obtain ⟨h1, h2, h3, h4, b, off, h5, h6, h7⟩ := hs1
  rcases ha with ⟨rfl, rfl⟩ | ⟨g, rfl, hg1, hg2⟩
  · have hm0 : m = 0 := by omega
    refine ⟨w1.heap.size, w1.heap.size, rfl, hsz, hsz, Nat.le_refl _, ⟨none, 0, ?_, ⟨by simp only; omega, .inr ⟨rfl, rfl, by simp only; omega⟩⟩, by simp only; omega, h4, by simp, fun h => by simp only at h; omega, fun h => by simp only at h; omega, fun i hi => by simp only at hi; omega⟩, hbel⟩
    simp only [hbl]
    exact heap_alloc_new w1 _
  · refine ⟨w1.heap.size, g, rfl, hsz, hg1, Nat.le_of_lt hg2, ⟨some ⟨g, 0, none⟩, c1, ?_, ⟨by simp only; omega, .inl rfl⟩, by simp only; omega, h4, by simp, fun _ => rfl, fun _ => by omega, fun i hi => ?_⟩, hbel⟩
    · simp only [hbl]
      exact heap_alloc_new w1 _
    · simp only at hi
      have e := h5 (by omega)
      simp only [Option.some.injEq, Addr.mk.injEq, and_true] at e
      obtain ⟨rfl, rfl⟩ := e
      have h8 := h7 i (by omega)
      rw [Nat.zero_add] at h8
      exact hg.cell h8 (by simp)
end Go.Proofs.YtgaalaoflaklgaaGreat
namespace Go.Proofs.YtgaalaoflaklgaaGreat
open Go.RowKit Crc

/-- Two boxes laid anew. -/
theorem fin_dr {w w4 : World} {v : Value} {rs1 : List Rq} (hb : Below w.heap.size w w4) (h : OwnRs (w.heap.size + 1 + 1) w4 v rs1) (hf : FreeRs (w.heap.size + 1 + 1) w4 rs1) (a b c e : Value) :
    Below w.heap.size w ((((w4.setCell ⟨w.heap.size, 0, none⟩ a).setCell ⟨w.heap.size, 1, none⟩ b).setCell ⟨w.heap.size + 1, 0, none⟩ c).setCell ⟨w.heap.size + 1, 1, none⟩ e) ∧ OwnRs w.heap.size ((((w4.setCell ⟨w.heap.size, 0, none⟩ a).setCell ⟨w.heap.size, 1, none⟩ b).setCell ⟨w.heap.size + 1, 0, none⟩ c).setCell ⟨w.heap.size + 1, 1, none⟩ e) v rs1 ∧ FreeRs w.heap.size ((((w4.setCell ⟨w.heap.size, 0, none⟩ a).setCell ⟨w.heap.size, 1, none⟩ b).setCell ⟨w.heap.size + 1, 0, none⟩ c).setCell ⟨w.heap.size + 1, 1, none⟩ e) rs1 := by
  obtain ⟨a1, a2⟩ := h.past hf (grown_set w4 w.heap.size 0 a) (by omega)
  obtain ⟨b1, b2⟩ := a1.past a2 (grown_set _ w.heap.size 1 b) (by omega)
  obtain ⟨c1, c2⟩ := b1.past b2 (grown_set _ (w.heap.size + 1) 0 c) (by omega)
  obtain ⟨e1, e2⟩ := c1.past c2 (grown_set _ (w.heap.size + 1) 1 e) (by omega)
  exact ⟨(((hb.setCell (p := ⟨w.heap.size, 0, none⟩) (Nat.le_refl _) _).setCell (p := ⟨w.heap.size, 1, none⟩) (Nat.le_refl _) _).setCell (p := ⟨w.heap.size + 1, 0, none⟩) (by simp) _).setCell (p := ⟨w.heap.size + 1, 1, none⟩) (by simp) _, e1.lower (by omega), e2.lower (by omega)⟩

end Go.Proofs.YtgaalaoflaklgaaGreat
namespace Go.Proofs.YtgaalaoflaklgaaGreat
open Go.RowKit Crc

/-- The same, or both with one fault. -/
def Sim (s t : RS) : Prop := s = t ∨ (¬ s.sound ∧ ¬ t.sound ∧ s.made = t.made ∧ s.why = t.why ∧ s.place = t.place)
theorem step_dead {s : RS} (h : ¬ s.sound) (z : Nat) (y : Int) : s.step z y = s := if_neg h
theorem rest_dead {s : RS} (h : ¬ s.sound) : s.rest = [] := restB_sound h
theorem rdNum_dead {s : RS} (h : ¬ s.sound) : rdNum s = s := step_dead h _ _
theorem failP_dead {s : RS} (h : ¬ s.sound) (a y : Int) : s.failP a y = s := if_neg h
theorem rdBound_dead {s : RS} (h : ¬ s.sound) (a b : Nat) : rdBound s a b = s := by
  unfold rdBound
  rw [rdNum_dead h, failP_dead h]
  split <;> rfl
theorem rqS3_dead {s : RS} (h : ¬ s.sound) : rqS3 s = s := by
  unfold rqS3 rqS2 rqS1
  rw [rdBound_dead h, rdNum_dead h, step_dead h]
theorem rdGo_dead : ∀ (n : Nat) (s : RS), ¬ s.sound → (rdGo n s).2 = s
  | 0, _, _ => rfl
  | n + 1, s, h => by rw [rdGo, rqS3_dead h]; exact rdGo_dead n s h
theorem rrGo_dead (n : Nat) (s : RS) (h : ¬ s.sound) : rrGo n s = ([], s) := by
  cases n with
  | zero => rfl
  | succ n => rw [rrGo, if_neg h]
theorem num_zero {s : RS} (hs : s.sound) (h : ¬ (rdNum s).sound) : (numAt s.rest).1 = 0 := by
  by_cases hz : (numAt s.rest).2.2 = 0
  · exfalso
    apply h
    unfold rdNum RS.step
    rw [if_pos hs, if_pos hz]
    exact hs
  · exact ((numAt_ok s.rest).2.2.2 hz).1
theorem fail_sim {s : RS} (h : s.sound) (a : Nat) : Sim (s.failP a 29) (s.failR a) := by
  refine .inr ⟨?_, ?_, ?_, ?_, ?_⟩
  · unfold RS.failP; rw [if_pos h]; intro h2; exact absurd h2.2 (by simp)
  · intro h2; exact absurd h2.2 (by simp [RS.failR])
  · unfold RS.failP; rw [if_pos h]; rfl
  · unfold RS.failP; rw [if_pos h]; rfl
  · unfold RS.failP; rw [if_pos h]; rfl
theorem bS1_sim {s : RS} (hs : s.sound) : Sim (bS1 s) (upS s 1099511627776) := by
  unfold bS1 upS rdBound
  by_cases h1 : (rdNum s).sound
  · by_cases h2 : 1099511627776 < (numAt s.rest).1
    · rw [if_neg (by unfold bndY; rw [if_pos (.inr h2)]; decide), if_pos ⟨h1, h2⟩]
      exact fail_sim h1 s.pos
    · rw [if_pos (by unfold bndY; rw [if_neg (by omega)]), if_neg (fun h => h2 h.2)]
      exact .inl rfl
  · rw [num_zero hs h1, if_pos (by unfold bndY; rw [if_neg (by omega)]), if_neg (fun h => h1 h.1)]
    exact .inl rfl
theorem rqS1_sim {s : RS} (_hs : s.sound) : Sim (rqS1 s) (rrS1 s) := by
  unfold rqS1 rrS1 rdBound
  have hlt := (numAt_ok s.rest).1
  by_cases h1 : (rdNum s).sound
  · by_cases h2 : (numAt s.rest).1 < 256
    · rw [if_neg (by unfold bndY; rw [if_pos (.inl h2)]; decide), if_pos ⟨h1, h2⟩]
      exact fail_sim h1 s.pos
    · rw [if_pos (by unfold bndY; rw [if_neg (by omega)]), if_neg (fun h => h2 h.2)]
      exact .inl rfl
  · rw [failP_dead h1]
    have e : (if (rdNum s).sound ∧ (numAt s.rest).1 < 256 then (rdNum s).failR s.pos else rdNum s) = rdNum s := if_neg (fun h => h1 h.1)
    rw [e]
    split <;> exact .inl rfl
theorem sim_num {s t : RS} (h : Sim s t) : Sim (rdNum s) (rdNum t) ∧ s.rest = t.rest := by
  rcases h with rfl | ⟨h1, h2, h3⟩
  · exact ⟨.inl rfl, rfl⟩
  · rw [rdNum_dead h1, rdNum_dead h2, rest_dead h1, rest_dead h2]
    exact ⟨.inr ⟨h1, h2, h3⟩, rfl⟩
theorem sim_step {s t : RS} (h : Sim s t) (z : Nat) (y : Int) : Sim (s.step z y) (t.step z y) := by
  rcases h with rfl | ⟨h1, h2, h3⟩
  · exact .inl rfl
  · rw [step_dead h1, step_dead h2]
    exact .inr ⟨h1, h2, h3⟩
theorem rq_sim {s : RS} (hs : s.sound) : rqV s = rrV s ∧ Sim (rqS3 s) (rrS3 s) := by
  have h1 := rqS1_sim hs
  have h2 := sim_num h1
  have h3 := sim_num h2.1
  unfold rqV rrV rqS3 rrS3
  unfold rqS2 rrS2
  rw [h2.2, h3.2]
  exact ⟨rfl, sim_step h2.1 _ _⟩
theorem go_sim : ∀ (n : Nat) (s : RS), Sim (rdGo n s).2 (rrGo n s).2 ∧ ((rdGo n s).2.sound → (rdGo n s).1 = (rrGo n s).1)
  | 0, s => ⟨.inl rfl, fun _ => rfl⟩
  | n + 1, s => by
    by_cases hs : s.sound
    · obtain ⟨h1, h2⟩ := rq_sim hs
      rw [rdGo, rrGo, if_pos hs]
      rcases h2 with h2 | ⟨h3, h4, h5⟩
      · rw [← h2, ← h1]
        have ih := go_sim n (rqS3 s)
        exact ⟨ih.1, fun h => by rw [ih.2 h]⟩
      · rw [rrGo_dead n _ h4]
        have e := rdGo_dead n _ h3
        refine ⟨?_, fun h => ?_⟩
        · rw [e]; exact .inr ⟨h3, h4, h5⟩
        · rw [e] at h; exact absurd h h3
    · rw [rrGo_dead _ s hs]
      have e := rdGo_dead (n + 1) s hs
      rw [e]
      exact ⟨.inl rfl, fun h => absurd h hs⟩
theorem sim_end {s t : RS} (h : Sim s t) : s.endC = t.endC ∧ s.endA = t.endA := by
  rcases h with rfl | ⟨h1, h2, h3, h4, h5⟩
  · exact ⟨rfl, rfl⟩
  · unfold RS.endC RS.endA RS.errC RS.errA
    rw [if_neg h1, if_neg h2, if_neg h1, if_neg h2, h3, h4, h5]
    exact ⟨rfl, rfl⟩
theorem endC_sound {s : RS} (h : s.endC = 0) : s.sound := by
  by_cases hs : s.sound
  · exact hs
  · exfalso
    unfold RS.endC RS.errC at h
    rw [if_neg hs] at h
    by_cases hm : s.made = true
    · rw [if_pos hm] at h; exact hs ⟨hm, h⟩
    · rw [if_neg hm] at h; cases h
/-- Both read one batch. -/
theorem batch_key {s : RS} (hs : s.sound) : Sim (bEnd s) (cEnd s) ∧ ((bEnd s).sound → (numAt s.rest).1 = upV s 1099511627776 ∧ bVals s = cVals s) := by
  rcases bS1_sim hs with h | ⟨h1, h2, h3⟩
  · have e1 : bN s = cN s := by unfold bN cN; rw [h]
    have e2 : bS2 s = cS2 s := by unfold bS2 cS2; rw [h]
    have g := go_sim (cN s) (cS2 s)
    unfold bEnd cEnd bVals cVals
    rw [e1, e2]
    refine ⟨g.1, fun hd => ⟨?_, g.2 hd⟩⟩
    by_cases hc : (rdNum s).sound ∧ 1099511627776 < (numAt s.rest).1
    · exfalso
      have hu : ¬ (upS s 1099511627776).sound := by
        unfold upS; rw [if_pos hc]; intro h2; exact absurd h2.2 (by simp [RS.failR])
      have h2 : ¬ (cS2 s).sound := by unfold cS2; rw [step_dead hu]; exact hu
      rw [rdGo_dead _ _ h2] at hd
      exact h2 hd
    · unfold upV; rw [if_neg hc]
  · have b2 : bS2 s = bS1 s := step_dead h1 _ _
    have c2 : cS2 s = upS s 1099511627776 := step_dead h2 _ _
    have e1 : bEnd s = bS1 s := by unfold bEnd; rw [b2]; exact rdGo_dead _ _ h1
    have e2 : cEnd s = upS s 1099511627776 := by unfold cEnd; rw [c2, rrGo_dead _ _ h2]
    rw [e1, e2]
    exact ⟨.inr ⟨h1, h2, h3⟩, fun h => absurd h h1⟩
theorem batch_sim {s : RS} (hs : s.sound) : (bEnd s).endC = (cEnd s).endC ∧ (bEnd s).endA = (cEnd s).endA ∧ ((bEnd s).endC = 0 → (numAt s.rest).1 = upV s 1099511627776 ∧ bVals s = cVals s) := by
  have key := batch_key hs
  have he := sim_end key.1
  exact ⟨he.1, he.2, fun h => key.2 (endC_sound h)⟩
end Go.Proofs.YtgaalaoflaklgaaGreat
namespace Go.Proofs.YtgaalaoflaklgaaGreat
open Go.RowKit Crc

/-- Fields that are read one behind the other. -/
def frun : List Fd → RS → Rv → RS × Rv
  | [], s, v => (s, v)
  | f :: t, s, v => frun t (f.nxt s) (f.upd s v)
theorem bal_dead {s : RS} (h : ¬ s.sound) : balS s = s := by
  have h1 : balS1 s = s := rdBound_dead h _ _
  unfold balS balS2
  rw [h1, step_dead h, failP_dead h]
  split <;> rfl
theorem nxt_dead (f : Fd) {s : RS} (h : ¬ s.sound) : f.nxt s = s := by
  cases f with
  | ballot => exact bal_dead h
  | slot => exact rdBound_dead h _ _
  | batch =>
    show bEnd s = s
    have h1 : bS1 s = s := rdBound_dead h _ _
    have h2 : bS2 s = s := by unfold bS2; rw [h1]; exact step_dead h _ _
    unfold bEnd
    rw [h2]
    exact rdGo_dead _ _ h
  | snap => exact step_dead h _ _
theorem frun_dead : ∀ (fs : List Fd) {s : RS} (v : Rv), ¬ s.sound → (frun fs s v).1 = s
  | [], _, _, _ => rfl
  | f :: t, s, v, h => by
    rw [frun, nxt_dead f h]
    exact frun_dead t _ h
theorem bal_place {s : RS} (h : s.sound → s.place = 0) : (balS s).sound → (balS s).place = 0 := by
  have h1 : (balS1 s).sound → (balS1 s).place = 0 := rdBound_place h _ _
  have h2 : (balS2 s).sound → (balS2 s).place = 0 := RS.step_place h1 _ _
  unfold balS
  split
  · exact failP_place h2 _ _ (by decide)
  · exact h2
theorem nxt_place (f : Fd) {s : RS} (h : s.sound → s.place = 0) : (f.nxt s).sound → (f.nxt s).place = 0 := by
  cases f with
  | ballot => exact bal_place h
  | slot => exact rdBound_place h _ _
  | batch => exact bEnd_place h
  | snap => exact RS.step_place h _ _
theorem frun_snoc : ∀ (fs : List Fd) (f : Fd) (s : RS) (v : Rv), frun (fs ++ [f]) s v = (f.nxt (frun fs s v).1, f.upd (frun fs s v).1 (frun fs s v).2)
  | [], f, s, v => rfl
  | g :: t, f, s, v => by rw [List.cons_append, frun, frun_snoc t f]; rfl
theorem frun_app : ∀ (fs gs : List Fd) (s : RS) (v : Rv), frun (fs ++ gs) s v = frun gs (frun fs s v).1 (frun fs s v).2
  | [], gs, s, v => rfl
  | g :: t, gs, s, v => by rw [List.cons_append, frun, frun_app t gs]; rfl
theorem un_end (s : RS) : s.un.endC = s.endC ∧ s.un.endA = s.endA := ⟨rfl, rfl⟩
def frv (p : Nat) : Value := .iface 101 (.pointer (some ⟨p, 0, none⟩))
end Go.Proofs.YtgaalaoflaklgaaGreat
namespace Go.Proofs.YtgaalaoflaklgaaGreat
open Go.RowKit Crc

/-- While the fields are read. -/
structure Rl (fs : List Fd) (lim base p : Nat) (s : RS) (c : Mc) (w : World) (k : Nat) (s' : RS) (c' : Mc) (wr : World) : Prop where
  fr : Fr lim base p s' c' wr
  run : frun (fs.take k) s.un c.rv = (s'.un, c'.rv)
  gr : w.grownBy wr (some p)
  pl : s'.sound → s'.place = 0
theorem Rl.next {fs : List Fd} {lim base p : Nat} {s : RS} {c : Mc} {w : World} {k : Nat} {s' s1 : RS} {c' c1 : Mc} {wr w1 : World} {f : Fd} (h : Rl fs lim base p s c w k s' c' wr) (hf : fs[k]? = some f) (h1 : Fr lim base p s1 c1 w1) (h2 : s1.un = f.nxt s'.un) (h3 : c1.rv = f.upd s'.un c'.rv) (h4 : wr.grownBy w1 (some p)) : Rl fs lim base p s c w (k + 1) s1 c1 w1 := by
  refine ⟨h1, ?_, grown_trans (row := some p) h.gr h4, ?_⟩
  · rw [List.take_add_one, hf]
    show frun (fs.take k ++ [f]) s.un c.rv = _
    rw [frun_snoc, h.run, h2, h3]
  · have hp := nxt_place f (s := s'.un) h.pl
    rw [← h2] at hp
    exact hp
/-- Where a fault ends the reading. -/
theorem Rl.dead {fs : List Fd} {lim base p : Nat} {s : RS} {c : Mc} {w : World} {k : Nat} {s' : RS} {c' : Mc} {wr : World} (h : Rl fs lim base p s c w k s' c' wr) (hd : ¬ s'.sound) : (frun fs s.un c.rv).1 = s'.un := by
  have e := frun_app (fs.take k) (fs.drop k) s.un c.rv
  rw [List.take_append_drop, h.run] at e
  rw [e]
  exact frun_dead _ _ hd
theorem Rd.cells2 {K : Kd} {lim : Nat} {w : World} {p : Nat} {made : Bool} {place why : Int} {B : List Nat} {pos : Nat} (h : Rd K lim w p made place why B pos) : w.cell? ⟨p, 0, none⟩ = some (.bool made) ∧ w.cell? ⟨p, 2, none⟩ = some (.int .i64 why) := by
  obtain ⟨ao, cap, hb, _⟩ := h
  exact ⟨(block_cell hb 0).trans (by simp), (block_cell hb 2).trans (by simp)⟩

set_option maxRecDepth 10000 in
set_option maxHeartbeats 1600000 in
theorem read_any (fs : List Fd) (hn : fs.length ≤ 5) {lim base p b : Nat} {s : RS} {c : Mc} {w : World} (h : Fr lim base p s c w) (hb : w.heap[b]? = some (.cells (fs.map fun f => mv f.name (frv p)).toArray 1 (0, 0))) (hbp : b ≠ p) (hpl : s.sound → s.place = 0) :
    Calls Tryz.prog 39 #[.pointer (some ⟨p, 0, none⟩), .slice (some ⟨b, 0, none⟩) fs.length fs.length] w fun e w' => ∃ x, e = .returned x ∧ Hid (ErrV w' x (frun fs s.un c.rv).1.endC (frun fs s.un c.rv).1.endA ∧ ((frun fs s.un c.rv).1.endC = 0 → ∃ s' c', Fr lim base p s' c' w' ∧ c'.rv = (frun fs s.un c.rv).2) ∧ w.grownBy w' (some p)) := by
  have H0 : Hid (Rl fs lim base p s c w 0 s c w) := ⟨h, rfl, ⟨rfl, rfl, rfl, Nat.le_refl _, fun _ _ _ => rfl⟩, hpl⟩
  have HC : Hid (∀ wr, w.grownBy wr (some p) → ∀ (k : Nat), k < fs.length → ∃ f, fs[k]? = some f ∧ wr.cell? ⟨b, k, none⟩ = some (.func (.method f.name) #[.iface 101 (.pointer (some ⟨p, 0, none⟩))] #[])) := fun wr hg k hk => by
    refine ⟨fs[k], List.getElem?_eq_getElem hk, ?_⟩
    rw [block_cell ((hg.block b (block_lt hb) (by simpa using hbp)).trans hb)]
    simp [List.getElem?_eq_getElem hk, mv, frv]
  have HE : Hid (∀ (s' : RS) (c' : Mc) (wr : World) (k : Nat), Rl fs lim base p s c w k s' c' wr → (k = fs.length ∨ ¬ s'.sound) → Calls Tryz.prog 29 #[.pointer (some ⟨p, 0, none⟩)] wr fun e w2 => ∃ x, e = .returned x ∧ Hid (ErrV w2 x (frun fs s.un c.rv).1.endC (frun fs s.un c.rv).1.endA ∧ ((frun fs s.un c.rv).1.endC = 0 → ∃ s' c', Fr lim base p s' c' w2 ∧ c'.rv = (frun fs s.un c.rv).2) ∧ w.grownBy w2 (some p))) := fun s' c' wr k hr hk => by
    have e1 : (frun fs s.un c.rv).1 = s'.un := by
      rcases hk with rfl | hd
      · have := hr.run
        rw [List.take_length] at this
        rw [this]
      · exact hr.dead hd
    rw [e1]
    refine (rEndP (.inr ⟨p, rfl, hr.fr.rd⟩) hr.pl).mono ?_
    rintro e w2 ⟨x, rfl, hx, hb2⟩
    refine ⟨x, rfl, hx, fun hz => ?_, grown_quiet hr.gr (below_none hb2)⟩
    have hsd : s'.sound := endC_sound (s := s'.un) hz
    rcases hk with rfl | hd
    · have := hr.run
      rw [List.take_length] at this
      exact ⟨s', c', hr.fr.quiet (below_none hb2), by rw [this]⟩
    · exact absurd hsd hd
  have hm := rm_any
  have hcf := cf_any
  clear h hb hbp hpl
  generalize (frun fs s.un c.rv).1.endC = EC at *
  generalize (frun fs s.un c.rv).1.endA = EA at *
  go_enter Tryz.func39, Tryz.ntmps39
  go_wp2
  go_step3
  go_wp2
  go_step3
  go_wp2
  go_loopw [9] (fun i wr => ∃ k : Nat, k ≤ fs.length ∧ i = .int .i64 k ∧ Hid (∃ s' c', Rl fs lim base p s c w k s' c' wr)) (fun i _ => fs.length - (intOf i).toNat)
  case atStart => exact ⟨0, by omega, rfl, _, _, H0.out⟩
  case round =>
    obtain ⟨k, hk, rfl, HS⟩ := hrel
    obtain ⟨s', c', hr⟩ := HS.out
    have HR := hide hr
    clear hr HS H0
    by_cases hlt : k < fs.length
    · obtain ⟨f, hf, c0⟩ := HC.out wr HR.out.gr k hlt
      have HF := hide hf
      clear hf
      go_wp2_with fail
      refine (fd_any f HR.out.fr).mono ?_
      rintro e w1 ⟨rfl, G1⟩
      obtain ⟨s1, c1, hfr, g2, g3, g4⟩ := G1.out
      have HR1 := hide (HR.out.next HF.out hfr g2 g3 g4)
      obtain ⟨m0, m2⟩ := Rd.cells2 hfr.rd
      clear hfr g2 g3 g4 G1 c0
      go_wp2_with fail
      refine (sound_any p s1.made s1.why w1 m0 m2).mono ?_
      rintro e w1' ⟨rfl, rfl⟩
      clear m0 m2
      by_cases hs : s1.sound
      · have hv : (s1.made && (s1.why == 0)) = true := by rw [hs.1, hs.2]; rfl
        rw [hv]
        clear hv
        go_wp2
        exact ⟨⟨k + 1, by omega, by go_num, _, _, HR1.out⟩, by simp [intOf]; omega⟩
      · have hv : (s1.made && (s1.why == 0)) = false := by
          cases hm1 : s1.made
          · rfl
          · simp only [Bool.true_and, beq_eq_false_iff_ne]
            exact fun hw => hs ⟨hm1, hw⟩
        rw [hv]
        clear hv
        have HEN := hide (HE.out _ _ _ _ HR1.out (.inr hs))
        clear hs
        go_wp2_with fail
        refine HEN.out.mono ?_
        rintro e w2 ⟨x, rfl, G2⟩
        go_wp2
        rw [Exit.noGoto_ret]
        go_ret
        exact ⟨_, rfl, G2⟩
    · obtain rfl : k = fs.length := by omega
      have HEN := hide (HE.out _ _ _ _ HR.out (.inl rfl))
      go_wp2_with fail
      refine HEN.out.mono ?_
      rintro e w2 ⟨x, rfl, G2⟩
      go_wp2
      rw [Exit.noGoto_ret]
      go_ret
      exact ⟨_, rfl, G2⟩
end Go.Proofs.YtgaalaoflaklgaaGreat
