import Derived.Test.YtldhafpeigdloaaGreatDoorTList
import Derived.Test.YtldhafpeigdloaaGreatDoorM11
import Derived.Test.YtldhafpeigdloaaGreatDoorM6
import Derived.Test.YtldhafpeigdloaaGreatDoorM19
import Derived.Test.YtldhafpeigdloaaGreatDoorM0
import Derived.Test.YtldhafpeigdloaaGreatDoorM13
import Derived.Test.YtldhafpeigdloaaGreatDoorM8
import Derived.Test.YtldhafpeigdloaaGreatDoorM1
import Derived.Test.YtldhafpeigdloaaGreatDoorM2
import Derived.Test.YtldhafpeigdloaaGreatDoorRows
import Derived.WalkKit
import Derived.WalkSpells
import Derived.Outline
import Derived.Laws.BitsAllLaws
import Derived.Deep.QuietTactic
import Derived.BigQuiet
namespace Go.Proofs.YtldhafpeigdloaaGreatDoor
open Go.RowKit Crc

def kA (fs : List Mf) (k : Nat) : Bool := decide (Mf.votes ∉ fs.take k)
def kB (fs : List Mf) (k : Nat) : Bool := decide (Mf.path ∉ fs.take k)
theorem kA_next {fs : List Mf} {k : Nat} {f : Mf} (hf : fs[k]? = some f) : f.fa (kA fs k) = kA fs (k + 1) := by
  unfold kA
  rw [List.take_add_one, hf]
  cases f <;> simp [Mf.fa]
theorem kB_next {fs : List Mf} {k : Nat} {f : Mf} (hf : fs[k]? = some f) : f.fb (kB fs k) = kB fs (k + 1) := by
  unfold kB
  rw [List.take_add_one, hf]
  cases f <;> simp [Mf.fb]
theorem not_in_take {fs : List Mf} {k : Nat} {f : Mf} (hn : fs.Nodup) (hf : fs[k]? = some f) : f ∉ fs.take k := by
  intro hm
  obtain ⟨i, hi, e⟩ := List.mem_take_iff_getElem.1 hm
  obtain ⟨hk, e2⟩ := List.getElem?_eq_some_iff.1 hf
  have := (List.getElem_inj hn (h₀ := by omega) (h₁ := hk)).1 (e.trans e2.symm)
  omega
theorem Rd.cellsM {K : Kd} {lim : Nat} {w : World} {p : Nat} {made : Bool} {place why : Int} {B : List Nat} {pos : Nat} (h : Rd K lim w p made place why B pos) : w.cell? ⟨p, 0, none⟩ = some (.bool made) ∧ w.cell? ⟨p, 2, none⟩ = some (.int .i64 why) := by
  obtain ⟨ao, cap, hb, _⟩ := h
  exact ⟨(block_cell hb 0).trans (by simp), (block_cell hb 2).trans (by simp)⟩
/-- What the reading of the fields leaves, as far as safety goes. -/
def RdPost (lim p : Nat) (w w' : World) (x : Value) : Prop := (x = .nilIface ∨ ∃ g, x = .iface 84 (.pointer (some ⟨g, 0, none⟩))) ∧ (∃ a b s', Sg lim p a b s' w') ∧ w.grownBy w' (some p)
theorem Sg.quiet {lim p : Nat} {a b : Bool} {s : RS} {w w' : World} (h : Sg lim p a b s w) (hg : w.grownBy w' none) : Sg lim p a b s w' := ⟨h.rd.quiet hg, h.t, h.len, h.low, h.idx, h.vn, h.pn, h.pl, h.one⟩

set_option maxRecDepth 10000 in
set_option maxHeartbeats 1600000 in
theorem read_msg (fs : List Mf) (hnd : fs.Nodup) (hn : fs.length ≤ 6) {lim p b : Nat} {s : RS} {w : World} (h : Sg lim p true true s w) (hb : w.heap[b]? = some (.cells (fs.map fun f => mv f.name (frvM p)).toArray 1 (0, 0))) (hbp : b ≠ p) :
    Calls Tryz.prog 25 #[.pointer (some ⟨p, 0, none⟩), .slice (some ⟨b, 0, none⟩) fs.length fs.length] w fun e w' => ∃ x, e = .returned x ∧ Hid (RdPost lim p w w' x) := by
  have H0 : Hid (Sg lim p (kA fs 0) (kB fs 0) s w ∧ w.grownBy w (some p)) := ⟨by simpa [kA, kB] using h, ⟨rfl, rfl, rfl, Nat.le_refl _, fun _ _ _ => rfl⟩⟩
  have HC : Hid (∀ wr, w.grownBy wr (some p) → ∀ (k : Nat), k < fs.length → ∃ f, fs[k]? = some f ∧ wr.cell? ⟨b, k, none⟩ = some (.func (.method f.name) #[.iface 71 (.pointer (some ⟨p, 0, none⟩))] #[])) := fun wr hg k hk => by
    refine ⟨fs[k], List.getElem?_eq_getElem hk, ?_⟩
    rw [block_cell ((hg.block b (block_lt hb) (by simpa using hbp)).trans hb)]
    simp [List.getElem?_eq_getElem hk, mv, frvM]
  have HN : Hid (∀ (k : Nat) (f : Mf), fs[k]? = some f → (f = .votes → kA fs k = true) ∧ (f = .path → kB fs k = true)) := fun k f hf => ⟨fun e => by subst e; exact decide_eq_true (not_in_take hnd hf), fun e => by subst e; exact decide_eq_true (not_in_take hnd hf)⟩
  have HE : Hid (∀ (a' b' : Bool) (s' : RS) (wr : World), Sg lim p a' b' s' wr → w.grownBy wr (some p) → Calls Tryz.prog 36 #[.pointer (some ⟨p, 0, none⟩)] wr fun e w2 => ∃ x, e = .returned x ∧ Hid (RdPost lim p w w2 x)) := fun a' b' s' wr hr hg => by
    refine (rEndP (.inr ⟨p, rfl, hr.rd⟩) hr.pl).mono ?_
    rintro e w2 ⟨x, rfl, hx, hb2⟩
    refine ⟨x, rfl, ?_, ⟨_, _, _, hr.quiet (below_none hb2)⟩, grown_quiet hg (below_none hb2)⟩
    rcases hx with ⟨h0, _⟩ | ⟨⟨g, h0, _⟩, _⟩
    · exact .inl h0
    · exact .inr ⟨g, h0⟩
  have hm := mrm_any
  have hcf := mcf_any
  clear h hb hbp hnd
  go_enter Tryz.func25, Tryz.ntmps25
  go_wp2
  go_step3
  go_wp2
  go_step3
  go_wp2
  go_loopw [9] (fun i wr => ∃ k : Nat, k ≤ fs.length ∧ i = .int .i64 k ∧ Hid (∃ s', Sg lim p (kA fs k) (kB fs k) s' wr ∧ w.grownBy wr (some p))) (fun i _ => fs.length - (intOf i).toNat)
  case atStart => exact ⟨0, by omega, rfl, _, H0.out⟩
  case round =>
    obtain ⟨k, hk, rfl, HS⟩ := hrel
    obtain ⟨s', hr⟩ := HS.out
    have HR := hide hr
    clear hr HS H0
    by_cases hlt : k < fs.length
    · obtain ⟨f, hf, c0⟩ := HC.out wr HR.out.2 k hlt
      have HF := hide hf
      clear hf
      go_wp2_with fail
      refine (mf_any f HR.out.1 (HN.out k f HF.out).1 (HN.out k f HF.out).2).mono ?_
      rintro e w1 ⟨rfl, G1⟩
      obtain ⟨s1, hs1, g1⟩ := G1.out
      rw [kA_next HF.out, kB_next HF.out] at hs1
      have HR1 := hide (And.intro hs1 (grown_trans (row := some p) HR.out.2 g1))
      obtain ⟨m0, m2⟩ := Rd.cellsM hs1.rd
      clear hs1 g1 G1 c0
      go_wp2_with fail
      refine (sound_any p s1.made s1.why w1 m0 m2).mono ?_
      rintro e w1' ⟨rfl, rfl⟩
      clear m0 m2
      by_cases hs : s1.sound
      · have hv : (s1.made && (s1.why == 0)) = true := by rw [hs.1, hs.2]; rfl
        rw [hv]
        clear hv
        go_wp2
        exact ⟨⟨k + 1, by omega, by go_num, _, HR1.out⟩, by simp [intOf]; omega⟩
      · have hv : (s1.made && (s1.why == 0)) = false := by
          cases hm1 : s1.made
          · rfl
          · simp only [Bool.true_and, beq_eq_false_iff_ne]
            exact fun hw => hs ⟨hm1, hw⟩
        rw [hv]
        clear hv
        have HEN := hide (HE.out _ _ _ _ HR1.out.1 HR1.out.2)
        clear hs
        go_wp2_with fail
        refine HEN.out.mono ?_
        rintro e w2 ⟨x, rfl, G2⟩
        go_wp2
        rw [Exit.noGoto_ret]
        go_ret
        exact ⟨_, rfl, G2⟩
    · obtain rfl : k = fs.length := by omega
      have HEN := hide (HE.out _ _ _ _ HR.out.1 HR.out.2)
      go_wp2_with fail
      refine HEN.out.mono ?_
      rintro e w2 ⟨x, rfl, G2⟩
      go_wp2
      rw [Exit.noGoto_ret]
      go_ret
      exact ⟨_, rfl, G2⟩
end Go.Proofs.YtldhafpeigdloaaGreatDoor
namespace Go.Proofs.YtldhafpeigdloaaGreatDoor
open Go.RowKit Crc

theorem step_dead {s : RS} (h : ¬ s.sound) (z : Nat) (y : Int) : s.step z y = s := if_neg h
theorem rest_dead {s : RS} (h : ¬ s.sound) : s.rest = [] := restB_sound h
theorem rdNum_dead {s : RS} (h : ¬ s.sound) : rdNum s = s := step_dead h _ _
theorem failP_dead {s : RS} (h : ¬ s.sound) (a y : Int) : s.failP a y = s := if_neg h
theorem rdBound_dead {s : RS} (h : ¬ s.sound) (a b : Nat) : rdBound s a b = s := by
  unfold rdBound
  rw [rdNum_dead h, failP_dead h]
  split <;> rfl
theorem rqS3_dead {s : RS} (h : ¬ s.sound) : rqS3 s = s := by
  unfold rqS3 rqS2 rqS1
  rw [rdBound_dead h, rdNum_dead h, step_dead h]
theorem rdGo_dead : ∀ (n : Nat) (s : RS), ¬ s.sound → (rdGo n s).2 = s
  | 0, _, _ => rfl
  | n + 1, s, h => by rw [rdGo, rqS3_dead h]; exact rdGo_dead n s h
theorem endC_sound {s : RS} (h : s.endC = 0) : s.sound := by
  by_cases hs : s.sound
  · exact hs
  · exfalso
    unfold RS.endC RS.errC at h
    rw [if_neg hs] at h
    by_cases hm : s.made = true
    · rw [if_pos hm] at h; exact hs ⟨hm, h⟩
    · rw [if_neg hm] at h; cases h
end Go.Proofs.YtldhafpeigdloaaGreatDoor
namespace Go.Proofs.YtldhafpeigdloaaGreatDoor
open Go.RowKit Crc

/-- The fields of a message, read one behind the other. -/
def mrun : List Mf → RS → Mv → RS × Mv
  | [], s, v => (s, v)
  | f :: t, s, v => mrun t (f.nxt s v) (f.upd s v)
theorem bal_deadM {s : RS} (h : ¬ s.sound) : balS s = s := by
  have h1 : balS1 s = s := rdBound_dead h _ _
  unfold balS balS2
  rw [h1, step_dead h, failP_dead h]
  split <;> rfl
theorem bEnd_deadM {s : RS} (h : ¬ s.sound) : bEnd s = s := by
  have h1 : bS1 s = s := rdBound_dead h _ _
  have h2 : bS2 s = s := by unfold bS2; rw [h1]; exact step_dead h _ _
  unfold bEnd
  rw [h2]
  exact rdGo_dead _ _ h
theorem vEnd_dead {s : RS} (h : ¬ s.sound) (l : Nat) : vEnd s l = s := by
  have h1 : vS1 s l = s := by
    unfold vS1
    split
    · exact (congrArg (fun x => RS.failP x s.pos 30) (rdBound_dead h _ _)).trans (failP_dead h _ _)
    · exact rdBound_dead h _ _
  unfold vEnd
  rw [h1, bal_deadM h, bEnd_deadM h]
theorem vSt_dead {s : RS} (h : ¬ s.sound) (l : Nat) : ∀ k, (vSt s l k).1 = s
  | 0 => rfl
  | k + 1 => by
    simp only [vSt]
    exact (congrArg (fun x => vEnd x (vSt s l k).2) (vSt_dead h l k)).trans (vEnd_dead h _)
theorem hSt_dead {s : RS} (h : ¬ s.sound) : ∀ k, hSt k s = s
  | 0 => rfl
  | k + 1 => by
    rw [hSt, hSt_dead h k]
    exact step_dead h _ _
theorem nxtM_dead (f : Mf) {s : RS} (h : ¬ s.sound) (v : Mv) : f.nxt s v = s := by
  cases f with
  | seq => exact step_dead h _ _
  | command => exact step_dead h _ _
  | stamp => exact rdBound_dead h _ _
  | outcome => exact rdBound_dead h _ _
  | result => exact step_dead h _ _
  | ballot => exact bal_deadM h
  | low => exact rdBound_dead h _ _
  | votes =>
    show (vSt (vC s) v.low (countAt s.rest 8).1).1 = s
    rw [show vC s = s from step_dead h _ _]
    exact vSt_dead h _ _
  | slot => exact rdBound_dead h _ _
  | batch => exact bEnd_deadM h
  | suspect => exact step_dead h _ _
  | index => exact rdBound_dead h _ _
  | total => exact rdBound_dead h _ _
  | root => exact step_dead h _ _
  | chunk =>
    show chunkS s = s
    unfold chunkS
    rw [step_dead h, failP_dead h]
    split <;> rfl
  | path =>
    show hSt (countAt s.rest 6).1 (pC s) = s
    rw [show pC s = s from step_dead h _ _]
    exact hSt_dead h _
theorem mrun_dead : ∀ (fs : List Mf) {s : RS} (v : Mv), ¬ s.sound → (mrun fs s v).1 = s
  | [], _, _, _ => rfl
  | f :: t, s, v, h => by
    rw [mrun, nxtM_dead f h]
    exact mrun_dead t _ h
theorem mrun_app : ∀ (fs gs : List Mf) (s : RS) (v : Mv), mrun (fs ++ gs) s v = mrun gs (mrun fs s v).1 (mrun fs s v).2
  | [], gs, s, v => rfl
  | g :: t, gs, s, v => by rw [List.cons_append, mrun, mrun_app t gs]; rfl
/-- While the fields are read. -/
structure Ml (fs : List Mf) (lim base p : Nat) (s : RS) (c : Mk) (w : World) (k : Nat) (s' : RS) (c' : Mk) (wr : World) : Prop where
  fr : Fm lim base p (kA fs k) (kB fs k) s' c' wr
  run : mrun (fs.take k) s.un c.mv = (s'.un, c'.mv)
  gr : w.grownBy wr (some p)
theorem Ml.next {fs : List Mf} {lim base p : Nat} {s : RS} {c : Mk} {w : World} {k : Nat} {s' : RS} {c' : Mk} {wr w1 : World} {f : Mf} (h : Ml fs lim base p s c w k s' c' wr) (hf : fs[k]? = some f) (h1 : MdPost f lim base p (kA fs k) (kB fs k) s' c' wr w1) : ∃ s1 c1, Ml fs lim base p s c w (k + 1) s1 c1 w1 := by
  obtain ⟨s1, c1, a, b, d, e⟩ := h1
  rw [kA_next hf, kB_next hf] at a
  refine ⟨s1, c1, a, ?_, grown_trans (row := some p) h.gr e⟩
  rw [List.take_add_one, hf]
  show mrun (fs.take k ++ [f]) s.un c.mv = _
  rw [mrun_app, h.run, b, d]
  rfl
theorem Ml.dead {fs : List Mf} {lim base p : Nat} {s : RS} {c : Mk} {w : World} {k : Nat} {s' : RS} {c' : Mk} {wr : World} (h : Ml fs lim base p s c w k s' c' wr) (hd : ¬ s'.sound) : (mrun fs s.un c.mv).1 = s'.un := by
  have e := mrun_app (fs.take k) (fs.drop k) s.un c.mv
  rw [List.take_append_drop, h.run] at e
  rw [e]
  exact mrun_dead _ _ hd
/-- What the reading leaves. -/
def RmPost (fs : List Mf) (lim base p : Nat) (s : RS) (c : Mk) (w w' : World) (x : Value) : Prop := ErrV w' x (mrun fs s.un c.mv).1.endC (mrun fs s.un c.mv).1.endA ∧ ((mrun fs s.un c.mv).1.endC = 0 → ∃ a b s' c', Fm lim base p a b s' c' w' ∧ c'.mv = (mrun fs s.un c.mv).2) ∧ w.grownBy w' (some p)

set_option maxRecDepth 10000 in
set_option maxHeartbeats 1600000 in
theorem read_is (fs : List Mf) (hnd : fs.Nodup) (hn : fs.length ≤ 6) {lim base p b : Nat} {s : RS} {c : Mk} {w : World} (h : Fm lim base p true true s c w) (hb : w.heap[b]? = some (.cells (fs.map fun f => mv f.name (frvM p)).toArray 1 (0, 0))) (hbp : b ≠ p) :
    Calls Tryz.prog 25 #[.pointer (some ⟨p, 0, none⟩), .slice (some ⟨b, 0, none⟩) fs.length fs.length] w fun e w' => ∃ x, e = .returned x ∧ Hid (RmPost fs lim base p s c w w' x) := by
  have H0 : Hid (Ml fs lim base p s c w 0 s c w) := ⟨by simpa [kA, kB] using h, rfl, ⟨rfl, rfl, rfl, Nat.le_refl _, fun _ _ _ => rfl⟩⟩
  have HC : Hid (∀ wr, w.grownBy wr (some p) → ∀ (k : Nat), k < fs.length → ∃ f, fs[k]? = some f ∧ wr.cell? ⟨b, k, none⟩ = some (.func (.method f.name) #[.iface 71 (.pointer (some ⟨p, 0, none⟩))] #[])) := fun wr hg k hk => by
    refine ⟨fs[k], List.getElem?_eq_getElem hk, ?_⟩
    rw [block_cell ((hg.block b (block_lt hb) (by simpa using hbp)).trans hb)]
    simp [List.getElem?_eq_getElem hk, mv, frvM]
  have HN : Hid (∀ (k : Nat) (f : Mf), fs[k]? = some f → (f = .votes → kA fs k = true) ∧ (f = .path → kB fs k = true)) := fun k f hf => ⟨fun e => by subst e; exact decide_eq_true (not_in_take hnd hf), fun e => by subst e; exact decide_eq_true (not_in_take hnd hf)⟩
  have HE : Hid (∀ (s' : RS) (c' : Mk) (wr : World) (k : Nat), Ml fs lim base p s c w k s' c' wr → (k = fs.length ∨ ¬ s'.sound) → Calls Tryz.prog 36 #[.pointer (some ⟨p, 0, none⟩)] wr fun e w2 => ∃ x, e = .returned x ∧ Hid (RmPost fs lim base p s c w w2 x)) := fun s' c' wr k hr hk => by
    have e1 : (mrun fs s.un c.mv).1 = s'.un := by
      rcases hk with rfl | hd
      · have := hr.run
        rw [List.take_length] at this
        rw [this]
      · exact hr.dead hd
    refine (rEndP (.inr ⟨p, rfl, hr.fr.rd⟩) hr.fr.pl).mono ?_
    rintro e w2 ⟨x, rfl, hx, hb2⟩
    refine ⟨x, rfl, ?_, fun hz => ?_, grown_quiet hr.gr (below_none hb2)⟩
    · rw [e1]; exact hx
    · rw [e1] at hz
      have hsd : s'.sound := endC_sound (s := s'.un) hz
      rcases hk with rfl | hd
      · have := hr.run
        rw [List.take_length] at this
        exact ⟨_, _, s', c', hr.fr.quiet (below_none hb2), by rw [this]⟩
      · exact absurd hsd hd
  have hm := mrm_any
  have hcf := mcf_any
  clear h hb hbp hnd
  go_enter Tryz.func25, Tryz.ntmps25
  go_wp2
  go_step3
  go_wp2
  go_step3
  go_wp2
  go_loopw [9] (fun i wr => ∃ k : Nat, k ≤ fs.length ∧ i = .int .i64 k ∧ Hid (∃ s' c', Ml fs lim base p s c w k s' c' wr)) (fun i _ => fs.length - (intOf i).toNat)
  case atStart => exact ⟨0, by omega, rfl, _, _, H0.out⟩
  case round =>
    obtain ⟨k, hk, rfl, HS⟩ := hrel
    obtain ⟨s', c', hr⟩ := HS.out
    have HR := hide hr
    clear hr HS H0
    by_cases hlt : k < fs.length
    · obtain ⟨f, hf, c0⟩ := HC.out wr HR.out.gr k hlt
      have HF := hide hf
      clear hf
      go_wp2_with fail
      refine (md_any f HR.out.fr (HN.out k f HF.out).1 (HN.out k f HF.out).2).mono ?_
      rintro e w1 ⟨rfl, G1⟩
      obtain ⟨s1, c1, hs1⟩ := HR.out.next HF.out G1.out
      have HR1 := hide hs1
      obtain ⟨m0, m2⟩ := Rd.cellsM hs1.fr.rd
      clear hs1 G1 c0
      go_wp2_with fail
      refine (sound_any p s1.made s1.why w1 m0 m2).mono ?_
      rintro e w1' ⟨rfl, rfl⟩
      clear m0 m2
      by_cases hs : s1.sound
      · have hv : (s1.made && (s1.why == 0)) = true := by rw [hs.1, hs.2]; rfl
        rw [hv]
        clear hv
        go_wp2
        exact ⟨⟨k + 1, by omega, by go_num, _, _, HR1.out⟩, by simp [intOf]; omega⟩
      · have hv : (s1.made && (s1.why == 0)) = false := by
          cases hm1 : s1.made
          · rfl
          · simp only [Bool.true_and, beq_eq_false_iff_ne]
            exact fun hw => hs ⟨hm1, hw⟩
        rw [hv]
        clear hv
        have HEN := hide (HE.out _ _ _ _ HR1.out (.inr hs))
        clear hs
        go_wp2_with fail
        refine HEN.out.mono ?_
        rintro e w2 ⟨x, rfl, G2⟩
        go_wp2
        rw [Exit.noGoto_ret]
        go_ret
        exact ⟨_, rfl, G2⟩
    · obtain rfl : k = fs.length := by omega
      have HEN := hide (HE.out _ _ _ _ HR.out (.inl rfl))
      go_wp2_with fail
      refine HEN.out.mono ?_
      rintro e w2 ⟨x, rfl, G2⟩
      go_wp2
      rw [Exit.noGoto_ret]
      go_ret
      exact ⟨_, rfl, G2⟩
end Go.Proofs.YtldhafpeigdloaaGreatDoor
namespace Go.Proofs.YtldhafpeigdloaaGreatDoor
open Go.RowKit Crc

set_option maxRecDepth 10000 in
set_option maxHeartbeats 800000 in
theorem append_any (g n cap v s : Nat) (vi si : Int) (xs : List Value) (w : World) (hvi : vi = (v : Int)) (hsi : si = (s : Int)) (hs : s ≤ 8) (hroom : n + s ≤ cap)
  (hown : w.ownsRow g 5 1 (.slice (some ⟨g, 0, none⟩) n cap) n xs) :
    Calls Tryz.prog 31 #[.slice (some ⟨g, 0, none⟩) n cap, .int .u64 vi, .int .i64 si] w fun e w' => e = .returned (.slice (some ⟨g, 0, none⟩) (n + s) cap) ∧
      w'.ownsRow g 5 1 (.slice (some ⟨g, 0, none⟩) (n + s) cap) (n + s) (xs ++ vals (big v s)) ∧ w.grownBy w' (some g) := by
  obtain ⟨i0, hi, hz0, hz1, hz2⟩ := info_parts Tryz.info5
  subst hvi
  subst hsi
  go_enter Tryz.func31, Tryz.ntmps31
  go_wp2
  go_loopw [0, 7] (fun sl i wr => ∃ j : Nat, j ≤ s ∧ i = .int .i64 ((s : Int) - 1 - (j : Int)) ∧ sl = .slice (some ⟨g, 0, none⟩) (n + j) cap ∧ wr.ownsRow g 5 1 sl (n + j) (xs ++ vals (bigTo v s j)) ∧ w.grownBy wr (some g))
    (fun _ i _ => (intOf i + 1).toNat)
  case atStart => exact ⟨0, by omega, by go_num, rfl, by simpa [bigTo, vals] using hown, ⟨rfl, rfl, rfl, Nat.le_refl _, fun _ _ _ => rfl⟩⟩
  case round =>
    clear hown
    obtain ⟨j, hj, rfl, rfl, hown, hnx⟩ := hrel
    by_cases hlt : j < s
    · obtain ⟨i, hi'⟩ : ∃ i : Nat, i + j + 1 = s := ⟨s - 1 - j, by omega⟩
      have he : (s : Int) - 1 - (j : Int) = (i : Int) := by omega
      have HI : Hid (i = s - 1 - j) := by show _ = _; omega
      have hi8 : i ≤ 7 := by omega
      have HT : Hid (vals (bigTo v s (j + 1)) = vals (bigTo v s j) ++ [.int .u8 ((v : Int) / (2 : Int) ^ (8 * i) % (256 : Int))]) := by
        show _ = _
        simp only [bigTo]
        rw [vals_append, vals_one, ← HI.out, big_byte]
      clear hi'
      go_wp2_with (first
        | (at_builtin; refine wpList_append_own_spare _ rfl (.tmp 14) (.tmp 20) 31 rfl g 5 i0 1 Tryz.underlying31 hi hz1 g (n + j) cap _ rfl (hown.alloc _) ⟨wr.heap.size, 0, none⟩ 1 1 [.int .u8 ((v : Int) / (2 : Int) ^ (8 * i) % (256 : Int))] rfl rfl (cell_one_new _ _ _) (Shade.one _ rfl) (by omega) ?_; intro w1 hown1 hgrow1))
      go_roundw
      case rel =>
        exact ⟨j + 1, by omega, by have := HI.out; go_num, by rw [Nat.add_assoc], by rw [HT.out, ← List.append_assoc, ← Nat.add_assoc]; exact hown1, grown_trans (grown_trans hnx (World.grownBy_alloc _ _ _)) hgrow1⟩
      case measure => simp [intOf]; omega
    · obtain rfl : j = s := by omega
      go_wp2
      go_ret
      exact ⟨rfl, hown, hnx⟩
end Go.Proofs.YtldhafpeigdloaaGreatDoor
namespace Go.Proofs.YtldhafpeigdloaaGreatDoor
open Go.RowKit Crc

def Table (w : World) : Prop := ∀ i, i < 16 → w.cell? ⟨0, i, none⟩ = some (.int .u32 ((tab.getD i 0 : Nat) : Int))

theorem tab_lt (i : Nat) : tab.getD i 0 < 4294967296 := by
  by_cases h : i < 16
  · have : ∀ i, i < 16 → tab.getD i 0 < 4294967296 := by decide
    exact this i h
  · rw [List.getD_eq_getElem?_getD, List.getElem?_eq_none (by simp [tab]; omega)]; simp

/-- One half step, with names for what the walk sees. -/
theorem half_parts (x1 : Nat) (h : x1 < 4294967296) (w : World) (hT : Table w) : ∃ j t x2 : Nat, j < 16 ∧ x2 < 4294967296 ∧ bits .and .u32 (x1 : Int) 15 = (j : Int) ∧ w.cell? ⟨0, j, none⟩ = some (.int .u32 (t : Int)) ∧
    bits .xor .u32 ((x1 : Int) / 16) (t : Int) = (x2 : Int) ∧ x2 = half x1 := by
  refine ⟨x1 &&& 15, tab.getD (x1 &&& 15) 0, half x1, and15_lt x1, ?_, u32_and_nat x1 15 h (by omega), hT _ (and15_lt x1), ?_, rfl⟩
  · unfold half
    exact xor_lt32 _ _ (by rw [Nat.shiftRight_eq_div_pow]; omega) (tab_lt _)
  · have e : ((x1 : Int) / (16 : Int)) = ((x1 >>> 4 : Nat) : Int) := by rw [Nat.shiftRight_eq_div_pow]; omega
    rw [e]
    exact u32_xor_nat _ _ (by rw [Nat.shiftRight_eq_div_pow]; omega) (tab_lt _)

theorem not_u32 (x : Nat) (h : x < 4294967296) : bits .xor .u32 IntKind.u32.max (x : Int) = ((x ^^^ 4294967295 : Nat) : Int) := by
  rw [Nat.xor_comm]; exact u32_xor_nat 4294967295 x (by omega) h
theorem u32_unsigned : IntKind.u32.signed = false := rfl

set_option maxRecDepth 10000 in
set_option maxHeartbeats 400000 in
theorem sum_any (b off : Nat) (ao : Option Addr) (B : List Nat) (n cap : Nat) (w : World) (hao : 0 < n → ao = some ⟨b, off, none⟩) (hn : n = B.length) (hl : n ≤ 140737488355328) (hB : ∀ x ∈ B, x < 256) (hT : Table w)
  (hc : ∀ i, i < n → w.cell? ⟨b, off + i, none⟩ = some (.int .u8 ((B.getD i 0 : Nat) : Int))) :
    Calls Tryz.prog 32 #[.slice ao n cap] w fun e w' => e = .returned (.int .u32 (Crc.sum B)) ∧ w' = w := by
  have HA : Hid (0 < n → ao = some ⟨b, off, none⟩) := hao
  have HN : Hid (n = B.length) := hn
  have HT : Hid (Table w) := hT
  have HC : Hid (∀ i, i < n → w.cell? ⟨b, off + i, none⟩ = some (.int .u8 ((B.getD i 0 : Nat) : Int))) := hc
  clear hn hT hc hao
  go_enter Tryz.func32, Tryz.ntmps32
  go_wp2
  go_loop [3, 8] (fun s i => ∃ k x : Nat, k ≤ n ∧ x < 4294967296 ∧ i = .int .i64 k ∧ s = .int .u32 x ∧ Hid (x = sumFrom 4294967295 (B.take k))) (fun _ i => n - (intOf i).toNat)
  case atStart => exact ⟨0, 4294967295, Nat.zero_le _, by omega, rfl, rfl, by show _ = _; simp [sumFrom]⟩
  case round =>
    obtain ⟨k, x, hk, hx, rfl, rfl, HX⟩ := hrel
    by_cases hlt : k < n
    · have hck := HC.out k hlt
      obtain rfl := HA.out (by omega)
      have hcb : B.getD k 0 < 256 := getD_lt B hB k
      have hst := sumFrom_step 4294967295 B k (by have := HN.out; omega)
      rw [← HX.out] at hst
      obtain ⟨c, hcd⟩ : ∃ c, c = B.getD k 0 := ⟨_, rfl⟩
      rw [← hcd] at hck hcb hst
      have e1 : bits .xor .u32 (x : Int) (c : Int) = ((x ^^^ c : Nat) : Int) := u32_xor_nat x c hx (by omega)
      have e1' : bits .xor .u32 (x : Int) ((c : Int) % 4294967296) = ((x ^^^ c : Nat) : Int) := by rw [show (c : Int) % 4294967296 = c by omega]; exact e1
      have h1 := xor_lt32 x c hx (by omega)
      rw [← byteT_eq] at hst
      unfold byteT at hst
      generalize x ^^^ c = x1 at *
      obtain ⟨j1, t1, x2, hj1, hx2, a1, a2, a3, a4⟩ := half_parts x1 h1 w HT.out
      obtain ⟨j2, t2, x3, hj2, hx3, b1, b2, b3, b4⟩ := half_parts x2 hx2 w HT.out
      have HS : Hid (x3 = sumFrom 4294967295 (B.take (k + 1))) := by show _ = _; rw [hst, b4, a4]
      clear hst a4 b4 hcd HX
      go_wp2
      go_round
      case rel => exact ⟨k + 1, x3, by omega, hx3, by go_num, rfl, HS⟩
      case measure => simp [intOf]; omega
    · have hfin := not_u32 x hx
      have HF : Hid (x ^^^ 4294967295 = Crc.sum B) := by
        show _ = _
        unfold Crc.sum; rw [HX.out, List.take_of_length_le (by have := HN.out; omega)]
      have husg := u32_unsigned
      clear HX HC
      go_wp2
      go_ret
      exact ⟨by rw [← HF.out]; rfl, rfl⟩
end Go.Proofs.YtldhafpeigdloaaGreatDoor
namespace Go.Proofs.YtldhafpeigdloaaGreatDoor
open Go.RowKit Crc

def lo4 (c0 c1 c2 c3 : Nat) : Nat := c0 + c1 * 256 + c2 * 65536 + c3 * 16777216

theorem lo4_or (c0 c1 c2 c3 : Nat) (h0 : c0 < 256) (h1 : c1 < 256) (h2 : c2 < 256) (h3 : c3 < 256) :
    bits .or .u32 (bits .or .u32 (bits .or .u32 (c0 : Int) ((c1 : Int) * (256 : Int))) ((c2 : Int) * (65536 : Int))) ((c3 : Int) * (16777216 : Int)) = ((lo4 c0 c1 c2 c3 : Nat) : Int) := by
  have e1 : (c1 : Int) * (256 : Int) = ((c1 * 256 : Nat) : Int) := by omega
  have e2 : (c2 : Int) * (65536 : Int) = ((c2 * 65536 : Nat) : Int) := by omega
  have e3 : (c3 : Int) * (16777216 : Int) = ((c3 * 16777216 : Nat) : Int) := by omega
  have o1 : c0 ||| c1 * 256 = c0 + c1 * 256 := or_add c0 c1 8 h0
  have o2 : (c0 + c1 * 256) ||| c2 * 65536 = c0 + c1 * 256 + c2 * 65536 := or_add _ c2 16 (by omega)
  have o3 : (c0 + c1 * 256 + c2 * 65536) ||| c3 * 16777216 = c0 + c1 * 256 + c2 * 65536 + c3 * 16777216 := or_add _ c3 24 (by omega)
  rw [e1, e2, e3, u32_or_nat _ _ (by omega) (by omega), o1, u32_or_nat _ _ (by omega) (by omega), o2, u32_or_nat _ _ (by omega) (by omega), o3]
  rfl

set_option maxRecDepth 10000 in
set_option maxHeartbeats 400000 in
theorem low_any (b off n cap c0 c1 c2 c3 : Nat) (w : World) (hn : 4 ≤ n) (h0 : c0 < 256) (h1 : c1 < 256) (h2 : c2 < 256) (h3 : c3 < 256)
   (k0 : w.cell? ⟨b, off, none⟩ = some (.int .u8 (c0 : Int))) (k1 : w.cell? ⟨b, off + 1, none⟩ = some (.int .u8 (c1 : Int)))
   (k2 : w.cell? ⟨b, off + 2, none⟩ = some (.int .u8 (c2 : Int))) (k3 : w.cell? ⟨b, off + 3, none⟩ = some (.int .u8 (c3 : Int))) :
    Calls Tryz.prog 34 #[.slice (some ⟨b, off, none⟩) n cap] w fun e w' => e = .returned (.int .u32 (lo4 c0 c1 c2 c3 : Nat)) ∧ ∃ q, w' = w.drewN q := by
  go_enter Tryz.func34, Tryz.ntmps34
  go_wp2
  go_quiet (fail)
  go_wp2
  go_ret
  exact ⟨by rw [← lo4_or c0 c1 c2 c3 h0 h1 h2 h3]; rfl, nq, rfl⟩
end Go.Proofs.YtldhafpeigdloaaGreatDoor
