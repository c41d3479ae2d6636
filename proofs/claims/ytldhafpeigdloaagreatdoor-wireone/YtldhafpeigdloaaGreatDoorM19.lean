import Derived.Test.YtldhafpeigdloaaGreatDoorM0
import Derived.Deep.RegionHeld
import Derived.Test.YtldhafpeigdloaaGreatDoorTPath
import Derived.Test.YtldhafpeigdloaaGreatDoorUVotes
import Derived.Test.YtldhafpeigdloaaGreatDoorUPath
namespace Go.Proofs.YtldhafpeigdloaaGreatDoor
open Go.RowKit Crc

/-- A method of whatever lies in an interface, as a value. -/
def mv (name : String) (r : Value) : Value := .func (.method name) #[r] #[]
theorem alloc_here (w : World) (o : Obj) : (w.alloc o).drew.heap[w.heap.size]? = some o := by
  show (w.alloc o).heap[w.heap.size]? = some o
  simp [World.alloc, -World.alloc_eq]
theorem below_here (w : World) (o : Obj) : Below w.heap.size w (w.alloc o).drew := by
  have h := below_alloc1 w o
  exact ⟨h.os, h.tape, h.output, h.size, h.block⟩
theorem mk_func (fn : Fn) (first cap : Array Value) (w : World) : (Instr.makeFunc fn first cap).run Tryz.prog w = .ok (.func fn first cap) w := rfl

end Go.Proofs.YtldhafpeigdloaaGreatDoor
namespace Go.Proofs.YtldhafpeigdloaaGreatDoor
open Go.RowKit Crc

/-- The fields that a message may have. -/
inductive Mf where
  | seq | command | stamp | outcome | result | ballot | low | votes | slot | batch | suspect | index | total | root | chunk | path
  deriving DecidableEq
def Mf.name : Mf → String
  | .seq => "quorum/wire.seq"
  | .command => "quorum/wire.command"
  | .stamp => "quorum/wire.stamp"
  | .outcome => "quorum/wire.outcome"
  | .result => "quorum/wire.result"
  | .ballot => "quorum/wire.ballot"
  | .low => "quorum/wire.low"
  | .votes => "quorum/wire.votes"
  | .slot => "quorum/wire.slot"
  | .batch => "quorum/wire.batch"
  | .suspect => "quorum/wire.suspect"
  | .index => "quorum/wire.index"
  | .total => "quorum/wire.total"
  | .root => "quorum/wire.root"
  | .chunk => "quorum/wire.chunk"
  | .path => "quorum/wire.path"
def Mf.rfn : Mf → Nat
  | .seq => 120
  | .command => 113
  | .stamp => 122
  | .outcome => 116
  | .result => 118
  | .ballot => 110
  | .low => 115
  | .votes => 125
  | .slot => 121
  | .batch => 111
  | .suspect => 123
  | .index => 114
  | .total => 124
  | .root => 119
  | .chunk => 112
  | .path => 117
theorem mrm_any (f : Mf) (a : Addr) (w : World) : (method 265 71 (.pointer (some a)) f.name).run Tryz.prog w = .ok (f.rfn, .pointer (some a)) w := by
  cases f <;> kernel_rfl
theorem mcf_any (f : Mf) (args : Array Value) (w : World) : (callFunc f.rfn args).run Tryz.prog w = .ok (.enter f.rfn args) w := by
  cases f <;> kernel_rfl
/-- A reader with its message, as far as safety goes. -/
structure Sg (lim p : Nat) (a b : Bool) (s : RS) (w : World) : Prop where
  rd : RdS lim w p s
  t : s.K.t = 78
  len : s.K.R.length = 49
  low : ∃ i : Nat, s.K.R[4]? = some (.int .u64 (i : Int))
  idx : ∃ i : Nat, s.K.R[14]? = some (.int .u64 (i : Int))
  vn : a = true → s.K.R[5]? = some (.slice none 0 0)
  pn : b = true → s.K.R[48]? = some (.slice none 0 0)
  pl : s.sound → s.place = 0
  one : ∀ u ∈ s.K.R, u.oneCell' = true
/-- One cell, or two, or a row of cells is set that safety does not hang on. -/
theorem Sg.put {lim p : Nat} {a b : Bool} {s t : RS} {w w' : World} (h : Sg lim p a b s w) (hK : t.K = s.K) (hp : t.sound → t.place = 0) (j : Nat) (v : Value) (hr : RdS lim w' p (t.setR j v)) (hj : j ≠ 4 ∧ j ≠ 14 ∧ j ≠ 5 ∧ j ≠ 48) (hv : v.oneCell' = true) : Sg lim p a b (t.setR j v) w' := by
  obtain ⟨j1, j2, j3, j4⟩ := hj
  refine ⟨hr, ?_, ?_, ?_, ?_, fun e => ?_, fun e => ?_, setR_place hp j v, setR_one (by rw [hK]; exact h.one) j hv⟩
  · rw [setR_t, hK]; exact h.t
  · rw [setR_len, hK]; exact h.len
  · rw [setR_far _ _ _ _ (fun e => j1 e.symm), hK]; exact h.low
  · rw [setR_far _ _ _ _ (fun e => j2 e.symm), hK]; exact h.idx
  · rw [setR_far _ _ _ _ (fun e => j3 e.symm), hK]; exact h.vn e
  · rw [setR_far _ _ _ _ (fun e => j4 e.symm), hK]; exact h.pn e
theorem Sg.putN {lim p : Nat} {a b : Bool} {s t : RS} {w w' : World} (h : Sg lim p a b s w) (hK : t.K = s.K) (hp : t.sound → t.place = 0) (j : Nat) (n : Nat) (hr : RdS lim w' p (t.setR j (.int .u64 (n : Int)))) (hj : j = 4 ∨ j = 14) : Sg lim p a b (t.setR j (.int .u64 (n : Int))) w' := by
  have hl : j < t.K.R.length := by rw [hK, h.len]; omega
  refine ⟨hr, ?_, ?_, ?_, ?_, fun e => ?_, fun e => ?_, setR_place hp j _, setR_one (by rw [hK]; exact h.one) j rfl⟩
  · rw [setR_t, hK]; exact h.t
  · rw [setR_len, hK]; exact h.len
  · rcases hj with rfl | rfl
    · exact ⟨n, setR_same _ _ _ hl⟩
    · rw [setR_far _ _ _ _ (by decide), hK]; exact h.low
  · rcases hj with rfl | rfl
    · rw [setR_far _ _ _ _ (by decide), hK]; exact h.idx
    · exact ⟨n, setR_same _ _ _ hl⟩
  · rw [setR_far _ _ _ _ (by omega), hK]; exact h.vn e
  · rw [setR_far _ _ _ _ (by omega), hK]; exact h.pn e
end Go.Proofs.YtldhafpeigdloaaGreatDoor
namespace Go.Proofs.YtldhafpeigdloaaGreatDoor
open Go.RowKit Crc

theorem Sg.of {lim p : Nat} {a b : Bool} {s s' : RS} {w w' : World} (h : Sg lim p a b s w) (hr : RdS lim w' p s') (ht : s'.K.t = s.K.t) (hl : s'.K.R.length = s.K.R.length) (far : ∀ j, j = 4 ∨ j = 14 ∨ j = 5 ∨ j = 48 → s'.K.R[j]? = s.K.R[j]?) (hp : s'.sound → s'.place = 0) (h1 : ∀ u ∈ s'.K.R, u.oneCell' = true) : Sg lim p a b s' w' :=
  ⟨hr, ht.trans h.t, hl.trans h.len, by rw [far 4 (by simp)]; exact h.low, by rw [far 14 (by simp)]; exact h.idx, fun e => by rw [far 5 (by simp)]; exact h.vn e, fun e => by rw [far 48 (by simp)]; exact h.pn e, hp, h1⟩
def Mf.fa : Mf → Bool → Bool
  | .votes, _ => false
  | _, a => a
def Mf.fb : Mf → Bool → Bool
  | .path, _ => false
  | _, b => b
theorem setRs_place : ∀ (vs : List Value) {s : RS} (j : Nat), (s.sound → s.place = 0) → (s.setRs j vs).sound → (s.setRs j vs).place = 0
  | [], _, _, h => h
  | v :: r, _, j, h => setRs_place r (j + 1) (setR_place h j v)
theorem setRs_one : ∀ (vs : List Value) {s : RS} (j : Nat), (∀ u ∈ s.K.R, u.oneCell' = true) → (∀ u ∈ vs, u.oneCell' = true) → ∀ u ∈ (s.setRs j vs).K.R, u.oneCell' = true
  | [], _, _, h, _ => h
  | v :: r, _, j, h, hv => setRs_one r (j + 1) (setR_one h j (hv v (by simp))) (fun u hu => hv u (by simp [hu]))
theorem chunk_K (s : RS) (v : Value) (c : Nat) (pos : Int) (y : Int) : (if c = 0 then (s.setR 12 v).failP pos y else s.setR 12 v).K = (s.setR 12 v).K := by
  split
  · rw [failP_K]
  · rfl
theorem chunk_place {s : RS} (h : s.sound → s.place = 0) (v : Value) (c : Nat) (pos : Int) (y : Int) (hy : y ≠ 0) : (if c = 0 then (s.setR 12 v).failP pos y else s.setR 12 v).sound → (if c = 0 then (s.setR 12 v).failP pos y else s.setR 12 v).place = 0 := by
  split
  · exact failP_place (setR_place h 12 v) _ _ hy
  · exact setR_place h 12 v
/-- What a field's reading leaves. -/
def MfPost (f : Mf) (lim p : Nat) (a b : Bool) (w w' : World) : Prop := ∃ s', Sg lim p (f.fa a) (f.fb b) s' w' ∧ w.grownBy w' (some p)
section
variable {lim p : Nat} {a b : Bool} {s : RS} {w : World}
theorem mf_seq (h : Sg lim p a b s w) : Calls Tryz.prog (Mf.seq).rfn #[.pointer (some ⟨p, 0, none⟩)] w fun e w' => e = .returned (.tuple #[]) ∧ Hid (MfPost .seq lim p a b w w') :=
  (fSeq_any lim p s w h.rd h.len).mono (fun _ _ ⟨h1, G⟩ => ⟨h1, _, h.put (step_K _ _ _) (RS.step_place h.pl _ _) 8 _ G.out.1 (by decide) rfl, G.out.2⟩)
theorem mf_stamp (h : Sg lim p a b s w) : Calls Tryz.prog (Mf.stamp).rfn #[.pointer (some ⟨p, 0, none⟩)] w fun e w' => e = .returned (.tuple #[]) ∧ Hid (MfPost .stamp lim p a b w w') :=
  (fStamp_any lim p s w h.rd h.len).mono (fun _ _ ⟨h1, G⟩ => ⟨h1, _, h.put (rdBound_K _ _ _) (rdBound_place h.pl _ _) 9 _ G.out.1 (by decide) rfl, G.out.2⟩)
theorem mf_outcome (h : Sg lim p a b s w) : Calls Tryz.prog (Mf.outcome).rfn #[.pointer (some ⟨p, 0, none⟩)] w fun e w' => e = .returned (.tuple #[]) ∧ Hid (MfPost .outcome lim p a b w w') :=
  (fCode_any lim p s w h.rd h.len).mono (fun _ _ ⟨h1, G⟩ => ⟨h1, _, h.put (rdBound_K _ _ _) (rdBound_place h.pl _ _) 10 _ G.out.1 (by decide) rfl, G.out.2⟩)
theorem mf_slot (h : Sg lim p a b s w) : Calls Tryz.prog (Mf.slot).rfn #[.pointer (some ⟨p, 0, none⟩)] w fun e w' => e = .returned (.tuple #[]) ∧ Hid (MfPost .slot lim p a b w w') :=
  (fSlot_any lim p s w h.rd h.len).mono (fun _ _ ⟨h1, G⟩ => ⟨h1, _, h.put (rdBound_K _ _ _) (rdBound_place h.pl _ _) 3 _ G.out.1 (by decide) rfl, G.out.2⟩)
theorem mf_suspect (h : Sg lim p a b s w) : Calls Tryz.prog (Mf.suspect).rfn #[.pointer (some ⟨p, 0, none⟩)] w fun e w' => e = .returned (.tuple #[]) ∧ Hid (MfPost .suspect lim p a b w w') :=
  (fSus_any lim p s w h.rd h.len).mono (fun _ _ ⟨h1, G⟩ => ⟨h1, _, h.put (step_K _ _ _) (RS.step_place h.pl _ _) 13 _ G.out.1 (by decide) rfl, G.out.2⟩)
theorem mf_low (h : Sg lim p a b s w) : Calls Tryz.prog (Mf.low).rfn #[.pointer (some ⟨p, 0, none⟩)] w fun e w' => e = .returned (.tuple #[]) ∧ Hid (MfPost .low lim p a b w w') :=
  (fLow_any lim p s w h.rd h.len).mono (fun _ _ ⟨h1, G⟩ => ⟨h1, _, h.putN (rdBound_K _ _ _) (rdBound_place h.pl _ _) 4 _ G.out.1 (by simp), G.out.2⟩)
theorem mf_index (h : Sg lim p a b s w) : Calls Tryz.prog (Mf.index).rfn #[.pointer (some ⟨p, 0, none⟩)] w fun e w' => e = .returned (.tuple #[]) ∧ Hid (MfPost .index lim p a b w w') :=
  (fIndex_any lim p s w h.rd h.len).mono (fun _ _ ⟨h1, G⟩ => ⟨h1, _, h.putN (rdBound_K _ _ _) (rdBound_place h.pl _ _) 14 _ G.out.1 (by simp), G.out.2⟩)
theorem mf_command (h : Sg lim p a b s w) : Calls Tryz.prog (Mf.command).rfn #[.pointer (some ⟨p, 0, none⟩)] w fun e w' => e = .returned (.tuple #[]) ∧ Hid (MfPost .command lim p a b w w') := by
  refine (fCmd_any lim p s w h.rd h.len).mono ?_
  rintro e w' ⟨h1, G⟩
  obtain ⟨v, g1, g2, g3⟩ := G.out
  exact ⟨h1, _, h.put (step_K _ _ _) (RS.step_place h.pl _ _) 11 _ g2 (by decide) (row_one g1.1), g3⟩
theorem mf_result (h : Sg lim p a b s w) : Calls Tryz.prog (Mf.result).rfn #[.pointer (some ⟨p, 0, none⟩)] w fun e w' => e = .returned (.tuple #[]) ∧ Hid (MfPost .result lim p a b w w') := by
  refine (fRes_any lim p s w h.rd h.len).mono ?_
  rintro e w' ⟨h1, G⟩
  obtain ⟨v, g1, g2, g3⟩ := G.out
  exact ⟨h1, _, h.put (step_K _ _ _) (RS.step_place h.pl _ _) 12 _ g2 (by decide) (row_one g1.1), g3⟩
theorem mf_ballot (h : Sg lim p a b s w) : Calls Tryz.prog (Mf.ballot).rfn #[.pointer (some ⟨p, 0, none⟩)] w fun e w' => e = .returned (.tuple #[]) ∧ Hid (MfPost .ballot lim p a b w w') := by
  refine (fBallot_any lim p s w h.rd h.len).mono ?_
  rintro e w' ⟨h1, G⟩
  refine ⟨h1, _, h.of G.out.1 ?_ ?_ (fun j hj => ?_) ?_ (setR_one (setR_one (by rw [balS_K]; exact h.one) _ rfl) _ rfl), G.out.2⟩
  · rw [setR_t, setR_t, balS_K]
  · rw [setR_len, setR_len, balS_K]
  · rw [setR_far _ _ _ _ (by omega), setR_far _ _ _ _ (by omega), balS_K]
  · exact setR_place (setR_place (bal_placeM h.pl) _ _) _ _
theorem mf_batch (h : Sg lim p a b s w) : Calls Tryz.prog (Mf.batch).rfn #[.pointer (some ⟨p, 0, none⟩)] w fun e w' => e = .returned (.tuple #[]) ∧ Hid (MfPost .batch lim p a b w w') := by
  refine (fBatch_any lim p s w h.rd h.len).mono ?_
  rintro e w' ⟨h1, G⟩
  obtain ⟨v, rs1, g1, _, _, g4, g5⟩ := G.out
  refine ⟨h1, _, h.of g4 ?_ ?_ (fun j hj => ?_) ?_ (setR_one (setR_one (by rw [bEnd_K]; exact h.one) _ rfl) _ (row_one g1.row)), g5⟩
  · rw [setR_t, setR_t, bEnd_K]
  · rw [setR_len, setR_len, bEnd_K]
  · rw [setR_far _ _ _ _ (by omega), setR_far _ _ _ _ (by omega), bEnd_K]
  · exact setR_place (setR_place (bEnd_place h.pl) _ _) _ _
theorem mf_total (h : Sg lim p a b s w) : Calls Tryz.prog (Mf.total).rfn #[.pointer (some ⟨p, 0, none⟩)] w fun e w' => e = .returned (.tuple #[]) ∧ Hid (MfPost .total lim p a b w w') := by
  obtain ⟨i, hi⟩ := h.idx
  obtain ⟨l, hl⟩ := wrap_nat i
  exact (fTotal_any lim p s w h.rd h.len i hi l hl).mono (fun _ _ ⟨h1, G⟩ => ⟨h1, _, h.put (rdBound_K _ _ _) (rdBound_place h.pl _ _) 15 _ G.out.1 (by decide) rfl, G.out.2⟩)
theorem mf_root (h : Sg lim p a b s w) : Calls Tryz.prog (Mf.root).rfn #[.pointer (some ⟨p, 0, none⟩)] w fun e w' => e = .returned (.tuple #[]) ∧ Hid (MfPost .root lim p a b w w') := by
  have hl : (vals (hashB s.rest)).length = 32 := by rw [vals_len, hashB_len]
  refine (fRoot_any lim p s w h.rd h.len).mono ?_
  rintro e w' ⟨h1, G⟩
  refine ⟨h1, _, h.of G.out.1 ?_ ?_ (fun j hj => ?_) ?_ (setRs_one _ _ (by rw [rdHash_K]; exact h.one) (vals_one' _)), G.out.2⟩
  · rw [setRs_t, rdHash_K]
  · rw [setRs_len, rdHash_K]
  · rw [setRs_far _ _ _ _ (by rw [hl]; omega), rdHash_K]
  · exact setRs_place _ _ (rdHash_place h.pl)
theorem mf_chunk (h : Sg lim p a b s w) : Calls Tryz.prog (Mf.chunk).rfn #[.pointer (some ⟨p, 0, none⟩)] w fun e w' => e = .returned (.tuple #[]) ∧ Hid (MfPost .chunk lim p a b w w') := by
  refine (fChunk_any lim p s w h.rd h.len).mono ?_
  rintro e w' ⟨h1, G⟩
  obtain ⟨v, g1, g2, g3⟩ := G.out
  have g2' : RdS lim w' p (if (blobAt s.rest 1024).1.length = 0 then ((s.step (blobAt s.rest 1024).2.1 (blobAt s.rest 1024).2.2).setR 12 v).failP s.pos 29 else (s.step (blobAt s.rest 1024).2.1 (blobAt s.rest 1024).2.2).setR 12 v) := g2
  have hK := chunk_K (s.step (blobAt s.rest 1024).2.1 (blobAt s.rest 1024).2.2) v (blobAt s.rest 1024).1.length s.pos 29
  have hP := chunk_place (RS.step_place h.pl (blobAt s.rest 1024).2.1 (blobAt s.rest 1024).2.2) v (blobAt s.rest 1024).1.length s.pos 29 (by decide)
  refine ⟨h1, _, h.of g2' ?_ ?_ (fun j hj => ?_) hP (by rw [hK]; exact setR_one (by rw [step_K]; exact h.one) _ (row_one g1.1)), g3⟩
  · rw [hK, setR_t, step_K]
  · rw [hK, setR_len, step_K]
  · rw [hK, setR_far _ _ _ _ (by omega), step_K]
theorem mf_votes (h : Sg lim p a b s w) (ha : a = true) : Calls Tryz.prog (Mf.votes).rfn #[.pointer (some ⟨p, 0, none⟩)] w fun e w' => e = .returned (.tuple #[]) ∧ Hid (MfPost .votes lim p a b w w') := by
  obtain ⟨i, hi⟩ := h.low
  refine (fVotes_any lim p s w h.rd h.len i hi (h.vn ha) h.pl h.one).mono ?_
  rintro e w' ⟨h1, G⟩
  obtain ⟨k, v, xs, s', vb⟩ := G.out
  refine ⟨h1, s', ⟨vb.rd, vb.t.trans h.t, vb.len, ?_, ?_, fun e => Bool.noConfusion e, fun e => ?_, vb.pl, vb.one⟩, vb.gr⟩
  · rw [vb.far 4 (by decide)]; exact h.low
  · rw [vb.far 14 (by decide)]; exact h.idx
  · rw [vb.far 48 (by decide)]; exact h.pn e
theorem mf_path (h : Sg lim p a b s w) (hb : b = true) : Calls Tryz.prog (Mf.path).rfn #[.pointer (some ⟨p, 0, none⟩)] w fun e w' => e = .returned (.tuple #[]) ∧ Hid (MfPost .path lim p a b w w') := by
  refine (fPath_any lim p s w h.rd h.len (h.pn hb) h.pl h.one).mono ?_
  rintro e w' ⟨h1, G⟩
  obtain ⟨k, v, xs, s', vb⟩ := G.out
  refine ⟨h1, s', ⟨vb.rd, vb.t.trans h.t, vb.len, ?_, ?_, fun e => ?_, fun e => Bool.noConfusion e, vb.pl, vb.one⟩, vb.gr⟩
  · rw [vb.far 4 (by decide)]; exact h.low
  · rw [vb.far 14 (by decide)]; exact h.idx
  · rw [vb.far 5 (by decide)]; exact h.vn e
theorem mf_any (f : Mf) (h : Sg lim p a b s w) (ha : f = .votes → a = true) (hb : f = .path → b = true) : Calls Tryz.prog f.rfn #[.pointer (some ⟨p, 0, none⟩)] w fun e w' => e = .returned (.tuple #[]) ∧ Hid (MfPost f lim p a b w w') := by
  cases f with
  | seq => exact mf_seq h
  | command => exact mf_command h
  | stamp => exact mf_stamp h
  | outcome => exact mf_outcome h
  | result => exact mf_result h
  | ballot => exact mf_ballot h
  | low => exact mf_low h
  | votes => exact mf_votes h (ha rfl)
  | slot => exact mf_slot h
  | batch => exact mf_batch h
  | suspect => exact mf_suspect h
  | index => exact mf_index h
  | total => exact mf_total h
  | root => exact mf_root h
  | chunk => exact mf_chunk h
  | path => exact mf_path h (hb rfl)
end
end Go.Proofs.YtldhafpeigdloaaGreatDoor
namespace Go.Proofs.YtldhafpeigdloaaGreatDoor
open Go.RowKit Crc

theorem un_rdNum (s : RS) : (rdNum s).un = rdNum s.un := by unfold rdNum; rw [un_step]; rfl
theorem un_vSt (s : RS) (l : Nat) : ∀ k, (vSt s.un l k).1 = (vSt s l k).1.un ∧ (vSt s.un l k).2 = (vSt s l k).2
  | 0 => ⟨rfl, rfl⟩
  | k + 1 => by
    obtain ⟨h1, h2⟩ := un_vSt s l k
    simp only [vSt]
    rw [h1, h2, ← un_vEnd]
    exact ⟨rfl, rfl⟩
theorem un_vVals (s : RS) (l k : Nat) : vVals s.un l k = vVals s l k := by
  unfold vVals
  refine List.map_congr_left (fun i _ => ?_)
  obtain ⟨h1, h2⟩ := un_vSt s l i
  rw [h1, h2, un_vRead]
theorem un_hVals (k : Nat) (s : RS) : hVals k s.un = hVals k s := by
  unfold hVals
  refine List.map_congr_left (fun i _ => ?_)
  rw [← un_hSt]
  rfl
theorem un_vC (s : RS) : (vC s).un = vC s.un := by unfold vC; rw [un_step]; rfl
theorem un_pC (s : RS) : (pC s).un = pC s.un := by unfold pC; rw [un_step]; rfl
theorem hVals_len (k : Nat) (s : RS) : (hVals k s).length = k := by simp [hVals]

/-- What is read of a message. -/
structure Mv where
  (num node slot low : Nat) (votes : List Vv) (bst : Nat) (V : List (Nat × Nat × List Nat)) (seq stamp : Nat) (code : Int) (cmd data : List Nat) (sus : Bool) (idx cnt : Nat) (root : List Nat) (path : List (List Nat))
def chunkS (s : RS) : RS := if (blobAt s.rest 1024).1.length = 0 then (s.step (blobAt s.rest 1024).2.1 (blobAt s.rest 1024).2.2).failP s.pos 29 else s.step (blobAt s.rest 1024).2.1 (blobAt s.rest 1024).2.2
def Mf.nxt : Mf → RS → Mv → RS
  | .seq, s, _ => rdNum s
  | .command, s, _ => s.step (blobAt s.rest 700).2.1 (blobAt s.rest 700).2.2
  | .stamp, s, _ => rdBound s 0 1099511627776
  | .outcome, s, _ => rdBound s 0 1023
  | .result, s, _ => s.step (blobAt s.rest 256).2.1 (blobAt s.rest 256).2.2
  | .ballot, s, _ => balS s
  | .low, s, _ => rdBound s 0 1099511627776
  | .votes, s, v => (vSt (vC s) v.low (countAt s.rest 8).1).1
  | .slot, s, _ => rdBound s 0 1099511627776
  | .batch, s, _ => bEnd s
  | .suspect, s, _ => s.step 1 (flagW s.rest)
  | .index, s, _ => rdBound s 0 39
  | .total, s, v => rdBound s (vNx v.idx) 40
  | .root, s, _ => rdHash s
  | .chunk, s, _ => chunkS s
  | .path, s, _ => hSt (countAt s.rest 6).1 (pC s)
def Mf.upd : Mf → RS → Mv → Mv
  | .seq, s, v => { v with seq := (numAt s.rest).1 }
  | .command, s, v => { v with cmd := (blobAt s.rest 700).1 }
  | .stamp, s, v => { v with stamp := (numAt s.rest).1 }
  | .outcome, s, v => { v with code := wrap64 ((numAt s.rest).1 : Nat) }
  | .result, s, v => { v with data := (blobAt s.rest 256).1 }
  | .ballot, s, v => { v with num := (numAt s.rest).1, node := nodeV s }
  | .low, s, v => { v with low := (numAt s.rest).1 }
  | .votes, s, v => { v with votes := vVals (vC s) v.low (countAt s.rest 8).1 }
  | .slot, s, v => { v with slot := (numAt s.rest).1 }
  | .batch, s, v => { v with bst := (numAt s.rest).1, V := bVals s }
  | .suspect, s, v => { v with sus := flagV s.rest }
  | .index, s, v => { v with idx := (numAt s.rest).1 }
  | .total, s, v => { v with cnt := (numAt s.rest).1 }
  | .root, s, v => { v with root := hashB s.rest }
  | .chunk, s, v => { v with data := (blobAt s.rest 1024).1 }
  | .path, s, v => { v with path := hVals (countAt s.rest 6).1 (pC s) }

/-- A message as it lies behind a reader. -/
structure Mk where
  (num node slot low : Nat) (vv : Value) (ts : List Vt) (bst : Nat) (bv : Value) (rs : List Rq) (seq stamp : Nat) (code : Int) (cv : Value) (cmd : List Nat) (dv : Value) (data : List Nat) (sus : Bool) (idx cnt : Nat) (root : List Nat) (hv : Value) (hs : List (List Nat))
def Mk.pre (c : Mk) : List Value := .int .i64 0 :: .int .u64 (c.num : Int) :: .int .i64 (c.node : Int) :: .int .u64 (c.slot : Int) :: .int .u64 (c.low : Int) :: c.vv :: .int .u64 (c.bst : Int) :: c.bv :: .int .u64 (c.seq : Int) :: .int .u64 (c.stamp : Int) :: .int .i64 c.code :: c.cv :: c.dv :: .bool c.sus :: .int .u64 (c.idx : Int) :: .int .u64 (c.cnt : Int) :: []
def Mk.R (c : Mk) : List Value := c.pre ++ vals c.root ++ [c.hv]
def Mk.mv (c : Mk) : Mv := ⟨c.num, c.node, c.slot, c.low, c.ts.map Vt.val, c.bst, c.rs.map Rq.val, c.seq, c.stamp, c.code, c.cmd, c.data, c.sus, c.idx, c.cnt, c.root, c.hs⟩
theorem Mk.len {c : Mk} (h : c.root.length = 32) : c.R.length = 49 := by simp [Mk.R, Mk.pre, vals_len, h]
theorem Mk.set48 {c : Mk} (h : c.root.length = 32) (v : Value) : c.R.set 48 v = c.pre ++ vals c.root ++ [v] := by
  have hl : (c.pre ++ vals c.root).length = 48 := by simp [Mk.pre, vals_len, h]
  unfold Mk.R
  rw [List.set_append_right _ _ (by rw [hl]; exact Nat.le_refl _), hl]
  rfl
theorem set_of_far {R R' : List Value} {j : Nat} {v : Value} (hl : j < R.length) (far : ∀ i, i ≠ j → R'[i]? = R[i]?) (hat : R'[j]? = some v) : R' = R.set j v := by
  refine List.ext_getElem? (fun i => ?_)
  by_cases e : i = j
  · subst e
    rw [hat, List.getElem?_set_self hl]
  · rw [far i e, List.getElem?_set_ne (fun h => e h.symm)]
theorem setRs_app : ∀ (vs old pre post : List Value) (s : RS), s.K.R = pre ++ old ++ post → old.length = vs.length → (s.setRs pre.length vs).K.R = pre ++ vs ++ post
  | [], old, pre, post, s, h, hl => by
    obtain rfl := List.eq_nil_of_length_eq_zero hl
    exact h
  | v :: r, [], _, _, _, _, hl => by simp at hl
  | v :: r, o :: os, pre, post, s, h, hl => by
    have h1 : (s.setR pre.length v).K.R = (pre ++ [v]) ++ os ++ post := by
      show s.K.R.set pre.length v = _
      rw [h, List.append_assoc, List.set_append_right _ _ (Nat.le_refl _)]
      simp
    have h2 := setRs_app r os (pre ++ [v]) post (s.setR pre.length v) h1 (by simpa using hl)
    rw [RS.setRs]
    simpa using h2
theorem un_setRs : ∀ (vs : List Value) (s : RS) (j : Nat), (s.setRs j vs).un = s.un
  | [], _, _ => rfl
  | v :: r, s, j => by rw [RS.setRs, un_setRs r]; rfl

/-- The lists of a message. -/
structure Mo (base : Nat) (w : World) (c : Mk) : Prop where
  vo : OwnVs base w c.vv c.ts
  own : OwnRs base w c.bv c.rs
  free : FreeRs base w c.rs
  cm : Owns base w c.cv c.cmd
  dat : Owns base w c.dv c.data
  pa : w.ownsRow base 33 32 c.hv c.hs.length ((c.hs.map vals).flatten)
theorem rowLower {base base' n size : Nat} {e : TypeId} {w : World} {v : Value} {xs : List Value} (h : w.ownsRow base e size v n xs) (hl : base' ≤ base) : w.ownsRow base' e size v n xs := by
  refine ⟨h.1, ?_⟩
  rcases h.2 with h0 | ⟨g, cap, cur, h1, h2, h3⟩
  · exact .inl h0
  · exact .inr ⟨g, cap, cur, h1, by omega, h3⟩
theorem OwnVs.lower {base base' : Nat} {w : World} {v : Value} {ts : List Vt} (h : OwnVs base w v ts) (hl : base' ≤ base) : OwnVs base' w v ts :=
  ⟨rowLower h.row hl, fun t ht => ⟨(h.own t ht).1.lower hl, (h.own t ht).2.lower hl⟩, h.vals, h.apart⟩
theorem OwnVs.past {base g : Nat} {w w' : World} {v : Value} {ts : List Vt} (h : OwnVs base w v ts) (hg : w.grownBy w' (some g)) (hl : g < base) : OwnVs base w' v ts :=
  ⟨h.row.kept hg (.inr (fun e => by have := (h.row.lt _ e).1; omega)), fun t ht => (h.own t ht).1.past (h.own t ht).2 hg hl, h.vals, h.apart⟩
theorem OwnVs.quiet {base : Nat} {w w' : World} {v : Value} {ts : List Vt} (h : OwnVs base w v ts) (hg : w.grownBy w' none) : OwnVs base w' v ts :=
  ⟨row_quiet h.row hg, fun t ht => (h.own t ht).1.quiet (h.own t ht).2 hg, h.vals, h.apart⟩
theorem Mo.past {base g : Nat} {w w' : World} {c : Mk} (h : Mo base w c) (hg : w.grownBy w' (some g)) (hl : g < base) : Mo base w' c := by
  obtain ⟨a, b⟩ := h.own.past h.free hg hl
  exact ⟨h.vo.past hg hl, a, b, h.cm.kept hg (.inr (fun e => by have := (h.cm.1.lt _ e).1; omega)), h.dat.kept hg (.inr (fun e => by have := (h.dat.1.lt _ e).1; omega)), h.pa.kept hg (.inr (fun e => by have := (h.pa.lt _ e).1; omega))⟩
theorem Mo.quiet {base : Nat} {w w' : World} {c : Mk} (h : Mo base w c) (hg : w.grownBy w' none) : Mo base w' c := by
  obtain ⟨a, b⟩ := h.own.quiet h.free hg
  exact ⟨h.vo.quiet hg, a, b, h.cm.quiet hg, h.dat.quiet hg, row_quiet h.pa hg⟩
/-- A reader with its message. -/
structure Fm (lim base p : Nat) (a b : Bool) (s : RS) (c : Mk) (w : World) : Prop where
  rd : RdS lim w p s
  k : s.K = ⟨78, c.R⟩
  rl : c.root.length = 32
  mo : Mo base w c
  pl : s.sound → s.place = 0
  hp : p < base
  hb : base ≤ w.heap.size
  vn : a = true → c.vv = .slice none 0 0
  pn : b = true → c.hv = .slice none 0 0
theorem Fm.len {lim base p : Nat} {a b : Bool} {s : RS} {c : Mk} {w : World} (h : Fm lim base p a b s c w) : s.K.R.length = 49 := by rw [h.k]; exact Mk.len h.rl
theorem Fm.quiet {lim base p : Nat} {a b : Bool} {s : RS} {c : Mk} {w w' : World} (h : Fm lim base p a b s c w) (hg : w.grownBy w' none) : Fm lim base p a b s c w' := ⟨h.rd.quiet hg, h.k, h.rl, h.mo.quiet hg, h.pl, h.hp, Nat.le_trans h.hb hg.size, h.vn, h.pn⟩
theorem Fm.one {lim base p : Nat} {a b : Bool} {s : RS} {c : Mk} {w : World} (h : Fm lim base p a b s c w) : ∀ u ∈ s.K.R, u.oneCell' = true := by
  rw [h.k]
  intro u hu
  have h1 := row_one h.mo.vo.row
  have h2 := row_one h.mo.own.row
  have h3 := row_one h.mo.cm.1
  have h4 := row_one h.mo.dat.1
  have h5 := row_one h.mo.pa
  simp only [Mk.R, Mk.pre, List.mem_append, List.mem_cons, List.not_mem_nil, or_false] at hu
  rcases hu with ((rfl | rfl | rfl | rfl | rfl | rfl | rfl | rfl | rfl | rfl | rfl | rfl | rfl | rfl | rfl | rfl) | hu) | rfl
  all_goals first | assumption | rfl | exact vals_one' _ _ ‹_›
/-- What a field's reading leaves. -/
def MdPost (f : Mf) (lim base p : Nat) (a b : Bool) (s : RS) (c : Mk) (w w' : World) : Prop := ∃ s' c', Fm lim base p (f.fa a) (f.fb b) s' c' w' ∧ s'.un = f.nxt s.un c.mv ∧ c'.mv = f.upd s.un c.mv ∧ w.grownBy w' (some p)
theorem Fm.cell {lim base p : Nat} {a b : Bool} {s t : RS} {c c' : Mk} {w w' : World} (h : Fm lim base p a b s c w) (hK : t.K = s.K) (hpl : t.sound → t.place = 0) {j : Nat} {v : Value} (hr : RdS lim w' p (t.setR j v)) (g : w.grownBy w' (some p)) (hR : c.R.set j v = c'.R) (hm : Mo base w' c') (e1 : c'.root = c.root) (e2 : c'.vv = c.vv) (e3 : c'.hv = c.hv) : Fm lim base p a b (t.setR j v) c' w' :=
  ⟨hr, by rw [setR_K, hK, h.k, hR], by rw [e1]; exact h.rl, hm, setR_place hpl j v, h.hp, Nat.le_trans h.hb g.size, fun e => by rw [e2]; exact h.vn e, fun e => by rw [e3]; exact h.pn e⟩
end Go.Proofs.YtldhafpeigdloaaGreatDoor
namespace Go.Proofs.YtldhafpeigdloaaGreatDoor
open Go.RowKit Crc
section
variable {lim base p : Nat} {a b : Bool} {s : RS} {c : Mk} {w : World}

theorem md_seq (h : Fm lim base p a b s c w) : Calls Tryz.prog (Mf.seq).rfn #[.pointer (some ⟨p, 0, none⟩)] w fun e w' => e = .returned (.tuple #[]) ∧ Hid (MdPost .seq lim base p a b s c w w') := by
  refine (fSeq_any lim p s w h.rd h.len).mono ?_
  rintro e w' ⟨h1, G⟩
  have m := h.mo.past G.out.2 h.hp
  exact ⟨h1, _, { c with seq := (numAt s.rest).1 }, h.cell (step_K _ _ _) (RS.step_place h.pl _ _) G.out.1 G.out.2 rfl ⟨m.vo, m.own, m.free, m.cm, m.dat, m.pa⟩ rfl rfl rfl, un_rdNum _, rfl, G.out.2⟩
theorem md_stamp (h : Fm lim base p a b s c w) : Calls Tryz.prog (Mf.stamp).rfn #[.pointer (some ⟨p, 0, none⟩)] w fun e w' => e = .returned (.tuple #[]) ∧ Hid (MdPost .stamp lim base p a b s c w w') := by
  refine (fStamp_any lim p s w h.rd h.len).mono ?_
  rintro e w' ⟨h1, G⟩
  have m := h.mo.past G.out.2 h.hp
  exact ⟨h1, _, { c with stamp := (numAt s.rest).1 }, h.cell (rdBound_K _ _ _) (rdBound_place h.pl _ _) G.out.1 G.out.2 rfl ⟨m.vo, m.own, m.free, m.cm, m.dat, m.pa⟩ rfl rfl rfl, un_rdBound _ _ _, rfl, G.out.2⟩
theorem md_outcome (h : Fm lim base p a b s c w) : Calls Tryz.prog (Mf.outcome).rfn #[.pointer (some ⟨p, 0, none⟩)] w fun e w' => e = .returned (.tuple #[]) ∧ Hid (MdPost .outcome lim base p a b s c w w') := by
  refine (fCode_any lim p s w h.rd h.len).mono ?_
  rintro e w' ⟨h1, G⟩
  have m := h.mo.past G.out.2 h.hp
  exact ⟨h1, _, { c with code := wrap64 ((numAt s.rest).1 : Nat) }, h.cell (rdBound_K _ _ _) (rdBound_place h.pl _ _) G.out.1 G.out.2 rfl ⟨m.vo, m.own, m.free, m.cm, m.dat, m.pa⟩ rfl rfl rfl, un_rdBound _ _ _, rfl, G.out.2⟩
theorem md_slot (h : Fm lim base p a b s c w) : Calls Tryz.prog (Mf.slot).rfn #[.pointer (some ⟨p, 0, none⟩)] w fun e w' => e = .returned (.tuple #[]) ∧ Hid (MdPost .slot lim base p a b s c w w') := by
  refine (fSlot_any lim p s w h.rd h.len).mono ?_
  rintro e w' ⟨h1, G⟩
  have m := h.mo.past G.out.2 h.hp
  exact ⟨h1, _, { c with slot := (numAt s.rest).1 }, h.cell (rdBound_K _ _ _) (rdBound_place h.pl _ _) G.out.1 G.out.2 rfl ⟨m.vo, m.own, m.free, m.cm, m.dat, m.pa⟩ rfl rfl rfl, un_rdBound _ _ _, rfl, G.out.2⟩
theorem md_low (h : Fm lim base p a b s c w) : Calls Tryz.prog (Mf.low).rfn #[.pointer (some ⟨p, 0, none⟩)] w fun e w' => e = .returned (.tuple #[]) ∧ Hid (MdPost .low lim base p a b s c w w') := by
  refine (fLow_any lim p s w h.rd h.len).mono ?_
  rintro e w' ⟨h1, G⟩
  have m := h.mo.past G.out.2 h.hp
  exact ⟨h1, _, { c with low := (numAt s.rest).1 }, h.cell (rdBound_K _ _ _) (rdBound_place h.pl _ _) G.out.1 G.out.2 rfl ⟨m.vo, m.own, m.free, m.cm, m.dat, m.pa⟩ rfl rfl rfl, un_rdBound _ _ _, rfl, G.out.2⟩
theorem md_index (h : Fm lim base p a b s c w) : Calls Tryz.prog (Mf.index).rfn #[.pointer (some ⟨p, 0, none⟩)] w fun e w' => e = .returned (.tuple #[]) ∧ Hid (MdPost .index lim base p a b s c w w') := by
  refine (fIndex_any lim p s w h.rd h.len).mono ?_
  rintro e w' ⟨h1, G⟩
  have m := h.mo.past G.out.2 h.hp
  exact ⟨h1, _, { c with idx := (numAt s.rest).1 }, h.cell (rdBound_K _ _ _) (rdBound_place h.pl _ _) G.out.1 G.out.2 rfl ⟨m.vo, m.own, m.free, m.cm, m.dat, m.pa⟩ rfl rfl rfl, un_rdBound _ _ _, rfl, G.out.2⟩
theorem md_suspect (h : Fm lim base p a b s c w) : Calls Tryz.prog (Mf.suspect).rfn #[.pointer (some ⟨p, 0, none⟩)] w fun e w' => e = .returned (.tuple #[]) ∧ Hid (MdPost .suspect lim base p a b s c w w') := by
  refine (fSus_any lim p s w h.rd h.len).mono ?_
  rintro e w' ⟨h1, G⟩
  have m := h.mo.past G.out.2 h.hp
  exact ⟨h1, _, { c with sus := flagV s.rest }, h.cell (step_K _ _ _) (RS.step_place h.pl _ _) G.out.1 G.out.2 rfl ⟨m.vo, m.own, m.free, m.cm, m.dat, m.pa⟩ rfl rfl rfl, un_step _ _ _, rfl, G.out.2⟩
theorem md_total (h : Fm lim base p a b s c w) : Calls Tryz.prog (Mf.total).rfn #[.pointer (some ⟨p, 0, none⟩)] w fun e w' => e = .returned (.tuple #[]) ∧ Hid (MdPost .total lim base p a b s c w w') := by
  have hi : s.K.R[14]? = some (.int .u64 (c.idx : Int)) := by rw [h.k]; rfl
  refine (fTotal_any lim p s w h.rd h.len c.idx hi (vNx c.idx) (wrap_nx _)).mono ?_
  rintro e w' ⟨h1, G⟩
  have m := h.mo.past G.out.2 h.hp
  exact ⟨h1, _, { c with cnt := (numAt s.rest).1 }, h.cell (rdBound_K _ _ _) (rdBound_place h.pl _ _) G.out.1 G.out.2 rfl ⟨m.vo, m.own, m.free, m.cm, m.dat, m.pa⟩ rfl rfl rfl, un_rdBound _ _ _, rfl, G.out.2⟩
theorem md_command (h : Fm lim base p a b s c w) : Calls Tryz.prog (Mf.command).rfn #[.pointer (some ⟨p, 0, none⟩)] w fun e w' => e = .returned (.tuple #[]) ∧ Hid (MdPost .command lim base p a b s c w w') := by
  refine (fCmd_any lim p s w h.rd h.len).mono ?_
  rintro e w' ⟨h1, G⟩
  obtain ⟨v, g1, g2, g3⟩ := G.out
  have m := h.mo.past g3 h.hp
  exact ⟨h1, _, { c with cv := v, cmd := (blobAt s.rest 700).1 }, h.cell (step_K _ _ _) (RS.step_place h.pl _ _) g2 g3 rfl ⟨m.vo, m.own, m.free, g1.lower h.hb, m.dat, m.pa⟩ rfl rfl rfl, un_step _ _ _, rfl, g3⟩
theorem md_result (h : Fm lim base p a b s c w) : Calls Tryz.prog (Mf.result).rfn #[.pointer (some ⟨p, 0, none⟩)] w fun e w' => e = .returned (.tuple #[]) ∧ Hid (MdPost .result lim base p a b s c w w') := by
  refine (fRes_any lim p s w h.rd h.len).mono ?_
  rintro e w' ⟨h1, G⟩
  obtain ⟨v, g1, g2, g3⟩ := G.out
  have m := h.mo.past g3 h.hp
  exact ⟨h1, _, { c with dv := v, data := (blobAt s.rest 256).1 }, h.cell (step_K _ _ _) (RS.step_place h.pl _ _) g2 g3 rfl ⟨m.vo, m.own, m.free, m.cm, g1.lower h.hb, m.pa⟩ rfl rfl rfl, un_step _ _ _, rfl, g3⟩
theorem md_ballot (h : Fm lim base p a b s c w) : Calls Tryz.prog (Mf.ballot).rfn #[.pointer (some ⟨p, 0, none⟩)] w fun e w' => e = .returned (.tuple #[]) ∧ Hid (MdPost .ballot lim base p a b s c w w') := by
  refine (fBallot_any lim p s w h.rd h.len).mono ?_
  rintro e w' ⟨h1, G⟩
  have m := h.mo.past G.out.2 h.hp
  obtain ⟨u1, u2⟩ := un_balS s
  refine ⟨h1, _, { c with num := (numAt s.rest).1, node := nodeV s }, ⟨G.out.1, ?_, h.rl, ⟨m.vo, m.own, m.free, m.cm, m.dat, m.pa⟩, ?_, h.hp, Nat.le_trans h.hb G.out.2.size, h.vn, h.pn⟩, ?_, ?_, G.out.2⟩
  · rw [setR_K, setR_K, balS_K, h.k]; rfl
  · exact setR_place (setR_place (bal_placeM h.pl) _ _) _ _
  · rw [un_setR, un_setR, u1]; rfl
  · show _ = Mv.mk (numAt s.rest).1 (nodeV s.un) _ _ _ _ _ _ _ _ _ _ _ _ _ _ _
    rw [u2]; rfl
theorem md_batch (h : Fm lim base p a b s c w) : Calls Tryz.prog (Mf.batch).rfn #[.pointer (some ⟨p, 0, none⟩)] w fun e w' => e = .returned (.tuple #[]) ∧ Hid (MdPost .batch lim base p a b s c w w') := by
  refine (fBatch_any lim p s w h.rd h.len).mono ?_
  rintro e w' ⟨h1, G⟩
  obtain ⟨v, rs1, g1, g2, g3, g4, g5⟩ := G.out
  have m := h.mo.past g5 h.hp
  obtain ⟨u1, u2⟩ := un_batch s
  refine ⟨h1, _, { c with bst := (numAt s.rest).1, bv := v, rs := rs1 }, ⟨g4, ?_, h.rl, ⟨m.vo, g1.lower h.hb, g2.lower h.hb, m.cm, m.dat, m.pa⟩, ?_, h.hp, Nat.le_trans h.hb g5.size, h.vn, h.pn⟩, ?_, ?_, g5⟩
  · rw [setR_K, setR_K, bEnd_K, h.k]; rfl
  · exact setR_place (setR_place (bEnd_place h.pl) _ _) _ _
  · rw [un_setR, un_setR, u1]; rfl
  · show Mv.mk _ _ _ _ _ _ (rs1.map Rq.val) _ _ _ _ _ _ _ _ _ _ = Mv.mk _ _ _ _ _ _ (bVals s.un) _ _ _ _ _ _ _ _ _ _
    rw [u2, g3]; rfl
theorem md_root (h : Fm lim base p a b s c w) : Calls Tryz.prog (Mf.root).rfn #[.pointer (some ⟨p, 0, none⟩)] w fun e w' => e = .returned (.tuple #[]) ∧ Hid (MdPost .root lim base p a b s c w w') := by
  have hl : (vals (hashB s.rest)).length = 32 := by rw [vals_len, hashB_len]
  refine (fRoot_any lim p s w h.rd h.len).mono ?_
  rintro e w' ⟨h1, G⟩
  have m := h.mo.past G.out.2 h.hp
  refine ⟨h1, _, { c with root := hashB s.rest }, ⟨G.out.1, ?_, hashB_len _, ⟨m.vo, m.own, m.free, m.cm, m.dat, m.pa⟩, setRs_place _ _ (rdHash_place h.pl), h.hp, Nat.le_trans h.hb G.out.2.size, h.vn, h.pn⟩, ?_, rfl, G.out.2⟩
  · have e1 : ((rdHash s).setRs 16 (vals (hashB s.rest))).K.t = s.K.t := by rw [setRs_t, rdHash_K]
    have e2 := setRs_app (vals (hashB s.rest)) (vals c.root) c.pre [c.hv] (rdHash s) (by rw [rdHash_K, h.k]; rfl) (by rw [hl, vals_len, h.rl])
    have e3 : ((rdHash s).setRs 16 (vals (hashB s.rest))).K = ⟨((rdHash s).setRs 16 (vals (hashB s.rest))).K.t, ((rdHash s).setRs 16 (vals (hashB s.rest))).K.R⟩ := rfl
    refine e3.trans ?_
    rw [e1, h.k]
    exact congrArg (Kd.mk _) e2
  · rw [un_setRs, un_rdHash]; rfl
theorem md_chunk (h : Fm lim base p a b s c w) : Calls Tryz.prog (Mf.chunk).rfn #[.pointer (some ⟨p, 0, none⟩)] w fun e w' => e = .returned (.tuple #[]) ∧ Hid (MdPost .chunk lim base p a b s c w w') := by
  refine (fChunk_any lim p s w h.rd h.len).mono ?_
  rintro e w' ⟨h1, G⟩
  obtain ⟨v, g1, g2, g3⟩ := G.out
  have g2' : RdS lim w' p (if (blobAt s.rest 1024).1.length = 0 then ((s.step (blobAt s.rest 1024).2.1 (blobAt s.rest 1024).2.2).setR 12 v).failP s.pos 29 else (s.step (blobAt s.rest 1024).2.1 (blobAt s.rest 1024).2.2).setR 12 v) := g2
  have hK := chunk_K (s.step (blobAt s.rest 1024).2.1 (blobAt s.rest 1024).2.2) v (blobAt s.rest 1024).1.length s.pos 29
  have hP := chunk_place (RS.step_place h.pl (blobAt s.rest 1024).2.1 (blobAt s.rest 1024).2.2) v (blobAt s.rest 1024).1.length s.pos 29 (by decide)
  have m := h.mo.past g3 h.hp
  refine ⟨h1, _, { c with dv := v, data := (blobAt s.rest 1024).1 }, ⟨g2', ?_, h.rl, ⟨m.vo, m.own, m.free, m.cm, g1.lower h.hb, m.pa⟩, hP, h.hp, Nat.le_trans h.hb g3.size, h.vn, h.pn⟩, ?_, rfl, g3⟩
  · rw [hK, setR_K, step_K, h.k]; rfl
  · show _ = chunkS s.un
    unfold chunkS
    show _ = if (blobAt s.rest 1024).1.length = 0 then (s.un.step (blobAt s.rest 1024).2.1 (blobAt s.rest 1024).2.2).failP s.pos 29 else s.un.step (blobAt s.rest 1024).2.1 (blobAt s.rest 1024).2.2
    split
    · rw [un_failP, un_setR, un_step]
    · rw [un_setR, un_step]
theorem md_votes (h : Fm lim base p a b s c w) (ha : a = true) : Calls Tryz.prog (Mf.votes).rfn #[.pointer (some ⟨p, 0, none⟩)] w fun e w' => e = .returned (.tuple #[]) ∧ Hid (MdPost .votes lim base p a b s c w w') := by
  have hi : s.K.R[4]? = some (.int .u64 (c.low : Int)) := by rw [h.k]; rfl
  have hv : s.K.R[5]? = some (.slice none 0 0) := by rw [h.k, ← h.vn ha]; rfl
  refine (fVotes_is lim p s w h.rd h.len c.low hi hv h.pl h.one).mono ?_
  rintro e w' ⟨h1, G⟩
  obtain ⟨v, ts, s', z, vf⟩ := G.out
  have m := h.mo.past vf.vb.gr h.hp
  refine ⟨h1, s', { c with vv := v, ts := ts }, ⟨vf.vb.rd, ?_, h.rl, ⟨vf.own.lower h.hb, m.own, m.free, m.cm, m.dat, m.pa⟩, vf.vb.pl, h.hp, Nat.le_trans h.hb vf.vb.gr.size, fun e => Bool.noConfusion e, h.pn⟩, ?_, ?_, vf.vb.gr⟩
  · have e1 : s'.K.R = s.K.R.set 5 v := set_of_far (by rw [h.len]; omega) vf.vb.far vf.vb.at5
    have e2 : s'.K = ⟨s'.K.t, s'.K.R⟩ := rfl
    refine e2.trans ?_
    rw [vf.vb.t, e1, h.k]; rfl
  · show _ = (vSt (vC s.un) c.low (countAt s.rest 8).1).1
    rw [vf.st, ← un_vC, (un_vSt _ _ _).1]
  · show Mv.mk _ _ _ _ (ts.map Vt.val) _ _ _ _ _ _ _ _ _ _ _ _ = Mv.mk _ _ _ _ (vVals (vC s.un) c.low (countAt s.rest 8).1) _ _ _ _ _ _ _ _ _ _ _ _
    rw [vf.val, ← un_vC, un_vVals]; rfl
theorem md_path (h : Fm lim base p a b s c w) (hb : b = true) : Calls Tryz.prog (Mf.path).rfn #[.pointer (some ⟨p, 0, none⟩)] w fun e w' => e = .returned (.tuple #[]) ∧ Hid (MdPost .path lim base p a b s c w w') := by
  have hv : s.K.R[48]? = some (.slice none 0 0) := by
    rw [h.k, ← h.pn hb]
    have hl : (c.pre ++ vals c.root).length = 48 := by simp [Mk.pre, vals_len, h.rl]
    show (c.pre ++ vals c.root ++ [c.hv])[48]? = _
    rw [List.getElem?_append_right (by rw [hl]; exact Nat.le_refl _), hl]; rfl
  refine (fPath_is lim p s w h.rd h.len hv h.pl h.one).mono ?_
  rintro e w' ⟨h1, G⟩
  obtain ⟨v, xs, s', vf⟩ := G.out
  have m := h.mo.past vf.pb.gr h.hp
  refine ⟨h1, s', { c with hv := v, hs := hVals (countAt s.rest 6).1 (pC s) }, ⟨vf.pb.rd, ?_, h.rl, ⟨m.vo, m.own, m.free, m.cm, m.dat, ?_⟩, vf.pb.pl, h.hp, Nat.le_trans h.hb vf.pb.gr.size, h.vn, fun e => Bool.noConfusion e⟩, ?_, ?_, vf.pb.gr⟩
  · have e1 : s'.K.R = s.K.R.set 48 v := set_of_far (by rw [h.len]; omega) vf.pb.far vf.pb.at5
    have e2 : s'.K = ⟨s'.K.t, s'.K.R⟩ := rfl
    refine e2.trans ?_
    rw [vf.pb.t, e1, h.k]
    exact congrArg (Kd.mk _) (Mk.set48 h.rl v)
  · have hr := rowLower vf.pb.row h.hb
    rw [vf.val] at hr
    show World.ownsRow _ _ _ _ _ (hVals (countAt s.rest 6).1 (pC s)).length _
    rw [hVals_len]
    exact hr
  · show _ = hSt (countAt s.rest 6).1 (pC s.un)
    rw [vf.st, un_hSt, un_pC]
  · show Mv.mk _ _ _ _ _ _ _ _ _ _ _ _ _ _ _ _ (hVals (countAt s.rest 6).1 (pC s)) = Mv.mk _ _ _ _ _ _ _ _ _ _ _ _ _ _ _ _ (hVals (countAt s.rest 6).1 (pC s.un))
    rw [← un_pC, un_hVals]; rfl
theorem md_any (f : Mf) (h : Fm lim base p a b s c w) (ha : f = .votes → a = true) (hb : f = .path → b = true) : Calls Tryz.prog f.rfn #[.pointer (some ⟨p, 0, none⟩)] w fun e w' => e = .returned (.tuple #[]) ∧ Hid (MdPost f lim base p a b s c w w') := by
  cases f with
  | seq => exact md_seq h
  | command => exact md_command h
  | stamp => exact md_stamp h
  | outcome => exact md_outcome h
  | result => exact md_result h
  | ballot => exact md_ballot h
  | low => exact md_low h
  | votes => exact md_votes h (ha rfl)
  | slot => exact md_slot h
  | batch => exact md_batch h
  | suspect => exact md_suspect h
  | index => exact md_index h
  | total => exact md_total h
  | root => exact md_root h
  | chunk => exact md_chunk h
  | path => exact md_path h (hb rfl)
end
end Go.Proofs.YtldhafpeigdloaaGreatDoor
