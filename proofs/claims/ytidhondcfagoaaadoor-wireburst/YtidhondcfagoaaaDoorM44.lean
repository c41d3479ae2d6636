import Derived.Test.YtidhondcfagoaaaDoorM1
import Derived.Deep.RegionHeld
import Derived.Test.YtidhondcfagoaaaDoorTPath
namespace Go.Proofs.YtidhondcfagoaaaDoor
open Go.RowKit Crc

/-- A method of whatever lies in an interface, as a value. -/
def mv (name : String) (r : Value) : Value := .func (.method name) #[r] #[]
theorem alloc_here (w : World) (o : Obj) : (w.alloc o).drew.heap[w.heap.size]? = some o := by
  show (w.alloc o).heap[w.heap.size]? = some o
  simp [World.alloc, -World.alloc_eq]
theorem below_here (w : World) (o : Obj) : Below w.heap.size w (w.alloc o).drew := by
  have h := below_alloc1 w o
  exact ⟨h.os, h.tape, h.output, h.size, h.block⟩
theorem mk_func (fn : Fn) (first cap : Array Value) (w : World) : (Instr.makeFunc fn first cap).run Tryd.prog w = .ok (.func fn first cap) w := rfl

end Go.Proofs.YtidhondcfagoaaaDoor
namespace Go.Proofs.YtidhondcfagoaaaDoor
open Go.RowKit Crc

/-- The fields that a message may have. -/
inductive Mf where
  | seq | command | stamp | outcome | result | ballot | low | votes | slot | batch | suspect | index | total | root | chunk | path
  deriving DecidableEq
def Mf.name : Mf → String
  | .seq => "quorum/wire.seq"
  | .command => "quorum/wire.command"
  | .stamp => "quorum/wire.stamp"
  | .outcome => "quorum/wire.outcome"
  | .result => "quorum/wire.result"
  | .ballot => "quorum/wire.ballot"
  | .low => "quorum/wire.low"
  | .votes => "quorum/wire.votes"
  | .slot => "quorum/wire.slot"
  | .batch => "quorum/wire.batch"
  | .suspect => "quorum/wire.suspect"
  | .index => "quorum/wire.index"
  | .total => "quorum/wire.total"
  | .root => "quorum/wire.root"
  | .chunk => "quorum/wire.chunk"
  | .path => "quorum/wire.path"
def Mf.rfn : Mf → Nat
  | .seq => 51
  | .command => 44
  | .stamp => 53
  | .outcome => 47
  | .result => 49
  | .ballot => 41
  | .low => 46
  | .votes => 56
  | .slot => 52
  | .batch => 42
  | .suspect => 54
  | .index => 45
  | .total => 55
  | .root => 50
  | .chunk => 43
  | .path => 48
theorem mrm_any (f : Mf) (a : Addr) (w : World) : (method 222 56 (.pointer (some a)) f.name).run Tryd.prog w = .ok (f.rfn, .pointer (some a)) w := by
  cases f <;> kernel_rfl
theorem mcf_any (f : Mf) (args : Array Value) (w : World) : (callFunc f.rfn args).run Tryd.prog w = .ok (.enter f.rfn args) w := by
  cases f <;> kernel_rfl
/-- A reader with its message, as far as safety goes. -/
structure Sg (lim p : Nat) (a b : Bool) (s : RS) (w : World) : Prop where
  rd : RdS lim w p s
  t : s.K.t = 63
  len : s.K.R.length = 49
  low : ∃ i : Nat, s.K.R[4]? = some (.int .u64 (i : Int))
  idx : ∃ i : Nat, s.K.R[14]? = some (.int .u64 (i : Int))
  vn : a = true → s.K.R[5]? = some (.slice none 0 0)
  pn : b = true → s.K.R[48]? = some (.slice none 0 0)
  pl : s.sound → s.place = 0
  one : ∀ u ∈ s.K.R, u.oneCell' = true
/-- One cell, or two, or a row of cells is set that safety does not hang on. -/
theorem Sg.put {lim p : Nat} {a b : Bool} {s t : RS} {w w' : World} (h : Sg lim p a b s w) (hK : t.K = s.K) (hp : t.sound → t.place = 0) (j : Nat) (v : Value) (hr : RdS lim w' p (t.setR j v)) (hj : j ≠ 4 ∧ j ≠ 14 ∧ j ≠ 5 ∧ j ≠ 48) (hv : v.oneCell' = true) : Sg lim p a b (t.setR j v) w' := by
  obtain ⟨j1, j2, j3, j4⟩ := hj
  refine ⟨hr, ?_, ?_, ?_, ?_, fun e => ?_, fun e => ?_, setR_place hp j v, setR_one (by rw [hK]; exact h.one) j hv⟩
  · rw [setR_t, hK]; exact h.t
  · rw [setR_len, hK]; exact h.len
  · rw [setR_far _ _ _ _ (fun e => j1 e.symm), hK]; exact h.low
  · rw [setR_far _ _ _ _ (fun e => j2 e.symm), hK]; exact h.idx
  · rw [setR_far _ _ _ _ (fun e => j3 e.symm), hK]; exact h.vn e
  · rw [setR_far _ _ _ _ (fun e => j4 e.symm), hK]; exact h.pn e
theorem Sg.putN {lim p : Nat} {a b : Bool} {s t : RS} {w w' : World} (h : Sg lim p a b s w) (hK : t.K = s.K) (hp : t.sound → t.place = 0) (j : Nat) (n : Nat) (hr : RdS lim w' p (t.setR j (.int .u64 (n : Int)))) (hj : j = 4 ∨ j = 14) : Sg lim p a b (t.setR j (.int .u64 (n : Int))) w' := by
  have hl : j < t.K.R.length := by rw [hK, h.len]; omega
  refine ⟨hr, ?_, ?_, ?_, ?_, fun e => ?_, fun e => ?_, setR_place hp j _, setR_one (by rw [hK]; exact h.one) j rfl⟩
  · rw [setR_t, hK]; exact h.t
  · rw [setR_len, hK]; exact h.len
  · rcases hj with rfl | rfl
    · exact ⟨n, setR_same _ _ _ hl⟩
    · rw [setR_far _ _ _ _ (by decide), hK]; exact h.low
  · rcases hj with rfl | rfl
    · rw [setR_far _ _ _ _ (by decide), hK]; exact h.idx
    · exact ⟨n, setR_same _ _ _ hl⟩
  · rw [setR_far _ _ _ _ (by omega), hK]; exact h.vn e
  · rw [setR_far _ _ _ _ (by omega), hK]; exact h.pn e
end Go.Proofs.YtidhondcfagoaaaDoor
namespace Go.Proofs.YtidhondcfagoaaaDoor
open Go.RowKit Crc

theorem Sg.of {lim p : Nat} {a b : Bool} {s s' : RS} {w w' : World} (h : Sg lim p a b s w) (hr : RdS lim w' p s') (ht : s'.K.t = s.K.t) (hl : s'.K.R.length = s.K.R.length) (far : ∀ j, j = 4 ∨ j = 14 ∨ j = 5 ∨ j = 48 → s'.K.R[j]? = s.K.R[j]?) (hp : s'.sound → s'.place = 0) (h1 : ∀ u ∈ s'.K.R, u.oneCell' = true) : Sg lim p a b s' w' :=
  ⟨hr, ht.trans h.t, hl.trans h.len, by rw [far 4 (by simp)]; exact h.low, by rw [far 14 (by simp)]; exact h.idx, fun e => by rw [far 5 (by simp)]; exact h.vn e, fun e => by rw [far 48 (by simp)]; exact h.pn e, hp, h1⟩
def Mf.fa : Mf → Bool → Bool
  | .votes, _ => false
  | _, a => a
def Mf.fb : Mf → Bool → Bool
  | .path, _ => false
  | _, b => b
theorem setRs_place : ∀ (vs : List Value) {s : RS} (j : Nat), (s.sound → s.place = 0) → (s.setRs j vs).sound → (s.setRs j vs).place = 0
  | [], _, _, h => h
  | v :: r, _, j, h => setRs_place r (j + 1) (setR_place h j v)
theorem setRs_one : ∀ (vs : List Value) {s : RS} (j : Nat), (∀ u ∈ s.K.R, u.oneCell' = true) → (∀ u ∈ vs, u.oneCell' = true) → ∀ u ∈ (s.setRs j vs).K.R, u.oneCell' = true
  | [], _, _, h, _ => h
  | v :: r, _, j, h, hv => setRs_one r (j + 1) (setR_one h j (hv v (by simp))) (fun u hu => hv u (by simp [hu]))
theorem chunk_K (s : RS) (v : Value) (c : Nat) (pos : Int) (y : Int) : (if c = 0 then (s.setR 12 v).failP pos y else s.setR 12 v).K = (s.setR 12 v).K := by
  split
  · rw [failP_K]
  · rfl
theorem chunk_place {s : RS} (h : s.sound → s.place = 0) (v : Value) (c : Nat) (pos : Int) (y : Int) (hy : y ≠ 0) : (if c = 0 then (s.setR 12 v).failP pos y else s.setR 12 v).sound → (if c = 0 then (s.setR 12 v).failP pos y else s.setR 12 v).place = 0 := by
  split
  · exact failP_place (setR_place h 12 v) _ _ hy
  · exact setR_place h 12 v
/-- What a field's reading leaves. -/
def MfPost (f : Mf) (lim p : Nat) (a b : Bool) (w w' : World) : Prop := ∃ s', Sg lim p (f.fa a) (f.fb b) s' w' ∧ w.grownBy w' (some p)
section
variable {lim p : Nat} {a b : Bool} {s : RS} {w : World}
theorem mf_seq (h : Sg lim p a b s w) : Calls Tryd.prog (Mf.seq).rfn #[.pointer (some ⟨p, 0, none⟩)] w fun e w' => e = .returned (.tuple #[]) ∧ Hid (MfPost .seq lim p a b w w') :=
  (fSeq_any lim p s w h.rd h.len).mono (fun _ _ ⟨h1, G⟩ => ⟨h1, _, h.put (step_K _ _ _) (RS.step_place h.pl _ _) 8 _ G.out.1 (by decide) rfl, G.out.2⟩)
theorem mf_stamp (h : Sg lim p a b s w) : Calls Tryd.prog (Mf.stamp).rfn #[.pointer (some ⟨p, 0, none⟩)] w fun e w' => e = .returned (.tuple #[]) ∧ Hid (MfPost .stamp lim p a b w w') :=
  (fStamp_any lim p s w h.rd h.len).mono (fun _ _ ⟨h1, G⟩ => ⟨h1, _, h.put (rdBound_K _ _ _) (rdBound_place h.pl _ _) 9 _ G.out.1 (by decide) rfl, G.out.2⟩)
theorem mf_outcome (h : Sg lim p a b s w) : Calls Tryd.prog (Mf.outcome).rfn #[.pointer (some ⟨p, 0, none⟩)] w fun e w' => e = .returned (.tuple #[]) ∧ Hid (MfPost .outcome lim p a b w w') :=
  (fCode_any lim p s w h.rd h.len).mono (fun _ _ ⟨h1, G⟩ => ⟨h1, _, h.put (rdBound_K _ _ _) (rdBound_place h.pl _ _) 10 _ G.out.1 (by decide) rfl, G.out.2⟩)
theorem mf_slot (h : Sg lim p a b s w) : Calls Tryd.prog (Mf.slot).rfn #[.pointer (some ⟨p, 0, none⟩)] w fun e w' => e = .returned (.tuple #[]) ∧ Hid (MfPost .slot lim p a b w w') :=
  (fSlot_any lim p s w h.rd h.len).mono (fun _ _ ⟨h1, G⟩ => ⟨h1, _, h.put (rdBound_K _ _ _) (rdBound_place h.pl _ _) 3 _ G.out.1 (by decide) rfl, G.out.2⟩)
theorem mf_suspect (h : Sg lim p a b s w) : Calls Tryd.prog (Mf.suspect).rfn #[.pointer (some ⟨p, 0, none⟩)] w fun e w' => e = .returned (.tuple #[]) ∧ Hid (MfPost .suspect lim p a b w w') :=
  (fSus_any lim p s w h.rd h.len).mono (fun _ _ ⟨h1, G⟩ => ⟨h1, _, h.put (step_K _ _ _) (RS.step_place h.pl _ _) 13 _ G.out.1 (by decide) rfl, G.out.2⟩)
theorem mf_low (h : Sg lim p a b s w) : Calls Tryd.prog (Mf.low).rfn #[.pointer (some ⟨p, 0, none⟩)] w fun e w' => e = .returned (.tuple #[]) ∧ Hid (MfPost .low lim p a b w w') :=
  (fLow_any lim p s w h.rd h.len).mono (fun _ _ ⟨h1, G⟩ => ⟨h1, _, h.putN (rdBound_K _ _ _) (rdBound_place h.pl _ _) 4 _ G.out.1 (by simp), G.out.2⟩)
theorem mf_index (h : Sg lim p a b s w) : Calls Tryd.prog (Mf.index).rfn #[.pointer (some ⟨p, 0, none⟩)] w fun e w' => e = .returned (.tuple #[]) ∧ Hid (MfPost .index lim p a b w w') :=
  (fIndex_any lim p s w h.rd h.len).mono (fun _ _ ⟨h1, G⟩ => ⟨h1, _, h.putN (rdBound_K _ _ _) (rdBound_place h.pl _ _) 14 _ G.out.1 (by simp), G.out.2⟩)
theorem mf_command (h : Sg lim p a b s w) : Calls Tryd.prog (Mf.command).rfn #[.pointer (some ⟨p, 0, none⟩)] w fun e w' => e = .returned (.tuple #[]) ∧ Hid (MfPost .command lim p a b w w') := by
  refine (fCmd_any lim p s w h.rd h.len).mono ?_
  rintro e w' ⟨h1, G⟩
  obtain ⟨v, g1, g2, g3⟩ := G.out
  exact ⟨h1, _, h.put (step_K _ _ _) (RS.step_place h.pl _ _) 11 _ g2 (by decide) (row_one g1.1), g3⟩
theorem mf_result (h : Sg lim p a b s w) : Calls Tryd.prog (Mf.result).rfn #[.pointer (some ⟨p, 0, none⟩)] w fun e w' => e = .returned (.tuple #[]) ∧ Hid (MfPost .result lim p a b w w') := by
  refine (fRes_any lim p s w h.rd h.len).mono ?_
  rintro e w' ⟨h1, G⟩
  obtain ⟨v, g1, g2, g3⟩ := G.out
  exact ⟨h1, _, h.put (step_K _ _ _) (RS.step_place h.pl _ _) 12 _ g2 (by decide) (row_one g1.1), g3⟩
theorem mf_ballot (h : Sg lim p a b s w) : Calls Tryd.prog (Mf.ballot).rfn #[.pointer (some ⟨p, 0, none⟩)] w fun e w' => e = .returned (.tuple #[]) ∧ Hid (MfPost .ballot lim p a b w w') := by
  refine (fBallot_any lim p s w h.rd h.len).mono ?_
  rintro e w' ⟨h1, G⟩
  refine ⟨h1, _, h.of G.out.1 ?_ ?_ (fun j hj => ?_) ?_ (setR_one (setR_one (by rw [balS_K]; exact h.one) _ rfl) _ rfl), G.out.2⟩
  · rw [setR_t, setR_t, balS_K]
  · rw [setR_len, setR_len, balS_K]
  · rw [setR_far _ _ _ _ (by omega), setR_far _ _ _ _ (by omega), balS_K]
  · exact setR_place (setR_place (bal_placeM h.pl) _ _) _ _
theorem mf_batch (h : Sg lim p a b s w) : Calls Tryd.prog (Mf.batch).rfn #[.pointer (some ⟨p, 0, none⟩)] w fun e w' => e = .returned (.tuple #[]) ∧ Hid (MfPost .batch lim p a b w w') := by
  refine (fBatch_any lim p s w h.rd h.len).mono ?_
  rintro e w' ⟨h1, G⟩
  obtain ⟨v, rs1, g1, _, _, g4, g5⟩ := G.out
  refine ⟨h1, _, h.of g4 ?_ ?_ (fun j hj => ?_) ?_ (setR_one (setR_one (by rw [bEnd_K]; exact h.one) _ rfl) _ (row_one g1.row)), g5⟩
  · rw [setR_t, setR_t, bEnd_K]
  · rw [setR_len, setR_len, bEnd_K]
  · rw [setR_far _ _ _ _ (by omega), setR_far _ _ _ _ (by omega), bEnd_K]
  · exact setR_place (setR_place (bEnd_place h.pl) _ _) _ _
theorem mf_total (h : Sg lim p a b s w) : Calls Tryd.prog (Mf.total).rfn #[.pointer (some ⟨p, 0, none⟩)] w fun e w' => e = .returned (.tuple #[]) ∧ Hid (MfPost .total lim p a b w w') := by
  obtain ⟨i, hi⟩ := h.idx
  obtain ⟨l, hl⟩ := wrap_nat i
  exact (fTotal_any lim p s w h.rd h.len i hi l hl).mono (fun _ _ ⟨h1, G⟩ => ⟨h1, _, h.put (rdBound_K _ _ _) (rdBound_place h.pl _ _) 15 _ G.out.1 (by decide) rfl, G.out.2⟩)
theorem mf_root (h : Sg lim p a b s w) : Calls Tryd.prog (Mf.root).rfn #[.pointer (some ⟨p, 0, none⟩)] w fun e w' => e = .returned (.tuple #[]) ∧ Hid (MfPost .root lim p a b w w') := by
  have hl : (vals (hashB s.rest)).length = 32 := by rw [vals_len, hashB_len]
  refine (fRoot_any lim p s w h.rd h.len).mono ?_
  rintro e w' ⟨h1, G⟩
  refine ⟨h1, _, h.of G.out.1 ?_ ?_ (fun j hj => ?_) ?_ (setRs_one _ _ (by rw [rdHash_K]; exact h.one) (vals_one' _)), G.out.2⟩
  · rw [setRs_t, rdHash_K]
  · rw [setRs_len, rdHash_K]
  · rw [setRs_far _ _ _ _ (by rw [hl]; omega), rdHash_K]
  · exact setRs_place _ _ (rdHash_place h.pl)
theorem mf_chunk (h : Sg lim p a b s w) : Calls Tryd.prog (Mf.chunk).rfn #[.pointer (some ⟨p, 0, none⟩)] w fun e w' => e = .returned (.tuple #[]) ∧ Hid (MfPost .chunk lim p a b w w') := by
  refine (fChunk_any lim p s w h.rd h.len).mono ?_
  rintro e w' ⟨h1, G⟩
  obtain ⟨v, g1, g2, g3⟩ := G.out
  have g2' : RdS lim w' p (if (blobAt s.rest 1024).1.length = 0 then ((s.step (blobAt s.rest 1024).2.1 (blobAt s.rest 1024).2.2).setR 12 v).failP s.pos 29 else (s.step (blobAt s.rest 1024).2.1 (blobAt s.rest 1024).2.2).setR 12 v) := g2
  have hK := chunk_K (s.step (blobAt s.rest 1024).2.1 (blobAt s.rest 1024).2.2) v (blobAt s.rest 1024).1.length s.pos 29
  have hP := chunk_place (RS.step_place h.pl (blobAt s.rest 1024).2.1 (blobAt s.rest 1024).2.2) v (blobAt s.rest 1024).1.length s.pos 29 (by decide)
  refine ⟨h1, _, h.of g2' ?_ ?_ (fun j hj => ?_) hP (by rw [hK]; exact setR_one (by rw [step_K]; exact h.one) _ (row_one g1.1)), g3⟩
  · rw [hK, setR_t, step_K]
  · rw [hK, setR_len, step_K]
  · rw [hK, setR_far _ _ _ _ (by omega), step_K]
theorem mf_votes (h : Sg lim p a b s w) (ha : a = true) : Calls Tryd.prog (Mf.votes).rfn #[.pointer (some ⟨p, 0, none⟩)] w fun e w' => e = .returned (.tuple #[]) ∧ Hid (MfPost .votes lim p a b w w') := by
  obtain ⟨i, hi⟩ := h.low
  refine (fVotes_any lim p s w h.rd h.len i hi (h.vn ha) h.pl h.one).mono ?_
  rintro e w' ⟨h1, G⟩
  obtain ⟨k, v, xs, s', vb⟩ := G.out
  refine ⟨h1, s', ⟨vb.rd, vb.t.trans h.t, vb.len, ?_, ?_, fun e => Bool.noConfusion e, fun e => ?_, vb.pl, vb.one⟩, vb.gr⟩
  · rw [vb.far 4 (by decide)]; exact h.low
  · rw [vb.far 14 (by decide)]; exact h.idx
  · rw [vb.far 48 (by decide)]; exact h.pn e
theorem mf_path (h : Sg lim p a b s w) (hb : b = true) : Calls Tryd.prog (Mf.path).rfn #[.pointer (some ⟨p, 0, none⟩)] w fun e w' => e = .returned (.tuple #[]) ∧ Hid (MfPost .path lim p a b w w') := by
  refine (fPath_any lim p s w h.rd h.len (h.pn hb) h.pl h.one).mono ?_
  rintro e w' ⟨h1, G⟩
  obtain ⟨k, v, xs, s', vb⟩ := G.out
  refine ⟨h1, s', ⟨vb.rd, vb.t.trans h.t, vb.len, ?_, ?_, fun e => ?_, fun e => Bool.noConfusion e, vb.pl, vb.one⟩, vb.gr⟩
  · rw [vb.far 4 (by decide)]; exact h.low
  · rw [vb.far 14 (by decide)]; exact h.idx
  · rw [vb.far 5 (by decide)]; exact h.vn e
theorem mf_any (f : Mf) (h : Sg lim p a b s w) (ha : f = .votes → a = true) (hb : f = .path → b = true) : Calls Tryd.prog f.rfn #[.pointer (some ⟨p, 0, none⟩)] w fun e w' => e = .returned (.tuple #[]) ∧ Hid (MfPost f lim p a b w w') := by
  cases f with
  | seq => exact mf_seq h
  | command => exact mf_command h
  | stamp => exact mf_stamp h
  | outcome => exact mf_outcome h
  | result => exact mf_result h
  | ballot => exact mf_ballot h
  | low => exact mf_low h
  | votes => exact mf_votes h (ha rfl)
  | slot => exact mf_slot h
  | batch => exact mf_batch h
  | suspect => exact mf_suspect h
  | index => exact mf_index h
  | total => exact mf_total h
  | root => exact mf_root h
  | chunk => exact mf_chunk h
  | path => exact mf_path h (hb rfl)
end
end Go.Proofs.YtidhondcfagoaaaDoor
