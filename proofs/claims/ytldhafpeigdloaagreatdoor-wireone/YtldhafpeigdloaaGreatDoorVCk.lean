import Derived.Test.YtldhafpeigdloaaGreatDoorM27
namespace Go.Proofs.YtldhafpeigdloaaGreatDoor
open Go.RowKit Crc

def Mf.ix : Mf → Nat
  | .seq => 6
  | .command => 9
  | .stamp => 7
  | .outcome => 8
  | .result => 10
  | .ballot => 1
  | .low => 3
  | .votes => 4
  | .slot => 2
  | .batch => 5
  | .suspect => 11
  | .index => 12
  | .total => 13
  | .root => 14
  | .chunk => 10
  | .path => 15
def Mf.cfn : Mf → Nat
  | .seq => 68
  | .command => 61
  | .stamp => 70
  | .outcome => 64
  | .result => 66
  | .ballot => 58
  | .low => 63
  | .votes => 73
  | .slot => 69
  | .batch => 59
  | .suspect => 71
  | .index => 62
  | .total => 72
  | .root => 67
  | .chunk => 60
  | .path => 65
theorem mcm_any (f : Mf) (a : Addr) (w : World) : (method 265 56 (.pointer (some a)) f.name).run Tryz.prog w = .ok (f.cfn, .pointer (some a)) w := by
  cases f <;> kernel_rfl
theorem mcc_any (f : Mf) (args : Array Value) (w : World) : (callFunc f.cfn args).run Tryz.prog w = .ok (.enter f.cfn args) w := by
  cases f <;> kernel_rfl
/-- A code as a number of 64 bits. -/
def codeN (c : Int) : Nat := (c % 18446744073709551616).toNat
theorem wrap_code (c : Int) : IntKind.u64.wrap c = ((codeN c : Nat) : Int) := by
  rw [IntKind.wrap_u64]
  unfold codeN
  omega
def chunkY (n : Nat) : Int := if n = 0 then 29 else cntY n 1024
/-- Why a field may not be. -/
def Mf.yv (m : Mg) : Mf → Int
  | .seq => 0
  | .command => cntY m.cn 700
  | .stamp => bndY m.stamp 0 1099511627776
  | .outcome => bndY (codeN m.code) 0 1023
  | .result => cntY m.dn 256
  | .ballot => balY m.num m.node
  | .low => bndY m.low 0 1099511627776
  | .votes => vsFault m.low m.vs
  | .slot => bndY m.slot 0 1099511627776
  | .batch => (bFault m.st m.rs).2
  | .suspect => 0
  | .index => bndY m.idx 0 39
  | .total => bndY m.cnt (vNx m.idx) 40
  | .root => 0
  | .chunk => chunkY m.dn
  | .path => cntY m.pn 6
section
variable {cb lim : Nat} {m : Mg} {U : List Bool} {Y : List Int} {w : World}
set_option maxRecDepth 10000 in
theorem ckm_seq (h : Ck cb m.R U Y w) (_hx : m.Ok lim w) (_hl : lim ≤ w.heap.size) :
    Calls Tryz.prog 68 #[.pointer (some ⟨cb, 0, none⟩)] w fun e w' => e = .returned (.tuple #[]) ∧ Hid (Ck cb m.R (U.set 6 true) (Y.set 6 0) w' ∧ w.grownBy w' (some cb)) := by
  have H := hide h
  clear h
  go_enter Tryz.func68, Tryz.ntmps68
  go_wp2_with fail
  refine (note_6 (H.out) 0).mono ?_
  rintro e w2 ⟨rfl, G2⟩
  go_wp2
  go_end0
  exact ⟨rfl, G2⟩
set_option maxRecDepth 10000 in
theorem ckm_suspect (h : Ck cb m.R U Y w) (_hx : m.Ok lim w) (_hl : lim ≤ w.heap.size) :
    Calls Tryz.prog 71 #[.pointer (some ⟨cb, 0, none⟩)] w fun e w' => e = .returned (.tuple #[]) ∧ Hid (Ck cb m.R (U.set 11 true) (Y.set 11 0) w' ∧ w.grownBy w' (some cb)) := by
  have H := hide h
  clear h
  go_enter Tryz.func71, Tryz.ntmps71
  go_wp2_with fail
  refine (note_11 (H.out) 0).mono ?_
  rintro e w2 ⟨rfl, G2⟩
  go_wp2
  go_end0
  exact ⟨rfl, G2⟩
set_option maxRecDepth 10000 in
theorem ckm_root (h : Ck cb m.R U Y w) (_hx : m.Ok lim w) (_hl : lim ≤ w.heap.size) :
    Calls Tryz.prog 67 #[.pointer (some ⟨cb, 0, none⟩)] w fun e w' => e = .returned (.tuple #[]) ∧ Hid (Ck cb m.R (U.set 14 true) (Y.set 14 0) w' ∧ w.grownBy w' (some cb)) := by
  have H := hide h
  clear h
  go_enter Tryz.func67, Tryz.ntmps67
  go_wp2_with fail
  refine (note_14 (H.out) 0).mono ?_
  rintro e w2 ⟨rfl, G2⟩
  go_wp2
  go_end0
  exact ⟨rfl, G2⟩
set_option maxRecDepth 10000 in
theorem ckm_slot (h : Ck cb m.R U Y w) (_hx : m.Ok lim w) (_hl : lim ≤ w.heap.size) :
    Calls Tryz.prog 69 #[.pointer (some ⟨cb, 0, none⟩)] w fun e w' => e = .returned (.tuple #[]) ∧ Hid (Ck cb m.R (U.set 2 true) (Y.set 2 (bndY m.slot 0 1099511627776)) w' ∧ w.grownBy w' (some cb)) := by
  have c1 := h.cellR 3 rfl
  have H := hide h
  clear h
  go_enter Tryz.func69, Tryz.ntmps69
  go_wp2_with fail
  refine (boundFault_any m.slot 0 1099511627776 w).mono ?_
  rintro e w1 ⟨rfl, rfl⟩
  clear c1
  go_wp2_with fail
  refine (note_2 (H.out) (bndY m.slot 0 1099511627776)).mono ?_
  rintro e w2 ⟨rfl, G2⟩
  go_wp2
  go_end0
  exact ⟨rfl, G2⟩
set_option maxRecDepth 10000 in
theorem ckm_low (h : Ck cb m.R U Y w) (_hx : m.Ok lim w) (_hl : lim ≤ w.heap.size) :
    Calls Tryz.prog 63 #[.pointer (some ⟨cb, 0, none⟩)] w fun e w' => e = .returned (.tuple #[]) ∧ Hid (Ck cb m.R (U.set 3 true) (Y.set 3 (bndY m.low 0 1099511627776)) w' ∧ w.grownBy w' (some cb)) := by
  have c1 := h.cellR 4 rfl
  have H := hide h
  clear h
  go_enter Tryz.func63, Tryz.ntmps63
  go_wp2_with fail
  refine (boundFault_any m.low 0 1099511627776 w).mono ?_
  rintro e w1 ⟨rfl, rfl⟩
  clear c1
  go_wp2_with fail
  refine (note_3 (H.out) (bndY m.low 0 1099511627776)).mono ?_
  rintro e w2 ⟨rfl, G2⟩
  go_wp2
  go_end0
  exact ⟨rfl, G2⟩
set_option maxRecDepth 10000 in
theorem ckm_stamp (h : Ck cb m.R U Y w) (_hx : m.Ok lim w) (_hl : lim ≤ w.heap.size) :
    Calls Tryz.prog 70 #[.pointer (some ⟨cb, 0, none⟩)] w fun e w' => e = .returned (.tuple #[]) ∧ Hid (Ck cb m.R (U.set 7 true) (Y.set 7 (bndY m.stamp 0 1099511627776)) w' ∧ w.grownBy w' (some cb)) := by
  have c1 := h.cellR 9 rfl
  have H := hide h
  clear h
  go_enter Tryz.func70, Tryz.ntmps70
  go_wp2_with fail
  refine (boundFault_any m.stamp 0 1099511627776 w).mono ?_
  rintro e w1 ⟨rfl, rfl⟩
  clear c1
  go_wp2_with fail
  refine (note_7 (H.out) (bndY m.stamp 0 1099511627776)).mono ?_
  rintro e w2 ⟨rfl, G2⟩
  go_wp2
  go_end0
  exact ⟨rfl, G2⟩
set_option maxRecDepth 10000 in
theorem ckm_index (h : Ck cb m.R U Y w) (_hx : m.Ok lim w) (_hl : lim ≤ w.heap.size) :
    Calls Tryz.prog 62 #[.pointer (some ⟨cb, 0, none⟩)] w fun e w' => e = .returned (.tuple #[]) ∧ Hid (Ck cb m.R (U.set 12 true) (Y.set 12 (bndY m.idx 0 39)) w' ∧ w.grownBy w' (some cb)) := by
  have c1 := h.cellR 14 rfl
  have H := hide h
  clear h
  go_enter Tryz.func62, Tryz.ntmps62
  go_wp2_with fail
  refine (boundFault_any m.idx 0 39 w).mono ?_
  rintro e w1 ⟨rfl, rfl⟩
  clear c1
  go_wp2_with fail
  refine (note_12 (H.out) (bndY m.idx 0 39)).mono ?_
  rintro e w2 ⟨rfl, G2⟩
  go_wp2
  go_end0
  exact ⟨rfl, G2⟩
set_option maxRecDepth 10000 in
theorem ckm_outcome (h : Ck cb m.R U Y w) (_hx : m.Ok lim w) (_hl : lim ≤ w.heap.size) :
    Calls Tryz.prog 64 #[.pointer (some ⟨cb, 0, none⟩)] w fun e w' => e = .returned (.tuple #[]) ∧ Hid (Ck cb m.R (U.set 8 true) (Y.set 8 (bndY (codeN m.code) 0 1023)) w' ∧ w.grownBy w' (some cb)) := by
  have c1 := h.cellR 10 rfl
  have H := hide h
  clear h
  have hwr := wrap_code m.code
  obtain ⟨X, hX⟩ : ∃ X, codeN m.code = X := ⟨_, rfl⟩
  rw [hX] at hwr ⊢
  clear hX
  go_enter Tryz.func64, Tryz.ntmps64
  go_wp2_with fail
  refine (boundFault_any X 0 1023 w).mono ?_
  rintro e w1 ⟨rfl, rfl⟩
  clear c1
  go_wp2_with fail
  refine (note_8 (H.out) (bndY X 0 1023)).mono ?_
  rintro e w2 ⟨rfl, G2⟩
  go_wp2
  go_end0
  exact ⟨rfl, G2⟩
set_option maxRecDepth 10000 in
set_option maxHeartbeats 800000 in
theorem ckm_total (h : Ck cb m.R U Y w) (_hx : m.Ok lim w) (_hl : lim ≤ w.heap.size) :
    Calls Tryz.prog 72 #[.pointer (some ⟨cb, 0, none⟩)] w fun e w' => e = .returned (.tuple #[]) ∧ Hid (Ck cb m.R (U.set 13 true) (Y.set 13 (bndY m.cnt (vNx m.idx) 40)) w' ∧ w.grownBy w' (some cb)) := by
  have c1 := h.cellR 15 rfl
  have c2 := h.cellR 14 rfl
  have HD : Hid (Ck cb m.R U Y w.drew) := ⟨h.box, h.rl, h.ul, h.yl⟩
  have hwr := wrap_nx m.idx
  obtain ⟨X, hX⟩ : ∃ X, vNx m.idx = X := ⟨_, rfl⟩
  rw [hX] at hwr ⊢
  clear hX
  have HN : Hid (∀ W, w.drew.grownBy W none → Calls Tryz.prog 74 #[.pointer (some ⟨cb, 0, none⟩), .int .i64 13, .int .i64 (bndY m.cnt X 40)] W fun e w' => e = .returned (.tuple #[]) ∧ Hid (Ck cb m.R (U.set 13 true) (Y.set 13 (bndY m.cnt X 40)) w' ∧ w.grownBy w' (some cb))) := fun W hg => (note_13 (HD.out.quiet hg) (bndY m.cnt X 40)).mono (fun _ _ q => ⟨q.1, q.2.out.1, grown_trans (row := some cb) (grown_trans (row := some cb) (grown_drew1 w cb) (grown_wide hg _)) q.2.out.2⟩)
  clear h
  go_enter Tryz.func72, Tryz.ntmps72
  go_wp2_with fail
  go_region_held (fun w' => w'.cell? ⟨cb, 15, none⟩ = some (.int .u64 (m.cnt : Int)) ∧ w'.cell? ⟨cb, 14, none⟩ = some (.int .u64 (m.idx : Int))) (first | go_keep | exact ⟨G2.out.1.cellR 15 rfl, G2.out.1.cellR 14 rfl⟩)
    (first | (go_at_call 78; refine (boundFault_any m.cnt X 40 _).mono ?_; rintro e w1 ⟨rfl, rfl⟩) | (go_at_call 74; refine (HN.out _ (below_none (Below.refl _ _))).mono ?_; rintro e w2 ⟨rfl, G2⟩))
  all_goals go_wp2
  all_goals go_end0
  all_goals exact ⟨rfl, G2⟩
set_option maxRecDepth 10000 in
theorem ckm_command (h : Ck cb m.R U Y w) (_hx : m.Ok lim w) (_hl : lim ≤ w.heap.size) :
    Calls Tryz.prog 61 #[.pointer (some ⟨cb, 0, none⟩)] w fun e w' => e = .returned (.tuple #[]) ∧ Hid (Ck cb m.R (U.set 9 true) (Y.set 9 (cntY m.cn 700)) w' ∧ w.grownBy w' (some cb)) := by
  have c1 := h.cellR 11 rfl
  have H := hide h
  clear h
  go_enter Tryz.func61, Tryz.ntmps61
  go_wp2_with fail
  refine (countFault_any (m.cn : Int) 700 w).mono ?_
  rintro e w1 ⟨rfl, rfl⟩
  clear c1
  go_wp2_with fail
  refine (note_9 (H.out) (cntY m.cn 700)).mono ?_
  rintro e w2 ⟨rfl, G2⟩
  go_wp2
  go_end0
  exact ⟨rfl, G2⟩
set_option maxRecDepth 10000 in
theorem ckm_result (h : Ck cb m.R U Y w) (_hx : m.Ok lim w) (_hl : lim ≤ w.heap.size) :
    Calls Tryz.prog 66 #[.pointer (some ⟨cb, 0, none⟩)] w fun e w' => e = .returned (.tuple #[]) ∧ Hid (Ck cb m.R (U.set 10 true) (Y.set 10 (cntY m.dn 256)) w' ∧ w.grownBy w' (some cb)) := by
  have c1 := h.cellR 12 rfl
  have H := hide h
  clear h
  go_enter Tryz.func66, Tryz.ntmps66
  go_wp2_with fail
  refine (countFault_any (m.dn : Int) 256 w).mono ?_
  rintro e w1 ⟨rfl, rfl⟩
  clear c1
  go_wp2_with fail
  refine (note_10 (H.out) (cntY m.dn 256)).mono ?_
  rintro e w2 ⟨rfl, G2⟩
  go_wp2
  go_end0
  exact ⟨rfl, G2⟩
set_option maxRecDepth 10000 in
theorem ckm_path (h : Ck cb m.R U Y w) (hx : m.Ok lim w) (_hl : lim ≤ w.heap.size) :
    Calls Tryz.prog 65 #[.pointer (some ⟨cb, 0, none⟩)] w fun e w' => e = .returned (.tuple #[]) ∧ Hid (Ck cb m.R (U.set 15 true) (Y.set 15 (cntY m.pn 6)) w' ∧ w.grownBy w' (some cb)) := by
  have c1 := h.cellR 48 (Mg.at48 hx.rl)
  have H := hide h
  clear h
  clear hx
  go_enter Tryz.func65, Tryz.ntmps65
  go_wp2_with fail
  refine (countFault_any (m.pn : Int) 6 w).mono ?_
  rintro e w1 ⟨rfl, rfl⟩
  clear c1
  go_wp2_with fail
  refine (note_15 (H.out) (cntY m.pn 6)).mono ?_
  rintro e w2 ⟨rfl, G2⟩
  go_wp2
  go_end0
  exact ⟨rfl, G2⟩
set_option maxRecDepth 10000 in
theorem ckm_ballot (h : Ck cb m.R U Y w) (_hx : m.Ok lim w) (_hl : lim ≤ w.heap.size) :
    Calls Tryz.prog 58 #[.pointer (some ⟨cb, 0, none⟩)] w fun e w' => e = .returned (.tuple #[]) ∧ Hid (Ck cb m.R (U.set 1 true) (Y.set 1 (balY m.num m.node)) w' ∧ w.grownBy w' (some cb)) := by
  have c1 := h.cellR 1 rfl
  have c2 := h.cellR 2 rfl
  have H := hide h
  clear h
  go_enter Tryz.func58, Tryz.ntmps58
  go_wp2_with fail
  refine (balF_any m.num m.node w).mono ?_
  rintro e w1 ⟨rfl, b1⟩
  clear c1 c2
  go_wp2_with fail
  refine (note_1 (H.out.quiet (below_none b1.out)) (balY m.num m.node)).mono ?_
  rintro e w2 ⟨rfl, G2⟩
  go_wp2
  go_end0
  exact ⟨rfl, G2.out.1, grown_trans (row := some cb) (grown_wide (below_none b1.out) _) G2.out.2⟩
set_option maxRecDepth 10000 in
theorem ckm_batch (h : Ck cb m.R U Y w) (hx : m.Ok lim w) (hl : lim ≤ w.heap.size) :
    Calls Tryz.prog 59 #[.pointer (some ⟨cb, 0, none⟩)] w fun e w' => e = .returned (.tuple #[]) ∧ Hid (Ck cb m.R (U.set 5 true) (Y.set 5 (bFault m.st m.rs).2) w' ∧ w.grownBy w' (some cb)) := by
  have c1 := h.cellR 6 rfl
  have c2 := h.cellR 7 rfl
  have H := hide h
  clear h
  have HB : Hid (Calls Tryz.prog 76 #[.agg #[.int .u64 (m.st : Int), .slice m.ro m.n m.rc]] w fun e w' => e = .returned (.tuple #[.int .i64 ((bFault m.st m.rs).1 : Int), .int .i64 (bFault m.st m.rs).2]) ∧ Hid (Below w.heap.size w w')) := by
    have h1 := batchFault_any m.st m.rc (hx.hR.wide hl)
    rw [hx.hn] at h1
    exact h1.mono (fun _ _ h => ⟨h.1, h.2⟩)
  generalize ((bFault m.st m.rs).1 : Int) = ba at *
  generalize (bFault m.st m.rs).2 = bc at *
  clear hx
  go_enter Tryz.func59, Tryz.ntmps59
  go_wp2_with fail
  refine (HB.out).mono ?_
  rintro e w1 ⟨rfl, b1⟩
  clear c1 c2
  go_wp2_with fail
  refine (note_5 (H.out.quiet (below_none b1.out)) bc).mono ?_
  rintro e w2 ⟨rfl, G2⟩
  go_wp2
  go_end0
  exact ⟨rfl, G2.out.1, grown_trans (row := some cb) (grown_wide (below_none b1.out) _) G2.out.2⟩
set_option maxRecDepth 10000 in
set_option maxHeartbeats 800000 in
theorem ckm_votes (h : Ck cb m.R U Y w) (hx : m.Ok lim w) (hl : lim ≤ w.heap.size) :
    Calls Tryz.prog 73 #[.pointer (some ⟨cb, 0, none⟩)] w fun e w' => e = .returned (.tuple #[]) ∧ Hid (Ck cb m.R (U.set 4 true) (Y.set 4 (vsFault m.low m.vs)) w' ∧ w.grownBy w' (some cb)) := by
  have c1 := h.cellR 5 rfl
  have c2 := h.cellR 4 rfl
  have HD : Hid (Ck cb m.R U Y w.drew) := ⟨h.box, h.rl, h.ul, h.yl⟩
  have HB : Hid (Calls Tryz.prog 79 #[.slice m.vo m.vn m.vc, .int .u64 (m.low : Int)] w.drew fun e w' => e = .returned (.int .i64 (vsFault m.low m.vs)) ∧ w.drew.grownBy w' none ∧ w'.cell? ⟨cb, 5, none⟩ = some (.slice m.vo m.vn m.vc) ∧ w'.cell? ⟨cb, 4, none⟩ = some (.int .u64 (m.low : Int))) := by
    have h1 := votesFault_any (w := w.drew) m.low m.vc ((hx.hV.below (w' := w.drew) ⟨rfl, rfl, rfl, Nat.le_refl _, fun _ _ => rfl⟩).wide hl)
    rw [hx.hvn] at h1
    refine h1.mono (fun _ w' q => ⟨q.1, below_none q.2.out, ?_, ?_⟩)
    · exact (HD.out.quiet (below_none q.2.out)).cellR 5 rfl
    · exact (HD.out.quiet (below_none q.2.out)).cellR 4 rfl
  generalize vsFault m.low m.vs = bc at *
  have HN : Hid (∀ W, w.drew.grownBy W none → Calls Tryz.prog 74 #[.pointer (some ⟨cb, 0, none⟩), .int .i64 4, .int .i64 bc] W fun e w' => e = .returned (.tuple #[]) ∧ Hid (Ck cb m.R (U.set 4 true) (Y.set 4 bc) w' ∧ w.grownBy w' (some cb))) := fun W hg => (note_4 (HD.out.quiet hg) bc).mono (fun _ _ q => ⟨q.1, q.2.out.1, grown_trans (row := some cb) (grown_trans (row := some cb) (grown_drew1 w cb) (grown_wide hg _)) q.2.out.2⟩)
  clear h hx
  go_enter Tryz.func73, Tryz.ntmps73
  go_wp2_with fail
  go_region_held (fun w' => w'.cell? ⟨cb, 5, none⟩ = some (.slice m.vo m.vn m.vc) ∧ w'.cell? ⟨cb, 4, none⟩ = some (.int .u64 (m.low : Int))) (first | go_keep | exact ⟨G2.out.1.cellR 5 rfl, G2.out.1.cellR 4 rfl⟩ | exact ⟨d1, d2⟩)
    (first | (go_at_call 79; refine HB.out.mono ?_; rintro e w1 ⟨rfl, g1, d1, d2⟩) | (go_at_call 74; refine (HN.out _ g1).mono ?_; rintro e w2 ⟨rfl, G2⟩))
  all_goals go_wp2
  all_goals go_end0
  all_goals exact ⟨rfl, G2⟩
set_option maxRecDepth 10000 in
theorem ckm_chunk (h : Ck cb m.R U Y w) (_hx : m.Ok lim w) (_hl : lim ≤ w.heap.size) :
    Calls Tryz.prog 60 #[.pointer (some ⟨cb, 0, none⟩)] w fun e w' => e = .returned (.tuple #[]) ∧ Hid (Ck cb m.R (U.set 10 true) (Y.set 10 (chunkY m.dn)) w' ∧ w.grownBy w' (some cb)) := by
  have c1 := h.cellR 12 rfl
  have H := hide h
  clear h
  unfold chunkY
  by_cases h0 : m.dn = 0
  · rw [if_pos h0]
    rw [h0] at c1
    go_enter Tryz.func60, Tryz.ntmps60
    go_wp2_with fail
    refine (countFault_any 0 1024 w).mono ?_
    rintro e w1 ⟨rfl, rfl⟩
    go_wp2_with fail
    refine (note_10 H.out 29).mono ?_
    rintro e w2 ⟨rfl, G2⟩
    go_wp2
    go_end0
    exact ⟨rfl, G2⟩
  · rw [if_neg h0]
    have d0 : ((m.dn : Int) == 0) = false := by simp; omega
    go_enter Tryz.func60, Tryz.ntmps60
    go_wp2_with fail
    refine (countFault_any (m.dn : Int) 1024 w).mono ?_
    rintro e w1 ⟨rfl, rfl⟩
    go_wp2_with fail
    refine (note_10 H.out (cntY m.dn 1024)).mono ?_
    rintro e w2 ⟨rfl, G2⟩
    go_wp2
    go_end0
    exact ⟨rfl, G2⟩
theorem ckm_any (f : Mf) (h : Ck cb m.R U Y w) (hx : m.Ok lim w) (hl : lim ≤ w.heap.size) :
    Calls Tryz.prog f.cfn #[.pointer (some ⟨cb, 0, none⟩)] w fun e w' => e = .returned (.tuple #[]) ∧ Hid (Ck cb m.R (U.set f.ix true) (Y.set f.ix (f.yv m)) w' ∧ w.grownBy w' (some cb)) := by
  cases f with
  | seq => exact ckm_seq h hx hl
  | command => exact ckm_command h hx hl
  | stamp => exact ckm_stamp h hx hl
  | outcome => exact ckm_outcome h hx hl
  | result => exact ckm_result h hx hl
  | ballot => exact ckm_ballot h hx hl
  | low => exact ckm_low h hx hl
  | votes => exact ckm_votes h hx hl
  | slot => exact ckm_slot h hx hl
  | batch => exact ckm_batch h hx hl
  | suspect => exact ckm_suspect h hx hl
  | index => exact ckm_index h hx hl
  | total => exact ckm_total h hx hl
  | root => exact ckm_root h hx hl
  | chunk => exact ckm_chunk h hx hl
  | path => exact ckm_path h hx hl
end
end Go.Proofs.YtldhafpeigdloaaGreatDoor
