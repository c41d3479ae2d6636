import Derived.Test.YtldhafpeigdloaaGreatDoorM4
import Derived.Test.YtldhafpeigdloaaGreatDoorM3
import Derived.Test.YtldhafpeigdloaaGreatDoorM0
import Derived.Deep.RegionHeld
namespace Go.Proofs.YtldhafpeigdloaaGreatDoor
open Go.RowKit Crc

theorem drop_drop_pos (B : List Nat) (pos k : Nat) : (B.drop pos).getD k 0 = B.getD (pos + k) 0 := by
  rw [List.getD_eq_getElem?_getD, List.getElem?_drop, ← List.getD_eq_getElem?_getD]
theorem RS.rest_eq {s : RS} (hs : s.sound) : s.rest = s.B.drop s.pos := by unfold RS.rest restB; rw [if_pos (show s.made = true ∧ s.why = 0 from hs)]
theorem RS.step_fail {s : RS} (hs : s.sound) (z : Nat) {y : Int} (hy : y ≠ 0) : s.step z y = { s with why := y, place := s.pos, pos := s.pos } := by unfold RS.step; rw [if_pos hs, if_neg hy]
theorem RS.step_ok {s : RS} (hs : s.sound) (z : Nat) : s.step z 0 = { s with pos := s.pos + z } := by unfold RS.step; rw [if_pos hs]; rfl

end Go.Proofs.YtldhafpeigdloaaGreatDoor
namespace Go.Proofs.YtldhafpeigdloaaGreatDoor
open Go.RowKit Crc

theorem RS.step_not {s : RS} (hs : ¬ s.sound) (z : Nat) (y : Int) : s.step z y = s := by unfold RS.step; rw [if_neg hs]
theorem RS.rest_not {s : RS} (hs : ¬ s.sound) : s.rest = [] := restB_sound hs
theorem RS.sound_ok {s : RS} (hs : s.sound) (z : Nat) : (s.step z 0).sound := by rw [RS.step_ok hs]; exact hs
theorem RS.unsound {s : RS} (z : Nat) {y : Int} (hy : y ≠ 0) : ¬ (s.step z y).sound := by
  by_cases hs : s.sound
  · rw [RS.step_fail hs z hy]; exact fun h => hy h.2
  · rw [RS.step_not hs]; exact hs
/-- Gone back to the field's beginning, and refused. -/
theorem RS.step_back {s : RS} (hs : s.sound) (z z' : Nat) {y : Int} (hy : y ≠ 0) : { s.step z 0 with why := y, place := (s.pos : Int), pos := s.pos } = s.step z' y := by rw [RS.step_ok hs, RS.step_fail hs z' hy]
theorem RS.step_B (s : RS) (z : Nat) (y : Int) : (s.step z y).B = s.B := by unfold RS.step; split <;> (try split) <;> rfl

end Go.Proofs.YtldhafpeigdloaaGreatDoor
namespace Go.Proofs.YtldhafpeigdloaaGreatDoor
open Go.RowKit Crc

/-- The text of bytes. -/
def strOf (L : List Nat) : ByteArray := (L.map (fun (x : Nat) => (x : Int))).foldl (fun r n => r.push (UInt8.ofNat n.toNat)) ByteArray.empty
theorem foldl_push (L : List Int) : ∀ acc : ByteArray, (L.foldl (fun r n => r.push (UInt8.ofNat n.toNat)) acc).data.toList = acc.data.toList ++ L.map (fun n => UInt8.ofNat n.toNat) := by
  induction L with
  | nil => intro acc; simp
  | cons n r ih => intro acc; rw [List.foldl_cons, ih]; simp [ByteArray.push]
theorem strOf_strB (s : ByteArray) : strOf (strB s) = s := by
  have h := foldl_push ((strB s).map (fun (x : Nat) => (x : Int))) ByteArray.empty
  have h2 : (strOf (strB s)).data.toList = s.data.toList := by
    unfold strOf
    rw [h]
    simp [strB, Function.comp_def]
  have h3 : (strOf (strB s)).data = s.data := Array.ext' h2
  cases hs : strOf (strB s) with
  | mk d => cases s with | mk d' => rw [hs] at h3; simp at h3; rw [h3]

theorem run_str {lim : Nat} {w : World} {ao : Option Addr} {n cap : Nat} {B : List Nat} (h : Shows lim w ao n cap B) :
    (convert 31 9 (.slice ao n cap)).run Tryz.prog w = .ok (.string (strOf B)) w := by
  rw [run_convert_bytes_string w 31 9 5 ao n cap Tryz.underlying31 Tryz.underlying5 Tryz.underlying9]
  obtain ⟨h1, h2, h3, h4, b, off, h5, h6, h7⟩ := h
  cases ao with
  | none =>
    have hn : n = 0 := by
      rcases Nat.eq_zero_or_pos n with h | h
      · exact h
      · have := h5 h; cases this
    obtain rfl : B = [] := List.eq_nil_of_length_eq_zero (by omega)
    simp [Conv.bytesToString, strOf, Sem.run_pure]
  | some ad =>
    have hl := run_loadCells_list (P := Tryz.prog) (w := w) ad (vals B) (by
      intro j v hj
      have hj2 := (vals_get B j v hj).1
      have := h5 (by omega)
      cases this
      exact vals_cell (fun i hi => h7 i (by omega)) j v hj)
    rw [vals_len, ← h1] at hl
    have e : vals B = (B.map (fun (x : Nat) => (x : Int))).map (Value.int .u8) := by simp [vals]
    rw [e] at hl
    exact run_bytesToString w ad n cap _ hl

def textAt (B : List Nat) (most : Int) (ok : Bool) : ByteArray × Nat × Int :=
  if (blobAt B most).2.2 ≠ 0 then (ByteArray.empty, 0, (blobAt B most).2.2) else if ok then (strOf (blobAt B most).1, (blobAt B most).2.1, 0) else (ByteArray.empty, 0, 27)

theorem textAt_ok (B : List Nat) (most : Int) (ok : Bool) : (textAt B most ok).2.1 ≤ B.length := by
  unfold textAt
  split
  · simp
  · split
    · exact blobAt_ok B most
    · simp

end Go.Proofs.YtldhafpeigdloaaGreatDoor
namespace Go.Proofs.YtldhafpeigdloaaGreatDoor
open Go.RowKit Crc

set_option maxRecDepth 10000 in
set_option maxHeartbeats 400000 in
theorem newWriter_full (w : World) :
    Calls Tryz.prog 29 #[.int .i64 65507] w fun e w' => e = .returned (.pointer (some ⟨w.heap.size, 0, none⟩)) ∧ Wr KW w.heap.size w' w.heap.size true 0 0 65507 [] ∧ Below w.heap.size w w' := by
  go_enter Tryz.func29, Tryz.ntmps29
  go_wp2
  go_ret
  refine ⟨rfl, ⟨.slice none 0 0, ?_, Owns.nil _ _, by simp [Value.ownBlock]⟩, (Below.refl _ w).alloc (Nat.le_refl _) _⟩
  exact heap_alloc_new w _

set_option maxRecDepth 10000 in
set_option maxHeartbeats 400000 in
theorem told_sound (p : Nat) (w : World) (h0 : w.cell? ⟨p, 0, none⟩ = some (.bool true)) (h2 : w.cell? ⟨p, 2, none⟩ = some (.int .i64 0)) :
    Calls Tryz.prog 38 #[.pointer (some ⟨p, 0, none⟩)] w fun e w' => e = .returned .nilIface ∧ w' = w := by
  go_enter Tryz.func38, Tryz.ntmps38
  go_wp2
  go_ret
  exact ⟨rfl, rfl⟩

set_option maxRecDepth 10000 in
set_option maxHeartbeats 400000 in
theorem wBytes_good {K : Kd} (base p : Nat) (place most : Int) (L : List Nat) (w : World) (hW : Wr K base w p true place 0 most L) :
    Calls Tryz.prog 30 #[.pointer (some ⟨p, 0, none⟩)] w fun e w' => ∃ v, e = .returned (.tuple #[v, .nilIface]) ∧ Owns w.heap.size w' v L ∧ Below w.heap.size w w' := by
  obtain ⟨u, hb, hO, hne⟩ := hW
  obtain ⟨ao, cap, rfl, hS, _⟩ := hO.form
  have c0 := block_cell hb 0
  have c2 := block_cell hb 2
  have c4 := block_cell hb 4
  simp at c0 c2 c4
  have HTS := hide (told_sound p w c0 c2)
  have HCP := hide (copied_sh hS (Nat.le_refl _))
  have HOO := hide hO.2
  clear hb hO hne hS c0 c2
  generalize L.length = n at c4 HCP
  go_enter Tryz.func30, Tryz.ntmps30
  go_wp2_with fail
  refine HTS.out.mono ?_
  rintro e w1 ⟨rfl, rfl⟩
  go_wp2_with fail
  refine HCP.out.mono ?_
  rintro e w2 ⟨v, rfl, _, _, hfr⟩
  go_wp2
  go_ret2
  exact ⟨v, rfl, ⟨hfr.1, HOO.out⟩, hfr.2⟩

set_option maxRecDepth 10000 in
set_option maxHeartbeats 400000 in
theorem readerAt_any (ao : Option Addr) (n cap pos : Nat) (w : World) :
    Calls Tryz.prog 24 #[.slice ao n cap, .int .i64 (pos : Int)] w fun e w' => e = .returned (.agg #[.bool true, .int .i64 0, .int .i64 0, .slice ao n cap, .int .i64 (pos : Int)]) ∧ Below w.heap.size w w' := by
  go_enter Tryz.func24, Tryz.ntmps24
  go_wp2
  refine bodyPost_ret (v := .agg #[.bool true, .int .i64 0, .int .i64 0, .slice ao n cap, .int .i64 (pos : Int)]) (by simp [results, Tryz.results24, go_sem]) rfl ⟨rfl, (Below.refl _ w).alloc (Nat.le_refl _) _⟩

set_option maxRecDepth 10000 in
set_option maxHeartbeats 400000 in
theorem rAt_any (lim p : Nat) (s : RS) (w : World) (hR : RdS lim w p s) :
    Calls Tryz.prog 128 #[.pointer (some ⟨p, 0, none⟩)] w fun e w' => e = .returned (.int .i64 (s.pos : Nat)) ∧ w' = w := by
  obtain ⟨ao, cap, hb, hS, hp, hl⟩ := hR
  have c4 := block_cell hb 4
  simp at c4
  clear hb hS hp hl
  go_enter Tryz.func128, Tryz.ntmps128
  go_wp2
  go_ret
  exact ⟨rfl, rfl⟩

set_option maxRecDepth 10000 in
set_option maxHeartbeats 400000 in
theorem rLeft_any (lim p : Nat) (s : RS) (w : World) (hR : RdS lim w p s) :
    Calls Tryz.prog 41 #[.pointer (some ⟨p, 0, none⟩)] w fun e w' => e = .returned (.int .i64 ((s.B.length - s.pos : Nat) : Int)) ∧ ∃ q, w' = w.drewN q := by
  obtain ⟨ao, cap, hb, hS, hp, hl⟩ := hR
  have c3 := block_cell hb 3
  have c4 := block_cell hb 4
  simp at c3 c4
  have hn := hS.2.2.1
  clear hb hS hl
  have HE : Hid ((s.B.length : Int) - (s.pos : Int) = ((s.B.length - s.pos : Nat) : Int)) := by show _ = _; omega
  generalize s.B.length = n at *
  generalize s.pos = pos at *
  have h0 : (pos : Int) ≤ (n : Int) := by omega
  go_enter Tryz.func41, Tryz.ntmps41
  go_wp2_with fail
  go_quiet (fail)
  go_wp2
  go_ret
  exact ⟨by rw [← HE.out]; rfl, _, rfl⟩

set_option maxRecDepth 10000 in
set_option maxHeartbeats 400000 in
theorem rErr_sound (lim p : Nat) (s : RS) (w : World) (hR : RdS lim w p s) (hs : s.sound) :
    Calls Tryz.prog 40 #[.pointer (some ⟨p, 0, none⟩)] w fun e w' => e = .returned .nilIface ∧ w' = w := by
  obtain ⟨ao, cap, hb, hS, hp, hl⟩ := hR
  have c0 := block_cell hb 0
  have c2 := block_cell hb 2
  simp at c0 c2
  rw [hs.1] at c0
  rw [hs.2] at c2
  have HTS := hide (told_sound p w c0 c2)
  clear hb hS hp hl hs c0 c2
  go_enter Tryz.func40, Tryz.ntmps40
  go_wp2_with fail
  refine HTS.out.mono ?_
  rintro e w1 ⟨rfl, rfl⟩
  go_wp2
  go_ret
  exact ⟨rfl, rfl⟩

set_option maxRecDepth 10000 in
set_option maxHeartbeats 400000 in
theorem rEnd_sound (lim p : Nat) (s : RS) (w : World) (hR : RdS lim w p s) (hs : s.sound) (he : s.pos = s.B.length) :
    Calls Tryz.prog 36 #[.pointer (some ⟨p, 0, none⟩)] w fun e w' => e = .returned .nilIface ∧ ∃ q, w' = w.drewN q := by
  have HER := hide (rErr_sound lim p s w hR hs)
  have HLF : Hid (Calls Tryz.prog 41 #[.pointer (some ⟨p, 0, none⟩)] w fun e w' => e = .returned (.int .i64 0) ∧ ∃ q, w' = w.drewN q) := by
    have h := rLeft_any lim p s w hR
    rw [he, Nat.sub_self] at h
    exact h
  clear hR hs he
  go_enter Tryz.func36, Tryz.ntmps36
  go_wp2_with fail
  refine HER.out.mono ?_
  rintro e w1 ⟨rfl, rfl⟩
  go_wp2_with fail
  refine HLF.out.mono ?_
  rintro e w2 ⟨rfl, q, rfl⟩
  go_wp2
  go_ret
  exact ⟨rfl, q, rfl⟩
end Go.Proofs.YtldhafpeigdloaaGreatDoor
namespace Go.Proofs.YtldhafpeigdloaaGreatDoor
open Go.RowKit Crc

theorem assert_ptr (g : Nat) (w : World) : (Instr.typeAssert (.iface 84 (.pointer (some ⟨g, 0, none⟩))) 38 84 true).run Tryz.prog w = .ok (.tuple #[.pointer (some ⟨g, 0, none⟩), .bool true]) w := by kernel_rfl
theorem assert_num (n : Int) (w : World) : (Instr.typeAssert (.iface 30 (.int .i64 n)) 38 30 true).run Tryz.prog w = .ok (.tuple #[.int .i64 n, .bool true]) w := by kernel_rfl
set_option maxRecDepth 10000 in
set_option maxHeartbeats 400000 in
theorem refusal_any (at_ why : Int) (w : World) :
    Calls Tryz.prog 13 #[.int .i64 at_, .int .i64 why] w fun e w' => ∃ v, e = .returned v ∧ v = .iface 84 (.pointer (some ⟨w.heap.size, 0, none⟩)) ∧ IsFault w' v at_ why ∧ Below w.heap.size w w' := by
  go_enter Tryz.func13, Tryz.ntmps13
  go_wp2
  go_ret
  refine ⟨_, rfl, rfl, ⟨w.heap.size, rfl, ?_, ?_, ?_⟩, (Below.refl _ _).alloc (Nat.le_refl _) _⟩ <;> simp
end Go.Proofs.YtldhafpeigdloaaGreatDoor
namespace Go.Proofs.YtldhafpeigdloaaGreatDoor
open Go.RowKit Crc

/-- What Err and End tell: the number and the place. -/
def RS.errC (s : RS) : Int := if s.made = true then s.why else 3
def RS.errA (s : RS) : Int := if s.made = true then s.place else 0
def RS.endC (s : RS) : Int := if s.sound then (if s.pos < s.B.length then 28 else 0) else s.errC
def RS.endA (s : RS) : Int := if s.sound then (if s.pos < s.B.length then (s.pos : Int) else 0) else s.errA

end Go.Proofs.YtldhafpeigdloaaGreatDoor
namespace Go.Proofs.YtldhafpeigdloaaGreatDoor
open Go.RowKit Crc

/-! A nil reader reads nothing. -/
set_option maxRecDepth 10000 in
theorem rest_nil (w : World) :
    Calls Tryz.prog 139 #[.pointer none] w fun e w' => e = .returned (.slice none 0 0) ∧ w' = w := by
  go_enter Tryz.func139, Tryz.ntmps139
  go_wp2
  go_ret
  exact ⟨rfl, rfl⟩
set_option maxRecDepth 10000 in
theorem step_nil (zi why : Int) (w : World) :
    Calls Tryz.prog 140 #[.pointer none, .int .i64 zi, .int .i64 why] w fun e w' => e = .returned (.tuple #[]) ∧ w' = w := by
  go_enter Tryz.func140, Tryz.ntmps140
  go_wp2
  go_end0
  exact ⟨rfl, rfl⟩
theorem countAt_nil (most : Int) : countAt [] most = (0, 0, 20) := rfl
theorem blobAt_nil (most : Int) : blobAt [] most = ([], 0, 20) := rfl
theorem textAt_nil (most : Int) (ok : Bool) : textAt [] most ok = (ByteArray.empty, 0, 20) := rfl

set_option maxRecDepth 10000 in
set_option maxHeartbeats 400000 in
theorem fixed_nil (k : Nat) (ki : Int) (w : World) (hki : ki = (k : Int)) (hk : 0 < k) (hk8 : k ≤ 8) :
    Calls Tryz.prog 145 #[.pointer none, .int .i64 ki] w fun e w' => e = .returned (.int .u64 0) ∧ w.grownBy w' none := by
  subst hki
  have HBA := hide (bytesAhead_any (lim := 0) (w := w) (ao := none) (n := 0) (cap := 0) (B := []) k hk hk8 shows_none)
  go_enter Tryz.func145, Tryz.ntmps145
  go_wp2_with fail
  refine (rest_nil w).mono ?_
  rintro e w1 ⟨rfl, rfl⟩
  go_wp2_with fail
  refine HBA.out.mono ?_
  rintro e w2 ⟨a2, n2, c2, rfl, hs2, hn2, rfl⟩
  have hz : n2 = 0 := by
    have h1 := hs2.1
    rw [if_pos hk] at h1
    exact h1
  subst hz
  have HS2 := hide hs2
  clear hs2
  go_wp2_with fail
  refine (step_nil _ _ _).mono ?_
  rintro e w3 ⟨rfl, rfl⟩
  go_wp2_with fail
  refine (high_sh (B := []) (lim := 0) (cap := c2) (ao := a2) shows_none (by omega)).mono ?_
  rintro e w4 ⟨rfl, rfl⟩
  go_wp2
  go_ret
  exact ⟨rfl, ⟨rfl, rfl, rfl, Nat.le_refl _, fun _ _ _ => rfl⟩⟩

set_option maxRecDepth 10000 in
theorem rU8_nil (w : World) :
    Calls Tryz.prog 136 #[.pointer none] w fun e w' => e = .returned (.int .u8 0) ∧ w.grownBy w' none := by
  have HF := hide (fixed_nil 1 1 w rfl (by omega) (by omega))
  go_enter Tryz.func136, Tryz.ntmps136
  go_wp2_with fail
  refine HF.out.mono ?_
  rintro e w1 ⟨rfl, hg⟩
  go_wp2
  go_ret
  exact ⟨rfl, hg⟩

set_option maxRecDepth 10000 in
set_option maxHeartbeats 400000 in
theorem rNum_nil (w : World) :
    Calls Tryz.prog 133 #[.pointer none] w fun e w' => e = .returned (.int .u64 0) ∧ w.grownBy w' none := by
  have HA : Hid (Calls Tryz.prog 143 #[.slice none 0 0] w fun e w' => e = .returned (.tuple #[.int .u64 0, .int .i64 0, .int .i64 20]) ∧ w' = w) := numAhead_any (lim := 0) (B := []) shows_none
  go_enter Tryz.func133, Tryz.ntmps133
  go_wp2_with fail
  refine (rest_nil w).mono ?_
  rintro e w1 ⟨rfl, rfl⟩
  go_wp2_with fail
  refine HA.out.mono ?_
  rintro e w2 ⟨rfl, rfl⟩
  go_wp2_with fail
  refine (step_nil _ _ _).mono ?_
  rintro e w3 ⟨rfl, rfl⟩
  go_wp2
  go_ret
  exact ⟨rfl, ⟨rfl, rfl, rfl, Nat.le_refl _, fun _ _ _ => rfl⟩⟩

set_option maxRecDepth 10000 in
set_option maxHeartbeats 400000 in
theorem rFlag_nil (w : World) :
    Calls Tryz.prog 134 #[.pointer none] w fun e w' => e = .returned (.bool false) ∧ w.grownBy w' none := by
  have HA : Hid (Calls Tryz.prog 144 #[.slice none 0 0] w fun e w' => e = .returned (.tuple #[.bool false, .int .i64 20]) ∧ ∃ q, w' = w.drewN q) := flagAhead_any (lim := 0) (B := []) shows_none
  go_enter Tryz.func134, Tryz.ntmps134
  go_wp2_with fail
  refine (rest_nil w).mono ?_
  rintro e w1 ⟨rfl, rfl⟩
  go_wp2_with fail
  refine HA.out.mono ?_
  rintro e w2 ⟨rfl, q, rfl⟩
  go_wp2_with fail
  refine (step_nil _ _ _).mono ?_
  rintro e w3 ⟨rfl, rfl⟩
  go_wp2
  go_ret
  exact ⟨rfl, ⟨rfl, rfl, rfl, Nat.le_refl _, fun _ _ _ => rfl⟩⟩

set_option maxRecDepth 10000 in
set_option maxHeartbeats 400000 in
theorem rCount_nil (most : Int) (w : World) (hm1 : -9223372036854775808 ≤ most) (hm2 : most < 9223372036854775808) :
    Calls Tryz.prog 131 #[.pointer none, .int .i64 most] w fun e w' => e = .returned (.int .i64 0) ∧ w.grownBy w' none := by
  have HA : Hid (Calls Tryz.prog 141 #[.slice none 0 0, .int .i64 most] w fun e w' => e = .returned (.tuple #[.int .i64 0, .int .i64 0, .int .i64 20]) ∧ ∃ q, w' = w.drewN q) := countAhead_any (lim := 0) (B := []) shows_none most hm1 hm2
  go_enter Tryz.func131, Tryz.ntmps131
  go_wp2_with fail
  refine (rest_nil w).mono ?_
  rintro e w1 ⟨rfl, rfl⟩
  go_wp2_with fail
  refine HA.out.mono ?_
  rintro e w2 ⟨rfl, q, rfl⟩
  go_wp2_with fail
  refine (step_nil _ _ _).mono ?_
  rintro e w3 ⟨rfl, rfl⟩
  go_wp2
  go_ret
  exact ⟨rfl, ⟨rfl, rfl, rfl, Nat.le_refl _, fun _ _ _ => rfl⟩⟩

set_option maxRecDepth 10000 in
set_option maxHeartbeats 400000 in
theorem rBlob_nil (most : Int) (w : World) (hm1 : -9223372036854775808 ≤ most) (hm2 : most < 9223372036854775808) :
    Calls Tryz.prog 129 #[.pointer none, .int .i64 most] w fun e w' => ∃ v, e = .returned v ∧ Owns w.heap.size w' v [] ∧ w.grownBy w' none := by
  have HA : Hid (Calls Tryz.prog 138 #[.slice none 0 0, .int .i64 most] w fun e w' => ∃ a2 n2 c2, e = .returned (.tuple #[.slice a2 n2 c2, .int .i64 0, .int .i64 20]) ∧ Shows 0 w a2 n2 c2 [] ∧ ∃ q, w' = w.drewN q) := blobAhead_any (lim := 0) (B := []) shows_none most hm1 hm2
  go_enter Tryz.func129, Tryz.ntmps129
  go_wp2_with fail
  refine (rest_nil w).mono ?_
  rintro e w1 ⟨rfl, rfl⟩
  go_wp2_with fail
  refine HA.out.mono ?_
  rintro e w2 ⟨a2, n2, c2, rfl, hs2, q, rfl⟩
  have HS2 := hide (hs2.world (w' := w1.drewN q) rfl)
  clear hs2
  go_wp2_with fail
  refine (step_nil _ _ _).mono ?_
  rintro e w3 ⟨rfl, rfl⟩
  go_wp2_with fail
  refine (copied_sh HS2.out (Nat.zero_le _)).mono ?_
  rintro e w4 ⟨v, rfl, hv, _, hfr⟩
  go_wp2
  go_ret
  exact ⟨v, rfl, ⟨hfr.1, by simp, by simp⟩, grown_from (below_none hfr.2)⟩

set_option maxRecDepth 10000 in
theorem rAt_nil (w : World) :
    Calls Tryz.prog 128 #[.pointer none] w fun e w' => e = .returned (.int .i64 0) ∧ w' = w := by
  go_enter Tryz.func128, Tryz.ntmps128
  go_wp2
  go_ret
  exact ⟨rfl, rfl⟩
set_option maxRecDepth 10000 in
theorem rLeft_nil (w : World) :
    Calls Tryz.prog 41 #[.pointer none] w fun e w' => e = .returned (.int .i64 0) ∧ w' = w := by
  go_enter Tryz.func41, Tryz.ntmps41
  go_wp2
  go_ret
  exact ⟨rfl, rfl⟩

theorem cell_lt {w : World} {b o : Nat} {v : Value} (h : w.cell? ⟨b, o, none⟩ = some v) : b < w.heap.size := World.block_lt_of_cell? w _ h
/-- What an error says: no fault, or a fault of this layer. -/
def ErrV (w : World) (v : Value) (c a : Int) : Prop := (v = .nilIface ∧ c = 0 ∧ a = 0) ∨ (IsFault w v a c ∧ c ≠ 0)
set_option maxRecDepth 10000 in
theorem rErr_nil (w : World) :
    Calls Tryz.prog 40 #[.pointer none] w fun e w' => ∃ v, e = .returned v ∧ ErrV w' v 3 0 ∧ Below w.heap.size w w' := by
  go_enter Tryz.func40, Tryz.ntmps40
  go_wp2_with fail
  refine (refusal_any 0 3 w).mono ?_
  rintro e w1 ⟨v, rfl, hv, hf, hb⟩
  have HF := hide (And.intro hf hb)
  clear hv hf hb
  go_wp2
  go_ret
  exact ⟨v, rfl, .inr ⟨HF.out.1, by decide⟩, HF.out.2⟩

set_option maxRecDepth 10000 in
set_option maxHeartbeats 400000 in
theorem toldF_any (p : Nat) (made : Bool) (place why : Int) (w : World) (h0 : w.cell? ⟨p, 0, none⟩ = some (.bool made)) (h1 : w.cell? ⟨p, 1, none⟩ = some (.int .i64 place)) (h2 : w.cell? ⟨p, 2, none⟩ = some (.int .i64 why)) (hz : made = true → why = 0 → place = 0) :
    Calls Tryz.prog 38 #[.pointer (some ⟨p, 0, none⟩)] w fun e w' => ∃ v, e = .returned v ∧ ErrV w' v (if made = true then why else 3) (if made = true then place else 0) ∧ Below w.heap.size w w' := by
  by_cases hm : made = true
  · subst hm
    simp only [if_true]
    by_cases hw : why = 0
    · subst hw
      obtain rfl := hz rfl rfl
      refine (told_sound p w h0 h2).mono ?_
      rintro e w' ⟨rfl, rfl⟩
      exact ⟨_, rfl, .inl ⟨rfl, rfl, rfl⟩, Below.refl _ _⟩
    · have hwb : (why == 0) = false := by simp [hw]
      have hwb' : (why != 0) = true := by simp [hw]
      have HW := hide hw
      have HRF : Hid (∀ q, Calls Tryz.prog 13 #[.int .i64 place, .int .i64 why] (w.drewN q) fun e w' => ∃ v, e = .returned v ∧ w'.cell? ⟨p, 1, none⟩ = some (.int .i64 place) ∧ w'.cell? ⟨p, 2, none⟩ = some (.int .i64 why) ∧ Hid (IsFault w' v place why ∧ Below w.heap.size w w')) := by
        intro q
        refine (refusal_any place why (w.drewN q)).mono ?_
        rintro e w1 ⟨v, rfl, hv, hf, hb⟩
        exact ⟨v, rfl, (hb.cell (p := ⟨p, 1, none⟩) (cell_lt h1)).trans h1, (hb.cell (p := ⟨p, 2, none⟩) (cell_lt h2)).trans h2, hf, ⟨hb.os, hb.tape, hb.output, hb.size, hb.block⟩⟩
      clear hz hw
      go_enter Tryz.func38, Tryz.ntmps38
      go_wp2_with fail
      go_region_held (fun w' => w'.cell? ⟨p, 1, none⟩ = some (.int .i64 place) ∧ w'.cell? ⟨p, 2, none⟩ = some (.int .i64 why)) (go_keep)
        ((go_at_call 13; refine (HRF.out _).mono ?_; rintro e w1 ⟨v, rfl, hx1, hx2, HF⟩))
      all_goals go_wp2
      all_goals go_ret
      all_goals exact ⟨v, rfl, .inr ⟨HF.out.1, HW.out⟩, HF.out.2⟩
  · obtain rfl : made = false := by simpa using hm
    simp only [Bool.false_eq_true, if_false]
    clear hz hm
    go_enter Tryz.func38, Tryz.ntmps38
    go_wp2_with fail
    refine (refusal_any 0 3 w).mono ?_
    rintro e w1 ⟨v, rfl, hv, hf, hb⟩
    have HF := hide (And.intro hf hb)
    clear hv hf hb
    go_wp2
    go_ret
    exact ⟨v, rfl, .inr ⟨HF.out.1, by decide⟩, HF.out.2⟩

/-! The program's reader, nil or not. -/
def RS0 : RS := ⟨false, 0, 0, [], 0, KR⟩
def RdP (lim : Nat) (w : World) (po : Option Addr) (s : RS) : Prop := (po = none ∧ s = RS0) ∨ ∃ p, po = some ⟨p, 0, none⟩ ∧ RdS lim w p s
def rowP (po : Option Addr) : Option Nat := po.map (·.block)
theorem RS0_not : ¬ RS0.sound := by intro h; cases h.1
theorem RS0_rest : RS0.rest = [] := rfl
theorem RdP.kept {lim : Nat} {w w' : World} {po : Option Addr} {s : RS} {row : Option Nat} (h : RdP lim w po s) (hg : w.grownBy w' row) (hr : ∀ g, row = some g → lim ≤ g ∧ rowP po ≠ some g) : RdP lim w' po s := by
  rcases h with ⟨rfl, rfl⟩ | ⟨p, rfl, h⟩
  · exact .inl ⟨rfl, rfl⟩
  · exact .inr ⟨p, rfl, h.kept hg (fun g e => ⟨(hr g e).1, fun e2 => (hr g e).2 (by rw [e2]; rfl)⟩)⟩
theorem grown_any {w w' : World} {row : Option Nat} (h : w.grownBy w' none) : w.grownBy w' row := ⟨h.os, h.tape, h.output, h.size, fun k hk _ => h.block k hk (by simp)⟩

set_option maxRecDepth 10000 in
set_option maxHeartbeats 400000 in
theorem rErrP {lim : Nat} {w : World} {po : Option Addr} {s : RS} (h : RdP lim w po s) (hz : s.sound → s.place = 0) :
    Calls Tryz.prog 40 #[.pointer po] w fun e w' => ∃ v, e = .returned v ∧ ErrV w' v s.errC s.errA ∧ Below w.heap.size w w' := by
  rcases h with ⟨rfl, rfl⟩ | ⟨p, rfl, ao, cap, hb, -⟩
  · exact rErr_nil w
  · have c0 := block_cell hb 0
    have c1 := block_cell hb 1
    have c2 := block_cell hb 2
    simp at c0 c1 c2
    have HT := hide (toldF_any p s.made s.place s.why w c0 c1 c2 (fun h1 h2 => hz ⟨h1, h2⟩))
    have HE : Hid (s.errC = (if s.made = true then s.why else 3) ∧ s.errA = (if s.made = true then s.place else 0)) := ⟨rfl, rfl⟩
    rw [← HE.out.1, ← HE.out.2] at HT
    generalize s.errC = ec at *
    generalize s.errA = ea at *
    clear hb c0 c1 c2 hz HE
    go_enter Tryz.func40, Tryz.ntmps40
    go_wp2_with fail
    refine HT.out.mono ?_
    rintro e w1 ⟨v, rfl, hv, hb1⟩
    go_wp2
    go_ret
    exact ⟨v, rfl, hv, hb1⟩

theorem errV_none {w : World} {v : Value} {a : Int} (h : ErrV w v 0 a) : v = .nilIface := by
  rcases h with ⟨h, _⟩ | ⟨_, h⟩
  · exact h
  · exact absurd rfl h
theorem errV_some {w : World} {v : Value} {c a : Int} (h : ErrV w v c a) (hc : c ≠ 0) : ∃ g, v = .iface 84 (.pointer (some ⟨g, 0, none⟩)) := by
  rcases h with ⟨_, h, _⟩ | ⟨⟨g, h, _⟩, _⟩
  · exact absurd h hc
  · exact ⟨g, h⟩
theorem RS.errC_not {s : RS} (hs : ¬ s.sound) : s.errC ≠ 0 := by
  unfold RS.errC
  split
  · rename_i h; exact fun h2 => hs ⟨h, h2⟩
  · decide
theorem RS.errC_sound {s : RS} (hs : s.sound) : s.errC = 0 := by unfold RS.errC; rw [if_pos hs.1]; exact hs.2

set_option maxRecDepth 10000 in
set_option maxHeartbeats 800000 in
theorem rEndP {lim : Nat} {w : World} {po : Option Addr} {s : RS} (h : RdP lim w po s) (hz : s.sound → s.place = 0) :
    Calls Tryz.prog 36 #[.pointer po] w fun e w' => ∃ v, e = .returned v ∧ ErrV w' v s.endC s.endA ∧ Below w.heap.size w w' := by
  have HER := hide (rErrP h hz)
  by_cases hs : s.sound
  · rcases h with ⟨rfl, rfl⟩ | ⟨p, rfl, hR⟩
    · exact absurd hs RS0_not
    · have HLF := hide (fun w1 (hg : w.grownBy w1 none) => rLeft_any lim p s w1 (hR.kept hg (fun g hg => by cases hg)))
      have hC0 := RS.errC_sound hs
      rw [hC0] at HER
      obtain ⟨ao, cap, hb, hS, hpl, -⟩ := id hR
      have HBK : Hid (∀ w1, Below w.heap.size w w1 → w1.cell? ⟨p, 4, none⟩ = some (.int .i64 (s.pos : Int))) := fun w1 h1 => by
        have h2 := h1.cell (p := ⟨p, 4, none⟩) (block_lt hb)
        rw [h2]
        have h3 := block_cell hb 4
        simpa using h3
      clear hb hS hR hC0
      by_cases hlt : s.pos < s.B.length
      · have HE : Hid (s.endC = 28 ∧ s.endA = (s.pos : Int)) := by unfold RS.endC RS.endA; rw [if_pos hs, if_pos hs, if_pos hlt, if_pos hlt]; exact ⟨rfl, rfl⟩
        rw [HE.out.1, HE.out.2]
        obtain ⟨L, hL⟩ : ∃ L, L = s.B.length - s.pos := ⟨_, rfl⟩
        rw [← hL] at HLF
        have hL0 : (0 : Int) < (L : Int) := by omega
        have hL1 : decide (0 < L) = true := by simp; omega
        clear HE hlt hL hpl
        go_enter Tryz.func36, Tryz.ntmps36
        go_wp2_with fail
        refine HER.out.mono ?_
        rintro e w1 ⟨v, rfl, hv, hb1⟩
        obtain rfl := errV_none hv
        have HB1 := hide hb1
        have hc4 := HBK.out w1 hb1
        clear hv hb1
        go_wp2_with fail
        refine (HLF.out w1 (below_none HB1.out)).mono ?_
        rintro e w2 ⟨rfl, q, rfl⟩
        have hc4' : (w1.drewN q).cell? ⟨p, 4, none⟩ = some (.int .i64 (s.pos : Int)) := hc4
        go_wp2_with fail
        refine (refusal_any (s.pos : Int) 28 (w1.drewN q)).mono ?_
        rintro e w3 ⟨v, rfl, hv, hf, hb⟩
        have HF := hide (And.intro hf hb)
        clear hv hf hb
        go_wp2
        go_ret
        have hb := HF.out.2
        exact ⟨v, rfl, .inr ⟨HF.out.1, by decide⟩, HB1.out.trans ⟨hb.os, hb.tape, hb.output, hb.size, fun k hk => hb.block k (Nat.lt_of_lt_of_le hk HB1.out.size)⟩⟩
      · have HE : Hid (s.endC = 0 ∧ s.endA = 0) := by unfold RS.endC RS.endA; rw [if_pos hs, if_pos hs, if_neg hlt, if_neg hlt]; exact ⟨rfl, rfl⟩
        rw [HE.out.1, HE.out.2]
        obtain ⟨L, hL⟩ : ∃ L, L = s.B.length - s.pos := ⟨_, rfl⟩
        rw [← hL] at HLF
        obtain rfl : L = 0 := by omega
        clear HE hlt hL hpl
        go_enter Tryz.func36, Tryz.ntmps36
        go_wp2_with fail
        refine HER.out.mono ?_
        rintro e w1 ⟨v, rfl, hv, hb1⟩
        obtain rfl := errV_none hv
        have HB1 := hide hb1
        clear hv hb1
        go_wp2_with fail
        refine (HLF.out w1 (below_none HB1.out)).mono ?_
        rintro e w2 ⟨rfl, q, rfl⟩
        go_wp2
        go_ret
        exact ⟨_, rfl, .inl ⟨rfl, rfl, rfl⟩, below_drewN HB1.out _⟩
  · have HE : Hid (s.endC = s.errC ∧ s.endA = s.errA) := by unfold RS.endC RS.endA; rw [if_neg hs, if_neg hs]; exact ⟨rfl, rfl⟩
    rw [HE.out.1, HE.out.2]
    have HNZ := hide (RS.errC_not hs)
    generalize s.errC = ec at *
    generalize s.errA = ea at *
    clear HE hs h hz
    go_enter Tryz.func36, Tryz.ntmps36
    go_wp2_with fail
    refine HER.out.mono ?_
    rintro e w1 ⟨v, rfl, hv, hb1⟩
    obtain ⟨g, rfl⟩ := errV_some hv HNZ.out
    have HV := hide (And.intro hv hb1)
    clear hv hb1
    go_wp2
    go_ret
    exact ⟨_, rfl, HV.out.1, HV.out.2⟩

theorem rAtP {lim : Nat} {w : World} {po : Option Addr} {s : RS} (h : RdP lim w po s) :
    Calls Tryz.prog 128 #[.pointer po] w fun e w' => e = .returned (.int .i64 (s.pos : Nat)) ∧ w' = w := by
  rcases h with ⟨rfl, rfl⟩ | ⟨p, rfl, h⟩
  · exact rAt_nil w
  · exact rAt_any lim p s w h
theorem rLeftP {lim : Nat} {w : World} {po : Option Addr} {s : RS} (h : RdP lim w po s) :
    Calls Tryz.prog 41 #[.pointer po] w fun e w' => e = .returned (.int .i64 ((s.B.length - s.pos : Nat) : Int)) ∧ ∃ q, w' = w.drewN q := by
  rcases h with ⟨rfl, rfl⟩ | ⟨p, rfl, h⟩
  · exact (rLeft_nil w).mono fun e w' ⟨h1, h2⟩ => ⟨h1, 0, h2⟩
  · exact rLeft_any lim p s w h
theorem rU8P {lim : Nat} {w : World} {po : Option Addr} {s : RS} (h : RdP lim w po s) :
    Calls Tryz.prog 136 #[.pointer po] w fun e w' => e = .returned (.int .u8 (hi (aheadV s.rest 1) : Nat)) ∧ RdP lim w' po (s.step 1 (aheadW s.rest 1)) ∧ w.grownBy w' (rowP po) := by
  rcases h with ⟨rfl, rfl⟩ | ⟨p, rfl, h⟩
  · exact (rU8_nil w).mono fun e w' ⟨h1, h2⟩ => ⟨h1, .inl ⟨rfl, RS.step_not RS0_not _ _⟩, h2⟩
  · exact (rU8_any lim p s w h).mono fun e w' ⟨h1, h2, h3⟩ => ⟨h1, .inr ⟨p, rfl, h2⟩, h3⟩
theorem rNumP {lim : Nat} {w : World} {po : Option Addr} {s : RS} (h : RdP lim w po s) :
    Calls Tryz.prog 133 #[.pointer po] w fun e w' => e = .returned (.int .u64 ((numAt s.rest).1 : Nat)) ∧ RdP lim w' po (s.step (numAt s.rest).2.1 (numAt s.rest).2.2) ∧ w.grownBy w' (rowP po) := by
  rcases h with ⟨rfl, rfl⟩ | ⟨p, rfl, h⟩
  · exact (rNum_nil w).mono fun e w' ⟨h1, h2⟩ => ⟨h1, .inl ⟨rfl, RS.step_not RS0_not _ _⟩, h2⟩
  · exact (rNum_any lim p s w h).mono fun e w' ⟨h1, h2, h3⟩ => ⟨h1, .inr ⟨p, rfl, h2⟩, h3⟩
theorem rFlagP {lim : Nat} {w : World} {po : Option Addr} {s : RS} (h : RdP lim w po s) :
    Calls Tryz.prog 134 #[.pointer po] w fun e w' => e = .returned (.bool (flagV s.rest)) ∧ RdP lim w' po (s.step 1 (flagW s.rest)) ∧ w.grownBy w' (rowP po) := by
  rcases h with ⟨rfl, rfl⟩ | ⟨p, rfl, h⟩
  · exact (rFlag_nil w).mono fun e w' ⟨h1, h2⟩ => ⟨h1, .inl ⟨rfl, RS.step_not RS0_not _ _⟩, h2⟩
  · exact (rFlag_any lim p s w h).mono fun e w' ⟨h1, h2, h3⟩ => ⟨h1, .inr ⟨p, rfl, h2⟩, h3⟩
theorem rCountP {lim : Nat} {w : World} {po : Option Addr} {s : RS} (h : RdP lim w po s) (most : Int) (hm1 : -9223372036854775808 ≤ most) (hm2 : most < 9223372036854775808) :
    Calls Tryz.prog 131 #[.pointer po, .int .i64 most] w fun e w' => e = .returned (.int .i64 ((countAt s.rest most).1 : Nat)) ∧ RdP lim w' po (s.step (countAt s.rest most).2.1 (countAt s.rest most).2.2) ∧ w.grownBy w' (rowP po) := by
  rcases h with ⟨rfl, rfl⟩ | ⟨p, rfl, h⟩
  · exact (rCount_nil most w hm1 hm2).mono fun e w' ⟨h1, h2⟩ => ⟨h1, .inl ⟨rfl, RS.step_not RS0_not _ _⟩, h2⟩
  · exact (rCount_any lim p s most w h hm1 hm2).mono fun e w' ⟨h1, h2, h3⟩ => ⟨h1, .inr ⟨p, rfl, h2⟩, h3⟩
theorem rBlobP {lim : Nat} {w : World} {po : Option Addr} {s : RS} (h : RdP lim w po s) (most : Int) (hm1 : -9223372036854775808 ≤ most) (hm2 : most < 9223372036854775808) :
    Calls Tryz.prog 129 #[.pointer po, .int .i64 most] w fun e w' => ∃ v, e = .returned v ∧ Owns w.heap.size w' v (blobAt s.rest most).1 ∧ RdP lim w' po (s.step (blobAt s.rest most).2.1 (blobAt s.rest most).2.2) ∧ w.grownBy w' (rowP po) := by
  rcases h with ⟨rfl, rfl⟩ | ⟨p, rfl, h⟩
  · exact (rBlob_nil most w hm1 hm2).mono fun e w' ⟨v, h1, h0, h2⟩ => ⟨v, h1, h0, .inl ⟨rfl, RS.step_not RS0_not _ _⟩, h2⟩
  · exact (rBlob_any lim p s most w h hm1 hm2).mono fun e w' ⟨v, h1, h0, _, h2, h3⟩ => ⟨v, h1, h0, .inr ⟨p, rfl, h2⟩, h3⟩
end Go.Proofs.YtldhafpeigdloaaGreatDoor
