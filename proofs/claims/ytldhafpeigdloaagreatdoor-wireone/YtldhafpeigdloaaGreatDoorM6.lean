import Derived.Test.YtldhafpeigdloaaGreatDoorM4
import Derived.Test.YtldhafpeigdloaaGreatDoorM3
import Derived.Test.YtldhafpeigdloaaGreatDoorM0
namespace Go.Proofs.YtldhafpeigdloaaGreatDoor
open Go.RowKit Crc

theorem drop_drop_pos (B : List Nat) (pos k : Nat) : (B.drop pos).getD k 0 = B.getD (pos + k) 0 := by
  rw [List.getD_eq_getElem?_getD, List.getElem?_drop, ← List.getD_eq_getElem?_getD]
theorem RS.rest_eq {s : RS} (hs : s.sound) : s.rest = s.B.drop s.pos := by unfold RS.rest restB; rw [if_pos (show s.made = true ∧ s.why = 0 from hs)]
theorem RS.step_fail {s : RS} (hs : s.sound) (z : Nat) {y : Int} (hy : y ≠ 0) : s.step z y = { s with why := y, place := s.pos, pos := s.pos } := by unfold RS.step; rw [if_pos hs, if_neg hy]
theorem RS.step_ok {s : RS} (hs : s.sound) (z : Nat) : s.step z 0 = { s with pos := s.pos + z } := by unfold RS.step; rw [if_pos hs]; rfl

end Go.Proofs.YtldhafpeigdloaaGreatDoor
namespace Go.Proofs.YtldhafpeigdloaaGreatDoor
open Go.RowKit Crc

theorem RS.step_not {s : RS} (hs : ¬ s.sound) (z : Nat) (y : Int) : s.step z y = s := by unfold RS.step; rw [if_neg hs]
theorem RS.rest_not {s : RS} (hs : ¬ s.sound) : s.rest = [] := restB_sound hs
theorem RS.sound_ok {s : RS} (hs : s.sound) (z : Nat) : (s.step z 0).sound := by rw [RS.step_ok hs]; exact hs
theorem RS.unsound {s : RS} (z : Nat) {y : Int} (hy : y ≠ 0) : ¬ (s.step z y).sound := by
  by_cases hs : s.sound
  · rw [RS.step_fail hs z hy]; exact fun h => hy h.2
  · rw [RS.step_not hs]; exact hs
/-- Gone back to the field's beginning, and refused. -/
theorem RS.step_back {s : RS} (hs : s.sound) (z z' : Nat) {y : Int} (hy : y ≠ 0) : { s.step z 0 with why := y, place := (s.pos : Int), pos := s.pos } = s.step z' y := by rw [RS.step_ok hs, RS.step_fail hs z' hy]
theorem RS.step_B (s : RS) (z : Nat) (y : Int) : (s.step z y).B = s.B := by unfold RS.step; split <;> (try split) <;> rfl

end Go.Proofs.YtldhafpeigdloaaGreatDoor
namespace Go.Proofs.YtldhafpeigdloaaGreatDoor
open Go.RowKit Crc

/-- The text of bytes. -/
def strOf (L : List Nat) : ByteArray := (L.map (fun (x : Nat) => (x : Int))).foldl (fun r n => r.push (UInt8.ofNat n.toNat)) ByteArray.empty
theorem foldl_push (L : List Int) : ∀ acc : ByteArray, (L.foldl (fun r n => r.push (UInt8.ofNat n.toNat)) acc).data.toList = acc.data.toList ++ L.map (fun n => UInt8.ofNat n.toNat) := by
  induction L with
  | nil => intro acc; simp
  | cons n r ih => intro acc; rw [List.foldl_cons, ih]; simp [ByteArray.push]
theorem strOf_strB (s : ByteArray) : strOf (strB s) = s := by
  have h := foldl_push ((strB s).map (fun (x : Nat) => (x : Int))) ByteArray.empty
  have h2 : (strOf (strB s)).data.toList = s.data.toList := by
    unfold strOf
    rw [h]
    simp [strB, Function.comp_def]
  have h3 : (strOf (strB s)).data = s.data := Array.ext' h2
  cases hs : strOf (strB s) with
  | mk d => cases s with | mk d' => rw [hs] at h3; simp at h3; rw [h3]

theorem run_str {lim : Nat} {w : World} {ao : Option Addr} {n cap : Nat} {B : List Nat} (h : Shows lim w ao n cap B) :
    (convert 31 9 (.slice ao n cap)).run Tryz.prog w = .ok (.string (strOf B)) w := by
  rw [run_convert_bytes_string w 31 9 5 ao n cap Tryz.underlying31 Tryz.underlying5 Tryz.underlying9]
  obtain ⟨h1, h2, h3, h4, b, off, h5, h6, h7⟩ := h
  cases ao with
  | none =>
    have hn : n = 0 := by
      rcases Nat.eq_zero_or_pos n with h | h
      · exact h
      · have := h5 h; cases this
    obtain rfl : B = [] := List.eq_nil_of_length_eq_zero (by omega)
    simp [Conv.bytesToString, strOf, Sem.run_pure]
  | some ad =>
    have hl := run_loadCells_list (P := Tryz.prog) (w := w) ad (vals B) (by
      intro j v hj
      have hj2 := (vals_get B j v hj).1
      have := h5 (by omega)
      cases this
      exact vals_cell (fun i hi => h7 i (by omega)) j v hj)
    rw [vals_len, ← h1] at hl
    have e : vals B = (B.map (fun (x : Nat) => (x : Int))).map (Value.int .u8) := by simp [vals]
    rw [e] at hl
    exact run_bytesToString w ad n cap _ hl

def textAt (B : List Nat) (most : Int) (ok : Bool) : ByteArray × Nat × Int :=
  if (blobAt B most).2.2 ≠ 0 then (ByteArray.empty, 0, (blobAt B most).2.2) else if ok then (strOf (blobAt B most).1, (blobAt B most).2.1, 0) else (ByteArray.empty, 0, 27)

theorem textAt_ok (B : List Nat) (most : Int) (ok : Bool) : (textAt B most ok).2.1 ≤ B.length := by
  unfold textAt
  split
  · simp
  · split
    · exact blobAt_ok B most
    · simp

end Go.Proofs.YtldhafpeigdloaaGreatDoor
namespace Go.Proofs.YtldhafpeigdloaaGreatDoor
open Go.RowKit Crc

set_option maxRecDepth 10000 in
set_option maxHeartbeats 400000 in
theorem newWriter_full (w : World) :
    Calls Tryz.prog 29 #[.int .i64 65507] w fun e w' => e = .returned (.pointer (some ⟨w.heap.size, 0, none⟩)) ∧ Wr KW w.heap.size w' w.heap.size true 0 0 65507 [] ∧ Below w.heap.size w w' := by
  go_enter Tryz.func29, Tryz.ntmps29
  go_wp2
  go_ret
  refine ⟨rfl, ⟨.slice none 0 0, ?_, Owns.nil _ _, by simp [Value.ownBlock]⟩, (Below.refl _ w).alloc (Nat.le_refl _) _⟩
  exact heap_alloc_new w _

set_option maxRecDepth 10000 in
set_option maxHeartbeats 400000 in
theorem told_sound (p : Nat) (w : World) (h0 : w.cell? ⟨p, 0, none⟩ = some (.bool true)) (h2 : w.cell? ⟨p, 2, none⟩ = some (.int .i64 0)) :
    Calls Tryz.prog 38 #[.pointer (some ⟨p, 0, none⟩)] w fun e w' => e = .returned .nilIface ∧ w' = w := by
  go_enter Tryz.func38, Tryz.ntmps38
  go_wp2
  go_ret
  exact ⟨rfl, rfl⟩

set_option maxRecDepth 10000 in
set_option maxHeartbeats 400000 in
theorem wBytes_good {K : Kd} (base p : Nat) (place most : Int) (L : List Nat) (w : World) (hW : Wr K base w p true place 0 most L) :
    Calls Tryz.prog 30 #[.pointer (some ⟨p, 0, none⟩)] w fun e w' => ∃ v, e = .returned (.tuple #[v, .nilIface]) ∧ Owns w.heap.size w' v L ∧ Below w.heap.size w w' := by
  obtain ⟨u, hb, hO, hne⟩ := hW
  obtain ⟨ao, cap, rfl, hS, _⟩ := hO.form
  have c0 := block_cell hb 0
  have c2 := block_cell hb 2
  have c4 := block_cell hb 4
  simp at c0 c2 c4
  have HTS := hide (told_sound p w c0 c2)
  have HCP := hide (copied_sh hS (Nat.le_refl _))
  have HOO := hide hO.2
  clear hb hO hne hS c0 c2
  generalize L.length = n at c4 HCP
  go_enter Tryz.func30, Tryz.ntmps30
  go_wp2_with fail
  refine HTS.out.mono ?_
  rintro e w1 ⟨rfl, rfl⟩
  go_wp2_with fail
  refine HCP.out.mono ?_
  rintro e w2 ⟨v, rfl, _, _, hfr⟩
  go_wp2
  go_ret2
  exact ⟨v, rfl, ⟨hfr.1, HOO.out⟩, hfr.2⟩

set_option maxRecDepth 10000 in
set_option maxHeartbeats 400000 in
theorem readerAt_any (ao : Option Addr) (n cap pos : Nat) (w : World) :
    Calls Tryz.prog 24 #[.slice ao n cap, .int .i64 (pos : Int)] w fun e w' => e = .returned (.agg #[.bool true, .int .i64 0, .int .i64 0, .slice ao n cap, .int .i64 (pos : Int)]) ∧ Below w.heap.size w w' := by
  go_enter Tryz.func24, Tryz.ntmps24
  go_wp2
  refine bodyPost_ret (v := .agg #[.bool true, .int .i64 0, .int .i64 0, .slice ao n cap, .int .i64 (pos : Int)]) (by simp [results, Tryz.results24, go_sem]) rfl ⟨rfl, (Below.refl _ w).alloc (Nat.le_refl _) _⟩

set_option maxRecDepth 10000 in
set_option maxHeartbeats 400000 in
theorem rAt_any (lim p : Nat) (s : RS) (w : World) (hR : RdS lim w p s) :
    Calls Tryz.prog 128 #[.pointer (some ⟨p, 0, none⟩)] w fun e w' => e = .returned (.int .i64 (s.pos : Nat)) ∧ w' = w := by
  obtain ⟨ao, cap, hb, hS, hp, hl⟩ := hR
  have c4 := block_cell hb 4
  simp at c4
  clear hb hS hp hl
  go_enter Tryz.func128, Tryz.ntmps128
  go_wp2
  go_ret
  exact ⟨rfl, rfl⟩

set_option maxRecDepth 10000 in
set_option maxHeartbeats 400000 in
theorem rLeft_any (lim p : Nat) (s : RS) (w : World) (hR : RdS lim w p s) :
    Calls Tryz.prog 41 #[.pointer (some ⟨p, 0, none⟩)] w fun e w' => e = .returned (.int .i64 ((s.B.length - s.pos : Nat) : Int)) ∧ ∃ q, w' = w.drewN q := by
  obtain ⟨ao, cap, hb, hS, hp, hl⟩ := hR
  have c3 := block_cell hb 3
  have c4 := block_cell hb 4
  simp at c3 c4
  have hn := hS.2.2.1
  clear hb hS hl
  have HE : Hid ((s.B.length : Int) - (s.pos : Int) = ((s.B.length - s.pos : Nat) : Int)) := by show _ = _; omega
  generalize s.B.length = n at *
  generalize s.pos = pos at *
  have h0 : (pos : Int) ≤ (n : Int) := by omega
  go_enter Tryz.func41, Tryz.ntmps41
  go_wp2_with fail
  go_quiet (fail)
  go_wp2
  go_ret
  exact ⟨by rw [← HE.out]; rfl, _, rfl⟩

set_option maxRecDepth 10000 in
set_option maxHeartbeats 400000 in
theorem rErr_sound (lim p : Nat) (s : RS) (w : World) (hR : RdS lim w p s) (hs : s.sound) :
    Calls Tryz.prog 40 #[.pointer (some ⟨p, 0, none⟩)] w fun e w' => e = .returned .nilIface ∧ w' = w := by
  obtain ⟨ao, cap, hb, hS, hp, hl⟩ := hR
  have c0 := block_cell hb 0
  have c2 := block_cell hb 2
  simp at c0 c2
  rw [hs.1] at c0
  rw [hs.2] at c2
  have HTS := hide (told_sound p w c0 c2)
  clear hb hS hp hl hs c0 c2
  go_enter Tryz.func40, Tryz.ntmps40
  go_wp2_with fail
  refine HTS.out.mono ?_
  rintro e w1 ⟨rfl, rfl⟩
  go_wp2
  go_ret
  exact ⟨rfl, rfl⟩

set_option maxRecDepth 10000 in
set_option maxHeartbeats 400000 in
theorem rEnd_sound (lim p : Nat) (s : RS) (w : World) (hR : RdS lim w p s) (hs : s.sound) (he : s.pos = s.B.length) :
    Calls Tryz.prog 36 #[.pointer (some ⟨p, 0, none⟩)] w fun e w' => e = .returned .nilIface ∧ ∃ q, w' = w.drewN q := by
  have HER := hide (rErr_sound lim p s w hR hs)
  have HLF : Hid (Calls Tryz.prog 41 #[.pointer (some ⟨p, 0, none⟩)] w fun e w' => e = .returned (.int .i64 0) ∧ ∃ q, w' = w.drewN q) := by
    have h := rLeft_any lim p s w hR
    rw [he, Nat.sub_self] at h
    exact h
  clear hR hs he
  go_enter Tryz.func36, Tryz.ntmps36
  go_wp2_with fail
  refine HER.out.mono ?_
  rintro e w1 ⟨rfl, rfl⟩
  go_wp2_with fail
  refine HLF.out.mono ?_
  rintro e w2 ⟨rfl, q, rfl⟩
  go_wp2
  go_ret
  exact ⟨rfl, q, rfl⟩
end Go.Proofs.YtldhafpeigdloaaGreatDoor
namespace Go.Proofs.YtldhafpeigdloaaGreatDoor
open Go.RowKit Crc

theorem assert_ptr (g : Nat) (w : World) : (Instr.typeAssert (.iface 84 (.pointer (some ⟨g, 0, none⟩))) 38 84 true).run Tryz.prog w = .ok (.tuple #[.pointer (some ⟨g, 0, none⟩), .bool true]) w := by kernel_rfl
theorem assert_num (n : Int) (w : World) : (Instr.typeAssert (.iface 30 (.int .i64 n)) 38 30 true).run Tryz.prog w = .ok (.tuple #[.int .i64 n, .bool true]) w := by kernel_rfl
set_option maxRecDepth 10000 in
set_option maxHeartbeats 400000 in
theorem refusal_any (at_ why : Int) (w : World) :
    Calls Tryz.prog 13 #[.int .i64 at_, .int .i64 why] w fun e w' => ∃ v, e = .returned v ∧ v = .iface 84 (.pointer (some ⟨w.heap.size, 0, none⟩)) ∧ IsFault w' v at_ why ∧ Below w.heap.size w w' := by
  go_enter Tryz.func13, Tryz.ntmps13
  go_wp2
  go_ret
  refine ⟨_, rfl, rfl, ⟨w.heap.size, rfl, ?_, ?_, ?_⟩, (Below.refl _ _).alloc (Nat.le_refl _) _⟩ <;> simp
end Go.Proofs.YtldhafpeigdloaaGreatDoor
namespace Go.Proofs.YtldhafpeigdloaaGreatDoor
open Go.RowKit Crc

/-- What Err and End tell: the number and the place. -/
def RS.errC (s : RS) : Int := if s.made = true then s.why else 3
def RS.errA (s : RS) : Int := if s.made = true then s.place else 0
def RS.endC (s : RS) : Int := if s.sound then (if s.pos < s.B.length then 28 else 0) else s.errC
def RS.endA (s : RS) : Int := if s.sound then (if s.pos < s.B.length then (s.pos : Int) else 0) else s.errA

end Go.Proofs.YtldhafpeigdloaaGreatDoor
