import Derived.Test.YtidhondcfagoaaaDoorM14
import Derived.Test.YtidhondcfagoaaaDoorM10
namespace Go.Proofs.YtidhondcfagoaaaDoor
open Go.RowKit Crc

theorem RS.step_not {s : RS} (hs : ¬ s.sound) (z : Nat) (y : Int) : s.step z y = s := by unfold RS.step; rw [if_neg hs]
theorem RS.rest_not {s : RS} (hs : ¬ s.sound) : s.rest = [] := restB_sound hs
theorem RS.sound_ok {s : RS} (hs : s.sound) (z : Nat) : (s.step z 0).sound := by rw [RS.step_ok hs]; exact hs
theorem RS.unsound {s : RS} (z : Nat) {y : Int} (hy : y ≠ 0) : ¬ (s.step z y).sound := by
  by_cases hs : s.sound
  · rw [RS.step_fail hs z hy]; exact fun h => hy h.2
  · rw [RS.step_not hs]; exact hs
/-- Gone back to the field's beginning, and refused. -/
theorem RS.step_back {s : RS} (hs : s.sound) (z z' : Nat) {y : Int} (hy : y ≠ 0) : { s.step z 0 with why := y, place := (s.pos : Int), pos := s.pos } = s.step z' y := by rw [RS.step_ok hs, RS.step_fail hs z' hy]
theorem RS.step_B (s : RS) (z : Nat) (y : Int) : (s.step z y).B = s.B := by unfold RS.step; split <;> (try split) <;> rfl

end Go.Proofs.YtidhondcfagoaaaDoor
namespace Go.Proofs.YtidhondcfagoaaaDoor
open Go.RowKit Crc

/-- The text of bytes. -/
def strOf (L : List Nat) : ByteArray := (L.map (fun (x : Nat) => (x : Int))).foldl (fun r n => r.push (UInt8.ofNat n.toNat)) ByteArray.empty
theorem foldl_push (L : List Int) : ∀ acc : ByteArray, (L.foldl (fun r n => r.push (UInt8.ofNat n.toNat)) acc).data.toList = acc.data.toList ++ L.map (fun n => UInt8.ofNat n.toNat) := by
  induction L with
  | nil => intro acc; simp
  | cons n r ih => intro acc; rw [List.foldl_cons, ih]; simp [ByteArray.push]
theorem strOf_strB (s : ByteArray) : strOf (strB s) = s := by
  have h := foldl_push ((strB s).map (fun (x : Nat) => (x : Int))) ByteArray.empty
  have h2 : (strOf (strB s)).data.toList = s.data.toList := by
    unfold strOf
    rw [h]
    simp [strB, Function.comp_def]
  have h3 : (strOf (strB s)).data = s.data := Array.ext' h2
  cases hs : strOf (strB s) with
  | mk d => cases s with | mk d' => rw [hs] at h3; simp at h3; rw [h3]

theorem run_str {lim : Nat} {w : World} {ao : Option Addr} {n cap : Nat} {B : List Nat} (h : Shows lim w ao n cap B) :
    (convert 22 9 (.slice ao n cap)).run Tryd.prog w = .ok (.string (strOf B)) w := by
  rw [run_convert_bytes_string w 22 9 5 ao n cap Tryd.underlying22 Tryd.underlying5 Tryd.underlying9]
  obtain ⟨h1, h2, h3, h4, b, off, h5, h6, h7⟩ := h
  cases ao with
  | none =>
    have hn : n = 0 := by
      rcases Nat.eq_zero_or_pos n with h | h
      · exact h
      · have := h5 h; cases this
    obtain rfl : B = [] := List.eq_nil_of_length_eq_zero (by omega)
    simp [Conv.bytesToString, strOf, Sem.run_pure]
  | some ad =>
    have hl := run_loadCells_list (P := Tryd.prog) (w := w) ad (vals B) (by
      intro j v hj
      have hj2 := (vals_get B j v hj).1
      have := h5 (by omega)
      cases this
      exact vals_cell (fun i hi => h7 i (by omega)) j v hj)
    rw [vals_len, ← h1] at hl
    have e : vals B = (B.map (fun (x : Nat) => (x : Int))).map (Value.int .u8) := by simp [vals]
    rw [e] at hl
    exact run_bytesToString w ad n cap _ hl

def textAt (B : List Nat) (most : Int) (ok : Bool) : ByteArray × Nat × Int :=
  if (blobAt B most).2.2 ≠ 0 then (ByteArray.empty, 0, (blobAt B most).2.2) else if ok then (strOf (blobAt B most).1, (blobAt B most).2.1, 0) else (ByteArray.empty, 0, 27)

theorem textAt_ok (B : List Nat) (most : Int) (ok : Bool) : (textAt B most ok).2.1 ≤ B.length := by
  unfold textAt
  split
  · simp
  · split
    · exact blobAt_ok B most
    · simp

end Go.Proofs.YtidhondcfagoaaaDoor
