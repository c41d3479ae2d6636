import Derived.Test.YtgdliomkdkjlaaaPTextB
namespace Go.Proofs.Ytgdliomkdkjlaaa
open Go.RowKit Crc

/-- The text of bytes. -/
def strOf (L : List Nat) : ByteArray := (L.map (fun (x : Nat) => (x : Int))).foldl (fun r n => r.push (UInt8.ofNat n.toNat)) ByteArray.empty
theorem foldl_push (L : List Int) : ∀ acc : ByteArray, (L.foldl (fun r n => r.push (UInt8.ofNat n.toNat)) acc).data.toList = acc.data.toList ++ L.map (fun n => UInt8.ofNat n.toNat) := by
  induction L with
  | nil => intro acc; simp
  | cons n r ih => intro acc; rw [List.foldl_cons, ih]; simp [ByteArray.push]
theorem strOf_strB (s : ByteArray) : strOf (strB s) = s := by
  have h := foldl_push ((strB s).map (fun (x : Nat) => (x : Int))) ByteArray.empty
  have h2 : (strOf (strB s)).data.toList = s.data.toList := by
    unfold strOf
    rw [h]
    simp [strB, Function.comp_def]
  have h3 : (strOf (strB s)).data = s.data := Array.ext' h2
  cases hs : strOf (strB s) with
  | mk d => cases s with | mk d' => rw [hs] at h3; simp at h3; rw [h3]

theorem run_str {lim : Nat} {w : World} {ao : Option Addr} {n cap : Nat} {B : List Nat} (h : Shows lim w ao n cap B) :
    (convert 29 9 (.slice ao n cap)).run Try.prog w = .ok (.string (strOf B)) w := by
  rw [run_convert_bytes_string w 29 9 5 ao n cap Try.underlying29 Try.underlying5 Try.underlying9]
  obtain ⟨h1, h2, h3, h4, b, off, h5, h6, h7⟩ := h
  cases ao with
  | none =>
    have hn : n = 0 := by
      rcases Nat.eq_zero_or_pos n with h | h
      · exact h
      · have := h5 h; cases this
    obtain rfl : B = [] := List.eq_nil_of_length_eq_zero (by omega)
    simp [Conv.bytesToString, strOf, Sem.run_pure]
  | some ad =>
    have hl := run_loadCells_list (P := Try.prog) (w := w) ad (vals B) (by
      intro j v hj
      have hj2 := (vals_get B j v hj).1
      have := h5 (by omega)
      cases this
      exact vals_cell (fun i hi => h7 i (by omega)) j v hj)
    rw [vals_len, ← h1] at hl
    have e : vals B = (B.map (fun (x : Nat) => (x : Int))).map (Value.int .u8) := by simp [vals]
    rw [e] at hl
    exact run_bytesToString w ad n cap _ hl

def textAt (B : List Nat) (most : Int) (ok : Bool) : ByteArray × Nat × Int :=
  if (blobAt B most).2.2 ≠ 0 then (ByteArray.empty, 0, (blobAt B most).2.2) else if ok then (strOf (blobAt B most).1, (blobAt B most).2.1, 0) else (ByteArray.empty, 0, 27)

set_option maxRecDepth 10000 in
set_option maxHeartbeats 800000 in
theorem textAhead_any {lim : Nat} {w : World} {ao : Option Addr} {n cap : Nat} {B : List Nat} (h : Shows lim w ao n cap B) (most : Int) (hm1 : -9223372036854775808 ≤ most) (hm2 : most < 9223372036854775808) (ok : Bool)
    (hT : ∀ wx : World, Calls Try.prog 95 #[.string (strOf (blobAt B most).1)] wx fun e w' => e = .returned (.bool ok) ∧ ∃ pos, w' = wx.iter (strOf (blobAt B most).1) pos) :
    Calls Try.prog 90 #[.slice ao n cap, .int .i64 most] w fun e w' => e = .returned (.tuple #[.string (textAt B most ok).1, .int .i64 ((textAt B most ok).2.1 : Nat), .int .i64 (textAt B most ok).2.2]) ∧ Below w.heap.size w w' := by
  have HBL := hide (blobAhead_any h most hm1 hm2)
  have HT := hide hT
  have HTA : Hid (textAt B most ok = if (blobAt B most).2.2 ≠ 0 then (ByteArray.empty, 0, (blobAt B most).2.2) else if ok then (strOf (blobAt B most).1, (blobAt B most).2.1, 0) else (ByteArray.empty, 0, 27)) := rfl
  clear h hT
  generalize hr : blobAt B most = r at *
  clear hr
  obtain ⟨L, z, y⟩ := r
  simp only at HBL HT HTA
  by_cases hy : y = 0
  · subst hy
    cases ok
    · have HF : Hid (textAt B most false = (ByteArray.empty, 0, 27)) := by have h1 := HTA.out; simp at h1; exact h1
      clear HTA
      go_enter Try.func90, Try.ntmps90
      go_wp2_with fail
      refine HBL.out.mono ?_
      rintro e w1 ⟨a2, n2, c2, rfl, hs2, q, rfl⟩
      have hcv := run_str (hs2.world (w' := w.drewN q) rfl)
      clear hs2
      generalize strOf L = S at *
      go_wp2_with fail
      refine (HT.out _).mono ?_
      rintro e w2 ⟨rfl, pos, rfl⟩
      go_wp2
      go_ret3
      exact ⟨by rw [HF.out]; rfl, (Below.alloc (a := w) (w := w.drewN q) ⟨rfl, rfl, rfl, Nat.le_refl _, fun _ _ => rfl⟩ (Nat.le_refl _) _)⟩
    · have HF : Hid (textAt B most true = (strOf L, z, 0)) := by have h1 := HTA.out; simp at h1; exact h1
      clear HTA
      go_enter Try.func90, Try.ntmps90
      go_wp2_with fail
      refine HBL.out.mono ?_
      rintro e w1 ⟨a2, n2, c2, rfl, hs2, q, rfl⟩
      have hcv := run_str (hs2.world (w' := w.drewN q) rfl)
      clear hs2
      generalize strOf L = S at *
      go_wp2_with fail
      refine (HT.out _).mono ?_
      rintro e w2 ⟨rfl, pos, rfl⟩
      go_wp2
      go_ret3
      exact ⟨by rw [HF.out]; rfl, (Below.alloc (a := w) (w := w.drewN q) ⟨rfl, rfl, rfl, Nat.le_refl _, fun _ _ => rfl⟩ (Nat.le_refl _) _)⟩
  · have HF : Hid (textAt B most ok = (ByteArray.empty, 0, y)) := by have h1 := HTA.out; simp [hy] at h1; exact h1
    have hyb : (y == 0) = false := by simp [hy]
    clear HTA hy
    go_enter Try.func90, Try.ntmps90
    go_wp2_with fail
    refine HBL.out.mono ?_
    rintro e w1 ⟨a2, n2, c2, rfl, hs2, q, rfl⟩
    clear hs2
    go_wp2
    go_ret3
    exact ⟨by rw [HF.out]; rfl, rfl, rfl, rfl, Nat.le_refl _, fun _ _ => rfl⟩

theorem textAt_ok (B : List Nat) (most : Int) (ok : Bool) : (textAt B most ok).2.1 ≤ B.length := by
  unfold textAt
  split
  · simp
  · split
    · exact blobAt_ok B most
    · simp

set_option maxRecDepth 10000 in
set_option maxHeartbeats 800000 in
theorem rText_any (lim p : Nat) (s : RS) (most : Int) (w : World) (hR : RdS lim w p s) (hm1 : -9223372036854775808 ≤ most) (hm2 : most < 9223372036854775808) (ok : Bool)
    (hT : ∀ wx : World, Calls Try.prog 95 #[.string (strOf (blobAt s.rest most).1)] wx fun e w' => e = .returned (.bool ok) ∧ ∃ pos, w' = wx.iter (strOf (blobAt s.rest most).1) pos) :
    Calls Try.prog 58 #[.pointer (some ⟨p, 0, none⟩), .int .i64 most] w fun e w' => e = .returned (.string (textAt s.rest most ok).1) ∧ RdS lim w' p (s.step (textAt s.rest most ok).2.1 (textAt s.rest most ok).2.2) ∧ w.grownBy w' (some p) := by
  have HRS := hide (rest_any lim p s.made s.place s.why s.B s.pos w hR)
  have HST : Hid (∀ wx, RdS lim wx p s → Calls Try.prog 84 #[.pointer (some ⟨p, 0, none⟩), .int .i64 ((textAt s.rest most ok).2.1 : Nat), .int .i64 (textAt s.rest most ok).2.2] wx fun e w' => e = .returned (.tuple #[]) ∧ RdS lim w' p (s.step (textAt s.rest most ok).2.1 (textAt s.rest most ok).2.2) ∧ wx.grownBy w' (some p)) :=
    fun wx hx => step_any lim p s (textAt s.rest most ok).2.1 (textAt s.rest most ok).2.1 (textAt s.rest most ok).2.2 wx hx rfl (fun h _ => step_fits hx (textAt_ok s.rest most ok) h)
  have HT := hide hT
  have HR := hide hR
  clear hR hT
  go_enter Try.func58, Try.ntmps58
  go_wp2_with fail
  refine HRS.out.mono ?_
  rintro e w1 ⟨a1, n1, c1, rfl, hs1, q, rfl⟩
  have HS1 : Hid (Shows lim (w.drewN q) a1 n1 c1 s.rest) := hs1.world (w' := w.drewN q) rfl
  clear hs1
  go_wp2_with fail
  refine (textAhead_any HS1.out most hm1 hm2 ok HT.out).mono ?_
  rintro e w2 ⟨rfl, hb2⟩
  have HG2 := hide (grown_from (below_none hb2))
  have HR2 := hide (HR.out.kept HG2.out (fun g hg => by cases hg))
  clear HS1 hb2
  go_wp2_with fail
  refine (HST.out _ HR2.out).mono ?_
  rintro e w3 ⟨rfl, hr3, hg3⟩
  have HR3 := hide hr3
  have HG3 := hide hg3
  clear hr3 hg3
  go_wp2
  go_ret
  refine ⟨rfl, HR3.out, ?_⟩
  have h1 := HG2.out
  exact grown_trans ⟨h1.os, h1.tape, h1.output, h1.size, fun k hk _ => h1.block k hk (by simp)⟩ HG3.out
end Go.Proofs.Ytgdliomkdkjlaaa
