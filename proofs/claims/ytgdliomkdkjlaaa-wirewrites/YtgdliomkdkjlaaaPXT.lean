import Derived.Test.YtgdliomkdkjlaaaPXS
import Derived.Test.YtgdliomkdkjlaaaPUtfC
import Derived.Lib.ConvBytes
namespace Go.Proofs.Ytgdliomkdkjlaaa
open Go.RowKit Crc

theorem bytesW_below (w : World) (e : TypeId) (s : ByteArray) : Below w.heap.size w (Go.Lib.bytesWorld w e s) := by
  refine ⟨rfl, rfl, rfl, ?_, fun j hj => Go.Lib.bytesWorld_at_old w e s j hj⟩
  rw [Go.Lib.bytesWorld_size]; omega

theorem strB_getD (S : ByteArray) (i : Nat) (hi : i < S.size) : (strB S).getD i 0 = (S.data.toList.getD i 0).toNat := by
  have h : i < S.data.toList.length := by simpa using hi
  simp [strB, List.getD, List.getElem?_eq_getElem h]
theorem bytesW_shows (w : World) (S : ByteArray) (hS : S.size ≤ 140737488355328) : Shows (w.heap.size + 1) (Go.Lib.bytesWorld w 5 S) (some ⟨w.heap.size, 0, none⟩) S.size (grownCap w S.size 0 5) (strB S) := by
  refine ⟨(strB_len S).symm, ?_, hS, strB_lt S, w.heap.size, 0, fun _ => rfl, by omega, fun i hi => ?_⟩
  · have := grownCap_ge w S.size 0 5; omega
  · rw [Nat.zero_add, Go.Lib.bytesWorld_cell w 5 S i hi, strB_getD S i hi]

set_option maxRecDepth 10000 in
set_option maxHeartbeats 400000 in
theorem refWText {base p : Nat} {w : World} {s : WS} (hW : RefW base w p s) (hi : s.Inv) (hbs : base ≤ w.heap.size) (S : ByteArray) (cm : Int) (hS : S.size ≤ 140737488351232) :
    Calls Try.prog 43 #[.pointer (some ⟨p, 0, none⟩), .string S, .int .i64 cm] w fun e w' => e = .returned (.tuple #[]) ∧ Hid (RefW base w' p (s.put (numB S.size ++ strB S) (txtY S cm)) ∧ Tch 2 w w' p) := by
  by_cases h : cm < (S.size : Int)
  · have HC : Hid (txtY S cm = 21) := by unfold txtY; rw [if_pos h]; rfl
    rw [HC.out]
    have HP := hide (put_none hW hi hbs (numB S.size ++ strB S) (y := 21) (by decide))
    have d1 : decide (cm < (S.size : Int)) = true := by simp [h]
    clear hW hi h
    go_enter Try.func43, Try.ntmps43
    go_wp2_with fail
    refine HP.out.mono ?_
    rintro e w2 ⟨rfl, H⟩
    go_wp2
    refine bodyPost_ret (v := .tuple #[]) (by simp [results, Try.results43, go_sem]) rfl ⟨rfl, H⟩
  have HU := hide (utf8_any S w (by omega))
  have d1 : decide (cm < (S.size : Int)) = false := by simp; omega
  by_cases hu : utf8Ok S = true
  · have HC : Hid (txtY S cm = 0) := by unfold txtY; rw [if_neg h, if_pos hu]; rfl
    rw [HC.out]
    rw [hu] at HU
    have hnl : (numB S.size).length ≤ 10 := numTo_len 9 S.size
    have HB := hide (refNumB S.size S.size w rfl (by omega))
    have HCV : Hid (∀ w1, (convert 9 29 (.string S)).run Try.prog w1 = .ok (.slice (some ⟨w1.heap.size, 0, none⟩) S.size (grownCap w1 S.size 0 5)) (Go.Lib.bytesWorld w1 5 S)) :=
      fun w1 => Go.Lib.run_convert_string_bytes (P := Try.prog) w1 9 29 5 S (u := .string) Try.underlying9 Try.underlying29 Try.underlying5
    have HJN : Hid (∀ w1 a1 c1, Shows w1.heap.size w1 a1 (numB S.size).length c1 (numB S.size) → Below w.heap.size w w1 → Calls Try.prog 78 #[.slice a1 (numB S.size).length c1, .slice (some ⟨w1.heap.size, 0, none⟩) S.size (grownCap w1 S.size 0 5)] (Go.Lib.bytesWorld w1 5 S) fun e w' => ∃ v, e = .returned v ∧ Hid (Owns w.heap.size w' v (numB S.size ++ strB S) ∧ Below w.heap.size w w')) := by
      intro w1 a1 c1 hs1 hb1
      have hbw := bytesW_below w1 5 S
      have hbt : Below w.heap.size w (Go.Lib.bytesWorld w1 5 S) := hb1.trans (hbw.mono hb1.size)
      refine (join_any (hs1.kept (below_none hbw) (fun g hg => by cases hg)) hbw.size (bytesW_shows w1 S (by omega)) (by rw [Go.Lib.bytesWorld_size]; omega) (by omega)).mono ?_
      rintro e w' ⟨v, rfl, h1, h2⟩
      exact ⟨v, rfl, h1.lower hbt.size, hbt.trans (h2.mono hbt.size)⟩
    have HP : Hid (∀ w1 x, Owns w.heap.size w1 x (numB S.size ++ strB S) → Below w.heap.size w w1 → _) := fun w1 x h1 h2 => put_after hW hi hbs (v := x) 0 h1 h2
    have hcv : IntKind.u64.wrap (S.size : Int) = (S.size : Int) := by simp [IntKind.wrap, IntKind.bits, IntKind.signed]; omega
    clear hW hi h HC hnl hu
    go_enter Try.func43, Try.ntmps43
    go_wp2_with fail
    refine HU.out.mono ?_
    rintro e w0 ⟨rfl, rfl⟩
    go_wp2_with fail
    refine HB.out.mono ?_
    rintro e w1 ⟨x, rfl, h1, h2⟩
    obtain ⟨a1, c1, rfl, hs1, _⟩ := h1.form
    have HJ1 := hide (HJN.out w1 a1 c1 hs1 h2)
    have hc1 := HCV.out w1
    clear h1 h2 hs1 HJN HCV
    generalize (numB S.size).length = m at *
    generalize Go.Lib.bytesWorld w1 5 S = W1 at *
    go_wp2_with fail
    refine HJ1.out.mono ?_
    rintro e w2 ⟨x2, rfl, H2⟩
    have HP1 := hide (HP.out w2 x2 H2.out.1 H2.out.2)
    obtain ⟨a2, c2, rfl, _, _⟩ := H2.out.1.form
    clear H2 HP
    generalize (numB S.size ++ strB S).length = m2 at *
    go_wp2_with fail
    refine HP1.out.mono ?_
    rintro e w3 ⟨rfl, H⟩
    go_wp2
    go_end0
    exact ⟨rfl, H⟩
  · have HC : Hid (txtY S cm = 27) := by unfold txtY; rw [if_neg h, if_neg hu]; rfl
    rw [HC.out]
    have hu' : utf8Ok S = false := by simpa using hu
    rw [hu'] at HU
    have HP := hide (put_none hW hi hbs (numB S.size ++ strB S) (y := 27) (by decide))
    clear hW hi h hu hu'
    go_enter Try.func43, Try.ntmps43
    go_wp2_with fail
    refine HU.out.mono ?_
    rintro e w0 ⟨rfl, rfl⟩
    go_wp2_with fail
    refine HP.out.mono ?_
    rintro e w2 ⟨rfl, H⟩
    go_wp2
    refine bodyPost_ret (v := .tuple #[]) (by simp [results, Try.results43, go_sem]) rfl ⟨rfl, H⟩
end Go.Proofs.Ytgdliomkdkjlaaa
