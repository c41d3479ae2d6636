import Derived.Test.YtgdliomkdkjlaaaPUtf
import Derived.Lib.RuneCountTail
namespace Go.Proofs.Ytgdliomkdkjlaaa
open Go.RowKit Crc

set_option maxRecDepth 10000 in
set_option maxHeartbeats 400000 in
theorem prefixL (t : ByteArray) (b : Bool) (w : World) (hl : 3 ≤ t.size) (hb : ((t.extract 0 3).toList == [239, 191, 189]) = b) :
    Calls Try.prog 99 #[.string t, .string ⟨#[239, 191, 189]⟩] w fun e w' => e = .returned (.bool b) ∧ w' = w := by
  have h1 : (3 : Int) ≤ (t.size : Int) := by omega
  have h2 : decide (3 ≤ t.size) = true := by simp; omega
  clear hl
  go_enter Try.func99, Try.ntmps99
  go_wp2
  go_ret
  exact ⟨rfl, rfl⟩
set_option maxRecDepth 10000 in
set_option maxHeartbeats 400000 in
theorem prefixS (t : ByteArray) (w : World) (hl : ¬ 3 ≤ t.size) :
    Calls Try.prog 99 #[.string t, .string ⟨#[239, 191, 189]⟩] w fun e w' => e = .returned (.bool false) ∧ w' = w := by
  have h1 : (t.size : Int) < 3 := by omega
  have h2 : decide (3 ≤ t.size) = false := by simp; omega
  clear hl
  go_enter Try.func99, Try.ntmps99
  go_wp2
  go_ret
  exact ⟨rfl, rfl⟩

theorem head3 (t : ByteArray) (h : 3 ≤ t.size) : (t.extract 0 3).toList = [t.get! 0, t.get! 1, t.get! 2] := by
  rw [ByteArray.toList_eq]
  obtain ⟨⟨l⟩⟩ := t
  match l, h with
  | a :: b :: c :: r, _ => simp [ByteArray.data_extract, ByteArray.get!]
theorem u8_lit (x : UInt8) (n : Nat) (hn : n < 256) : x.toNat = n ↔ x = UInt8.ofNat n := by
  constructor
  · intro h; rw [← h]; simp
  · intro h; rw [h]; simp; omega

set_option maxRecDepth 10000 in
set_option maxHeartbeats 400000 in
/-- Do the replacement's three bytes stand there? -/
theorem prefixAt (s : ByteArray) (i : Nat) (w : World) (b : Bool) (hb : b = true ↔ utfFFFD (s.size - i) (utfB s i 0) (utfB s i 1) (utfB s i 2)) :
    Calls Try.prog 98 #[.string (s.extract i s.size), .string ⟨#[239, 191, 189]⟩] w fun e w' => e = .returned (.bool b) ∧ w' = w := by
  have HP : Hid (Calls Try.prog 99 #[.string (s.extract i s.size), .string ⟨#[239, 191, 189]⟩] w fun e w' => e = .returned (.bool b) ∧ w' = w) := by
    have hsz : (s.extract i s.size).size = s.size - i := by simp
    by_cases h3 : 3 ≤ s.size - i
    · refine prefixL _ b w (by rw [hsz]; exact h3) ?_
      rw [head3 _ (by rw [hsz]; exact h3), Lib.tail_get!, Lib.tail_get!, Lib.tail_get!, Bool.eq_iff_iff, hb]
      unfold utfFFFD utfB
      rw [u8_lit _ 239 (by omega), u8_lit _ 191 (by omega), u8_lit _ 189 (by omega)]
      simp [h3]
    · have : b = false := by
        cases b with
        | false => rfl
        | true => exact absurd (hb.1 rfl).1 h3
      subst this
      exact prefixS _ w (by rw [hsz]; exact h3)
  clear hb
  generalize s.extract i s.size = t at *
  go_enter Try.func98, Try.ntmps98
  go_wp2_with fail
  refine HP.out.mono ?_
  rintro e w1 ⟨rfl, rfl⟩
  go_wp2
  go_ret
  exact ⟨rfl, rfl⟩

set_option maxRecDepth 10000 in
set_option maxHeartbeats 800000 in
theorem isText_any (s : ByteArray) (w : World) :
    Calls Try.prog 95 #[.string s] w fun e w' => e = .returned (.bool (utf8Ok s)) ∧ ∃ pos, w' = w.iter s pos := by
  have HR : Hid (∃ R, R = utf8Ok s) := ⟨_, rfl⟩
  obtain ⟨R, hR⟩ := HR.out
  rw [← hR]
  have HRR := hide hR
  clear hR HR
  go_enter Try.func95, Try.ntmps95
  go_wp2
  go_loopw [2] (fun b w' => ∃ pos : Nat, w' = w.iter s pos ∧ b = .bool false ∧ Hid (UtfAt s pos)) (fun _ w' => s.size - w'.iterPos w.heap.size)
  case atStart => exact ⟨0, rfl, rfl, UtfAt.start s⟩
  case round =>
    obtain ⟨pos, rfl, rfl, HU⟩ := hrel
    by_cases hp : pos < s.size
    · have htie := utfW_tie s pos
      have hnx0 : ∀ ty, (Instr.next (.pointer (some ⟨w.heap.size, 0, none⟩)) true ty).run Try.prog (w.iter s pos) = _ := fun ty => run_next_any w s pos ty hp
      obtain ⟨⟨r, wd⟩, hd⟩ : ∃ d, d = Utf8.decode s pos := ⟨_, rfl⟩
      rw [← hd] at htie
      have hnx : ∀ ty, (Instr.next (.pointer (some ⟨w.heap.size, 0, none⟩)) true ty).run Try.prog (w.iter s pos) = .ok (.tuple #[.bool true, .int .i64 pos, .int .i32 (r : Nat)]) (w.iter s (pos + wd)) := by
        intro ty
        rw [hnx0 ty, ← hd]
      have HPX := hide (fun b wx hb => prefixAt s pos wx b hb)
      have hi1 : (0 : Int) ≤ (pos : Int) := by omega
      have hi2 : (pos : Int) ≤ (s.size : Int) := by omega
      clear hd hnx0
      by_cases hw : utfW s pos = 0
      · obtain ⟨he, hf⟩ := htie.1 hw
        cases he
        have HF := hide (HU.out.bad hp hw)
        have HNF := hide hf
        clear htie hw hf HU
        go_wp2_with fail
        refine (HPX.out false _ ⟨fun h => (by cases h), fun h => absurd h HNF.out⟩).mono ?_
        rintro e w1 ⟨rfl, rfl⟩
        go_wp2
        go_ret
        exact ⟨by rw [HRR.out, HF.out]; rfl, _, rfl⟩
      · obtain ⟨he, hf⟩ := htie.2 hw
        simp only at he hf
        have HN : Hid (UtfAt s (pos + wd)) := by rw [he]; exact HU.out.next hp hw
        have hw1 : 1 ≤ wd := by omega
        by_cases hr : r = 65533
        · have HFF := hide (hf hr)
          subst hr
          clear htie hw hf HU he
          go_wp2_with fail
          refine (HPX.out true _ ⟨fun _ => HFF.out, fun _ => rfl⟩).mono ?_
          rintro e w1 ⟨rfl, rfl⟩
          go_wp2
          go_roundw
          case rel => exact ⟨pos + wd, rfl, rfl, HN⟩
          case measure => simp; omega
        · have hne : ((r : Int) == 65533) = false := by simp; omega
          clear htie hw hf HU he hr
          go_wp2
          go_roundw
          case rel => exact ⟨pos + wd, rfl, rfl, HN⟩
          case measure => simp; omega
    · have HF := hide (HU.out.done hp)
      have hnx : ∀ ty, (Instr.next (.pointer (some ⟨w.heap.size, 0, none⟩)) true ty).run Try.prog (w.iter s pos) = _ := fun ty => run_next_end w s pos ty hp
      clear HU
      go_wp2
      go_ret
      exact ⟨by rw [HRR.out, HF.out]; rfl, _, rfl⟩
end Go.Proofs.Ytgdliomkdkjlaaa
