import Derived.Test.YtggpaljilpbmhaaGreatDoorZ46
import Derived.Lib.DecodeN
namespace Go.Proofs.YtggpaljilpbmhaaGreatDoor
open Go.RowKit Crc

/-! UTF-8, as the reference goes through it: how many bytes the rune at the head has; 0: there is none. -/
def utfV (v0 : Nat) (b : Nat → Nat) : Nat → Nat
 | 0 => v0
 | j + 1 => utfV v0 b j * 64 + b (j + 1) - 128
def utfC (b : Nat → Nat) : Nat → Bool
 | 0 => true
 | j + 1 => utfC b j && (decide (128 ≤ b (j + 1)) && decide (b (j + 1) < 192))
def utfBad (v least : Nat) : Prop := v < least ∨ 1114111 < v ∨ (55296 ≤ v ∧ v < 57344)
instance (v least : Nat) : Decidable (utfBad v least) := by unfold utfBad; exact inferInstance
def utfK (n k v0 least : Nat) (b : Nat → Nat) : Nat := if n ≤ k then 0 else if utfC b k = true then (if utfBad (utfV v0 b k) least then 0 else k + 1) else 0
def utfN (n : Nat) (b : Nat → Nat) : Nat :=
 if b 0 < 128 then 1 else if 192 ≤ b 0 ∧ b 0 < 224 then utfK n 1 (b 0 - 192) 128 b else if 224 ≤ b 0 ∧ b 0 < 240 then utfK n 2 (b 0 - 224) 2048 b else if 240 ≤ b 0 ∧ b 0 < 248 then utfK n 3 (b 0 - 240) 65536 b else 0

/-- The bytes of a text from a place on. -/
def utfB (s : ByteArray) (i : Nat) : Nat → Nat := fun j => (s.get! (i + j)).toNat
def utfW (s : ByteArray) (i : Nat) : Nat := utfN (s.size - i) (utfB s i)
/-- Is the text UTF-8 from a place on? -/
def utfOk (s : ByteArray) : Nat → Nat → Bool
 | 0, _ => true
 | f + 1, i => if i < s.size then (if utfW s i = 0 then false else utfOk s f (i + utfW s i)) else true
def utf8Ok (s : ByteArray) : Bool := utfOk s s.size 0
/-- The state of a walk: behind so many bytes the answer is still open. -/
def UtfAt (s : ByteArray) (i : Nat) : Prop := ∃ f, s.size - i ≤ f ∧ utfOk s f i = utf8Ok s
theorem UtfAt.start (s : ByteArray) : UtfAt s 0 := ⟨s.size, by omega, rfl⟩
theorem UtfAt.done {s : ByteArray} {i : Nat} (h : UtfAt s i) (hi : ¬ i < s.size) : utf8Ok s = true := by
 obtain ⟨f, _, h⟩ := h
 rw [← h]
 cases f with
 | zero => rfl
 | succ f => rw [utfOk, if_neg hi]
theorem UtfAt.bad {s : ByteArray} {i : Nat} (h : UtfAt s i) (hi : i < s.size) (hw : utfW s i = 0) : utf8Ok s = false := by
 obtain ⟨f, hf, h⟩ := h
 rw [← h]
 cases f with
 | zero => omega
 | succ f => rw [utfOk, if_pos hi, if_pos hw]
theorem UtfAt.next {s : ByteArray} {i : Nat} (h : UtfAt s i) (hi : i < s.size) (hw : utfW s i ≠ 0) : UtfAt s (i + utfW s i) := by
 obtain ⟨f, hf, h⟩ := h
 cases f with
 | zero => omega
 | succ f =>
  rw [utfOk, if_pos hi, if_neg hw] at h
  exact ⟨f, by omega, h⟩
end Go.Proofs.YtggpaljilpbmhaaGreatDoor
