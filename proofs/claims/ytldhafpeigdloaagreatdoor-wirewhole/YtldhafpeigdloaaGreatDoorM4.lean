import Derived.Test.YtldhafpeigdloaaGreatDoorM3
import Derived.Lib.DecodeN
import Derived.Lib.RuneCountTail
import Derived.Test.YtldhafpeigdloaaGreatDoorM0
import Derived.Test.YtldhafpeigdloaaGreatDoorM2
namespace Go.Proofs.YtldhafpeigdloaaGreatDoor
open Go.RowKit Crc

/-! UTF-8, as the reference goes through it: how many bytes the rune at the head has; 0: there is none. -/
def utfV (v0 : Nat) (b : Nat → Nat) : Nat → Nat
  | 0 => v0
  | j + 1 => utfV v0 b j * 64 + b (j + 1) - 128
def utfC (b : Nat → Nat) : Nat → Bool
  | 0 => true
  | j + 1 => utfC b j && (decide (128 ≤ b (j + 1)) && decide (b (j + 1) < 192))
def utfBad (v least : Nat) : Prop := v < least ∨ 1114111 < v ∨ (55296 ≤ v ∧ v < 57344)
instance (v least : Nat) : Decidable (utfBad v least) := by unfold utfBad; exact inferInstance
def utfK (n k v0 least : Nat) (b : Nat → Nat) : Nat := if n ≤ k then 0 else if utfC b k = true then (if utfBad (utfV v0 b k) least then 0 else k + 1) else 0
def utfN (n : Nat) (b : Nat → Nat) : Nat :=
  if b 0 < 128 then 1 else if 192 ≤ b 0 ∧ b 0 < 224 then utfK n 1 (b 0 - 192) 128 b else if 224 ≤ b 0 ∧ b 0 < 240 then utfK n 2 (b 0 - 224) 2048 b else if 240 ≤ b 0 ∧ b 0 < 248 then utfK n 3 (b 0 - 240) 65536 b else 0

/-- The replacement's own three bytes. -/
def utfFFFD (n b0 b1 b2 : Nat) : Prop := 3 ≤ n ∧ b0 = 239 ∧ b1 = 191 ∧ b2 = 189
/-- What the model's decode tells, against that. -/
def utfTie (n x b0 b1 b2 : Nat) (d : Nat × Nat) : Prop := (x = 0 → d = (65533, 1) ∧ ¬ utfFFFD n b0 b1 b2) ∧ (x ≠ 0 → d.2 = x ∧ (d.1 = 65533 → utfFFFD n b0 b1 b2))

theorem utfTie_bad {n b0 b1 b2 : Nat} {d : Nat × Nat} (h : d = (65533, 1)) (hf : ¬ utfFFFD n b0 b1 b2) : utfTie n 0 b0 b1 b2 d := ⟨fun _ => ⟨h, hf⟩, fun h => absurd rfl h⟩
theorem utfTie_good {n b0 b1 b2 x v : Nat} {d : Nat × Nat} (hx : x ≠ 0) (h : d = (v, x)) (hf : v = 65533 → utfFFFD n b0 b1 b2) : utfTie n x b0 b1 b2 d := ⟨fun h0 => absurd h0 hx, fun _ => by rw [h]; exact ⟨rfl, hf⟩⟩

theorem utf_tie1 (n b0 b1 b2 b3 : Nat) (hc : b0 < 128) : utfTie n 1 b0 b1 b2 (Lib.decodeN n b0 b1 b2 b3) := by
  refine utfTie_good (v := b0) (by decide) ?_ (fun h => by omega)
  unfold Lib.decodeN
  rw [if_pos hc]

set_option maxRecDepth 100000 in
set_option maxHeartbeats 4000000 in
theorem utf_tie2 (n b0 b1 b2 b3 x V : Nat) (cc : Bool) (h1 : b1 < 256) (hc : 192 ≤ b0 ∧ b0 < 224) (hcc : cc = true ↔ 128 ≤ b1 ∧ b1 < 192) (hV : V = (b0 - 192) * 64 + b1 - 128)
    (hx : x = if n ≤ 1 then 0 else if cc = true then (if utfBad V 128 then 0 else 2) else 0) : utfTie n x b0 b1 b2 (Lib.decodeN n b0 b1 b2 b3) := by
  by_cases hn : n ≤ 1
  · rewrite [if_pos hn] at hx
    rewrite [hx]
    refine utfTie_bad ?_ (by unfold utfFFFD; omega)
    unfold Lib.decodeN
    repeat' split
    all_goals first | rfl | (exfalso; omega)
  · rewrite [if_neg hn] at hx
    by_cases h : cc = true
    · rewrite [if_pos h] at hx
      have h' := hcc.1 h
      by_cases hbad : utfBad V 128
      · rewrite [if_pos hbad] at hx
        unfold utfBad at hbad
        rewrite [hx]
        refine utfTie_bad ?_ (by unfold utfFFFD; omega)
        unfold Lib.decodeN
        repeat' split
        all_goals first | rfl | (exfalso; omega)
      · rewrite [if_neg hbad] at hx
        unfold utfBad at hbad
        rewrite [hx]
        refine utfTie_good (v := b0 % 32 * 64 + b1 % 64) (by decide) ?_ (fun h => by omega)
        unfold Lib.decodeN
        repeat' split
        all_goals first | rfl | (exfalso; omega)
    · rewrite [if_neg h] at hx
      have h' : ¬ (128 ≤ b1 ∧ b1 < 192) := fun h2 => h (hcc.2 h2)
      rewrite [hx]
      refine utfTie_bad ?_ (by unfold utfFFFD; omega)
      unfold Lib.decodeN
      repeat' split
      all_goals first | rfl | (exfalso; omega)

set_option maxRecDepth 100000 in
set_option maxHeartbeats 4000000 in
theorem utf_tie3 (n b0 b1 b2 b3 x V : Nat) (cc : Bool) (h1 : b1 < 256) (h2 : b2 < 256) (hc : 224 ≤ b0 ∧ b0 < 240) (hcc : cc = true ↔ (128 ≤ b1 ∧ b1 < 192) ∧ (128 ≤ b2 ∧ b2 < 192)) (hV : V = ((b0 - 224) * 64 + b1 - 128) * 64 + b2 - 128)
    (hx : x = if n ≤ 2 then 0 else if cc = true then (if utfBad V 2048 then 0 else 3) else 0) : utfTie n x b0 b1 b2 (Lib.decodeN n b0 b1 b2 b3) := by
  by_cases hn : n ≤ 2
  · rewrite [if_pos hn] at hx
    rewrite [hx]
    refine utfTie_bad ?_ (by unfold utfFFFD; omega)
    unfold Lib.decodeN
    repeat' split
    all_goals first | rfl | (exfalso; omega)
  · rewrite [if_neg hn] at hx
    by_cases h : cc = true
    · rewrite [if_pos h] at hx
      have h' := hcc.1 h
      by_cases hbad : utfBad V 2048
      · rewrite [if_pos hbad] at hx
        unfold utfBad at hbad
        rewrite [hx]
        refine utfTie_bad ?_ (by unfold utfFFFD; omega)
        unfold Lib.decodeN
        repeat' split
        all_goals first | rfl | (exfalso; omega)
      · rewrite [if_neg hbad] at hx
        unfold utfBad at hbad
        rewrite [hx]
        refine utfTie_good (v := b0 % 16 * 4096 + b1 % 64 * 64 + b2 % 64) (by decide) ?_ (fun h => by unfold utfFFFD; omega)
        unfold Lib.decodeN
        repeat' split
        all_goals first | rfl | (exfalso; omega)
    · rewrite [if_neg h] at hx
      have h' : ¬ ((128 ≤ b1 ∧ b1 < 192) ∧ (128 ≤ b2 ∧ b2 < 192)) := fun h2 => h (hcc.2 h2)
      rewrite [hx]
      refine utfTie_bad ?_ (by unfold utfFFFD; omega)
      unfold Lib.decodeN
      repeat' split
      all_goals first | rfl | (exfalso; omega)

set_option maxRecDepth 100000 in
set_option maxHeartbeats 4000000 in
theorem utf_tie4 (n b0 b1 b2 b3 x V : Nat) (cc : Bool) (h1 : b1 < 256) (h2 : b2 < 256) (h3 : b3 < 256) (hc : 240 ≤ b0 ∧ b0 < 248) (hcc : cc = true ↔ ((128 ≤ b1 ∧ b1 < 192) ∧ (128 ≤ b2 ∧ b2 < 192)) ∧ (128 ≤ b3 ∧ b3 < 192)) (hV : V = (((b0 - 240) * 64 + b1 - 128) * 64 + b2 - 128) * 64 + b3 - 128)
    (hx : x = if n ≤ 3 then 0 else if cc = true then (if utfBad V 65536 then 0 else 4) else 0) : utfTie n x b0 b1 b2 (Lib.decodeN n b0 b1 b2 b3) := by
  by_cases hn : n ≤ 3
  · rewrite [if_pos hn] at hx
    rewrite [hx]
    refine utfTie_bad ?_ (by unfold utfFFFD; omega)
    unfold Lib.decodeN
    repeat' split
    all_goals first | rfl | (exfalso; omega)
  · rewrite [if_neg hn] at hx
    by_cases h : cc = true
    · rewrite [if_pos h] at hx
      have h' := hcc.1 h
      by_cases hbad : utfBad V 65536
      · rewrite [if_pos hbad] at hx
        unfold utfBad at hbad
        rewrite [hx]
        refine utfTie_bad ?_ (by unfold utfFFFD; omega)
        unfold Lib.decodeN
        repeat' split
        all_goals first | rfl | (exfalso; omega)
      · rewrite [if_neg hbad] at hx
        unfold utfBad at hbad
        rewrite [hx]
        refine utfTie_good (v := b0 % 8 * 262144 + b1 % 64 * 4096 + b2 % 64 * 64 + b3 % 64) (by decide) ?_ (fun h => by omega)
        unfold Lib.decodeN
        repeat' split
        all_goals first | rfl | (exfalso; omega)
    · rewrite [if_neg h] at hx
      have h' : ¬ (((128 ≤ b1 ∧ b1 < 192) ∧ (128 ≤ b2 ∧ b2 < 192)) ∧ (128 ≤ b3 ∧ b3 < 192)) := fun h2 => h (hcc.2 h2)
      rewrite [hx]
      refine utfTie_bad ?_ (by unfold utfFFFD; omega)
      unfold Lib.decodeN
      repeat' split
      all_goals first | rfl | (exfalso; omega)

theorem utfC1 (b : Nat → Nat) : utfC b 1 = true ↔ 128 ≤ b 1 ∧ b 1 < 192 := by simp [utfC]
theorem utfC2 (b : Nat → Nat) : utfC b 2 = true ↔ (128 ≤ b 1 ∧ b 1 < 192) ∧ (128 ≤ b 2 ∧ b 2 < 192) := by simp [utfC]
theorem utfC3 (b : Nat → Nat) : utfC b 3 = true ↔ ((128 ≤ b 1 ∧ b 1 < 192) ∧ (128 ≤ b 2 ∧ b 2 < 192)) ∧ (128 ≤ b 3 ∧ b 3 < 192) := by simp [utfC]
theorem utfN1 {n : Nat} {b : Nat → Nat} (c1 : b 0 < 128) : utfN n b = 1 := by unfold utfN; rw [if_pos c1]
theorem utfN2 {n : Nat} {b : Nat → Nat} (c2 : 192 ≤ b 0 ∧ b 0 < 224) : utfN n b = utfK n 1 (b 0 - 192) 128 b := by unfold utfN; rw [if_neg (by omega), if_pos c2]
theorem utfN3 {n : Nat} {b : Nat → Nat} (c3 : 224 ≤ b 0 ∧ b 0 < 240) : utfN n b = utfK n 2 (b 0 - 224) 2048 b := by unfold utfN; rw [if_neg (by omega), if_neg (by omega), if_pos c3]
theorem utfN4 {n : Nat} {b : Nat → Nat} (c4 : 240 ≤ b 0 ∧ b 0 < 248) : utfN n b = utfK n 3 (b 0 - 240) 65536 b := by unfold utfN; rw [if_neg (by omega), if_neg (by omega), if_neg (by omega), if_pos c4]
theorem utfN0 {n : Nat} {b : Nat → Nat} (c1 : ¬ b 0 < 128) (c2 : ¬ (192 ≤ b 0 ∧ b 0 < 248)) : utfN n b = 0 := by unfold utfN; rw [if_neg c1, if_neg (by omega), if_neg (by omega), if_neg (by omega)]
theorem utfK_eq (n k v0 least : Nat) (b : Nat → Nat) : utfK n k v0 least b = if n ≤ k then 0 else if utfC b k = true then (if utfBad (utfV v0 b k) least then 0 else k + 1) else 0 := rfl
theorem utfV1 (v0 : Nat) (b : Nat → Nat) : utfV v0 b 1 = v0 * 64 + b 1 - 128 := rfl
theorem utfV2 (v0 : Nat) (b : Nat → Nat) : utfV v0 b 2 = (v0 * 64 + b 1 - 128) * 64 + b 2 - 128 := rfl
theorem utfV3 (v0 : Nat) (b : Nat → Nat) : utfV v0 b 3 = ((v0 * 64 + b 1 - 128) * 64 + b 2 - 128) * 64 + b 3 - 128 := rfl

theorem utf_tie (n : Nat) (b : Nat → Nat) (hb : ∀ j, b j < 256) : utfTie n (utfN n b) (b 0) (b 1) (b 2) (Lib.decodeN n (b 0) (b 1) (b 2) (b 3)) := by
  by_cases c1 : b 0 < 128
  · rewrite [utfN1 c1]
    exact utf_tie1 n (b 0) (b 1) (b 2) (b 3) c1
  · by_cases c2 : 192 ≤ b 0 ∧ b 0 < 224
    · exact utf_tie2 n (b 0) (b 1) (b 2) (b 3) (utfN n b) _ _ (hb 1) c2 (utfC1 b) (utfV1 _ _) ((utfN2 c2).trans (utfK_eq _ _ _ _ _))
    · by_cases c3 : 224 ≤ b 0 ∧ b 0 < 240
      · exact utf_tie3 n (b 0) (b 1) (b 2) (b 3) (utfN n b) _ _ (hb 1) (hb 2) c3 (utfC2 b) (utfV2 _ _) ((utfN3 c3).trans (utfK_eq _ _ _ _ _))
      · by_cases c4 : 240 ≤ b 0 ∧ b 0 < 248
        · exact utf_tie4 n (b 0) (b 1) (b 2) (b 3) (utfN n b) _ _ (hb 1) (hb 2) (hb 3) c4 (utfC3 b) (utfV3 _ _) ((utfN4 c4).trans (utfK_eq _ _ _ _ _))
        · have h0 := hb 0
          rewrite [utfN0 c1 (by omega)]
          refine utfTie_bad ?_ (by unfold utfFFFD; omega)
          unfold Lib.decodeN
          repeat' split
          all_goals first | rfl | (exfalso; omega)

/-- The bytes of a text from a place on. -/
def utfB (s : ByteArray) (i : Nat) : Nat → Nat := fun j => (s.get! (i + j)).toNat
def utfW (s : ByteArray) (i : Nat) : Nat := utfN (s.size - i) (utfB s i)
theorem utfB_lt (s : ByteArray) (i j : Nat) : utfB s i j < 256 := (s.get! (i + j)).toNat_lt
theorem utfW_tie (s : ByteArray) (i : Nat) : utfTie (s.size - i) (utfW s i) (utfB s i 0) (utfB s i 1) (utfB s i 2) (Utf8.decode s i) := by
  rewrite [Lib.decode_at]
  exact utf_tie (s.size - i) (utfB s i) (utfB_lt s i)
/-- Is the text UTF-8 from a place on? -/
def utfOk (s : ByteArray) : Nat → Nat → Bool
  | 0, _ => true
  | f + 1, i => if i < s.size then (if utfW s i = 0 then false else utfOk s f (i + utfW s i)) else true
def utf8Ok (s : ByteArray) : Bool := utfOk s s.size 0
/-- The state of a walk: behind so many bytes the answer is still open. -/
def UtfAt (s : ByteArray) (i : Nat) : Prop := ∃ f, s.size - i ≤ f ∧ utfOk s f i = utf8Ok s
theorem UtfAt.start (s : ByteArray) : UtfAt s 0 := ⟨s.size, by omega, rfl⟩
theorem UtfAt.done {s : ByteArray} {i : Nat} (h : UtfAt s i) (hi : ¬ i < s.size) : utf8Ok s = true := by
  obtain ⟨f, _, h⟩ := h
  rw [← h]
  cases f with
  | zero => rfl
  | succ f => rw [utfOk, if_neg hi]
theorem UtfAt.bad {s : ByteArray} {i : Nat} (h : UtfAt s i) (hi : i < s.size) (hw : utfW s i = 0) : utf8Ok s = false := by
  obtain ⟨f, hf, h⟩ := h
  rw [← h]
  cases f with
  | zero => omega
  | succ f => rw [utfOk, if_pos hi, if_pos hw]
theorem UtfAt.next {s : ByteArray} {i : Nat} (h : UtfAt s i) (hi : i < s.size) (hw : utfW s i ≠ 0) : UtfAt s (i + utfW s i) := by
  obtain ⟨f, hf, h⟩ := h
  cases f with
  | zero => omega
  | succ f =>
    rw [utfOk, if_pos hi, if_neg hw] at h
    exact ⟨f, by omega, h⟩
end Go.Proofs.YtldhafpeigdloaaGreatDoor
namespace Go.Proofs.YtldhafpeigdloaaGreatDoor
open Go.RowKit Crc

theorem head3 (t : ByteArray) (h : 3 ≤ t.size) : (t.extract 0 3).toList = [t.get! 0, t.get! 1, t.get! 2] := by
  rw [ByteArray.toList_eq]
  obtain ⟨⟨l⟩⟩ := t
  match l, h with
  | a :: b :: c :: r, _ => simp [ByteArray.data_extract, ByteArray.get!]
theorem u8_lit (x : UInt8) (n : Nat) (hn : n < 256) : x.toNat = n ↔ x = UInt8.ofNat n := by
  constructor
  · intro h; rw [← h]; simp
  · intro h; rw [h]; simp; omega

end Go.Proofs.YtldhafpeigdloaaGreatDoor
namespace Go.Proofs.YtldhafpeigdloaaGreatDoor
open Go.RowKit Crc

end Go.Proofs.YtldhafpeigdloaaGreatDoor
namespace Go.Proofs.YtldhafpeigdloaaGreatDoor
open Go.RowKit Crc

/-- Nil, or a block's. -/
def NilOr (ao : Option Addr) (cap d n : Nat) : Prop := ao = some ⟨d, 0, none⟩ ∨ ao = none ∧ cap = 0 ∧ n = 0
end Go.Proofs.YtldhafpeigdloaaGreatDoor
namespace Go.Proofs.YtldhafpeigdloaaGreatDoor
open Go.RowKit Crc

theorem wrap64_nat {n : Nat} (h : n < 9223372036854775808) : IntKind.i64.wrap (n : Int) = (n : Int) := by
  have h1 : (n : Int) < 9223372036854775808 := by omega
  simp [IntKind.wrap, IntKind.bits, IntKind.signed]
  omega
theorem wrapu64_nat {n : Nat} (h : n < 18446744073709551616) : IntKind.u64.wrap (n : Int) = (n : Int) := by
  have h1 : (n : Int) < 18446744073709551616 := by omega
  simp [IntKind.wrap, IntKind.bits, IntKind.signed]
  omega

end Go.Proofs.YtldhafpeigdloaaGreatDoor
namespace Go.Proofs.YtldhafpeigdloaaGreatDoor
open Go.RowKit Crc

theorem wr64_nat {n : Nat} (h : n < 9223372036854775808) : wrap64 (n : Int) = (n : Int) := by
  unfold wrap64
  omega
theorem utfC_succ (b : Nat → Nat) (j : Nat) : utfC b (j + 1) = true ↔ utfC b j = true ∧ 128 ≤ b (j + 1) ∧ b (j + 1) < 192 := by simp [utfC]
theorem utfC_mono (b : Nat → Nat) : ∀ {k j : Nat}, utfC b k = true → j ≤ k → utfC b j = true
  | 0, j, h, hj => by obtain rfl : j = 0 := by omega
                      exact h
  | k + 1, j, h, hj => by
    by_cases e : j = k + 1
    · subst e; exact h
    · exact utfC_mono b ((utfC_succ b k).1 h).1 (by omega)
theorem utfB_at (s : ByteArray) (pos j : Nat) (h : pos + j < s.size) : (s[pos + j]'h).toNat = utfB s pos j := by
  unfold utfB
  have e : s.get! (pos + j) = s[pos + j]'h := by
    simp [ByteArray.get!, getElem!_pos, h]
    rfl
  rw [e]
theorem utfK_short {n k v0 least : Nat} {b : Nat → Nat} (h : n ≤ k) : utfK n k v0 least b = 0 := by rw [utfK_eq, if_pos h]
theorem utfK_cont {n k v0 least : Nat} {b : Nat → Nat} (h : ¬ utfC b k = true) : utfK n k v0 least b = 0 := by
  rw [utfK_eq, if_neg h]
  split <;> rfl
theorem utfK_bad {n k v0 least : Nat} {b : Nat → Nat} (h : utfBad (utfV v0 b k) least) : utfK n k v0 least b = 0 := by
  rw [utfK_eq, if_pos h]
  split
  · rfl
  · split <;> rfl
theorem utfK_good {n k v0 least : Nat} {b : Nat → Nat} (h1 : ¬ n ≤ k) (h2 : utfC b k = true) (h3 : ¬ utfBad (utfV v0 b k) least) : utfK n k v0 least b = k + 1 := by rw [utfK_eq, if_neg h1, if_pos h2, if_neg h3]

end Go.Proofs.YtldhafpeigdloaaGreatDoor
namespace Go.Proofs.YtldhafpeigdloaaGreatDoor
open Go.RowKit Crc
variable {K : Kd}

/-! The writer's methods once more, with what they touch: the writer's own block and its list's. -/
/-- The blocks of a writer: its own, and its list's (which lies in cell j). -/
def Foot (w : World) (p j k : Nat) : Prop := k = p ∨ ∃ u, w.cell? ⟨p, j, none⟩ = some u ∧ u.ownBlock = some k
/-- Nothing but these was touched; what is new of them is new memory. -/
structure Tch (j : Nat) (w w' : World) (p : Nat) : Prop where
  os : w'.os = w.os
  tape : w'.tape = w.tape
  output : w'.output = w.output
  size : w.heap.size ≤ w'.heap.size
  keep : ∀ k, k < w.heap.size → ¬ Foot w p j k → w'.heap[k]? = w.heap[k]?
  foot : ∀ k, Foot w' p j k → Foot w p j k ∨ w.heap.size ≤ k
theorem Foot.old {w w1 : World} {p j k : Nat} (hb : Below w.heap.size w w1) (hp : p < w.heap.size) : Foot w1 p j k ↔ Foot w p j k := by
  unfold Foot
  rw [hb.cell (p := ⟨p, j, none⟩) hp]
theorem Tch.from {j p : Nat} {w w1 w2 : World} (hb : Below w.heap.size w w1) (hp : p < w.heap.size) (h : Tch j w1 w2 p) : Tch j w w2 p :=
  ⟨h.os.trans hb.os, h.tape.trans hb.tape, h.output.trans hb.output, Nat.le_trans hb.size h.size, fun k hk hf => (h.keep k (Nat.lt_of_lt_of_le hk hb.size) (fun e => hf ((Foot.old hb hp).1 e))).trans (hb.block k hk),
   fun k hk => (h.foot k hk).elim (fun e => .inl ((Foot.old hb hp).1 e)) (fun e => .inr (Nat.le_trans hb.size e))⟩
theorem Tch.row {j p : Nat} {w w' : World} (hg : w.grownBy w' (some p)) (hc : w'.cell? ⟨p, j, none⟩ = w.cell? ⟨p, j, none⟩) : Tch j w w' p :=
  ⟨hg.os, hg.tape, hg.output, hg.size, fun k hk hf => hg.block k hk (fun e => hf (.inl (by cases e; rfl))), fun k hk => .inl (by unfold Foot at hk ⊢; rwa [hc] at hk)⟩
theorem Tch.refl (j p : Nat) (w : World) : Tch j w w p := ⟨rfl, rfl, rfl, Nat.le_refl _, fun _ _ _ => rfl, fun _ h => .inl h⟩
structure BT (lim : Nat) (w w' : World) (p : Nat) : Prop where
  below : Below lim w w'
  touch : Tch 4 w w' p
theorem BT.from {lim p : Nat} {w w1 w2 : World} (hb : Below w.heap.size w w1) (hp : p < w.heap.size) (hl : lim ≤ w.heap.size) (h : BT lim w1 w2 p) : BT lim w w2 p :=
  ⟨(hb.mono hl).trans h.below, Tch.from hb hp h.touch⟩
theorem wr_afterx {base lim : Nat} {w w2 : World} {p : Nat} {made : Bool} {place why most : Int} {v v' : Value} {L : List Nat} (hb : w.heap[p]? = some (.cells (List.toArray (.bool made :: .int .i64 place :: .int .i64 why :: .int .i64 most :: v :: K.R)) K.t (0, 0)))
    (hne : v.ownBlock ≠ some p) (hO0 : ∀ g, v.ownBlock = some g → base ≤ g) (hE : Ext w w2 v v') (hO : Owns base w2 v' L) (hl1 : lim ≤ base) (hl2 : lim ≤ p) :
    Wr K base (w2.setCell ⟨p, 4, none⟩ v') p made place why most L ∧ BT lim w (w2.setCell ⟨p, 4, none⟩ v') p := by
  obtain ⟨h1, h2⟩ := wr_after hb hne hO0 hE hO hl1 hl2
  have c4 := block_cell hb 4
  simp at c4
  have hp := block_lt hb
  have hb2 : w2.heap[p]? = some (.cells (List.toArray (.bool made :: .int .i64 place :: .int .i64 why :: .int .i64 most :: v :: K.R)) K.t (0, 0)) := (hE.1.block p hp (fun e => hne e.symm)).trans hb
  have hb3 : (w2.setCell ⟨p, 4, none⟩ v').heap[p]? = some (.cells (List.toArray (.bool made :: .int .i64 place :: .int .i64 why :: .int .i64 most :: v' :: K.R)) K.t (0, 0)) := by
    rw [heap_setCell_same w2 p 4 _ _ v' hb2]; rfl
  refine ⟨h1, h2, h2.os, h2.tape, h2.output, by simpa using hE.1.size, fun k hk hf => ?_, fun k hk => ?_⟩
  · have h3 := heap_setCell_other w2 ⟨p, 4, none⟩ k v' (fun e => hf (.inl (by simpa using e)))
    exact h3.trans (hE.1.block k hk (fun e => hf (.inr ⟨v, c4, e.symm⟩)))
  · rcases hk with rfl | ⟨u, hu, hg⟩
    · exact .inl (.inl rfl)
    · have h4 := block_cell hb3 4
      rw [hu] at h4
      simp at h4
      subst h4
      rcases hE.2 k hg with h | h
      · exact .inl (.inr ⟨v, c4, h⟩)
      · exact .inr h
theorem fixed_goodx (base lim p v s : Nat) (vi si place most : Int) (L : List Nat) (w : World) (hvi : vi = (v : Int)) (hsi : si = (s : Int)) (hs : s ≤ 8) (hW : Wr K base w p true place 0 most L) (hm : most ≤ 65507) (hfit : ((L.length + s : Nat) : Int) ≤ most) (hbs : base ≤ w.heap.size) (hl1 : lim ≤ base) (hl2 : lim ≤ p) :
    Calls Tryz.prog 108 #[.pointer (some ⟨p, 0, none⟩), .int .u64 vi, .int .i64 si] w fun e w' => e = .returned (.tuple #[]) ∧ Wr K base w' p true place 0 most (L ++ big v s) ∧ BT lim w w' p := by
  obtain ⟨u, hb, hO, hne⟩ := hW
  obtain ⟨ao, cap, rfl, hS, _⟩ := hO.form
  have c0 := block_cell hb 0
  have c2 := block_cell hb 2
  have c3 := block_cell hb 3
  have c4 := block_cell hb 4
  simp at c0 c2 c3 c4
  have HTK : Hid (Calls Tryz.prog 105 #[.pointer (some ⟨p, 0, none⟩), .int .i64 si, .int .i64 0] w fun e w' => e = .returned (.bool true) ∧ ∃ q, w' = w.drewN q) := takes_good p most ao L.length cap si w c0 c2 c3 c4 hm (by omega) (by omega)
  have HAP : Hid (∀ q, Calls Tryz.prog 31 #[.slice ao L.length cap, .int .u64 vi, .int .i64 si] (w.drewN q) fun e w' => ∃ v', e = .returned v' ∧ Owns base w' v' (L ++ big v s) ∧ Ext (w.drewN q) w' (.slice ao L.length cap) v') :=
    fun q => appendHigh_any base v s _ vi si L (w.drewN q) hvi hsi hs (hO.drew q) (by omega) hbs
  have HFIN : Hid (∀ (q : Nat) (w2 : World) (v' : Value), Owns base w2 v' (L ++ big v s) → Ext (w.drewN q) w2 (.slice ao L.length cap) v' → Wr K base (w2.setCell ⟨p, 4, none⟩ v') p true place 0 most (L ++ big v s) ∧ BT lim w (w2.setCell ⟨p, 4, none⟩ v') p) := by
    intro q w2 v' ho he
    have he' : Ext w w2 (.slice ao L.length cap) v' := ⟨⟨he.1.os, he.1.tape, he.1.output, he.1.size, he.1.block⟩, he.2⟩
    exact wr_afterx hb hne (fun g hg => (hO.1.lt g hg).1) he' ho hl1 hl2
  have HCL : Hid (∀ (q : Nat) (w2 : World) (v' : Value), Ext (w.drewN q) w2 (.slice ao L.length cap) v' → w2.cell? ⟨p, 4, none⟩ = some (.slice ao L.length cap) ∧ w2.frozen? ⟨p, 4, none⟩ = false) := by
    intro q w2 v' he
    exact wr_cell hb hne (show Ext w w2 (.slice ao L.length cap) v' from ⟨⟨he.1.os, he.1.tape, he.1.output, he.1.size, he.1.block⟩, he.2⟩)
  clear hb hO hne hS c0 c2 c3 hvi hsi
  go_enter Tryz.func108, Tryz.ntmps108
  go_wp2_with fail
  refine HTK.out.mono ?_
  rintro e w1 ⟨rfl, q, rfl⟩
  go_wp2_with fail
  refine (HAP.out q).mono ?_
  rintro e w2 ⟨v', rfl, ho, he⟩
  obtain ⟨k4, f4⟩ := HCL.out q w2 v' he
  have HF2 := HFIN.out q w2 v' ho he
  obtain ⟨a', c', rfl, _, _⟩ := ho.form
  have HF2' : Hid (Wr K base (w2.setCell ⟨p, 4, none⟩ (.slice a' (L ++ big v s).length c')) p true place 0 most (L ++ big v s) ∧ BT lim w (w2.setCell ⟨p, 4, none⟩ (.slice a' (L ++ big v s).length c')) p) := HF2
  clear HF2 ho he HFIN HCL HAP HTK c4
  generalize (L ++ big v s).length = m at *
  go_wp2
  go_end0
  exact ⟨rfl, HF2'.out⟩

theorem wU8_goodx (base lim p v : Nat) (vi place most : Int) (L : List Nat) (w : World) (hvi : vi = (v : Int)) (hv : v < 256) (hW : Wr K base w p true place 0 most L) (hm : most ≤ 65507) (hfit : ((L.length + 1 : Nat) : Int) ≤ most) (hbs : base ≤ w.heap.size) (hl1 : lim ≤ base) (hl2 : lim ≤ p) :
    Calls Tryz.prog 104 #[.pointer (some ⟨p, 0, none⟩), .int .u8 vi] w fun e w' => e = .returned (.tuple #[]) ∧ Wr K base w' p true place 0 most (L ++ big v 1) ∧ BT lim w w' p := by
  have HF : Hid (Calls Tryz.prog 108 #[.pointer (some ⟨p, 0, none⟩), .int .u64 vi, .int .i64 1] w fun e w' => e = .returned (.tuple #[]) ∧ Wr K base w' p true place 0 most (L ++ big v 1) ∧ BT lim w w' p) := fixed_goodx base lim p v 1 vi 1 place most L w hvi rfl (by omega) hW hm hfit hbs hl1 hl2
  have h0 : 0 ≤ vi := by omega
  have h1 : vi < 256 := by omega
  clear hW hvi
  go_enter Tryz.func104, Tryz.ntmps104
  go_wp2_with fail
  refine HF.out.mono ?_
  rintro e w1 ⟨rfl, hr⟩
  have HR : Hid (Wr K base w1 p true place 0 most (L ++ big v 1) ∧ BT lim w w1 p) := hr
  clear hr
  go_wp2
  go_end0
  exact ⟨rfl, HR.out⟩

theorem wFlag_goodx (base lim p : Nat) (b : Bool) (place most : Int) (L : List Nat) (w : World) (hW : Wr K base w p true place 0 most L) (hm : most ≤ 65507) (hfit : ((L.length + 1 : Nat) : Int) ≤ most) (hbs : base ≤ w.heap.size) (hl1 : lim ≤ base) (hl2 : lim ≤ p) :
    Calls Tryz.prog 103 #[.pointer (some ⟨p, 0, none⟩), .bool b] w fun e w' => e = .returned (.tuple #[]) ∧ Wr K base w' p true place 0 most (L ++ big (if b then 1 else 0) 1) ∧ BT lim w w' p := by
  cases b
  · have HF : Hid (Calls Tryz.prog 104 #[.pointer (some ⟨p, 0, none⟩), .int .u8 0] w fun e w' => e = .returned (.tuple #[]) ∧ Wr K base w' p true place 0 most (L ++ big 0 1) ∧ BT lim w w' p) := wU8_goodx base lim p 0 0 place most L w rfl (by omega) hW hm hfit hbs hl1 hl2
    clear hW
    go_enter Tryz.func103, Tryz.ntmps103
    go_wp2_with fail
    refine HF.out.mono ?_
    rintro e w1 ⟨rfl, hr⟩
    have HR : Hid (Wr K base w1 p true place 0 most (L ++ big 0 1) ∧ BT lim w w1 p) := hr
    clear hr
    go_wp2
    go_end0
    exact ⟨rfl, HR.out⟩
  · have HF : Hid (Calls Tryz.prog 104 #[.pointer (some ⟨p, 0, none⟩), .int .u8 1] w fun e w' => e = .returned (.tuple #[]) ∧ Wr K base w' p true place 0 most (L ++ big 1 1) ∧ BT lim w w' p) := wU8_goodx base lim p 1 1 place most L w rfl (by omega) hW hm hfit hbs hl1 hl2
    clear hW
    go_enter Tryz.func103, Tryz.ntmps103
    go_wp2_with fail
    refine HF.out.mono ?_
    rintro e w1 ⟨rfl, hr⟩
    have HR : Hid (Wr K base w1 p true place 0 most (L ++ big 1 1) ∧ BT lim w w1 p) := hr
    clear hr
    go_wp2
    go_end0
    exact ⟨rfl, HR.out⟩

theorem wr_openx {base lim p : Nat} {w : World} {place most : Int} {L : List Nat} (hW : Wr K base w p true place 0 most L) (hm : most ≤ 65507) (hlen : (L.length : Int) ≤ most) (hl1 : lim ≤ base) (hl2 : lim ≤ p) :
    ∃ (ao : Option Addr) (cap : Nat), w.cell? ⟨p, 4, none⟩ = some (.slice ao L.length cap) ∧ Owns base w (.slice ao L.length cap) L ∧
      (∀ sz : Int, sz ≤ most - (L.length : Int) → Calls Tryz.prog 105 #[.pointer (some ⟨p, 0, none⟩), .int .i64 sz, .int .i64 0] w fun e w' => e = .returned (.bool true) ∧ ∃ q, w' = w.drewN q) ∧
      (∀ (w2 : World) (v' : Value) (L' : List Nat), Owns base w2 v' L' → Ext w w2 (.slice ao L.length cap) v' → w2.cell? ⟨p, 4, none⟩ = some (.slice ao L.length cap) ∧ w2.frozen? ⟨p, 4, none⟩ = false ∧ Wr K base (w2.setCell ⟨p, 4, none⟩ v') p true place 0 most L' ∧ BT lim w (w2.setCell ⟨p, 4, none⟩ v') p) := by
  obtain ⟨u, hb, hO, hne⟩ := hW
  obtain ⟨ao, cap, rfl, hS, _⟩ := hO.form
  have c0 := block_cell hb 0
  have c2 := block_cell hb 2
  have c3 := block_cell hb 3
  have c4 := block_cell hb 4
  simp at c0 c2 c3 c4
  refine ⟨ao, cap, c4, hO, fun sz hsz => takes_good p most ao L.length cap sz w c0 c2 c3 c4 hm hlen hsz, fun w2 v' L' ho he => ?_⟩
  obtain ⟨k4, f4⟩ := wr_cell hb hne he
  exact ⟨k4, f4, wr_afterx hb hne (fun g hg => (hO.1.lt g hg).1) he ho hl1 hl2⟩

theorem wNum_goodx (base lim p v : Nat) (vi place most : Int) (L : List Nat) (w : World) (hvi : vi = (v : Int)) (hv : v < 18446744073709551616) (hW : Wr K base w p true place 0 most L) (hm : most ≤ 65507) (hfit : ((L.length + (numB v).length : Nat) : Int) ≤ most) (hbs : base ≤ w.heap.size) (hl1 : lim ≤ base) (hl2 : lim ≤ p) :
    Calls Tryz.prog 100 #[.pointer (some ⟨p, 0, none⟩), .int .u64 vi] w fun e w' => e = .returned (.tuple #[]) ∧ Wr K base w' p true place 0 most (L ++ numB v) ∧ BT lim w w' p := by
  obtain ⟨ao, cap, c4, hO, htk, hfin⟩ := wr_openx hW hm (by omega) hl1 hl2
  have HNS : Hid (Calls Tryz.prog 106 #[.int .u64 vi] w fun e w' => e = .returned (.int .i64 ((numB v).length : Nat)) ∧ w' = w) := numSize_any v vi w hvi hv
  have HTK : Hid (Calls Tryz.prog 105 #[.pointer (some ⟨p, 0, none⟩), .int .i64 ((numB v).length : Nat), .int .i64 0] w fun e w' => e = .returned (.bool true) ∧ ∃ q, w' = w.drewN q) := htk _ (by omega)
  have HAP : Hid (∀ q, Calls Tryz.prog 107 #[.slice ao L.length cap, .int .u64 vi] (w.drewN q) fun e w' => ∃ v', e = .returned v' ∧ Owns base w' v' (L ++ numB v) ∧ Ext (w.drewN q) w' (.slice ao L.length cap) v') :=
    fun q => appendNum_any base _ L v vi (w.drewN q) hvi hv (hO.drew q) (by omega) hbs
  have HFIN := hide hfin
  clear hfin htk hO hW hvi
  generalize (numB v).length = ns at *
  go_enter Tryz.func100, Tryz.ntmps100
  go_wp2_with fail
  refine HNS.out.mono ?_
  rintro e w0 ⟨rfl, rfl⟩
  go_wp2_with fail
  refine HTK.out.mono ?_
  rintro e w1 ⟨rfl, q, rfl⟩
  go_wp2_with fail
  refine (HAP.out q).mono ?_
  rintro e w2 ⟨v', rfl, ho, he⟩
  obtain ⟨k4, f4, hr⟩ := HFIN.out w2 v' _ ho (ext_drew he)
  obtain ⟨a', c', rfl, _, _⟩ := ho.form
  have HR := hide hr
  clear hr ho he HFIN HAP HTK HNS c4
  generalize (L ++ numB v).length = m at *
  go_wp2
  go_end0
  exact ⟨rfl, HR.out⟩

theorem wCount_goodx (base lim p v : Nat) (vi cm place most : Int) (L : List Nat) (w : World) (hvi : vi = (v : Int)) (hv : v < 9223372036854775808) (hcm : vi ≤ cm) (hW : Wr K base w p true place 0 most L) (hm : most ≤ 65507) (hfit : ((L.length + (numB v).length : Nat) : Int) ≤ most) (hbs : base ≤ w.heap.size) (hl1 : lim ≤ base) (hl2 : lim ≤ p) :
    Calls Tryz.prog 101 #[.pointer (some ⟨p, 0, none⟩), .int .i64 vi, .int .i64 cm] w fun e w' => e = .returned (.tuple #[]) ∧ Wr K base w' p true place 0 most (L ++ numB v) ∧ BT lim w w' p := by
  obtain ⟨ao, cap, c4, hO, htk, hfin⟩ := wr_openx hW hm (by omega) hl1 hl2
  have HNS : Hid (Calls Tryz.prog 106 #[.int .u64 vi] w fun e w' => e = .returned (.int .i64 ((numB v).length : Nat)) ∧ w' = w) := numSize_any v vi w hvi (by omega)
  have HCF : Hid (Calls Tryz.prog 77 #[.int .i64 vi, .int .i64 cm] w fun e w' => e = .returned (.int .i64 0) ∧ w' = w) := countFault_good vi cm w (by omega) hcm
  have HTK : Hid (Calls Tryz.prog 105 #[.pointer (some ⟨p, 0, none⟩), .int .i64 ((numB v).length : Nat), .int .i64 0] w fun e w' => e = .returned (.bool true) ∧ ∃ q, w' = w.drewN q) := htk _ (by omega)
  have HAP : Hid (∀ q, Calls Tryz.prog 107 #[.slice ao L.length cap, .int .u64 vi] (w.drewN q) fun e w' => ∃ v', e = .returned v' ∧ Owns base w' v' (L ++ numB v) ∧ Ext (w.drewN q) w' (.slice ao L.length cap) v') :=
    fun q => appendNum_any base _ L v vi (w.drewN q) hvi (by omega) (hO.drew q) (by omega) hbs
  have HFIN := hide hfin
  have h0 : 0 ≤ vi := by omega
  have h1 : vi ≤ 9223372036854775807 := by omega
  clear hfin htk hO hW hvi
  generalize (numB v).length = ns at *
  go_enter Tryz.func101, Tryz.ntmps101
  go_wp2_with fail
  refine HNS.out.mono ?_
  rintro e w0 ⟨rfl, rfl⟩
  go_wp2_with fail
  refine HCF.out.mono ?_
  rintro e w0 ⟨rfl, rfl⟩
  go_wp2_with fail
  refine HTK.out.mono ?_
  rintro e w1 ⟨rfl, q, rfl⟩
  go_wp2_with fail
  refine (HAP.out q).mono ?_
  rintro e w2 ⟨v', rfl, ho, he⟩
  obtain ⟨k4, f4, hr⟩ := HFIN.out w2 v' _ ho (ext_drew he)
  obtain ⟨a', c', rfl, _, _⟩ := ho.form
  have HR := hide hr
  clear hr ho he HFIN HAP HTK HNS HCF c4
  generalize (L ++ numB v).length = m at *
  go_wp2
  go_end0
  exact ⟨rfl, HR.out⟩

theorem wBlob_genx (base lim p : Nat) (bo : Option Addr) (n bcap blim : Nat) (B : List Nat) (cm place most : Int) (L : List Nat) (w : World) (hS : Shows blim w bo n bcap B) (hKP : ∀ (u v' : Value) (w2 : World), w.cell? ⟨p, 4, none⟩ = some u → Ext w w2 u v' → Shows blim w2 bo n bcap B) (hcm : (n : Int) ≤ cm) (hW : Wr K base w p true place 0 most L) (hm : most ≤ 65507) (hfit : ((L.length + (numB n).length + n : Nat) : Int) ≤ most) (hbs : base ≤ w.heap.size) (hl1 : lim ≤ base) (hl2 : lim ≤ p) :
    Calls Tryz.prog 99 #[.pointer (some ⟨p, 0, none⟩), .slice bo n bcap, .int .i64 cm] w fun e w' => e = .returned (.tuple #[]) ∧ Wr K base w' p true place 0 most (L ++ numB n ++ B) ∧ BT lim w w' p := by
  obtain ⟨i0, hi, hz0, hz1, hz2⟩ := info_parts Tryz.info5
  obtain ⟨ao, cap, c4, hO, htk, hfin⟩ := wr_openx hW hm (by omega) hl1 hl2
  have hn47 := hS.2.2.1
  have HNS : Hid (Calls Tryz.prog 106 #[.int .u64 (n : Int)] w fun e w' => e = .returned (.int .i64 ((numB n).length : Nat)) ∧ w' = w) := numSize_any n _ w rfl (by omega)
  have HCF : Hid (Calls Tryz.prog 77 #[.int .i64 (n : Int), .int .i64 cm] w fun e w' => e = .returned (.int .i64 0) ∧ w' = w) := countFault_good n cm w (by omega) hcm
  have HTK : Hid (Calls Tryz.prog 105 #[.pointer (some ⟨p, 0, none⟩), .int .i64 (((numB n).length : Nat) + (n : Int)), .int .i64 0] w fun e w' => e = .returned (.bool true) ∧ ∃ q, w' = w.drewN q) := htk _ (by omega)
  have HAP : Hid (∀ q, Calls Tryz.prog 107 #[.slice ao L.length cap, .int .u64 (n : Int)] (w.drewN q) fun e w' => ∃ v', e = .returned v' ∧ Owns base w' v' (L ++ numB n) ∧ Ext (w.drewN q) w' (.slice ao L.length cap) v') :=
    fun q => appendNum_any base _ L n _ (w.drewN q) rfl (by omega) (hO.drew q) (by omega) hbs
  have HKP : Hid (∀ (w2 : World) (v' : Value), Ext w w2 (.slice ao L.length cap) v' → Shows blim w2 bo n bcap B) := fun w2 v' he => hKP _ v' w2 c4 he
  have HFIN := hide hfin
  have HNB : Hid (n = B.length) := hS.1
  have hnl : (numB n).length ≤ 10 := numTo_len 9 n
  have HBS : Hid (∀ (w2 : World) (v' : Value), Ext w w2 (.slice ao L.length cap) v' → base ≤ w2.heap.size) := fun w2 v' he => Nat.le_trans hbs he.1.size
  clear hfin htk hO hW hS hKP
  generalize hns : (numB n).length = ns at *
  have HNS2 := hide hns
  clear hns
  go_enter Tryz.func99, Tryz.ntmps99
  go_wp2_with fail
  refine HNS.out.mono ?_
  rintro e w0 ⟨rfl, rfl⟩
  go_wp2_with fail
  refine HCF.out.mono ?_
  rintro e w0 ⟨rfl, rfl⟩
  go_wp2_with fail
  refine HTK.out.mono ?_
  rintro e w1 ⟨rfl, q, rfl⟩
  go_wp2_with fail
  refine (HAP.out q).mono ?_
  rintro e w2 ⟨v', rfl, ho, he⟩
  have HE := hide (ext_drew he)
  have HO := hide ho
  obtain ⟨a', c', rfl, hs', _⟩ := ho.form
  have hcap' : (L ++ numB n).length ≤ c' := hs'.2.1
  have HSB := hide (HKP.out w2 _ HE.out)
  have hll : (L ++ numB n).length = L.length + ns := by rw [List.length_append, HNS2.out]
  have HLL := hide hll
  have hbd : (L ++ numB n).length ≤ 100000 := by omega
  clear ho he hs' HAP HTK HNS HCF HKP hll
  generalize hm' : (L ++ numB n).length = m at *
  by_cases hn0 : n = 0
  · obtain rfl : n = 0 := hn0
    have HB0 : Hid (B = []) := List.eq_nil_of_length_eq_zero HNB.out.symm
    obtain ⟨k4, f4, hr⟩ := HFIN.out w2 _ _ HO.out HE.out
    have HR := hide hr
    have HAN := hide (fun wx => append_none_run a' bo m c' bcap hcap' wx)
    clear hr HFIN c4 hm'
    go_wp2_with (first
      | (at_builtin; refine wpList_append_nothing rfl (.tmp 27) (.tmp 28) 31 rfl _ _ rfl rfl (HAN.out _) ?_))
    go_end0
    refine ⟨rfl, ?_⟩
    rw [HB0.out, List.append_nil]
    exact HR.out
  · obtain ⟨hq1, _, _, hBlt, bb, oo, q5, q6, q7⟩ := HSB.out
    clear hq1
    obtain rfl := q5 (by omega)
    have HSRC := hide (vals_cell (B := B) (w := w2) (b := bb) (off := oo) (fun i hi => q7 i (by have := HNB.out; omega)))
    have HBLT := hide hBlt
    have HOW : Hid (w2.ownsRow base 5 1 (.slice a' m c') m (vals (L ++ numB n))) := by
      have h := HO.out.1
      rw [hm'] at h
      exact h
    have HMM := hide hm'
    clear q5 q6 q7 hBlt hm'
    go_wp2_with (first
      | (at_builtin; refine wpList_append_ext _ rfl (.tmp 27) (.tmp 28) 31 rfl base 5 i0 (.int .u8 0) Tryz.underlying31 hi hz0 hz1 hz2 rfl _ m (vals (L ++ numB n)) rfl HOW.out ⟨bb, oo, none⟩ n bcap (vals B) rfl (by rw [vals_len]; exact HNB.out.symm) HSRC.out (vals_one' B) (by omega) (by omega) (HBS.out w2 _ HE.out) ?_; intro v' w3 hown3 hext3; have HO3 : Hid (Owns base w3 v' (L ++ numB n ++ B)) := owns_join HO.out HBLT.out (by rw [HMM.out, ← HNB.out]; omega) (by rw [HMM.out, ← HNB.out]; exact hown3); obtain ⟨k4, f4, hr⟩ := HFIN.out w3 v' _ HO3.out (HE.out.trans hext3); obtain ⟨a3, c3, rfl, _, _⟩ := HO3.out.form; have HR := hide hr; clear hr hown3 hext3))
    go_end0
    refine ⟨rfl, ?_⟩
    rw [show L.length + ((numB n).length + B.length) = (L ++ numB n ++ B).length by simp]
    exact HR.out

end Go.Proofs.YtldhafpeigdloaaGreatDoor
