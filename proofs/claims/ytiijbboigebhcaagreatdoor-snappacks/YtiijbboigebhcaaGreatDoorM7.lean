import Derived.Test.YtiijbboigebhcaaGreatDoorM4
import Derived.Lib.DecodeN
import Derived.Lib.RuneCountTail
import Derived.Test.YtiijbboigebhcaaGreatDoorM2
import Derived.Test.YtiijbboigebhcaaGreatDoorPRefBlob
import Derived.Test.YtiijbboigebhcaaGreatDoorM5
namespace Go.Proofs.YtiijbboigebhcaaGreatDoor
open Go.RowKit Crc

/-! UTF-8, as the reference goes through it: how many bytes the rune at the head has; 0: there is none. -/
def utfV (v0 : Nat) (b : Nat → Nat) : Nat → Nat
  | 0 => v0
  | j + 1 => utfV v0 b j * 64 + b (j + 1) - 128
def utfC (b : Nat → Nat) : Nat → Bool
  | 0 => true
  | j + 1 => utfC b j && (decide (128 ≤ b (j + 1)) && decide (b (j + 1) < 192))
def utfBad (v least : Nat) : Prop := v < least ∨ 1114111 < v ∨ (55296 ≤ v ∧ v < 57344)
instance (v least : Nat) : Decidable (utfBad v least) := by unfold utfBad; exact inferInstance
def utfK (n k v0 least : Nat) (b : Nat → Nat) : Nat := if n ≤ k then 0 else if utfC b k = true then (if utfBad (utfV v0 b k) least then 0 else k + 1) else 0
def utfN (n : Nat) (b : Nat → Nat) : Nat :=
  if b 0 < 128 then 1 else if 192 ≤ b 0 ∧ b 0 < 224 then utfK n 1 (b 0 - 192) 128 b else if 224 ≤ b 0 ∧ b 0 < 240 then utfK n 2 (b 0 - 224) 2048 b else if 240 ≤ b 0 ∧ b 0 < 248 then utfK n 3 (b 0 - 240) 65536 b else 0

/-- The replacement's own three bytes. -/
def utfFFFD (n b0 b1 b2 : Nat) : Prop := 3 ≤ n ∧ b0 = 239 ∧ b1 = 191 ∧ b2 = 189
/-- What the model's decode tells, against that. -/
def utfTie (n x b0 b1 b2 : Nat) (d : Nat × Nat) : Prop := (x = 0 → d = (65533, 1) ∧ ¬ utfFFFD n b0 b1 b2) ∧ (x ≠ 0 → d.2 = x ∧ (d.1 = 65533 → utfFFFD n b0 b1 b2))

theorem utfTie_bad {n b0 b1 b2 : Nat} {d : Nat × Nat} (h : d = (65533, 1)) (hf : ¬ utfFFFD n b0 b1 b2) : utfTie n 0 b0 b1 b2 d := ⟨fun _ => ⟨h, hf⟩, fun h => absurd rfl h⟩
theorem utfTie_good {n b0 b1 b2 x v : Nat} {d : Nat × Nat} (hx : x ≠ 0) (h : d = (v, x)) (hf : v = 65533 → utfFFFD n b0 b1 b2) : utfTie n x b0 b1 b2 d := ⟨fun h0 => absurd h0 hx, fun _ => by rw [h]; exact ⟨rfl, hf⟩⟩

theorem utf_tie1 (n b0 b1 b2 b3 : Nat) (hc : b0 < 128) : utfTie n 1 b0 b1 b2 (Lib.decodeN n b0 b1 b2 b3) := by
  refine utfTie_good (v := b0) (by decide) ?_ (fun h => by omega)
  unfold Lib.decodeN
  rw [if_pos hc]

set_option maxRecDepth 100000 in
set_option maxHeartbeats 4000000 in
theorem utf_tie2 (n b0 b1 b2 b3 x V : Nat) (cc : Bool) (h1 : b1 < 256) (hc : 192 ≤ b0 ∧ b0 < 224) (hcc : cc = true ↔ 128 ≤ b1 ∧ b1 < 192) (hV : V = (b0 - 192) * 64 + b1 - 128)
    (hx : x = if n ≤ 1 then 0 else if cc = true then (if utfBad V 128 then 0 else 2) else 0) : utfTie n x b0 b1 b2 (Lib.decodeN n b0 b1 b2 b3) := by
  by_cases hn : n ≤ 1
  · rewrite [if_pos hn] at hx
    rewrite [hx]
    refine utfTie_bad ?_ (by unfold utfFFFD; omega)
    unfold Lib.decodeN
    repeat' split
    all_goals first | rfl | (exfalso; omega)
  · rewrite [if_neg hn] at hx
    by_cases h : cc = true
    · rewrite [if_pos h] at hx
      have h' := hcc.1 h
      by_cases hbad : utfBad V 128
      · rewrite [if_pos hbad] at hx
        unfold utfBad at hbad
        rewrite [hx]
        refine utfTie_bad ?_ (by unfold utfFFFD; omega)
        unfold Lib.decodeN
        repeat' split
        all_goals first | rfl | (exfalso; omega)
      · rewrite [if_neg hbad] at hx
        unfold utfBad at hbad
        rewrite [hx]
        refine utfTie_good (v := b0 % 32 * 64 + b1 % 64) (by decide) ?_ (fun h => by omega)
        unfold Lib.decodeN
        repeat' split
        all_goals first | rfl | (exfalso; omega)
    · rewrite [if_neg h] at hx
      have h' : ¬ (128 ≤ b1 ∧ b1 < 192) := fun h2 => h (hcc.2 h2)
      rewrite [hx]
      refine utfTie_bad ?_ (by unfold utfFFFD; omega)
      unfold Lib.decodeN
      repeat' split
      all_goals first | rfl | (exfalso; omega)

set_option maxRecDepth 100000 in
set_option maxHeartbeats 4000000 in
theorem utf_tie3 (n b0 b1 b2 b3 x V : Nat) (cc : Bool) (h1 : b1 < 256) (h2 : b2 < 256) (hc : 224 ≤ b0 ∧ b0 < 240) (hcc : cc = true ↔ (128 ≤ b1 ∧ b1 < 192) ∧ (128 ≤ b2 ∧ b2 < 192)) (hV : V = ((b0 - 224) * 64 + b1 - 128) * 64 + b2 - 128)
    (hx : x = if n ≤ 2 then 0 else if cc = true then (if utfBad V 2048 then 0 else 3) else 0) : utfTie n x b0 b1 b2 (Lib.decodeN n b0 b1 b2 b3) := by
  by_cases hn : n ≤ 2
  · rewrite [if_pos hn] at hx
    rewrite [hx]
    refine utfTie_bad ?_ (by unfold utfFFFD; omega)
    unfold Lib.decodeN
    repeat' split
    all_goals first | rfl | (exfalso; omega)
  · rewrite [if_neg hn] at hx
    by_cases h : cc = true
    · rewrite [if_pos h] at hx
      have h' := hcc.1 h
      by_cases hbad : utfBad V 2048
      · rewrite [if_pos hbad] at hx
        unfold utfBad at hbad
        rewrite [hx]
        refine utfTie_bad ?_ (by unfold utfFFFD; omega)
        unfold Lib.decodeN
        repeat' split
        all_goals first | rfl | (exfalso; omega)
      · rewrite [if_neg hbad] at hx
        unfold utfBad at hbad
        rewrite [hx]
        refine utfTie_good (v := b0 % 16 * 4096 + b1 % 64 * 64 + b2 % 64) (by decide) ?_ (fun h => by unfold utfFFFD; omega)
        unfold Lib.decodeN
        repeat' split
        all_goals first | rfl | (exfalso; omega)
    · rewrite [if_neg h] at hx
      have h' : ¬ ((128 ≤ b1 ∧ b1 < 192) ∧ (128 ≤ b2 ∧ b2 < 192)) := fun h2 => h (hcc.2 h2)
      rewrite [hx]
      refine utfTie_bad ?_ (by unfold utfFFFD; omega)
      unfold Lib.decodeN
      repeat' split
      all_goals first | rfl | (exfalso; omega)

set_option maxRecDepth 100000 in
set_option maxHeartbeats 4000000 in
theorem utf_tie4 (n b0 b1 b2 b3 x V : Nat) (cc : Bool) (h1 : b1 < 256) (h2 : b2 < 256) (h3 : b3 < 256) (hc : 240 ≤ b0 ∧ b0 < 248) (hcc : cc = true ↔ ((128 ≤ b1 ∧ b1 < 192) ∧ (128 ≤ b2 ∧ b2 < 192)) ∧ (128 ≤ b3 ∧ b3 < 192)) (hV : V = (((b0 - 240) * 64 + b1 - 128) * 64 + b2 - 128) * 64 + b3 - 128)
    (hx : x = if n ≤ 3 then 0 else if cc = true then (if utfBad V 65536 then 0 else 4) else 0) : utfTie n x b0 b1 b2 (Lib.decodeN n b0 b1 b2 b3) := by
  by_cases hn : n ≤ 3
  · rewrite [if_pos hn] at hx
    rewrite [hx]
    refine utfTie_bad ?_ (by unfold utfFFFD; omega)
    unfold Lib.decodeN
    repeat' split
    all_goals first | rfl | (exfalso; omega)
  · rewrite [if_neg hn] at hx
    by_cases h : cc = true
    · rewrite [if_pos h] at hx
      have h' := hcc.1 h
      by_cases hbad : utfBad V 65536
      · rewrite [if_pos hbad] at hx
        unfold utfBad at hbad
        rewrite [hx]
        refine utfTie_bad ?_ (by unfold utfFFFD; omega)
        unfold Lib.decodeN
        repeat' split
        all_goals first | rfl | (exfalso; omega)
      · rewrite [if_neg hbad] at hx
        unfold utfBad at hbad
        rewrite [hx]
        refine utfTie_good (v := b0 % 8 * 262144 + b1 % 64 * 4096 + b2 % 64 * 64 + b3 % 64) (by decide) ?_ (fun h => by omega)
        unfold Lib.decodeN
        repeat' split
        all_goals first | rfl | (exfalso; omega)
    · rewrite [if_neg h] at hx
      have h' : ¬ (((128 ≤ b1 ∧ b1 < 192) ∧ (128 ≤ b2 ∧ b2 < 192)) ∧ (128 ≤ b3 ∧ b3 < 192)) := fun h2 => h (hcc.2 h2)
      rewrite [hx]
      refine utfTie_bad ?_ (by unfold utfFFFD; omega)
      unfold Lib.decodeN
      repeat' split
      all_goals first | rfl | (exfalso; omega)

theorem utfC1 (b : Nat → Nat) : utfC b 1 = true ↔ 128 ≤ b 1 ∧ b 1 < 192 := by simp [utfC]
theorem utfC2 (b : Nat → Nat) : utfC b 2 = true ↔ (128 ≤ b 1 ∧ b 1 < 192) ∧ (128 ≤ b 2 ∧ b 2 < 192) := by simp [utfC]
theorem utfC3 (b : Nat → Nat) : utfC b 3 = true ↔ ((128 ≤ b 1 ∧ b 1 < 192) ∧ (128 ≤ b 2 ∧ b 2 < 192)) ∧ (128 ≤ b 3 ∧ b 3 < 192) := by simp [utfC]
theorem utfN1 {n : Nat} {b : Nat → Nat} (c1 : b 0 < 128) : utfN n b = 1 := by unfold utfN; rw [if_pos c1]
theorem utfN2 {n : Nat} {b : Nat → Nat} (c2 : 192 ≤ b 0 ∧ b 0 < 224) : utfN n b = utfK n 1 (b 0 - 192) 128 b := by unfold utfN; rw [if_neg (by omega), if_pos c2]
theorem utfN3 {n : Nat} {b : Nat → Nat} (c3 : 224 ≤ b 0 ∧ b 0 < 240) : utfN n b = utfK n 2 (b 0 - 224) 2048 b := by unfold utfN; rw [if_neg (by omega), if_neg (by omega), if_pos c3]
theorem utfN4 {n : Nat} {b : Nat → Nat} (c4 : 240 ≤ b 0 ∧ b 0 < 248) : utfN n b = utfK n 3 (b 0 - 240) 65536 b := by unfold utfN; rw [if_neg (by omega), if_neg (by omega), if_neg (by omega), if_pos c4]
theorem utfN0 {n : Nat} {b : Nat → Nat} (c1 : ¬ b 0 < 128) (c2 : ¬ (192 ≤ b 0 ∧ b 0 < 248)) : utfN n b = 0 := by unfold utfN; rw [if_neg c1, if_neg (by omega), if_neg (by omega), if_neg (by omega)]
theorem utfK_eq (n k v0 least : Nat) (b : Nat → Nat) : utfK n k v0 least b = if n ≤ k then 0 else if utfC b k = true then (if utfBad (utfV v0 b k) least then 0 else k + 1) else 0 := rfl
theorem utfV1 (v0 : Nat) (b : Nat → Nat) : utfV v0 b 1 = v0 * 64 + b 1 - 128 := rfl
theorem utfV2 (v0 : Nat) (b : Nat → Nat) : utfV v0 b 2 = (v0 * 64 + b 1 - 128) * 64 + b 2 - 128 := rfl
theorem utfV3 (v0 : Nat) (b : Nat → Nat) : utfV v0 b 3 = ((v0 * 64 + b 1 - 128) * 64 + b 2 - 128) * 64 + b 3 - 128 := rfl

theorem utf_tie (n : Nat) (b : Nat → Nat) (hb : ∀ j, b j < 256) : utfTie n (utfN n b) (b 0) (b 1) (b 2) (Lib.decodeN n (b 0) (b 1) (b 2) (b 3)) := by
  by_cases c1 : b 0 < 128
  · rewrite [utfN1 c1]
    exact utf_tie1 n (b 0) (b 1) (b 2) (b 3) c1
  · by_cases c2 : 192 ≤ b 0 ∧ b 0 < 224
    · exact utf_tie2 n (b 0) (b 1) (b 2) (b 3) (utfN n b) _ _ (hb 1) c2 (utfC1 b) (utfV1 _ _) ((utfN2 c2).trans (utfK_eq _ _ _ _ _))
    · by_cases c3 : 224 ≤ b 0 ∧ b 0 < 240
      · exact utf_tie3 n (b 0) (b 1) (b 2) (b 3) (utfN n b) _ _ (hb 1) (hb 2) c3 (utfC2 b) (utfV2 _ _) ((utfN3 c3).trans (utfK_eq _ _ _ _ _))
      · by_cases c4 : 240 ≤ b 0 ∧ b 0 < 248
        · exact utf_tie4 n (b 0) (b 1) (b 2) (b 3) (utfN n b) _ _ (hb 1) (hb 2) (hb 3) c4 (utfC3 b) (utfV3 _ _) ((utfN4 c4).trans (utfK_eq _ _ _ _ _))
        · have h0 := hb 0
          rewrite [utfN0 c1 (by omega)]
          refine utfTie_bad ?_ (by unfold utfFFFD; omega)
          unfold Lib.decodeN
          repeat' split
          all_goals first | rfl | (exfalso; omega)

/-- The bytes of a text from a place on. -/
def utfB (s : ByteArray) (i : Nat) : Nat → Nat := fun j => (s.get! (i + j)).toNat
def utfW (s : ByteArray) (i : Nat) : Nat := utfN (s.size - i) (utfB s i)
theorem utfB_lt (s : ByteArray) (i j : Nat) : utfB s i j < 256 := (s.get! (i + j)).toNat_lt
theorem utfW_tie (s : ByteArray) (i : Nat) : utfTie (s.size - i) (utfW s i) (utfB s i 0) (utfB s i 1) (utfB s i 2) (Utf8.decode s i) := by
  rewrite [Lib.decode_at]
  exact utf_tie (s.size - i) (utfB s i) (utfB_lt s i)
/-- Is the text UTF-8 from a place on? -/
def utfOk (s : ByteArray) : Nat → Nat → Bool
  | 0, _ => true
  | f + 1, i => if i < s.size then (if utfW s i = 0 then false else utfOk s f (i + utfW s i)) else true
def utf8Ok (s : ByteArray) : Bool := utfOk s s.size 0
/-- The state of a walk: behind so many bytes the answer is still open. -/
def UtfAt (s : ByteArray) (i : Nat) : Prop := ∃ f, s.size - i ≤ f ∧ utfOk s f i = utf8Ok s
theorem UtfAt.start (s : ByteArray) : UtfAt s 0 := ⟨s.size, by omega, rfl⟩
theorem UtfAt.done {s : ByteArray} {i : Nat} (h : UtfAt s i) (hi : ¬ i < s.size) : utf8Ok s = true := by
  obtain ⟨f, _, h⟩ := h
  rw [← h]
  cases f with
  | zero => rfl
  | succ f => rw [utfOk, if_neg hi]
theorem UtfAt.bad {s : ByteArray} {i : Nat} (h : UtfAt s i) (hi : i < s.size) (hw : utfW s i = 0) : utf8Ok s = false := by
  obtain ⟨f, hf, h⟩ := h
  rw [← h]
  cases f with
  | zero => omega
  | succ f => rw [utfOk, if_pos hi, if_pos hw]
theorem UtfAt.next {s : ByteArray} {i : Nat} (h : UtfAt s i) (hi : i < s.size) (hw : utfW s i ≠ 0) : UtfAt s (i + utfW s i) := by
  obtain ⟨f, hf, h⟩ := h
  cases f with
  | zero => omega
  | succ f =>
    rw [utfOk, if_pos hi, if_neg hw] at h
    exact ⟨f, by omega, h⟩
end Go.Proofs.YtiijbboigebhcaaGreatDoor
namespace Go.Proofs.YtiijbboigebhcaaGreatDoor
open Go.RowKit Crc

theorem head3 (t : ByteArray) (h : 3 ≤ t.size) : (t.extract 0 3).toList = [t.get! 0, t.get! 1, t.get! 2] := by
  rw [ByteArray.toList_eq]
  obtain ⟨⟨l⟩⟩ := t
  match l, h with
  | a :: b :: c :: r, _ => simp [ByteArray.data_extract, ByteArray.get!]
theorem u8_lit (x : UInt8) (n : Nat) (hn : n < 256) : x.toNat = n ↔ x = UInt8.ofNat n := by
  constructor
  · intro h; rw [← h]; simp
  · intro h; rw [h]; simp; omega

end Go.Proofs.YtiijbboigebhcaaGreatDoor
namespace Go.Proofs.YtiijbboigebhcaaGreatDoor
open Go.RowKit Crc

theorem wr64_nat {n : Nat} (h : n < 9223372036854775808) : wrap64 (n : Int) = (n : Int) := by
  unfold wrap64
  omega
theorem utfC_succ (b : Nat → Nat) (j : Nat) : utfC b (j + 1) = true ↔ utfC b j = true ∧ 128 ≤ b (j + 1) ∧ b (j + 1) < 192 := by simp [utfC]
theorem utfC_mono (b : Nat → Nat) : ∀ {k j : Nat}, utfC b k = true → j ≤ k → utfC b j = true
  | 0, j, h, hj => by obtain rfl : j = 0 := by omega
                      exact h
  | k + 1, j, h, hj => by
    by_cases e : j = k + 1
    · subst e; exact h
    · exact utfC_mono b ((utfC_succ b k).1 h).1 (by omega)
theorem utfB_at (s : ByteArray) (pos j : Nat) (h : pos + j < s.size) : (s[pos + j]'h).toNat = utfB s pos j := by
  unfold utfB
  have e : s.get! (pos + j) = s[pos + j]'h := by
    simp [ByteArray.get!, getElem!_pos, h]
    rfl
  rw [e]
theorem utfK_short {n k v0 least : Nat} {b : Nat → Nat} (h : n ≤ k) : utfK n k v0 least b = 0 := by rw [utfK_eq, if_pos h]
theorem utfK_cont {n k v0 least : Nat} {b : Nat → Nat} (h : ¬ utfC b k = true) : utfK n k v0 least b = 0 := by
  rw [utfK_eq, if_neg h]
  split <;> rfl
theorem utfK_bad {n k v0 least : Nat} {b : Nat → Nat} (h : utfBad (utfV v0 b k) least) : utfK n k v0 least b = 0 := by
  rw [utfK_eq, if_pos h]
  split
  · rfl
  · split <;> rfl
theorem utfK_good {n k v0 least : Nat} {b : Nat → Nat} (h1 : ¬ n ≤ k) (h2 : utfC b k = true) (h3 : ¬ utfBad (utfV v0 b k) least) : utfK n k v0 least b = k + 1 := by rw [utfK_eq, if_neg h1, if_pos h2, if_neg h3]

end Go.Proofs.YtiijbboigebhcaaGreatDoor
namespace Go.Proofs.YtiijbboigebhcaaGreatDoor
open Go.RowKit Crc

theorem strOf_size (L : List Nat) : (strOf L).size = L.length := by
  have h := foldl_push (L.map (fun (x : Nat) => (x : Int))) ByteArray.empty
  have h2 : (strOf L).data.toList.length = L.length := by
    unfold strOf
    rw [h]
    simp
  rw [Array.length_toList] at h2
  exact h2
theorem strOf_nil : strOf [] = ByteArray.empty := rfl
/-- A step that is taken back. -/
theorem RS.step_twice {s : RS} (hs : s.sound) (z z' : Nat) {y : Int} (hy : y ≠ 0) : { s.step z 0 with why := y, place := (s.pos : Int), pos := s.pos } = s.step z' y := RS.step_back hs z z' hy

end Go.Proofs.YtiijbboigebhcaaGreatDoor
namespace Go.Proofs.YtiijbboigebhcaaGreatDoor
open Go.RowKit Crc

/-- Both readers, in one state. -/
structure Pair (base limr d pv : Nat) (po : Option Addr) (w : World) (s : RS) : Prop where
  prog : RdP limr w po s
  ref : RefS d w pv s
  place : s.sound → s.place = 0
  plain : s.made = false → s.B.length = s.pos
  lim : limr ≤ pv
  nepv : rowP po ≠ some pv
  ned : rowP po ≠ some d
  bpo : ∀ g, rowP po = some g → base ≤ g ∧ g < w.heap.size
  bpv : base ≤ pv
  dlt : d < w.heap.size
  len : s.B.length ≤ 140737488351232
def Keep (base : Nat) (w w' : World) : Prop := ∀ W, Below base W w → Below base W w'
/-- What a step leaves. -/
def Res (base limr d pv : Nat) (po : Option Addr) (w w' : World) : Prop := (∃ s', Pair base limr d pv po w' s') ∧ Keep base w w'
theorem Keep.trans {base : Nat} {a b c : World} (h : Keep base a b) (k : Keep base b c) : Keep base a c := fun W hW => k W (h W hW)
theorem Pair.pvlt {base limr d pv : Nat} {po : Option Addr} {w : World} {s : RS} (h : Pair base limr d pv po w s) : pv < w.heap.size := refS_size h.ref
theorem Pair.base_le {base limr d pv : Nat} {po : Option Addr} {w : World} {s : RS} (h : Pair base limr d pv po w s) : base ≤ w.heap.size := by have h1 := h.bpv; have h2 := h.pvlt; omega
/-- Only new blocks were written. -/
theorem Pair.quiet {base limr d pv : Nat} {po : Option Addr} {w w' : World} {s : RS} {row : Option Nat} (h : Pair base limr d pv po w s) (hg : w.grownBy w' row) (hr : ∀ g, row = some g → w.heap.size ≤ g) : Pair base limr d pv po w' s ∧ Keep base w w' := by
  have h1 := h.pvlt
  have h2 := h.lim
  have h3 := h.dlt
  refine ⟨⟨h.prog.kept hg (fun g hg' => ⟨by have := hr g hg'; omega, fun e => ?_⟩), h.ref.kept hg (fun e => ?_) (fun e => ?_), h.place, h.plain, h.lim, h.nepv, h.ned, fun g e => ⟨(h.bpo g e).1, Nat.lt_of_lt_of_le (h.bpo g e).2 hg.size⟩, h.bpv, Nat.lt_of_lt_of_le h3 hg.size, h.len⟩, fun W hW => hW.grown hg h.base_le (fun k hk => Nat.le_trans h.base_le (hr k hk))⟩
  · have := (h.bpo g e).2; have := hr g hg'; omega
  · have := hr pv e; omega
  · have := hr d e; omega
theorem RS.step_place {s : RS} (h : s.sound → s.place = 0) (z : Nat) (y : Int) : (s.step z y).sound → (s.step z y).place = 0 := by
  intro hs
  by_cases h0 : s.sound
  · by_cases hy : y = 0
    · subst hy
      rw [RS.step_ok h0]
      exact h h0
    · exact absurd hs (RS.unsound z hy)
  · rw [RS.step_not h0] at hs ⊢
    exact h hs
theorem RS.step_plain {s : RS} (h : s.made = false → s.B.length = s.pos) (z : Nat) (y : Int) : (s.step z y).made = false → (s.step z y).B.length = (s.step z y).pos := by
  by_cases h0 : s.sound
  · intro hm
    have : (s.step z y).made = s.made := by unfold RS.step; split <;> (try split) <;> rfl
    rw [this, h0.1] at hm
    cases hm
  · rw [RS.step_not h0]
    exact h
/-- Both went on. -/
theorem Pair.next {base limr d pv : Nat} {po : Option Addr} {w w1 w2 : World} {s : RS} {z : Nat} {y : Int} (h : Pair base limr d pv po w s) (hp : RdP limr w1 po (s.step z y)) (hg1 : w.grownBy w1 (rowP po)) (hr : RefS d w2 pv (s.step z y)) (hg2 : w1.grownBy w2 (some pv)) : Res base limr d pv po w w2 := by
  refine ⟨⟨s.step z y, ⟨hp.kept hg2 (fun g e => by cases e; exact ⟨h.lim, h.nepv⟩), hr, RS.step_place h.place z y, RS.step_plain h.plain z y, h.lim, h.nepv, h.ned, fun g e => ⟨(h.bpo g e).1, Nat.lt_of_lt_of_le (h.bpo g e).2 (Nat.le_trans hg1.size hg2.size)⟩, h.bpv, Nat.lt_of_lt_of_le h.dlt (Nat.le_trans hg1.size hg2.size), by rw [RS.step_B]; exact h.len⟩⟩, ?_⟩
  intro W hW
  exact (hW.grown hg1 h.base_le (fun k hk => (h.bpo k hk).1)).grown hg2 (Nat.le_trans h.base_le hg1.size) (fun k hk => by cases hk; exact h.bpv)
/-- A block was written that was new to an earlier state. -/
theorem Pair.wrote {base limr d pv : Nat} {po : Option Addr} {w0 w w' : World} {s0 s : RS} {row : Option Nat} (h0 : Pair base limr d pv po w0 s0) (h : Pair base limr d pv po w s) (hg : w.grownBy w' row) (hr : ∀ g, row = some g → w0.heap.size ≤ g) : Pair base limr d pv po w' s ∧ Keep base w w' := by
  have h1 := h0.pvlt
  have h2 := h0.lim
  have h3 := h0.dlt
  refine ⟨⟨h.prog.kept hg (fun g hg' => ⟨by have := hr g hg'; omega, fun e => ?_⟩), h.ref.kept hg (fun e => ?_) (fun e => ?_), h.place, h.plain, h.lim, h.nepv, h.ned, fun g e => ⟨(h.bpo g e).1, Nat.lt_of_lt_of_le (h.bpo g e).2 hg.size⟩, h.bpv, Nat.lt_of_lt_of_le h.dlt hg.size, h.len⟩, fun W hW => hW.grown hg h.base_le (fun k hk => Nat.le_trans h0.base_le (hr k hk))⟩
  · have := (h0.bpo g e).2; have := hr g hg'; omega
  · have := hr pv e; omega
  · have := hr d e; omega
/-- The reference's reader behind the program's step. -/
theorem Pair.refAt {base limr d pv : Nat} {po : Option Addr} {w w1 : World} {s : RS} (h : Pair base limr d pv po w s) (hg1 : w.grownBy w1 (rowP po)) : RefS d w1 pv s := h.ref.kept hg1 h.nepv h.ned

end Go.Proofs.YtiijbboigebhcaaGreatDoor
namespace Go.Proofs.YtiijbboigebhcaaGreatDoor
open Go.RowKit Crc

/-- What a reader tells, and the reader behind that: a number, a byte, a count, bytes. -/
def nV (s : RS) : Nat := (numAt s.rest).1
def nS (s : RS) : RS := s.step (numAt s.rest).2.1 (numAt s.rest).2.2
def oV (s : RS) : Nat := hi (aheadV s.rest 1)
def oS (s : RS) : RS := s.step 1 (aheadW s.rest 1)
def cV (s : RS) (m : Int) : Nat := (countAt s.rest m).1
def cS (s : RS) (m : Int) : RS := s.step (countAt s.rest m).2.1 (countAt s.rest m).2.2
def bV (s : RS) (m : Int) : List Nat := (blobAt s.rest m).1
def bS (s : RS) (m : Int) : RS := s.step (blobAt s.rest m).2.1 (blobAt s.rest m).2.2
/-- A sound reader has no place. -/
def RS.Pl (s : RS) : Prop := s.sound → s.place = 0
theorem pl_n {s : RS} (h : s.Pl) : (nS s).Pl := RS.step_place h _ _
theorem pl_o {s : RS} (h : s.Pl) : (oS s).Pl := RS.step_place h _ _
theorem pl_c {s : RS} (h : s.Pl) (m : Int) : (cS s m).Pl := RS.step_place h _ _
theorem pl_b {s : RS} (h : s.Pl) (m : Int) : (bS s m).Pl := RS.step_place h _ _

/-- An account, a hold, a line, a deal: their values; a session as it lies. -/
structure Ac where
  (a b c d : Nat)
structure Ho where
  (a b c : Nat)
structure En where
  (a : Nat) (k : Int) (b c d : Nat)
structure De where
  (a b c d e f g : Nat) (ph : Int) (p q r z : Nat) (t : ByteArray)
structure Sn where
  (cl sq st : Nat) (cd : Int) (co : Option Addr) (cn cc : Nat) (D : List Nat)
def Ac.cells (x : Ac) : List Value := [.int .u64 (x.a : Int), .int .u64 (x.b : Int), .int .u64 (x.c : Int), .int .u64 (x.d : Int)]
def Ho.cells (x : Ho) : List Value := [.int .u64 (x.a : Int), .int .u64 (x.b : Int), .int .u64 (x.c : Int)]
def En.cells (x : En) : List Value := [.int .u64 (x.a : Int), .int .i64 x.k, .int .u64 (x.b : Int), .int .u64 (x.c : Int), .int .u64 (x.d : Int)]
def De.cells (x : De) : List Value := [.int .u64 (x.a : Int), .int .u64 (x.b : Int), .int .u64 (x.c : Int), .int .u64 (x.d : Int), .int .u64 (x.e : Int), .int .u64 (x.f : Int), .int .u64 (x.g : Int), .int .i64 x.ph, .int .u64 (x.p : Int), .int .u64 (x.q : Int), .int .u64 (x.r : Int), .int .u64 (x.z : Int), .string x.t]
def Sn.cells (x : Sn) : List Value := [.int .u64 (x.cl : Int), .int .u64 (x.sq : Int), .int .u64 (x.st : Int), .int .i64 x.cd, .slice x.co x.cn x.cc]
def Sn.sl (x : Sn) : Value := .slice x.co x.cn x.cc
def Sn.val (x : Sn) : Nat × Nat × Nat × Int × List Nat := (x.cl, x.sq, x.st, x.cd, x.D)

def rdAc (s : RS) : Ac × RS := (⟨nV s, nV (nS s), nV (nS (nS s)), nV (nS (nS (nS s)))⟩, nS (nS (nS (nS s))))
def rdHo (s : RS) : Ho × RS := (⟨nV s, nV (nS s), nV (nS (nS s))⟩, nS (nS (nS s)))
def rdEn (s : RS) : En × RS := (⟨nV s, (oV (nS s) : Int), nV (oS (nS s)), nV (nS (oS (nS s))), nV (nS (nS (oS (nS s))))⟩, nS (nS (nS (oS (nS s)))))
def n7 (s : RS) : RS := nS (nS (nS (nS (nS (nS (nS s))))))
def rdDe (s : RS) : De × RS :=
  (⟨nV s, nV (nS s), nV (nS (nS s)), nV (nS (nS (nS s))), nV (nS (nS (nS (nS s)))), nV (nS (nS (nS (nS (nS s))))), nV (nS (nS (nS (nS (nS (nS s)))))), (oV (n7 s) : Int),
    nV (oS (n7 s)), nV (nS (oS (n7 s))), nV (nS (nS (oS (n7 s)))), nV (nS (nS (nS (oS (n7 s))))), strOf (bV (nS (nS (nS (nS (oS (n7 s)))))) 512)⟩, bS (nS (nS (nS (nS (oS (n7 s)))))) 512)
/-- A session's numbers; its code as it was read. -/
def rdSn (s : RS) : (Nat × Nat × Nat × Nat × List Nat) × RS := ((nV s, nV (nS s), nV (nS (nS s)), nV (nS (nS (nS s))), bV (nS (nS (nS (nS s)))) 256), bS (nS (nS (nS (nS s)))) 256)
/-- So many, one behind the other. -/
def rdL {α : Type} (f : RS → α × RS) (s : RS) : Nat → List α × RS
  | 0 => ([], s)
  | n + 1 => ((rdL f s n).1 ++ [(f (rdL f s n).2).1], (f (rdL f s n).2).2)
theorem rdL_len {α : Type} (f : RS → α × RS) (s : RS) : ∀ n, (rdL f s n).1.length = n
  | 0 => rfl
  | n + 1 => by simp [rdL, rdL_len f s n]
def rdC {α : Type} (f : RS → α × RS) (m : Int) (s : RS) : List α × RS := rdL f (cS s m) (cV s m)
theorem pl_L {α : Type} {f : RS → α × RS} (hf : ∀ s : RS, s.Pl → (f s).2.Pl) {s : RS} (h : s.Pl) : ∀ n, (rdL f s n).2.Pl
  | 0 => h
  | n + 1 => hf _ (pl_L hf h n)
theorem pl_Ac (s : RS) (h : s.Pl) : (rdAc s).2.Pl := pl_n (pl_n (pl_n (pl_n h)))
theorem pl_Ho (s : RS) (h : s.Pl) : (rdHo s).2.Pl := pl_n (pl_n (pl_n h))
theorem pl_En (s : RS) (h : s.Pl) : (rdEn s).2.Pl := pl_n (pl_n (pl_n (pl_o (pl_n h))))
theorem pl_7 (s : RS) (h : s.Pl) : (n7 s).Pl := pl_n (pl_n (pl_n (pl_n (pl_n (pl_n (pl_n h))))))
theorem pl_De (s : RS) (h : s.Pl) : (rdDe s).2.Pl := pl_b (pl_n (pl_n (pl_n (pl_n (pl_o (pl_7 s h)))))) 512
theorem pl_Sn (s : RS) (h : s.Pl) : (rdSn s).2.Pl := pl_b (pl_n (pl_n (pl_n (pl_n h)))) 256
theorem pl_C {α : Type} {f : RS → α × RS} (hf : ∀ s : RS, s.Pl → (f s).2.Pl) (m : Int) {s : RS} (h : s.Pl) : (rdC f m s).2.Pl := pl_L hf (pl_c h m) _
theorem cV_le (s : RS) (m : Nat) : cV s m ≤ m := by
  have h := countAt_ok s.rest (m : Int)
  unfold cV
  by_cases hz : (countAt s.rest m).2.2 = 0
  · have := h.2.2.1 hz (by omega); omega
  · have := (h.2.2.2.2 hz).1; omega

/-- Rows of elements: their cells, one behind the other. -/
def flat {α : Type} (f : α → List Value) (L : List α) : List Value := (L.map f).flatten
theorem flat_snoc {α : Type} (f : α → List Value) (L : List α) (x : α) : flat f (L ++ [x]) = flat f L ++ f x := by simp [flat]
theorem flat_get {α : Type} {f : α → List Value} {z : Nat} (hf : ∀ x, (f x).length = z) : ∀ (L : List α) (i : Nat) (x : α), L[i]? = some x → ∀ j u, (f x)[j]? = some u → (flat f L)[i * z + j]? = some u
  | [], i, x, h => by simp at h
  | y :: r, 0, x, h => fun j u hj => by
    simp at h; subst h
    have hl := (List.getElem?_eq_some_iff.1 hj).1
    simp only [flat, List.map_cons, List.flatten_cons, Nat.zero_mul, Nat.zero_add]
    rw [List.getElem?_append_left hl]; exact hj
  | y :: r, i + 1, x, h => fun j u hj => by
    have ih := flat_get hf r i x (by simpa using h) j u hj
    simp only [flat, List.map_cons, List.flatten_cons]
    rw [List.getElem?_append_right (by rw [hf, Nat.add_mul]; omega), hf, show (i + 1) * z + j - z = i * z + j by rw [Nat.add_mul]; omega]
    exact ih
/-- A list in memory of its own. -/
def Rw {α : Type} (base : Nat) (w : World) (e : TypeId) (z : Nat) (f : α → List Value) (v : Value) (L : List α) : Prop := w.ownsRow base e z v L.length (flat f L)
theorem Rw.form {α : Type} {base : Nat} {w : World} {e : TypeId} {z : Nat} {f : α → List Value} {v : Value} {L : List α} (h : Rw base w e z f v L) : ∃ ao cap, v = .slice ao L.length cap := by
  rcases h.2 with ⟨rfl, h0⟩ | ⟨g, cap, _, rfl, _⟩
  · exact ⟨none, 0, by rw [h0]⟩
  · exact ⟨_, _, rfl⟩
theorem Rw.at_ {α : Type} {base : Nat} {w : World} {e : TypeId} {z : Nat} {f : α → List Value} {ao : Option Addr} {n cap : Nat} {L : List α} (h : Rw base w e z f (.slice ao n cap) L) (hf : ∀ x, (f x).length = z) {i : Nat} {x : α} (hx : L[i]? = some x) : ∃ g, ao = some ⟨g, 0, none⟩ ∧ g < w.heap.size ∧ base ≤ g ∧ (∃ cur, w.heap[g]? = some (.cells cur e (0, 0))) ∧ ∀ j u, (f x)[j]? = some u → w.cell? ⟨g, i * z + j, none⟩ = some u := by
  have hi := (List.getElem?_eq_some_iff.1 hx).1
  rcases h.2 with ⟨_, h0⟩ | ⟨g, c, cur, he, hb, hg, hn, hm, hs, ht⟩
  · omega
  · cases he
    refine ⟨g, rfl, block_lt hg, hb, ⟨cur, hg⟩, fun j u hj => ?_⟩
    have q := flat_get hf L i x hx j u hj
    rw [← ht, List.getElem?_take] at q
    rw [block_cell hg]
    split at q
    · simpa using q
    · cases q
theorem Rw.kept {α : Type} {base : Nat} {w w' : World} {e : TypeId} {z : Nat} {f : α → List Value} {v : Value} {L : List α} {row : Option Nat} (h : Rw base w e z f v L) (hg : w.grownBy w' row) (hr : v.ownBlock = none ∨ v.ownBlock ≠ row) : Rw base w' e z f v L := World.ownsRow.kept h hg hr
theorem Rw.quiet {α : Type} {base : Nat} {w w' : World} {e : TypeId} {z : Nat} {f : α → List Value} {v : Value} {L : List α} (h : Rw base w e z f v L) (hg : w.grownBy w' none) : Rw base w' e z f v L := h.kept hg (by cases v.ownBlock <;> simp)
theorem Rw.nil {α : Type} (base : Nat) (w : World) (e : TypeId) (z : Nat) (f : α → List Value) : Rw base w e z f (.slice none 0 0) ([] : List α) := World.ownsRow_nil _ _ _ _
theorem Rw.lower {α : Type} {base base' : Nat} {w : World} {e : TypeId} {z : Nat} {f : α → List Value} {v : Value} {L : List α} (h : Rw base w e z f v L) (hb : base' ≤ base) : Rw base' w e z f v L := by
  refine ⟨h.1, ?_⟩
  rcases h.2 with h0 | ⟨g, cap, cur, h1, h2, h3⟩
  · exact .inl h0
  · exact .inr ⟨g, cap, cur, h1, by omega, h3⟩
end Go.Proofs.YtiijbboigebhcaaGreatDoor
