import Derived.Test.YthacdhhmmmocpaaGreatDoorM17
import Derived.Lib.DecodeN
import Derived.Lib.RuneCountTail
namespace Go.Proofs.YthacdhhmmmocpaaGreatDoor
open Go.RowKit Crc

/-! UTF-8, as the reference goes through it: how many bytes the rune at the head has; 0: there is none. -/
def utfV (v0 : Nat) (b : Nat → Nat) : Nat → Nat
  | 0 => v0
  | j + 1 => utfV v0 b j * 64 + b (j + 1) - 128
def utfC (b : Nat → Nat) : Nat → Bool
  | 0 => true
  | j + 1 => utfC b j && (decide (128 ≤ b (j + 1)) && decide (b (j + 1) < 192))
def utfBad (v least : Nat) : Prop := v < least ∨ 1114111 < v ∨ (55296 ≤ v ∧ v < 57344)
instance (v least : Nat) : Decidable (utfBad v least) := by unfold utfBad; exact inferInstance
def utfK (n k v0 least : Nat) (b : Nat → Nat) : Nat := if n ≤ k then 0 else if utfC b k = true then (if utfBad (utfV v0 b k) least then 0 else k + 1) else 0
def utfN (n : Nat) (b : Nat → Nat) : Nat :=
  if b 0 < 128 then 1 else if 192 ≤ b 0 ∧ b 0 < 224 then utfK n 1 (b 0 - 192) 128 b else if 224 ≤ b 0 ∧ b 0 < 240 then utfK n 2 (b 0 - 224) 2048 b else if 240 ≤ b 0 ∧ b 0 < 248 then utfK n 3 (b 0 - 240) 65536 b else 0

/-- The replacement's own three bytes. -/
def utfFFFD (n b0 b1 b2 : Nat) : Prop := 3 ≤ n ∧ b0 = 239 ∧ b1 = 191 ∧ b2 = 189
/-- What the model's decode tells, against that. -/
def utfTie (n x b0 b1 b2 : Nat) (d : Nat × Nat) : Prop := (x = 0 → d = (65533, 1) ∧ ¬ utfFFFD n b0 b1 b2) ∧ (x ≠ 0 → d.2 = x ∧ (d.1 = 65533 → utfFFFD n b0 b1 b2))

theorem utfTie_bad {n b0 b1 b2 : Nat} {d : Nat × Nat} (h : d = (65533, 1)) (hf : ¬ utfFFFD n b0 b1 b2) : utfTie n 0 b0 b1 b2 d := ⟨fun _ => ⟨h, hf⟩, fun h => absurd rfl h⟩
theorem utfTie_good {n b0 b1 b2 x v : Nat} {d : Nat × Nat} (hx : x ≠ 0) (h : d = (v, x)) (hf : v = 65533 → utfFFFD n b0 b1 b2) : utfTie n x b0 b1 b2 d := ⟨fun h0 => absurd h0 hx, fun _ => by rw [h]; exact ⟨rfl, hf⟩⟩

theorem utf_tie1 (n b0 b1 b2 b3 : Nat) (hc : b0 < 128) : utfTie n 1 b0 b1 b2 (Lib.decodeN n b0 b1 b2 b3) := by
  refine utfTie_good (v := b0) (by decide) ?_ (fun h => by omega)
  unfold Lib.decodeN
  rw [if_pos hc]

set_option maxRecDepth 100000 in
set_option maxHeartbeats 4000000 in
theorem utf_tie2 (n b0 b1 b2 b3 x V : Nat) (cc : Bool) (h1 : b1 < 256) (hc : 192 ≤ b0 ∧ b0 < 224) (hcc : cc = true ↔ 128 ≤ b1 ∧ b1 < 192) (hV : V = (b0 - 192) * 64 + b1 - 128)
    (hx : x = if n ≤ 1 then 0 else if cc = true then (if utfBad V 128 then 0 else 2) else 0) : utfTie n x b0 b1 b2 (Lib.decodeN n b0 b1 b2 b3) := by
  by_cases hn : n ≤ 1
  · rewrite [if_pos hn] at hx
    rewrite [hx]
    refine utfTie_bad ?_ (by unfold utfFFFD; omega)
    unfold Lib.decodeN
    repeat' split
    all_goals first | rfl | (exfalso; omega)
  · rewrite [if_neg hn] at hx
    by_cases h : cc = true
    · rewrite [if_pos h] at hx
      have h' := hcc.1 h
      by_cases hbad : utfBad V 128
      · rewrite [if_pos hbad] at hx
        unfold utfBad at hbad
        rewrite [hx]
        refine utfTie_bad ?_ (by unfold utfFFFD; omega)
        unfold Lib.decodeN
        repeat' split
        all_goals first | rfl | (exfalso; omega)
      · rewrite [if_neg hbad] at hx
        unfold utfBad at hbad
        rewrite [hx]
        refine utfTie_good (v := b0 % 32 * 64 + b1 % 64) (by decide) ?_ (fun h => by omega)
        unfold Lib.decodeN
        repeat' split
        all_goals first | rfl | (exfalso; omega)
    · rewrite [if_neg h] at hx
      have h' : ¬ (128 ≤ b1 ∧ b1 < 192) := fun h2 => h (hcc.2 h2)
      rewrite [hx]
      refine utfTie_bad ?_ (by unfold utfFFFD; omega)
      unfold Lib.decodeN
      repeat' split
      all_goals first | rfl | (exfalso; omega)

set_option maxRecDepth 100000 in
set_option maxHeartbeats 4000000 in
theorem utf_tie3 (n b0 b1 b2 b3 x V : Nat) (cc : Bool) (h1 : b1 < 256) (h2 : b2 < 256) (hc : 224 ≤ b0 ∧ b0 < 240) (hcc : cc = true ↔ (128 ≤ b1 ∧ b1 < 192) ∧ (128 ≤ b2 ∧ b2 < 192)) (hV : V = ((b0 - 224) * 64 + b1 - 128) * 64 + b2 - 128)
    (hx : x = if n ≤ 2 then 0 else if cc = true then (if utfBad V 2048 then 0 else 3) else 0) : utfTie n x b0 b1 b2 (Lib.decodeN n b0 b1 b2 b3) := by
  by_cases hn : n ≤ 2
  · rewrite [if_pos hn] at hx
    rewrite [hx]
    refine utfTie_bad ?_ (by unfold utfFFFD; omega)
    unfold Lib.decodeN
    repeat' split
    all_goals first | rfl | (exfalso; omega)
  · rewrite [if_neg hn] at hx
    by_cases h : cc = true
    · rewrite [if_pos h] at hx
      have h' := hcc.1 h
      by_cases hbad : utfBad V 2048
      · rewrite [if_pos hbad] at hx
        unfold utfBad at hbad
        rewrite [hx]
        refine utfTie_bad ?_ (by unfold utfFFFD; omega)
        unfold Lib.decodeN
        repeat' split
        all_goals first | rfl | (exfalso; omega)
      · rewrite [if_neg hbad] at hx
        unfold utfBad at hbad
        rewrite [hx]
        refine utfTie_good (v := b0 % 16 * 4096 + b1 % 64 * 64 + b2 % 64) (by decide) ?_ (fun h => by unfold utfFFFD; omega)
        unfold Lib.decodeN
        repeat' split
        all_goals first | rfl | (exfalso; omega)
    · rewrite [if_neg h] at hx
      have h' : ¬ ((128 ≤ b1 ∧ b1 < 192) ∧ (128 ≤ b2 ∧ b2 < 192)) := fun h2 => h (hcc.2 h2)
      rewrite [hx]
      refine utfTie_bad ?_ (by unfold utfFFFD; omega)
      unfold Lib.decodeN
      repeat' split
      all_goals first | rfl | (exfalso; omega)

set_option maxRecDepth 100000 in
set_option maxHeartbeats 4000000 in
theorem utf_tie4 (n b0 b1 b2 b3 x V : Nat) (cc : Bool) (h1 : b1 < 256) (h2 : b2 < 256) (h3 : b3 < 256) (hc : 240 ≤ b0 ∧ b0 < 248) (hcc : cc = true ↔ ((128 ≤ b1 ∧ b1 < 192) ∧ (128 ≤ b2 ∧ b2 < 192)) ∧ (128 ≤ b3 ∧ b3 < 192)) (hV : V = (((b0 - 240) * 64 + b1 - 128) * 64 + b2 - 128) * 64 + b3 - 128)
    (hx : x = if n ≤ 3 then 0 else if cc = true then (if utfBad V 65536 then 0 else 4) else 0) : utfTie n x b0 b1 b2 (Lib.decodeN n b0 b1 b2 b3) := by
  by_cases hn : n ≤ 3
  · rewrite [if_pos hn] at hx
    rewrite [hx]
    refine utfTie_bad ?_ (by unfold utfFFFD; omega)
    unfold Lib.decodeN
    repeat' split
    all_goals first | rfl | (exfalso; omega)
  · rewrite [if_neg hn] at hx
    by_cases h : cc = true
    · rewrite [if_pos h] at hx
      have h' := hcc.1 h
      by_cases hbad : utfBad V 65536
      · rewrite [if_pos hbad] at hx
        unfold utfBad at hbad
        rewrite [hx]
        refine utfTie_bad ?_ (by unfold utfFFFD; omega)
        unfold Lib.decodeN
        repeat' split
        all_goals first | rfl | (exfalso; omega)
      · rewrite [if_neg hbad] at hx
        unfold utfBad at hbad
        rewrite [hx]
        refine utfTie_good (v := b0 % 8 * 262144 + b1 % 64 * 4096 + b2 % 64 * 64 + b3 % 64) (by decide) ?_ (fun h => by omega)
        unfold Lib.decodeN
        repeat' split
        all_goals first | rfl | (exfalso; omega)
    · rewrite [if_neg h] at hx
      have h' : ¬ (((128 ≤ b1 ∧ b1 < 192) ∧ (128 ≤ b2 ∧ b2 < 192)) ∧ (128 ≤ b3 ∧ b3 < 192)) := fun h2 => h (hcc.2 h2)
      rewrite [hx]
      refine utfTie_bad ?_ (by unfold utfFFFD; omega)
      unfold Lib.decodeN
      repeat' split
      all_goals first | rfl | (exfalso; omega)

theorem utfC1 (b : Nat → Nat) : utfC b 1 = true ↔ 128 ≤ b 1 ∧ b 1 < 192 := by simp [utfC]
theorem utfC2 (b : Nat → Nat) : utfC b 2 = true ↔ (128 ≤ b 1 ∧ b 1 < 192) ∧ (128 ≤ b 2 ∧ b 2 < 192) := by simp [utfC]
theorem utfC3 (b : Nat → Nat) : utfC b 3 = true ↔ ((128 ≤ b 1 ∧ b 1 < 192) ∧ (128 ≤ b 2 ∧ b 2 < 192)) ∧ (128 ≤ b 3 ∧ b 3 < 192) := by simp [utfC]
theorem utfN1 {n : Nat} {b : Nat → Nat} (c1 : b 0 < 128) : utfN n b = 1 := by unfold utfN; rw [if_pos c1]
theorem utfN2 {n : Nat} {b : Nat → Nat} (c2 : 192 ≤ b 0 ∧ b 0 < 224) : utfN n b = utfK n 1 (b 0 - 192) 128 b := by unfold utfN; rw [if_neg (by omega), if_pos c2]
theorem utfN3 {n : Nat} {b : Nat → Nat} (c3 : 224 ≤ b 0 ∧ b 0 < 240) : utfN n b = utfK n 2 (b 0 - 224) 2048 b := by unfold utfN; rw [if_neg (by omega), if_neg (by omega), if_pos c3]
theorem utfN4 {n : Nat} {b : Nat → Nat} (c4 : 240 ≤ b 0 ∧ b 0 < 248) : utfN n b = utfK n 3 (b 0 - 240) 65536 b := by unfold utfN; rw [if_neg (by omega), if_neg (by omega), if_neg (by omega), if_pos c4]
theorem utfN0 {n : Nat} {b : Nat → Nat} (c1 : ¬ b 0 < 128) (c2 : ¬ (192 ≤ b 0 ∧ b 0 < 248)) : utfN n b = 0 := by unfold utfN; rw [if_neg c1, if_neg (by omega), if_neg (by omega), if_neg (by omega)]
theorem utfK_eq (n k v0 least : Nat) (b : Nat → Nat) : utfK n k v0 least b = if n ≤ k then 0 else if utfC b k = true then (if utfBad (utfV v0 b k) least then 0 else k + 1) else 0 := rfl
theorem utfV1 (v0 : Nat) (b : Nat → Nat) : utfV v0 b 1 = v0 * 64 + b 1 - 128 := rfl
theorem utfV2 (v0 : Nat) (b : Nat → Nat) : utfV v0 b 2 = (v0 * 64 + b 1 - 128) * 64 + b 2 - 128 := rfl
theorem utfV3 (v0 : Nat) (b : Nat → Nat) : utfV v0 b 3 = ((v0 * 64 + b 1 - 128) * 64 + b 2 - 128) * 64 + b 3 - 128 := rfl

theorem utf_tie (n : Nat) (b : Nat → Nat) (hb : ∀ j, b j < 256) : utfTie n (utfN n b) (b 0) (b 1) (b 2) (Lib.decodeN n (b 0) (b 1) (b 2) (b 3)) := by
  by_cases c1 : b 0 < 128
  · rewrite [utfN1 c1]
    exact utf_tie1 n (b 0) (b 1) (b 2) (b 3) c1
  · by_cases c2 : 192 ≤ b 0 ∧ b 0 < 224
    · exact utf_tie2 n (b 0) (b 1) (b 2) (b 3) (utfN n b) _ _ (hb 1) c2 (utfC1 b) (utfV1 _ _) ((utfN2 c2).trans (utfK_eq _ _ _ _ _))
    · by_cases c3 : 224 ≤ b 0 ∧ b 0 < 240
      · exact utf_tie3 n (b 0) (b 1) (b 2) (b 3) (utfN n b) _ _ (hb 1) (hb 2) c3 (utfC2 b) (utfV2 _ _) ((utfN3 c3).trans (utfK_eq _ _ _ _ _))
      · by_cases c4 : 240 ≤ b 0 ∧ b 0 < 248
        · exact utf_tie4 n (b 0) (b 1) (b 2) (b 3) (utfN n b) _ _ (hb 1) (hb 2) (hb 3) c4 (utfC3 b) (utfV3 _ _) ((utfN4 c4).trans (utfK_eq _ _ _ _ _))
        · have h0 := hb 0
          rewrite [utfN0 c1 (by omega)]
          refine utfTie_bad ?_ (by unfold utfFFFD; omega)
          unfold Lib.decodeN
          repeat' split
          all_goals first | rfl | (exfalso; omega)

/-- The bytes of a text from a place on. -/
def utfB (s : ByteArray) (i : Nat) : Nat → Nat := fun j => (s.get! (i + j)).toNat
def utfW (s : ByteArray) (i : Nat) : Nat := utfN (s.size - i) (utfB s i)
theorem utfB_lt (s : ByteArray) (i j : Nat) : utfB s i j < 256 := (s.get! (i + j)).toNat_lt
theorem utfW_tie (s : ByteArray) (i : Nat) : utfTie (s.size - i) (utfW s i) (utfB s i 0) (utfB s i 1) (utfB s i 2) (Utf8.decode s i) := by
  rewrite [Lib.decode_at]
  exact utf_tie (s.size - i) (utfB s i) (utfB_lt s i)
/-- Is the text UTF-8 from a place on? -/
def utfOk (s : ByteArray) : Nat → Nat → Bool
  | 0, _ => true
  | f + 1, i => if i < s.size then (if utfW s i = 0 then false else utfOk s f (i + utfW s i)) else true
def utf8Ok (s : ByteArray) : Bool := utfOk s s.size 0
/-- The state of a walk: behind so many bytes the answer is still open. -/
def UtfAt (s : ByteArray) (i : Nat) : Prop := ∃ f, s.size - i ≤ f ∧ utfOk s f i = utf8Ok s
theorem UtfAt.start (s : ByteArray) : UtfAt s 0 := ⟨s.size, by omega, rfl⟩
theorem UtfAt.done {s : ByteArray} {i : Nat} (h : UtfAt s i) (hi : ¬ i < s.size) : utf8Ok s = true := by
  obtain ⟨f, _, h⟩ := h
  rw [← h]
  cases f with
  | zero => rfl
  | succ f => rw [utfOk, if_neg hi]
theorem UtfAt.bad {s : ByteArray} {i : Nat} (h : UtfAt s i) (hi : i < s.size) (hw : utfW s i = 0) : utf8Ok s = false := by
  obtain ⟨f, hf, h⟩ := h
  rw [← h]
  cases f with
  | zero => omega
  | succ f => rw [utfOk, if_pos hi, if_pos hw]
theorem UtfAt.next {s : ByteArray} {i : Nat} (h : UtfAt s i) (hi : i < s.size) (hw : utfW s i ≠ 0) : UtfAt s (i + utfW s i) := by
  obtain ⟨f, hf, h⟩ := h
  cases f with
  | zero => omega
  | succ f =>
    rw [utfOk, if_pos hi, if_neg hw] at h
    exact ⟨f, by omega, h⟩
end Go.Proofs.YthacdhhmmmocpaaGreatDoor
namespace Go.Proofs.YthacdhhmmmocpaaGreatDoor
open Go.RowKit Crc

set_option maxRecDepth 10000 in
set_option maxHeartbeats 400000 in
theorem prefixL (t : ByteArray) (b : Bool) (w : World) (hl : 3 ≤ t.size) (hb : ((t.extract 0 3).toList == [239, 191, 189]) = b) :
    Calls Tryz.prog 87 #[.string t, .string ⟨#[239, 191, 189]⟩] w fun e w' => e = .returned (.bool b) ∧ w' = w := by
  have h1 : (3 : Int) ≤ (t.size : Int) := by omega
  have h2 : decide (3 ≤ t.size) = true := by simp; omega
  clear hl
  go_enter Tryz.func87, Tryz.ntmps87
  go_wp2
  go_ret
  exact ⟨rfl, rfl⟩
set_option maxRecDepth 10000 in
set_option maxHeartbeats 400000 in
theorem prefixS (t : ByteArray) (w : World) (hl : ¬ 3 ≤ t.size) :
    Calls Tryz.prog 87 #[.string t, .string ⟨#[239, 191, 189]⟩] w fun e w' => e = .returned (.bool false) ∧ w' = w := by
  have h1 : (t.size : Int) < 3 := by omega
  have h2 : decide (3 ≤ t.size) = false := by simp; omega
  clear hl
  go_enter Tryz.func87, Tryz.ntmps87
  go_wp2
  go_ret
  exact ⟨rfl, rfl⟩

theorem head3 (t : ByteArray) (h : 3 ≤ t.size) : (t.extract 0 3).toList = [t.get! 0, t.get! 1, t.get! 2] := by
  rw [ByteArray.toList_eq]
  obtain ⟨⟨l⟩⟩ := t
  match l, h with
  | a :: b :: c :: r, _ => simp [ByteArray.data_extract, ByteArray.get!]
theorem u8_lit (x : UInt8) (n : Nat) (hn : n < 256) : x.toNat = n ↔ x = UInt8.ofNat n := by
  constructor
  · intro h; rw [← h]; simp
  · intro h; rw [h]; simp; omega

set_option maxRecDepth 10000 in
set_option maxHeartbeats 400000 in
/-- Do the replacement's three bytes stand there? -/
theorem prefixAt (s : ByteArray) (i : Nat) (w : World) (b : Bool) (hb : b = true ↔ utfFFFD (s.size - i) (utfB s i 0) (utfB s i 1) (utfB s i 2)) :
    Calls Tryz.prog 81 #[.string (s.extract i s.size), .string ⟨#[239, 191, 189]⟩] w fun e w' => e = .returned (.bool b) ∧ w' = w := by
  have HP : Hid (Calls Tryz.prog 87 #[.string (s.extract i s.size), .string ⟨#[239, 191, 189]⟩] w fun e w' => e = .returned (.bool b) ∧ w' = w) := by
    have hsz : (s.extract i s.size).size = s.size - i := by simp
    by_cases h3 : 3 ≤ s.size - i
    · refine prefixL _ b w (by rw [hsz]; exact h3) ?_
      rw [head3 _ (by rw [hsz]; exact h3), Lib.tail_get!, Lib.tail_get!, Lib.tail_get!, Bool.eq_iff_iff, hb]
      unfold utfFFFD utfB
      rw [u8_lit _ 239 (by omega), u8_lit _ 191 (by omega), u8_lit _ 189 (by omega)]
      simp [h3]
    · have : b = false := by
        cases b with
        | false => rfl
        | true => exact absurd (hb.1 rfl).1 h3
      subst this
      exact prefixS _ w (by rw [hsz]; exact h3)
  clear hb
  generalize s.extract i s.size = t at *
  go_enter Tryz.func81, Tryz.ntmps81
  go_wp2_with fail
  refine HP.out.mono ?_
  rintro e w1 ⟨rfl, rfl⟩
  go_wp2
  go_ret
  exact ⟨rfl, rfl⟩

set_option maxRecDepth 10000 in
set_option maxHeartbeats 800000 in
theorem isText_any (s : ByteArray) (w : World) :
    Calls Tryz.prog 72 #[.string s] w fun e w' => e = .returned (.bool (utf8Ok s)) ∧ ∃ pos, w' = w.iter s pos := by
  have HR : Hid (∃ R, R = utf8Ok s) := ⟨_, rfl⟩
  obtain ⟨R, hR⟩ := HR.out
  rw [← hR]
  have HRR := hide hR
  clear hR HR
  go_enter Tryz.func72, Tryz.ntmps72
  go_wp2
  go_loopw [2] (fun b w' => ∃ pos : Nat, w' = w.iter s pos ∧ b = .bool false ∧ Hid (UtfAt s pos)) (fun _ w' => s.size - w'.iterPos w.heap.size)
  case atStart => exact ⟨0, rfl, rfl, UtfAt.start s⟩
  case round =>
    obtain ⟨pos, rfl, rfl, HU⟩ := hrel
    by_cases hp : pos < s.size
    · have htie := utfW_tie s pos
      have hnx0 : ∀ ty, (Instr.next (.pointer (some ⟨w.heap.size, 0, none⟩)) true ty).run Tryz.prog (w.iter s pos) = _ := fun ty => run_next_any w s pos ty hp
      obtain ⟨⟨r, wd⟩, hd⟩ : ∃ d, d = Utf8.decode s pos := ⟨_, rfl⟩
      rw [← hd] at htie
      have hnx : ∀ ty, (Instr.next (.pointer (some ⟨w.heap.size, 0, none⟩)) true ty).run Tryz.prog (w.iter s pos) = .ok (.tuple #[.bool true, .int .i64 pos, .int .i32 (r : Nat)]) (w.iter s (pos + wd)) := by
        intro ty
        rw [hnx0 ty, ← hd]
      have HPX := hide (fun b wx hb => prefixAt s pos wx b hb)
      have hi1 : (0 : Int) ≤ (pos : Int) := by omega
      have hi2 : (pos : Int) ≤ (s.size : Int) := by omega
      clear hd hnx0
      by_cases hw : utfW s pos = 0
      · obtain ⟨he, hf⟩ := htie.1 hw
        cases he
        have HF := hide (HU.out.bad hp hw)
        have HNF := hide hf
        clear htie hw hf HU
        go_wp2_with fail
        refine (HPX.out false _ ⟨fun h => (by cases h), fun h => absurd h HNF.out⟩).mono ?_
        rintro e w1 ⟨rfl, rfl⟩
        go_wp2
        go_ret
        exact ⟨by rw [HRR.out, HF.out]; rfl, _, rfl⟩
      · obtain ⟨he, hf⟩ := htie.2 hw
        simp only at he hf
        have HN : Hid (UtfAt s (pos + wd)) := by rw [he]; exact HU.out.next hp hw
        have hw1 : 1 ≤ wd := by omega
        by_cases hr : r = 65533
        · have HFF := hide (hf hr)
          subst hr
          clear htie hw hf HU he
          go_wp2_with fail
          refine (HPX.out true _ ⟨fun _ => HFF.out, fun _ => rfl⟩).mono ?_
          rintro e w1 ⟨rfl, rfl⟩
          go_wp2
          go_roundw
          case rel => exact ⟨pos + wd, rfl, rfl, HN⟩
          case measure => simp; omega
        · have hne : ((r : Int) == 65533) = false := by simp; omega
          clear htie hw hf HU he hr
          go_wp2
          go_roundw
          case rel => exact ⟨pos + wd, rfl, rfl, HN⟩
          case measure => simp; omega
    · have HF := hide (HU.out.done hp)
      have hnx : ∀ ty, (Instr.next (.pointer (some ⟨w.heap.size, 0, none⟩)) true ty).run Tryz.prog (w.iter s pos) = _ := fun ty => run_next_end w s pos ty hp
      clear HU
      go_wp2
      go_ret
      exact ⟨by rw [HRR.out, HF.out]; rfl, _, rfl⟩
end Go.Proofs.YthacdhhmmmocpaaGreatDoor
