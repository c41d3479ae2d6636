import Derived.Test.YthbpacilceemlaaPUtf
import Derived.Lib.RuneCountTail
import Derived.Test.YthbpacilceemlaaM0
namespace Go.Proofs.Ythbpacilceemlaa
open Go.RowKit Crc

set_option maxRecDepth 10000 in
set_option maxHeartbeats 400000 in
theorem prefixL (t : ByteArray) (b : Bool) (w : World) (hl : 3 ≤ t.size) (hb : ((t.extract 0 3).toList == [239, 191, 189]) = b) :
    Calls Try.prog 122 #[.string t, .string ⟨#[239, 191, 189]⟩] w fun e w' => e = .returned (.bool b) ∧ w' = w := by
  have h1 : (3 : Int) ≤ (t.size : Int) := by omega
  have h2 : decide (3 ≤ t.size) = true := by simp; omega
  clear hl
  go_enter Try.func122, Try.ntmps122
  go_wp2
  go_ret
  exact ⟨rfl, rfl⟩
set_option maxRecDepth 10000 in
set_option maxHeartbeats 400000 in
theorem prefixS (t : ByteArray) (w : World) (hl : ¬ 3 ≤ t.size) :
    Calls Try.prog 122 #[.string t, .string ⟨#[239, 191, 189]⟩] w fun e w' => e = .returned (.bool false) ∧ w' = w := by
  have h1 : (t.size : Int) < 3 := by omega
  have h2 : decide (3 ≤ t.size) = false := by simp; omega
  clear hl
  go_enter Try.func122, Try.ntmps122
  go_wp2
  go_ret
  exact ⟨rfl, rfl⟩

theorem head3 (t : ByteArray) (h : 3 ≤ t.size) : (t.extract 0 3).toList = [t.get! 0, t.get! 1, t.get! 2] := by
  rw [ByteArray.toList_eq]
  obtain ⟨⟨l⟩⟩ := t
  match l, h with
  | a :: b :: c :: r, _ => simp [ByteArray.data_extract, ByteArray.get!]
theorem u8_lit (x : UInt8) (n : Nat) (hn : n < 256) : x.toNat = n ↔ x = UInt8.ofNat n := by
  constructor
  · intro h; rw [← h]; simp
  · intro h; rw [h]; simp; omega

set_option maxRecDepth 10000 in
set_option maxHeartbeats 400000 in
/-- Do the replacement's three bytes stand there? -/
theorem prefixAt (s : ByteArray) (i : Nat) (w : World) (b : Bool) (hb : b = true ↔ utfFFFD (s.size - i) (utfB s i 0) (utfB s i 1) (utfB s i 2)) :
    Calls Try.prog 120 #[.string (s.extract i s.size), .string ⟨#[239, 191, 189]⟩] w fun e w' => e = .returned (.bool b) ∧ w' = w := by
  have HP : Hid (Calls Try.prog 122 #[.string (s.extract i s.size), .string ⟨#[239, 191, 189]⟩] w fun e w' => e = .returned (.bool b) ∧ w' = w) := by
    have hsz : (s.extract i s.size).size = s.size - i := by simp
    by_cases h3 : 3 ≤ s.size - i
    · refine prefixL _ b w (by rw [hsz]; exact h3) ?_
      rw [head3 _ (by rw [hsz]; exact h3), Lib.tail_get!, Lib.tail_get!, Lib.tail_get!, Bool.eq_iff_iff, hb]
      unfold utfFFFD utfB
      rw [u8_lit _ 239 (by omega), u8_lit _ 191 (by omega), u8_lit _ 189 (by omega)]
      simp [h3]
    · have : b = false := by
        cases b with
        | false => rfl
        | true => exact absurd (hb.1 rfl).1 h3
      subst this
      exact prefixS _ w (by rw [hsz]; exact h3)
  clear hb
  generalize s.extract i s.size = t at *
  go_enter Try.func120, Try.ntmps120
  go_wp2_with fail
  refine HP.out.mono ?_
  rintro e w1 ⟨rfl, rfl⟩
  go_wp2
  go_ret
  exact ⟨rfl, rfl⟩

set_option maxRecDepth 10000 in
set_option maxHeartbeats 800000 in
theorem isText_any (s : ByteArray) (w : World) :
    Calls Try.prog 114 #[.string s] w fun e w' => e = .returned (.bool (utf8Ok s)) ∧ ∃ pos, w' = w.iter s pos := by
  have HR : Hid (∃ R, R = utf8Ok s) := ⟨_, rfl⟩
  obtain ⟨R, hR⟩ := HR.out
  rw [← hR]
  have HRR := hide hR
  clear hR HR
  go_enter Try.func114, Try.ntmps114
  go_wp2
  go_loopw [2] (fun b w' => ∃ pos : Nat, w' = w.iter s pos ∧ b = .bool false ∧ Hid (UtfAt s pos)) (fun _ w' => s.size - w'.iterPos w.heap.size)
  case atStart => exact ⟨0, rfl, rfl, UtfAt.start s⟩
  case round =>
    obtain ⟨pos, rfl, rfl, HU⟩ := hrel
    by_cases hp : pos < s.size
    · have htie := utfW_tie s pos
      have hnx0 : ∀ ty, (Instr.next (.pointer (some ⟨w.heap.size, 0, none⟩)) true ty).run Try.prog (w.iter s pos) = _ := fun ty => run_next_any w s pos ty hp
      obtain ⟨⟨r, wd⟩, hd⟩ : ∃ d, d = Utf8.decode s pos := ⟨_, rfl⟩
      rw [← hd] at htie
      have hnx : ∀ ty, (Instr.next (.pointer (some ⟨w.heap.size, 0, none⟩)) true ty).run Try.prog (w.iter s pos) = .ok (.tuple #[.bool true, .int .i64 pos, .int .i32 (r : Nat)]) (w.iter s (pos + wd)) := by
        intro ty
        rw [hnx0 ty, ← hd]
      have HPX := hide (fun b wx hb => prefixAt s pos wx b hb)
      have hi1 : (0 : Int) ≤ (pos : Int) := by omega
      have hi2 : (pos : Int) ≤ (s.size : Int) := by omega
      clear hd hnx0
      by_cases hw : utfW s pos = 0
      · obtain ⟨he, hf⟩ := htie.1 hw
        cases he
        have HF := hide (HU.out.bad hp hw)
        have HNF := hide hf
        clear htie hw hf HU
        go_wp2_with fail
        refine (HPX.out false _ ⟨fun h => (by cases h), fun h => absurd h HNF.out⟩).mono ?_
        rintro e w1 ⟨rfl, rfl⟩
        go_wp2
        go_ret
        exact ⟨by rw [HRR.out, HF.out]; rfl, _, rfl⟩
      · obtain ⟨he, hf⟩ := htie.2 hw
        simp only at he hf
        have HN : Hid (UtfAt s (pos + wd)) := by rw [he]; exact HU.out.next hp hw
        have hw1 : 1 ≤ wd := by omega
        by_cases hr : r = 65533
        · have HFF := hide (hf hr)
          subst hr
          clear htie hw hf HU he
          go_wp2_with fail
          refine (HPX.out true _ ⟨fun _ => HFF.out, fun _ => rfl⟩).mono ?_
          rintro e w1 ⟨rfl, rfl⟩
          go_wp2
          go_roundw
          case rel => exact ⟨pos + wd, rfl, rfl, HN⟩
          case measure => simp; omega
        · have hne : ((r : Int) == 65533) = false := by simp; omega
          clear htie hw hf HU he hr
          go_wp2
          go_roundw
          case rel => exact ⟨pos + wd, rfl, rfl, HN⟩
          case measure => simp; omega
    · have HF := hide (HU.out.done hp)
      have hnx : ∀ ty, (Instr.next (.pointer (some ⟨w.heap.size, 0, none⟩)) true ty).run Try.prog (w.iter s pos) = _ := fun ty => run_next_end w s pos ty hp
      clear HU
      go_wp2
      go_ret
      exact ⟨by rw [HRR.out, HF.out]; rfl, _, rfl⟩
end Go.Proofs.Ythbpacilceemlaa
namespace Go.Proofs.Ythbpacilceemlaa
open Go.RowKit Crc

set_option maxRecDepth 10000 in
set_option maxHeartbeats 800000 in
theorem copy_walk (b off : Nat) (ao : Option Addr) (B : List Nat) (n cap : Nat) (w : World) (hao : 0 < n → ao = some ⟨b, off, none⟩) (hn : n = B.length) (hl : n ≤ 140737488355328) (hB : ∀ x ∈ B, x < 256)
  (hbw : 0 < n → b < w.heap.size) (hc : ∀ i, i < n → w.cell? ⟨b, off + i, none⟩ = some (.int .u8 ((B.getD i 0 : Nat) : Int))) :
    Calls Try.prog 54 #[.slice ao n cap] w fun e w' => ∃ v, e = .returned v ∧ Owns w.heap.size w' v B ∧ Below w.heap.size w w' := by
  obtain ⟨i0, hi, hz0, hz1, hz2⟩ := info_parts Try.info5
  have HA : Hid (0 < n → ao = some ⟨b, off, none⟩) := hao
  have HN : Hid (n = B.length) := hn
  have HB : Hid (∀ x ∈ B, x < 256) := hB
  have HW : Hid (0 < n → b < w.heap.size) := hbw
  have HC : Hid (∀ i, i < n → w.cell? ⟨b, off + i, none⟩ = some (.int .u8 ((B.getD i 0 : Nat) : Int))) := hc
  clear hao hn hB hbw hc
  go_enter Try.func54, Try.ntmps54
  go_wp2
  go_loopw [3, 4] (fun v i wr => ∃ k : Nat, k ≤ n ∧ i = .int .i64 k ∧ Hid (Owns w.heap.size wr v (B.take k)) ∧ Below w.heap.size w wr) (fun _ i _ => n - (intOf i).toNat)
  case atStart => exact ⟨0, by omega, rfl, by rw [List.take_zero]; exact Owns.nil _ _, Below.refl _ _⟩
  case round =>
    obtain ⟨k, hk, rfl, HO, hnx⟩ := hrel
    have hsize := hnx.size
    by_cases hlt : k < n
    · have hck := (hnx.cell (p := ⟨b, off + k, none⟩) (HW.out (by omega))).trans (HC.out k hlt)
      obtain rfl := HA.out (by omega)
      have hcb := getD_lt B HB.out k
      have htl : (B.take k).length = k := by rw [List.length_take]; have := HN.out; omega
      have hown : wr.ownsRow w.heap.size 5 1 u3 k (vals (B.take k)) := by have := HO.out.1; rw [htl] at this; exact this
      have HTS : Hid (B.take (k + 1) = B.take k ++ [B.getD k 0]) := take_snoc B k (by have := HN.out; omega)
      obtain ⟨c, hcd⟩ : ∃ c, c = B.getD k 0 := ⟨_, rfl⟩
      rw [← hcd] at hck hcb HTS
      clear hcd
      have HTL : Hid ((B.take k).length = k) := htl
      have HHO : Hid (wr.ownsRow w.heap.size 5 1 u3 k (vals (B.take k))) := hown
      clear htl hown
      go_wp2_with (first
        | (at_builtin; refine wpList_append_own _ rfl (.tmp 11) (.tmp 16) 29 rfl w.heap.size 5 i0 (.int .u8 0) 1 1 Try.underlying29 hi hz0 hz1 hz2 rfl (by decide) u3 k (vals (B.take k)) rfl (HHO.out.alloc _) ⟨wr.heap.size, 0, none⟩ 1 1 [.int .u8 (c : Int)] rfl rfl (cell_one_new _ _ _) (Shade.one _ rfl) (by unfold maxLen; omega) (by omega) (by simp; omega) ?_; intro v' w1 hown1 hgrow1 _))
      go_roundw
      case rel =>
        refine ⟨k + 1, by omega, by go_num, ?_, (hnx.alloc (by omega) _).grown hgrow1 (by simp; omega) (fun j hj => (HHO.out.lt j hj).1)⟩
        show Owns _ _ _ _
        rw [HTS.out]
        exact HO.out.snoc hcb (by rw [HTL.out]; omega) (by rw [HTL.out]; exact hown1)
      case measure => simp [intOf]; omega
    · have HTS : Hid (B.take k = B) := List.take_of_length_le (by have := HN.out; omega)
      go_wp2
      go_ret
      exact ⟨_, rfl, by have := HO.out; rw [HTS.out] at this; exact this, hnx⟩
theorem copy_any {lim : Nat} {ao : Option Addr} {B : List Nat} {n cap : Nat} {w : World} (h : Shows lim w ao n cap B) (hl : lim ≤ w.heap.size) :
    Calls Try.prog 54 #[.slice ao n cap] w fun e w' => ∃ v, e = .returned v ∧ Owns w.heap.size w' v B ∧ Below w.heap.size w w' := by
  obtain ⟨h1, h2, h3, h4, b, off, h5, h6, h7⟩ := h
  exact copy_walk b off ao B n cap w h5 h1 h3 h4 (fun h => Nat.lt_of_lt_of_le (h6 h) hl) h7
set_option maxRecDepth 10000 in
set_option maxHeartbeats 800000 in
theorem join_walk (b off : Nat) (ao co : Option Addr) (A B : List Nat) (m mcap n cap lim : Nat) (w : World) (hA : Shows lim w co m mcap A) (hlim : lim ≤ w.heap.size) (hao : 0 < n → ao = some ⟨b, off, none⟩) (hn : n = B.length) (hl : A.length + n ≤ 140737488355328) (hB : ∀ x ∈ B, x < 256)
  (hbw : 0 < n → b < w.heap.size) (hc : ∀ i, i < n → w.cell? ⟨b, off + i, none⟩ = some (.int .u8 ((B.getD i 0 : Nat) : Int))) :
    Calls Try.prog 94 #[.slice co m mcap, .slice ao n cap] w fun e w' => ∃ v, e = .returned v ∧ Owns w.heap.size w' v (A ++ B) ∧ Below w.heap.size w w' := by
  obtain ⟨i0, hi, hz0, hz1, hz2⟩ := info_parts Try.info5
  have HA : Hid (0 < n → ao = some ⟨b, off, none⟩) := hao
  have HN : Hid (n = B.length) := hn
  have HB : Hid (∀ x ∈ B, x < 256) := hB
  have HW : Hid (0 < n → b < w.heap.size) := hbw
  have HC : Hid (∀ i, i < n → w.cell? ⟨b, off + i, none⟩ = some (.int .u8 ((B.getD i 0 : Nat) : Int))) := hc
  have HCP := copy_any hA hlim
  have HCP' : Hid (Calls Try.prog 54 #[.slice co m mcap] w fun e w' => ∃ v, e = .returned v ∧ Owns w.heap.size w' v A ∧ Below w.heap.size w w') := HCP
  clear HCP hA hlim hao hn hB hbw hc
  go_enter Try.func94, Try.ntmps94
  go_wp2_with fail
  refine HCP'.out.mono ?_
  rintro e w1 ⟨v, rfl, ho1, hb1⟩
  have HO1 : Hid (Owns w.heap.size w1 v A) := ho1
  clear ho1
  go_wp2
  go_loopw [5, 6] (fun v i wr => ∃ k : Nat, k ≤ n ∧ i = .int .i64 k ∧ Hid (Owns w.heap.size wr v (A ++ B.take k)) ∧ Below w.heap.size w wr) (fun _ i _ => n - (intOf i).toNat)
  case atStart => exact ⟨0, by omega, rfl, by rw [List.take_zero, List.append_nil]; exact HO1.out, hb1⟩
  case round =>
    clear HO1 hb1
    obtain ⟨k, hk, rfl, HO, hnx⟩ := hrel
    have hsize := hnx.size
    by_cases hlt : k < n
    · have hck := (hnx.cell (p := ⟨b, off + k, none⟩) (HW.out (by omega))).trans (HC.out k hlt)
      obtain rfl := HA.out (by omega)
      have hcb := getD_lt B HB.out k
      have htl : (A ++ B.take k).length = A.length + k := by rw [List.length_append, List.length_take]; have := HN.out; omega
      have hown : wr.ownsRow w.heap.size 5 1 u5 (A.length + k) (vals (A ++ B.take k)) := by have := HO.out.1; rw [htl] at this; exact this
      have HTS : Hid (A ++ B.take (k + 1) = (A ++ B.take k) ++ [B.getD k 0]) := by show _ = _; rw [take_snoc B k (by have := HN.out; omega), List.append_assoc]
      obtain ⟨c, hcd⟩ : ∃ c, c = B.getD k 0 := ⟨_, rfl⟩
      rw [← hcd] at hck hcb HTS
      clear hcd
      have HTL : Hid ((A ++ B.take k).length = A.length + k) := htl
      have HHO : Hid (wr.ownsRow w.heap.size 5 1 u5 (A.length + k) (vals (A ++ B.take k))) := hown
      clear htl hown
      go_wp2_with (first
        | (at_builtin; refine wpList_append_own _ rfl (.tmp 15) (.tmp 20) 29 rfl w.heap.size 5 i0 (.int .u8 0) 1 1 Try.underlying29 hi hz0 hz1 hz2 rfl (by decide) u5 (A.length + k) (vals (A ++ B.take k)) rfl (HHO.out.alloc _) ⟨wr.heap.size, 0, none⟩ 1 1 [.int .u8 (c : Int)] rfl rfl (cell_one_new _ _ _) (Shade.one _ rfl) (by unfold maxLen; omega) (by omega) (by simp; omega) ?_; intro v' w1 hown1 hgrow1 _))
      go_roundw
      case rel =>
        refine ⟨k + 1, by omega, by go_num, ?_, (hnx.alloc (by omega) _).grown hgrow1 (by simp; omega) (fun j hj => (HHO.out.lt j hj).1)⟩
        show Owns _ _ _ _
        rw [HTS.out]
        exact HO.out.snoc hcb (by rw [HTL.out]; omega) (by rw [HTL.out]; exact hown1)
      case measure => simp [intOf]; omega
    · have HTS : Hid (B.take k = B) := List.take_of_length_le (by have := HN.out; omega)
      go_wp2
      go_ret
      exact ⟨_, rfl, by have := HO.out; rw [HTS.out] at this; exact this, hnx⟩
theorem join_any {l1 l2 : Nat} {a1 a2 : Option Addr} {A B : List Nat} {n1 n2 c1 c2 : Nat} {w : World} (h1 : Shows l1 w a1 n1 c1 A) (hl1 : l1 ≤ w.heap.size) (h : Shows l2 w a2 n2 c2 B) (hl2 : l2 ≤ w.heap.size) (hl : A.length + n2 ≤ 140737488355328) :
    Calls Try.prog 94 #[.slice a1 n1 c1, .slice a2 n2 c2] w fun e w' => ∃ v, e = .returned v ∧ Owns w.heap.size w' v (A ++ B) ∧ Below w.heap.size w w' := by
  obtain ⟨p1, p2, p3, p4, b, off, p5, p6, p7⟩ := h
  exact join_walk b off a2 a1 A B n1 c1 n2 c2 l1 w h1 hl1 p5 p1 hl p4 (fun h => Nat.lt_of_lt_of_le (p6 h) hl2) p7
end Go.Proofs.Ythbpacilceemlaa
