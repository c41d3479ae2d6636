import Derived.Test.YtbfjeabngdiejaaDoorKept
import Derived.Test.YtbfjeabngdiejaaDoorRefSum
import Derived.Test.YtbfjeabngdiejaaDoorFrameNil
import Derived.Test.YtbfjeabngdiejaaDoorUnframeOk
namespace Go.Proofs.YtbfjeabngdiejaaDoor
open Go.RowKit Crc

/-- The slice shows these bytes; they lie in a block below lim. -/
def Shows (lim : Nat) (w : World) (ao : Option Addr) (n cap : Nat) (B : List Nat) : Prop :=
  n = B.length ∧ n ≤ cap ∧ n ≤ 140737488355328 ∧ (∀ x ∈ B, x < 256) ∧ ∃ b off, (0 < n → ao = some ⟨b, off, none⟩) ∧ (0 < n → b < lim) ∧ ∀ i, i < n → w.cell? ⟨b, off + i, none⟩ = some (.int .u8 ((B.getD i 0 : Nat) : Int))

theorem Shows.kept {lim : Nat} {w w' : World} {row : Option Nat} {ao : Option Addr} {n cap : Nat} {B : List Nat} (h : Shows lim w ao n cap B) (hg : w.grownBy w' row) (hr : ∀ g, row = some g → lim ≤ g) : Shows lim w' ao n cap B := by
  obtain ⟨h1, h2, h3, h4, b, off, h5, h6, h7⟩ := h
  refine ⟨h1, h2, h3, h4, b, off, h5, h6, fun i hi => ?_⟩
  have hb := h6 (by omega)
  exact hg.cell (h7 i hi) (fun e => by have := hr b e.symm; omega)
theorem Shows.wide {lim lim' : Nat} {w : World} {ao : Option Addr} {n cap : Nat} {B : List Nat} (h : Shows lim w ao n cap B) (hl : lim ≤ lim') : Shows lim' w ao n cap B := by
  obtain ⟨h1, h2, h3, h4, b, off, h5, h6, h7⟩ := h
  exact ⟨h1, h2, h3, h4, b, off, h5, fun h => Nat.lt_of_lt_of_le (h6 h) hl, h7⟩
theorem Shows.world {lim : Nat} {w w' : World} {ao : Option Addr} {n cap : Nat} {B : List Nat} (h : Shows lim w ao n cap B) (he : w'.heap = w.heap) : Shows lim w' ao n cap B := by
  obtain ⟨h1, h2, h3, h4, b, off, h5, h6, h7⟩ := h
  exact ⟨h1, h2, h3, h4, b, off, h5, h6, fun i hi => (World.cell?_of_block (w := w) (w' := w') (a := ⟨b, off + i, none⟩) (by rw [he])).trans (h7 i hi)⟩

theorem below_grown {B : Nat} {w w' : World} (h : Below w.heap.size w w') (_hB : B ≤ w.heap.size) : w.grownBy w' none := ⟨h.os, h.tape, h.output, h.size, fun k hk _ => h.block k hk⟩
theorem below_none {w w' : World} (h : Below w.heap.size w w') : w.grownBy w' none := ⟨h.os, h.tape, h.output, h.size, fun k hk _ => h.block k hk⟩

/-- Bytes of its own. -/
def Owns (base : Nat) (w : World) (v : Value) (B : List Nat) : Prop := w.ownsRow base 5 1 v B.length (vals B) ∧ (∀ x ∈ B, x < 256) ∧ B.length ≤ 140737488355328

theorem Owns.kept {base : Nat} {w w' : World} {v : Value} {B : List Nat} {row : Option Nat} (h : Owns base w v B) (hg : w.grownBy w' row) (hne : v.ownBlock = none ∨ v.ownBlock ≠ row) : Owns base w' v B := ⟨h.1.kept hg hne, h.2⟩

theorem Owns.form {base : Nat} {w : World} {v : Value} {B : List Nat} (h : Owns base w v B) : ∃ ao cap, v = .slice ao B.length cap ∧ Shows w.heap.size w ao B.length cap B ∧ (ao = none ∧ cap = 0 ∨ ∃ g, ao = some ⟨g, 0, none⟩ ∧ base ≤ g ∧ g < w.heap.size) := by
  obtain ⟨ho, hB, hl⟩ := h
  rcases ho.2 with ⟨rfl, h0⟩ | ⟨g, cap, cur, rfl, hbg, hg, hnc, hcm, hcs, htake⟩
  · refine ⟨none, 0, by rw [h0], ⟨rfl, by omega, hl, hB, 0, 0, fun h => by omega, fun h => by omega, fun i hi => by omega⟩, .inl ⟨rfl, rfl⟩⟩
  · have hlt : g < w.heap.size := (Array.getElem?_eq_some_iff.1 hg).1
    refine ⟨some ⟨g, 0, none⟩, cap, rfl, ⟨rfl, hnc, hl, hB, g, 0, fun _ => rfl, fun _ => hlt, fun i hi => ?_⟩, .inr ⟨g, rfl, hbg, hlt⟩⟩
    rw [Nat.zero_add]
    exact owned_cells ho i hi

set_option maxHeartbeats 400000 in
theorem same_walk (b1 o1 b2 o2 : Nat) (a1 a2 : Option Addr) (B : List Nat) (n c1 c2 : Nat) (w : World) (hl : n ≤ 140737488355328) (h1 : 0 < n → a1 = some ⟨b1, o1, none⟩) (h2 : 0 < n → a2 = some ⟨b2, o2, none⟩)
  (k1 : ∀ i, i < n → w.cell? ⟨b1, o1 + i, none⟩ = some (.int .u8 ((B.getD i 0 : Nat) : Int))) (k2 : ∀ i, i < n → w.cell? ⟨b2, o2 + i, none⟩ = some (.int .u8 ((B.getD i 0 : Nat) : Int))) :
    Calls Tryd.prog 11 #[.slice a1 n c1, .slice a2 n c2] w fun e w' => e = .returned (.bool true) ∧ ∃ q, w' = w.drewN q := by
  have H1 : Hid (0 < n → a1 = some ⟨b1, o1, none⟩) := h1
  have H2 : Hid (0 < n → a2 = some ⟨b2, o2, none⟩) := h2
  have K1 : Hid (∀ i, i < n → w.cell? ⟨b1, o1 + i, none⟩ = some (.int .u8 ((B.getD i 0 : Nat) : Int))) := k1
  have K2 : Hid (∀ i, i < n → w.cell? ⟨b2, o2 + i, none⟩ = some (.int .u8 ((B.getD i 0 : Nat) : Int))) := k2
  clear h1 h2 k1 k2
  go_enter Tryd.func11, Tryd.ntmps11
  go_wp2
  go_loopw [5] (fun i wr => ∃ k q : Nat, k ≤ n ∧ i = .int .i64 k ∧ wr = w.drewN q) (fun i _ => n - (intOf i).toNat)
  case atStart => exact ⟨0, 0, by omega, rfl, rfl⟩
  case round =>
    obtain ⟨k, q, hk, rfl, rfl⟩ := hrel
    by_cases hlt : k < n
    · obtain rfl := H1.out (by omega)
      obtain rfl := H2.out (by omega)
      have g1 := K1.out k hlt
      have g2 := K2.out k hlt
      generalize B.getD k 0 = c at *
      go_wp2
      go_quiet (fail)
      go_wp2
      go_roundw
      case rel => exact ⟨k + 1, _, by omega, by go_num, rfl⟩
      case measure => simp [intOf]; omega
    · go_wp2
      go_ret
      exact ⟨rfl, q, rfl⟩

theorem same_any {l1 l2 : Nat} {a1 a2 : Option Addr} {B : List Nat} {n1 n2 c1 c2 : Nat} {w : World} (h1 : Shows l1 w a1 n1 c1 B) (h2 : Shows l2 w a2 n2 c2 B) :
    Calls Tryd.prog 11 #[.slice a1 n1 c1, .slice a2 n2 c2] w fun e w' => e = .returned (.bool true) ∧ ∃ q, w' = w.drewN q := by
  obtain ⟨p1, _, p3, _, b, off, p5, _, p7⟩ := h1
  obtain ⟨q1, _, _, _, b', off', q5, _, q7⟩ := h2
  obtain rfl : n1 = n2 := by omega
  exact same_walk b off b' off' a1 a2 B n1 c1 c2 w p3 p5 q5 p7 q7

/-- A growing list of bytes: one more. -/
theorem Owns.snoc {base : Nat} {w w' : World} {v v' : Value} {B : List Nat} {c : Nat} (h : Owns base w v B) (hc : c < 256) (hl : B.length + 1 ≤ 140737488355328) (ho : w'.ownsRow base 5 1 v' (B.length + 1) (vals B ++ [.int .u8 (c : Int)])) : Owns base w' v' (B ++ [c]) := by
  refine ⟨?_, ?_, by simpa using hl⟩
  · rw [vals_append, vals_one, List.length_append]; exact ho
  · intro x hx
    rcases List.mem_append.1 hx with hx | hx
    · exact h.2.1 x hx
    · simp at hx; omega
theorem Owns.nil (base : Nat) (w : World) : Owns base w (.slice none 0 0) [] := ⟨World.ownsRow_nil _ _ _ _, by simp, by simp⟩

set_option maxHeartbeats 800000 in
theorem copy_walk (b off : Nat) (ao : Option Addr) (B : List Nat) (n cap : Nat) (w : World) (hao : 0 < n → ao = some ⟨b, off, none⟩) (hn : n = B.length) (hl : n ≤ 140737488355328) (hB : ∀ x ∈ B, x < 256)
  (hbw : 0 < n → b < w.heap.size) (hc : ∀ i, i < n → w.cell? ⟨b, off + i, none⟩ = some (.int .u8 ((B.getD i 0 : Nat) : Int))) :
    Calls Tryd.prog 26 #[.slice ao n cap] w fun e w' => ∃ v, e = .returned v ∧ Owns w.heap.size w' v B ∧ Below w.heap.size w w' := by
  obtain ⟨i0, hi, hz0, hz1, hz2⟩ := info_parts Tryd.info5
  have HA : Hid (0 < n → ao = some ⟨b, off, none⟩) := hao
  have HN : Hid (n = B.length) := hn
  have HB : Hid (∀ x ∈ B, x < 256) := hB
  have HW : Hid (0 < n → b < w.heap.size) := hbw
  have HC : Hid (∀ i, i < n → w.cell? ⟨b, off + i, none⟩ = some (.int .u8 ((B.getD i 0 : Nat) : Int))) := hc
  clear hao hn hB hbw hc
  go_enter Tryd.func26, Tryd.ntmps26
  go_wp2
  go_loopw [3, 4] (fun v i wr => ∃ k : Nat, k ≤ n ∧ i = .int .i64 k ∧ Hid (Owns w.heap.size wr v (B.take k)) ∧ Below w.heap.size w wr) (fun _ i _ => n - (intOf i).toNat)
  case atStart => exact ⟨0, by omega, rfl, by rw [List.take_zero]; exact Owns.nil _ _, Below.refl _ _⟩
  case round =>
    obtain ⟨k, hk, rfl, HO, hnx⟩ := hrel
    have hsize := hnx.size
    by_cases hlt : k < n
    · have hck := (hnx.cell (p := ⟨b, off + k, none⟩) (HW.out (by omega))).trans (HC.out k hlt)
      obtain rfl := HA.out (by omega)
      have hcb := getD_lt B HB.out k
      have htl : (B.take k).length = k := by rw [List.length_take]; have := HN.out; omega
      have hown : wr.ownsRow w.heap.size 5 1 u3 k (vals (B.take k)) := by have := HO.out.1; rw [htl] at this; exact this
      have HTS : Hid (B.take (k + 1) = B.take k ++ [B.getD k 0]) := take_snoc B k (by have := HN.out; omega)
      obtain ⟨c, hcd⟩ : ∃ c, c = B.getD k 0 := ⟨_, rfl⟩
      rw [← hcd] at hck hcb HTS
      clear hcd
      have HTL : Hid ((B.take k).length = k) := htl
      have HHO : Hid (wr.ownsRow w.heap.size 5 1 u3 k (vals (B.take k))) := hown
      clear htl hown
      go_wp2_with (first
        | (at_builtin; refine wpList_append_own _ rfl (.tmp 11) (.tmp 16) 22 rfl w.heap.size 5 i0 (.int .u8 0) 1 1 Tryd.underlying22 hi hz0 hz1 hz2 rfl (by decide) u3 k (vals (B.take k)) rfl (HHO.out.alloc _) ⟨wr.heap.size, 0, none⟩ 1 1 [.int .u8 (c : Int)] rfl rfl (cell_one_new _ _ _) (Shade.one _ rfl) (by unfold maxLen; omega) (by omega) (by simp; omega) ?_; intro v' w1 hown1 hgrow1 _))
      go_roundw
      case rel =>
        refine ⟨k + 1, by omega, by go_num, ?_, (hnx.alloc (by omega) _).grown hgrow1 (by simp; omega) (fun j hj => (HHO.out.lt j hj).1)⟩
        show Owns _ _ _ _
        rw [HTS.out]
        exact HO.out.snoc hcb (by rw [HTL.out]; omega) (by rw [HTL.out]; exact hown1)
      case measure => simp [intOf]; omega
    · have HTS : Hid (B.take k = B) := List.take_of_length_le (by have := HN.out; omega)
      go_wp2
      go_ret
      exact ⟨_, rfl, by have := HO.out; rw [HTS.out] at this; exact this, hnx⟩

theorem copy_any {lim : Nat} {ao : Option Addr} {B : List Nat} {n cap : Nat} {w : World} (h : Shows lim w ao n cap B) (hl : lim ≤ w.heap.size) :
    Calls Tryd.prog 26 #[.slice ao n cap] w fun e w' => ∃ v, e = .returned v ∧ Owns w.heap.size w' v B ∧ Below w.heap.size w w' := by
  obtain ⟨h1, h2, h3, h4, b, off, h5, h6, h7⟩ := h
  exact copy_walk b off ao B n cap w h5 h1 h3 h4 (fun h => Nat.lt_of_lt_of_le (h6 h) hl) h7

set_option maxHeartbeats 800000 in
theorem join_walk (b off : Nat) (ao co : Option Addr) (A B : List Nat) (m mcap n cap lim : Nat) (w : World) (hA : Shows lim w co m mcap A) (hlim : lim ≤ w.heap.size) (hao : 0 < n → ao = some ⟨b, off, none⟩) (hn : n = B.length) (hl : A.length + n ≤ 140737488355328) (hB : ∀ x ∈ B, x < 256)
  (hbw : 0 < n → b < w.heap.size) (hc : ∀ i, i < n → w.cell? ⟨b, off + i, none⟩ = some (.int .u8 ((B.getD i 0 : Nat) : Int))) :
    Calls Tryd.prog 20 #[.slice co m mcap, .slice ao n cap] w fun e w' => ∃ v, e = .returned v ∧ Owns w.heap.size w' v (A ++ B) ∧ Below w.heap.size w w' := by
  obtain ⟨i0, hi, hz0, hz1, hz2⟩ := info_parts Tryd.info5
  have HA : Hid (0 < n → ao = some ⟨b, off, none⟩) := hao
  have HN : Hid (n = B.length) := hn
  have HB : Hid (∀ x ∈ B, x < 256) := hB
  have HW : Hid (0 < n → b < w.heap.size) := hbw
  have HC : Hid (∀ i, i < n → w.cell? ⟨b, off + i, none⟩ = some (.int .u8 ((B.getD i 0 : Nat) : Int))) := hc
  have HCP := copy_any hA hlim
  have HCP' : Hid (Calls Tryd.prog 26 #[.slice co m mcap] w fun e w' => ∃ v, e = .returned v ∧ Owns w.heap.size w' v A ∧ Below w.heap.size w w') := HCP
  clear HCP hA hlim hao hn hB hbw hc
  go_enter Tryd.func20, Tryd.ntmps20
  go_wp2_with fail
  refine HCP'.out.mono ?_
  rintro e w1 ⟨v, rfl, ho1, hb1⟩
  have HO1 : Hid (Owns w.heap.size w1 v A) := ho1
  clear ho1
  go_wp2
  go_loopw [5, 6] (fun v i wr => ∃ k : Nat, k ≤ n ∧ i = .int .i64 k ∧ Hid (Owns w.heap.size wr v (A ++ B.take k)) ∧ Below w.heap.size w wr) (fun _ i _ => n - (intOf i).toNat)
  case atStart => exact ⟨0, by omega, rfl, by rw [List.take_zero, List.append_nil]; exact HO1.out, hb1⟩
  case round =>
    clear HO1 hb1
    obtain ⟨k, hk, rfl, HO, hnx⟩ := hrel
    have hsize := hnx.size
    by_cases hlt : k < n
    · have hck := (hnx.cell (p := ⟨b, off + k, none⟩) (HW.out (by omega))).trans (HC.out k hlt)
      obtain rfl := HA.out (by omega)
      have hcb := getD_lt B HB.out k
      have htl : (A ++ B.take k).length = A.length + k := by rw [List.length_append, List.length_take]; have := HN.out; omega
      have hown : wr.ownsRow w.heap.size 5 1 u5 (A.length + k) (vals (A ++ B.take k)) := by have := HO.out.1; rw [htl] at this; exact this
      have HTS : Hid (A ++ B.take (k + 1) = (A ++ B.take k) ++ [B.getD k 0]) := by show _ = _; rw [take_snoc B k (by have := HN.out; omega), List.append_assoc]
      obtain ⟨c, hcd⟩ : ∃ c, c = B.getD k 0 := ⟨_, rfl⟩
      rw [← hcd] at hck hcb HTS
      clear hcd
      have HTL : Hid ((A ++ B.take k).length = A.length + k) := htl
      have HHO : Hid (wr.ownsRow w.heap.size 5 1 u5 (A.length + k) (vals (A ++ B.take k))) := hown
      clear htl hown
      go_wp2_with (first
        | (at_builtin; refine wpList_append_own _ rfl (.tmp 15) (.tmp 20) 22 rfl w.heap.size 5 i0 (.int .u8 0) 1 1 Tryd.underlying22 hi hz0 hz1 hz2 rfl (by decide) u5 (A.length + k) (vals (A ++ B.take k)) rfl (HHO.out.alloc _) ⟨wr.heap.size, 0, none⟩ 1 1 [.int .u8 (c : Int)] rfl rfl (cell_one_new _ _ _) (Shade.one _ rfl) (by unfold maxLen; omega) (by omega) (by simp; omega) ?_; intro v' w1 hown1 hgrow1 _))
      go_roundw
      case rel =>
        refine ⟨k + 1, by omega, by go_num, ?_, (hnx.alloc (by omega) _).grown hgrow1 (by simp; omega) (fun j hj => (HHO.out.lt j hj).1)⟩
        show Owns _ _ _ _
        rw [HTS.out]
        exact HO.out.snoc hcb (by rw [HTL.out]; omega) (by rw [HTL.out]; exact hown1)
      case measure => simp [intOf]; omega
    · have HTS : Hid (B.take k = B) := List.take_of_length_le (by have := HN.out; omega)
      go_wp2
      go_ret
      exact ⟨_, rfl, by have := HO.out; rw [HTS.out] at this; exact this, hnx⟩

theorem join_any {l1 l2 : Nat} {a1 a2 : Option Addr} {A B : List Nat} {n1 n2 c1 c2 : Nat} {w : World} (h1 : Shows l1 w a1 n1 c1 A) (hl1 : l1 ≤ w.heap.size) (h : Shows l2 w a2 n2 c2 B) (hl2 : l2 ≤ w.heap.size) (hl : A.length + n2 ≤ 140737488355328) :
    Calls Tryd.prog 20 #[.slice a1 n1 c1, .slice a2 n2 c2] w fun e w' => ∃ v, e = .returned v ∧ Owns w.heap.size w' v (A ++ B) ∧ Below w.heap.size w w' := by
  obtain ⟨p1, p2, p3, p4, b, off, p5, p6, p7⟩ := h
  exact join_walk b off a2 a1 A B n1 c1 n2 c2 l1 w h1 hl1 p5 p1 hl p4 (fun h => Nat.lt_of_lt_of_le (p6 h) hl2) p7
end Go.Proofs.YtbfjeabngdiejaaDoor
