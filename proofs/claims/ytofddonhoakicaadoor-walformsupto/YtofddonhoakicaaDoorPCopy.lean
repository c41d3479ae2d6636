import Derived.Test.YtofddonhoakicaaDoorPBase
namespace Go.Proofs.YtofddonhoakicaaDoor
open Go.RowKit Crc

set_option maxRecDepth 10000 in
set_option maxHeartbeats 800000 in
theorem copy_walk (b off : Nat) (ao : Option Addr) (B : List Nat) (n cap : Nat) (w : World) (hao : 0 < n → ao = some ⟨b, off, none⟩) (hn : n = B.length) (hl : n ≤ 140737488355328) (hB : ∀ x ∈ B, x < 256)
  (hbw : 0 < n → b < w.heap.size) (hc : ∀ i, i < n → w.cell? ⟨b, off + i, none⟩ = some (.int .u8 ((B.getD i 0 : Nat) : Int))) :
    Calls Tryd.prog 35 #[.slice ao n cap] w fun e w' => ∃ v, e = .returned v ∧ Owns w.heap.size w' v B ∧ Below w.heap.size w w' := by
  obtain ⟨i0, hi, hz0, hz1, hz2⟩ := info_parts Tryd.info5
  have HA : Hid (0 < n → ao = some ⟨b, off, none⟩) := hao
  have HN : Hid (n = B.length) := hn
  have HB : Hid (∀ x ∈ B, x < 256) := hB
  have HW : Hid (0 < n → b < w.heap.size) := hbw
  have HC : Hid (∀ i, i < n → w.cell? ⟨b, off + i, none⟩ = some (.int .u8 ((B.getD i 0 : Nat) : Int))) := hc
  clear hao hn hB hbw hc
  go_enter Tryd.func35, Tryd.ntmps35
  go_wp2
  go_loopw [3, 4] (fun v i wr => ∃ k : Nat, k ≤ n ∧ i = .int .i64 k ∧ Hid (Owns w.heap.size wr v (B.take k)) ∧ Below w.heap.size w wr) (fun _ i _ => n - (intOf i).toNat)
  case atStart => exact ⟨0, by omega, rfl, by rw [List.take_zero]; exact Owns.nil _ _, Below.refl _ _⟩
  case round =>
    obtain ⟨k, hk, rfl, HO, hnx⟩ := hrel
    have hsize := hnx.size
    by_cases hlt : k < n
    · have hck := (hnx.cell (p := ⟨b, off + k, none⟩) (HW.out (by omega))).trans (HC.out k hlt)
      obtain rfl := HA.out (by omega)
      have hcb := getD_lt B HB.out k
      have htl : (B.take k).length = k := by rw [List.length_take]; have := HN.out; omega
      have hown : wr.ownsRow w.heap.size 5 1 u3 k (vals (B.take k)) := by have := HO.out.1; rw [htl] at this; exact this
      have HTS : Hid (B.take (k + 1) = B.take k ++ [B.getD k 0]) := take_snoc B k (by have := HN.out; omega)
      obtain ⟨c, hcd⟩ : ∃ c, c = B.getD k 0 := ⟨_, rfl⟩
      rw [← hcd] at hck hcb HTS
      clear hcd
      have HTL : Hid ((B.take k).length = k) := htl
      have HHO : Hid (wr.ownsRow w.heap.size 5 1 u3 k (vals (B.take k))) := hown
      clear htl hown
      go_wp2_with (first
        | (at_builtin; refine wpList_append_own _ rfl (.tmp 11) (.tmp 16) 25 rfl w.heap.size 5 i0 (.int .u8 0) 1 1 Tryd.underlying25 hi hz0 hz1 hz2 rfl (by decide) u3 k (vals (B.take k)) rfl (HHO.out.alloc _) ⟨wr.heap.size, 0, none⟩ 1 1 [.int .u8 (c : Int)] rfl rfl (cell_one_new _ _ _) (Shade.one _ rfl) (by unfold maxLen; omega) (by omega) (by simp; omega) ?_; intro v' w1 hown1 hgrow1 _))
      go_roundw
      case rel =>
        refine ⟨k + 1, by omega, by go_num, ?_, (hnx.alloc (by omega) _).grown hgrow1 (by simp; omega) (fun j hj => (HHO.out.lt j hj).1)⟩
        show Owns _ _ _ _
        rw [HTS.out]
        exact HO.out.snoc hcb (by rw [HTL.out]; omega) (by rw [HTL.out]; exact hown1)
      case measure => simp [intOf]; omega
    · have HTS : Hid (B.take k = B) := List.take_of_length_le (by have := HN.out; omega)
      go_wp2
      go_ret
      exact ⟨_, rfl, by have := HO.out; rw [HTS.out] at this; exact this, hnx⟩
theorem copy_any {lim : Nat} {ao : Option Addr} {B : List Nat} {n cap : Nat} {w : World} (h : Shows lim w ao n cap B) (hl : lim ≤ w.heap.size) :
    Calls Tryd.prog 35 #[.slice ao n cap] w fun e w' => ∃ v, e = .returned v ∧ Owns w.heap.size w' v B ∧ Below w.heap.size w w' := by
  obtain ⟨h1, h2, h3, h4, b, off, h5, h6, h7⟩ := h
  exact copy_walk b off ao B n cap w h5 h1 h3 h4 (fun h => Nat.lt_of_lt_of_le (h6 h) hl) h7
set_option maxRecDepth 10000 in
set_option maxHeartbeats 800000 in
theorem join_walk (b off : Nat) (ao co : Option Addr) (A B : List Nat) (m mcap n cap lim : Nat) (w : World) (hA : Shows lim w co m mcap A) (hlim : lim ≤ w.heap.size) (hao : 0 < n → ao = some ⟨b, off, none⟩) (hn : n = B.length) (hl : A.length + n ≤ 140737488355328) (hB : ∀ x ∈ B, x < 256)
  (hbw : 0 < n → b < w.heap.size) (hc : ∀ i, i < n → w.cell? ⟨b, off + i, none⟩ = some (.int .u8 ((B.getD i 0 : Nat) : Int))) :
    Calls Tryd.prog 24 #[.slice co m mcap, .slice ao n cap] w fun e w' => ∃ v, e = .returned v ∧ Owns w.heap.size w' v (A ++ B) ∧ Below w.heap.size w w' := by
  obtain ⟨i0, hi, hz0, hz1, hz2⟩ := info_parts Tryd.info5
  have HA : Hid (0 < n → ao = some ⟨b, off, none⟩) := hao
  have HN : Hid (n = B.length) := hn
  have HB : Hid (∀ x ∈ B, x < 256) := hB
  have HW : Hid (0 < n → b < w.heap.size) := hbw
  have HC : Hid (∀ i, i < n → w.cell? ⟨b, off + i, none⟩ = some (.int .u8 ((B.getD i 0 : Nat) : Int))) := hc
  have HCP := copy_any hA hlim
  have HCP' : Hid (Calls Tryd.prog 35 #[.slice co m mcap] w fun e w' => ∃ v, e = .returned v ∧ Owns w.heap.size w' v A ∧ Below w.heap.size w w') := HCP
  clear HCP hA hlim hao hn hB hbw hc
  go_enter Tryd.func24, Tryd.ntmps24
  go_wp2_with fail
  refine HCP'.out.mono ?_
  rintro e w1 ⟨v, rfl, ho1, hb1⟩
  have HO1 : Hid (Owns w.heap.size w1 v A) := ho1
  clear ho1
  go_wp2
  go_loopw [5, 6] (fun v i wr => ∃ k : Nat, k ≤ n ∧ i = .int .i64 k ∧ Hid (Owns w.heap.size wr v (A ++ B.take k)) ∧ Below w.heap.size w wr) (fun _ i _ => n - (intOf i).toNat)
  case atStart => exact ⟨0, by omega, rfl, by rw [List.take_zero, List.append_nil]; exact HO1.out, hb1⟩
  case round =>
    clear HO1 hb1
    obtain ⟨k, hk, rfl, HO, hnx⟩ := hrel
    have hsize := hnx.size
    by_cases hlt : k < n
    · have hck := (hnx.cell (p := ⟨b, off + k, none⟩) (HW.out (by omega))).trans (HC.out k hlt)
      obtain rfl := HA.out (by omega)
      have hcb := getD_lt B HB.out k
      have htl : (A ++ B.take k).length = A.length + k := by rw [List.length_append, List.length_take]; have := HN.out; omega
      have hown : wr.ownsRow w.heap.size 5 1 u5 (A.length + k) (vals (A ++ B.take k)) := by have := HO.out.1; rw [htl] at this; exact this
      have HTS : Hid (A ++ B.take (k + 1) = (A ++ B.take k) ++ [B.getD k 0]) := by show _ = _; rw [take_snoc B k (by have := HN.out; omega), List.append_assoc]
      obtain ⟨c, hcd⟩ : ∃ c, c = B.getD k 0 := ⟨_, rfl⟩
      rw [← hcd] at hck hcb HTS
      clear hcd
      have HTL : Hid ((A ++ B.take k).length = A.length + k) := htl
      have HHO : Hid (wr.ownsRow w.heap.size 5 1 u5 (A.length + k) (vals (A ++ B.take k))) := hown
      clear htl hown
      go_wp2_with (first
        | (at_builtin; refine wpList_append_own _ rfl (.tmp 15) (.tmp 20) 25 rfl w.heap.size 5 i0 (.int .u8 0) 1 1 Tryd.underlying25 hi hz0 hz1 hz2 rfl (by decide) u5 (A.length + k) (vals (A ++ B.take k)) rfl (HHO.out.alloc _) ⟨wr.heap.size, 0, none⟩ 1 1 [.int .u8 (c : Int)] rfl rfl (cell_one_new _ _ _) (Shade.one _ rfl) (by unfold maxLen; omega) (by omega) (by simp; omega) ?_; intro v' w1 hown1 hgrow1 _))
      go_roundw
      case rel =>
        refine ⟨k + 1, by omega, by go_num, ?_, (hnx.alloc (by omega) _).grown hgrow1 (by simp; omega) (fun j hj => (HHO.out.lt j hj).1)⟩
        show Owns _ _ _ _
        rw [HTS.out]
        exact HO.out.snoc hcb (by rw [HTL.out]; omega) (by rw [HTL.out]; exact hown1)
      case measure => simp [intOf]; omega
    · have HTS : Hid (B.take k = B) := List.take_of_length_le (by have := HN.out; omega)
      go_wp2
      go_ret
      exact ⟨_, rfl, by have := HO.out; rw [HTS.out] at this; exact this, hnx⟩
theorem join_any {l1 l2 : Nat} {a1 a2 : Option Addr} {A B : List Nat} {n1 n2 c1 c2 : Nat} {w : World} (h1 : Shows l1 w a1 n1 c1 A) (hl1 : l1 ≤ w.heap.size) (h : Shows l2 w a2 n2 c2 B) (hl2 : l2 ≤ w.heap.size) (hl : A.length + n2 ≤ 140737488355328) :
    Calls Tryd.prog 24 #[.slice a1 n1 c1, .slice a2 n2 c2] w fun e w' => ∃ v, e = .returned v ∧ Owns w.heap.size w' v (A ++ B) ∧ Below w.heap.size w w' := by
  obtain ⟨p1, p2, p3, p4, b, off, p5, p6, p7⟩ := h
  exact join_walk b off a2 a1 A B n1 c1 n2 c2 l1 w h1 hl1 p5 p1 hl p4 (fun h => Nat.lt_of_lt_of_le (p6 h) hl2) p7
end Go.Proofs.YtofddonhoakicaaDoor
