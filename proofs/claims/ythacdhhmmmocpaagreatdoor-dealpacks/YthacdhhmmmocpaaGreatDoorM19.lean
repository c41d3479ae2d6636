import Derived.Test.YthacdhhmmmocpaaGreatDoorM1
import Derived.Test.YthacdhhmmmocpaaGreatDoorM16
namespace Go.Proofs.YthacdhhmmmocpaaGreatDoor
open Go.RowKit Crc

set_option maxRecDepth 10000 in
set_option maxHeartbeats 800000 in
theorem copy_walk (b off : Nat) (ao : Option Addr) (B : List Nat) (n cap : Nat) (w : World) (hao : 0 < n → ao = some ⟨b, off, none⟩) (hn : n = B.length) (hl : n ≤ 140737488355328) (hB : ∀ x ∈ B, x < 256)
  (hbw : 0 < n → b < w.heap.size) (hc : ∀ i, i < n → w.cell? ⟨b, off + i, none⟩ = some (.int .u8 ((B.getD i 0 : Nat) : Int))) :
    Calls Tryz.prog 56 #[.slice ao n cap] w fun e w' => ∃ v, e = .returned v ∧ Owns w.heap.size w' v B ∧ Below w.heap.size w w' := by
  obtain ⟨i0, hi, hz0, hz1, hz2⟩ := info_parts Tryz.info5
  have HA : Hid (0 < n → ao = some ⟨b, off, none⟩) := hao
  have HN : Hid (n = B.length) := hn
  have HB : Hid (∀ x ∈ B, x < 256) := hB
  have HW : Hid (0 < n → b < w.heap.size) := hbw
  have HC : Hid (∀ i, i < n → w.cell? ⟨b, off + i, none⟩ = some (.int .u8 ((B.getD i 0 : Nat) : Int))) := hc
  clear hao hn hB hbw hc
  go_enter Tryz.func56, Tryz.ntmps56
  go_wp2
  go_loopw [3, 4] (fun v i wr => ∃ k : Nat, k ≤ n ∧ i = .int .i64 k ∧ Hid (Owns w.heap.size wr v (B.take k)) ∧ Below w.heap.size w wr) (fun _ i _ => n - (intOf i).toNat)
  case atStart => exact ⟨0, by omega, rfl, by rw [List.take_zero]; exact Owns.nil _ _, Below.refl _ _⟩
  case round =>
    obtain ⟨k, hk, rfl, HO, hnx⟩ := hrel
    have hsize := hnx.size
    by_cases hlt : k < n
    · have hck := (hnx.cell (p := ⟨b, off + k, none⟩) (HW.out (by omega))).trans (HC.out k hlt)
      obtain rfl := HA.out (by omega)
      have hcb := getD_lt B HB.out k
      have htl : (B.take k).length = k := by rw [List.length_take]; have := HN.out; omega
      have hown : wr.ownsRow w.heap.size 5 1 u3 k (vals (B.take k)) := by have := HO.out.1; rw [htl] at this; exact this
      have HTS : Hid (B.take (k + 1) = B.take k ++ [B.getD k 0]) := take_snoc B k (by have := HN.out; omega)
      obtain ⟨c, hcd⟩ : ∃ c, c = B.getD k 0 := ⟨_, rfl⟩
      rw [← hcd] at hck hcb HTS
      clear hcd
      have HTL : Hid ((B.take k).length = k) := htl
      have HHO : Hid (wr.ownsRow w.heap.size 5 1 u3 k (vals (B.take k))) := hown
      clear htl hown
      go_wp2_with (first
        | (at_builtin; refine wpList_append_own _ rfl (.tmp 11) (.tmp 16) 26 rfl w.heap.size 5 i0 (.int .u8 0) 1 1 Tryz.underlying26 hi hz0 hz1 hz2 rfl (by decide) u3 k (vals (B.take k)) rfl (HHO.out.alloc _) ⟨wr.heap.size, 0, none⟩ 1 1 [.int .u8 (c : Int)] rfl rfl (cell_one_new _ _ _) (Shade.one _ rfl) (by unfold maxLen; omega) (by omega) (by simp; omega) ?_; intro v' w1 hown1 hgrow1 _))
      go_roundw
      case rel =>
        refine ⟨k + 1, by omega, by go_num, ?_, (hnx.alloc (by omega) _).grown hgrow1 (by simp; omega) (fun j hj => (HHO.out.lt j hj).1)⟩
        show Owns _ _ _ _
        rw [HTS.out]
        exact HO.out.snoc hcb (by rw [HTL.out]; omega) (by rw [HTL.out]; exact hown1)
      case measure => simp [intOf]; omega
    · have HTS : Hid (B.take k = B) := List.take_of_length_le (by have := HN.out; omega)
      go_wp2
      go_ret
      exact ⟨_, rfl, by have := HO.out; rw [HTS.out] at this; exact this, hnx⟩
theorem copy_any {lim : Nat} {ao : Option Addr} {B : List Nat} {n cap : Nat} {w : World} (h : Shows lim w ao n cap B) (hl : lim ≤ w.heap.size) :
    Calls Tryz.prog 56 #[.slice ao n cap] w fun e w' => ∃ v, e = .returned v ∧ Owns w.heap.size w' v B ∧ Below w.heap.size w w' := by
  obtain ⟨h1, h2, h3, h4, b, off, h5, h6, h7⟩ := h
  exact copy_walk b off ao B n cap w h5 h1 h3 h4 (fun h => Nat.lt_of_lt_of_le (h6 h) hl) h7
set_option maxRecDepth 10000 in
set_option maxHeartbeats 800000 in
theorem join_walk (b off : Nat) (ao co : Option Addr) (A B : List Nat) (m mcap n cap lim : Nat) (w : World) (hA : Shows lim w co m mcap A) (hlim : lim ≤ w.heap.size) (hao : 0 < n → ao = some ⟨b, off, none⟩) (hn : n = B.length) (hl : A.length + n ≤ 140737488355328) (hB : ∀ x ∈ B, x < 256)
  (hbw : 0 < n → b < w.heap.size) (hc : ∀ i, i < n → w.cell? ⟨b, off + i, none⟩ = some (.int .u8 ((B.getD i 0 : Nat) : Int))) :
    Calls Tryz.prog 27 #[.slice co m mcap, .slice ao n cap] w fun e w' => ∃ v, e = .returned v ∧ Owns w.heap.size w' v (A ++ B) ∧ Below w.heap.size w w' := by
  obtain ⟨i0, hi, hz0, hz1, hz2⟩ := info_parts Tryz.info5
  have HA : Hid (0 < n → ao = some ⟨b, off, none⟩) := hao
  have HN : Hid (n = B.length) := hn
  have HB : Hid (∀ x ∈ B, x < 256) := hB
  have HW : Hid (0 < n → b < w.heap.size) := hbw
  have HC : Hid (∀ i, i < n → w.cell? ⟨b, off + i, none⟩ = some (.int .u8 ((B.getD i 0 : Nat) : Int))) := hc
  have HCP := copy_any hA hlim
  have HCP' : Hid (Calls Tryz.prog 56 #[.slice co m mcap] w fun e w' => ∃ v, e = .returned v ∧ Owns w.heap.size w' v A ∧ Below w.heap.size w w') := HCP
  clear HCP hA hlim hao hn hB hbw hc
  go_enter Tryz.func27, Tryz.ntmps27
  go_wp2_with fail
  refine HCP'.out.mono ?_
  rintro e w1 ⟨v, rfl, ho1, hb1⟩
  have HO1 : Hid (Owns w.heap.size w1 v A) := ho1
  clear ho1
  go_wp2
  go_loopw [5, 6] (fun v i wr => ∃ k : Nat, k ≤ n ∧ i = .int .i64 k ∧ Hid (Owns w.heap.size wr v (A ++ B.take k)) ∧ Below w.heap.size w wr) (fun _ i _ => n - (intOf i).toNat)
  case atStart => exact ⟨0, by omega, rfl, by rw [List.take_zero, List.append_nil]; exact HO1.out, hb1⟩
  case round =>
    clear HO1 hb1
    obtain ⟨k, hk, rfl, HO, hnx⟩ := hrel
    have hsize := hnx.size
    by_cases hlt : k < n
    · have hck := (hnx.cell (p := ⟨b, off + k, none⟩) (HW.out (by omega))).trans (HC.out k hlt)
      obtain rfl := HA.out (by omega)
      have hcb := getD_lt B HB.out k
      have htl : (A ++ B.take k).length = A.length + k := by rw [List.length_append, List.length_take]; have := HN.out; omega
      have hown : wr.ownsRow w.heap.size 5 1 u5 (A.length + k) (vals (A ++ B.take k)) := by have := HO.out.1; rw [htl] at this; exact this
      have HTS : Hid (A ++ B.take (k + 1) = (A ++ B.take k) ++ [B.getD k 0]) := by show _ = _; rw [take_snoc B k (by have := HN.out; omega), List.append_assoc]
      obtain ⟨c, hcd⟩ : ∃ c, c = B.getD k 0 := ⟨_, rfl⟩
      rw [← hcd] at hck hcb HTS
      clear hcd
      have HTL : Hid ((A ++ B.take k).length = A.length + k) := htl
      have HHO : Hid (wr.ownsRow w.heap.size 5 1 u5 (A.length + k) (vals (A ++ B.take k))) := hown
      clear htl hown
      go_wp2_with (first
        | (at_builtin; refine wpList_append_own _ rfl (.tmp 15) (.tmp 20) 26 rfl w.heap.size 5 i0 (.int .u8 0) 1 1 Tryz.underlying26 hi hz0 hz1 hz2 rfl (by decide) u5 (A.length + k) (vals (A ++ B.take k)) rfl (HHO.out.alloc _) ⟨wr.heap.size, 0, none⟩ 1 1 [.int .u8 (c : Int)] rfl rfl (cell_one_new _ _ _) (Shade.one _ rfl) (by unfold maxLen; omega) (by omega) (by simp; omega) ?_; intro v' w1 hown1 hgrow1 _))
      go_roundw
      case rel =>
        refine ⟨k + 1, by omega, by go_num, ?_, (hnx.alloc (by omega) _).grown hgrow1 (by simp; omega) (fun j hj => (HHO.out.lt j hj).1)⟩
        show Owns _ _ _ _
        rw [HTS.out]
        exact HO.out.snoc hcb (by rw [HTL.out]; omega) (by rw [HTL.out]; exact hown1)
      case measure => simp [intOf]; omega
    · have HTS : Hid (B.take k = B) := List.take_of_length_le (by have := HN.out; omega)
      go_wp2
      go_ret
      exact ⟨_, rfl, by have := HO.out; rw [HTS.out] at this; exact this, hnx⟩
theorem join_any {l1 l2 : Nat} {a1 a2 : Option Addr} {A B : List Nat} {n1 n2 c1 c2 : Nat} {w : World} (h1 : Shows l1 w a1 n1 c1 A) (hl1 : l1 ≤ w.heap.size) (h : Shows l2 w a2 n2 c2 B) (hl2 : l2 ≤ w.heap.size) (hl : A.length + n2 ≤ 140737488355328) :
    Calls Tryz.prog 27 #[.slice a1 n1 c1, .slice a2 n2 c2] w fun e w' => ∃ v, e = .returned v ∧ Owns w.heap.size w' v (A ++ B) ∧ Below w.heap.size w w' := by
  obtain ⟨p1, p2, p3, p4, b, off, p5, p6, p7⟩ := h
  exact join_walk b off a2 a1 A B n1 c1 n2 c2 l1 w h1 hl1 p5 p1 hl p4 (fun h => Nat.lt_of_lt_of_le (p6 h) hl2) p7
end Go.Proofs.YthacdhhmmmocpaaGreatDoor
namespace Go.Proofs.YthacdhhmmmocpaaGreatDoor
open Go.RowKit Crc

/-- Nil, or a block's. -/
def NilOr (ao : Option Addr) (cap d n : Nat) : Prop := ao = some ⟨d, 0, none⟩ ∨ ao = none ∧ cap = 0 ∧ n = 0
/-- The reference's reader as it lies: its bytes in block d. -/
def RefS (d : Nat) (w : World) (p : Nat) (s : RS) : Prop :=
  ∃ ao cap, w.heap[p]? = some (.cells #[.bool s.made, .slice ao s.B.length cap, .int .i64 (s.pos : Int), .int .i64 s.why, .int .i64 s.place] 84 (0, 0)) ∧ (s.B.length ≤ cap ∧ NilOr ao cap d s.B.length) ∧ s.B.length ≤ 140737488355328 ∧ (∀ x ∈ s.B, x < 256) ∧ s.pos ≤ s.B.length ∧
    (0 < s.B.length → ao = some ⟨d, 0, none⟩) ∧ (0 < s.B.length → d ≠ p) ∧ ∀ i, i < s.B.length → w.cell? ⟨d, i, none⟩ = some (.int .u8 ((s.B.getD i 0 : Nat) : Int))
theorem RefS.kept {d : Nat} {w w' : World} {p : Nat} {s : RS} {row : Option Nat} (h : RefS d w p s) (hg : w.grownBy w' row) (hp : row ≠ some p) (hd : row ≠ some d) : RefS d w' p s := by
  obtain ⟨ao, cap, hb, h1, h2, h3, h4, h5, h6, h7⟩ := h
  refine ⟨ao, cap, ?_, h1, h2, h3, h4, h5, h6, fun i hi => ?_⟩
  · rw [hg.block p (block_lt hb) (fun e => hp e.symm)]; exact hb
  · exact hg.cell (h7 i hi) (fun e => hd e.symm)

set_option maxRecDepth 10000 in
theorem dead_sound (d p : Nat) (s : RS) (w : World) (hR : RefS d w p s) (hs : s.sound) :
    Calls Tryz.prog 42 #[.pointer (some ⟨p, 0, none⟩)] w fun e w' => e = .returned (.bool false) ∧ w' = w := by
  obtain ⟨ao, cap, hb, -⟩ := hR
  have c0 := block_cell hb 0
  have c3 := block_cell hb 3
  simp at c0 c3
  rw [hs.1] at c0
  rw [hs.2] at c3
  clear hb hs
  go_enter Tryz.func42, Tryz.ntmps42
  go_wp2
  go_ret
  exact ⟨rfl, rfl⟩

set_option maxRecDepth 10000 in
theorem dead_not (d p : Nat) (s : RS) (w : World) (hR : RefS d w p s) (hs : ¬ s.sound) :
    Calls Tryz.prog 42 #[.pointer (some ⟨p, 0, none⟩)] w fun e w' => e = .returned (.bool true) ∧ w' = w := by
  obtain ⟨ao, cap, hb, -⟩ := hR
  have c0 := block_cell hb 0
  have c3 := block_cell hb 3
  simp at c0 c3
  clear hb
  unfold RS.sound at hs
  by_cases hm : s.made = true
  · rw [hm] at c0
    generalize s.why = why at *
    have hwb : (why != 0) = true := by simp; intro h; exact hs ⟨hm, h⟩
    clear hs hm
    go_enter Tryz.func42, Tryz.ntmps42
    go_wp2
    go_ret
    exact ⟨rfl, rfl⟩
  · have hm : s.made = false := by simpa using hm
    rw [hm] at c0
    clear hm hs c3
    go_enter Tryz.func42, Tryz.ntmps42
    go_wp2
    go_ret
    exact ⟨rfl, rfl⟩

set_option maxRecDepth 10000 in
theorem refLeft_any (d p : Nat) (s : RS) (w : World) (hR : RefS d w p s) (hz : s.made = false → s.B.length = s.pos) :
    Calls Tryz.prog 64 #[.pointer (some ⟨p, 0, none⟩)] w fun e w' => e = .returned (.int .i64 ((s.B.length - s.pos : Nat) : Int)) ∧ ∃ q, w' = w.drewN q := by
  obtain ⟨ao, cap, hb, h1, h2, h3, h4, -⟩ := hR
  have c0 := block_cell hb 0
  have c1 := block_cell hb 1
  have c2 := block_cell hb 2
  simp at c0 c1 c2
  clear hb h1
  have HE : Hid ((s.B.length : Int) - (s.pos : Int) = ((s.B.length - s.pos : Nat) : Int)) := by show _ = _; omega
  by_cases hm : s.made = true
  · rw [hm] at c0
    clear hz hm
    generalize s.B.length = n at *
    generalize s.pos = pos at *
    have h0 : (pos : Int) ≤ (n : Int) := by omega
    go_enter Tryz.func64, Tryz.ntmps64
    go_wp2_with fail
    go_quiet (fail)
    go_wp2
    go_ret
    exact ⟨by rw [← HE.out]; rfl, _, rfl⟩
  · have hm : s.made = false := by simpa using hm
    have hz := hz hm
    rw [hm] at c0
    have HZ : Hid (s.B.length - s.pos = 0) := by show _ = _; omega
    clear hz hm
    go_enter Tryz.func64, Tryz.ntmps64
    go_wp2
    go_ret
    exact ⟨by rw [HZ.out]; rfl, 0, rfl⟩

set_option maxRecDepth 10000 in
theorem refFail_any (d p : Nat) (s : RS) (code : Int) (at_ : Nat) (w : World) (hR : RefS d w p s) (ha : at_ ≤ s.B.length) :
    Calls Tryz.prog 65 #[.pointer (some ⟨p, 0, none⟩), .int .i64 code, .int .i64 (at_ : Int)] w fun e w' => e = .returned (.tuple #[]) ∧ RefS d w' p { s with why := code, place := at_, pos := at_ } ∧ w.grownBy w' (some p) := by
  obtain ⟨ao, cap, hb, h1, h2, h3, h4, h5, h6, h7⟩ := hR
  have f2 := block_free hb 2
  have f3 := block_free hb 3
  have f4 := block_free hb 4
  have c2 := block_cell hb 2
  have c3 := block_cell hb 3
  have c4 := block_cell hb 4
  simp at c2 c3 c4
  have HF : Hid (RefS d (((w.setCell ⟨p, 2, none⟩ (.int .i64 (at_ : Int))).setCell ⟨p, 3, none⟩ (.int .i64 code)).setCell ⟨p, 4, none⟩ (.int .i64 (at_ : Int))) p { s with why := code, place := at_, pos := at_ } ∧ w.grownBy (((w.setCell ⟨p, 2, none⟩ (.int .i64 (at_ : Int))).setCell ⟨p, 3, none⟩ (.int .i64 code)).setCell ⟨p, 4, none⟩ (.int .i64 (at_ : Int))) (some p)) := by
    have hg : w.grownBy (((w.setCell ⟨p, 2, none⟩ (.int .i64 (at_ : Int))).setCell ⟨p, 3, none⟩ (.int .i64 code)).setCell ⟨p, 4, none⟩ (.int .i64 (at_ : Int))) (some p) := grown_trans (row := some p) (grown_trans (row := some p) (grown_set w _ _ _) (grown_set _ _ _ _)) (grown_set _ _ _ _)
    refine ⟨⟨ao, cap, ?_, h1, h2, h3, ha, h5, h6, fun i hi => ?_⟩, hg⟩
    · have hb1 : (w.setCell ⟨p, 2, none⟩ (.int .i64 (at_ : Int))).heap[p]? = some (.cells #[.bool s.made, .slice ao s.B.length cap, .int .i64 (at_ : Int), .int .i64 s.why, .int .i64 s.place] 84 (0, 0)) := by
        rw [heap_setCell_same w p 2 _ _ _ hb]; simp
      have hb2 : ((w.setCell ⟨p, 2, none⟩ (.int .i64 (at_ : Int))).setCell ⟨p, 3, none⟩ (.int .i64 code)).heap[p]? = some (.cells #[.bool s.made, .slice ao s.B.length cap, .int .i64 (at_ : Int), .int .i64 code, .int .i64 s.place] 84 (0, 0)) := by
        rw [heap_setCell_same _ p 3 _ _ _ hb1]; simp
      rw [heap_setCell_same _ p 4 _ _ _ hb2]; simp
    · exact hg.cell (h7 i hi) (fun e => h6 (by simp only at hi; omega) (by cases e; rfl))
  clear hb h1 h2 h3 h4 h5 h6 h7 ha
  go_enter Tryz.func65, Tryz.ntmps65
  go_wp2
  go_end0
  exact ⟨rfl, HF.out⟩
end Go.Proofs.YthacdhhmmmocpaaGreatDoor
