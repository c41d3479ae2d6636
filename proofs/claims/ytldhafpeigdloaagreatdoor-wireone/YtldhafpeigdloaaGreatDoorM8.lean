import Derived.Test.YtldhafpeigdloaaGreatDoorM7
import Derived.Test.YtldhafpeigdloaaGreatDoorM0
import Derived.Test.YtldhafpeigdloaaGreatDoorM4
import Derived.Lib.ConvBytes
import Derived.Test.YtldhafpeigdloaaGreatDoorM6
namespace Go.Proofs.YtldhafpeigdloaaGreatDoor
open Go.RowKit Crc

end Go.Proofs.YtldhafpeigdloaaGreatDoor
namespace Go.Proofs.YtldhafpeigdloaaGreatDoor
open Go.RowKit Crc

theorem bGo_ok : ∀ (rs : List Rq) (i : Nat), (bGo rs i).2 = 0 → ∀ r ∈ rs, r.why = 0
  | [], _, _, r, hr => by cases hr
  | x :: t, i, h, r, hr => by
    by_cases hx : x.why = 0
    · rw [bGo, if_pos hx] at h
      rcases List.mem_cons.1 hr with rfl | hr
      · exact hx
      · exact bGo_ok t (i + 1) h r hr
    · rw [bGo, if_neg hx] at h
      exact absurd h hx
theorem Rq.why_ok {r : Rq} (h : r.why = 0) : 256 ≤ r.cl ∧ r.cn ≤ 700 := by
  unfold Rq.why at h
  by_cases h1 : r.cl < 256
  · rw [if_pos h1] at h; cases h
  · by_cases h2 : 700 < r.cn
    · rw [if_neg h1, if_pos h2] at h; cases h
    · omega
theorem bFault_ok {stamp : Nat} {rs : List Rq} (h : (bFault stamp rs).2 = 0) : stamp ≤ 1099511627776 ∧ rs.length ≤ 8 ∧ ∀ r ∈ rs, 256 ≤ r.cl ∧ r.cn ≤ 700 := by
  unfold bFault at h
  by_cases h1 : 1099511627776 < stamp
  · rw [if_pos h1] at h; cases h
  · by_cases h2 : 8 < rs.length
    · rw [if_neg h1, if_pos h2] at h; cases h
    · rw [if_neg h1, if_neg h2] at h
      exact ⟨by omega, by omega, fun r hr => Rq.why_ok (bGo_ok rs 0 h r hr)⟩

def encR (r : Rq) : List Nat := numB r.cl ++ (numB r.sq ++ (numB r.cn ++ r.C))
def encL (stamp : Nat) (rs : List Rq) : List Nat := numB stamp ++ (numB rs.length ++ (rs.map encR).flatten)

theorem put_fits {s : WS} (hs : s.sound) {F : List Nat} (h : ((s.L.length + F.length : Nat) : Int) ≤ s.most) : s.put F 0 = { s with L := s.L ++ F } := WS.put_takes ⟨hs, rfl, h⟩

theorem layGo_ok : ∀ (rs : List Rq) (s : WS), s.sound → ((s.L.length + 730 * rs.length : Nat) : Int) ≤ s.most → (∀ r ∈ rs, r.cn ≤ 700 ∧ r.cn = r.C.length ∧ (numB r.cl).length ≤ 10 ∧ (numB r.sq).length ≤ 10 ∧ (numB r.cn).length ≤ 10) → layGo s rs = { s with L := s.L ++ (rs.map encR).flatten }
  | [], s, _, _, _ => by simp [layGo]
  | r :: t, s, hs, hl, hr => by
    obtain ⟨h1, h2, h3, h4, h5⟩ := hr r (by simp)
    simp only [List.length_cons] at hl
    rw [layGo]
    have e1 := put_fits (s := s) (F := numB r.cl) hs (by omega)
    rw [e1]
    have e2 := put_fits (s := { s with L := s.L ++ numB r.cl }) (F := numB r.sq) hs (by simp only [List.length_append]; omega)
    rw [e2, show cntY (r.cn : Int) 700 = 0 by unfold cntY; rw [if_neg (by omega)]]
    have e3 := put_fits (s := { s with L := s.L ++ numB r.cl ++ numB r.sq }) (F := numB r.cn ++ r.C) hs (by simp only [List.length_append]; omega)
    rw [e3]
    have e4 := layGo_ok t { s with L := s.L ++ numB r.cl ++ numB r.sq ++ (numB r.cn ++ r.C) } hs (by simp only [List.length_append]; omega) (fun x hx => hr x (by simp [hx]))
    rw [e4]
    simp [encR, List.append_assoc]

/-- The state of a new writer. -/
def WS1 : WS := ⟨true, 0, 0, 65507, [], KW⟩
theorem layB_ok {stamp : Nat} {rs : List Rq} (h8 : rs.length ≤ 8) (hst : stamp < 18446744073709551616) (hr : ∀ r ∈ rs, r.cn ≤ 700 ∧ r.cn = r.C.length ∧ r.cl < 18446744073709551616 ∧ r.sq < 18446744073709551616) : layB WS1 stamp rs = { WS1 with L := encL stamp rs } := by
  have hn : ∀ v, v < 18446744073709551616 → (numB v).length ≤ 10 := fun v _ => numTo_len 9 v
  have hs : WS1.sound := ⟨rfl, rfl⟩
  have l1 := hn stamp hst
  have l2 := hn rs.length (by omega)
  unfold layB
  have e1 := put_fits (s := WS1) (F := numB stamp) hs (by simp only [WS1, List.length_nil]; omega)
  rw [e1]
  have e2 := put_fits (s := { WS1 with L := WS1.L ++ numB stamp }) (F := numB rs.length) hs (by simp only [WS1, List.length_append, List.length_nil]; omega)
  rw [e2]
  rw [layGo_ok rs { WS1 with L := WS1.L ++ numB stamp ++ numB rs.length } hs (by simp only [WS1, List.length_append, List.length_nil]; omega) (fun r hx => by
    obtain ⟨h1, h2, h3, h4⟩ := hr r hx
    exact ⟨h1, h2, hn _ h3, hn _ h4, hn _ (by omega)⟩)]
  simp [encL, WS1]
end Go.Proofs.YtldhafpeigdloaaGreatDoor
namespace Go.Proofs.YtldhafpeigdloaaGreatDoor
open Go.RowKit Crc

end Go.Proofs.YtldhafpeigdloaaGreatDoor
namespace Go.Proofs.YtldhafpeigdloaaGreatDoor
open Go.RowKit Crc

theorem bytesW_below (w : World) (e : TypeId) (s : ByteArray) : Below w.heap.size w (Go.Lib.bytesWorld w e s) := by
  refine ⟨rfl, rfl, rfl, ?_, fun j hj => Go.Lib.bytesWorld_at_old w e s j hj⟩
  rw [Go.Lib.bytesWorld_size]; omega

theorem strB_getD (S : ByteArray) (i : Nat) (hi : i < S.size) : (strB S).getD i 0 = (S.data.toList.getD i 0).toNat := by
  have h : i < S.data.toList.length := by simpa using hi
  simp [strB, List.getD, List.getElem?_eq_getElem h]
theorem bytesW_shows (w : World) (S : ByteArray) (hS : S.size ≤ 140737488355328) : Shows (w.heap.size + 1) (Go.Lib.bytesWorld w 5 S) (some ⟨w.heap.size, 0, none⟩) S.size (grownCap w S.size 0 5) (strB S) := by
  refine ⟨(strB_len S).symm, ?_, hS, strB_lt S, w.heap.size, 0, fun _ => rfl, by omega, fun i hi => ?_⟩
  · have := grownCap_ge w S.size 0 5; omega
  · rw [Nat.zero_add, Go.Lib.bytesWorld_cell w 5 S i hi, strB_getD S i hi]

end Go.Proofs.YtldhafpeigdloaaGreatDoor
namespace Go.Proofs.YtldhafpeigdloaaGreatDoor
open Go.RowKit Crc

theorem below_drewX {l : Nat} {w w1 : World} (h : Below l w w1) : Below l w w1.drew := ⟨h.os, h.tape, h.output, h.size, h.block⟩
/-- What Bytes shows and tells. -/
def WS.shown (s : WS) : List Nat := if s.sound then s.L else []
def WS.errC (s : WS) : Int := if s.made = true then s.why else 3
def WS.errA (s : WS) : Int := if s.made = true then s.place else 0
theorem WS.errC_not {s : WS} (hs : ¬ s.sound) : s.errC ≠ 0 := by
  unfold WS.errC
  split
  · rename_i h; exact fun h2 => hs ⟨h, h2⟩
  · decide
theorem WS.errC_sound {s : WS} (hs : s.sound) : s.errC = 0 := by unfold WS.errC; rw [if_pos hs.1]; exact hs.2

set_option maxRecDepth 10000 in
set_option maxHeartbeats 400000 in
theorem wBytes_nil (w : World) :
    Calls Tryz.prog 30 #[.pointer none] w fun e w' => ∃ x, e = .returned (.tuple #[.slice none 0 0, x]) ∧ ErrV w' x 3 0 ∧ Below w.heap.size w w' := by
  go_enter Tryz.func30, Tryz.ntmps30
  go_wp2_with fail
  refine (refusal_any 0 3 w).mono ?_
  rintro e w1 ⟨v, rfl, hv, hf, hb⟩
  have HF := hide (And.intro hf hb)
  clear hv hf hb
  go_wp2
  go_ret2
  exact ⟨v, rfl, .inr ⟨HF.out.1, by decide⟩, HF.out.2⟩

set_option maxRecDepth 10000 in
set_option maxHeartbeats 400000 in
theorem wBytes_not (base p : Nat) (s : WS) (w : World) (hW : WrS base w p s) (hs : ¬ s.sound) (hz : s.sound → s.place = 0) :
    Calls Tryz.prog 30 #[.pointer (some ⟨p, 0, none⟩)] w fun e w' => ∃ x, e = .returned (.tuple #[.slice none 0 0, x]) ∧ ErrV w' x s.errC s.errA ∧ Below w.heap.size w w' := by
  obtain ⟨u, hb, hO, hne⟩ := hW
  have c0 := block_cell hb 0
  have c1 := block_cell hb 1
  have c2 := block_cell hb 2
  simp at c0 c1 c2
  have HT := hide (toldF_any p s.made s.place s.why w c0 c1 c2 (fun h1 h2 => hz ⟨h1, h2⟩))
  have HE : Hid (s.errC = (if s.made = true then s.why else 3) ∧ s.errA = (if s.made = true then s.place else 0)) := ⟨rfl, rfl⟩
  rw [← HE.out.1, ← HE.out.2] at HT
  have HN := hide (WS.errC_not hs)
  generalize s.errC = ec at *
  generalize s.errA = ea at *
  clear hb hO hne c0 c1 c2 hz HE hs
  go_enter Tryz.func30, Tryz.ntmps30
  go_wp2_with fail
  refine HT.out.mono ?_
  rintro e w1 ⟨v, rfl, hv, hb1⟩
  obtain ⟨g, rfl⟩ := errV_some hv HN.out
  have HF := hide (And.intro hv hb1)
  clear hv hb1
  go_wp2
  go_ret2
  exact ⟨_, rfl, HF.out.1, HF.out.2⟩

theorem wBytesP {base : Nat} {w : World} {po : Option Addr} {s : WS} (hW : WrP base w po s) (hz : s.sound → s.place = 0) :
    Calls Tryz.prog 30 #[.pointer po] w fun e w' => ∃ v x, e = .returned (.tuple #[v, x]) ∧ Hid (Owns w.heap.size w' v s.shown ∧ ErrV w' x s.errC s.errA ∧ Below w.heap.size w w') := by
  by_cases hs : s.sound
  · obtain ⟨p, rfl, hWp⟩ := wrP_some hW hs
    refine (wBytes_good base p s.place s.most s.L w (wrS_open hWp hs)).mono ?_
    rintro e w' ⟨v, rfl, h1, h2⟩
    refine ⟨v, _, rfl, ?_, .inl ⟨rfl, WS.errC_sound hs, ?_⟩, h2⟩
    · unfold WS.shown; rw [if_pos hs]; exact h1
    · unfold WS.errA; rw [if_pos hs.1]; exact hz hs
  · have hsh : s.shown = [] := by unfold WS.shown; rw [if_neg hs]
    rw [hsh]
    rcases hW with ⟨rfl, rfl⟩ | ⟨p, rfl, hW⟩
    · refine (wBytes_nil w).mono ?_
      rintro e w' ⟨x, rfl, h1, h2⟩
      exact ⟨_, x, rfl, Owns.nil _ _, h1, h2⟩
    · refine (wBytes_not base p s w hW hs hz).mono ?_
      rintro e w' ⟨x, rfl, h1, h2⟩
      exact ⟨_, x, rfl, Owns.nil _ _, h1, h2⟩

end Go.Proofs.YtldhafpeigdloaaGreatDoor
namespace Go.Proofs.YtldhafpeigdloaaGreatDoor
open Go.RowKit Crc

set_option maxRecDepth 10000 in
set_option maxHeartbeats 400000 in
theorem same_walk (b1 o1 b2 o2 : Nat) (a1 a2 : Option Addr) (B : List Nat) (n c1 c2 : Nat) (w : World) (hl : n ≤ 140737488355328) (h1 : 0 < n → a1 = some ⟨b1, o1, none⟩) (h2 : 0 < n → a2 = some ⟨b2, o2, none⟩)
  (k1 : ∀ i, i < n → w.cell? ⟨b1, o1 + i, none⟩ = some (.int .u8 ((B.getD i 0 : Nat) : Int))) (k2 : ∀ i, i < n → w.cell? ⟨b2, o2 + i, none⟩ = some (.int .u8 ((B.getD i 0 : Nat) : Int))) :
    Calls Tryz.prog 11 #[.slice a1 n c1, .slice a2 n c2] w fun e w' => e = .returned (.bool true) ∧ ∃ q, w' = w.drewN q := by
  have H1 : Hid (0 < n → a1 = some ⟨b1, o1, none⟩) := h1
  have H2 : Hid (0 < n → a2 = some ⟨b2, o2, none⟩) := h2
  have K1 : Hid (∀ i, i < n → w.cell? ⟨b1, o1 + i, none⟩ = some (.int .u8 ((B.getD i 0 : Nat) : Int))) := k1
  have K2 : Hid (∀ i, i < n → w.cell? ⟨b2, o2 + i, none⟩ = some (.int .u8 ((B.getD i 0 : Nat) : Int))) := k2
  clear h1 h2 k1 k2
  go_enter Tryz.func11, Tryz.ntmps11
  go_wp2
  go_loopw [5] (fun i wr => ∃ k q : Nat, k ≤ n ∧ i = .int .i64 k ∧ wr = w.drewN q) (fun i _ => n - (intOf i).toNat)
  case atStart => exact ⟨0, 0, by omega, rfl, rfl⟩
  case round =>
    obtain ⟨k, q, hk, rfl, rfl⟩ := hrel
    by_cases hlt : k < n
    · obtain rfl := H1.out (by omega)
      obtain rfl := H2.out (by omega)
      have g1 := K1.out k hlt
      have g2 := K2.out k hlt
      generalize B.getD k 0 = c at *
      go_wp2
      go_quiet (fail)
      go_wp2
      go_roundw
      case rel => exact ⟨k + 1, _, by omega, by go_num, rfl⟩
      case measure => simp [intOf]; omega
    · go_wp2
      go_ret
      exact ⟨rfl, q, rfl⟩
theorem same_any {l1 l2 : Nat} {a1 a2 : Option Addr} {B : List Nat} {n1 n2 c1 c2 : Nat} {w : World} (h1 : Shows l1 w a1 n1 c1 B) (h2 : Shows l2 w a2 n2 c2 B) :
    Calls Tryz.prog 11 #[.slice a1 n1 c1, .slice a2 n2 c2] w fun e w' => e = .returned (.bool true) ∧ ∃ q, w' = w.drewN q := by
  obtain ⟨p1, _, p3, _, b, off, p5, _, p7⟩ := h1
  obtain ⟨q1, _, _, _, b', off', q5, _, q7⟩ := h2
  obtain rfl : n1 = n2 := by omega
  exact same_walk b off b' off' a1 a2 B n1 c1 c2 w p3 p5 q5 p7 q7
end Go.Proofs.YtldhafpeigdloaaGreatDoor
namespace Go.Proofs.YtldhafpeigdloaaGreatDoor
open Go.RowKit Crc

end Go.Proofs.YtldhafpeigdloaaGreatDoor
namespace Go.Proofs.YtldhafpeigdloaaGreatDoor
open Go.RowKit Crc

set_option maxRecDepth 10000 in
set_option maxHeartbeats 800000 in
theorem lend_any (b off : Nat) (ao : Option Addr) (B : List Nat) (n cap : Nat) (w : World) (hao : 0 < n → ao = some ⟨b, off, none⟩) (hn : n = B.length) (hl : n ≤ 140737488355328)
  (hbw : 0 < n → b < w.heap.size) (hc : ∀ i, i < n → w.cell? ⟨b, off + i, none⟩ = some (.int .u8 ((B.getD i 0 : Nat) : Int))) :
    Calls Tryz.prog 9 #[.slice ao n cap] w fun e w' => e = .returned (.slice (some ⟨w.heap.size, 0, none⟩) n (n + 4)) ∧
      w'.ownsRow w.heap.size 5 1 (.slice (some ⟨w.heap.size, 0, none⟩) (n + 4) (n + 4)) (n + 4) (vals (B ++ marksTo 4)) ∧ Below w.heap.size w w' := by
  obtain ⟨i0, hi, hz0, hz1, hz2⟩ := info_parts Tryz.info5
  have HA : Hid (0 < n → ao = some ⟨b, off, none⟩) := hao
  have HN : Hid (n = B.length) := hn
  have HC : Hid (∀ i, i < n → w.cell? ⟨b, off + i, none⟩ = some (.int .u8 ((B.getD i 0 : Nat) : Int))) := hc
  have HB : Hid (0 < n → b < w.heap.size) := hbw
  clear hn hc hao hbw
  go_enter Tryz.func9, Tryz.ntmps9
  go_wp2_with (first
    | (at_make; refine wpList_make_own _ rfl _ _ 31 rfl w.heap.size 5 i0 (.int .u8 0) 1 Tryz.underlying31 hi hz0 hz1 .i64 .i64 _ (n + 4) rfl rfl (by omega) (by rw [hz2]; omega) (by unfold maxLen; omega) (Nat.le_refl _) ?_; intro w0 hown0 hgrow0))
  go_loopw [3, 4] (fun v i wr => ∃ k : Nat, k ≤ n ∧ i = .int .i64 k ∧ v = .slice (some ⟨w.heap.size, 0, none⟩) k (n + 4) ∧ wr.ownsRow w.heap.size 5 1 v k (vals (B.take k)) ∧ Below w.heap.size w wr)
    (fun _ i _ => n - (intOf i).toNat)
  case atStart => exact ⟨0, by omega, rfl, rfl, hown0, (Below.refl _ _).grown hgrow0 (Nat.le_refl _) (fun k h => by cases h)⟩
  case round =>
    obtain ⟨k, hk, rfl, rfl, hown, hnx⟩ := hrel
    clear hgrow0 hown0
    have hsize := hnx.size
    by_cases hlt : k < n
    · have hck := (hnx.cell (p := ⟨b, off + k, none⟩) (HB.out (by omega))).trans (HC.out k hlt)
      have HT : Hid (vals (B.take (k + 1)) = vals (B.take k) ++ [.int .u8 ((B.getD k 0 : Nat) : Int)]) := by
        show _ = _; rw [take_snoc B k (by have := HN.out; omega), vals_append, vals_one]
      obtain ⟨c, hcd⟩ : ∃ c, c = B.getD k 0 := ⟨_, rfl⟩
      rw [← hcd] at hck HT
      clear hcd
      obtain rfl := HA.out (by omega)
      go_wp2_with (first
        | (at_builtin; refine wpList_append_own_spare _ rfl (.tmp 16) (.tmp 21) 31 rfl w.heap.size 5 i0 1 Tryz.underlying31 hi hz1 w.heap.size k (n + 4) _ rfl (hown.alloc _) ⟨wr.heap.size, 0, none⟩ 1 1 [.int .u8 (c : Int)] rfl rfl (cell_one_new _ _ _) (Shade.one _ rfl) (by omega) ?_; intro w1 hown1 hgrow1))
      go_roundw
      case rel =>
        exact ⟨k + 1, by omega, by go_num, rfl, by rw [HT.out]; exact hown1, (hnx.alloc (by omega) _).grown hgrow1 (by simp; omega) (fun j hj => by cases hj; exact Nat.le_refl _)⟩
      case measure => simp [intOf]; omega
    · obtain rfl : k = n := by omega
      have hBk : B.take k = B := List.take_of_length_le (by have := HN.out; omega)
      rw [hBk] at hown
      clear hBk
      go_wp2
      go_loopw [3, 5] (fun v i wr => ∃ j : Nat, j ≤ 4 ∧ i = .int .i64 j ∧ v = .slice (some ⟨w.heap.size, 0, none⟩) (k + j) (k + 4) ∧ wr.ownsRow w.heap.size 5 1 v (k + j) (vals (B ++ marksTo j)) ∧ Below w.heap.size w wr)
        (fun _ i _ => 4 - (intOf i).toNat)
      case atStart => exact ⟨0, by omega, rfl, rfl, by simpa [marksTo] using hown, hnx⟩
      case round =>
        clear hown hnx hsize
        obtain ⟨j, hj, rfl, rfl, hown, hnx⟩ := hrel
        have hsize := hnx.size
        by_cases hj4 : j < 4
        · have HT : Hid (vals (B ++ marksTo (j + 1)) = vals (B ++ marksTo j) ++ [.int .u8 ((160 : Int) + (j : Int))]) := by
            show _ = _; rw [marksTo_succ, ← List.append_assoc, vals_append, vals_one]; simp
          go_wp2_with (first
            | (at_builtin; refine wpList_append_own_spare _ rfl (.tmp 27) (.tmp 31) 31 rfl w.heap.size 5 i0 1 Tryz.underlying31 hi hz1 w.heap.size (k + j) (k + 4) _ rfl (hown.alloc _) ⟨wr.heap.size, 0, none⟩ 1 1 [.int .u8 ((160 : Int) + (j : Int))] rfl rfl (cell_one_new _ _ _) (Shade.one _ rfl) (by omega) ?_; intro w1 hown1 hgrow1))
          go_roundw
          case rel =>
            exact ⟨j + 1, by omega, by go_num, by rw [Nat.add_assoc], by rw [HT.out, ← Nat.add_assoc]; exact hown1, (hnx.alloc (by omega) _).grown hgrow1 (by simp; omega) (fun j hj => by cases hj; exact Nat.le_refl _)⟩
          case measure => simp [intOf]; omega
        · obtain rfl : j = 4 := by omega
          go_wp2
          go_ret
          exact ⟨rfl, hown, hnx⟩
end Go.Proofs.YtldhafpeigdloaaGreatDoor
namespace Go.Proofs.YtldhafpeigdloaaGreatDoor
open Go.RowKit Crc

/-- The lent copy, as it lies. -/
def Lent (wi : World) (gc n : Nat) (B : List Nat) : Prop := n = B.length ∧ wi.ownsRow gc 5 1 (.slice (some ⟨gc, 0, none⟩) (n + 4) (n + 4)) (n + 4) (vals (B ++ marksTo 4))
theorem Lent.next {wi w' : World} {gc n : Nat} {B : List Nat} {row : Option Nat} (h : Lent wi gc n B) (hg : wi.grownBy w' row) (hr : row ≠ some gc) : Lent w' gc n B :=
  ⟨h.1, h.2.kept hg (.inr (by simpa [Value.ownBlock] using fun e => hr e.symm))⟩
theorem Lent.shows {wi : World} {gc n : Nat} {B : List Nat} (h : Lent wi gc n B) (hB : ∀ x ∈ B, x < 256) (hl : n ≤ 140737488355328) : Shows wi.heap.size wi (some ⟨gc, 0, none⟩) n (n + 4) B := by
  refine ⟨h.1, by omega, hl, hB, gc, 0, fun _ => rfl, fun _ => owned_lt2 h.2, fun i hi => ?_⟩
  have := owned_cells h.2 i (by omega)
  rw [List.getD_eq_getElem?_getD, List.getElem?_append_left (by have := h.1; omega)] at this
  rw [Nat.zero_add, this, List.getD_eq_getElem?_getD]
theorem lend_sh {lim : Nat} {ao : Option Addr} {B : List Nat} {n cap : Nat} {w : World} (h : Shows lim w ao n cap B) (hl : lim ≤ w.heap.size) :
    Calls Tryz.prog 9 #[.slice ao n cap] w fun e w' => e = .returned (.slice (some ⟨w.heap.size, 0, none⟩) n (n + 4)) ∧ Lent w' w.heap.size n B ∧ Below w.heap.size w w' := by
  obtain ⟨h1, h2, h3, h4, b, off, h5, h6, h7⟩ := h
  exact (lend_any b off ao B n cap w h5 h1 h3 (fun h => Nat.lt_of_lt_of_le (h6 h) hl) h7).mono fun e w' ⟨p, q, r⟩ => ⟨p, ⟨h1, q⟩, r⟩
end Go.Proofs.YtldhafpeigdloaaGreatDoor
namespace Go.Proofs.YtldhafpeigdloaaGreatDoor
open Go.RowKit Crc

end Go.Proofs.YtldhafpeigdloaaGreatDoor
