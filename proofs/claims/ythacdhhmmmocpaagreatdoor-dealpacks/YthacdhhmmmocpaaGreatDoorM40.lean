import Derived.Test.YthacdhhmmmocpaaGreatDoorM5
import Derived.Test.YthacdhhmmmocpaaGreatDoorKPackB
namespace Go.Proofs.YthacdhhmmmocpaaGreatDoor
open Go.RowKit Crc

theorem bel_set2 {w W : World} {l B : Nat} (h : Below l w W) (hB : l ≤ B) (x y : Value) : Below l w ((W.setCell ⟨B, 0, none⟩ x).setCell ⟨B, 1, none⟩ y) := (h.setCell (p := ⟨B, 0, none⟩) hB x).setCell (p := ⟨B, 1, none⟩) hB y
theorem FV.set2 {W : World} {ao : Option Addr} {L : List Lk} {b off B : Nat} (h : FV W.heap.size W ao L b off) (hB : 0 < L.length → b ≠ B) (x y : Value) : FV ((W.setCell ⟨B, 0, none⟩ x).setCell ⟨B, 1, none⟩ y).heap.size ((W.setCell ⟨B, 0, none⟩ x).setCell ⟨B, 1, none⟩ y) ao L b off := by
  have e : ((W.setCell ⟨B, 0, none⟩ x).setCell ⟨B, 1, none⟩ y).heap.size = W.heap.size := by simp
  rw [e]
  refine ⟨h.ad, h.lt, h.le, fun i l hl => ?_⟩
  have hp : 0 < L.length := by have := (List.getElem?_eq_some_iff.1 hl).1; omega
  have hlt := h.lt hp
  have hne := hB hp
  have g : W.grownBy ((W.setCell ⟨B, 0, none⟩ x).setCell ⟨B, 1, none⟩ y) (some B) := grown_trans (row := some B) (grown_set _ _ _ _) (grown_set _ _ _ _)
  exact ⟨g.cell (h.at_ i l hl).1 (by simpa using hne), g.cell (h.at_ i l hl).2 (by simpa using hne)⟩
set_option maxRecDepth 10000 in
set_option maxHeartbeats 800000 in
theorem no5 (c at_ : Int) (w : World) : Calls Tryz.prog 23 #[.int .i64 c, .int .i64 at_] w (FvP w [⟨dealN, at_⟩] c) := by
  have HN := hide (new0 dealN at_ c)
  unfold FvP at HN ⊢
  unfold dealN at *
  obtain ⟨W1, hW1⟩ : ∃ W1, w.alloc (.cells #[.slice none 0 0, .int .i64 0] 33) = W1 := ⟨_, rfl⟩
  have q1 : W1.heap[w.heap.size]? = some (.cells #[.slice none 0 0, .int .i64 0] 33 (0, 0)) := by rw [← hW1]; exact alloc_atK _ _
  have b1 : Below w.heap.size w W1 := by rw [← hW1]; exact (Below.refl _ w).alloc (Nat.le_refl _) _
  have s1 : W1.heap.size = w.heap.size + 1 := by rw [← hW1]; simp
  have Q := hide (And.intro q1 (And.intro b1 s1))
  have HW1 := hide hW1
  clear q1 b1 s1 hW1
  go_enter Tryz.func23, Tryz.ntmps23
  go_wp2_with fail
  rw [HW1.out]
  refine (HN.out W1).mono ?_
  rintro e w2 ⟨ao, cap, rfl, G⟩
  obtain ⟨b, off, hf, hb⟩ := G.out
  obtain ⟨q1, b1, s1⟩ := Q.out
  have q2 := (hb.block _ (block_lt q1)).trans q1
  have x0 := block_cell q2 0
  have x1 := block_cell q2 1
  have f0 := block_free q2 0
  have f1 := block_free q2 1
  have hl := block_lt q2
  simp at x0 x1
  have hne : 0 < [(⟨⟨#[100, 101, 97, 108]⟩, at_⟩ : Lk)].length → b ≠ w.heap.size := fun _ e => by
    have h1 := (hf.at_ 0 _ rfl).1
    have e2 : off + 0 * 2 = off := by omega
    rw [e2, e, block_cell q2 off] at h1
    rcases off with _ | _ | k
    · simp at h1
    · simp at h1
    · simp at h1
  have FIN : Hid (∀ x y, FV ((w2.setCell ⟨w.heap.size, 0, none⟩ x).setCell ⟨w.heap.size, 1, none⟩ y).heap.size ((w2.setCell ⟨w.heap.size, 0, none⟩ x).setCell ⟨w.heap.size, 1, none⟩ y) ao [⟨⟨#[100, 101, 97, 108]⟩, at_⟩] b off ∧ Below w.heap.size w ((w2.setCell ⟨w.heap.size, 0, none⟩ x).setCell ⟨w.heap.size, 1, none⟩ y)) := fun x y => ⟨hf.set2 hne x y, bel_set2 (b1.trans (hb.mono b1.size)) (Nat.le_refl _) x y⟩
  clear hne q2 hf hb G q1 b1 s1 Q
  go_wp2
  refine bodyPost_ret (v := .agg #[.slice ao 1 cap, .int .i64 c]) (by simp [results, Tryz.results23, go_sem, x0, x1]) rfl ⟨ao, cap, rfl, b, off, FIN.out _ _⟩
/-- The letter of a field. -/
def ltr : Nat → Nat
  | 1 => 68
  | 2 => 65
  | 3 => 84
  | 4 => 82
  | 5 => 77
  | 6 => 85
  | _ => 88
def fstr (v : Int) : ByteArray := if v = 1 then ⟨#[65, 77]⟩ else if v = 3 then ⟨#[65, 84, 77]⟩ else if v = 4 then ⟨#[68, 65, 84, 82, 77, 85, 88]⟩ else if v = 2 ∨ v = 12 then ⟨#[65]⟩ else if v = 11 ∨ v = 13 then ⟨#[68]⟩ else ⟨#[68, 77]⟩
set_option maxRecDepth 10000 in
theorem fields5 (v : Int) (h1 : 1 ≤ v) (h2 : v ≤ 13) (w : World) : Calls Tryz.prog 26 #[.int .i64 v] w fun e w' => e = .returned (.string (fstr v)) ∧ w' = w := by
  rcases verb_cases h1 h2 with rfl | rfl | rfl | rfl | rfl | rfl | rfl | rfl | rfl | rfl | rfl | rfl | rfl
  all_goals
    clear h1 h2
    go_enter Tryz.func26, Tryz.ntmps26
    go_wp2
    go_ret
    exact ⟨rfl, rfl⟩
theorem fstr_is {v : Int} (h1 : 1 ≤ v) (h2 : v ≤ 13) : strB (fstr v) = (fds v).map ltr := by
  rcases verb_cases h1 h2 with rfl | rfl | rfl | rfl | rfl | rfl | rfl | rfl | rfl | rfl | rfl | rfl | rfl <;> rfl
theorem ltr_inj {f g : Nat} (hf : 1 ≤ f ∧ f ≤ 7) (hg : 1 ≤ g ∧ g ≤ 7) (h : ltr f = ltr g) : f = g := by
  rcases (by omega : f = 1 ∨ f = 2 ∨ f = 3 ∨ f = 4 ∨ f = 5 ∨ f = 6 ∨ f = 7) with rfl | rfl | rfl | rfl | rfl | rfl | rfl <;> rcases (by omega : g = 1 ∨ g = 2 ∨ g = 3 ∨ g = 4 ∨ g = 5 ∨ g = 6 ∨ g = 7) with rfl | rfl | rfl | rfl | rfl | rfl | rfl <;> first | rfl | (exact absurd h (by decide))
theorem ltr_mem {v : Int} (h1 : 1 ≤ v) (h2 : v ≤ 13) {f : Nat} (hf : 1 ≤ f ∧ f ≤ 7) : ltr f ∈ strB (fstr v) ↔ f ∈ fds v := by
  rw [fstr_is h1 h2]
  refine ⟨fun h => ?_, fun h => List.mem_map.2 ⟨f, h, rfl⟩⟩
  obtain ⟨g, hg, e⟩ := List.mem_map.1 h
  rw [← ltr_inj (fds_mem hg) hf e]
  exact hg
set_option maxRecDepth 10000 in
set_option maxHeartbeats 800000 in
theorem uses_loop (v : Int) (S : ByteArray) (x : Nat) (hl : S.size ≤ 100) (w : World) (HF : Hid (Calls Tryz.prog 26 #[.int .i64 v] w fun e w' => e = .returned (.string S) ∧ w' = w)) :
    Calls Tryz.prog 24 #[.int .i64 v, .int .u8 (x : Int)] w fun e w' => e = .returned (.bool (decide (x ∈ strB S))) ∧ w' = w := by
  obtain ⟨q, hq⟩ : ∃ q : Bool, decide (x ∈ strB S) = q := ⟨_, rfl⟩
  rw [hq]
  have HQ : Hid (q = true ↔ x ∈ strB S) := by show _ ↔ _; rw [← hq]; simp
  clear hq
  go_enter Tryz.func24, Tryz.ntmps24
  go_wp2_with fail
  refine HF.out.mono ?_
  rintro e w1 ⟨rfl, hw⟩
  rw [hw]
  clear hw
  go_wp2
  go_loopw [6] (fun i wr => wr = w ∧ ∃ k : Nat, k ≤ S.size ∧ i = .int .i64 k ∧ Hid (∀ j (h : j < S.size), j < k → (S[j]'h).toNat ≠ x)) (fun i _ => S.size - (intOf i).toNat)
  case atStart => exact ⟨rfl, 0, by omega, rfl, fun j _ hj => by omega⟩
  case round =>
    obtain ⟨hw, k, hk, rfl, HR⟩ := hrel
    by_cases hlt : k < S.size
    · obtain ⟨y, hy⟩ : ∃ y, (S[k]'hlt).toNat = y := ⟨_, rfl⟩
      have HY := hide hy
      by_cases he : (y : Int) = (x : Int)
      · have e0 : Hid (q = true) := HQ.out.2 (by
          have e1 : y = x := by omega
          rw [← e1, ← HY.out]
          exact List.mem_map.2 ⟨S[k]'hlt, Array.mem_toList_iff.2 (Array.getElem_mem (xs := S.data) (i := k) hlt), rfl⟩)
        go_wp2
        go_ret
        exact ⟨by rw [e0.out]; rfl, by first | rfl | exact hw⟩
      · have HR2 : Hid (∀ j (h : j < S.size), j < k + 1 → (S[j]'h).toNat ≠ x) := fun j h hj => by
          by_cases hjk : j < k
          · exact HR.out j h hjk
          · obtain rfl : j = k := by omega
            rw [HY.out]
            omega
        go_wp2
        go_roundw
        case rel => exact ⟨by first | exact hw | trivial, k + 1, by omega, by go_num, HR2.out⟩
        case measure => simp [intOf]; omega
    · obtain rfl : k = S.size := by omega
      have e0 : Hid (q = false) := by
        show _ = _
        cases q with
        | false => rfl
        | true =>
          obtain ⟨z, hz, e⟩ := List.mem_map.1 (HQ.out.1 rfl)
          obtain ⟨j, hj, e2⟩ := List.getElem_of_mem hz
          have hj2 : j < S.size := by simpa using hj
          exact absurd (by rw [← e, ← e2]; rfl) (HR.out j hj2 hj2)
      go_wp2
      go_ret
      exact ⟨by rw [e0.out]; rfl, by first | rfl | exact hw⟩
theorem uses5 (v : Int) (h1 : 1 ≤ v) (h2 : v ≤ 13) (f : Nat) (hf : 1 ≤ f ∧ f ≤ 7) (w : World) : Calls Tryz.prog 24 #[.int .i64 v, .int .u8 ((ltr f : Nat) : Int)] w fun e w' => e = .returned (.bool (decide (f ∈ fds v))) ∧ w' = w := by
  have hl : (fstr v).size ≤ 100 := by rcases verb_cases h1 h2 with rfl | rfl | rfl | rfl | rfl | rfl | rfl | rfl | rfl | rfl | rfl | rfl | rfl <;> decide
  have h := uses_loop v (fstr v) (ltr f) hl w (fields5 v h1 h2 w)
  have e : decide (ltr f ∈ strB (fstr v)) = decide (f ∈ fds v) := by simp only [ltr_mem h1 h2 hf]
  rw [e] at h
  exact h
set_option maxRecDepth 10000 in
set_option maxHeartbeats 800000 in
theorem number5 (c : Cd) (f : Nat) (hf : 1 ≤ f ∧ f ≤ 7) (w : World) : Calls Tryz.prog 25 #[.agg c.cells, .int .u8 ((ltr f : Nat) : Int)] w fun e w' => e = .returned (.int .u64 (c.num f : Int)) ∧ Hid (Below w.heap.size w w') := by
  have hb : Hid (∀ o, Below w.heap.size w (w.alloc o)) := fun o => (Below.refl _ w).alloc (Nat.le_refl _) o
  unfold Cd.cells
  rcases (by omega : f = 1 ∨ f = 2 ∨ f = 3 ∨ f = 4 ∨ f = 5 ∨ f = 6 ∨ f = 7) with rfl | rfl | rfl | rfl | rfl | rfl | rfl
  all_goals
    simp only [ltr, Cd.num]
    go_enter Tryz.func25, Tryz.ntmps25
    go_wp2
    go_ret
    exact ⟨rfl, hb.out _⟩
end Go.Proofs.YthacdhhmmmocpaaGreatDoor
namespace Go.Proofs.YthacdhhmmmocpaaGreatDoor
open Go.RowKit Crc

set_option maxRecDepth 10000 in
set_option maxHeartbeats 800000 in
theorem below5 (at_ c at2 : Int) (w : World) : Calls Tryz.prog 29 #[.int .i64 at_, .agg #[.int .i64 c, .int .i64 at2]] w (FvP w [⟨dealN, at_⟩, ⟨wireN, at2⟩] c) := by
  have HN := hide (new0 wireN at2 c)
  have HP : Hid (∀ (W : World) (ao : Option Addr) (cap b off : Nat), FV W.heap.size W ao [⟨wireN, at2⟩] b off → Calls Tryz.prog 57 #[.string dealN, .int .i64 at_, .agg #[.slice ao 1 cap, .int .i64 c]] W (FvP W [⟨dealN, at_⟩, ⟨wireN, at2⟩] c)) := fun W ao cap b off h => wrap0 dealN at_ c 1 cap rfl (by omega) W h
  unfold FvP at HN HP ⊢
  unfold dealN wireN at *
  obtain ⟨W2, hW2⟩ : ∃ W2, (w.alloc (.cells #[.int .i64 c, .int .i64 at2] 67)).alloc (.cells #[.slice none 0 0, .int .i64 0] 33) = W2 := ⟨_, rfl⟩
  have e1 : (w.alloc (.cells #[.int .i64 c, .int .i64 at2] 67)).heap.size = w.heap.size + 1 := by simp
  have q1 : W2.heap[w.heap.size + 1]? = some (.cells #[.slice none 0 0, .int .i64 0] 33 (0, 0)) := by rw [← hW2, ← e1]; exact alloc_atK _ _
  have q0 : W2.heap[w.heap.size]? = some (.cells #[.int .i64 c, .int .i64 at2] 67 (0, 0)) := by rw [← hW2]; exact ((World.grownBy_alloc _ _ none).block _ (by rw [e1]; omega) (by simp)).trans (alloc_atK _ _)
  have b2 : Below w.heap.size w W2 := by rw [← hW2]; exact ((Below.refl _ w).alloc (Nat.le_refl _) _).alloc (by simp) _
  have Q := hide (And.intro q1 b2)
  have y0 := block_cell q0 0
  have y1 := block_cell q0 1
  have hl0 := block_lt q0
  simp at y0 y1
  have HW2 := hide hW2
  clear q1 q0 b2 hW2 e1
  go_enter Tryz.func29, Tryz.ntmps29
  go_upto_region 1 with fail
  rw [HW2.out]
  go_wp2_with fail
  refine (HN.out W2).mono ?_
  rintro e w3 ⟨ao, cap, rfl, G⟩
  obtain ⟨b, off, hf, hb⟩ := G.out
  have HWR := hide (HP.out w3 ao cap b off hf)
  have B3 := hide hb
  clear hf hb G HP HN y0 y1 hl0
  go_wp2_with fail
  refine HWR.out.mono ?_
  rintro e w4 ⟨ao4, cap4, rfl, G4⟩
  obtain ⟨b, off, hf, hb⟩ := G4.out
  obtain ⟨q1, b2⟩ := Q.out
  have hb24 : Below W2.heap.size W2 w4 := B3.out.trans (hb.mono B3.out.size)
  have q2 := (hb24.block _ (block_lt q1)).trans q1
  have x0 := block_cell q2 0
  have x1 := block_cell q2 1
  have f0 := block_free q2 0
  have f1 := block_free q2 1
  have hl := block_lt q2
  simp at x0 x1
  have hne : 0 < [(⟨⟨#[100, 101, 97, 108]⟩, at_⟩ : Lk), ⟨⟨#[119, 105, 114, 101]⟩, at2⟩].length → b ≠ w.heap.size + 1 := fun _ e => by
    have h1 := (hf.at_ 0 _ rfl).1
    have e2 : off + 0 * 2 = off := by omega
    rw [e2, e, block_cell q2 off] at h1
    rcases off with _ | _ | k
    · simp at h1
    · simp at h1
    · simp at h1
  have FIN : Hid (∀ x y, FV ((w4.setCell ⟨w.heap.size + 1, 0, none⟩ x).setCell ⟨w.heap.size + 1, 1, none⟩ y).heap.size ((w4.setCell ⟨w.heap.size + 1, 0, none⟩ x).setCell ⟨w.heap.size + 1, 1, none⟩ y) ao4 [⟨⟨#[100, 101, 97, 108]⟩, at_⟩, ⟨⟨#[119, 105, 114, 101]⟩, at2⟩] b off ∧ Below w.heap.size w ((w4.setCell ⟨w.heap.size + 1, 0, none⟩ x).setCell ⟨w.heap.size + 1, 1, none⟩ y)) := fun x y => ⟨hf.set2 hne x y, bel_set2 (b2.trans (hb24.mono b2.size)) (by omega) x y⟩
  clear hne q2 hf hb G4 q1 b2 Q hb24
  go_wp2
  refine bodyPost_ret (v := .agg #[.slice ao4 2 cap4, .int .i64 c]) (by simp [results, Tryz.results29, go_sem, x0, x1]) rfl ⟨ao4, cap4, rfl, b, off, FIN.out _ _⟩
/-- The bytes of a field. -/
def Cd.enc (c : Cd) (f : Nat) : List Nat := if f = 7 then numB c.terms.size ++ strB c.terms else numB (c.num f)
def Cd.bts (c : Cd) (k : Nat) : List Nat := c.verb.toNat :: (((fds c.verb).take k).map c.enc).flatten
theorem numB_le (n : Nat) : (numB n).length ≤ 10 := numTo_len 9 n
theorem bts_succ (c : Cd) {k f : Nat} (hf : (fds c.verb)[k]? = some f) : c.bts (k + 1) = c.bts k ++ c.enc f := by
  unfold Cd.bts
  rw [List.take_add_one, hf]
  simp
theorem fds_seven {v : Int} {k : Nat} (h : (fds v)[k]? = some 7) : k = 6 ∧ v = 4 := by
  unfold fds at h
  repeat' split at h
  all_goals (rcases k with _ | _ | _ | _ | _ | _ | _ | k <;> simp at h)
  exact ⟨rfl, by assumption⟩
theorem bts_len (c : Cd) : ∀ k, k ≤ (fds c.verb).length → (∀ j, j < k → (fds c.verb)[j]? ≠ some 7) → (c.bts k).length ≤ 1 + 10 * k
  | 0, _, _ => by simp [Cd.bts]
  | k + 1, hk, h7 => by
    obtain ⟨f, hf⟩ : ∃ f, (fds c.verb)[k]? = some f := ⟨_, List.getElem?_eq_getElem (by omega)⟩
    have ih := bts_len c k (by omega) (fun j hj => h7 j (by omega))
    have h := h7 k (by omega)
    rw [bts_succ c hf, List.length_append]
    have : (c.enc f).length ≤ 10 := by
      unfold Cd.enc
      rw [if_neg (fun e => h (by rw [hf, e]))]
      exact numB_le _
    omega
end Go.Proofs.YthacdhhmmmocpaaGreatDoor
namespace Go.Proofs.YthacdhhmmmocpaaGreatDoor
open Go.RowKit Crc

theorem big1K {x : Nat} (h : x < 256) : big x 1 = [x] := by
  have e : big x 1 = [x / 2 ^ (8 * 0) % 256] := rfl
  rw [e]
  simp
  omega
theorem putK {s : WS} (hs : s.sound) {F : List Nat} (h : ((s.L.length + F.length : Nat) : Int) ≤ s.most) : s.put F 0 = { s with L := s.L ++ F } := by
  unfold WS.put
  rw [if_pos hs, if_neg (by simp), if_neg (by omega)]
theorem txt_ok {S : ByteArray} (h : txtY S 512 = 0) : S.size ≤ 512 := by
  unfold txtY at h
  by_cases h1 : (512 : Int) < (S.size : Int)
  · rw [if_pos h1] at h; cases h
  · omega
theorem ps_fold (c : Cd) (h : 1 ≤ c.verb ∧ c.verb ≤ 13) : ∀ k, k ≤ (fds c.verb).length → (∀ j, j < k → (fds c.verb)[j]? = some 7 → txtY c.terms 512 = 0) → ((fds c.verb).take k).foldl c.lay (wsN.put (big c.verb.toNat 1) 0) = { wsN with L := c.bts k }
  | 0, _, _ => by
    rw [big1K (by omega), putK ⟨rfl, rfl⟩ (by simp [wsN])]
    simp [Cd.bts, wsN]
  | k + 1, hk, h7 => by
    obtain ⟨f, hf⟩ : ∃ f, (fds c.verb)[k]? = some f := ⟨_, List.getElem?_eq_getElem (by omega)⟩
    have ih := ps_fold c h k (by omega) (fun j hj e => h7 j (by omega) e)
    have n7 : ∀ j, j < k → (fds c.verb)[j]? ≠ some 7 := fun j hj e => by
      obtain ⟨e1, e2⟩ := fds_seven e
      have : (fds c.verb).length = 7 := by rw [e2]; rfl
      omega
    have hb := bts_len c k (by omega) n7
    have hfl := (fds_len c.verb).2
    rw [List.take_add_one, hf, Option.toList_some, List.foldl_append, ih, List.foldl_cons, List.foldl_nil, bts_succ c hf]
    unfold Cd.lay Cd.enc
    by_cases e7 : f = 7
    · subst e7
      have ht := h7 k (by omega) hf
      have := txt_ok ht
      have hn := numB_le c.terms.size
      rw [if_pos rfl, if_pos rfl, ht, putK ⟨rfl, rfl⟩ (by
        show ((((c.bts k).length + (numB c.terms.size ++ strB c.terms).length : Nat)) : Int) ≤ 700
        rw [List.length_append, strB_len]
        omega)]
    · have hn := numB_le (c.num f)
      rw [if_neg e7, if_neg e7, putK ⟨rfl, rfl⟩ (by
        show ((((c.bts k).length + (numB (c.num f)).length : Nat)) : Int) ≤ 700
        omega)]
/-- What packing comes to: the bytes, or the fault of the terms. -/
theorem pk_ok (c : Cd) (h : 1 ≤ c.verb ∧ c.verb ≤ 13) (ht : c.verb = 4 → txtY c.terms 512 = 0) : c.pkS = { wsN with L := c.bts (fds c.verb).length } := by
  unfold Cd.pkS
  have e := ps_fold c h (fds c.verb).length (Nat.le_refl _) (fun j _ e => ht (fds_seven e).2)
  rw [List.take_length] at e
  exact e
theorem pk_bad (c : Cd) (hv : c.verb = 4) (ht : txtY c.terms 512 ≠ 0) : c.pkS = { wsN with L := c.bts 6, place := ((c.bts 6).length : Int), why := txtY c.terms 512 } := by
  unfold Cd.pkS
  have hl : (fds c.verb).length = 7 := by rw [hv]; rfl
  have e := ps_fold c (by omega) 6 (by omega) (fun j hj e => absurd (fds_seven e).1 (by omega))
  have h6 : (fds c.verb)[6]? = some 7 := by rw [hv]; rfl
  have e7 : fds c.verb = (fds c.verb).take 6 ++ [7] := by rw [hv]; rfl
  rw [e7, List.foldl_append, e]
  rw [List.foldl_cons, List.foldl_nil]
  unfold Cd.lay
  rw [if_pos rfl]
  unfold WS.put
  rw [if_pos ⟨rfl, rfl⟩, if_pos ht]
end Go.Proofs.YthacdhhmmmocpaaGreatDoor
namespace Go.Proofs.YthacdhhmmmocpaaGreatDoor
open Go.RowKit Crc

/-- What the reference's Pack hands out. -/
def RpP (w : World) (PB : List Nat) (PL : List Lk) (PC : Int) (e : Ending) (w' : World) : Prop := ∃ v ao cap, e = .returned (.tuple #[v, .agg #[.slice ao PL.length cap, .int .i64 PC]]) ∧ Hid (Owns w.heap.size w' v PB ∧ (∃ b off, FV w'.heap.size w' ao PL b off) ∧ Below w.heap.size w w')
/-- What stands all along: the command's box and the result's. -/
structure Rp (w : World) (c : Cd) (W : World) : Prop where
  bel : Below w.heap.size w W
  box : W.heap[w.heap.size]? = some (.cells #[.int .i64 c.verb, .int .u64 (c.deal : Int), .int .u64 (c.acct : Int), .int .u64 (c.to_ : Int), .int .u64 (c.arb : Int), .int .u64 (c.amt : Int), .int .u64 (c.due : Int), .string c.terms] 25 (0, 0))
  res : W.heap[w.heap.size + 1]? = some (.cells #[.slice none 0 0, .int .i64 0] 33 (0, 0))
theorem Rp.next {w : World} {c : Cd} {W W' : World} (h : Rp w c W) (hb : Below W.heap.size W W') : Rp w c W' := ⟨h.bel.trans (hb.mono h.bel.size), (hb.block _ (block_lt h.box)).trans h.box, (hb.block _ (block_lt h.res)).trans h.res⟩
theorem rp_new (w : World) (c : Cd) : Rp w c ((w.alloc (.cells #[.int .i64 c.verb, .int .u64 (c.deal : Int), .int .u64 (c.acct : Int), .int .u64 (c.to_ : Int), .int .u64 (c.arb : Int), .int .u64 (c.amt : Int), .int .u64 (c.due : Int), .string c.terms] 25)).alloc (.cells #[.slice none 0 0, .int .i64 0] 33)) := by
  have e1 : (w.alloc (.cells #[.int .i64 c.verb, .int .u64 (c.deal : Int), .int .u64 (c.acct : Int), .int .u64 (c.to_ : Int), .int .u64 (c.arb : Int), .int .u64 (c.amt : Int), .int .u64 (c.due : Int), .string c.terms] 25)).heap.size = w.heap.size + 1 := by simp
  refine ⟨((Below.refl _ w).alloc (Nat.le_refl _) _).alloc (by simp) _, ((World.grownBy_alloc _ _ none).block _ (by rw [e1]; omega) (by simp)).trans (alloc_atK _ _), ?_⟩
  rw [← e1]
  exact alloc_atK _ _
theorem fv_ne {w : World} {ao : Option Addr} {L : List Lk} {b off B : Nat} {lim : Nat} {o : Option Addr} {n m : Nat} {i : Int} {t : TypeId} (hf : FV lim w ao L b off) (hB : w.heap[B]? = some (.cells #[.slice o n m, .int .i64 i] t (0, 0))) : 0 < L.length → b ≠ B := fun h0 e => by
  have h1 := (hf.at_ 0 _ (List.getElem?_eq_getElem h0)).1
  have e2 : off + 0 * 2 = off := by omega
  rw [e2, e, block_cell hB off] at h1
  rcases off with _ | _ | k
  · simp at h1
  · simp at h1
  · simp at h1
theorem rp_cells {w : World} {c : Cd} {W : World} (h : Rp w c W) : W.cell? ⟨w.heap.size, 0, none⟩ = some (.int .i64 c.verb) ∧ W.cell? ⟨w.heap.size, 1, none⟩ = some (.int .u64 (c.deal : Int)) ∧ W.cell? ⟨w.heap.size, 2, none⟩ = some (.int .u64 (c.acct : Int)) ∧ W.cell? ⟨w.heap.size, 3, none⟩ = some (.int .u64 (c.to_ : Int)) ∧ W.cell? ⟨w.heap.size, 4, none⟩ = some (.int .u64 (c.arb : Int)) ∧ W.cell? ⟨w.heap.size, 5, none⟩ = some (.int .u64 (c.amt : Int)) ∧ W.cell? ⟨w.heap.size, 6, none⟩ = some (.int .u64 (c.due : Int)) ∧ W.cell? ⟨w.heap.size, 7, none⟩ = some (.string c.terms) :=
  ⟨(block_cell h.box 0).trans rfl, (block_cell h.box 1).trans rfl, (block_cell h.box 2).trans rfl, (block_cell h.box 3).trans rfl, (block_cell h.box 4).trans rfl, (block_cell h.box 5).trans rfl, (block_cell h.box 6).trans rfl, (block_cell h.box 7).trans rfl⟩
theorem showsN {w w' : World} {ao : Option Addr} {n cap : Nat} {B : List Nat} (h : Shows w.heap.size w ao n cap B) (hb : Below w.heap.size w w') : Shows w'.heap.size w' ao n cap B := by
  obtain ⟨p1, p2, p3, p4, b, off, p5, p6, p7⟩ := h
  exact ⟨p1, p2, p3, p4, b, off, p5, fun e => Nat.lt_of_lt_of_le (p6 e) hb.size, fun i hi => (hb.cell (p := ⟨b, off + i, none⟩) (p6 (by omega))).trans (p7 i hi)⟩
/-- The end: the refusal is stored into the result's box. -/
theorem rp_end {w : World} {c : Cd} {W w2 : World} {L : List Lk} {ao : Option Addr} {b off : Nat} (h : Rp w c W) (hf : FV w2.heap.size w2 ao L b off) (hb : Below W.heap.size W w2) (x y : Value) : FV ((w2.setCell ⟨w.heap.size + 1, 0, none⟩ x).setCell ⟨w.heap.size + 1, 1, none⟩ y).heap.size ((w2.setCell ⟨w.heap.size + 1, 0, none⟩ x).setCell ⟨w.heap.size + 1, 1, none⟩ y) ao L b off ∧ Below w.heap.size w ((w2.setCell ⟨w.heap.size + 1, 0, none⟩ x).setCell ⟨w.heap.size + 1, 1, none⟩ y) :=
  ⟨hf.set2 (fv_ne hf (h.next hb).res) x y, bel_set2 ((h.next hb).bel) (by omega) x y⟩
set_option maxRecDepth 10000 in
set_option maxHeartbeats 800000 in
theorem rpack_bad (c : Cd) (w : World) (h : ¬ (1 ≤ c.verb ∧ c.verb ≤ 13)) : Calls Tryz.prog 5 #[.agg c.cells] w (RpP w [] [⟨dealN, 0⟩] 100) := by
  unfold RpP
  unfold Cd.cells
  obtain ⟨W2, hW2⟩ : ∃ W2, (w.alloc (.cells #[.int .i64 c.verb, .int .u64 (c.deal : Int), .int .u64 (c.acct : Int), .int .u64 (c.to_ : Int), .int .u64 (c.arb : Int), .int .u64 (c.amt : Int), .int .u64 (c.due : Int), .string c.terms] 25)).alloc (.cells #[.slice none 0 0, .int .i64 0] 33) = W2 := ⟨_, rfl⟩
  have R2 := hide (rp_new w c)
  rw [hW2] at R2
  have HW2 := hide hW2
  clear hW2
  have HNO := hide (no5 100 0)
  unfold FvP at HNO
  have x0 := block_cell R2.out.box 0
  simp at x0
  have hl := block_lt R2.out.box
  go_enter Tryz.func5, Tryz.ntmps5
  go_upto_region 1 with fail
  rw [HW2.out]
  have key : ∀ (P : Prop), (c.verb < 1 → P) → (¬ c.verb < 1 → 13 < c.verb → P) → P := fun P a b => by
    by_cases h1 : c.verb < 1
    · exact a h1
    · exact b h1 (by omega)
  clear h
  refine key _ (fun h1 => ?_) (fun h1 h2 => ?_)
  all_goals
    clear key
    go_wp2_with fail
    refine (HNO.out W2).mono ?_
    rintro e w3 ⟨ao, cap, rfl, G⟩
    obtain ⟨b, off, hf, hb⟩ := G.out
    have q := (R2.out.next hb).res
    have y0 := block_cell q 0
    have y1 := block_cell q 1
    have f0 := block_free q 0
    have f1 := block_free q 1
    have hl3 := block_lt q
    simp at y0 y1
    have FIN : Hid (∀ x y, FV ((w3.setCell ⟨w.heap.size + 1, 0, none⟩ x).setCell ⟨w.heap.size + 1, 1, none⟩ y).heap.size ((w3.setCell ⟨w.heap.size + 1, 0, none⟩ x).setCell ⟨w.heap.size + 1, 1, none⟩ y) ao [⟨dealN, 0⟩] b off ∧ Below w.heap.size w ((w3.setCell ⟨w.heap.size + 1, 0, none⟩ x).setCell ⟨w.heap.size + 1, 1, none⟩ y)) := fun x y => rp_end R2.out hf hb x y
    clear q hf hb G
    go_wp2
    refine bodyPost_ret (v := .tuple #[.slice none 0 0, .agg #[.slice ao 1 cap, .int .i64 100]]) (by simp [results, Tryz.results5, go_sem, y0, y1]) rfl ⟨_, ao, cap, rfl, owns_nil _ _, ⟨b, off, (FIN.out _ _).1⟩, (FIN.out _ _).2⟩
end Go.Proofs.YthacdhhmmmocpaaGreatDoor
