import Derived.Test.YtbfjeabngdiejaaDoorAppend
import Derived.Test.YtbfjeabngdiejaaDoorUnframe
namespace Go.Proofs.YtbfjeabngdiejaaDoor
open Go.RowKit Crc

def low4 (s : Nat) : List Nat := [s % 256, s / 256 % 256, s / 65536 % 256, s / 16777216]
def headB (kind : Nat) (B : List Nat) : List Nat := [81, 77] ++ [1, kind] ++ big B.length 4 ++ B
def frameB (kind : Nat) (B : List Nat) : List Nat := headB kind B ++ low4 (Crc.sum (headB kind B))

theorem cell_four_new (w : World) (a b c d : Value) (t : TypeId) : ∀ j u, [a, b, c, d][j]? = some u → (w.alloc (.cells #[a, b, c, d] t)).cell? ((⟨w.heap.size, 0, none⟩ : Addr).add j) = some u := by
  intro j u hj
  match j, hj with
  | 0, hj => simp at hj; subst hj; simp [Addr.add]
  | 1, hj => simp at hj; subst hj; simp [Addr.add]
  | 2, hj => simp at hj; subst hj; simp [Addr.add]
  | 3, hj => simp at hj; subst hj; simp [Addr.add]
  | j + 4, hj => simp at hj

theorem one4 (a b c d : Int) : ∀ u ∈ [Value.int .u8 a, .int .u8 b, .int .u8 c, .int .u8 d], u.oneCell' = true := by
  intro u hu; simp at hu; rcases hu with rfl | rfl | rfl | rfl <;> rfl
theorem one2 (a b : Int) : ∀ u ∈ [Value.int .u8 a, .int .u8 b], u.oneCell' = true := by
  intro u hu; simp at hu; rcases hu with rfl | rfl <;> rfl

set_option maxHeartbeats 400000 in
theorem frame_long (k : Int) (ao : Option Addr) (n cap : Nat) (w : World) (h : 65495 < n) (hl : n ≤ 140737488355328) :
    Calls Tryd.prog 5 #[.int .u8 k, .slice ao n cap] w fun e w' => ∃ v, e = .returned (.tuple #[.slice none 0 0, v]) ∧ IsFault w' v 65507 21 ∧ Below w.heap.size w w' := by
  go_enter Tryd.func5, Tryd.ntmps5
  go_wp2_with fail
  refine (refusal_any _ _ _).mono ?_
  rintro e w2 ⟨v, rfl, rfl, hf, hb⟩
  go_wp2
  go_ret2
  exact ⟨_, rfl, hf, hb⟩

theorem big2 : big 20813 2 = [81, 77] := by decide
theorem big_len (v s : Nat) : ∀ j, (bigTo v s j).length = j
  | 0 => rfl
  | j + 1 => by simp [bigTo, big_len v s j]

theorem bigTo_lt (v s : Nat) : ∀ j, ∀ x ∈ bigTo v s j, x < 256
  | 0 => by simp [bigTo]
  | j + 1 => by
    intro x hx
    simp only [bigTo, List.mem_append, List.mem_singleton] at hx
    rcases hx with hx | rfl
    · exact bigTo_lt v s j x hx
    · exact Nat.mod_lt _ (by omega)
theorem headB_lt (k : Nat) (B : List Nat) (hk : k < 256) (hB : ∀ x ∈ B, x < 256) : ∀ x ∈ headB k B, x < 256 := by
  intro x hx
  simp only [headB, List.mem_append, List.mem_cons, List.not_mem_nil, or_false] at hx
  rcases hx with (((rfl | rfl) | rfl | rfl) | hx) | hx
  all_goals first | omega | exact hB x hx | exact bigTo_lt _ _ _ x hx
theorem headB_len (k : Nat) (B : List Nat) : (headB k B).length = 8 + B.length := by
  simp [headB, big, big_len]; omega

/-- What is owned, cell by cell. -/
theorem owned_cells {w : World} {base g n cap : Nat} {B : List Nat} (hown : w.ownsRow base 5 1 (.slice (some ⟨g, 0, none⟩) n cap) n (vals B)) : ∀ i, i < n → w.cell? ⟨g, i, none⟩ = some (.int .u8 ((B.getD i 0 : Nat) : Int)) := by
  intro i hi
  have hl : (vals B).length = n := by have := hown.1; omega
  have hlB : B.length = n := by simpa [vals] using hl
  rw [hown.cellAt i (by omega)]
  unfold vals
  rw [List.getElem?_map, List.getD_eq_getElem?_getD, List.getElem?_eq_getElem (by omega)]
  rfl
theorem vals_low4 (S : Nat) : vals (low4 S) = [.int .u8 ((S : Int) % (256 : Int)), .int .u8 ((S : Int) / (256 : Int) % (256 : Int)), .int .u8 ((S : Int) / (65536 : Int) % (256 : Int)), .int .u8 ((S : Int) / (16777216 : Int))] := by
  simp [vals, low4]

set_option maxHeartbeats 1600000 in
theorem frame_some (k : Nat) (b off : Nat) (B : List Nat) (n cap : Nat) (w : World) (hn : n = B.length) (hl : n ≤ 65495) (hk : k < 256) (hB : ∀ x ∈ B, x < 256) (hbw : b < w.heap.size) (h0 : 0 < w.heap.size) (hT : Table w)
  (hc : ∀ i, i < n → w.cell? ⟨b, off + i, none⟩ = some (.int .u8 ((B.getD i 0 : Nat) : Int))) :
    Calls Tryd.prog 5 #[.int .u8 k, .slice (some ⟨b, off, none⟩) n cap] w fun e w' => e = .returned (.tuple #[.slice (some ⟨w.heap.size, 0, none⟩) (12 + n) (12 + n), .nilIface]) ∧
      w'.ownsRow w.heap.size 5 1 (.slice (some ⟨w.heap.size, 0, none⟩) (12 + n) (12 + n)) (12 + n) (vals (frameB k B)) ∧ Below w.heap.size w w' := by
  obtain ⟨i0, hi, hz0, hz1, hz2⟩ := info_parts Tryd.info5
  have HS : Hid (∀ w1 : World, Below w.heap.size w w1 → ∀ j v, (vals B)[j]? = some v → w1.cell? ((⟨b, off, none⟩ : Addr).add j) = some v) := by
    intro w1 hb
    exact vals_cell (fun i hi => (hb.cell (p := ⟨b, off + i, none⟩) hbw).trans (hc i (by omega)))
  have HT : Hid (∀ w1 : World, Below w.heap.size w w1 → Table w1) := fun w1 hb i hi => (hb.cell (p := ⟨0, i, none⟩) h0).trans (hT i hi)
  have HN : Hid (n = B.length) := hn
  have HB : Hid (∀ x ∈ B, x < 256) := hB
  clear hn hc hT hB hbw h0
  go_enter Tryd.func5, Tryd.ntmps5
  go_wp2_with (first
    | (at_make; refine wpList_make_own _ rfl _ _ 22 rfl w.heap.size 5 i0 (.int .u8 0) 1 Tryd.underlying22 hi hz0 hz1 .i64 .i64 _ (12 + n) rfl rfl (by omega) (by rw [hz2]; omega) (by unfold maxLen; omega) (Nat.le_refl _) ?_; intro w0 hown0 hgrow0))
  go_wp2_with fail
  refine (append_any w.heap.size 0 (12 + n) 20813 2 _ _ [] w0 rfl rfl (by omega) (by omega) hown0).mono ?_
  rintro e w1 ⟨rfl, hown1, hgrow1⟩
  rw [big2] at hown1
  go_wp2_with (first
    | (at_builtin; refine wpList_append_own_spare _ rfl (.tmp 18) (.tmp 20) 22 rfl w.heap.size 5 i0 1 Tryd.underlying22 hi hz1 w.heap.size 2 (12 + n) _ rfl (hown1.alloc _) ⟨w1.heap.size, 0, none⟩ 2 2 [.int .u8 1, .int .u8 (k : Int)] rfl rfl (cell_two_new _ _ _ _) (one2 _ _) (by omega) ?_; intro w2 hown2 hgrow2))
  have hb0 : Below w.heap.size w w0 := (Below.refl _ _).grown hgrow0 (Nat.le_refl _) (fun k h => by cases h)
  have hs0 := hb0.size
  have hb1 : Below w.heap.size w w1 := hb0.grown hgrow1 (by omega) (fun k h => by cases h; exact Nat.le_refl _)
  have hs1 := hb1.size
  have hb2 : Below w.heap.size w w2 := (hb1.alloc (by omega) _).grown hgrow2 (by simp; omega) (fun k h => by cases h; exact Nat.le_refl _)
  have hs2 := hb2.size
  clear hown0 hown1 hgrow0 hgrow1 hgrow2 hb0 hb1 hs0 hs1
  refine (append_any w.heap.size 4 (12 + n) n 4 _ _ _ w2 rfl rfl (by omega) (by omega) hown2).mono ?_
  rintro e w3 ⟨rfl, hown3, hgrow3⟩
  have hb3 : Below w.heap.size w w3 := hb2.grown hgrow3 (by omega) (fun k h => by cases h; exact Nat.le_refl _)
  have hs3 := hb3.size
  have hsrc := HS.out w3 hb3
  have HSR : Hid (∀ j v, (vals B)[j]? = some v → w3.cell? ((⟨b, off, none⟩ : Addr).add j) = some v) := hsrc
  clear hsrc hown2 hgrow3 hb2 hs2
  go_wp2_with (first
    | (at_builtin; refine wpList_append_own_spare _ rfl (.tmp 27) (.tmp 28) 22 rfl w.heap.size 5 i0 1 Tryd.underlying22 hi hz1 w.heap.size 8 (12 + n) _ rfl hown3 ⟨b, off, none⟩ n cap (vals B) rfl (by rw [vals_len]; have := HN.out; omega) HSR.out (vals_one' B) (by omega) ?_; intro w4 hown4 hgrow4))
  have hb4 : Below w.heap.size w w4 := hb3.grown hgrow4 (by omega) (fun k h => by cases h; exact Nat.le_refl _)
  have hs4 := hb4.size
  have HH : Hid (w4.ownsRow w.heap.size 5 1 (.slice (some ⟨w.heap.size, 0, none⟩) (8 + n) (12 + n)) (8 + n) (vals (headB k B))) := by
    show w4.ownsRow _ _ _ _ _ _
    have e : vals (headB k B) = [] ++ vals [81, 77] ++ [.int .u8 1, .int .u8 (k : Int)] ++ vals (big n 4) ++ vals B := by
      unfold headB; rw [vals_append, vals_append, vals_append, HN.out]; rfl
    rw [e]; exact hown4
  clear hown4 hown3 hgrow4 hb3 hs3 HSR
  have HCL : Hid (∀ i, i < 8 + n → w4.cell? ⟨w.heap.size, 0 + i, none⟩ = some (.int .u8 (((headB k B).getD i 0 : Nat) : Int))) := by
    intro i hi; rw [Nat.zero_add]; exact owned_cells HH.out i hi
  refine (sum_any w.heap.size 0 _ (headB k B) (8 + n) (12 + n) w4 (fun _ => rfl) (by rw [headB_len]; have := HN.out; omega) (by omega) (headB_lt k B hk HB.out) (HT.out w4 hb4) HCL.out).mono ?_
  rintro e w5 ⟨rfl, rfl⟩
  have hSlt : Crc.sum (headB k B) < 4294967296 := xor_lt32 _ _ (sumFrom_lt _ _ (by omega) (headB_lt k B hk HB.out)) (by omega)
  have HE : Hid (vals (frameB k B) = vals (headB k B) ++ [.int .u8 (((Crc.sum (headB k B) : Nat) : Int) % (256 : Int)), .int .u8 (((Crc.sum (headB k B) : Nat) : Int) / (256 : Int) % (256 : Int)), .int .u8 (((Crc.sum (headB k B) : Nat) : Int) / (65536 : Int) % (256 : Int)), .int .u8 (((Crc.sum (headB k B) : Nat) : Int) / (16777216 : Int))]) := by
    show _ = _; unfold frameB; rw [vals_append, vals_low4]
  clear HCL
  generalize Crc.sum (headB k B) = S at *
  go_wp2_with (first
    | (at_builtin; refine wpList_append_own_spare _ rfl (.tmp 32) (.tmp 44) 22 rfl w.heap.size 5 i0 1 Tryd.underlying22 hi hz1 w.heap.size (8 + n) (12 + n) _ rfl (HH.out.alloc _) ⟨w5.heap.size, 0, none⟩ 4 4 [.int .u8 ((S : Int) % (256 : Int)), .int .u8 ((S : Int) / (256 : Int) % (256 : Int)), .int .u8 ((S : Int) / (65536 : Int) % (256 : Int)), .int .u8 ((S : Int) / (16777216 : Int))] rfl rfl (cell_four_new _ _ _ _ _ _) (one4 _ _ _ _) (by omega) ?_; intro w6 hown6 hgrow6))
  go_ret2
  refine ⟨by rw [show 8 + n + 4 = 12 + n by omega]; rfl, ?_, (hb4.alloc (by omega) _).grown hgrow6 (by simp; omega) (fun k h => by cases h; exact Nat.le_refl _)⟩
  rw [HE.out]
  rw [show 12 + n = 8 + n + 4 by omega] at hown6 ⊢
  exact hown6
end Go.Proofs.YtbfjeabngdiejaaDoor
