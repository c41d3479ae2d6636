import Derived.Test.YtofddonhoakicaaDoorWKd
import Derived.Test.YtofddonhoakicaaDoorWBg
import Derived.Test.YtofddonhoakicaaDoorWSc
namespace Go.Proofs.YtofddonhoakicaaDoor
open Go.RowKit Crc

theorem fv_grownN {lim : Nat} {W W' : World} {ao : Option Addr} {L : List Lk} {b off q : Nat} (h : FV lim W ao L b off) (hg : W.grownBy W' (some q)) (hB : 0 < L.length → b ≠ q) : FV lim W' ao L b off :=
  ⟨h.ad, h.lt, h.le, fun i l hl => by
    have hp : 0 < L.length := by have := (List.getElem?_eq_some_iff.1 hl).1; omega
    have hne : some b ≠ some q := fun e => hB hp (by cases e; rfl)
    exact ⟨hg.cell (h.at_ i l hl).1 hne, hg.cell (h.at_ i l hl).2 hne⟩⟩
theorem fv_neN {w : World} {ao : Option Addr} {L : List Lk} {b off B : Nat} {lim : Nat} {cs : Array Value} {t : TypeId} (hf : FV lim w ao L b off) (hB : w.heap[B]? = some (.cells cs t (0, 0))) (hc : ∀ (i : Nat) (s : ByteArray), cs[i]? ≠ some (.string s)) : 0 < L.length → b ≠ B := fun h0 e => by
  have h1 := (hf.at_ 0 _ (List.getElem?_eq_getElem h0)).1
  rw [e, block_cell hB] at h1
  exact hc _ _ h1
theorem nos (i : Nat) (s : ByteArray) : (#[Value.slice none 0 0, .int .i64 0] : Array Value)[i]? ≠ some (.string s) := by
  rcases i with _ | _ | _
  · simp
  · simp
  · simp
def FBox (p : Nat) (W : World) : Prop := W.heap[p]? = some (.cells #[.slice none 0 0, .int .i64 0] 44 (0, 0))
theorem FBox.kept {p : Nat} {W W' : World} (h : FBox p W) (hb : Below W.heap.size W W') : FBox p W' := (hb.block _ (block_lt h)).trans h
theorem fbox_new (w : World) : FBox w.heap.size (w.alloc (.cells #[.slice none 0 0, .int .i64 0] 44)) := alloc_atK _ _
/-- The fault is laid into its box. -/
theorem box_fin {w w3 : World} {fo : Option Addr} {L : List Lk} {b off : Nat} (hr : FBox w.heap.size w3) (hf : FV w3.heap.size w3 fo L b off) (hb : Below w.heap.size w w3) (u0 u1 : Value) :
    (∃ b off, FV ((w3.setCell ⟨w.heap.size, 0, none⟩ u0).setCell ⟨w.heap.size, 1, none⟩ u1).heap.size ((w3.setCell ⟨w.heap.size, 0, none⟩ u0).setCell ⟨w.heap.size, 1, none⟩ u1) fo L b off) ∧ Below w.heap.size w ((w3.setCell ⟨w.heap.size, 0, none⟩ u0).setCell ⟨w.heap.size, 1, none⟩ u1) ∧ w3.grownBy ((w3.setCell ⟨w.heap.size, 0, none⟩ u0).setCell ⟨w.heap.size, 1, none⟩ u1) (some w.heap.size) := by
  have hg : w3.grownBy ((w3.setCell ⟨w.heap.size, 0, none⟩ u0).setCell ⟨w.heap.size, 1, none⟩ u1) (some w.heap.size) := grown_trans (grown_set w3 w.heap.size 0 u0) (grown_set _ w.heap.size 1 u1)
  have hs : ((w3.setCell ⟨w.heap.size, 0, none⟩ u0).setCell ⟨w.heap.size, 1, none⟩ u1).heap.size = w3.heap.size := by simp
  refine ⟨⟨b, off, ?_⟩, hb.grown hg hb.size (fun k hk => by cases hk; exact Nat.le_refl _), hg⟩
  rw [hs]
  exact fv_grownN hf hg (fv_neN hf hr nos)
def walN : ByteArray := ⟨#[119, 97, 108]⟩
set_option maxRecDepth 10000 in
set_option maxHeartbeats 800000 in
theorem refno (c : Int) (w : World) : Calls Tryd.prog 23 #[.int .i64 c, .int .i64 0] w (FvP w [⟨walN, 0⟩] c) := by
  have HNW : Hid (∀ W, Calls Tryd.prog 42 #[.string walN, .int .i64 0, .int .i64 c] W (FvP W [⟨walN, 0⟩] c)) := fun W => new0 walN 0 c W
  unfold FvP at HNW ⊢
  unfold walN at HNW
  obtain ⟨W1, hW1⟩ : ∃ W1, w.alloc (.cells #[.slice none 0 0, .int .i64 0] 44) = W1 := ⟨_, rfl⟩
  have Q1 : Hid (FBox w.heap.size W1) := by rw [← hW1]; exact fbox_new w
  have B1 : Hid (Below w.heap.size w W1) := by rw [← hW1]; exact (Below.refl _ w).alloc (Nat.le_refl _) _
  have HW1 := hide hW1
  clear hW1
  go_enter Tryd.func23, Tryd.ntmps23
  go_upto_region 1 with fail
  rw [HW1.out]
  go_wp2_with fail
  refine (HNW.out W1).mono ?_
  rintro e w3 ⟨fo, fc, rfl, G3⟩
  obtain ⟨b, off, hf, hb3⟩ := G3.out
  have r3 := Q1.out.kept hb3
  have FIN := hide (box_fin r3 hf (B1.out.trans (hb3.mono B1.out.size)))
  have y0 := block_cell r3 0
  have y1 := block_cell r3 1
  have g0 := block_free r3 0
  have g1 := block_free r3 1
  simp at y0 y1
  have hl3 := block_lt r3
  clear r3 hf hb3 G3 B1 Q1 HW1
  go_wp2
  refine bodyPost_ret (v := .agg #[.slice fo 1 fc, .int .i64 c]) (by simp [results, Tryd.results23, go_sem, y0, y1]) rfl ?_
  obtain ⟨⟨b', off', h1⟩, h2, -⟩ := FIN.out (.slice fo 1 fc) (.int .i64 c)
  exact ⟨fo, fc, rfl, b', off', h1, h2⟩
set_option maxRecDepth 10000 in
set_option maxHeartbeats 800000 in
theorem reflow (S : Nat) (w : World) (hS : S < 4294967296) : Calls Tryd.prog 26 #[.int .u32 S] w fun e w' => e = .returned (.slice (some ⟨w.heap.size, 0, none⟩) 4 4) ∧ Owns w.heap.size w' (.slice (some ⟨w.heap.size, 0, none⟩) 4 4) (low4 S) ∧ Below w.heap.size w w' := by
  have HO : Hid (Owns w.heap.size (w.alloc (.cells #[.int .u8 ((S : Int) % (256 : Int)), .int .u8 ((S : Int) / (256 : Int) % (256 : Int)), .int .u8 ((S : Int) / (65536 : Int) % (256 : Int)), .int .u8 ((S : Int) / (16777216 : Int))] 5)) (.slice (some ⟨w.heap.size, 0, none⟩) 4 4) (low4 S)) := by
    refine ⟨?_, low4_lt S hS, by simp [low4]⟩
    exact owns_of (Nat.le_refl _) (alloc_atK _ _) rfl (by unfold maxLen; omega) (Nat.le_refl _) (by rw [vals_low4]; rfl)
  go_enter Tryd.func26, Tryd.ntmps26
  go_wp2
  go_ret
  exact ⟨rfl, HO.out, (Below.refl _ _).alloc (Nat.le_refl _) _⟩
end Go.Proofs.YtofddonhoakicaaDoor
