import Derived.Test.YtmbclemicfffoaaLeG
import Derived.Test.YtmbclemicfffoaaBAy
import Derived.Deep.DeepCutAuto
namespace Go.Proofs.Ytmbclemicfffoaa
open Go.RowKit

theorem fv_grownA {lim : Nat} {W W' : World} {ao : Option Addr} {L : List Lk} {b off q : Nat} (h : FV lim W ao L b off) (hg : W.grownBy W' (some q)) (hB : 0 < L.length → b ≠ q) : FV lim W' ao L b off :=
  ⟨h.ad, h.lt, h.le, fun i l hl => by
    have hp : 0 < L.length := by have := (List.getElem?_eq_some_iff.1 hl).1; omega
    have hne : some b ≠ some q := fun e => hB hp (by cases e; rfl)
    exact ⟨hg.cell (h.at_ i l hl).1 hne, hg.cell (h.at_ i l hl).2 hne⟩⟩
theorem fv_neA {w : World} {ao : Option Addr} {L : List Lk} {b off B : Nat} {lim : Nat} {cs : Array Value} {t : TypeId} (hf : FV lim w ao L b off) (hB : w.heap[B]? = some (.cells cs t (0, 0))) (hc : ∀ (i : Nat) (s : ByteArray), cs[i]? ≠ some (.string s)) : 0 < L.length → b ≠ B := fun h0 e => by
  have h1 := (hf.at_ 0 _ (List.getElem?_eq_getElem h0)).1
  rw [e, block_cell hB] at h1
  exact hc _ _ h1
theorem nosA (i : Nat) (s : ByteArray) : (#[Value.slice none 0 0, .int .i64 0] : Array Value)[i]? ≠ some (.string s) := by
  rcases i with _ | _ | _
  · simp
  · simp
  · simp
theorem grown_two {w w1 w2 : World} {r : Option Nat} (h : w.grownBy w1 r) (h' : w1.grownBy w2 r) : w.grownBy w2 r := ⟨h'.os.trans h.os, h'.tape.trans h.tape, h'.output.trans h.output, Nat.le_trans h.size h'.size, fun k hk hne => (h'.block k (Nat.lt_of_lt_of_le hk h.size) hne).trans (h.block k hk hne)⟩
def FBox (p : Nat) (W : World) : Prop := W.heap[p]? = some (.cells #[.slice none 0 0, .int .i64 0] 49 (0, 0))
theorem FBox.kept {p : Nat} {W W' : World} (h : FBox p W) (hb : Below W.heap.size W W') : FBox p W' := (hb.block _ (block_lt h)).trans h
/-- The fault is laid into its box, which is block p. -/
theorem box_finA {p : Nat} {w w3 : World} {fo : Option Addr} {L : List Lk} {b off : Nat} (hr : FBox p w3) (hp : w.heap.size ≤ p) (hf : FV w3.heap.size w3 fo L b off) (hb : Below w.heap.size w w3) (u0 u1 : Value) :
    (∃ b off, FV ((w3.setCell ⟨p, 0, none⟩ u0).setCell ⟨p, 1, none⟩ u1).heap.size ((w3.setCell ⟨p, 0, none⟩ u0).setCell ⟨p, 1, none⟩ u1) fo L b off) ∧ Below w.heap.size w ((w3.setCell ⟨p, 0, none⟩ u0).setCell ⟨p, 1, none⟩ u1) ∧ w3.grownBy ((w3.setCell ⟨p, 0, none⟩ u0).setCell ⟨p, 1, none⟩ u1) (some p) := by
  have hg : w3.grownBy ((w3.setCell ⟨p, 0, none⟩ u0).setCell ⟨p, 1, none⟩ u1) (some p) := grown_two (grown_set w3 p 0 u0) (grown_set _ p 1 u1)
  have hs : ((w3.setCell ⟨p, 0, none⟩ u0).setCell ⟨p, 1, none⟩ u1).heap.size = w3.heap.size := by simp
  refine ⟨⟨b, off, ?_⟩, hb.grown hg hb.size (fun k hk => by cases hk; exact hp), hg⟩
  rw [hs]
  exact fv_grownA hf hg (fv_neA hf hr nosA)
set_option maxRecDepth 10000 in
set_option maxHeartbeats 800000 in
/-- A refusal of the reference. -/
theorem noA (c at_ : Int) (w : World) : Calls Try.prog 22 #[.int .i64 c, .int .i64 at_] w (FvP w [⟨ledgerN, at_⟩] c) := by
  unfold FvP
  obtain ⟨W1, hW1⟩ : ∃ W1, w.alloc (.cells #[.slice none 0 0, .int .i64 0] 49) = W1 := ⟨_, rfl⟩
  have C1 : Hid (FBox w.heap.size W1) := by rw [← hW1]; exact alloc_atK _ _
  have B1 : Hid (Below w.heap.size w W1) := by rw [← hW1]; exact (Below.refl _ w).alloc (Nat.le_refl _) _
  have HNW := hide (new0 ledgerN at_ c W1)
  unfold FvP ledgerN at HNW
  have HW1 := hide hW1
  clear hW1
  go_enter Try.func22, Try.ntmps22
  go_upto_region 1 with fail
  rw [HW1.out]
  clear HW1
  go_wp2_with fail
  refine HNW.out.mono ?_
  rintro e w5 ⟨fo, fc, rfl, G5⟩
  obtain ⟨b5, o5, hf5, bb5⟩ := G5.out
  have r5 := C1.out.kept bb5
  have B5 := hide (B1.out.trans (bb5.mono B1.out.size))
  have FIN := hide (box_finA (w := w) r5 (Nat.le_refl _) hf5 B5.out)
  have y0 := block_cell r5 0
  have y1 := block_cell r5 1
  have g0 := block_free r5 0
  have g1 := block_free r5 1
  simp at y0 y1
  have hl5 := block_lt r5
  clear r5 hf5 B5 bb5 G5 HNW C1 B1
  go_wp2
  refine bodyPost_ret (v := .agg #[.slice fo 1 fc, .int .i64 c]) (by simp [results, Try.results22, go_sem, y0, y1]) rfl ?_
  obtain ⟨⟨b, off, h1⟩, h2, -⟩ := FIN.out (.slice fo 1 fc) (.int .i64 c)
  exact ⟨fo, fc, rfl, b, off, h1, h2⟩
set_option maxRecDepth 10000 in
set_option maxHeartbeats 800000 in
theorem aboveA (a b : Int) (ha : 0 ≤ a ∧ a ≤ 18446744073709551615) (w : World) : Calls Try.prog 23 #[.int .u64 a, .int .u64 b, .int .u64 18446744073709551615] w fun e w' => e = .returned (.bool (decide (b > 18446744073709551615 - a))) ∧ w' = w := by
  have g1 : decide (a > 18446744073709551615) = false := decide_eq_false (by omega)
  have hw : IntKind.u64.wrap ((18446744073709551615 : Int) - a) = (18446744073709551615 : Int) - a := IntWalk.u64_in _ ⟨by omega, by omega⟩
  clear ha
  go_enter Try.func23, Try.ntmps23
  go_wp2
  go_ret
  exact ⟨rfl, rfl⟩
def srt (l : List Ac) : List Ac := l.foldl insA []
theorem srt_app (l : List Ac) (a : Ac) : srt (l ++ [a]) = insA (srt l) a := by unfold srt; rw [List.foldl_append]; rfl
theorem srt_len : ∀ (l : List Ac) (m : List Ac), (l.foldl insA m).length = m.length + l.length
  | [], m => rfl
  | a :: l, m => by rw [List.foldl_cons, srt_len l, insA_len]; simp; omega
theorem insA_mem {x a : Ac} : ∀ {l : List Ac}, x ∈ insA l a ↔ x = a ∨ x ∈ l
  | [] => by simp [insA]
  | y :: r => by
    unfold insA
    split
    · simp
    · simp only [List.mem_cons, insA_mem (l := r)]
      constructor
      · rintro (h | h | h)
        · exact .inr (.inl h)
        · exact .inl h
        · exact .inr (.inr h)
      · rintro (h | h | h)
        · exact .inr (.inl h)
        · exact .inl h
        · exact .inr (.inr h)
theorem srt_mem {x : Ac} : ∀ (l m : List Ac), x ∈ l.foldl insA m ↔ x ∈ l ∨ x ∈ m
  | [], m => by simp
  | a :: l, m => by
    rw [List.foldl_cons, srt_mem l, insA_mem]
    simp only [List.mem_cons]
    constructor
    · rintro (h | h | h)
      · exact .inl (.inr h)
      · exact .inl (.inl h)
      · exact .inr h
    · rintro ((h | h) | h)
      · exact .inr (.inl h)
      · exact .inl h
      · exact .inr (.inr h)
/-- The reference's book as it lies. -/
structure Bk (W : World) (p B : Nat) (m : List Ac) (s : Nat) : Prop where
  v : ∃ (ao : Option Addr) (cap : Nat), W.heap[p]? = some (.cells #[.slice ao m.length cap, .slice none 0 0, .slice none 0 0, .int .u64 (s : Nat), .int .u64 1, .slice none 0 0, .slice none 0 0] 35 (0, 0)) ∧ W.ownsRow B 37 4 (.slice ao m.length cap) m.length (acells m)
theorem Bk.kept {W W' : World} {p B : Nat} {m : List Ac} {s : Nat} (h : Bk W p B m s) (hb : Below W.heap.size W W') : Bk W' p B m s := by
  obtain ⟨ao, cap, h1, h2⟩ := h.v
  exact ⟨⟨ao, cap, (hb.block _ (block_lt h1)).trans h1, row_quietT h2 (below_none hb)⟩⟩
end Go.Proofs.Ytmbclemicfffoaa
