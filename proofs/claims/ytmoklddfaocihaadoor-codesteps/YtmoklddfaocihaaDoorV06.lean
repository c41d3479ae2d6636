import Derived.Test.YtmoklddfaocihaaDoorV05
import Derived.BigQuiet
namespace Go.Proofs.YtmoklddfaocihaaDoor
open Go.RowKit

theorem FV.get {lim : Nat} {w : World} {ao : Option Addr} {L : List Lk} {b off : Nat} (h : FV lim w ao L b off) {k : Nat} (hk : k < L.length) : ∃ layer at_, L[k]? = some ⟨layer, at_⟩ ∧ ao = some ⟨b, off, none⟩ ∧ b < lim ∧ w.cell? ⟨b, off + k * 2, none⟩ = some (.string layer) ∧ w.cell? ⟨b, off + k * 2 + 1, none⟩ = some (.int .i64 at_) := by
 have hg : L[k]? = some L[k] := List.getElem?_eq_getElem hk
 obtain ⟨c0, c1⟩ := h.at_ k _ hg
 exact ⟨L[k].layer, L[k].at_, hg, h.ad (by omega), h.lt (by omega), c0, c1⟩

set_option maxRecDepth 10000 in
set_option maxHeartbeats 800000 in
theorem same0_any {w : World} {L : List Lk} {c : Int} {a1 a2 : Option Addr} {b1 o1 b2 o2 : Nat} (n1 n2 c1 c2 : Nat) (hn1 : L.length = n1) (hn2 : L.length = n2) (h1 : FV w.heap.size w a1 L b1 o1) (h2 : FV w.heap.size w a2 L b2 o2) :
  Calls Tryd.prog 35 #[.agg #[.slice a1 n1 c1, .int .i64 c], .agg #[.slice a2 n2 c2, .int .i64 c]] w fun e w' => e = .returned (.bool true) ∧ Hid (Below w.heap.size w w') := by
 subst hn1
 have hle := h1.le
 have hc : (c != c) = false := by simp
 have H1 := hide h1
 have H2 := hide h2
 have HN2 := hide hn2
 clear h1 h2
 obtain ⟨W0, hW0⟩ : ∃ W0, (w.alloc (.cells #[.slice a1 L.length c1, .int .i64 c] 30)).alloc (.cells #[.slice a2 n2 c2, .int .i64 c] 30) = W0 := ⟨_, rfl⟩
 have e1 : (w.alloc (.cells #[.slice a1 L.length c1, .int .i64 c] 30)).heap.size = w.heap.size + 1 := by simp
 have q1 : W0.heap[w.heap.size + 1]? = some (.cells #[.slice a2 n2 c2, .int .i64 c] 30 (0, 0)) := by rw [← hW0, ← e1]; exact alloc_atK _ _
 have q0 : W0.heap[w.heap.size]? = some (.cells #[.slice a1 L.length c1, .int .i64 c] 30 (0, 0)) := by rw [← hW0]; exact ((World.grownBy_alloc _ _ none).block _ (by rw [e1]; omega) (by simp)).trans (alloc_atK _ _)
 have b0 : Below w.heap.size w W0 := by rw [← hW0]; exact ((Below.refl _ w).alloc (Nat.le_refl _) _).alloc (by simp) _
 have Q0 := hide q0
 have Q1 := hide q1
 have B0 := hide b0
 have HW0 := hide hW0
 clear q0 q1 b0 hW0 e1
 subst hn2
 go_enter Tryd.func35, Tryd.ntmps35
 go_upto_region 1 with fail
 rw [HW0.out]
 have x0 := block_cell Q0.out 0
 have x1 := block_cell Q0.out 1
 have y0 := block_cell Q1.out 0
 have y1 := block_cell Q1.out 1
 have hb1 := block_lt Q1.out
 simp at x0 x1 y0 y1
 go_wp2
 go_loopw [5] (fun i wr => ∃ k : Nat, k ≤ L.length ∧ i = .int .i64 k ∧ Hid (Below W0.heap.size W0 wr)) (fun i _ => L.length - (intOf i).toNat)
 case atStart => exact ⟨0, by omega, rfl, Below.refl _ _⟩
 case round =>
  obtain ⟨k, hk, rfl, HS⟩ := hrel
  have HB : Hid (Below w.heap.size w wr) := B0.out.trans (HS.out.mono B0.out.size)
  have x0 : wr.cell? ⟨w.heap.size, 0, none⟩ = some (.slice a1 L.length c1) := (HS.out.cell (p := ⟨w.heap.size, 0, none⟩) (by simp; omega)).trans x0
  have y0 : wr.cell? ⟨w.heap.size + 1, 0, none⟩ = some (.slice a2 L.length c2) := (HS.out.cell (p := ⟨w.heap.size + 1, 0, none⟩) (by simpa using hb1)).trans y0
  have hbs : w.heap.size + 1 < wr.heap.size := Nat.lt_of_lt_of_le hb1 HS.out.size
  by_cases hlt : k < L.length
  ·obtain ⟨layer, at_, g1, e1, l1, p0, p1⟩ := (H1.out.below HB.out).get hlt
   obtain ⟨layer', at_', g2, e2, l2, r0, r1⟩ := (H2.out.below HB.out).get hlt
   rw [g1] at g2
   cases g2
   rw [e1] at x0
   rw [e2] at y0
   have hs1 : b1 < wr.heap.size := Nat.lt_of_lt_of_le l1 HB.out.size
   have hs2 : b2 < wr.heap.size := Nat.lt_of_lt_of_le l2 HB.out.size
   have ha : (at_ != at_) = false := by simp
   clear g1 e1 e2 l1 l2
   go_wp2_with fail
   go_quiet (fail)
   all_goals go_wp2
   all_goals exact ⟨⟨k + 1, by omega, by go_num, Go.below_drewN HS.out _⟩, by simp [intOf]; omega⟩
  ·obtain rfl : k = L.length := by omega
   go_wp2
   go_ret
   exact ⟨rfl, HB.out⟩
set_option maxRecDepth 10000 in
set_option maxHeartbeats 800000 in
/-- Is: an error against the refusal that it should be. -/
theorem is_any {w : World} {L : List Lk} {v : Value} {c : Int} {a : Option Addr} {b o : Nat} (n cp : Nat) (hn : L.length = n) (hv : (v = .nilIface ∧ L = [] ∧ c = 0) ∨ (Chain w.heap.size w L v c ∧ 0 < L.length ∧ L.length ≤ 11 ∧ c ≠ 0)) (hf : FV w.heap.size w a L b o) :
  Calls Tryd.prog 10 #[v, .agg #[.slice a n cp, .int .i64 c]] w fun e w' => e = .returned (.bool true) ∧ Hid (Below w.heap.size w w') := by
 obtain ⟨W0, hW0⟩ : ∃ W0, w.alloc (.cells #[.slice a n cp, .int .i64 c] 30) = W0 := ⟨_, rfl⟩
 have b0 : Below w.heap.size w W0 := by rw [← hW0]; exact (Below.refl _ w).alloc (Nat.le_refl _) _
 have q0 : W0.heap[w.heap.size]? = some (.cells #[.slice a n cp, .int .i64 c] 30 (0, 0)) := by rw [← hW0]; exact alloc_atK _ _
 have HT : Hid (Calls Tryd.prog 34 #[v] W0 fun e w' => ∃ ao cap, e = .returned (.tuple #[.agg #[.slice ao n cap, .int .i64 c], .bool true]) ∧ Hid (∃ b, FV w'.heap.size w' ao L b 0 ∧ Below W0.heap.size W0 w')) := by
  rw [← hn]
  rcases hv with ⟨rfl, rfl, rfl⟩ | ⟨h1, h2, h3, h4⟩
  ·exact (told0_nil W0).mono (fun _ _ h => ⟨none, 0, h.1, 0, FV.nil _ _ _ _ _, h.2⟩)
  ·exact told0_chain ((Chain.below b0 h1).wide b0.size) h2 h3 h4
 have HF := hide hf
 have B0 := hide b0
 have Q0 := hide q0
 have HW0 := hide hW0
 clear hv hf b0 q0 hW0
 go_enter Tryd.func10, Tryd.ntmps10
 go_wp2_with fail
 rw [HW0.out]
 clear HW0
 refine HT.out.mono ?_
 rintro e w1 ⟨ao, cap, rfl, G⟩
 obtain ⟨b', hf', hb1⟩ := G.out
 have HF1 := hide ((HF.out.below (B0.out.trans (hb1.mono B0.out.size))).wide (Nat.le_trans B0.out.size hb1.size))
 have HF2 := hide hf'
 have B1 := hide (B0.out.trans (hb1.mono B0.out.size))
 have q1 := (hb1.block _ (block_lt Q0.out)).trans Q0.out
 have x0 := block_cell q1 0
 have x1 := block_cell q1 1
 have hl := block_lt q1
 simp at x0 x1
 have HSM : Hid (∀ o, Calls Tryd.prog 35 #[.agg #[.slice a n cp, .int .i64 c], .agg #[.slice ao n cap, .int .i64 c]] (w1.alloc o) fun e w' => e = .returned (.bool true) ∧ Hid (Below w.heap.size w w')) := fun o => by
  have bo : Below w1.heap.size w1 (w1.alloc o) := (Below.refl _ w1).alloc (Nat.le_refl _) o
  refine (same0_any (w := w1.alloc o) (c := c) n n cp cap hn hn ((HF1.out.below bo).wide bo.size) ((HF2.out.below bo).wide bo.size)).mono (fun _ _ h => ⟨h.1, ?_⟩)
  exact B1.out.trans ((bo.trans (h.2.out.mono bo.size)).mono B1.out.size)
 clear q1 hf' hb1 G HT
 go_wp2_with fail
 refine (HSM.out _).mono ?_
 rintro e w2 ⟨rfl, hb2⟩
 go_wp2
 go_ret
 exact ⟨rfl, hb2.out⟩
end Go.Proofs.YtmoklddfaocihaaDoor
namespace Go.Proofs.YtmoklddfaocihaaDoor
open Go.RowKit

/-- A refusal that a function hands out. -/
def FvP (w : World) (L : List Lk) (c : Int) (e : Ending) (w' : World) : Prop := ∃ ao cap, e = .returned (.agg #[.slice ao L.length cap, .int .i64 c]) ∧ Hid (∃ b off, FV w'.heap.size w' ao L b off ∧ Below w.heap.size w w')
theorem fv_one {w : World} {g : Nat} {l : Lk} (h0 : w.cell? ⟨g, 0, none⟩ = some (.string l.layer)) (h1 : w.cell? ⟨g, 1, none⟩ = some (.int .i64 l.at_)) : FV w.heap.size w (some ⟨g, 0, none⟩) [l] g 0 := by
 have hlt : g < w.heap.size := by
  rcases Nat.lt_or_ge g w.heap.size with h | h
  ·exact h
  ·simp [World.cell?, Array.getElem?_eq_none h] at h0
 refine ⟨fun _ => rfl, fun _ => hlt, by simp, fun i x hx => ?_⟩
 have hi := (List.getElem?_eq_some_iff.1 hx).1
 obtain rfl : i = 0 := by simpa using hi
 cases hx
 exact ⟨h0, h1⟩
set_option maxRecDepth 10000 in
set_option maxHeartbeats 800000 in
theorem new0 (layer : ByteArray) (at_ c : Int) (w : World) : Calls Tryd.prog 72 #[.string layer, .int .i64 at_, .int .i64 c] w (FvP w [⟨layer, at_⟩] c) := by
 unfold FvP
 go_enter Tryd.func72, Tryd.ntmps72
 go_wp2
 refine bodyPost_ret (v := .agg #[.slice (some ⟨w.heap.size + 1, 0, none⟩) 1 1, .int .i64 c]) (by simp [results, Tryd.results72, go_sem]) rfl ⟨some ⟨w.heap.size + 1, 0, none⟩, 1, rfl, w.heap.size + 1, 0, ?_, ?_⟩
 ·have e1 : (w.alloc (.cells #[.slice (some ⟨w.heap.size + 1, 0, none⟩) 1 1, .int .i64 c] 30)).heap.size = w.heap.size + 1 := by simp
  have q0 := World.cell?_alloc_new (w.alloc (.cells #[.slice (some ⟨w.heap.size + 1, 0, none⟩) 1 1, .int .i64 c] 30)) #[.string layer, .int .i64 at_] 131 0
  have q1 := World.cell?_alloc_new (w.alloc (.cells #[.slice (some ⟨w.heap.size + 1, 0, none⟩) 1 1, .int .i64 c] 30)) #[.string layer, .int .i64 at_] 131 1
  rw [e1] at q0 q1
  exact fv_one q0 q1
 ·exact ((Below.refl _ w).alloc (Nat.le_refl _) _).alloc (by simp) _
end Go.Proofs.YtmoklddfaocihaaDoor
