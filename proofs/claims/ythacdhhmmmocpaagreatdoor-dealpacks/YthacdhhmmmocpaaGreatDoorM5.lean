import Derived.Test.YthacdhhmmmocpaaGreatDoorKToldB
import Derived.BigQuiet
namespace Go.Proofs.YthacdhhmmmocpaaGreatDoor
open Go.RowKit

theorem FV.get {lim : Nat} {w : World} {ao : Option Addr} {L : List Lk} {b off : Nat} (h : FV lim w ao L b off) {k : Nat} (hk : k < L.length) : ∃ layer at_, L[k]? = some ⟨layer, at_⟩ ∧ ao = some ⟨b, off, none⟩ ∧ b < lim ∧ w.cell? ⟨b, off + k * 2, none⟩ = some (.string layer) ∧ w.cell? ⟨b, off + k * 2 + 1, none⟩ = some (.int .i64 at_) := by
  have hg : L[k]? = some L[k] := List.getElem?_eq_getElem hk
  obtain ⟨c0, c1⟩ := h.at_ k _ hg
  exact ⟨L[k].layer, L[k].at_, hg, h.ad (by omega), h.lt (by omega), c0, c1⟩

set_option maxRecDepth 10000 in
set_option maxHeartbeats 800000 in
theorem same0_any {w : World} {L : List Lk} {c : Int} {a1 a2 : Option Addr} {b1 o1 b2 o2 : Nat} (n1 n2 c1 c2 : Nat) (hn1 : L.length = n1) (hn2 : L.length = n2) (h1 : FV w.heap.size w a1 L b1 o1) (h2 : FV w.heap.size w a2 L b2 o2) :
    Calls Tryz.prog 33 #[.agg #[.slice a1 n1 c1, .int .i64 c], .agg #[.slice a2 n2 c2, .int .i64 c]] w fun e w' => e = .returned (.bool true) ∧ Hid (Below w.heap.size w w') := by
  subst hn1
  have hle := h1.le
  have hc : (c != c) = false := by simp
  have H1 := hide h1
  have H2 := hide h2
  have HN2 := hide hn2
  clear h1 h2
  obtain ⟨W0, hW0⟩ : ∃ W0, (w.alloc (.cells #[.slice a1 L.length c1, .int .i64 c] 33)).alloc (.cells #[.slice a2 n2 c2, .int .i64 c] 33) = W0 := ⟨_, rfl⟩
  have e1 : (w.alloc (.cells #[.slice a1 L.length c1, .int .i64 c] 33)).heap.size = w.heap.size + 1 := by simp
  have q1 : W0.heap[w.heap.size + 1]? = some (.cells #[.slice a2 n2 c2, .int .i64 c] 33 (0, 0)) := by rw [← hW0, ← e1]; exact alloc_atK _ _
  have q0 : W0.heap[w.heap.size]? = some (.cells #[.slice a1 L.length c1, .int .i64 c] 33 (0, 0)) := by rw [← hW0]; exact ((World.grownBy_alloc _ _ none).block _ (by rw [e1]; omega) (by simp)).trans (alloc_atK _ _)
  have b0 : Below w.heap.size w W0 := by rw [← hW0]; exact ((Below.refl _ w).alloc (Nat.le_refl _) _).alloc (by simp) _
  have Q0 := hide q0
  have Q1 := hide q1
  have B0 := hide b0
  have HW0 := hide hW0
  clear q0 q1 b0 hW0 e1
  subst hn2
  go_enter Tryz.func33, Tryz.ntmps33
  go_upto_region 1 with fail
  rw [HW0.out]
  have x0 := block_cell Q0.out 0
  have x1 := block_cell Q0.out 1
  have y0 := block_cell Q1.out 0
  have y1 := block_cell Q1.out 1
  have hb1 := block_lt Q1.out
  simp at x0 x1 y0 y1
  go_wp2
  go_loopw [5] (fun i wr => ∃ k : Nat, k ≤ L.length ∧ i = .int .i64 k ∧ Hid (Below W0.heap.size W0 wr)) (fun i _ => L.length - (intOf i).toNat)
  case atStart => exact ⟨0, by omega, rfl, Below.refl _ _⟩
  case round =>
    obtain ⟨k, hk, rfl, HS⟩ := hrel
    have HB : Hid (Below w.heap.size w wr) := B0.out.trans (HS.out.mono B0.out.size)
    have x0 : wr.cell? ⟨w.heap.size, 0, none⟩ = some (.slice a1 L.length c1) := (HS.out.cell (p := ⟨w.heap.size, 0, none⟩) (by simp; omega)).trans x0
    have y0 : wr.cell? ⟨w.heap.size + 1, 0, none⟩ = some (.slice a2 L.length c2) := (HS.out.cell (p := ⟨w.heap.size + 1, 0, none⟩) (by simpa using hb1)).trans y0
    have hbs : w.heap.size + 1 < wr.heap.size := Nat.lt_of_lt_of_le hb1 HS.out.size
    by_cases hlt : k < L.length
    · obtain ⟨layer, at_, g1, e1, l1, p0, p1⟩ := (H1.out.below HB.out).get hlt
      obtain ⟨layer', at_', g2, e2, l2, r0, r1⟩ := (H2.out.below HB.out).get hlt
      rw [g1] at g2
      cases g2
      rw [e1] at x0
      rw [e2] at y0
      have hs1 : b1 < wr.heap.size := Nat.lt_of_lt_of_le l1 HB.out.size
      have hs2 : b2 < wr.heap.size := Nat.lt_of_lt_of_le l2 HB.out.size
      have ha : (at_ != at_) = false := by simp
      clear g1 e1 e2 l1 l2
      go_wp2_with fail
      go_quiet (fail)
      all_goals go_wp2
      all_goals exact ⟨⟨k + 1, by omega, by go_num, Go.below_drewN HS.out _⟩, by simp [intOf]; omega⟩
    · obtain rfl : k = L.length := by omega
      go_wp2
      go_ret
      exact ⟨rfl, HB.out⟩
set_option maxRecDepth 10000 in
set_option maxHeartbeats 800000 in
/-- Is: an error against the refusal that it should be. -/
theorem is_any {w : World} {L : List Lk} {v : Value} {c : Int} {a : Option Addr} {b o : Nat} (n cp : Nat) (hn : L.length = n) (hv : (v = .nilIface ∧ L = [] ∧ c = 0) ∨ (Chain w.heap.size w L v c ∧ 0 < L.length ∧ L.length ≤ 11 ∧ c ≠ 0)) (hf : FV w.heap.size w a L b o) :
    Calls Tryz.prog 6 #[v, .agg #[.slice a n cp, .int .i64 c]] w fun e w' => e = .returned (.bool true) ∧ Hid (Below w.heap.size w w') := by
  obtain ⟨W0, hW0⟩ : ∃ W0, w.alloc (.cells #[.slice a n cp, .int .i64 c] 33) = W0 := ⟨_, rfl⟩
  have b0 : Below w.heap.size w W0 := by rw [← hW0]; exact (Below.refl _ w).alloc (Nat.le_refl _) _
  have q0 : W0.heap[w.heap.size]? = some (.cells #[.slice a n cp, .int .i64 c] 33 (0, 0)) := by rw [← hW0]; exact alloc_atK _ _
  have HT : Hid (Calls Tryz.prog 32 #[v] W0 fun e w' => ∃ ao cap, e = .returned (.tuple #[.agg #[.slice ao n cap, .int .i64 c], .bool true]) ∧ Hid (∃ b, FV w'.heap.size w' ao L b 0 ∧ Below W0.heap.size W0 w')) := by
    rw [← hn]
    rcases hv with ⟨rfl, rfl, rfl⟩ | ⟨h1, h2, h3, h4⟩
    · exact (told0_nil W0).mono (fun _ _ h => ⟨none, 0, h.1, 0, FV.nil _ _ _ _ _, h.2⟩)
    · exact told0_chain ((Chain.below b0 h1).wide b0.size) h2 h3 h4
  have HF := hide hf
  have B0 := hide b0
  have Q0 := hide q0
  have HW0 := hide hW0
  clear hv hf b0 q0 hW0
  go_enter Tryz.func6, Tryz.ntmps6
  go_wp2_with fail
  rw [HW0.out]
  clear HW0
  refine HT.out.mono ?_
  rintro e w1 ⟨ao, cap, rfl, G⟩
  obtain ⟨b', hf', hb1⟩ := G.out
  have HF1 := hide ((HF.out.below (B0.out.trans (hb1.mono B0.out.size))).wide (Nat.le_trans B0.out.size hb1.size))
  have HF2 := hide hf'
  have B1 := hide (B0.out.trans (hb1.mono B0.out.size))
  have q1 := (hb1.block _ (block_lt Q0.out)).trans Q0.out
  have x0 := block_cell q1 0
  have x1 := block_cell q1 1
  have hl := block_lt q1
  simp at x0 x1
  have HSM : Hid (∀ o, Calls Tryz.prog 33 #[.agg #[.slice a n cp, .int .i64 c], .agg #[.slice ao n cap, .int .i64 c]] (w1.alloc o) fun e w' => e = .returned (.bool true) ∧ Hid (Below w.heap.size w w')) := fun o => by
    have bo : Below w1.heap.size w1 (w1.alloc o) := (Below.refl _ w1).alloc (Nat.le_refl _) o
    refine (same0_any (w := w1.alloc o) (c := c) n n cp cap hn hn ((HF1.out.below bo).wide bo.size) ((HF2.out.below bo).wide bo.size)).mono (fun _ _ h => ⟨h.1, ?_⟩)
    exact B1.out.trans ((bo.trans (h.2.out.mono bo.size)).mono B1.out.size)
  clear q1 hf' hb1 G HT
  go_wp2_with fail
  refine (HSM.out _).mono ?_
  rintro e w2 ⟨rfl, hb2⟩
  go_wp2
  go_ret
  exact ⟨rfl, hb2.out⟩
end Go.Proofs.YthacdhhmmmocpaaGreatDoor
namespace Go.Proofs.YthacdhhmmmocpaaGreatDoor
open Go.RowKit

/-- A refusal that a function hands out. -/
def FvP (w : World) (L : List Lk) (c : Int) (e : Ending) (w' : World) : Prop := ∃ ao cap, e = .returned (.agg #[.slice ao L.length cap, .int .i64 c]) ∧ Hid (∃ b off, FV w'.heap.size w' ao L b off ∧ Below w.heap.size w w')
theorem fv_one {w : World} {g : Nat} {l : Lk} (h0 : w.cell? ⟨g, 0, none⟩ = some (.string l.layer)) (h1 : w.cell? ⟨g, 1, none⟩ = some (.int .i64 l.at_)) : FV w.heap.size w (some ⟨g, 0, none⟩) [l] g 0 := by
  have hlt : g < w.heap.size := by
    rcases Nat.lt_or_ge g w.heap.size with h | h
    · exact h
    · simp [World.cell?, Array.getElem?_eq_none h] at h0
  refine ⟨fun _ => rfl, fun _ => hlt, by simp, fun i x hx => ?_⟩
  have hi := (List.getElem?_eq_some_iff.1 hx).1
  obtain rfl : i = 0 := by simpa using hi
  cases hx
  exact ⟨h0, h1⟩
set_option maxRecDepth 10000 in
set_option maxHeartbeats 800000 in
theorem none0 (w : World) : Calls Tryz.prog 31 #[] w (FvP w [] 0) := by
  unfold FvP
  go_enter Tryz.func31, Tryz.ntmps31
  go_wp2
  refine bodyPost_ret (v := .agg #[.slice none 0 0, .int .i64 0]) (by simp [results, Tryz.results31, go_sem]) rfl ⟨none, 0, rfl, 0, 0, FV.nil _ _ _ _ _, ?_⟩
  have b0 : Below w.heap.size w (w.alloc (.cells #[.slice none 0 0, .int .i64 0] 33)) := (Below.refl _ w).alloc (Nat.le_refl _) _
  first
    | exact b0
    | exact (b0.setCell (p := ⟨w.heap.size, 0, none⟩) (Nat.le_refl _) _).setCell (p := ⟨w.heap.size, 1, none⟩) (Nat.le_refl _) _
set_option maxRecDepth 10000 in
set_option maxHeartbeats 800000 in
theorem new0 (layer : ByteArray) (at_ c : Int) (w : World) : Calls Tryz.prog 55 #[.string layer, .int .i64 at_, .int .i64 c] w (FvP w [⟨layer, at_⟩] c) := by
  unfold FvP
  go_enter Tryz.func55, Tryz.ntmps55
  go_wp2
  refine bodyPost_ret (v := .agg #[.slice (some ⟨w.heap.size + 1, 0, none⟩) 1 1, .int .i64 c]) (by simp [results, Tryz.results55, go_sem]) rfl ⟨some ⟨w.heap.size + 1, 0, none⟩, 1, rfl, w.heap.size + 1, 0, ?_, ?_⟩
  · have e1 : (w.alloc (.cells #[.slice (some ⟨w.heap.size + 1, 0, none⟩) 1 1, .int .i64 c] 33)).heap.size = w.heap.size + 1 := by simp
    have q0 := World.cell?_alloc_new (w.alloc (.cells #[.slice (some ⟨w.heap.size + 1, 0, none⟩) 1 1, .int .i64 c] 33)) #[.string layer, .int .i64 at_] 104 0
    have q1 := World.cell?_alloc_new (w.alloc (.cells #[.slice (some ⟨w.heap.size + 1, 0, none⟩) 1 1, .int .i64 c] 33)) #[.string layer, .int .i64 at_] 104 1
    rw [e1] at q0 q1
    exact fv_one q0 q1
  · exact ((Below.refl _ w).alloc (Nat.le_refl _) _).alloc (by simp) _
/-- Between two links of the wrapping. -/
structure Wl (w : World) (l : Lk) (L : List Lk) (ao : Option Addr) (n cp : Nat) (c : Int) (k : Nat) (v : Value) (W : World) : Prop where
  bel : Below w.heap.size w W
  box : W.heap[w.heap.size]? = some (.cells #[.slice ao n cp, .int .i64 c] 33 (0, 0))
  res : ∃ Z : Array Value, W.heap[w.heap.size + 1]? = some (.cells Z 33 (0, 0)) ∧ Z.size = 2
  row : W.ownsRow w.heap.size 104 2 v (k + 1) (lkcells (l :: L.take k))
theorem row_fault {base k : Nat} {w : World} {v : Value} {xs : List Value} {j : Nat} {X : Array Value} (h : w.ownsRow base 104 2 v k xs) (hX : w.heap[j]? = some (.cells X 33 (0, 0))) : v.ownBlock ≠ some j := fun e => by
  rcases h.2 with ⟨rfl, _⟩ | ⟨g', cap, cur, rfl, _, hb, _⟩
  · cases e
  · cases e
    rw [hb] at hX
    cases hX
theorem Wl.next {w : World} {l : Lk} {L : List Lk} {ao : Option Addr} {n cp : Nat} {c : Int} {k : Nat} {v v' : Value} {W w2 : World} {o : Obj} (h : Wl w l L ao n cp c k v W) {x : Lk} (hx : L[k]? = some x) (ho : w2.ownsRow w.heap.size 104 2 v' (k + 1 + 1) (lkcells (l :: L.take k) ++ [.string x.layer, .int .i64 x.at_])) (hg : (W.alloc o).grownBy w2 v.ownBlock) : Wl w l L ao n cp c (k + 1) v' w2 := by
  have gA := World.grownBy_alloc W o none
  have row1 := row_quietT h.row gA
  obtain ⟨Z, z1, z2⟩ := h.res
  have b1 := (gA.block _ (block_lt h.box) (by simp)).trans h.box
  have r1 := (gA.block _ (block_lt z1) (by simp)).trans z1
  have bel1 := h.bel.grown gA h.bel.size (fun k e => by cases e)
  refine ⟨bel1.grown hg bel1.size (fun k e => (row1.lt k e).1), (hg.block _ (block_lt b1) (fun e => row_fault row1 b1 e.symm)).trans b1, ⟨Z, (hg.block _ (block_lt r1) (fun e => row_fault row1 r1 e.symm)).trans r1, z2⟩, ?_⟩
  have e : lkcells (l :: L.take (k + 1)) = lkcells (l :: L.take k) ++ [.string x.layer, .int .i64 x.at_] := by
    rw [List.take_add_one, hx]
    exact lkcells_snoc (l :: L.take k) x
  rw [e]
  exact ho
set_option maxRecDepth 10000 in
set_option maxHeartbeats 1600000 in
theorem wrap0 (layer : ByteArray) (at_ c : Int) {L : List Lk} {ao : Option Addr} {b off : Nat} (n cp : Nat) (hn : L.length = n) (hl : n ≤ 100) (w : World) (hf : FV w.heap.size w ao L b off) : Calls Tryz.prog 57 #[.string layer, .int .i64 at_, .agg #[.slice ao n cp, .int .i64 c]] w (FvP w (⟨layer, at_⟩ :: L) c) := by
  obtain ⟨i0, hi0, hz0, hz1, hz2⟩ := info_parts infoLink
  unfold FvP
  have HF := hide hf
  have HN := hide hn
  clear hf hn
  obtain ⟨W2, hW2⟩ : ∃ W2, (w.alloc (.cells #[.slice ao n cp, .int .i64 c] 33)).alloc (.cells #[.slice none 0 0, .int .i64 0] 33) = W2 := ⟨_, rfl⟩
  have e1 : (w.alloc (.cells #[.slice ao n cp, .int .i64 c] 33)).heap.size = w.heap.size + 1 := by simp
  have s2 : W2.heap.size = w.heap.size + 1 + 1 := by rw [← hW2]; simp
  have WL0 : Hid (Wl w ⟨layer, at_⟩ L ao n cp c 0 (.slice (some ⟨w.heap.size + 1 + 1, 0, none⟩) 1 1) (W2.alloc (.cells #[.string layer, .int .i64 at_] 104))) := by
    have q1 : W2.heap[w.heap.size + 1]? = some (.cells #[.slice none 0 0, .int .i64 0] 33 (0, 0)) := by rw [← hW2, ← e1]; exact alloc_atK _ _
    have q0 : W2.heap[w.heap.size]? = some (.cells #[.slice ao n cp, .int .i64 c] 33 (0, 0)) := by rw [← hW2]; exact ((World.grownBy_alloc _ _ none).block _ (by rw [e1]; omega) (by simp)).trans (alloc_atK _ _)
    have b2 : Below w.heap.size w W2 := by rw [← hW2]; exact ((Below.refl _ w).alloc (Nat.le_refl _) _).alloc (by simp) _
    have gA := World.grownBy_alloc W2 (.cells #[.string layer, .int .i64 at_] 104) none
    refine ⟨b2.grown gA b2.size (fun k e => by cases e), (gA.block _ (block_lt q0) (by simp)).trans q0, ⟨_, (gA.block _ (block_lt q1) (by simp)).trans q1, rfl⟩, rfl, .inr ⟨w.heap.size + 1 + 1, 1, #[.string layer, .int .i64 at_], rfl, by omega, ?_, by omega, by unfold maxLen; omega, rfl, rfl⟩⟩
    rw [← s2]
    exact alloc_atK _ _
  have HW2 := hide hW2
  have HS2 := hide s2
  clear hW2 e1 s2
  go_enter Tryz.func57, Tryz.ntmps57
  go_wp2
  rw [HW2.out]
  go_loopw [7, 8] (fun v i wr => ∃ k : Nat, k ≤ n ∧ i = .int .i64 k ∧ Hid (Wl w ⟨layer, at_⟩ L ao n cp c k v wr)) (fun _ i _ => n - (intOf i).toNat)
  case atStart => exact ⟨0, by omega, rfl, WL0.out⟩
  case round =>
    obtain ⟨k, hk, rfl, HR⟩ := hrel
    clear WL0
    have x0 := block_cell HR.out.box 0
    have x1 := block_cell HR.out.box 1
    have hlx := block_lt HR.out.box
    simp at x0 x1
    by_cases hlt : k < n
    · obtain ⟨ly, a1, hg, e1, hbl, p0, p1⟩ := (HF.out.below HR.out.bel).get (k := k) (by rw [HN.out]; exact hlt)
      rw [e1] at x0
      have hbw : b < wr.heap.size := Nat.lt_of_lt_of_le hbl HR.out.bel.size
      have HOW : Hid (∀ o, (wr.alloc o).ownsRow w.heap.size 104 2 u7 (k + 1) (lkcells (⟨layer, at_⟩ :: L.take k))) := fun o => row_quietT HR.out.row (World.grownBy_alloc _ _ none)
      have HNX : Hid (∀ (v' : Value) (w2 : World) (o : Obj), w2.ownsRow w.heap.size 104 2 v' (k + 1 + 1) (lkcells (⟨layer, at_⟩ :: L.take k) ++ [.string ly, .int .i64 a1]) → (wr.alloc o).grownBy w2 u7.ownBlock → Wl w ⟨layer, at_⟩ L ao n cp c (k + 1) v' w2) := fun v' w2 o ho hg2 => HR.out.next hg ho hg2
      have HSW : Hid (w.heap.size ≤ wr.heap.size) := HR.out.bel.size
      clear hg e1 hbl
      go_wp2_with (first
        | (at_builtin; refine wpList_append_own_wide _ rfl (.tmp 20) (.tmp 26) 31 rfl w.heap.size 104 i0 (.agg #[.string ⟨#[]⟩, .int .i64 0]) 2 24 Tryz.underlying31 hi0 hz0 hz1 hz2 rfl (by decide) u7 (k + 1) (lkcells (⟨layer, at_⟩ :: L.take k)) rfl (HOW.out _) ⟨wr.heap.size, 0, none⟩ 1 1 [.string ly, .int .i64 a1] rfl rfl (cells_newK _ _ _) (by simp [Value.oneCell']) (by unfold maxLen; omega) (by omega) (Nat.le_trans HSW.out (by simp)) ?_; intro v' w2 ho hg _; obtain ⟨g', cap', rfl⟩ := ownsRow_succ ho; have NX := hide (HNX.out _ _ _ ho hg); clear ho hg))
      go_roundw
      case rel => exact ⟨k + 1, by omega, by go_num, NX.out⟩
      case measure => simp [intOf]; omega
    · obtain rfl : k = n := by omega
      have hrow := HR.out.row
      rw [List.take_of_length_le (by rw [HN.out]; omega)] at hrow
      have hlen : (⟨layer, at_⟩ :: L : List Lk).length = k + 1 := by rw [List.length_cons, HN.out]
      rw [← hlen] at hrow
      obtain ⟨ao', cap', b', rfl, hfv⟩ := fv_row hrow (by rw [hlen]; omega)
      obtain ⟨Z, z1, z2⟩ := HR.out.res
      have y0 : (wr.cell? ⟨w.heap.size + 1, 0, none⟩).isSome = true := by rw [block_cell z1 0]; simp [z2]
      have y1 : (wr.cell? ⟨w.heap.size + 1, 1, none⟩).isSome = true := by rw [block_cell z1 1]; simp [z2]
      obtain ⟨p0, hp0⟩ := Option.isSome_iff_exists.1 y0
      obtain ⟨p1, hp1⟩ := Option.isSome_iff_exists.1 y1
      have g0 := block_free z1 0
      have g1 := block_free z1 1
      have hlz := block_lt z1
      have FIN : Hid (∀ x y, FV ((wr.setCell ⟨w.heap.size + 1, 0, none⟩ x).setCell ⟨w.heap.size + 1, 1, none⟩ y).heap.size ((wr.setCell ⟨w.heap.size + 1, 0, none⟩ x).setCell ⟨w.heap.size + 1, 1, none⟩ y) ao' (⟨layer, at_⟩ :: L) b' 0 ∧ Below w.heap.size w ((wr.setCell ⟨w.heap.size + 1, 0, none⟩ x).setCell ⟨w.heap.size + 1, 1, none⟩ y)) := fun x y => by
        have ra := hrow.kept (grown_set wr (w.heap.size + 1) 0 x) (.inr (row_fault hrow z1))
        have za := heap_setCell_same wr (w.heap.size + 1) 0 _ _ x z1
        have rb := ra.kept (grown_set _ (w.heap.size + 1) 1 y) (.inr (row_fault ra za))
        obtain ⟨ao2, cap2, b2, e, hf⟩ := fv_row rb (by rw [hlen]; omega)
        cases e
        refine ⟨?_, (HR.out.bel.setCell (p := ⟨w.heap.size + 1, 0, none⟩) (by simp) x).setCell (p := ⟨w.heap.size + 1, 1, none⟩) (by simp) y⟩
        have hbb : b2 = b' := by
          have e1 := hf.ad (by simp)
          have e2 := hfv.ad (by simp)
          rw [e1] at e2
          cases e2
          rfl
        rw [hbb] at hf
        exact hf
      clear y0 y1 z1 hrow hfv hlen
      go_wp2
      refine bodyPost_ret (v := .agg #[.slice ao' (L.length + 1) cap', .int .i64 c]) (by simp [results, Tryz.results57, go_sem, hp0, hp1]) rfl ⟨ao', cap', rfl, b', 0, ?_⟩
      exact FIN.out _ _
end Go.Proofs.YthacdhhmmmocpaaGreatDoor
