import Derived.Test.YtiijbboigebhcaaGreatDoorNAsC
import Derived.Deep.RegionHeld
import Derived.Test.YtiijbboigebhcaaGreatDoorKSame
import Derived.Test.YtiijbboigebhcaaGreatDoorNRd
import Derived.Test.YtiijbboigebhcaaGreatDoorM4
namespace Go.Proofs.YtiijbboigebhcaaGreatDoor
open Go.RowKit

theorem grown_weakK {a b : World} (h : a.grownBy b none) (g : Nat) : a.grownBy b (some g) := ⟨h.os, h.tape, h.output, h.size, fun i hi _ => h.block i hi (by simp)⟩
def snapN : ByteArray := ⟨#[115, 110, 97, 112]⟩
def wireN : ByteArray := ⟨#[119, 105, 114, 101]⟩
theorem IsFault.chain {w : World} {v : Value} {a c : Int} (h : IsFault w v a c) : Chain w.heap.size w [⟨wireN, a⟩] v c := by
  obtain ⟨g, rfl, h0, h1, h2⟩ := h
  have hlt : g < w.heap.size := by
    rcases Nat.lt_or_ge g w.heap.size with h | h
    · exact h
    · simp [World.cell?, Array.getElem?_eq_none h] at h0
  exact ⟨g, _, rfl, hlt, h0, h1, h2, rfl⟩
set_option maxRecDepth 10000 in
theorem refusalD {w : World} {L : List Lk} {u : Value} {c : Int} (at_ : Int) (h : Chain w.heap.size w L u c) : Calls Tryz.prog 19 #[.int .i64 at_, u] w fun e w' => ∃ g, e = .returned (.iface 117 (.pointer (some ⟨g, 0, none⟩))) ∧ Hid (Chain w'.heap.size w' (⟨snapN, at_⟩ :: L) (.iface 117 (.pointer (some ⟨g, 0, none⟩))) c ∧ Below w.heap.size w w') := by
  have hw : w.heap.size < (w.alloc (.cells #[.string ⟨#[115, 110, 97, 112]⟩, .int .i64 at_, u] 119)).heap.size := by simp
  have hb : Below w.heap.size w (w.alloc (.cells #[.string ⟨#[115, 110, 97, 112]⟩, .int .i64 at_, u] 119)) := (Below.refl _ w).alloc (Nat.le_refl _) _
  have FIN : Hid (Chain (w.alloc (.cells #[.string ⟨#[115, 110, 97, 112]⟩, .int .i64 at_, u] 119)).heap.size (w.alloc (.cells #[.string ⟨#[115, 110, 97, 112]⟩, .int .i64 at_, u] 119)) (⟨snapN, at_⟩ :: L) (.iface 117 (.pointer (some ⟨w.heap.size, 0, none⟩))) c) :=
    ⟨w.heap.size, u, rfl, hw, World.cell?_alloc_new w _ _ 0, World.cell?_alloc_new w _ _ 1, World.cell?_alloc_new w _ _ 2, (Chain.below hb h).wide (Nat.le_of_lt hw)⟩
  obtain ⟨t, x, rfl⟩ : ∃ t x, u = .iface t x := by
    cases L with
    | nil => exact ⟨_, _, h⟩
    | cons l r => obtain ⟨g, _, e, _⟩ := h; exact ⟨_, _, e⟩
  clear h
  go_enter Tryz.func19, Tryz.ntmps19
  go_wp2
  go_ret
  exact ⟨_, rfl, FIN.out, hb⟩
set_option maxRecDepth 10000 in
set_option maxHeartbeats 1600000 in
/-- A fault of layer wire as what is behind a refusal of this layer. -/
theorem behind_any {w : World} {v : Value} {a c : Int} (hg : ErrT w) (h : IsFault w v a c) : Calls Tryz.prog 25 #[v] w fun e w' => ∃ g, e = .returned (.iface 117 (.pointer (some ⟨g, 0, none⟩))) ∧ Hid (Chain w'.heap.size w' [⟨snapN, a⟩, ⟨wireN, a⟩] (.iface 117 (.pointer (some ⟨g, 0, none⟩))) c ∧ Below w.heap.size w w') := by
  have hch := h.chain
  obtain ⟨g, rfl, h0, h1, h2⟩ := h
  have hlt : g < w.heap.size := by
    rcases Nat.lt_or_ge g w.heap.size with h | h
    · exact h
    · simp [World.cell?, Array.getElem?_eq_none h] at h0
  obtain ⟨W2, hW2⟩ : ∃ W2, (w.alloc (.cells #[.pointer none] 117)) = W2 := ⟨_, rfl⟩
  have b2 : Below w.heap.size w W2 := by rw [← hW2]; exact (Below.refl _ w).alloc (Nat.le_refl _) _
  have q0 : W2.heap[w.heap.size]? = some (.cells #[.pointer none] 117 (0, 0)) := by rw [← hW2]; exact alloc_atK _ _
  have HA1 := hide (as_fault ⟨g, 0, none⟩ ⟨w.heap.size, 0, none⟩ (.pointer none) W2 ((b2.cell (p := ⟨0, 0, none⟩) hg.lt).trans hg) (block_cell q0 0) (block_free q0 0))
  have S2 := hide (And.intro b2 q0)
  have HW2 := hide hW2
  have HC := hide (And.intro h1 hch)
  clear b2 q0 hW2 hg h0 h1 h2 hch
  go_enter Tryz.func25, Tryz.ntmps25
  go_wp2_with fail
  rw [HW2.out]
  refine HA1.out.mono ?_
  rintro e W3 ⟨rfl, hW3⟩
  obtain ⟨b2, q0⟩ := S2.out
  obtain ⟨W5, g5, hW5⟩ : ∃ W5, W2.grownBy W5 none ∧ W3 = W5.setCell ⟨w.heap.size, 0, none⟩ (.pointer (some ⟨g, 0, none⟩)) := ⟨_, grown_quiet (grown_quiet (grown_quiet (World.grownBy_alloc _ _ none) (World.grownBy_alloc _ _ none)) (World.grownBy_alloc _ _ none)) (World.grownBy_alloc _ _ none), hW3⟩
  have g3 : W2.grownBy W3 (some w.heap.size) := by rw [hW5]; exact grown_trans (row := some w.heap.size) (grown_weakK g5 _) (grown_set _ _ _ _)
  have z0 : W3.heap[w.heap.size]? = some (.cells #[.pointer (some ⟨g, 0, none⟩)] 117 (0, 0)) := by
    rw [hW5, heap_setCell_same _ w.heap.size 0 _ _ _ ((g5.block _ (block_lt q0) (by simp)).trans q0)]
    rfl
  have b3 : Below w.heap.size w W3 := b2.grown g3 b2.size (fun k e => by cases e; exact Nat.le_refl _)
  have r0 := block_cell z0 0
  have ra := (b3.cell (p := ⟨g, 1, none⟩) hlt).trans HC.out.1
  simp at r0
  have HR : Hid (∀ q, Calls Tryz.prog 19 #[.int .i64 a, .iface 117 (.pointer (some ⟨g, 0, none⟩))] (W3.drewN q) fun e w' => ∃ g2, e = .returned (.iface 117 (.pointer (some ⟨g2, 0, none⟩))) ∧ Hid ((Chain w'.heap.size w' [⟨snapN, a⟩, ⟨wireN, a⟩] (.iface 117 (.pointer (some ⟨g2, 0, none⟩))) c ∧ Below w.heap.size w w') ∧ Below W3.heap.size (W3.drewN q) w')) := fun q => by
    have b4 : Below w.heap.size w (W3.drewN q) := Go.below_drewN b3 q
    refine (refusalD a ((Chain.below b4 HC.out.2).wide b4.size)).mono ?_
    rintro e w' ⟨g2, he, G⟩
    exact ⟨g2, he, ⟨G.out.1, b4.trans (G.out.2.mono b4.size)⟩, G.out.2⟩
  have SB : Hid (∀ q V, Below W3.heap.size (W3.drewN q) V → V.cell? ⟨w.heap.size, 0, none⟩ = some (.pointer (some ⟨g, 0, none⟩)) ∧ V.cell? ⟨g, 1, none⟩ = some (.int .i64 a)) := fun q V hb => by
    have hz := block_lt z0
    have hs3 := b3.size
    exact ⟨(hb.cell (p := ⟨w.heap.size, 0, none⟩) hz).trans r0, (hb.cell (p := ⟨g, 1, none⟩) (by show g < _; omega)).trans ra⟩
  clear b2 q0 g3 z0 b3 hW3 hW5 g5 HA1 S2 HW2
  go_wp2_with fail
  go_region_held (fun V => V.cell? ⟨w.heap.size, 0, none⟩ = some (.pointer (some ⟨g, 0, none⟩)) ∧ V.cell? ⟨g, 1, none⟩ = some (.int .i64 a)) (first | go_keep | exact SB.out _ _ G2.out.2)
    (first
      | (go_at_call 19; refine (HR.out _).mono ?_; rintro e w2 ⟨g2, rfl, G2⟩))
  all_goals go_wp2
  all_goals go_ret
  all_goals exact ⟨_, rfl, G2.out.1⟩
end Go.Proofs.YtiijbboigebhcaaGreatDoor
namespace Go.Proofs.YtiijbboigebhcaaGreatDoor
open Go.RowKit

/-- A refusal that a function hands out. -/
def FvP (w : World) (L : List Lk) (c : Int) (e : Ending) (w' : World) : Prop := ∃ ao cap, e = .returned (.agg #[.slice ao L.length cap, .int .i64 c]) ∧ Hid (∃ b off, FV w'.heap.size w' ao L b off ∧ Below w.heap.size w w')
theorem fv_one {w : World} {g : Nat} {l : Lk} (h0 : w.cell? ⟨g, 0, none⟩ = some (.string l.layer)) (h1 : w.cell? ⟨g, 1, none⟩ = some (.int .i64 l.at_)) : FV w.heap.size w (some ⟨g, 0, none⟩) [l] g 0 := by
  have hlt : g < w.heap.size := by
    rcases Nat.lt_or_ge g w.heap.size with h | h
    · exact h
    · simp [World.cell?, Array.getElem?_eq_none h] at h0
  refine ⟨fun _ => rfl, fun _ => hlt, by simp, fun i x hx => ?_⟩
  have hi := (List.getElem?_eq_some_iff.1 hx).1
  obtain rfl : i = 0 := by simpa using hi
  cases hx
  exact ⟨h0, h1⟩
set_option maxRecDepth 10000 in
set_option maxHeartbeats 800000 in
theorem none0 (w : World) : Calls Tryz.prog 32 #[] w (FvP w [] 0) := by
  unfold FvP
  go_enter Tryz.func32, Tryz.ntmps32
  go_wp2
  refine bodyPost_ret (v := .agg #[.slice none 0 0, .int .i64 0]) (by simp [results, Tryz.results32, go_sem]) rfl ⟨none, 0, rfl, 0, 0, FV.nil _ _ _ _ _, ?_⟩
  have b0 : Below w.heap.size w (w.alloc (.cells #[.slice none 0 0, .int .i64 0] 43)) := (Below.refl _ w).alloc (Nat.le_refl _) _
  first
    | exact b0
    | exact (b0.setCell (p := ⟨w.heap.size, 0, none⟩) (Nat.le_refl _) _).setCell (p := ⟨w.heap.size, 1, none⟩) (Nat.le_refl _) _
set_option maxRecDepth 10000 in
set_option maxHeartbeats 800000 in
theorem new0 (layer : ByteArray) (at_ c : Int) (w : World) : Calls Tryz.prog 27 #[.string layer, .int .i64 at_, .int .i64 c] w (FvP w [⟨layer, at_⟩] c) := by
  unfold FvP
  go_enter Tryz.func27, Tryz.ntmps27
  go_wp2
  refine bodyPost_ret (v := .agg #[.slice (some ⟨w.heap.size + 1, 0, none⟩) 1 1, .int .i64 c]) (by simp [results, Tryz.results27, go_sem]) rfl ⟨some ⟨w.heap.size + 1, 0, none⟩, 1, rfl, w.heap.size + 1, 0, ?_, ?_⟩
  · have e1 : (w.alloc (.cells #[.slice (some ⟨w.heap.size + 1, 0, none⟩) 1 1, .int .i64 c] 43)).heap.size = w.heap.size + 1 := by simp
    have q0 := World.cell?_alloc_new (w.alloc (.cells #[.slice (some ⟨w.heap.size + 1, 0, none⟩) 1 1, .int .i64 c] 43)) #[.string layer, .int .i64 at_] 136 0
    have q1 := World.cell?_alloc_new (w.alloc (.cells #[.slice (some ⟨w.heap.size + 1, 0, none⟩) 1 1, .int .i64 c] 43)) #[.string layer, .int .i64 at_] 136 1
    rw [e1] at q0 q1
    exact fv_one q0 q1
  · exact ((Below.refl _ w).alloc (Nat.le_refl _) _).alloc (by simp) _
/-- Between two links of the wrapping. -/
structure Wl (w : World) (l : Lk) (L : List Lk) (ao : Option Addr) (n cp : Nat) (c : Int) (k : Nat) (v : Value) (W : World) : Prop where
  bel : Below w.heap.size w W
  box : W.heap[w.heap.size]? = some (.cells #[.slice ao n cp, .int .i64 c] 43 (0, 0))
  res : ∃ Z : Array Value, W.heap[w.heap.size + 1]? = some (.cells Z 43 (0, 0)) ∧ Z.size = 2
  row : W.ownsRow w.heap.size 136 2 v (k + 1) (lkcells (l :: L.take k))
theorem row_fault {base k : Nat} {w : World} {v : Value} {xs : List Value} {j : Nat} {X : Array Value} (h : w.ownsRow base 136 2 v k xs) (hX : w.heap[j]? = some (.cells X 43 (0, 0))) : v.ownBlock ≠ some j := fun e => by
  rcases h.2 with ⟨rfl, _⟩ | ⟨g', cap, cur, rfl, _, hb, _⟩
  · cases e
  · cases e
    rw [hb] at hX
    cases hX
theorem Wl.next {w : World} {l : Lk} {L : List Lk} {ao : Option Addr} {n cp : Nat} {c : Int} {k : Nat} {v v' : Value} {W w2 : World} {o : Obj} (h : Wl w l L ao n cp c k v W) {x : Lk} (hx : L[k]? = some x) (ho : w2.ownsRow w.heap.size 136 2 v' (k + 1 + 1) (lkcells (l :: L.take k) ++ [.string x.layer, .int .i64 x.at_])) (hg : (W.alloc o).grownBy w2 v.ownBlock) : Wl w l L ao n cp c (k + 1) v' w2 := by
  have gA := World.grownBy_alloc W o none
  have row1 := row_quietT h.row gA
  obtain ⟨Z, z1, z2⟩ := h.res
  have b1 := (gA.block _ (block_lt h.box) (by simp)).trans h.box
  have r1 := (gA.block _ (block_lt z1) (by simp)).trans z1
  have bel1 := h.bel.grown gA h.bel.size (fun k e => by cases e)
  refine ⟨bel1.grown hg bel1.size (fun k e => (row1.lt k e).1), (hg.block _ (block_lt b1) (fun e => row_fault row1 b1 e.symm)).trans b1, ⟨Z, (hg.block _ (block_lt r1) (fun e => row_fault row1 r1 e.symm)).trans r1, z2⟩, ?_⟩
  have e : lkcells (l :: L.take (k + 1)) = lkcells (l :: L.take k) ++ [.string x.layer, .int .i64 x.at_] := by
    rw [List.take_add_one, hx]
    exact lkcells_snoc (l :: L.take k) x
  rw [e]
  exact ho
set_option maxRecDepth 10000 in
set_option maxHeartbeats 1600000 in
theorem wrap0 (layer : ByteArray) (at_ c : Int) {L : List Lk} {ao : Option Addr} {b off : Nat} (n cp : Nat) (hn : L.length = n) (hl : n ≤ 100) (w : World) (hf : FV w.heap.size w ao L b off) : Calls Tryz.prog 48 #[.string layer, .int .i64 at_, .agg #[.slice ao n cp, .int .i64 c]] w (FvP w (⟨layer, at_⟩ :: L) c) := by
  obtain ⟨i0, hi0, hz0, hz1, hz2⟩ := info_parts infoLink
  unfold FvP
  have HF := hide hf
  have HN := hide hn
  clear hf hn
  obtain ⟨W2, hW2⟩ : ∃ W2, (w.alloc (.cells #[.slice ao n cp, .int .i64 c] 43)).alloc (.cells #[.slice none 0 0, .int .i64 0] 43) = W2 := ⟨_, rfl⟩
  have e1 : (w.alloc (.cells #[.slice ao n cp, .int .i64 c] 43)).heap.size = w.heap.size + 1 := by simp
  have s2 : W2.heap.size = w.heap.size + 1 + 1 := by rw [← hW2]; simp
  have WL0 : Hid (Wl w ⟨layer, at_⟩ L ao n cp c 0 (.slice (some ⟨w.heap.size + 1 + 1, 0, none⟩) 1 1) (W2.alloc (.cells #[.string layer, .int .i64 at_] 136))) := by
    have q1 : W2.heap[w.heap.size + 1]? = some (.cells #[.slice none 0 0, .int .i64 0] 43 (0, 0)) := by rw [← hW2, ← e1]; exact alloc_atK _ _
    have q0 : W2.heap[w.heap.size]? = some (.cells #[.slice ao n cp, .int .i64 c] 43 (0, 0)) := by rw [← hW2]; exact ((World.grownBy_alloc _ _ none).block _ (by rw [e1]; omega) (by simp)).trans (alloc_atK _ _)
    have b2 : Below w.heap.size w W2 := by rw [← hW2]; exact ((Below.refl _ w).alloc (Nat.le_refl _) _).alloc (by simp) _
    have gA := World.grownBy_alloc W2 (.cells #[.string layer, .int .i64 at_] 136) none
    refine ⟨b2.grown gA b2.size (fun k e => by cases e), (gA.block _ (block_lt q0) (by simp)).trans q0, ⟨_, (gA.block _ (block_lt q1) (by simp)).trans q1, rfl⟩, rfl, .inr ⟨w.heap.size + 1 + 1, 1, #[.string layer, .int .i64 at_], rfl, by omega, ?_, by omega, by unfold maxLen; omega, rfl, rfl⟩⟩
    rw [← s2]
    exact alloc_atK _ _
  have HW2 := hide hW2
  have HS2 := hide s2
  clear hW2 e1 s2
  go_enter Tryz.func48, Tryz.ntmps48
  go_wp2
  rw [HW2.out]
  go_loopw [7, 8] (fun v i wr => ∃ k : Nat, k ≤ n ∧ i = .int .i64 k ∧ Hid (Wl w ⟨layer, at_⟩ L ao n cp c k v wr)) (fun _ i _ => n - (intOf i).toNat)
  case atStart => exact ⟨0, by omega, rfl, WL0.out⟩
  case round =>
    obtain ⟨k, hk, rfl, HR⟩ := hrel
    clear WL0
    have x0 := block_cell HR.out.box 0
    have x1 := block_cell HR.out.box 1
    have hlx := block_lt HR.out.box
    simp at x0 x1
    by_cases hlt : k < n
    · obtain ⟨ly, a1, hg, e1, hbl, p0, p1⟩ := (HF.out.below HR.out.bel).get (k := k) (by rw [HN.out]; exact hlt)
      rw [e1] at x0
      have hbw : b < wr.heap.size := Nat.lt_of_lt_of_le hbl HR.out.bel.size
      have HOW : Hid (∀ o, (wr.alloc o).ownsRow w.heap.size 136 2 u7 (k + 1) (lkcells (⟨layer, at_⟩ :: L.take k))) := fun o => row_quietT HR.out.row (World.grownBy_alloc _ _ none)
      have HNX : Hid (∀ (v' : Value) (w2 : World) (o : Obj), w2.ownsRow w.heap.size 136 2 v' (k + 1 + 1) (lkcells (⟨layer, at_⟩ :: L.take k) ++ [.string ly, .int .i64 a1]) → (wr.alloc o).grownBy w2 u7.ownBlock → Wl w ⟨layer, at_⟩ L ao n cp c (k + 1) v' w2) := fun v' w2 o ho hg2 => HR.out.next hg ho hg2
      have HSW : Hid (w.heap.size ≤ wr.heap.size) := HR.out.bel.size
      clear hg e1 hbl
      go_wp2_with (first
        | (at_builtin; refine wpList_append_own_wide _ rfl (.tmp 20) (.tmp 26) 41 rfl w.heap.size 136 i0 (.agg #[.string ⟨#[]⟩, .int .i64 0]) 2 24 Tryz.underlying41 hi0 hz0 hz1 hz2 rfl (by decide) u7 (k + 1) (lkcells (⟨layer, at_⟩ :: L.take k)) rfl (HOW.out _) ⟨wr.heap.size, 0, none⟩ 1 1 [.string ly, .int .i64 a1] rfl rfl (cells_newK _ _ _) (by simp [Value.oneCell']) (by unfold maxLen; omega) (by omega) (Nat.le_trans HSW.out (by simp)) ?_; intro v' w2 ho hg _; obtain ⟨g', cap', rfl⟩ := ownsRow_succ ho; have NX := hide (HNX.out _ _ _ ho hg); clear ho hg))
      go_roundw
      case rel => exact ⟨k + 1, by omega, by go_num, NX.out⟩
      case measure => simp [intOf]; omega
    · obtain rfl : k = n := by omega
      have hrow := HR.out.row
      rw [List.take_of_length_le (by rw [HN.out]; omega)] at hrow
      have hlen : (⟨layer, at_⟩ :: L : List Lk).length = k + 1 := by rw [List.length_cons, HN.out]
      rw [← hlen] at hrow
      obtain ⟨ao', cap', b', rfl, hfv⟩ := fv_row hrow (by rw [hlen]; omega)
      obtain ⟨Z, z1, z2⟩ := HR.out.res
      have y0 : (wr.cell? ⟨w.heap.size + 1, 0, none⟩).isSome = true := by rw [block_cell z1 0]; simp [z2]
      have y1 : (wr.cell? ⟨w.heap.size + 1, 1, none⟩).isSome = true := by rw [block_cell z1 1]; simp [z2]
      obtain ⟨p0, hp0⟩ := Option.isSome_iff_exists.1 y0
      obtain ⟨p1, hp1⟩ := Option.isSome_iff_exists.1 y1
      have g0 := block_free z1 0
      have g1 := block_free z1 1
      have hlz := block_lt z1
      have FIN : Hid (∀ x y, FV ((wr.setCell ⟨w.heap.size + 1, 0, none⟩ x).setCell ⟨w.heap.size + 1, 1, none⟩ y).heap.size ((wr.setCell ⟨w.heap.size + 1, 0, none⟩ x).setCell ⟨w.heap.size + 1, 1, none⟩ y) ao' (⟨layer, at_⟩ :: L) b' 0 ∧ Below w.heap.size w ((wr.setCell ⟨w.heap.size + 1, 0, none⟩ x).setCell ⟨w.heap.size + 1, 1, none⟩ y)) := fun x y => by
        have ra := hrow.kept (grown_set wr (w.heap.size + 1) 0 x) (.inr (row_fault hrow z1))
        have za := heap_setCell_same wr (w.heap.size + 1) 0 _ _ x z1
        have rb := ra.kept (grown_set _ (w.heap.size + 1) 1 y) (.inr (row_fault ra za))
        obtain ⟨ao2, cap2, b2, e, hf⟩ := fv_row rb (by rw [hlen]; omega)
        cases e
        refine ⟨?_, (HR.out.bel.setCell (p := ⟨w.heap.size + 1, 0, none⟩) (by simp) x).setCell (p := ⟨w.heap.size + 1, 1, none⟩) (by simp) y⟩
        have hbb : b2 = b' := by
          have e1 := hf.ad (by simp)
          have e2 := hfv.ad (by simp)
          rw [e1] at e2
          cases e2
          rfl
        rw [hbb] at hf
        exact hf
      clear y0 y1 z1 hrow hfv hlen
      go_wp2
      refine bodyPost_ret (v := .agg #[.slice ao' (L.length + 1) cap', .int .i64 c]) (by simp [results, Tryz.results48, go_sem, hp0, hp1]) rfl ⟨ao', cap', rfl, b', 0, ?_⟩
      exact FIN.out _ _
end Go.Proofs.YtiijbboigebhcaaGreatDoor
namespace Go.Proofs.YtiijbboigebhcaaGreatDoor
open Go.RowKit Crc

def RSn (B : List Nat) : RS := ⟨true, 0, 0, B, 0, KR⟩
def hd1 (B : List Nat) : RS := (RSn B).step 4 (aheadW (RSn B).rest 4)
def hdV (B : List Nat) : Nat := hi (aheadV (RSn B).rest 4)
/-- What is read of the head: nothing is wrong, or the refusal's links and reason. -/
def hdA (B : List Nat) : List Lk × Int :=
  if (hd1 B).errC ≠ 0 then ([⟨snapN, (hd1 B).errA⟩, ⟨wireN, (hd1 B).errA⟩], (hd1 B).errC)
  else if hdV B ≠ 1364414032 then ([⟨snapN, 0⟩], 122)
  else if (oS (hd1 B)).errC ≠ 0 then ([⟨snapN, (oS (hd1 B)).errA⟩, ⟨wireN, (oS (hd1 B)).errA⟩], (oS (hd1 B)).errC)
  else if oV (hd1 B) ≠ 1 then ([⟨snapN, 4⟩], 122)
  else ([], 0)
def ErrC' (w : World) (v : Value) (L : List Lk) (c : Int) : Prop := (v = .nilIface ∧ L = [] ∧ c = 0) ∨ (Chain w.heap.size w L v c ∧ 0 < L.length ∧ L.length ≤ 11 ∧ c ≠ 0)
theorem chain_end (w : World) (c : Int) : Chain w.heap.size w [] (.iface 59 (.int .i64 c)) c := rfl
theorem errT_belowN {w w' : World} (hg : ErrT w) (hb : Below w.heap.size w w') : ErrT w' := (hb.cell (p := ⟨0, 0, none⟩) hg.lt).trans hg
theorem errC_not {s : RS} (h : s.sound) : s.errC = 0 := RS.errC_sound h
theorem pl_hd (B : List Nat) : (hd1 B).Pl := RS.step_place (s := RSn B) (fun _ => rfl) 4 _
/-- Where the reader's error is asked for. -/
theorem err_at {lim p : Nat} {w W : World} {s : RS} (h : At_ lim p w s W) (hp : s.Pl) : Calls Tryz.prog 73 #[.pointer (some ⟨p, 0, none⟩)] W fun e w' => ∃ v, e = .returned v ∧ ((v = .nilIface ∧ s.errC = 0) ∨ (IsFault w' v s.errA s.errC ∧ s.errC ≠ 0)) ∧ Hid (At_ lim p w s w' ∧ Below W.heap.size W w') :=
  (rErrP h.1 hp).mono fun _ _ ⟨v, a, b, c⟩ => ⟨v, a, b.imp (fun x => ⟨x.1, x.2.1⟩) id, h.quiet (below_none c), c⟩
theorem end_at {lim p : Nat} {w W : World} {s : RS} (h : At_ lim p w s W) (hp : s.Pl) : Calls Tryz.prog 38 #[.pointer (some ⟨p, 0, none⟩)] W fun e w' => ∃ v, e = .returned v ∧ ((v = .nilIface ∧ s.endC = 0) ∨ (IsFault w' v s.endA s.endC ∧ s.endC ≠ 0)) ∧ Hid (At_ lim p w s w' ∧ Below W.heap.size W w') :=
  (rEndP h.1 hp).mono fun _ _ ⟨v, a, b, c⟩ => ⟨v, a, b.imp (fun x => ⟨x.1, x.2.1⟩) id, h.quiet (below_none c), c⟩
theorem u32_at {lim p : Nat} {w W : World} {s : RS} (h : At_ lim p w s W) : Calls Tryz.prog 72 #[.pointer (some ⟨p, 0, none⟩)] W fun e w' => e = .returned (.int .u32 (hi (aheadV s.rest 4) : Nat)) ∧ Hid (At_ lim p w (s.step 4 (aheadW s.rest 4)) w') :=
  (rU32P h.1).mono fun _ _ ⟨a, b, c⟩ => ⟨a, b, grown_trans (row := some p) h.2 c⟩
set_option maxRecDepth 10000 in
set_option maxHeartbeats 1600000 in
theorem readHead_any {lim p : Nat} {w : World} {B : List Nat} (hg : ErrT w) (hp0 : 0 < p) (h : RdP lim w (some ⟨p, 0, none⟩) (RSn B)) : Calls Tryz.prog 36 #[.pointer (some ⟨p, 0, none⟩)] w fun e w' => ∃ v, e = .returned v ∧ Hid (ErrC' w' v (hdA B).1 (hdA B).2 ∧ w.grownBy w' (some p) ∧ ((hdA B).2 = 0 → At_ lim p w (oS (hd1 B)) w')) := by
  have a0 := At_.start h
  have H4 := hide (u32_at a0)
  have hpw := a0.pos.2
  have G0 : Hid (∀ {W : World} {s : RS}, At_ lim p w s W → ErrT W) := fun {W s} ha => (ha.2.cell hg (by simp; omega))
  have hv32 : hdV B < 4294967296 := hi_take_lt (k := 4) a0.small
  have U1 : Hid ((hd1 B).errC ≠ 0 → hdA B = ([⟨snapN, (hd1 B).errA⟩, ⟨wireN, (hd1 B).errA⟩], (hd1 B).errC)) := fun h => by unfold hdA; rw [if_pos h]
  have U2 : Hid ((hd1 B).errC = 0 → hdV B ≠ 1364414032 → hdA B = ([⟨snapN, 0⟩], 122)) := fun h h2 => by unfold hdA; rw [if_neg (fun e => e h), if_pos h2]
  have U3 : Hid ((hd1 B).errC = 0 → hdV B = 1364414032 → (oS (hd1 B)).errC ≠ 0 → hdA B = ([⟨snapN, (oS (hd1 B)).errA⟩, ⟨wireN, (oS (hd1 B)).errA⟩], (oS (hd1 B)).errC)) := fun h h2 h3 => by unfold hdA; rw [if_neg (fun e => e h), if_neg (fun e => e h2), if_pos h3]
  have U4 : Hid ((hd1 B).errC = 0 → hdV B = 1364414032 → (oS (hd1 B)).errC = 0 → oV (hd1 B) ≠ 1 → hdA B = ([⟨snapN, 4⟩], 122)) := fun h h2 h3 h4 => by unfold hdA; rw [if_neg (fun e => e h), if_neg (fun e => e h2), if_neg (fun e => e h3), if_pos h4]
  have U5 : Hid ((hd1 B).errC = 0 → hdV B = 1364414032 → (oS (hd1 B)).errC = 0 → oV (hd1 B) = 1 → hdA B = ([], 0)) := fun h h2 h3 h4 => by unfold hdA; rw [if_neg (fun e => e h), if_neg (fun e => e h2), if_neg (fun e => e h3), if_neg (fun e => e h4)]
  have HP1 := hide (pl_hd B)
  have HP2 := hide (pl_o (pl_hd B))
  have HE1 : Hid (hdV B = hi (aheadV (RSn B).rest 4)) := rfl
  have HE2 : Hid (hd1 B = (RSn B).step 4 (aheadW (RSn B).rest 4)) := rfl
  rw [← HE1.out, ← HE2.out] at H4
  clear h a0 HE1 HE2
  generalize hdA B = ha at *
  generalize hdV B = hv at *
  generalize hd1 B = s1 at *
  have HO : Hid (∀ W, At_ lim p w s1 W → oV s1 < 256) := fun W h => h.oct
  have N8 : Hid (∀ W, At_ lim p w s1 W → Calls Tryz.prog 74 #[.pointer (some ⟨p, 0, none⟩)] W fun e w' => e = .returned (.int .u8 ((oV s1 : Nat) : Int)) ∧ Hid (At_ lim p w (oS s1) w')) := fun W h => oct_at h
  generalize oV s1 = o1 at *
  generalize oS s1 = s2 at *
  go_enter Tryz.func36, Tryz.ntmps36
  go_wp2_with fail
  refine H4.out.mono ?_
  rintro e w1 ⟨rfl, H1⟩
  clear H4
  go_wp2_with fail
  refine (err_at H1.out HP1.out).mono ?_
  rintro e w2 ⟨v2, rfl, hv2, G2⟩
  rcases hv2 with ⟨rfl, hc⟩ | ⟨hf, hc⟩
  · by_cases hm : hv = 1364414032
    · have hmd : (((hv : Int)) != 1364414032) = false := by simp; omega
      have ho := HO.out _ G2.out.1
      go_wp2_with fail
      refine (N8.out _ G2.out.1).mono ?_
      rintro e w3 ⟨rfl, H3⟩
      clear H1 G2 N8 HO
      go_wp2_with fail
      refine (err_at H3.out HP2.out).mono ?_
      rintro e w4 ⟨v4, rfl, hv4, G4⟩
      rcases hv4 with ⟨rfl, hc2⟩ | ⟨hf2, hc2⟩
      · by_cases ho1 : o1 = 1
        · have hod : (((o1 : Int)) != 1) = false := by simp; omega
          have HU := hide (U5.out hc hm hc2 ho1)
          go_wp2
          go_ret
          exact ⟨_, rfl, by rw [HU.out]; exact .inl ⟨rfl, rfl, rfl⟩, G4.out.1.2, fun _ => G4.out.1⟩
        · have hod : (((o1 : Int)) != 1) = true := by simp; omega
          have HU := hide (U4.out hc hm hc2 ho1)
          go_wp2_with fail
          refine (refusalD 4 (chain_end _ 122)).mono ?_
          rintro e w5 ⟨g5, rfl, G5⟩
          have HG := hide (G4.out.1.quiet (below_none G5.out.2)).2
          have HC := hide G5.out.1
          go_wp2
          go_ret
          exact ⟨_, rfl, by rw [HU.out]; exact .inr ⟨HC.out, by simp, by simp, by simp⟩, HG.out, fun e => by rw [HU.out] at e; exact absurd e (by simp)⟩
      · have HBH := hide (behind_any (G0.out G4.out.1) hf2)
        have HU := hide (U3.out hc hm hc2)
        have HCN := hide hc2
        obtain ⟨gf, rfl, -⟩ := hf2
        go_wp2_with fail
        refine HBH.out.mono ?_
        rintro e w5 ⟨g5, rfl, G5⟩
        have HG := hide (G4.out.1.quiet (below_none G5.out.2)).2
        have HC := hide G5.out.1
        go_wp2
        go_ret
        exact ⟨_, rfl, by rw [HU.out]; exact .inr ⟨HC.out, by simp, by simp, HCN.out⟩, HG.out, fun e => by rw [HU.out] at e; exact absurd e HCN.out⟩
    · have hmd : (((hv : Int)) != 1364414032) = true := by simp; omega
      have HU := hide (U2.out hc hm)
      go_wp2_with fail
      refine (refusalD 0 (chain_end _ 122)).mono ?_
      rintro e w5 ⟨g5, rfl, G5⟩
      have HG := hide (G2.out.1.quiet (below_none G5.out.2)).2
      have HC := hide G5.out.1
      go_wp2
      go_ret
      exact ⟨_, rfl, by rw [HU.out]; exact .inr ⟨HC.out, by simp, by simp, by simp⟩, HG.out, fun e => by rw [HU.out] at e; exact absurd e (by simp)⟩
  · have HBH := hide (behind_any (G0.out G2.out.1) hf)
    have HU := hide (U1.out hc)
    have HCN := hide hc
    obtain ⟨gf, rfl, -⟩ := hf
    go_wp2_with fail
    refine HBH.out.mono ?_
    rintro e w5 ⟨g5, rfl, G5⟩
    have HG := hide (G2.out.1.quiet (below_none G5.out.2)).2
    have HC := hide G5.out.1
    go_wp2
    go_ret
    exact ⟨_, rfl, by rw [HU.out]; exact .inr ⟨HC.out, by simp, by simp, HCN.out⟩, HG.out, fun e => by rw [HU.out] at e; exact absurd e HCN.out⟩
end Go.Proofs.YtiijbboigebhcaaGreatDoor
