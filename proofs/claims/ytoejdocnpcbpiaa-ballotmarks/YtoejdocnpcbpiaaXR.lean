import Derived.Test.YtoejdocnpcbpiaaXS
import Derived.Test.YtoejdocnpcbpiaaBNok
import Derived.Deep.RegionHeld3
import Derived.Deep.QuietTactic
import Derived.BigQuiet
import Derived.Deep.RegionWith
namespace Go.Proofs.Ytoejdocnpcbpiaa
open Go.RowKit

theorem count_eq (v : Nat) : ∀ xs : List Nat, xs.countP (fun y => decide (v < y)) + xs.countP (fun y => decide (y = v)) = xs.countP (fun y => decide (v ≤ y))
  | [] => by simp
  | x :: r => by
    have := count_eq v r
    rw [List.countP_cons, List.countP_cons, List.countP_cons]
    rcases Nat.lt_trichotomy v x with e | e | e
    · have h1 : decide (v < x) = true := decide_eq_true e
      have h2 : decide (x = v) = false := decide_eq_false (by omega)
      have h3 : decide (v ≤ x) = true := decide_eq_true (by omega)
      simp only [h1, h2, h3]; simp; omega
    · have h1 : decide (v < x) = false := decide_eq_false (by omega)
      have h2 : decide (x = v) = true := decide_eq_true e.symm
      have h3 : decide (v ≤ x) = true := decide_eq_true (by omega)
      simp only [h1, h2, h3]; simp; omega
    · have h1 : decide (v < x) = false := decide_eq_false (by omega)
      have h2 : decide (x = v) = false := decide_eq_false (by omega)
      have h3 : decide (v ≤ x) = false := decide_eq_false (by omega)
      simp only [h1, h2, h3]; simp; omega
theorem count_take (p : Nat → Bool) {xs : List Nat} {j x : Nat} (h : xs[j]? = some x) : (xs.take (j + 1)).countP p = (xs.take j).countP p + (if p x = true then 1 else 0) := by
  rw [List.take_add_one, h]
  simp [List.countP_append, List.countP_cons]
/-- What the reference answers: the mark and no fault, or none. -/
def RMark (w : World) (m : Nat) (L : List Lk) (c : Int) (e : Ending) (w' : World) : Prop := ∃ fo fc, e = .returned (.tuple #[.int .u64 (m : Nat), .agg #[.slice fo L.length fc, .int .i64 c]]) ∧ Hid (∃ b off, FV w'.heap.size w' fo L b off ∧ Below w.heap.size w w')
set_option maxRecDepth 10000 in
set_option maxHeartbeats 3200000 in
theorem rmark_any (ao : Option Addr) (n cap b off : Nat) (k : Int) (xs : List Nat) (hn : xs.length = n) (h200 : n ≤ 1000000) (w : World) (had : 0 < xs.length → ao = some ⟨b, off, none⟩) (hbw : 0 < xs.length → b < w.heap.size) (hU : Us w b off xs) :
    Calls Try.prog 5 #[.slice ao n cap, .int .i64 k] w fun e w' => (∃ m, m ∈ xs ∧ GoodM xs k m ∧ RMark w m [] 0 e w') ∨ ((∀ m ∈ xs, ¬ GoodM xs k m) ∧ RMark w 0 [⟨ballotN, 0⟩] 184 e w') := by
  obtain ⟨W1, hW1⟩ : ∃ W1, w.alloc (.cells #[.slice none 0 0, .int .i64 0] 30) = W1 := ⟨_, rfl⟩
  have B1 : Hid (Below w.heap.size w W1) := by rw [← hW1]; exact (Below.refl _ w).alloc (Nat.le_refl _) _
  have C1 : Hid (FBox w.heap.size W1) := by rw [← hW1]; exact fbox_new _
  have HW1 := hide hW1
  have HN := hide hn
  have HU : Hid (∀ V, Below W1.heap.size W1 V → ∀ i, i < n → ao = some ⟨b, off, none⟩ ∧ b < V.heap.size ∧ V.cell? ⟨b, off + i, none⟩ = some (.int .u64 ((xs.getD i 0 : Nat) : Int))) := fun V hb i hi => by
    have hb' := B1.out.trans (hb.mono B1.out.size)
    have hx : xs[i]? = some (xs.getD i 0) := by rw [List.getD_eq_getElem?_getD, List.getElem?_eq_getElem (by omega)]; rfl
    exact ⟨had (by omega), Nat.lt_of_lt_of_le (hbw (by omega)) hb'.size, (hb'.cell (p := ⟨b, off + i, none⟩) (hbw (by omega))).trans (hU i _ hx)⟩
  clear hn had hbw hU hW1
  go_enter Try.func5, Try.ntmps5
  go_wp2
  rw [HW1.out]
  clear HW1
  go_loopw [6, 7, 8, 9] (fun i _ _ _ wr => ∃ p : Nat, p ≤ n ∧ i = .int .i64 p ∧ Hid (Below W1.heap.size W1 wr ∧ ∀ j, j < p → ¬ GoodM xs k (xs.getD j 0))) (fun i _ _ _ _ => n - (intOf i).toNat)
  case atStart => exact ⟨0, by omega, rfl, Below.refl _ _, fun j hj => by omega⟩
  case round =>
    obtain ⟨p, hp, rfl, HS⟩ := hrel
    by_cases hlt : p < n
    · obtain ⟨wo, hwo⟩ : ∃ wo, wo = wr := ⟨_, rfl⟩
      rw [← hwo] at HS ⊢
      have HS0 := hide HS.out.1
      have HG0 := hide HS.out.2
      clear HS hwo
      obtain ⟨v, hv⟩ : ∃ v, xs.getD p 0 = v := ⟨_, rfl⟩
      go_wp2
      go_loopw [7, 8, 9] (fun a s j wq => ∃ q : Nat, q ≤ n ∧ j = .int .i64 q ∧ ∃ a0 s0 : Nat, a0 ≤ q ∧ s0 ≤ q ∧ a = .int .i64 a0 ∧ s = .int .i64 s0 ∧ Hid (Below W1.heap.size W1 wq ∧ a0 = (xs.take q).countP (fun y => decide (v < y)) ∧ s0 = (xs.take q).countP (fun y => decide (y = v)))) (fun _ _ j _ => n - (intOf j).toNat)
      case atStart => exact ⟨0, by omega, rfl, 0, 0, by omega, by omega, rfl, rfl, HS0.out, by simp, by simp⟩
      case round =>
        obtain ⟨q, hq, rfl, a0, s0, ha0, hs0, rfl, rfl, HQ⟩ := hrel
        by_cases hlq : q < n
        · obtain ⟨u, hu⟩ : ∃ u, xs.getD q 0 = u := ⟨_, rfl⟩
          obtain ⟨rfl, hbl, cq⟩ := HU.out wr HQ.out.1 q hlq
          obtain ⟨-, -, cp⟩ := HU.out wr HQ.out.1 p hlt
          rw [hu] at cq
          rw [hv] at cp
          have hxq : xs[q]? = some u := by rw [← hu, List.getD_eq_getElem?_getD, List.getElem?_eq_getElem (by have := HN.out; omega)]; rfl
          have HT1 := hide (count_take (fun y => decide (v < y)) hxq)
          have HT2 := hide (count_take (fun y => decide (y = v)) hxq)
          have HBD : Hid (∀ q0, Below W1.heap.size W1 (wr.drewN q0)) := fun q0 => by
            have h := HQ.out.1
            exact ⟨h.os, h.tape, h.output, h.size, h.block⟩
          have HDD : Hid (Below W1.heap.size W1 wr.drew.drew) := (HQ.out.1.drew).drew
          have i1 : (0 : Int) ≤ (q : Int) := by omega
          have i2 : (q : Int) < (n : Int) := by omega
          have i3 : (0 : Int) ≤ (p : Int) := by omega
          have i4 : (p : Int) < (n : Int) := by omega
          clear hu hxq
          rcases Nat.lt_trichotomy v u with e | e | e
          · have h1 : v < u := e
            have h2 : ¬ u = v := by omega
            have d1 : decide ((v : Int) < (u : Int)) = true := decide_eq_true (by omega)
            have d2 : ((u : Int) == (v : Int)) = false := by rw [beq_eq_false_iff_ne]; omega
            clear e
            have HH := hide (And.intro h1 h2)
            clear h1 h2
            generalize (u : Int) = ui at *
            generalize (v : Int) = vi at *
            go_wp2
            go_quiet (fail)
            go_wp2
            go_quiet (fail)
            go_wp2
            go_roundw
            case rel => exact ⟨q + 1, by omega, by go_num, a0 + 1, s0, by omega, by omega, by go_num, by go_num, (by first | exact HBD.out _ | exact HDD.out), by rw [HT1.out, HQ.out.2.1.symm]; simp [HH.out.1], by rw [HT2.out, HQ.out.2.2.symm]; simp [HH.out.2]⟩
            case measure => simp [intOf]; omega
          · have h1 : ¬ v < u := by omega
            have h2 : u = v := e.symm
            have d1 : decide ((v : Int) < (u : Int)) = false := decide_eq_false (by omega)
            have d2 : ((u : Int) == (v : Int)) = true := by rw [h2]; simp
            clear e
            have HH := hide (And.intro h1 h2)
            clear h1 h2
            generalize (u : Int) = ui at *
            generalize (v : Int) = vi at *
            go_wp2
            go_quiet (fail)
            go_wp2
            go_quiet (fail)
            go_wp2
            go_roundw
            case rel => exact ⟨q + 1, by omega, by go_num, a0, s0 + 1, by omega, by omega, by go_num, by go_num, (by first | exact HBD.out _ | exact HDD.out), by rw [HT1.out, HQ.out.2.1.symm]; simp [HH.out.1], by rw [HT2.out, HQ.out.2.2.symm]; simp [HH.out.2]⟩
            case measure => simp [intOf]; omega
          · have h1 : ¬ v < u := by omega
            have h2 : ¬ u = v := by omega
            have d1 : decide ((v : Int) < (u : Int)) = false := decide_eq_false (by omega)
            have d2 : ((u : Int) == (v : Int)) = false := by rw [beq_eq_false_iff_ne]; omega
            clear e
            have HH := hide (And.intro h1 h2)
            clear h1 h2
            generalize (u : Int) = ui at *
            generalize (v : Int) = vi at *
            go_wp2
            go_quiet (fail)
            go_wp2
            go_quiet (fail)
            go_wp2
            go_roundw
            case rel => exact ⟨q + 1, by omega, by go_num, a0, s0, by omega, by omega, by go_num, by go_num, (by first | exact HBD.out _ | exact HDD.out), by rw [HT1.out, HQ.out.2.1.symm]; simp [HH.out.1], by rw [HT2.out, HQ.out.2.2.symm]; simp [HH.out.2]⟩
            case measure => simp [intOf]; omega
        · obtain rfl : q = n := by omega
          have HA : Hid (a0 = xs.countP (fun y => decide (v < y)) ∧ a0 + s0 = xs.countP (fun y => decide (v ≤ y))) := by
            have hl : xs.take q = xs := List.take_of_length_le (by have := HN.out; omega)
            have h1 := HQ.out.2.1
            have h2 := HQ.out.2.2
            rw [hl] at h1 h2
            exact ⟨h1, by rw [← count_eq, ← h1, ← h2]⟩
          have HB0 := hide HQ.out.1
          clear HQ
          by_cases hg : GoodM xs k v
          · have d3 : decide ((a0 : Int) < k) = true := decide_eq_true (by have := hg.1; have := HA.out.1; omega)
            have d4 : decide (k ≤ (a0 : Int) + (s0 : Int)) = true := decide_eq_true (by have := hg.2; have := HA.out.2; omega)
            have HG := hide hg
            obtain ⟨rfl, hbl, cp⟩ := HU.out wr HB0.out p hlt
            rw [hv] at cp
            have HMM : Hid (v ∈ xs) := by
              have : xs[p]? = some v := by rw [← hv, List.getD_eq_getElem?_getD, List.getElem?_eq_getElem (by have := HN.out; omega)]; rfl
              exact List.mem_of_getElem? this
            have HNO : Hid (∀ q0, Calls Try.prog 12 #[] (wr.drewN q0) fun e w3 => e = .returned (.agg #[.slice none 0 0, .int .i64 0]) ∧ Hid (Below W1.heap.size W1 w3)) := fun q0 => by
              refine (none0x _).mono ?_
              rintro e w3 ⟨rfl, rfl⟩
              have h := HB0.out
              have h' : Below W1.heap.size W1 (wr.drewN q0) := ⟨h.os, h.tape, h.output, h.size, h.block⟩
              exact ⟨rfl, h'.alloc h'.size _⟩
            have KX : Hid (∀ V, Below W1.heap.size W1 V → V.cell? ⟨b, off + p, none⟩ = some (.int .u64 (v : Int)) ∧ V.heap[w.heap.size]? = some (.cells #[.slice none 0 0, .int .i64 0] 30 (0, 0)) ∧ b < V.heap.size) := fun V hb => by
              obtain ⟨_, h1, h2⟩ := HU.out V hb p hlt
              rw [hv] at h2
              exact ⟨h2, C1.out.kept hb, h1⟩
            have i3 : (0 : Int) ≤ (p : Int) := by omega
            have i4 : (p : Int) < (q : Int) := by omega
            clear hg hv
            go_upto_region 14 with fail
            go_region_with (go_at_call 12; refine (HNO.out 1).mono ?_; rintro e w3 ⟨rfl, G⟩; obtain ⟨x0, xb, xl⟩ := KX.out _ G.out; have y0 := block_cell xb 0; have y1 := block_cell xb 1; have g0 := block_free xb 0; have g1 := block_free xb 1; have yl := block_lt xb; simp at y0 y1; have HXB := hide xb; clear xb)
            all_goals go_wp2
            all_goals try rw [Exit.noGoto_ret]
            all_goals refine bodyPost_ret (v := .tuple #[.int .u64 (v : Nat), .agg #[.slice none 0 0, .int .i64 0]]) (by simp [results, Try.results5, go_sem, y0, y1]) rfl ?_
            all_goals exact .inl ⟨v, HMM.out, HG.out, none, 0, rfl, 0, 0, FV.nil _ _ _ _ _, B1.out.trans (((G.out.mono B1.out.size).setCell (p := ⟨w.heap.size, 0, none⟩) (Nat.le_refl _) _).setCell (p := ⟨w.heap.size, 1, none⟩) (Nat.le_refl _) _)⟩
          · have HNG : Hid (∀ j, j < p + 1 → ¬ GoodM xs k (xs.getD j 0)) := fun j hj => by
              by_cases e : j = p
              · rw [e, hv]; exact hg
              · exact HG0.out j (by omega)
            by_cases h3 : (a0 : Int) < k
            · have d3 : decide ((a0 : Int) < k) = true := decide_eq_true h3
              have d4 : decide (k ≤ (a0 : Int) + (s0 : Int)) = false := decide_eq_false (fun h4 => hg ⟨by have := HA.out.1; omega, by have := HA.out.2; omega⟩)
              clear hg h3
              go_wp2
              go_roundw
              case rel => exact ⟨p + 1, by omega, by go_num, HB0.out, HNG.out⟩
              case measure => simp [intOf]; omega
            · have d3 : decide ((a0 : Int) < k) = false := decide_eq_false h3
              clear hg h3
              go_wp2
              go_roundw
              case rel => exact ⟨p + 1, by omega, by go_num, HB0.out, HNG.out⟩
              case measure => simp [intOf]; omega
    · obtain rfl : p = n := by omega
      have HNW : Hid (Calls Try.prog 13 #[.string ballotN, .int .i64 0, .int .i64 184] wr (FvP wr [⟨ballotN, 0⟩] 184)) := new0 ballotN 0 184 wr
      unfold FvP ballotN at HNW
      have HF : Hid (∀ m ∈ xs, ¬ GoodM xs k m) := fun m hm => by
        obtain ⟨j, hj, e⟩ := List.getElem_of_mem hm
        have := HS.out.2 j (by have := HN.out; omega)
        rw [List.getD_eq_getElem?_getD, List.getElem?_eq_getElem hj] at this
        rw [← e]
        exact this
      have HB0 := hide HS.out.1
      clear HS
      go_wp2_with fail
      refine HNW.out.mono ?_
      rintro e w3 ⟨fo, fc, rfl, G⟩
      obtain ⟨fb, fof, hfv, hb3⟩ := G.out
      have r3 := (C1.out.kept HB0.out).kept hb3
      have B3 : Below w.heap.size w w3 := B1.out.trans ((HB0.out.trans (hb3.mono HB0.out.size)).mono B1.out.size)
      have FIN := hide (box_fin (w := w) r3 (Nat.le_refl _) hfv B3)
      have y0 := block_cell r3 0
      have y1 := block_cell r3 1
      have g0 := block_free r3 0
      have g1 := block_free r3 1
      have yl := block_lt r3
      simp at y0 y1
      clear r3 hfv B3 G HNW
      go_wp2
      refine bodyPost_ret (v := .tuple #[.int .u64 0, .agg #[.slice fo 1 fc, .int .i64 184]]) (by simp [results, Try.results5, go_sem, y0, y1]) rfl ?_
      obtain ⟨⟨fb', fof', f1⟩, f2, f3⟩ := FIN.out (.slice fo 1 fc) (.int .i64 184)
      exact .inr ⟨HF.out, fo, fc, rfl, fb', fof', f1, f2⟩
end Go.Proofs.Ytoejdocnpcbpiaa
