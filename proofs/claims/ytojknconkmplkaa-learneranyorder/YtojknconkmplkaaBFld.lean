import Derived.Test.YtojknconkmplkaaMA
import Derived.Test.YtojknconkmplkaaBJoin
import Derived.Deep.DeepCutAuto
namespace Go.Proofs.Ytojknconkmplkaa
open Go.RowKit

theorem both_true {p q : Prop} [Decidable p] [Decidable q] {b : Bool} (h : b = (decide p && decide q)) (g : p) : decide q = b := by rw [h, decide_eq_true g, Bool.true_and]
theorem both_false {p q : Prop} [Decidable p] [Decidable q] {b : Bool} (h : b = (decide p && decide q)) (g : ¬ p) : b = false := by rw [h, decide_eq_false g, Bool.false_and]
/-- The ten fields: which may be? -/
def Cf.oks (c : Cf) : List Bool := [decide (c.f ≥ 1) && decide (c.f ≤ 3), decide (c.mb ≥ 1) && decide (c.mb ≤ 8), decide ((c.delay : Int) ≤ 1000), decide ((c.win : Int) ≥ 1) && decide ((c.win : Int) ≤ 8), decide ((c.every : Int) ≥ 1) && decide ((c.every : Int) ≤ (c.win : Int)),
  decide ((c.beat : Int) ≥ 1) && decide ((c.beat : Int) ≤ 1000), decide ((c.ep : Int) ≥ 1) && decide ((c.ep : Int) ≤ 10000), decide ((c.em : Int) ≥ (c.ep : Int)) && decide ((c.em : Int) ≤ 100000), decide ((c.mn : Int) ≥ 1) && decide ((c.mn : Int) ≤ 1099511627776), decide ((c.ms : Int) ≥ 1) && decide ((c.ms : Int) ≤ 1099511627776)]
/-- The first that may not be, or -1. -/
def badOf (bs : List Bool) : Int := if bs.findIdx (fun b => !b) < bs.length then ((bs.findIdx (fun b => !b) : Nat) : Int) else -1
theorem badOf_at {bs : List Bool} {k : Nat} (hk : k < bs.length) (h : bs.getD k true = false) (hj : ∀ j, j < k → bs.getD j true = true) : badOf bs = (k : Int) := by
  have e : bs.findIdx (fun b => !b) = k := by
    rw [List.findIdx_eq hk]
    refine ⟨?_, fun j hjk => ?_⟩
    · rw [List.getD_eq_getElem?_getD, List.getElem?_eq_getElem hk] at h
      simpa using h
    · have := hj j hjk
      rw [List.getD_eq_getElem?_getD, List.getElem?_eq_getElem (by omega)] at this
      simpa using this
  unfold badOf
  rw [e, if_pos hk]
theorem badOf_no {bs : List Bool} (hj : ∀ j, j < bs.length → bs.getD j true = true) : badOf bs = -1 := by
  unfold badOf
  rw [if_neg]
  intro h
  have h1 := List.findIdx_getElem (w := h)
  have h2 := hj _ h
  rw [List.getD_eq_getElem?_getD, List.getElem?_eq_getElem h] at h2
  simp at h1 h2
  rw [h2] at h1
  cases h1
theorem ten_cells (w : World) (b0 b1 b2 b3 b4 b5 b6 b7 b8 b9 : Bool) (t : TypeId) (k : Nat) (hk : k < 10) :
    (w.alloc (.cells #[.bool b0, .bool b1, .bool b2, .bool b3, .bool b4, .bool b5, .bool b6, .bool b7, .bool b8, .bool b9] t)).cell? ⟨w.heap.size, k, none⟩ = some (.bool ([b0, b1, b2, b3, b4, b5, b6, b7, b8, b9].getD k true)) := by
  rw [World.cell?_alloc_mark]
  match k, hk with
  | 0, _ => rfl
  | 1, _ => rfl
  | 2, _ => rfl
  | 3, _ => rfl
  | 4, _ => rfl
  | 5, _ => rfl
  | 6, _ => rfl
  | 7, _ => rfl
  | 8, _ => rfl
  | 9, _ => rfl
set_option maxRecDepth 10000 in
set_option maxHeartbeats 1000000 in
theorem refField_b (f mb d wn ev bt ep em mn ms : Int) (b0 b1 b2 b3 b4 b5 b6 b7 b8 b9 : Bool)
    (h0 : b0 = (decide (f ≥ 1) && decide (f ≤ 3)))
    (h1 : b1 = (decide (mb ≥ 1) && decide (mb ≤ 8)))
    (h2 : b2 = decide (d ≤ 1000))
    (h3 : b3 = (decide (wn ≥ 1) && decide (wn ≤ 8)))
    (h4 : b4 = (decide (ev ≥ 1) && decide (ev ≤ wn)))
    (h5 : b5 = (decide (bt ≥ 1) && decide (bt ≤ 1000)))
    (h6 : b6 = (decide (ep ≥ 1) && decide (ep ≤ 10000)))
    (h7 : b7 = (decide (em ≥ ep) && decide (em ≤ 100000)))
    (h8 : b8 = (decide (mn ≥ 1) && decide (mn ≤ 1099511627776)))
    (h9 : b9 = (decide (ms ≥ 1) && decide (ms ≤ 1099511627776)))
    (w : World) :
    Calls Try.prog 45 #[.agg #[.int .i64 f, .int .i64 mb, .int .u64 d, .int .u64 wn, .int .u64 ev, .int .u64 bt, .int .u64 ep, .int .u64 em, .int .u64 mn, .int .u64 ms]] w fun e w' => e = .returned (.int .i64 (badOf [b0, b1, b2, b3, b4, b5, b6, b7, b8, b9])) ∧ Below w.heap.size w w' := by
  have H0 := hide h0
  have H1 := hide h1
  have H2 := hide h2
  have H3 := hide h3
  have H4 := hide h4
  have H5 := hide h5
  have H6 := hide h6
  have H7 := hide h7
  have H8 := hide h8
  have H9 := hide h9
  clear h0 h1 h2 h3 h4 h5 h6 h7 h8 h9
  have HB : Hid (∀ o1 o2, Below w.heap.size w ((w.alloc o1).alloc o2)) := fun o1 o2 => ((Below.refl _ _).alloc (Nat.le_refl _) _).alloc (by simp) _
  have HC := hide (fun (w : World) t k hk => ten_cells w b0 b1 b2 b3 b4 b5 b6 b7 b8 b9 t k hk)
  have hlen : [b0, b1, b2, b3, b4, b5, b6, b7, b8, b9].length = 10 := rfl
  generalize hbs : [b0, b1, b2, b3, b4, b5, b6, b7, b8, b9] = bs at *
  have HL := hide hlen
  clear hlen hbs
  go_enter Try.func45, Try.ntmps45
  go_upto_region 1 with fail
  go_step
  refine wpList_join8 5 6 7 8 9 10 11 12 (.bool b0) (fun R HR => ?_) (fun x0_0 x0_1 x0_2 x0_3 x0_4 x0_5 x0_6 => ?_)
  · by_cases g : f ≥ 1
    · have e := hide (both_true H0.out g)
      go_wp2
      have h := HR.out
      rw [e.out]
      simp only [Act.put, List.setIfInBounds_toArray, List.set_cons_zero, List.set_cons_succ] at h; exact h _ _ _ _ _ _ _
    · obtain rfl := both_false H0.out g
      go_wp2
      have h := HR.out
      simp only [Act.put, List.setIfInBounds_toArray, List.set_cons_zero, List.set_cons_succ] at h; exact h _ _ _ _ _ _ _
  simp only [Act.put, List.setIfInBounds_toArray, List.set_cons_zero, List.set_cons_succ]
  refine wpList_join8 13 14 15 16 17 18 19 20 (.bool b1) (fun R HR => ?_) (fun x1_0 x1_1 x1_2 x1_3 x1_4 x1_5 x1_6 => ?_)
  · by_cases g : mb ≥ 1
    · have e := hide (both_true H1.out g)
      go_wp2
      have h := HR.out
      rw [e.out]
      simp only [Act.put, List.setIfInBounds_toArray, List.set_cons_zero, List.set_cons_succ] at h; exact h _ _ _ _ _ _ _
    · obtain rfl := both_false H1.out g
      go_wp2
      have h := HR.out
      simp only [Act.put, List.setIfInBounds_toArray, List.set_cons_zero, List.set_cons_succ] at h; exact h _ _ _ _ _ _ _
  simp only [Act.put, List.setIfInBounds_toArray, List.set_cons_zero, List.set_cons_succ]
  refine wpList_join3 21 22 23 (.bool b2) (fun R HR => ?_) (fun x2_0 x2_1 => ?_)
  · have e := hide H2.out.symm
    go_wp2
    have h := HR.out
    rw [e.out]
    simp only [Act.put, List.setIfInBounds_toArray, List.set_cons_zero, List.set_cons_succ] at h; exact h _ _
  simp only [Act.put, List.setIfInBounds_toArray, List.set_cons_zero, List.set_cons_succ]
  refine wpList_join8 24 25 26 27 28 29 30 31 (.bool b3) (fun R HR => ?_) (fun x3_0 x3_1 x3_2 x3_3 x3_4 x3_5 x3_6 => ?_)
  · by_cases g : wn ≥ 1
    · have e := hide (both_true H3.out g)
      go_wp2
      have h := HR.out
      rw [e.out]
      simp only [Act.put, List.setIfInBounds_toArray, List.set_cons_zero, List.set_cons_succ] at h; exact h _ _ _ _ _ _ _
    · obtain rfl := both_false H3.out g
      go_wp2
      have h := HR.out
      simp only [Act.put, List.setIfInBounds_toArray, List.set_cons_zero, List.set_cons_succ] at h; exact h _ _ _ _ _ _ _
  simp only [Act.put, List.setIfInBounds_toArray, List.set_cons_zero, List.set_cons_succ]
  refine wpList_join10 32 33 34 35 36 37 38 39 40 41 (.bool b4) (fun R HR => ?_) (fun x4_0 x4_1 x4_2 x4_3 x4_4 x4_5 x4_6 x4_7 x4_8 => ?_)
  · by_cases g : ev ≥ 1
    · have e := hide (both_true H4.out g)
      go_wp2
      have h := HR.out
      rw [e.out]
      simp only [Act.put, List.setIfInBounds_toArray, List.set_cons_zero, List.set_cons_succ] at h; exact h _ _ _ _ _ _ _ _ _
    · obtain rfl := both_false H4.out g
      go_wp2
      have h := HR.out
      simp only [Act.put, List.setIfInBounds_toArray, List.set_cons_zero, List.set_cons_succ] at h; exact h _ _ _ _ _ _ _ _ _
  simp only [Act.put, List.setIfInBounds_toArray, List.set_cons_zero, List.set_cons_succ]
  refine wpList_join8 42 43 44 45 46 47 48 49 (.bool b5) (fun R HR => ?_) (fun x5_0 x5_1 x5_2 x5_3 x5_4 x5_5 x5_6 => ?_)
  · by_cases g : bt ≥ 1
    · have e := hide (both_true H5.out g)
      go_wp2
      have h := HR.out
      rw [e.out]
      simp only [Act.put, List.setIfInBounds_toArray, List.set_cons_zero, List.set_cons_succ] at h; exact h _ _ _ _ _ _ _
    · obtain rfl := both_false H5.out g
      go_wp2
      have h := HR.out
      simp only [Act.put, List.setIfInBounds_toArray, List.set_cons_zero, List.set_cons_succ] at h; exact h _ _ _ _ _ _ _
  simp only [Act.put, List.setIfInBounds_toArray, List.set_cons_zero, List.set_cons_succ]
  refine wpList_join8 50 51 52 53 54 55 56 57 (.bool b6) (fun R HR => ?_) (fun x6_0 x6_1 x6_2 x6_3 x6_4 x6_5 x6_6 => ?_)
  · by_cases g : ep ≥ 1
    · have e := hide (both_true H6.out g)
      go_wp2
      have h := HR.out
      rw [e.out]
      simp only [Act.put, List.setIfInBounds_toArray, List.set_cons_zero, List.set_cons_succ] at h; exact h _ _ _ _ _ _ _
    · obtain rfl := both_false H6.out g
      go_wp2
      have h := HR.out
      simp only [Act.put, List.setIfInBounds_toArray, List.set_cons_zero, List.set_cons_succ] at h; exact h _ _ _ _ _ _ _
  simp only [Act.put, List.setIfInBounds_toArray, List.set_cons_zero, List.set_cons_succ]
  refine wpList_join10 58 59 60 61 62 63 64 65 66 67 (.bool b7) (fun R HR => ?_) (fun x7_0 x7_1 x7_2 x7_3 x7_4 x7_5 x7_6 x7_7 x7_8 => ?_)
  · by_cases g : em ≥ ep
    · have e := hide (both_true H7.out g)
      go_wp2
      have h := HR.out
      rw [e.out]
      simp only [Act.put, List.setIfInBounds_toArray, List.set_cons_zero, List.set_cons_succ] at h; exact h _ _ _ _ _ _ _ _ _
    · obtain rfl := both_false H7.out g
      go_wp2
      have h := HR.out
      simp only [Act.put, List.setIfInBounds_toArray, List.set_cons_zero, List.set_cons_succ] at h; exact h _ _ _ _ _ _ _ _ _
  simp only [Act.put, List.setIfInBounds_toArray, List.set_cons_zero, List.set_cons_succ]
  refine wpList_join8 68 69 70 71 72 73 74 75 (.bool b8) (fun R HR => ?_) (fun x8_0 x8_1 x8_2 x8_3 x8_4 x8_5 x8_6 => ?_)
  · by_cases g : mn ≥ 1
    · have e := hide (both_true H8.out g)
      go_wp2
      have h := HR.out
      rw [e.out]
      simp only [Act.put, List.setIfInBounds_toArray, List.set_cons_zero, List.set_cons_succ] at h; exact h _ _ _ _ _ _ _
    · obtain rfl := both_false H8.out g
      go_wp2
      have h := HR.out
      simp only [Act.put, List.setIfInBounds_toArray, List.set_cons_zero, List.set_cons_succ] at h; exact h _ _ _ _ _ _ _
  simp only [Act.put, List.setIfInBounds_toArray, List.set_cons_zero, List.set_cons_succ]
  refine wpList_join8 76 77 78 79 80 81 82 83 (.bool b9) (fun R HR => ?_) (fun x9_0 x9_1 x9_2 x9_3 x9_4 x9_5 x9_6 => ?_)
  · by_cases g : ms ≥ 1
    · have e := hide (both_true H9.out g)
      go_wp2
      have h := HR.out
      rw [e.out]
      simp only [Act.put, List.setIfInBounds_toArray, List.set_cons_zero, List.set_cons_succ] at h; exact h _ _ _ _ _ _ _
    · obtain rfl := both_false H9.out g
      go_wp2
      have h := HR.out
      simp only [Act.put, List.setIfInBounds_toArray, List.set_cons_zero, List.set_cons_succ] at h; exact h _ _ _ _ _ _ _
  simp only [Act.put, List.setIfInBounds_toArray, List.set_cons_zero, List.set_cons_succ]
  go_wp2
  have HC1 := hide (fun k hk => HC.out (w.alloc (.cells #[.int .i64 f, .int .i64 mb, .int .u64 d, .int .u64 wn, .int .u64 ev, .int .u64 bt, .int .u64 ep, .int .u64 em, .int .u64 mn, .int .u64 ms] 24)) 137 k hk)
  have HB1 := hide (HB.out (.cells #[.int .i64 f, .int .i64 mb, .int .u64 d, .int .u64 wn, .int .u64 ev, .int .u64 bt, .int .u64 ep, .int .u64 em, .int .u64 mn, .int .u64 ms] 24) (.cells #[.bool b0, .bool b1, .bool b2, .bool b3, .bool b4, .bool b5, .bool b6, .bool b7, .bool b8, .bool b9] 137))
  rw [show (w.alloc (.cells #[.int .i64 f, .int .i64 mb, .int .u64 d, .int .u64 wn, .int .u64 ev, .int .u64 bt, .int .u64 ep, .int .u64 em, .int .u64 mn, .int .u64 ms] 24)).heap.size = w.heap.size + 1 by simp] at HC1
  generalize ((w.alloc (.cells #[.int .i64 f, .int .i64 mb, .int .u64 d, .int .u64 wn, .int .u64 ev, .int .u64 bt, .int .u64 ep, .int .u64 em, .int .u64 mn, .int .u64 ms] 24)).alloc (.cells #[.bool b0, .bool b1, .bool b2, .bool b3, .bool b4, .bool b5, .bool b6, .bool b7, .bool b8, .bool b9] 137)) = W at *
  generalize w.heap.size + 1 = B at *
  go_loopw [4] (fun i wr => wr = W ∧ ∃ k : Nat, k ≤ 10 ∧ i = .int .i64 k ∧ Hid (∀ j, j < k → bs.getD j true = true)) (fun i _ => 10 - (intOf i).toNat)
  case atStart => exact ⟨rfl, 0, by omega, rfl, fun j hj => absurd hj (by omega)⟩
  case round =>
    obtain ⟨rfl, k, hk, rfl, HJ⟩ := hrel
    by_cases hlt : k < 10
    · have hc := HC1.out k hlt
      have HX : Hid (bs.getD k true = false → badOf bs = (k : Int)) := fun h => badOf_at (by rw [HL.out]; exact hlt) h HJ.out
      have HY : Hid (bs.getD k true = true → ∀ j, j < k + 1 → bs.getD j true = true) := fun h j hj => by
        by_cases e : j = k
        · rw [e]; exact h
        · exact HJ.out j (by omega)
      generalize bs.getD k true = b at *
      cases b with
      | false =>
        go_wp2
        go_ret
        exact ⟨by rw [HX.out (by simp)]; rfl, HB1.out⟩
      | true =>
        go_wp2
        go_roundw
        case rel => exact ⟨trivial, k + 1, by omega, by go_num, HY.out (by simp)⟩
        case measure => simp [intOf]; omega
    · go_wp2
      go_ret
      exact ⟨by rw [badOf_no (fun j hj => HJ.out j (by rw [HL.out] at hj; omega))]; rfl, HB1.out⟩
theorem refField (c : Cf) (w : World) :
    Calls Try.prog 45 #[.agg c.cells] w fun e w' => e = .returned (.int .i64 (badOf c.oks)) ∧ Below w.heap.size w w' :=
  refField_b _ _ _ _ _ _ _ _ _ _ _ _ _ _ _ _ _ _ _ _ rfl rfl rfl rfl rfl rfl rfl rfl rfl rfl w
end Go.Proofs.Ytojknconkmplkaa
