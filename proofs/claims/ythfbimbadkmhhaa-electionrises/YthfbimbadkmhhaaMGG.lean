import Derived.Test.YthfbimbadkmhhaaMGF
import Derived.Deep.DeepCutAuto
import Derived.Deep.RegionHeld3
namespace Go.Proofs.Ythfbimbadkmhhaa
open Go.RowKit

/-- A ballot and an error. -/
def BalR (w : World) (n m : Int) (L : List Lk) (k : Int) (e : Ending) (w' : World) : Prop := ∃ ev, e = .returned (.tuple #[.agg #[.int .u64 n, .int .i64 m], ev]) ∧ Hid (ErrP w' L k ev ∧ Below w.heap.size w w')
theorem two_box (w : World) (o1 o2 : Obj) : ((w.alloc o1).alloc o2).heap[w.heap.size]? = some o1 ∧ ((w.alloc o1).alloc o2).heap[w.heap.size + 1]? = some o2 := by
  have e1 : (w.alloc o1).heap.size = w.heap.size + 1 := by simp
  refine ⟨(Below.heap_alloc _ _ _ (by rw [e1]; omega)).trans (alloc_atK _ _), ?_⟩
  have h := alloc_atK (w.alloc o1) o2
  rw [e1] at h
  exact h
/-- A ballot is laid into its box. -/
theorem bal_set {w V : World} {pr : Nat} {x0 y0 : Value} {t : TypeId} (hb : Below w.heap.size w V) (hp : w.heap.size ≤ pr) (hr : V.heap[pr]? = some (.cells #[x0, y0] t (0, 0))) (x y : Value) :
    Below w.heap.size w ((V.setCell ⟨pr, 0, none⟩ x).setCell ⟨pr, 1, none⟩ y) ∧ ((V.setCell ⟨pr, 0, none⟩ x).setCell ⟨pr, 1, none⟩ y).cell? ⟨pr, 0, none⟩ = some x ∧ ((V.setCell ⟨pr, 0, none⟩ x).setCell ⟨pr, 1, none⟩ y).cell? ⟨pr, 1, none⟩ = some y := by
  have h1 := hb.grown (grown_set V pr 0 x) hb.size (fun k e => by cases e; exact hp)
  have h2 := h1.grown (grown_set _ pr 1 y) h1.size (fun k e => by cases e; exact hp)
  have s1 := heap_setCell_same V pr 0 _ _ x hr
  simp only [List.setIfInBounds_toArray, List.set_cons_zero] at s1
  have s2 := heap_setCell_same _ pr 1 _ _ y s1
  simp only [List.setIfInBounds_toArray, List.set_cons_zero, List.set_cons_succ] at s2
  exact ⟨h2, block_cell s2 0, block_cell s2 1⟩
theorem err_set {V : World} {pr : Nat} {y0 : Value} {k0 : IntKind} {n0 : Int} {t : TypeId} {l : Lk} {ev : Value} {k : Int} (hc : Chain V.heap.size V [l] ev k) (hk : k ≠ 0) (hr : V.heap[pr]? = some (.cells #[.int k0 n0, y0] t (0, 0))) (x y : Value) :
    ErrP ((V.setCell ⟨pr, 0, none⟩ x).setCell ⟨pr, 1, none⟩ y) [l] k ev := by
  obtain ⟨g, u, e, hg, c0, c1, c2, hu⟩ := hc
  have hne : pr ≠ g := fun e => by subst e; rw [block_cell hr 0] at c0; cases c0
  have far : ∀ i, ((V.setCell ⟨pr, 0, none⟩ x).setCell ⟨pr, 1, none⟩ y).cell? ⟨g, i, none⟩ = V.cell? ⟨g, i, none⟩ := fun i => by
    rw [World.cell?_setCell_far _ ⟨pr, 1, none⟩ ⟨g, i, none⟩ _ hne, World.cell?_setCell_far _ ⟨pr, 0, none⟩ ⟨g, i, none⟩ _ hne]
  refine .inr ⟨⟨g, u, e, ?_, (far 0).trans c0, (far 1).trans c1, (far 2).trans c2, hu⟩, by simp, by simp, hk⟩
  have z1 := (grown_set V pr 0 x).size
  have z2 := (grown_set (V.setCell ⟨pr, 0, none⟩ x) pr 1 y).size
  omega
/-- The next ballot: number, node, links, reason. -/
def Cf.next (c : Cf) (n m : Int) (v : Bool) : Int × Int × List Lk × Int :=
  if v = false then (0, 0, [⟨ballotN, 0⟩], 181) else if n = 0 then (1, 0, [], 0) else if n = (c.mn : Int) ∧ m = 2 * c.f then (0, 0, [⟨ballotN, 0⟩], 183) else if m < 2 * c.f then (n, m + 1, [], 0) else (n + 1, 0, [], 0)
set_option maxRecDepth 10000 in
set_option maxHeartbeats 400000 in
theorem nodes_raw {w : World} {p : Nat} {f : Int} (hc : w.cell? ⟨p, 0, none⟩ = some (.int .i64 f)) (h1 : 1 ≤ f) (h3 : f ≤ 3) :
    Calls Try.prog 36 #[.pointer (some ⟨p, 0, none⟩)] w fun e w' => e = .returned (.int .i64 (2 * f + 1)) ∧ w' = w := by
  have HM : Hid (Calls Try.prog 45 #[.pointer (some ⟨p, 0, none⟩)] w fun e w' => e = .returned (.bool true) ∧ w' = w) := by
    go_enter Try.func45, Try.ntmps45
    go_wp2
    go_ret
    exact ⟨by simp; omega, rfl⟩
  go_enter Try.func36, Try.ntmps36
  go_wp2_with fail
  refine HM.out.mono ?_
  rintro e w1 ⟨rfl, rfl⟩
  go_wp2
  go_ret
  exact ⟨rfl, rfl⟩
set_option maxRecDepth 10000 in
set_option maxHeartbeats 400000 in
/-- Next, where the ballot is none to begin from. -/
theorem next_no {w : World} {a : Option Addr} (n m : Int) (k : Int) (hk : k ≠ 0)
    (hw : ∀ W, Below w.heap.size w W → Calls Try.prog 54 #[.pointer a, .agg #[.int .u64 n, .int .i64 m]] W fun e w' => e = .returned (.int .i64 k) ∧ Below W.heap.size W w') :
    Calls Try.prog 42 #[.pointer a, .agg #[.int .u64 n, .int .i64 m]] w (BalR w 0 0 [⟨ballotN, 0⟩] k) := by
  obtain ⟨W1, hW1⟩ : ∃ W1, (w.alloc (.cells #[.int .u64 n, .int .i64 m] 33)).alloc (.cells #[.int .u64 0, .int .i64 0] 33) = W1 := ⟨_, rfl⟩
  have B1 : Hid (Below w.heap.size w W1) := by rw [← hW1]; exact ((Below.refl _ w).alloc (Nat.le_refl _) _).alloc (by simp) _
  obtain ⟨t1, t2⟩ := two_box w (.cells #[.int .u64 n, .int .i64 m] 33) (.cells #[.int .u64 0, .int .i64 0] 33)
  obtain ⟨pb, hpb⟩ : ∃ p, w.heap.size = p := ⟨_, rfl⟩
  obtain ⟨pr, hpr⟩ : ∃ p, w.heap.size + 1 = p := ⟨_, rfl⟩
  rw [hW1, hpb] at t1
  rw [hW1, hpr] at t2
  have HT2 := hide t2
  have q0 := block_cell t1 0
  have q1 := block_cell t1 1
  have HWR := hide (hw W1 B1.out)
  have HRF := hide (fun W => refusalB (w := W) 0 k)
  have HPR : Hid (w.heap.size ≤ pr) := by show _ ≤ _; omega
  have HW1 := hide hW1
  have HPB := hide hpb
  have HPRE := hide hpr
  clear hW1 hpb hpr t1 t2 hw
  unfold BalR
  go_enter Try.func42, Try.ntmps42
  go_upto_region 1 with fail
  rw [HW1.out, HPRE.out, HPB.out]
  go_wp2_with fail
  refine HWR.out.mono ?_
  rintro e w2 ⟨rfl, b2⟩
  have B2 := hide (B1.out.trans (b2.mono B1.out.size))
  have T2 := hide ((b2.block _ (block_lt HT2.out)).trans HT2.out)
  clear b2 q0 q1 HT2 B1
  go_wp2_with fail
  refine (HRF.out _).mono ?_
  rintro e w3 ⟨g, rfl, G3⟩
  have T3 := hide ((G3.out.2.block _ (block_lt T2.out)).trans T2.out)
  have FIN := hide (bal_set (B2.out.trans (G3.out.2.mono B2.out.size)) HPR.out T3.out (.int .u64 0) (.int .i64 0))
  have FER := hide (err_set G3.out.1 hk T3.out (.int .u64 0) (.int .i64 0))
  have y0 := block_cell T3.out 0
  have y1 := block_cell T3.out 1
  have y2 := block_free T3.out 0
  have y3 := block_free T3.out 1
  clear G3 B2 T2 T3 HRF HWR
  go_wp2
  have z0 := FIN.out.2.1
  have z1 := FIN.out.2.2
  refine bodyPost_ret (v := .tuple #[.agg #[.int .u64 0, .int .i64 0], .iface 102 (.pointer (some ⟨g, 0, none⟩))]) (by simp [results, Try.results42, go_sem, z0, z1]) rfl ⟨_, rfl, FER.out, FIN.out.1⟩
end Go.Proofs.Ythfbimbadkmhhaa
namespace Go.Proofs.Ythfbimbadkmhhaa
open Go.RowKit

theorem two_cells (w : World) (a b c d : Value) (t : TypeId) : Below w.heap.size w ((w.alloc (.cells #[a, b] t)).alloc (.cells #[c, d] t)).drew ∧ ((w.alloc (.cells #[a, b] t)).alloc (.cells #[c, d] t)).drew.cell? ⟨w.heap.size, 0, none⟩ = some a ∧ ((w.alloc (.cells #[a, b] t)).alloc (.cells #[c, d] t)).drew.cell? ⟨w.heap.size, 1, none⟩ = some b ∧ ((w.alloc (.cells #[a, b] t)).alloc (.cells #[c, d] t)).drew.cell? ⟨w.heap.size + 1, 0, none⟩ = some c ∧ ((w.alloc (.cells #[a, b] t)).alloc (.cells #[c, d] t)).drew.cell? ⟨w.heap.size + 1, 1, none⟩ = some d := by
  obtain ⟨h1, h2⟩ := two_box w (.cells #[a, b] t) (.cells #[c, d] t)
  exact ⟨(((Below.refl _ w).alloc (Nat.le_refl _) _).alloc (by simp) _).drew, block_cell h1 0, block_cell h1 1, block_cell h2 0, block_cell h2 1⟩
set_option maxRecDepth 10000 in
set_option maxHeartbeats 800000 in
/-- Next, where the ballot is one to begin from. -/
theorem next_yes {w : World} {a : Option Addr} {c : Cf} (n : Nat) (m : Int) (h : PG w a c) (hk : c.Ok) (hv : c.valid n m = true) :
    Calls Try.prog 42 #[.pointer a, .agg #[.int .u64 (n : Nat), .int .i64 m]] w (BalR w (c.next n m true).1 (c.next n m true).2.1 (c.next n m true).2.2.1 (c.next n m true).2.2.2) := by
  obtain ⟨W1, hW1⟩ : ∃ W1, (w.alloc (.cells #[.int .u64 (n : Nat), .int .i64 m] 33)).alloc (.cells #[.int .u64 0, .int .i64 0] 33) = W1 := ⟨_, rfl⟩
  have B1 : Hid (Below w.heap.size w W1) := by rw [← hW1]; exact ((Below.refl _ w).alloc (Nat.le_refl _) _).alloc (by simp) _
  obtain ⟨t1, t2⟩ := two_box w (.cells #[.int .u64 (n : Nat), .int .i64 m] 33) (.cells #[.int .u64 0, .int .i64 0] 33)
  obtain ⟨pb, hpb⟩ : ∃ p, w.heap.size = p := ⟨_, rfl⟩
  obtain ⟨pr, hpr⟩ : ∃ p, w.heap.size + 1 = p := ⟨_, rfl⟩
  rw [hW1, hpb] at t1
  rw [hW1, hpr] at t2
  have g1 := h.kept B1.out
  have HWR := hide (wrong_live n m g1 hk)
  rw [hv] at HWR
  have HRF := hide (fun W => refusalB (w := W) 0 183)
  have HPR : Hid (w.heap.size ≤ pr) := by show _ ≤ _; omega
  obtain ⟨p, rfl, hp1⟩ := h
  have KS : Hid (∀ V, Below W1.heap.size W1 V → V.cell? ⟨p, 0, none⟩ = some (.int .i64 c.f) ∧ V.cell? ⟨p, 8, none⟩ = some (.int .u64 (c.mn : Nat)) ∧ V.cell? ⟨pb, 0, none⟩ = some (.int .u64 (n : Nat)) ∧ V.cell? ⟨pb, 1, none⟩ = some (.int .i64 m) ∧ V.heap[pr]? = some (.cells #[.int .u64 0, .int .i64 0] 33 (0, 0))) := fun V hb => by
    obtain ⟨p', e, _, h0, _, h8, _⟩ := (g1.kept hb).cells
    cases e
    have hB := (hb.block _ (block_lt t1)).trans t1
    exact ⟨h0, h8, block_cell hB 0, block_cell hB 1, (hb.block _ (block_lt t2)).trans t2⟩
  obtain ⟨_, _, q2, q3, _⟩ := KS.out W1 (Below.refl _ _)
  have HVN : Hid (c.node m = true ∨ ((n : Int) = 0 ∧ m = 0)) := by
    show _ ∨ _
    unfold Cf.valid at hv
    by_cases h0 : n = 0
    · rw [if_pos h0] at hv; exact .inr ⟨by omega, of_decide_eq_true hv⟩
    · rw [if_neg h0, Bool.and_eq_true] at hv; exact .inl hv.2
  have HVB : Hid ((n : Int) ≤ 1099511627776) := by
    show _ ≤ _
    unfold Cf.valid at hv
    by_cases h0 : n = 0
    · omega
    · rw [if_neg h0, Bool.and_eq_true] at hv
      have := of_decide_eq_true hv.1
      have := hk.mn2
      omega
  have HMB : Hid (0 ≤ m ∧ m ≤ 2 * c.f) := by
    show _ ∧ _
    have := hk.f1
    rcases HVN.out with h | h
    · have := of_decide_eq_true h; omega
    · omega
  have f1 := hk.f1
  have f3 := hk.f3
  have hn0 : (0 : Int) ≤ (n : Int) := by omega
  have HZ : Hid ((n : Int) = 0 → m = 0) := fun h => by
    unfold Cf.valid at hv
    rw [if_pos (by omega)] at hv
    exact of_decide_eq_true hv
  have HW1 := hide hW1
  have HPB := hide hpb
  have HPRE := hide hpr
  clear hW1 hpb hpr t1 t2 g1 hk hv HVN hp1
  have HNX : Hid (c.next n m true = if (n : Int) = 0 then (1, 0, [], 0) else if (n : Int) = (c.mn : Int) ∧ m = 2 * c.f then (0, 0, [⟨ballotN, 0⟩], 183) else if m < 2 * c.f then ((n : Int), m + 1, [], 0) else ((n : Int) + 1, 0, [], 0)) := rfl
  generalize c.next n m true = nx at *
  generalize (n : Int) = n at *
  generalize (c.mn : Int) = mn at *
  generalize c.f = f at *
  unfold BalR
  go_enter Try.func42, Try.ntmps42
  go_upto_region 1 with fail
  rw [HW1.out, HPRE.out, HPB.out]
  go_wp2_with fail
  refine HWR.out.mono ?_
  rintro e w2 ⟨rfl, b2⟩
  have B2 := hide b2
  clear b2 q2 q3 HWR
  obtain ⟨q0, q1, q2, q3, _⟩ := KS.out w2 B2.out
  go_upto_region 4 with fail
  have hwr : IntKind.i64.wrap (2 * f) = 2 * f := by simp [IntKind.wrap, IntKind.bits, IntKind.signed]; omega
  have n1 := World.new_ne w2 _ q0
  have n2 := World.new_ne w2 _ q1
  simp only at n1 n2
  go_cut [7, 8] from 9 (fun s7 s8 V => ∃ p7 p8, s7 = .pointer (some ⟨p7, 0, none⟩) ∧ s8 = .pointer (some ⟨p8, 0, none⟩) ∧ Hid (Below w2.heap.size w2 V ∧ V.cell? ⟨p7, 0, none⟩ = some (.int .u64 1) ∧ V.cell? ⟨p7, 1, none⟩ = some (.int .i64 0) ∧ V.cell? ⟨p8, 0, none⟩ = some (.int .u64 mn) ∧ V.cell? ⟨p8, 1, none⟩ = some (.int .i64 (2 * f))))
  case first =>
    go_region_held3 (fun V => V.cell? ⟨p, 0, none⟩ = some (.int .i64 f) ∧ V.cell? ⟨p, 8, none⟩ = some (.int .u64 mn)) (go_keep)
      (first | (go_at_call 36; refine (nodes_raw (f := f) ?_ f1 f3).mono ?_; (simp [*]); rintro e V' ⟨rfl, rfl⟩))
    all_goals go_wp2
    all_goals go_meet
    all_goals first
      | exact ⟨_, _, rfl, rfl, two_cells w2 _ _ _ _ _⟩
      | exact ⟨_, _, rfl, rfl, (two_cells w2 _ _ _ _ _).1, (two_cells w2 _ _ _ _ _).2.2.2.1, (two_cells w2 _ _ _ _ _).2.2.2.2, (two_cells w2 _ _ _ _ _).2.1, (two_cells w2 _ _ _ _ _).2.2.1⟩
  case rest =>
  obtain ⟨p7, p8, rfl, rfl, HV⟩ := hcut
  have HV0 := hide (B2.out.trans (HV.out.1.mono B2.out.size))
  clear q0 q1 q2 q3 n1 n2
  obtain ⟨q0, q1, q2, q3, T⟩ := KS.out _ HV0.out
  obtain ⟨_, c0, c1, c2, c3⟩ := HV.out
  have hz := bal_zero n m
  have hl := bal_eq n mn m (2 * f)
  have y0 := block_cell T 0
  have y1 := block_cell T 1
  have y2 := block_free T 0
  have y3 := block_free T 1
  by_cases h0 : n = 0
  · have hm := HZ.out h0
    subst h0 hm
    have HN2 : Hid (nx = (1, 0, [], 0)) := by show _ = _; rw [HNX.out, if_pos rfl]
    simp only [decide_true, Bool.and_true] at hz
    clear hl
    have FIN := hide (bal_set (B1.out.trans (HV0.out.mono B1.out.size)) HPR.out T (.int .u64 1) (.int .i64 0))
    go_wp2
    have z0 := FIN.out.2.1
    have z1 := FIN.out.2.2
    refine bodyPost_ret (v := .tuple #[.agg #[.int .u64 1, .int .i64 0], .nilIface]) (by simp [results, Try.results42, go_sem, z0, z1]) rfl ⟨_, by rw [HN2.out], by rw [HN2.out]; exact .inl ⟨rfl, rfl, rfl⟩, FIN.out.1⟩
  · simp only [decide_eq_false h0, Bool.false_and] at hz
    by_cases h1 : n = mn ∧ m = 2 * f
    · have HN2 : Hid (nx = (0, 0, [⟨ballotN, 0⟩], 183)) := by show _ = _; rw [HNX.out, if_neg h0, if_pos h1]
      rw [decide_eq_true h1.1, decide_eq_true h1.2] at hl
      simp only [Bool.and_true] at hl
      clear h1
      go_wp2_with fail
      refine (HRF.out _).mono ?_
      rintro e w3 ⟨g, rfl, G3⟩
      have T3 := hide ((G3.out.2.block _ (block_lt T)).trans T)
      have HV3 := hide (HV0.out.trans (G3.out.2.mono HV0.out.size))
      have FIN := hide (bal_set (B1.out.trans (HV3.out.mono B1.out.size)) HPR.out T3.out (.int .u64 0) (.int .i64 0))
      have FER := hide (err_set G3.out.1 (by omega) T3.out (.int .u64 0) (.int .i64 0))
      clear y0 y1 y2 y3 q0 q1 q2 q3 c0 c1 c2 c3
      have y0 := block_cell T3.out 0
      have y1 := block_cell T3.out 1
      have y2 := block_free T3.out 0
      have y3 := block_free T3.out 1
      clear G3 T T3 HRF HV3
      go_wp2
      have z0 := FIN.out.2.1
      have z1 := FIN.out.2.2
      refine bodyPost_ret (v := .tuple #[.agg #[.int .u64 0, .int .i64 0], .iface 102 (.pointer (some ⟨g, 0, none⟩))]) (by simp [results, Try.results42, go_sem, z0, z1]) rfl ⟨_, by rw [HN2.out], by rw [HN2.out]; exact FER.out, FIN.out.1⟩
    · have hl' : ∀ w, (binOp BinOp.eql 33 (.agg #[.int .u64 n, .int .i64 m]) (.agg #[.int .u64 mn, .int .i64 (2 * f)])).run Try.prog w = .ok (.bool false) w := fun w => by
        rw [hl]
        congr 2
        simpa using h1
      clear hl
      by_cases h2 : m < 2 * f
      · have HN2 : Hid (nx = (n, m + 1, [], 0)) := by show _ = _; rw [HNX.out, if_neg h0, if_neg h1, if_pos h2]
        have hm0 := HMB.out.1
        clear h1
        have FIN := hide (bal_set (B1.out.trans (HV0.out.mono B1.out.size)) HPR.out T (.int .u64 n) (.int .i64 (m + 1)))
        go_wp2
        have z0 := FIN.out.2.1
        have z1 := FIN.out.2.2
        refine bodyPost_ret (v := .tuple #[.agg #[.int .u64 n, .int .i64 (m + 1)], .nilIface]) (by simp [results, Try.results42, go_sem, z0, z1]) rfl ⟨_, by rw [HN2.out], by rw [HN2.out]; exact .inl ⟨rfl, rfl, rfl⟩, FIN.out.1⟩
      · have HN2 : Hid (nx = (n + 1, 0, [], 0)) := by show _ = _; rw [HNX.out, if_neg h0, if_neg h1, if_neg h2]
        have hnb := HVB.out
        clear h1
        have FIN := hide (bal_set (B1.out.trans (HV0.out.mono B1.out.size)) HPR.out T (.int .u64 (n + 1)) (.int .i64 0))
        go_wp2
        have z0 := FIN.out.2.1
        have z1 := FIN.out.2.2
        refine bodyPost_ret (v := .tuple #[.agg #[.int .u64 (n + 1), .int .i64 0], .nilIface]) (by simp [results, Try.results42, go_sem, z0, z1]) rfl ⟨_, by rw [HN2.out], by rw [HN2.out]; exact .inl ⟨rfl, rfl, rfl⟩, FIN.out.1⟩
end Go.Proofs.Ythfbimbadkmhhaa
namespace Go.Proofs.Ythfbimbadkmhhaa
open Go.RowKit

/-- A number and an error. -/
def NumR (w : World) (n : Int) (L : List Lk) (k : Int) (e : Ending) (w' : World) : Prop := ∃ ev, e = .returned (.tuple #[.int .u64 n, ev]) ∧ Hid (ErrP w' L k ev ∧ Below w.heap.size w w')
/-- The rank. -/
def Cf.rank (c : Cf) (n m : Int) : Int := if n = 0 then 0 else (n - 1) * (2 * c.f + 1) + m + 1
end Go.Proofs.Ythfbimbadkmhhaa
namespace Go.Proofs.Ythfbimbadkmhhaa
open Go.RowKit

theorem bal_neq (a c : Int) (b d : Int) (w : World) : (binOp BinOp.neq 33 (.agg #[.int .u64 a, .int .i64 b]) (.agg #[.int .u64 c, .int .i64 d])).run Try.prog w = .ok (.bool (!(decide (a = c) && decide (b = d)))) w := by
  by_cases h1 : a = c
  · subst h1
    by_cases h2 : b = d
    · subst h2; go_simp
    · go_simp
  · go_simp
theorem Cf.valid_iff (c : Cf) (n : Nat) (m : Int) : c.valid n m = true ↔ ((n : Int) = 0 ∧ m = 0) ∨ (1 ≤ (n : Int) ∧ (n : Int) ≤ (c.mn : Int) ∧ 0 ≤ m ∧ m < 2 * c.f + 1) := by
  unfold Cf.valid
  by_cases h0 : n = 0
  · rw [if_pos h0, decide_eq_true_eq]; omega
  · rw [if_neg h0, Bool.and_eq_true]
    unfold Cf.node
    rw [decide_eq_true_eq, decide_eq_true_eq]
    omega
theorem wrap_u (x : Int) (h1 : 0 ≤ x) (h2 : x < 18446744073709551616) : IntKind.u64.wrap x = x := by
  have e : IntKind.u64.wrap x = x % 18446744073709551616 := rfl
  rw [e]; omega
theorem Cf.Ok.f_cases {c : Cf} (h : c.Ok) : c.f = 1 ∨ c.f = 2 ∨ c.f = 3 := by
  have := h.f1; have := h.f3; omega
theorem rank_nonneg {c : Cf} (hok : c.Ok) {n : Nat} {m : Int} (hv : c.valid n m = true) : 0 ≤ c.rank n m ∧ c.rank n m ≤ (c.mn : Int) * (2 * c.f + 1) ∧ (c.mn : Int) * (2 * c.f + 1) ≤ 7696581394432 := by
  have h2 := hok.mn2
  unfold Cf.rank
  rcases (c.valid_iff n m).1 hv with h | h <;> rcases hok.f_cases with hf | hf | hf <;> rw [hf] <;> (try rw [hf] at h) <;> split <;> omega
theorem rank_zero {c : Cf} (hok : c.Ok) {n : Nat} {m : Int} (hv : c.valid n m = true) : c.rank n m = 0 → (n : Int) = 0 ∧ m = 0 := by
  unfold Cf.rank
  rcases (c.valid_iff n m).1 hv with h | h <;> rcases hok.f_cases with hf | hf | hf <;> rw [hf] <;> (try rw [hf] at h) <;> split <;> omega
theorem rank_back {c : Cf} (hok : c.Ok) {n : Nat} {m : Int} (hv : c.valid n m = true) (h0 : c.rank n m ≠ 0) : (c.rank n m - 1) / (2 * c.f + 1) + 1 = (n : Int) ∧ (c.rank n m - 1) % (2 * c.f + 1) = m := by
  unfold Cf.rank at *
  rcases (c.valid_iff n m).1 hv with h | h
  · rw [if_pos h.1] at h0; exact absurd rfl h0
  · rw [if_neg (by omega)]
    rcases hok.f_cases with hf | hf | hf <;> rw [hf] <;> rw [hf] at h <;> omega
theorem rank_lt {c : Cf} (hok : c.Ok) {n : Nat} {m : Int} (hv : c.valid n m = true) {n' : Nat} {m' : Int} (hv' : c.valid n' m' = true) : (c.rank n m < c.rank n' m' ↔ cmpB n m n' m' < 0) ∧ (c.rank n m = c.rank n' m' ↔ (n : Int) = n' ∧ m = m') := by
  have h1 := (c.valid_iff n m).1 hv
  have h2 := (c.valid_iff n' m').1 hv'
  unfold Cf.rank cmpB
  rcases hok.f_cases with hf | hf | hf <;> rw [hf] <;> rw [hf] at h1 h2 <;> (repeat' split) <;> constructor <;> constructor <;> intro h <;> omega
end Go.Proofs.Ythfbimbadkmhhaa
namespace Go.Proofs.Ythfbimbadkmhhaa
open Go.RowKit

/-- All replicas. -/
def allB (f : Int) : Int := if f = 1 then 7 else if f = 2 then 31 else 127
end Go.Proofs.Ythfbimbadkmhhaa
