import Derived.Test.YtcfenjpdjogmdaaLT48
import Derived.BigQuiet
import Derived.Lib.QuietBelow
namespace Go.Proofs.Ytcfenjpdjogmdaa
open Go.RowKit Go.Sort

set_option maxRecDepth 10000 in
set_option maxHeartbeats 3200000 in
/-- behind: what stands at a place of a list that was marked and went on. -/
theorem behindC {w : World} (T0 T1 : Int) (v2 v3 v4 v5 v6 v7 : Value) (m i n : Nat) (hm : m ≤ 2000000000) (hi : i < n + 64) : Calls Try.prog 40 #[.agg #[.int .u64 T0, .int .u64 T1, v2, v3, v4, v5, v6, v7, .int .u64 (m : Nat)], .int .i64 (i : Nat), .int .i64 (n : Nat)] w fun e w' => e = .returned (.int .u64 (beh m i n : Nat)) ∧ Below w.heap.size w w' := by
  obtain ⟨W1, hW1⟩ : ∃ W1, w.alloc (.cells #[.int .u64 T0, .int .u64 T1, v2, v3, v4, v5, v6, v7, .int .u64 (m : Nat)] 48) = W1 := ⟨_, rfl⟩
  have HB : Hid (Below w.heap.size w W1) := by rw [← hW1]; exact (Below.refl _ w).alloc (Nat.le_refl _) _
  have y8 : W1.cell? ⟨w.heap.size, 8, none⟩ = some (.int .u64 (m : Nat)) := by rw [← hW1]; exact (block_cell (alloc_atK w _) 8).trans rfl
  have yl : w.heap.size < W1.heap.size := by rw [← hW1]; simp
  have HW1 := hide hW1
  clear hW1
  by_cases h : i < n
  · have g : decide ((i : Int) < (n : Int)) = true := decide_eq_true (by omega)
    have hb : Hid (beh m i n = m) := if_pos h
    go_enter Try.func40, Try.ntmps40
    go_upto_region 1 with fail
    rw [HW1.out]
    go_wp2
    refine bodyPost_ret (v := .int .u64 (m : Nat)) (by simp [results, Try.results40, go_sem]) rfl ⟨by rw [hb.out], HB.out⟩
  · have g : decide ((i : Int) < (n : Int)) = false := decide_eq_false (by omega)
    have hb : Hid (beh m i n = m + (i - n + 1) * 1099511627776) := if_neg h
    have e1 : IntKind.i64.wrap ((i : Int) - (n : Int)) = ((i - n : Nat) : Int) := by rw [IntWalk.i64_in _ ⟨by omega, by omega⟩]; omega
    obtain ⟨t, ht⟩ : ∃ t, i - n = t := ⟨_, rfl⟩
    rw [ht] at e1 hb
    have ht2 : t < 64 := by omega
    have e2 : IntKind.i64.wrap ((t : Int) + 1) = ((t + 1 : Nat) : Int) := by rw [IntWalk.i64_in _ ⟨by omega, by omega⟩]; omega
    have e3 : IntKind.u64.wrap ((t + 1 : Nat) : Int) = ((t + 1 : Nat) : Int) := IntWalk.u64_in _ ⟨by omega, by omega⟩
    obtain ⟨K, hK⟩ : ∃ K, t + 1 = K := ⟨_, rfl⟩
    rw [hK] at e2 e3 hb
    obtain ⟨MK, hMK⟩ : ∃ MK : Nat, K * 1099511627776 = MK := ⟨_, rfl⟩
    obtain ⟨X, hX⟩ : ∃ X : Nat, m + MK = X := ⟨_, rfl⟩
    have hw1 : IntKind.u64.wrap ((K : Int) * 1099511627776) = (MK : Int) := by rw [IntWalk.u64_in _ ⟨by omega, by omega⟩]; omega
    have hw2 : IntKind.u64.wrap ((m : Int) + (MK : Int)) = (X : Int) := by rw [IntWalk.u64_in _ ⟨by omega, by omega⟩]; omega
    rw [hMK, hX] at hb
    go_enter Try.func40, Try.ntmps40
    go_upto_region 1 with fail
    rw [HW1.out]
    go_wp2
    refine bodyPost_ret (v := .int .u64 (X : Nat)) (by simp [results, Try.results40, go_sem]) rfl ⟨by rw [hb.out], HB.out⟩
theorem MkR.below {V W : World} {m n nh nj : Nat} {ao ho jo xa xh xj : Option Addr} {P : Nat → Prop} (h : MkR V m n nh nj ao ho jo xa xh xj P) (hb : Below V.heap.size V W) : MkR W m n nh nj ao ho jo xa xh xj P :=
  ⟨h.mA.off (fun g hg _ => hb.block g hg), h.xA.off (fun g hg _ => hb.block g hg), h.mH.off (fun g hg _ => hb.block g hg), h.xH.off (fun g hg _ => hb.block g hg), h.mJ.off (fun g hg _ => hb.block g hg), h.xJ.off (fun g hg _ => hb.block g hg)⟩
theorem MF.cell {T : TypeId} {s : Nat} {mv : List Value} {V : World} {n : Nat} {ao : Option Addr} {P : Nat → Prop} (h : MF T s mv V n ao P) (hn : 0 < n) : ∃ g, ao = some ⟨g, 0, none⟩ ∧ g < V.heap.size ∧ ∀ i, i < n → ∀ j, j < s → V.cell? ⟨g, i * s + j, none⟩ = mv[j]? := by
  obtain ⟨g, cs, e, _, hb, hc⟩ := h hn
  exact ⟨g, e, block_lt hb, fun i hi j hj => (block_cell hb _).trans (hc i hi j hj)⟩
theorem XF.cell {T : TypeId} {s m : Nat} {mv : List Value} {V : World} {n : Nat} {ao : Option Addr} {P : Nat → Prop} (h : XF T s mv m V n ao P) : ∃ g, ao = some ⟨g, 0, none⟩ ∧ g < V.heap.size ∧ (∀ i, i < n → ∀ j, j < s → V.cell? ⟨g, i * s + j, none⟩ = mv[j]?) ∧ ∀ i, n ≤ i → i < n + 64 → V.cell? ⟨g, i * s, none⟩ = some (.int .u64 (beh m i n : Nat)) := by
  obtain ⟨g, cs, e, _, hb, hc, hd⟩ := h
  exact ⟨g, e, block_lt hb, fun i hi j hj => (block_cell hb _).trans (hc i hi j hj), fun i h1 h2 => (block_cell hb _).trans (hd i h1 h2)⟩

set_option maxRecDepth 10000 in
set_option maxHeartbeats 6400000 in
/-- still: whoever was marked and is as he was. -/
theorem stillC {V : World} {m : Nat} (hm : m ≤ 2000000000) (T0 T1 : Int) {ao ho jo xa xh xj : Option Addr} (n cap nh hcap nj jcap xac xhc xjc : Nat) {P : Nat → Prop} (hR : MkR V m n nh nj ao ho jo xa xh xj P) (hn : n ≤ 64) (hnh : nh ≤ 64) (hnj : nj ≤ 64) :
    Calls Try.prog 15 #[.agg #[.int .u64 T0, .int .u64 T1, .slice ao n cap, .slice ho nh hcap, .slice jo nj jcap, .slice xa (n + 64) xac, .slice xh (nh + 64) xhc, .slice xj (nj + 64) xjc, .int .u64 (m : Nat)]] V fun e V' => e = .returned (.bool true) ∧ Hid (Below V.heap.size V V') := by
  obtain ⟨W1, hW1⟩ : ∃ W1, V.alloc (.cells #[.int .u64 T0, .int .u64 T1, .slice ao n cap, .slice ho nh hcap, .slice jo nj jcap, .slice xa (n + 64) xac, .slice xh (nh + 64) xhc, .slice xj (nj + 64) xjc, .int .u64 (m : Nat)] 48) = W1 := ⟨_, rfl⟩
  obtain ⟨q, hq⟩ : ∃ q, V.heap.size = q := ⟨_, rfl⟩
  have HB1 : Hid (Below V.heap.size V W1) := by rw [← hW1]; exact (Below.refl _ V).alloc (Nat.le_refl _) _
  have HM1 : Hid (MkR W1 m n nh nj ao ho jo xa xh xj P) := hR.below HB1.out
  have HQ1 : Hid (W1.heap[q]? = some (.cells #[.int .u64 T0, .int .u64 T1, .slice ao n cap, .slice ho nh hcap, .slice jo nj jcap, .slice xa (n + 64) xac, .slice xh (nh + 64) xhc, .slice xj (nj + 64) xjc, .int .u64 (m : Nat)] 48 (0, 0))) := by rw [← hW1, ← hq]; exact alloc_atK V _
  have HN : Hid (∀ wr, Below W1.heap.size W1 wr → wr.heap[q]? = some (.cells #[.int .u64 T0, .int .u64 T1, .slice ao n cap, .slice ho nh hcap, .slice jo nj jcap, .slice xa (n + 64) xac, .slice xh (nh + 64) xhc, .slice xj (nj + 64) xjc, .int .u64 (m : Nat)] 48 (0, 0)) ∧ MkR wr m n nh nj ao ho jo xa xh xj P) := fun wr hb => ⟨(hb.block _ (block_lt HQ1.out)).trans HQ1.out, HM1.out.below hb⟩
  have HL : Hid (Below V.heap.size V W1 → ∀ wr, Below W1.heap.size W1 wr → Below V.heap.size V wr) := fun h wr hb => h.trans (hb.mono h.size)
  have HW1 := hide hW1
  have HQ := hide hq
  have HR0 : Hid (Below W1.heap.size W1 W1) := Below.refl _ W1
  clear hR hW1 hq HM1 HQ1
  go_enter Try.func15, Try.ntmps15
  go_upto_region 1 with fail
  rw [HW1.out, HQ.out]
  clear HW1
  go_wp2
  go_loopw [3] (fun i wr => ∃ k : Nat, k ≤ n + 64 ∧ i = .int .i64 k ∧ Hid (Below W1.heap.size W1 wr)) (fun i _ => n + 64 - (intOf i).toNat)
  case atStart => exact ⟨0, by omega, rfl, HR0.out⟩
  case round =>
    clear HR0
    obtain ⟨k, hk, rfl, HR⟩ := hrel
    obtain ⟨hq, hMk⟩ := HN.out wr HR.out
    have y5 := block_cell hq 5
    have yl := block_lt hq
    simp at y5
    by_cases hlt : k < n + 64
    · obtain ⟨gx, rfl, gxl, x1, x2⟩ := hMk.xA.cell
      have y0 := block_cell hq 0
      have y1 := block_cell hq 1
      have y2 := block_cell hq 2
      have y3 := block_cell hq 3
      have y4 := block_cell hq 4
      have y6 := block_cell hq 6
      have y7 := block_cell hq 7
      have y8 := block_cell hq 8
      simp at y0 y1 y2 y3 y4 y6 y7 y8
      have k0 := cell_regrown y0
      have k1 := cell_regrown y1
      have k2 := cell_regrown y2
      have k3 := cell_regrown y3
      have k4 := cell_regrown y4
      have k5 := cell_regrown y5
      have k6 := cell_regrown y6
      have k7 := cell_regrown y7
      have k8 := cell_regrown y8
      have hf : wr.cell? ⟨gx, k * 4, none⟩ = some (.int .u64 (beh m k n : Nat)) := by
        by_cases h : k < n
        · rw [show beh m k n = m from if_pos h]
          exact x1 k h 0 (by decide)
        · exact x2 k (by omega) hlt
      have kf := cell_regrown hf
      have c1 : ∀ d os, Calls Try.prog 40 #[.agg #[.int .u64 T0, .int .u64 T1, .slice ao n cap, .slice ho nh hcap, .slice jo nj jcap, .slice (some ⟨gx, 0, none⟩) (n + 64) xac, .slice xh (nh + 64) xhc, .slice xj (nj + 64) xjc, .int .u64 (m : Nat)], .int .i64 (k : Nat), .int .i64 (n : Nat)] (grow (redrawn wr d) os) fun e w'' => e = .returned (.int .u64 (beh m k n : Nat)) ∧ ∃ p : Regrown, w'' = grow (redrawn wr p.d) p.os := fun d os => Calls.regrown_of (behindC T0 T1 _ _ _ _ _ _ m k n hm hlt)
      generalize beh m k n = X at *
      by_cases hlt2 : k < n
      · have g1 : decide ((k : Int) < (n : Int)) = true := decide_eq_true (by omega)
        obtain ⟨ga, rfl, gal, z1⟩ := hMk.mA.cell (by omega)
        have z2 := cell_regrown ((z1 k hlt2 2 (by decide)).trans rfl)
        have xx3 := cell_regrown ((x1 k hlt2 3 (by decide)).trans rfl)
        clear x1 x2 hf hMk hq z1 y0 y1 y2 y3 y4 y6 y7 y8
        go_upto_region 4 with fail
        refine wp_region_quiet_below (by kernel_rfl) (by kernel_rfl) ?_
        repeat (quiet_step (first | exact c1 _ _))
        refine wpQuiet_nil ?_
        intro w8 hw'
        obtain ⟨⟨dq, osq⟩, hw''⟩ := hw'
        have HB8 : Hid (Below W1.heap.size W1 w8) := by rw [hw'']; exact HR.out.trans ((below_regrown wr dq osq).mono HR.out.size)
        clear hw'' c1 kf z2 xx3 k0 k1 k2 k3 k4 k5 k6 k7 k8 y5
        go_wp2
        go_roundw
        case rel => exact ⟨k + 1, by omega, by go_num, HB8.out⟩
        case measure => simp [intOf]; omega
      · have g1 : decide ((k : Int) < (n : Int)) = false := decide_eq_false (by omega)
        clear x1 x2 hf hMk hq  y0 y1 y2 y3 y4 y6 y7 y8
        go_upto_region 4 with fail
        refine wp_region_quiet_below (by kernel_rfl) (by kernel_rfl) ?_
        repeat (refine wpQuiet_step (fun K hK => ?_); (try (rw [← hA0]; clear hA0)); go_simp; (try (rw [if_neg]; rotate_left; (intro h; cases h))); first | (generalize hA0 : (⟨_, _⟩ : Act) = A0; refine hK A0 ?_; clear hK K) | (apply Exists.intro; refine ⟨fun _ => ?_, hK _ ?_⟩; (exact c1 _ _); clear hK K))
        refine wpQuiet_nil ?_
        rw [← hA0]
        clear hA0
        intro w8 hw'
        obtain ⟨⟨dq, osq⟩, hw''⟩ := hw'
        have HB8 : Hid (Below W1.heap.size W1 w8) := by rw [hw'']; exact HR.out.trans ((below_regrown wr dq osq).mono HR.out.size)
        clear hw'' c1 kf  k0 k1 k2 k3 k4 k5 k6 k7 k8 y5
        go_wp2
        go_roundw
        case rel => exact ⟨k + 1, by omega, by go_num, HB8.out⟩
        case measure => simp [intOf]; omega
    · have hdone := hlt
      clear hq hMk
      have HR0 := HR
      clear HR
      go_wp2
      clear y5 yl hlt hk hdone
      go_loopw [4] (fun i wr => ∃ k : Nat, k ≤ nh + 64 ∧ i = .int .i64 k ∧ Hid (Below W1.heap.size W1 wr)) (fun i _ => nh + 64 - (intOf i).toNat)
      case atStart => exact ⟨0, by omega, rfl, HR0.out⟩
      case round =>
        clear HR0
        obtain ⟨k, hk, rfl, HR⟩ := hrel
        obtain ⟨hq, hMk⟩ := HN.out wr HR.out
        have y6 := block_cell hq 6
        have yl := block_lt hq
        simp at y6
        by_cases hlt : k < nh + 64
        · obtain ⟨gx, rfl, gxl, x1, x2⟩ := hMk.xH.cell
          have y0 := block_cell hq 0
          have y1 := block_cell hq 1
          have y2 := block_cell hq 2
          have y3 := block_cell hq 3
          have y4 := block_cell hq 4
          have y5 := block_cell hq 5
          have y7 := block_cell hq 7
          have y8 := block_cell hq 8
          simp at y0 y1 y2 y3 y4 y5 y7 y8
          have k0 := cell_regrown y0
          have k1 := cell_regrown y1
          have k2 := cell_regrown y2
          have k3 := cell_regrown y3
          have k4 := cell_regrown y4
          have k5 := cell_regrown y5
          have k6 := cell_regrown y6
          have k7 := cell_regrown y7
          have k8 := cell_regrown y8
          have hf : wr.cell? ⟨gx, k * 3, none⟩ = some (.int .u64 (beh m k nh : Nat)) := by
            by_cases h : k < nh
            · rw [show beh m k nh = m from if_pos h]
              exact x1 k h 0 (by decide)
            · exact x2 k (by omega) hlt
          have kf := cell_regrown hf
          have c1 : ∀ d os, Calls Try.prog 40 #[.agg #[.int .u64 T0, .int .u64 T1, .slice ao n cap, .slice ho nh hcap, .slice jo nj jcap, .slice xa (n + 64) xac, .slice (some ⟨gx, 0, none⟩) (nh + 64) xhc, .slice xj (nj + 64) xjc, .int .u64 (m : Nat)], .int .i64 (k : Nat), .int .i64 (nh : Nat)] (grow (redrawn wr d) os) fun e w'' => e = .returned (.int .u64 (beh m k nh : Nat)) ∧ ∃ p : Regrown, w'' = grow (redrawn wr p.d) p.os := fun d os => Calls.regrown_of (behindC T0 T1 _ _ _ _ _ _ m k nh hm hlt)
          generalize beh m k nh = X at *
          by_cases hlt2 : k < nh
          · have g1 : decide ((k : Int) < (nh : Int)) = true := decide_eq_true (by omega)
            obtain ⟨ga, rfl, gal, z1⟩ := hMk.mH.cell (by omega)
            have z2 := cell_regrown ((z1 k hlt2 2 (by decide)).trans rfl)
            clear x1 x2 hf hMk hq z1 y0 y1 y2 y3 y4 y5 y7 y8
            go_upto_region 9 with fail
            refine wp_region_quiet_below (by kernel_rfl) (by kernel_rfl) ?_
            repeat (quiet_step (first | exact c1 _ _))
            refine wpQuiet_nil ?_
            intro w8 hw'
            obtain ⟨⟨dq, osq⟩, hw''⟩ := hw'
            have HB8 : Hid (Below W1.heap.size W1 w8) := by rw [hw'']; exact HR.out.trans ((below_regrown wr dq osq).mono HR.out.size)
            clear hw'' c1 kf z2  k0 k1 k2 k3 k4 k5 k6 k7 k8 y6
            go_wp2
            go_roundw
            case rel => exact ⟨k + 1, by omega, by go_num, HB8.out⟩
            case measure => simp [intOf]; omega
          · have g1 : decide ((k : Int) < (nh : Int)) = false := decide_eq_false (by omega)
            clear x1 x2 hf hMk hq  y0 y1 y2 y3 y4 y5 y7 y8
            go_upto_region 9 with fail
            refine wp_region_quiet_below (by kernel_rfl) (by kernel_rfl) ?_
            repeat (refine wpQuiet_step (fun K hK => ?_); (try (rw [← hA0]; clear hA0)); go_simp; (try (rw [if_neg]; rotate_left; (intro h; cases h))); first | (generalize hA0 : (⟨_, _⟩ : Act) = A0; refine hK A0 ?_; clear hK K) | (apply Exists.intro; refine ⟨fun _ => ?_, hK _ ?_⟩; (exact c1 _ _); clear hK K))
            refine wpQuiet_nil ?_
            rw [← hA0]
            clear hA0
            intro w8 hw'
            obtain ⟨⟨dq, osq⟩, hw''⟩ := hw'
            have HB8 : Hid (Below W1.heap.size W1 w8) := by rw [hw'']; exact HR.out.trans ((below_regrown wr dq osq).mono HR.out.size)
            clear hw'' c1 kf  k0 k1 k2 k3 k4 k5 k6 k7 k8 y6
            go_wp2
            go_roundw
            case rel => exact ⟨k + 1, by omega, by go_num, HB8.out⟩
            case measure => simp [intOf]; omega
        · have hdone := hlt
          clear hq hMk
          have HR0 := HR
          clear HR
          go_wp2
          clear y6 yl hlt hk hdone
          go_loopw [5] (fun i wr => ∃ k : Nat, k ≤ nj + 64 ∧ i = .int .i64 k ∧ Hid (Below W1.heap.size W1 wr)) (fun i _ => nj + 64 - (intOf i).toNat)
          case atStart => exact ⟨0, by omega, rfl, HR0.out⟩
          case round =>
            clear HR0
            obtain ⟨k, hk, rfl, HR⟩ := hrel
            obtain ⟨hq, hMk⟩ := HN.out wr HR.out
            have y7 := block_cell hq 7
            have yl := block_lt hq
            simp at y7
            by_cases hlt : k < nj + 64
            · obtain ⟨gx, rfl, gxl, x1, x2⟩ := hMk.xJ.cell
              have y0 := block_cell hq 0
              have y1 := block_cell hq 1
              have y2 := block_cell hq 2
              have y3 := block_cell hq 3
              have y4 := block_cell hq 4
              have y5 := block_cell hq 5
              have y6 := block_cell hq 6
              have y8 := block_cell hq 8
              simp at y0 y1 y2 y3 y4 y5 y6 y8
              have k0 := cell_regrown y0
              have k1 := cell_regrown y1
              have k2 := cell_regrown y2
              have k3 := cell_regrown y3
              have k4 := cell_regrown y4
              have k5 := cell_regrown y5
              have k6 := cell_regrown y6
              have k7 := cell_regrown y7
              have k8 := cell_regrown y8
              have hf : wr.cell? ⟨gx, k * 5, none⟩ = some (.int .u64 (beh m k nj : Nat)) := by
                by_cases h : k < nj
                · rw [show beh m k nj = m from if_pos h]
                  exact x1 k h 0 (by decide)
                · exact x2 k (by omega) hlt
              have kf := cell_regrown hf
              have c1 : ∀ d os, Calls Try.prog 40 #[.agg #[.int .u64 T0, .int .u64 T1, .slice ao n cap, .slice ho nh hcap, .slice jo nj jcap, .slice xa (n + 64) xac, .slice xh (nh + 64) xhc, .slice (some ⟨gx, 0, none⟩) (nj + 64) xjc, .int .u64 (m : Nat)], .int .i64 (k : Nat), .int .i64 (nj : Nat)] (grow (redrawn wr d) os) fun e w'' => e = .returned (.int .u64 (beh m k nj : Nat)) ∧ ∃ p : Regrown, w'' = grow (redrawn wr p.d) p.os := fun d os => Calls.regrown_of (behindC T0 T1 _ _ _ _ _ _ m k nj hm hlt)
              generalize beh m k nj = X at *
              by_cases hlt2 : k < nj
              · have g1 : decide ((k : Int) < (nj : Int)) = true := decide_eq_true (by omega)
                obtain ⟨ga, rfl, gal, z1⟩ := hMk.mJ.cell (by omega)
                have z2 := cell_regrown ((z1 k hlt2 2 (by decide)).trans rfl)
                clear x1 x2 hf hMk hq z1 y0 y1 y2 y3 y4 y5 y6 y8
                go_upto_region 14 with fail
                refine wp_region_quiet_below (by kernel_rfl) (by kernel_rfl) ?_
                repeat (quiet_step (first | exact c1 _ _))
                refine wpQuiet_nil ?_
                intro w8 hw'
                obtain ⟨⟨dq, osq⟩, hw''⟩ := hw'
                have HB8 : Hid (Below W1.heap.size W1 w8) := by rw [hw'']; exact HR.out.trans ((below_regrown wr dq osq).mono HR.out.size)
                clear hw'' c1 kf z2  k0 k1 k2 k3 k4 k5 k6 k7 k8 y7
                go_wp2
                go_roundw
                case rel => exact ⟨k + 1, by omega, by go_num, HB8.out⟩
                case measure => simp [intOf]; omega
              · have g1 : decide ((k : Int) < (nj : Int)) = false := decide_eq_false (by omega)
                clear x1 x2 hf hMk hq  y0 y1 y2 y3 y4 y5 y6 y8
                go_upto_region 14 with fail
                refine wp_region_quiet_below (by kernel_rfl) (by kernel_rfl) ?_
                repeat (refine wpQuiet_step (fun K hK => ?_); (try (rw [← hA0]; clear hA0)); go_simp; (try (rw [if_neg]; rotate_left; (intro h; cases h))); first | (generalize hA0 : (⟨_, _⟩ : Act) = A0; refine hK A0 ?_; clear hK K) | (apply Exists.intro; refine ⟨fun _ => ?_, hK _ ?_⟩; (exact c1 _ _); clear hK K))
                refine wpQuiet_nil ?_
                rw [← hA0]
                clear hA0
                intro w8 hw'
                obtain ⟨⟨dq, osq⟩, hw''⟩ := hw'
                have HB8 : Hid (Below W1.heap.size W1 w8) := by rw [hw'']; exact HR.out.trans ((below_regrown wr dq osq).mono HR.out.size)
                clear hw'' c1 kf  k0 k1 k2 k3 k4 k5 k6 k7 k8 y7
                go_wp2
                go_roundw
                case rel => exact ⟨k + 1, by omega, by go_num, HB8.out⟩
                case measure => simp [intOf]; omega
            · have hdone := hlt
              clear hq hMk
              have HR0 := HR
              clear HR
              go_wp2
              refine bodyPost_ret (v := .bool true) (by simp [results, Try.results15, go_sem]) rfl ⟨rfl, HL.out HB1.out _ HR0.out⟩
end Go.Proofs.Ytcfenjpdjogmdaa
