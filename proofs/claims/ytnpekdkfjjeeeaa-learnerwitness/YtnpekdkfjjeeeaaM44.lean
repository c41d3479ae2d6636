import Derived.Test.YtnpekdkfjjeeeaaM43
import Derived.Test.YtnpekdkfjjeeeaaBAs
namespace Go.Proofs.Ytnpekdkfjjeeeaa
open Go.RowKit Crc

set_option maxRecDepth 10000 in
set_option maxHeartbeats 1600000 in
theorem twin_any {w : World} (st : Nat) (hst : st < 18446744073709551616) {ro : Option Addr} {rs : List Rq} {b off : Nat} (n rc : Nat) (hn : rs.length = n) (h : Rqs w.heap.size w ro rs b off) :
    Calls Try.prog 21 #[.agg #[.int .u64 (st : Nat), .slice ro n rc]] w fun e w' => ∃ ao m cap, e = .returned (.agg #[.int .u64 (st : Nat), .slice ao m cap]) ∧ Hid (BtOk w' st (.slice ao m cap) (rs.map Rq.val) ∧ Below w.heap.size w w') := by
  obtain ⟨i0, hi, hz0, hz1, hz2⟩ := info_parts infoReq
  obtain ⟨j0, hj, hy0, hy1, hy2⟩ := info_parts Try.info5
  have hle := h.le
  rw [hn] at hle
  have HST := hide hst
  have HRS := hide h
  have HN := hide hn
  clear h hn hst
  obtain ⟨W2, hW2⟩ : ∃ W2, (w.alloc (.cells #[.int .u64 (st : Nat), .slice ro n rc] 40)).alloc (.cells #[.int .u64 0, .slice none 0 0] 40) = W2 := ⟨_, rfl⟩
  have s2 : W2.heap.size = w.heap.size + 2 := by rw [← hW2]; simp
  have HW : Hid (Below w.heap.size w W2 ∧ W2.heap[w.heap.size]? = some (.cells #[.int .u64 (st : Nat), .slice ro n rc] 40 (0, 0)) ∧ W2.heap[w.heap.size + 1]? = some (.cells #[.int .u64 0, .slice none 0 0] 40 (0, 0)) ∧ Tw w W2 rs 0 (.slice none 0 0) [] W2) := by
    have e1 : (w.alloc (.cells #[.int .u64 (st : Nat), .slice ro n rc] 40)).heap.size = w.heap.size + 1 := by simp
    refine ⟨?_, ?_, ?_, ⟨Below.refl _ _, World.ownsRow_nil _ _ _ _, rfl, by simp, fun r hr => by simp at hr⟩⟩
    · rw [← hW2]; exact (below_alloc1 w _).alloc (by simp) _
    · rw [← hW2]; exact ((World.grownBy_alloc _ _ none).block _ (by simp) (by simp)).trans (alloc_atK w _)
    · rw [← hW2, ← e1]; exact alloc_atK _ _
  have HW2 := hide hW2
  clear hW2
  have x1 := block_cell HW.out.2.1 1
  simp at x1
  go_enter Try.func21, Try.ntmps21
  go_upto_region 1 with fail
  rw [HW2.out]
  clear HW2
  go_wp2
  clear x1
  go_loopw [3, 5, 9] (fun v p i wr => ∃ k : Nat, k ≤ n ∧ i = .int .i64 k ∧ ∃ rs1, Hid (Tw w W2 rs k v rs1 wr)) (fun _ _ i _ => n - (intOf i).toNat)
  case atStart => exact ⟨0, by omega, rfl, [], HW.out.2.2.2⟩
  case round =>
    obtain ⟨k, hk, rfl, rs1, HT⟩ := hrel
    generalize u3 = v at *
    have hsz : w.heap.size + 2 ≤ wr.heap.size := by have := HT.out.bel.size; omega
    have hBS : Hid (W2.heap.size ≤ wr.heap.size) := HT.out.bel.size
    have HBW : Hid (Below w.heap.size w wr) := HW.out.1.trans (HT.out.bel.mono (by omega))
    by_cases hlt : k < n
    · obtain ⟨r, hr, hd, hok, hbl, rfl, c0, c1, c2⟩ := (HRS.out.below HBW.out).get (k := k) (by have := HN.out; omega)
      obtain ⟨cl, sq, co, cn, cc, C⟩ := r
      simp only at c0 c1 c2
      have HR := hide hr
      have HOK := hide hok
      have hbl' : b < wr.heap.size := by have := HBW.out.size; omega
      clear hr hd hok hbl
      have HQ0 : Hid (∀ o, (wr.alloc o).heap[wr.heap.size]? = some o) := fun o => alloc_atK wr o
      by_cases hcn : cn = 0
      · subst hcn
        have HC0 : Hid (C = []) := List.eq_nil_of_length_eq_zero HOK.out.hC.1.symm
        have HAN := hide (fun wx => append_none_run none co 0 0 cc (Nat.le_refl _) wx)
        go_upto_region 5 with fail
        obtain ⟨w1, hw1⟩ : ∃ w1, wr.alloc (.cells #[.int .u64 (cl : Int), .int .u64 (sq : Int), .slice co 0 cc] 66) = w1 := ⟨_, rfl⟩
        have G1 : Hid ((wr.alloc (.cells #[.int .u64 (cl : Int), .int .u64 (sq : Int), .slice co 0 cc] 66)).grownBy w1 none) := by rw [hw1]; exact ⟨rfl, rfl, rfl, Nat.le_refl _, fun _ _ _ => rfl⟩
        have G01 : Hid (wr.grownBy w1 none) := grown_trans (World.grownBy_alloc wr _ none) G1.out
        have HQ : Hid (w1.heap[wr.heap.size]? = some (.cells #[.int .u64 (cl : Int), .int .u64 (sq : Int), .slice co 0 cc] 66 (0, 0))) := by rw [← hw1]; exact alloc_atK _ _
        have hs1 : wr.heap.size < w1.heap.size := block_lt HQ.out
        have HCQ : Hid (Cq W2.heap.size w1 ⟨cl, sq, none, 0, 0, C⟩) := ⟨HOK.out.hc, HOK.out.hs, by rw [HC0.out]; exact Owns.nil _ _, by rw [HC0.out]; rfl⟩
        rw [hw1]
        clear hw1 c0 c1 c2
        have q0 := block_cell HQ.out 0
        have q1 := block_cell HQ.out 1
        have q2 := block_cell HQ.out 2
        have f2 := block_free HQ.out 2
        simp at q0 q1 q2
        go_upto_region 6 with (at_builtin; refine wpList_append_nothing rfl _ _ 42 rfl _ _ rfl rfl (HAN.out _) ?_)
        have HOW : Hid (∀ o, ((w1.setCell ⟨wr.heap.size, 2, none⟩ (.slice none 0 0)).alloc o).ownsRow W2.heap.size 66 3 v k (rcells rs1)) := fun o => by
          have r1 := row_quiet HT.out.row G01.out
          have hvq : v.ownBlock ≠ some wr.heap.size := fun e => by have := (HT.out.row.lt _ e).2; omega
          exact row_quiet (r1.kept (grown_set _ _ _ _) (.inr hvq)) (World.grownBy_alloc _ _ none)
        have HNW : Hid (∀ (j : Nat) (u : Value), [Value.int .u64 (cl : Int), .int .u64 (sq : Int), (.slice none 0 0)][j]? = some u → ((w1.setCell ⟨wr.heap.size, 2, none⟩ (.slice none 0 0)).alloc (.cells #[.int .u64 (cl : Int), .int .u64 (sq : Int), (.slice none 0 0)] 66)).cell? (Addr.add ⟨w1.heap.size, 0, none⟩ j) = some u) := by
          have h := cell_req_new (w1.setCell ⟨wr.heap.size, 2, none⟩ (.slice none 0 0)) (.int .u64 (cl : Int)) (.int .u64 (sq : Int)) (.slice none 0 0) 66
          rw [show (w1.setCell ⟨wr.heap.size, 2, none⟩ (.slice none 0 0)).heap.size = w1.heap.size by simp] at h
          exact h
        have HNX : Hid (∀ (v' : Value) (w2 : World) (o2 : Obj), w2.ownsRow W2.heap.size 66 3 v' (k + 1) (rcells (rs1 ++ [⟨cl, sq, none, 0, 0, C⟩])) → ((w1.setCell ⟨wr.heap.size, 2, none⟩ (.slice none 0 0)).alloc o2).grownBy w2 v.ownBlock → Tw w W2 rs (k + 1) v' (rs1 ++ [⟨cl, sq, none, 0, 0, C⟩]) w2) := fun v' w2 o2 ho hg =>
          Tw.next (r1 := ⟨cl, sq, none, 0, 0, C⟩) HT.out HR.out G1.out HQ.out HCQ.out rfl ho hg
        go_wp2_with (at_builtin; refine wpList_append_own _ rfl (.tmp 17) (.tmp 19) 38 rfl W2.heap.size 66 i0 (.agg #[.int .u64 0, .int .u64 0, .slice none 0 0]) 3 40 Try.underlying38 hi hz0 hz1 hz2 rfl (by decide) v k (rcells rs1) rfl (HOW.out _) ⟨w1.heap.size, 0, none⟩ 1 1 [.int .u64 (cl : Int), .int .u64 (sq : Int), (.slice none 0 0)] rfl rfl HNW.out (by simp [Value.oneCell']) (by unfold maxLen; omega) (by omega) (by simp; omega) ?_; intro v' w2 ho hg _; have HC2 := hide (HNX.out _ _ _ (by rw [rcells_snoc]; exact ho) hg); obtain ⟨g', cap', rfl⟩ := ownsRow_succ ho; clear ho hg)
        go_roundw
        case rel => exact ⟨k + 1, by omega, by go_num, _, HC2.out⟩
        case measure => simp [intOf]; omega
      · have hpos : 0 < cn := by omega
        obtain ⟨s1, s2', s3, s4, cb, coff, s5, s6, s7⟩ := HOK.out.hC
        obtain rfl := s5 hpos
        have hcb : cb < wr.heap.size := by have := s6 hpos; have := HBW.out.size; omega
        have HS7 : Hid (∀ W, wr.grownBy W none → ∀ j u, (vals C)[j]? = some u → W.cell? ((⟨cb, coff, none⟩ : Addr).add j) = some u) := fun W hg j u hj => hg.cell (vals_cell (fun i hi => s7 i (by rw [s1]; exact hi)) j u hj) (by simp)
        have HCL : Hid (cn = C.length) := s1
        have HC256 : Hid (∀ x ∈ C, x < 256) := s4
        have s3' : cn ≤ 140737488355328 := s3
        clear s1 s2' s3 s4 s5 s6 s7
        go_upto_region 5 with fail
        obtain ⟨w0, hw0⟩ : ∃ w0, wr.alloc (.cells #[.int .u64 (cl : Int), .int .u64 (sq : Int), .slice (some ⟨cb, coff, none⟩) cn cc] 66) = w0 := ⟨_, rfl⟩
        have G00 : Hid (wr.grownBy w0 none) := by rw [← hw0]; exact World.grownBy_alloc wr _ none
        have HQ0' : Hid (w0.heap[wr.heap.size]? = some (.cells #[.int .u64 (cl : Int), .int .u64 (sq : Int), .slice (some ⟨cb, coff, none⟩) cn cc] 66 (0, 0))) := by rw [← hw0]; exact alloc_atK _ _
        have HW0 := hide hw0
        rw [hw0]
        clear hw0 c0 c1 c2
        have q0 := block_cell HQ0'.out 0
        have q1 := block_cell HQ0'.out 1
        have q2 := block_cell HQ0'.out 2
        have f2 := block_free HQ0'.out 2
        simp at q0 q1 q2
        have hs0 : wr.heap.size < w0.heap.size := block_lt HQ0'.out
        have hb0 : Hid (W2.heap.size ≤ w0.heap.size) := by have := hBS.out; show _ ≤ _; omega
        have hlv : (vals C).length = cn := by rw [vals_len]; exact HCL.out.symm
        have HMK : Hid (∀ v5 w1, w1.ownsRow W2.heap.size 5 1 v5 (0 + cn) ([] ++ vals C) → Ext w0 w1 (.slice none 0 0) v5 → ∃ g5 cap5, v5 = .slice (some ⟨g5, 0, none⟩) cn cap5 ∧ Hid (w0.grownBy w1 none ∧ Cq W2.heap.size w1 ⟨cl, sq, some ⟨g5, 0, none⟩, cn, cap5, C⟩)) := by
          intro v5 w1 ho5 hx5
          rw [List.nil_append, Nat.zero_add] at ho5
          obtain ⟨g5, cap5, hv5, _⟩ := own_shape ho5 hpos
          subst hv5
          refine ⟨g5, cap5, rfl, hx5.1, HOK.out.hc, HOK.out.hs, ⟨?_, HC256.out, by have := HCL.out; show C.length ≤ _; omega⟩, HCL.out⟩
          rw [← HCL.out]
          exact ho5
        go_upto_region 6 with (at_builtin; refine wpList_append_ext _ rfl _ _ 42 rfl W2.heap.size 5 j0 (.int .u8 0) Try.underlying42 hj hy0 hy1 hy2 rfl (.slice none 0 0) 0 [] rfl (World.ownsRow_nil _ _ _ _) ⟨cb, coff, none⟩ cn cc (vals C) rfl hlv (HS7.out _ G00.out) (vals_one' C) hpos (by omega) hb0.out ?_; intro v5 w1 ho5 hx5; obtain ⟨g5, cap5, hv5, G5⟩ := HMK.out v5 w1 ho5 hx5; clear ho5 hx5; subst hv5; clear q0 q1 q2 f2; have HQ : Hid (w1.heap[wr.heap.size]? = some (.cells #[.int .u64 (cl : Int), .int .u64 (sq : Int), .slice (some ⟨cb, coff, none⟩) cn cc] 66 (0, 0))) := (G5.out.1.block _ hs0 (by simp)).trans HQ0'.out; have hs1 : wr.heap.size < w1.heap.size := block_lt HQ.out; have q0 := block_cell HQ.out 0; have q1 := block_cell HQ.out 1; have q2 := block_cell HQ.out 2; have f2 := block_free HQ.out 2; simp at q0 q1 q2)
        have G1 : Hid ((wr.alloc (.cells #[.int .u64 (cl : Int), .int .u64 (sq : Int), .slice (some ⟨cb, coff, none⟩) cn cc] 66)).grownBy w1 none) := by rw [HW0.out]; exact G5.out.1
        have G01 : Hid (wr.grownBy w1 none) := grown_trans G00.out G5.out.1
        have HCQ := hide G5.out.2
        clear HW0
        have HOW : Hid (∀ o, ((w1.setCell ⟨wr.heap.size, 2, none⟩ (.slice (some ⟨g5, 0, none⟩) cn cap5)).alloc o).ownsRow W2.heap.size 66 3 v k (rcells rs1)) := fun o => by
          have r1 := row_quiet HT.out.row G01.out
          have hvq : v.ownBlock ≠ some wr.heap.size := fun e => by have := (HT.out.row.lt _ e).2; omega
          exact row_quiet (r1.kept (grown_set _ _ _ _) (.inr hvq)) (World.grownBy_alloc _ _ none)
        have HNW : Hid (∀ (j : Nat) (u : Value), [Value.int .u64 (cl : Int), .int .u64 (sq : Int), (.slice (some ⟨g5, 0, none⟩) cn cap5)][j]? = some u → ((w1.setCell ⟨wr.heap.size, 2, none⟩ (.slice (some ⟨g5, 0, none⟩) cn cap5)).alloc (.cells #[.int .u64 (cl : Int), .int .u64 (sq : Int), (.slice (some ⟨g5, 0, none⟩) cn cap5)] 66)).cell? (Addr.add ⟨w1.heap.size, 0, none⟩ j) = some u) := by
          have h := cell_req_new (w1.setCell ⟨wr.heap.size, 2, none⟩ (.slice (some ⟨g5, 0, none⟩) cn cap5)) (.int .u64 (cl : Int)) (.int .u64 (sq : Int)) (.slice (some ⟨g5, 0, none⟩) cn cap5) 66
          rw [show (w1.setCell ⟨wr.heap.size, 2, none⟩ (.slice (some ⟨g5, 0, none⟩) cn cap5)).heap.size = w1.heap.size by simp] at h
          exact h
        have HNX : Hid (∀ (v' : Value) (w2 : World) (o2 : Obj), w2.ownsRow W2.heap.size 66 3 v' (k + 1) (rcells (rs1 ++ [⟨cl, sq, (some ⟨g5, 0, none⟩), cn, cap5, C⟩])) → ((w1.setCell ⟨wr.heap.size, 2, none⟩ (.slice (some ⟨g5, 0, none⟩) cn cap5)).alloc o2).grownBy w2 v.ownBlock → Tw w W2 rs (k + 1) v' (rs1 ++ [⟨cl, sq, (some ⟨g5, 0, none⟩), cn, cap5, C⟩]) w2) := fun v' w2 o2 ho hg =>
          Tw.next (r1 := ⟨cl, sq, (some ⟨g5, 0, none⟩), cn, cap5, C⟩) HT.out HR.out G1.out HQ.out HCQ.out rfl ho hg
        go_wp2_with (at_builtin; refine wpList_append_own _ rfl (.tmp 17) (.tmp 19) 38 rfl W2.heap.size 66 i0 (.agg #[.int .u64 0, .int .u64 0, .slice none 0 0]) 3 40 Try.underlying38 hi hz0 hz1 hz2 rfl (by decide) v k (rcells rs1) rfl (HOW.out _) ⟨w1.heap.size, 0, none⟩ 1 1 [.int .u64 (cl : Int), .int .u64 (sq : Int), (.slice (some ⟨g5, 0, none⟩) cn cap5)] rfl rfl HNW.out (by simp [Value.oneCell']) (by unfold maxLen; omega) (by omega) (by simp; omega) ?_; intro v' w2 ho hg _; have HC2 := hide (HNX.out _ _ _ (by rw [rcells_snoc]; exact ho) hg); obtain ⟨g', cap', rfl⟩ := ownsRow_succ ho; clear ho hg)
        go_roundw
        case rel => exact ⟨k + 1, by omega, by go_num, _, HC2.out⟩
        case measure => simp [intOf]; omega
    · obtain rfl : k = n := by omega
      obtain ⟨ao, cp, b', hv, hR1⟩ := HT.out.form (by omega)
      subst hv
      have HV : Hid (rs1.map Rq.val = rs.map Rq.val) := by have := HT.out.val; rwa [List.take_of_length_le (by have := HN.out; omega)] at this
      have HR1 := hide hR1
      have HB1 : Hid (wr.heap[w.heap.size]? = some (.cells #[.int .u64 (st : Nat), .slice ro k rc] 40 (0, 0))) := (HT.out.bel.block _ (by omega)).trans HW.out.2.1
      have HB2 : Hid (wr.heap[w.heap.size + 1]? = some (.cells #[.int .u64 0, .slice none 0 0] 40 (0, 0))) := (HT.out.bel.block _ (by omega)).trans HW.out.2.2.1
      clear hR1
      have y0 := block_cell HB1.out 0
      have y1 := block_cell HB1.out 1
      have z0 := block_cell HB2.out 0
      have z1 := block_cell HB2.out 1
      have f1 := block_free HB1.out 1
      have f3 := block_free HB2.out 0
      have f4 := block_free HB2.out 1
      simp at y0 y1 z0 z1
      have hne1 : ¬ w.heap.size = w.heap.size + 1 := by omega
      have hlt0 : w.heap.size < wr.heap.size := by omega
      have hlt1 : w.heap.size + 1 < wr.heap.size := by omega
      have FIN : Hid (∀ u0 u1 u2, BtOk (((wr.setCell ⟨w.heap.size, 1, none⟩ u0).setCell ⟨w.heap.size + 1, 0, none⟩ u1).setCell ⟨w.heap.size + 1, 1, none⟩ u2) st (.slice ao rs1.length cp) (rs.map Rq.val) ∧ Below w.heap.size w (((wr.setCell ⟨w.heap.size, 1, none⟩ u0).setCell ⟨w.heap.size + 1, 0, none⟩ u1).setCell ⟨w.heap.size + 1, 1, none⟩ u2)) := by
        intro u0 u1 u2
        refine ⟨⟨ao, cp, rs1, b', 0, rfl, HV.out, ?_, HST.out⟩, ((HBW.out.setCell (p := ⟨w.heap.size, 1, none⟩) (by simp) _).setCell (p := ⟨w.heap.size + 1, 0, none⟩) (by simp) _).setCell (p := ⟨w.heap.size + 1, 1, none⟩) (by simp) _⟩
        have hcells : ∀ (q j : Nat) (v : Value), W2.heap.size ≤ q → wr.cell? ⟨q, j, none⟩ = some v → (((wr.setCell ⟨w.heap.size, 1, none⟩ u0).setCell ⟨w.heap.size + 1, 0, none⟩ u1).setCell ⟨w.heap.size + 1, 1, none⟩ u2).cell? ⟨q, j, none⟩ = some v := fun q j v hq hc => by
          have g := grown_set wr w.heap.size 1 u0
          have g2 := grown_set (wr.setCell ⟨w.heap.size, 1, none⟩ u0) (w.heap.size + 1) 0 u1
          have g3 := grown_set ((wr.setCell ⟨w.heap.size, 1, none⟩ u0).setCell ⟨w.heap.size + 1, 0, none⟩ u1) (w.heap.size + 1) 1 u2
          exact g3.cell (g2.cell (g.cell hc (by simp; omega)) (by simp; omega)) (by simp; omega)
        exact HT.out.turned HR1.out (by omega) hcells (by simp)
      go_wp2
      refine bodyPost_ret (v := .agg #[.int .u64 (st : Nat), .slice ao rs1.length cp]) (by simp [results, Try.results21, go_sem, z0, z1]) rfl ⟨_, _, _, rfl, FIN.out _ _ _⟩
end Go.Proofs.Ytnpekdkfjjeeeaa
namespace Go.Proofs.Ytnpekdkfjjeeeaa
open Go.RowKit

section
variable {P : Program} {ops : Array Oper} {Q : Exit → Act → World → Prop} {S : Bool → World → Prop}

/-- As StepTo, from S to S'. -/
def StepFro (P : Program) (ops : Array Oper) (S S' : World → Prop) (aF : Act) (o : Oper) : Prop :=
  Region.wanted o (yielded ops aF.tmps) = true ∧ ∀ w, S w → ∀ K : Act → World → Prop, Hid (∀ w', S' w' → K aF w') → Oper.wp P o aF w K (fun _ _ _ => False)
/-- The operations from number k on: number j leads from S false to S true, each other keeps S. -/
def AllFro (P : Program) (ops : Array Oper) (S : Bool → World → Prop) (aF : Act) (j : Nat) : Nat → List Oper → Prop
  | _, [] => True
  | k, o :: r => (if k = j then StepFro P ops (S false) (S true) aF o else ∀ b, StepTo P ops (S b) aF o) ∧ AllFro P ops S aF j (k + 1) r
theorem AllFro.nil {aF : Act} {j k : Nat} : AllFro P ops S aF j k [] := trivial
theorem AllFro.at_ {aF : Act} {j k : Nat} {o : Oper} {r : List Oper} (e : k = j) (h : StepFro P ops (S false) (S true) aF o) (g : AllFro P ops S aF j (k + 1) r) : AllFro P ops S aF j k (o :: r) := ⟨by rw [if_pos e]; exact h, g⟩
theorem AllFro.off {aF : Act} {j k : Nat} {o : Oper} {r : List Oper} (e : k ≠ j) (h : ∀ b, StepTo P ops (S b) aF o) (g : AllFro P ops S aF j (k + 1) r) : AllFro P ops S aF j k (o :: r) := ⟨by rw [if_neg e]; exact h, g⟩
theorem AllFro.mem {aF : Act} {j : Nat} : ∀ {l : List Oper} {k : Nat} (_ : AllFro P ops S aF j k l) (i : Nat) (o : Oper), l[i]? = some o → if k + i = j then StepFro P ops (S false) (S true) aF o else ∀ b, StepTo P ops (S b) aF o
  | [], _, _, _, _, h => by simp at h
  | x :: r, k, ⟨h1, _⟩, 0, o, h => by simp at h; subst h; exact h1
  | x :: r, k, ⟨_, h2⟩, i + 1, o, h => by
    have := AllFro.mem h2 i o (by simpa using h)
    rw [show k + 1 + i = k + (i + 1) by omega] at this
    exact this
theorem any_assign1 {aF : Act} {j : Nat} (hj : j < ops.size) (hk : linOk ops = true) (hs : Region.noSelect ops = true) (hst : AllFro P ops S aF j 0 ops.toList) (hend : ∀ w, S true w → Q .normal aF w) :
    ∀ (fuel : Nat) (listed : Array Bool) (a : Act) (w : World), (unl ops listed).length ≤ fuel → listed.size = ops.size → PartAct ops aF listed a → S (listed.getD j false) w → wpAny P .any ops Q fuel listed a w := by
  intro fuel
  have fin : ∀ (listed : Array Bool) (a : Act) (w : World), listed.size = ops.size → PartAct ops aF listed a → S (listed.getD j false) w → Region.ready .any ops listed = [] → Q .normal a w := fun listed a w hsz hp hS hr => by
    have hl := ready_nil hk hsz hr
    rw [hp.full hl]
    rw [hl j _ (Array.getElem?_eq_getElem hj)] at hS
    exact hend w hS
  induction fuel with
  | zero =>
    intro listed a w hf hsz hp hS
    have h0 : unl ops listed = [] := List.eq_nil_of_length_eq_zero (by omega)
    have hr : Region.ready .any ops listed = [] := by
      cases hr : Region.ready .any ops listed with
      | nil => rfl
      | cons x r =>
        have hx := mem_ready.1 (show x ∈ Region.ready .any ops listed by rw [hr]; simp)
        obtain ⟨hx1, o, ho, _⟩ := hx
        have : x ∈ unl ops listed := List.mem_filter.2 ⟨List.mem_range.2 (Array.getElem?_eq_some_iff.1 ho).1, by rw [hx1]; rfl⟩
        rw [h0] at this
        cases this
    exact ⟨hr, fin listed a w hsz hp hS hr⟩
  | succ fuel ih =>
    intro listed a w hf hsz hp hS
    refine ⟨fin listed a w hsz hp hS, fun i hi => ?_⟩
    obtain ⟨hun, o, ho, hall⟩ := mem_ready.1 hi
    have hns := Region.noSelect_spec hs
    obtain ⟨he, hw⟩ := hp.exec hk (fun cs b => hns i o cs b ho) ho hi
    have hlt : i < ops.size := (Array.getElem?_eq_some_iff.1 ho).1
    have hil : i < listed.size := by omega
    have hso := hst.mem i o (by rw [← ho]; simp)
    rw [Nat.zero_add] at hso
    unfold wpOp
    simp only [ho]
    rw [hw]
    by_cases hij : i = j
    · rw [if_pos hij] at hso
      subst hij
      have hf0 : listed.getD i false = false := by simp [hil] at hun ⊢; exact hun
      have ht : (listed.setIfInBounds i true).getD i false = true := by simp [hil]
      rw [hf0] at hS
      rw [if_pos hso.1]
      exact .inl (wp_part (S := S true) he (hso.2 w hS (fun a' w' => a' = aF ∧ S true w') (fun w' h' => ⟨rfl, h'⟩)) (fun v w' hv hS' => ih _ _ _ (by have := unl_set hlt hun; omega) (by simpa using hsz) (hp.next ho hv) (by rw [ht]; exact hS')))
    · rw [if_neg hij] at hso
      have hb : (listed.setIfInBounds i true).getD j false = listed.getD j false := getD_set_ne false hij
      have next : ∀ v w', aF.put o.dst v = aF → S (listed.getD j false) w' → wpAny P .any ops Q fuel (listed.setIfInBounds i true) (a.put o.dst v) w' := fun v w' hv hS' =>
        ih _ _ _ (by have := unl_set hlt hun; omega) (by simpa using hsz) (hp.next ho hv) (by rw [hb]; exact hS')
      have hso' := hso (listed.getD j false)
      unfold StepTo at hso'
      split
      · rename_i hwa
        rw [if_pos hwa] at hso'
        exact .inl (wp_part (S := S (listed.getD j false)) he (hso' w hS (fun a' w' => a' = aF ∧ S (listed.getD j false) w') (fun w' h' => ⟨rfl, h'⟩)) next)
      · rename_i hwa
        rw [if_neg hwa] at hso'
        exact next undef w hso' hS
/-- As region_assign, with one operation (number j) that changes the world: S false ahead of it, S true behind it. -/
theorem region_assign1 {id : Nat} {a : Act} {w : World} (S : Bool → World → Prop) (j : Nat) (vs : List (Nat × Value)) (aF : Act) (hm : P.follows .mixedOrders = true) (hj : j < ops.size) (hk : linOk ops = true) (hs : Region.noSelect ops = true)
    (hv : (vs.all fun p => ops.any fun o => o.dst == some p.1) = true) (hF : putAll a vs = aF) (hS : S false w.drew)
    (hst : AllFro P ops S aF j 0 ops.toList) (hend : ∀ w, S true w → Q .normal aF w) : (Code.region id ops true).wp P Q a w := by
  refine wp_region_any hm (any_assign1 hj hk hs hst hend _ _ _ _ ?_ (by simp) ?_ ?_)
  · unfold unl
    exact Nat.le_trans (List.length_filter_le _ _) (by simp)
  · obtain ⟨h1, h2, h3⟩ := putAll_part vs a
    rw [hF] at h1 h2 h3
    refine ⟨h1.symm, h2.symm, fun t ht => (h3 t (fun p hp e => ?_)).symm⟩
    have h4 := List.all_eq_true.1 hv p hp
    rw [Array.any_eq_true] at h4
    obtain ⟨k, hk', h5⟩ := h4
    have h6 := ht k ops[k] (Array.getElem?_eq_getElem hk') (by rw [← e]; simpa using h5)
    simp at h6
    have := h6
    rw [Array.getElem?_replicate] at this
    split at this <;> simp at this
  · have e : (Array.replicate ops.size false).getD j false = false := by
      rw [Array.getD_eq_getD_getElem?, Array.getElem?_replicate]
      split <;> rfl
    rw [e]
    exact hS
end
end Go.Proofs.Ytnpekdkfjjeeeaa
namespace Go.Proofs.Ytnpekdkfjjeeeaa
open Go.RowKit

section
variable {P : Program} {ops : Array Oper} {Q : Exit → Act → World → Prop} {S : Bool → Bool → World → Prop}

/-- As AllFro, with two operations that change the world, the second of which waits for the first. -/
def AllFroW (P : Program) (ops : Array Oper) (S : Bool → Bool → World → Prop) (aF : Act) (j j2 : Nat) : Nat → List Oper → Prop
  | _, [] => True
  | k, o :: r => (if k = j then ∀ b, StepFro P ops (S false b) (S true b) aF o else if k = j2 then StepFro P ops (S true false) (S true true) aF o else ∀ b b2, StepTo P ops (S b b2) aF o) ∧ AllFroW P ops S aF j j2 (k + 1) r
theorem AllFroW.nil {aF : Act} {j j2 k : Nat} : AllFroW P ops S aF j j2 k [] := trivial
theorem AllFroW.at1 {aF : Act} {j j2 k : Nat} {o : Oper} {r : List Oper} (e : k = j) (h : ∀ b, StepFro P ops (S false b) (S true b) aF o) (g : AllFroW P ops S aF j j2 (k + 1) r) : AllFroW P ops S aF j j2 k (o :: r) := ⟨by rw [if_pos e]; exact h, g⟩
theorem AllFroW.at2 {aF : Act} {j j2 k : Nat} {o : Oper} {r : List Oper} (n : k ≠ j) (e : k = j2) (h : StepFro P ops (S true false) (S true true) aF o) (g : AllFroW P ops S aF j j2 (k + 1) r) : AllFroW P ops S aF j j2 k (o :: r) := ⟨by rw [if_neg n, if_pos e]; exact h, g⟩
theorem AllFroW.off {aF : Act} {j j2 k : Nat} {o : Oper} {r : List Oper} (n : k ≠ j) (e : k ≠ j2) (h : ∀ b b2, StepTo P ops (S b b2) aF o) (g : AllFroW P ops S aF j j2 (k + 1) r) : AllFroW P ops S aF j j2 k (o :: r) := ⟨by rw [if_neg n, if_neg e]; exact h, g⟩
theorem AllFroW.mem {aF : Act} {j j2 : Nat} : ∀ {l : List Oper} {k : Nat} (_ : AllFroW P ops S aF j j2 k l) (i : Nat) (o : Oper), l[i]? = some o → if k + i = j then ∀ b, StepFro P ops (S false b) (S true b) aF o else if k + i = j2 then StepFro P ops (S true false) (S true true) aF o else ∀ b b2, StepTo P ops (S b b2) aF o
  | [], _, _, _, _, h => by simp at h
  | x :: r, k, ⟨h1, _⟩, 0, o, h => by simp at h; subst h; exact h1
  | x :: r, k, ⟨_, h2⟩, i + 1, o, h => by
    have := AllFroW.mem h2 i o (by simpa using h)
    rw [show k + 1 + i = k + (i + 1) by omega] at this
    exact this
/-- Operation j2 waits for operation j. -/
def waits (ops : Array Oper) (j2 j : Nat) : Bool := match ops[j2]? with
  | none => true
  | some o => o.after.any fun e => Region.binds .any e && e.on == j
theorem any_assignW {aF : Act} {j j2 : Nat} (hj : j < ops.size) (hj2 : j2 < ops.size) (hne : j ≠ j2) (hwt : waits ops j2 j = true) (hk : linOk ops = true) (hs : Region.noSelect ops = true) (hst : AllFroW P ops S aF j j2 0 ops.toList) (hend : ∀ w, S true true w → Q .normal aF w) :
    ∀ (fuel : Nat) (listed : Array Bool) (a : Act) (w : World), (unl ops listed).length ≤ fuel → listed.size = ops.size → PartAct ops aF listed a → S (listed.getD j false) (listed.getD j2 false) w → wpAny P .any ops Q fuel listed a w := by
  intro fuel
  have fin : ∀ (listed : Array Bool) (a : Act) (w : World), listed.size = ops.size → PartAct ops aF listed a → S (listed.getD j false) (listed.getD j2 false) w → Region.ready .any ops listed = [] → Q .normal a w := fun listed a w hsz hp hS hr => by
    have hl := ready_nil hk hsz hr
    rw [hp.full hl]
    rw [hl j _ (Array.getElem?_eq_getElem hj), hl j2 _ (Array.getElem?_eq_getElem hj2)] at hS
    exact hend w hS
  induction fuel with
  | zero =>
    intro listed a w hf hsz hp hS
    have h0 : unl ops listed = [] := List.eq_nil_of_length_eq_zero (by omega)
    have hr : Region.ready .any ops listed = [] := by
      cases hr : Region.ready .any ops listed with
      | nil => rfl
      | cons x r =>
        have hx := mem_ready.1 (show x ∈ Region.ready .any ops listed by rw [hr]; simp)
        obtain ⟨hx1, o, ho, _⟩ := hx
        have : x ∈ unl ops listed := List.mem_filter.2 ⟨List.mem_range.2 (Array.getElem?_eq_some_iff.1 ho).1, by rw [hx1]; rfl⟩
        rw [h0] at this
        cases this
    exact ⟨hr, fin listed a w hsz hp hS hr⟩
  | succ fuel ih =>
    intro listed a w hf hsz hp hS
    refine ⟨fin listed a w hsz hp hS, fun i hi => ?_⟩
    obtain ⟨hun, o, ho, hall⟩ := mem_ready.1 hi
    have hns := Region.noSelect_spec hs
    obtain ⟨he, hw⟩ := hp.exec hk (fun cs b => hns i o cs b ho) ho hi
    have hlt : i < ops.size := (Array.getElem?_eq_some_iff.1 ho).1
    have hil : i < listed.size := by omega
    have hso := hst.mem i o (by rw [← ho]; simp)
    rw [Nat.zero_add] at hso
    unfold wpOp
    simp only [ho]
    rw [hw]
    by_cases hij : i = j
    · rw [if_pos hij] at hso
      subst hij
      have hf0 : listed.getD i false = false := by simp [hil] at hun ⊢; exact hun
      have ht : (listed.setIfInBounds i true).getD i false = true := by simp [hil]
      have hb : (listed.setIfInBounds i true).getD j2 false = listed.getD j2 false := getD_set_ne false hne
      rw [hf0] at hS
      have hso' := hso (listed.getD j2 false)
      rw [if_pos hso'.1]
      exact .inl (wp_part (S := S true (listed.getD j2 false)) he (hso'.2 w hS (fun a' w' => a' = aF ∧ S true (listed.getD j2 false) w') (fun w' h' => ⟨rfl, h'⟩)) (fun v w' hv hS' => ih _ _ _ (by have := unl_set hlt hun; omega) (by simpa using hsz) (hp.next ho hv) (by rw [ht, hb]; exact hS')))
    · rw [if_neg hij] at hso
      have hb1 : (listed.setIfInBounds i true).getD j false = listed.getD j false := getD_set_ne false hij
      by_cases hij2 : i = j2
      · rw [if_pos hij2] at hso
        subst hij2
        have hf0 : listed.getD i false = false := by simp [hil] at hun ⊢; exact hun
        have ht : (listed.setIfInBounds i true).getD i false = true := by simp [hil]
        have hjt : listed.getD j false = true := by
          unfold waits at hwt
          rw [ho] at hwt
          simp only [Array.any_eq_true] at hwt
          obtain ⟨x, hx, h2⟩ := hwt
          rw [Bool.and_eq_true, beq_iff_eq] at h2
          rw [← h2.2]
          exact hall _ (Array.getElem_mem hx) h2.1
        rw [hf0, hjt] at hS
        rw [if_pos hso.1]
        exact .inl (wp_part (S := S true true) he (hso.2 w hS (fun a' w' => a' = aF ∧ S true true w') (fun w' h' => ⟨rfl, h'⟩)) (fun v w' hv hS' => ih _ _ _ (by have := unl_set hlt hun; omega) (by simpa using hsz) (hp.next ho hv) (by rw [ht, hb1, hjt]; exact hS')))
      · rw [if_neg hij2] at hso
        have hb2 : (listed.setIfInBounds i true).getD j2 false = listed.getD j2 false := getD_set_ne false hij2
        have next : ∀ v w', aF.put o.dst v = aF → S (listed.getD j false) (listed.getD j2 false) w' → wpAny P .any ops Q fuel (listed.setIfInBounds i true) (a.put o.dst v) w' := fun v w' hv hS' =>
          ih _ _ _ (by have := unl_set hlt hun; omega) (by simpa using hsz) (hp.next ho hv) (by rw [hb1, hb2]; exact hS')
        have hso' := hso (listed.getD j false) (listed.getD j2 false)
        unfold StepTo at hso'
        split
        · rename_i hwa
          rw [if_pos hwa] at hso'
          exact .inl (wp_part (S := S (listed.getD j false) (listed.getD j2 false)) he (hso' w hS (fun a' w' => a' = aF ∧ S (listed.getD j false) (listed.getD j2 false) w') (fun w' h' => ⟨rfl, h'⟩)) next)
        · rename_i hwa
          rw [if_neg hwa] at hso'
          exact next undef w hso' hS
/-- As region_assign, with two operations (numbers j, j2) that change the world, the second of which waits for the first. -/
theorem region_assignW {id : Nat} {a : Act} {w : World} (S : Bool → Bool → World → Prop) (j j2 : Nat) (vs : List (Nat × Value)) (aF : Act) (hm : P.follows .mixedOrders = true) (hj : j < ops.size) (hj2 : j2 < ops.size) (hne : j ≠ j2) (hwt : waits ops j2 j = true) (hk : linOk ops = true) (hs : Region.noSelect ops = true)
    (hv : (vs.all fun p => ops.any fun o => o.dst == some p.1) = true) (hF : putAll a vs = aF) (hS : S false false w.drew)
    (hst : AllFroW P ops S aF j j2 0 ops.toList) (hend : ∀ w, S true true w → Q .normal aF w) : (Code.region id ops true).wp P Q a w := by
  refine wp_region_any hm (any_assignW hj hj2 hne hwt hk hs hst hend _ _ _ _ ?_ (by simp) ?_ ?_)
  · unfold unl
    exact Nat.le_trans (List.length_filter_le _ _) (by simp)
  · obtain ⟨h1, h2, h3⟩ := putAll_part vs a
    rw [hF] at h1 h2 h3
    refine ⟨h1.symm, h2.symm, fun t ht => (h3 t (fun p hp e => ?_)).symm⟩
    have h4 := List.all_eq_true.1 hv p hp
    rw [Array.any_eq_true] at h4
    obtain ⟨k, hk', h5⟩ := h4
    have h6 := ht k ops[k] (Array.getElem?_eq_getElem hk') (by rw [← e]; simpa using h5)
    simp at h6
    have := h6
    rw [Array.getElem?_replicate] at this
    split at this <;> simp at this
  · have e : ∀ j, (Array.replicate ops.size false).getD j false = false := fun j => by
      rw [Array.getD_eq_getD_getElem?, Array.getElem?_replicate]
      split <;> rfl
    rw [e, e]
    exact hS
end
end Go.Proofs.Ytnpekdkfjjeeeaa
namespace Go.Proofs.Ytnpekdkfjjeeeaa
open Go.RowKit

section
variable {P : Program} {ops : Array Oper} {Q : Exit → Act → World → Prop} {S : Bool → World → Prop}

/-- Each number of the list is one for which a number of acc, or an earlier one of the list, waits. -/
def preOk (ops : Array Oper) : List Nat → List Nat → Bool
  | _, [] => true
  | acc, i :: r => (acc.any fun k => match ops[k]? with | none => false | some o => o.after.any fun e => Region.binds .any e && e.on == i) && preOk ops (i :: acc) r
/-- What has been carried out has not been waiting. -/
def Shut (ops : Array Oper) (listed : Array Bool) : Prop := ∀ (i : Nat) (o : Oper), ops[i]? = some o → listed.getD i false = true → ∀ e ∈ o.after, Region.binds .any e = true → listed.getD e.on false = true
theorem shut_pre {listed : Array Bool} (hc : Shut ops listed) : ∀ (pre acc : List Nat), preOk ops acc pre = true → (∀ k ∈ acc, listed.getD k false = true) → ∀ i ∈ pre, listed.getD i false = true
  | [], _, _, _, i, hi => by cases hi
  | x :: r, acc, hp, ha, i, hi => by
    unfold preOk at hp
    rw [Bool.and_eq_true] at hp
    have hx : listed.getD x false = true := by
      obtain ⟨k, hk, h1⟩ := List.any_eq_true.1 hp.1
      cases ho : ops[k]? with
      | none => rw [ho] at h1; cases h1
      | some o =>
        rw [ho] at h1
        simp only [Array.any_eq_true] at h1
        obtain ⟨q, hq, h2⟩ := h1
        rw [Bool.and_eq_true, beq_iff_eq] at h2
        rw [← h2.2]
        exact hc k o ho (ha k hk) _ (Array.getElem_mem hq) h2.1
    rcases List.mem_cons.1 hi with rfl | hi
    · exact hx
    · exact shut_pre hc r (x :: acc) hp.2 (fun k hk => (List.mem_cons.1 hk).elim (fun e => by rw [e]; exact hx) (ha k)) i hi
/-- As AllFro; those of pre are looked at ahead of number j alone. -/
def AllPre (P : Program) (ops : Array Oper) (S : Bool → World → Prop) (aF : Act) (j : Nat) (pre : List Nat) : Nat → List Oper → Prop
  | _, [] => True
  | k, o :: r => (if k = j then StepFro P ops (S false) (S true) aF o else if pre.contains k = true then StepTo P ops (S false) aF o else ∀ b, StepTo P ops (S b) aF o) ∧ AllPre P ops S aF j pre (k + 1) r
theorem AllPre.nil {aF : Act} {j k : Nat} {pre : List Nat} : AllPre P ops S aF j pre k [] := trivial
theorem AllPre.at_ {aF : Act} {j k : Nat} {pre : List Nat} {o : Oper} {r : List Oper} (e : k = j) (h : StepFro P ops (S false) (S true) aF o) (g : AllPre P ops S aF j pre (k + 1) r) : AllPre P ops S aF j pre k (o :: r) := ⟨by rw [if_pos e]; exact h, g⟩
theorem AllPre.pre {aF : Act} {j k : Nat} {pre : List Nat} {o : Oper} {r : List Oper} (e : k ≠ j) (c : pre.contains k = true) (h : StepTo P ops (S false) aF o) (g : AllPre P ops S aF j pre (k + 1) r) : AllPre P ops S aF j pre k (o :: r) := ⟨by rw [if_neg e, if_pos c]; exact h, g⟩
theorem AllPre.off {aF : Act} {j k : Nat} {pre : List Nat} {o : Oper} {r : List Oper} (e : k ≠ j) (c : pre.contains k = false) (h : ∀ b, StepTo P ops (S b) aF o) (g : AllPre P ops S aF j pre (k + 1) r) : AllPre P ops S aF j pre k (o :: r) := ⟨by rw [if_neg e, if_neg (by rw [c]; simp)]; exact h, g⟩
theorem AllPre.mem {aF : Act} {j : Nat} {pre : List Nat} : ∀ {l : List Oper} {k : Nat} (_ : AllPre P ops S aF j pre k l) (i : Nat) (o : Oper), l[i]? = some o → if k + i = j then StepFro P ops (S false) (S true) aF o else if pre.contains (k + i) = true then StepTo P ops (S false) aF o else ∀ b, StepTo P ops (S b) aF o
  | [], _, _, _, _, h => by simp at h
  | x :: r, k, ⟨h1, _⟩, 0, o, h => by simp at h; subst h; exact h1
  | x :: r, k, ⟨_, h2⟩, i + 1, o, h => by
    have := AllPre.mem h2 i o (by simpa using h)
    rw [show k + 1 + i = k + (i + 1) by omega] at this
    exact this
theorem Shut.next {listed : Array Bool} {i : Nat} {o : Oper} (hc : Shut ops listed) (ho : ops[i]? = some o) (hil : i < listed.size) (hall : ∀ e ∈ o.after, Region.binds .any e = true → listed.getD e.on false = true) : Shut ops (listed.setIfInBounds i true) := by
  have up : ∀ k, listed.getD k false = true → (listed.setIfInBounds i true).getD k false = true := fun k hk => by
    by_cases h : i = k
    · subst h; simp [hil]
    · rw [getD_set_ne false h]; exact hk
  intro k o' ho' hl e he hb
  by_cases h : i = k
  · subst h; rw [ho] at ho'; cases ho'; exact up _ (hall e he hb)
  · rw [getD_set_ne false h] at hl; exact up _ (hc k o' ho' hl e he hb)
theorem any_assignP {aF : Act} {j : Nat} {pre : List Nat} (hj : j < ops.size) (hpre : preOk ops [j] pre = true) (hk : linOk ops = true) (hs : Region.noSelect ops = true) (hst : AllPre P ops S aF j pre 0 ops.toList) (hend : ∀ w, S true w → Q .normal aF w) :
    ∀ (fuel : Nat) (listed : Array Bool) (a : Act) (w : World), (unl ops listed).length ≤ fuel → listed.size = ops.size → Shut ops listed → PartAct ops aF listed a → S (listed.getD j false) w → wpAny P .any ops Q fuel listed a w := by
  intro fuel
  have fin : ∀ (listed : Array Bool) (a : Act) (w : World), listed.size = ops.size → PartAct ops aF listed a → S (listed.getD j false) w → Region.ready .any ops listed = [] → Q .normal a w := fun listed a w hsz hp hS hr => by
    have hl := ready_nil hk hsz hr
    rw [hp.full hl]
    rw [hl j _ (Array.getElem?_eq_getElem hj)] at hS
    exact hend w hS
  induction fuel with
  | zero =>
    intro listed a w hf hsz _ hp hS
    have h0 : unl ops listed = [] := List.eq_nil_of_length_eq_zero (by omega)
    have hr : Region.ready .any ops listed = [] := by
      cases hr : Region.ready .any ops listed with
      | nil => rfl
      | cons x r =>
        have hx := mem_ready.1 (show x ∈ Region.ready .any ops listed by rw [hr]; simp)
        obtain ⟨hx1, o, ho, _⟩ := hx
        have : x ∈ unl ops listed := List.mem_filter.2 ⟨List.mem_range.2 (Array.getElem?_eq_some_iff.1 ho).1, by rw [hx1]; rfl⟩
        rw [h0] at this
        cases this
    exact ⟨hr, fin listed a w hsz hp hS hr⟩
  | succ fuel ih =>
    intro listed a w hf hsz hc hp hS
    refine ⟨fin listed a w hsz hp hS, fun i hi => ?_⟩
    obtain ⟨hun, o, ho, hall⟩ := mem_ready.1 hi
    have hns := Region.noSelect_spec hs
    obtain ⟨he, hw⟩ := hp.exec hk (fun cs b => hns i o cs b ho) ho hi
    have hlt : i < ops.size := (Array.getElem?_eq_some_iff.1 ho).1
    have hil : i < listed.size := by omega
    have hf0 : listed.getD i false = false := by simp [hil] at hun ⊢; exact hun
    have hc' := hc.next ho hil hall
    have hso := hst.mem i o (by rw [← ho]; simp)
    rw [Nat.zero_add] at hso
    unfold wpOp
    simp only [ho]
    rw [hw]
    by_cases hij : i = j
    · rw [if_pos hij] at hso
      subst hij
      have ht : (listed.setIfInBounds i true).getD i false = true := by simp [hil]
      rw [hf0] at hS
      rw [if_pos hso.1]
      exact .inl (wp_part (S := S true) he (hso.2 w hS (fun a' w' => a' = aF ∧ S true w') (fun w' h' => ⟨rfl, h'⟩)) (fun v w' hv hS' => ih _ _ _ (by have := unl_set hlt hun; omega) (by simpa using hsz) hc' (hp.next ho hv) (by rw [ht]; exact hS')))
    · rw [if_neg hij] at hso
      have hb : (listed.setIfInBounds i true).getD j false = listed.getD j false := getD_set_ne false hij
      have next : ∀ v w', aF.put o.dst v = aF → S (listed.getD j false) w' → wpAny P .any ops Q fuel (listed.setIfInBounds i true) (a.put o.dst v) w' := fun v w' hv hS' =>
        ih _ _ _ (by have := unl_set hlt hun; omega) (by simpa using hsz) hc' (hp.next ho hv) (by rw [hb]; exact hS')
      have hso' : StepTo P ops (S (listed.getD j false)) aF o := by
        by_cases hin : pre.contains i = true
        · rw [if_pos hin] at hso
          have hjf : listed.getD j false = false := by
            cases hjl : listed.getD j false with
            | false => rfl
            | true =>
              have := shut_pre hc pre [j] hpre (fun k hk => by rw [List.mem_singleton.1 hk]; exact hjl) i (by simpa using hin)
              rw [hf0] at this
              cases this
          rw [hjf]
          exact hso
        · rw [if_neg hin] at hso
          exact hso _
      unfold StepTo at hso'
      split
      · rename_i hwa
        rw [if_pos hwa] at hso'
        exact .inl (wp_part (S := S (listed.getD j false)) he (hso' w hS (fun a' w' => a' = aF ∧ S (listed.getD j false) w') (fun w' h' => ⟨rfl, h'⟩)) next)
      · rename_i hwa
        rw [if_neg hwa] at hso'
        exact next undef w hso' hS
/-- As region_assign1; those of pre come ahead of number j, for it waits for them. -/
theorem region_assignP {id : Nat} {a : Act} {w : World} (S : Bool → World → Prop) (j : Nat) (pre : List Nat) (vs : List (Nat × Value)) (aF : Act) (hm : P.follows .mixedOrders = true) (hj : j < ops.size) (hpre : preOk ops [j] pre = true) (hk : linOk ops = true) (hs : Region.noSelect ops = true)
    (hv : (vs.all fun p => ops.any fun o => o.dst == some p.1) = true) (hF : putAll a vs = aF) (hS : S false w.drew)
    (hst : AllPre P ops S aF j pre 0 ops.toList) (hend : ∀ w, S true w → Q .normal aF w) : (Code.region id ops true).wp P Q a w := by
  refine wp_region_any hm (any_assignP hj hpre hk hs hst hend _ _ _ _ ?_ (by simp) ?_ ?_ ?_)
  · unfold unl
    exact Nat.le_trans (List.length_filter_le _ _) (by simp)
  · intro i o _ hl
    have e : (Array.replicate ops.size false).getD i false = false := by
      rw [Array.getD_eq_getD_getElem?, Array.getElem?_replicate]
      split <;> rfl
    rw [e] at hl
    cases hl
  · obtain ⟨h1, h2, h3⟩ := putAll_part vs a
    rw [hF] at h1 h2 h3
    refine ⟨h1.symm, h2.symm, fun t ht => (h3 t (fun p hp e => ?_)).symm⟩
    have h4 := List.all_eq_true.1 hv p hp
    rw [Array.any_eq_true] at h4
    obtain ⟨k, hk', h5⟩ := h4
    have h6 := ht k ops[k] (Array.getElem?_eq_getElem hk') (by rw [← e]; simpa using h5)
    simp at h6
    have := h6
    rw [Array.getElem?_replicate] at this
    split at this <;> simp at this
  · have e : (Array.replicate ops.size false).getD j false = false := by
      rw [Array.getD_eq_getD_getElem?, Array.getElem?_replicate]
      split <;> rfl
    rw [e]
    exact hS
end
end Go.Proofs.Ytnpekdkfjjeeeaa
