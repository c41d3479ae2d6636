import Derived.Test.YtkdciomijemmiaaNP
namespace Go.Proofs.Ytkdciomijemmiaa
open Go.RowKit Crc
theorem wpList_store_boxT {P : Program} {ops : Array Oper} {rest : List Oper} {op : Oper} {a : Act} {w : World} {Q : Exit → Act → World → Prop} (hgd : op.guard = none) (ty : TypeId) (x y : Operand) (ho : op.op = .store ty x y)
    (p : Nat) (C : Array Value) (t : TypeId) (hb : w.heap[p]? = some (.cells C t (0, 0))) (cs : List Value) (hx : a.eval x = .pointer (some ⟨p, 0, none⟩)) (hy : a.eval y = .agg cs.toArray)
    (hz : cs.length = C.size) (hi : (P.info? ty).map (·.size) = some cs.length) (h1 : ∀ v ∈ cs, v.oneCell' = true)
    (h : ∀ W, w.grownBy W (some p) → W.heap[p]? = some (.cells cs.toArray t (0, 0)) → wpList P ops Q rest (a.put op.dst undef) W) : wpList P ops Q (op :: rest) a w :=
  wpList_plain hgd fun _ hK => wp_store_boxT ty x y ho p C t hb cs hx hy hz hi h1 (fun W g hb => hK _ _ (h W g hb))
theorem below_box {w W : World} {o : Obj} (h : (w.alloc o).grownBy W (some w.heap.size)) : Below w.heap.size w W := by
  have hb : Below w.heap.size w (w.alloc o) := (Below.refl _ w).alloc (Nat.le_refl _) o
  exact hb.grown h hb.size (fun k e => by cases e; exact Nat.le_refl _)
theorem rem_run (a b m : Int) (hb : ¬ b = 0) (hm : Int.tmod a b = m) (w : World) : (binOp BinOp.rem 3 (.int .i64 a) (.int .i64 b)).run Try.prog w = .ok (.int .i64 m) w := by
  unfold binOp
  go_simp
theorem infoPtr : (Try.prog.info? 28).map (fun i => (i.zero, i.size, i.bytes)) = some (some (.pointer none), 1, 8) := by kernel_rfl
set_option maxRecDepth 100000 in
set_option maxHeartbeats 3200000 in
theorem turns_walk (f0 : Int) (ep0 mo0 : Nat) (hep0 : ep0 < 18446744073709551616) (hmo0 : mo0 < 18446744073709551616) {w : World} {ao : Option Addr} (n ac ob off : Nat) (hO : OpsL w ao n ob off) (cl sq : Nat) (co : Option Addr) (cn cc : Nat) (C : List Nat) (hr : (Rq.mk cl sq co cn cc C).Ok w.heap.size w) :
    Calls Try.prog 5 #[.int .i64 f0, .int .u64 (ep0 : Nat), .int .u64 (mo0 : Nat), .slice ao n ac, .agg #[.int .u64 (cl : Int), .int .u64 (sq : Int), .slice co cn cc]] w fun e w' => e = .returned (.bool true) ∧ Below w.heap.size w w' := by
  obtain ⟨i0, hi, hz0, hz1, hz2⟩ := info_parts infoPtr
  obtain ⟨q, hq4, hq⟩ := and3 f0
  obtain ⟨q3, hq3⟩ : ∃ q3 : Nat, q % 3 = q3 := ⟨_, rfl⟩
  obtain ⟨F, hF⟩ : ∃ F : Nat, 1 + q3 = F := ⟨_, rfl⟩
  have hF1 : 1 ≤ F := by omega
  have hF3 : F ≤ 3 := by omega
  have hm0 : Int.tmod (q : Int) 3 = (q3 : Int) := by rw [Int.tmod_eq_emod_of_nonneg (by omega)]; omega
  have hm1 : (1 : Int) + (q3 : Int) = (F : Int) := by omega
  have hm2 : IntKind.i64.wrap ((1 : Int) + (q3 : Int)) = (F : Int) := by rw [hm1]; exact IntWalk.i64_in _ ⟨by omega, by omega⟩
  obtain ⟨D, hD⟩ : ∃ D : Nat, 2 * F = D := ⟨_, rfl⟩
  obtain ⟨nn, hnn⟩ : ∃ nn : Nat, D + 1 = nn := ⟨_, rfl⟩
  have hd1 : (2 : Int) * (F : Int) = (D : Int) := by omega
  have hd2 : IntKind.i64.wrap ((2 : Int) * (F : Int)) = (D : Int) := by rw [hd1]; exact IntWalk.i64_in _ ⟨by omega, by omega⟩
  have hd3 : (D : Int) + 1 = (nn : Int) := by omega
  have hd4 : IntKind.i64.wrap ((D : Int) + 1) = (nn : Int) := by rw [hd3]; exact IntWalk.i64_in _ ⟨by omega, by omega⟩
  obtain ⟨x0, hx0⟩ : ∃ x0 : Nat, ep0 % 20 = x0 := ⟨_, rfl⟩
  obtain ⟨e1, he1⟩ : ∃ e1 : Nat, 1 + x0 = e1 := ⟨_, rfl⟩
  obtain ⟨y0, hy0⟩ : ∃ y0 : Nat, mo0 % 60 = y0 := ⟨_, rfl⟩
  obtain ⟨em, hem⟩ : ∃ em : Nat, e1 + y0 = em := ⟨_, rfl⟩
  have hp0 : Int.tmod (ep0 : Int) 20 = (x0 : Int) := by rw [Int.tmod_eq_emod_of_nonneg (by omega)]; omega
  have hp1 : (1 : Int) + (x0 : Int) = (e1 : Int) := by omega
  have hp2 : IntKind.u64.wrap ((1 : Int) + (x0 : Int)) = (e1 : Int) := by rw [hp1]; exact IntWalk.u64_in _ ⟨by omega, by omega⟩
  have hy1 : Int.tmod (mo0 : Int) 60 = (y0 : Int) := by rw [Int.tmod_eq_emod_of_nonneg (by omega)]; omega
  have hy2 : (e1 : Int) + (y0 : Int) = (em : Int) := by omega
  have hy3 : IntKind.u64.wrap ((e1 : Int) + (y0 : Int)) = (em : Int) := by rw [hy2]; exact IntWalk.u64_in _ ⟨by omega, by omega⟩
  have hp3 : IntKind.u64.wrap (e1 : Int) = (e1 : Int) := IntWalk.u64_in _ ⟨by omega, by omega⟩
  have hy4 : IntKind.u64.wrap (em : Int) = (em : Int) := IntWalk.u64_in _ ⟨by omega, by omega⟩
  have HC : Hid (OkC (fixC F e1 em)) := fixC_ok F (by omega) (by omega) e1 em (by omega) (by omega) (by omega) (by omega)
  have HE1 : Hid (1 ≤ e1 ∧ e1 ≤ em ∧ em ≤ 100) := ⟨by omega, by omega, by omega⟩
  have HNN : Hid ((nn : Int) = 2 * (F : Int) + 1) := by show _ = _; omega
  obtain ⟨W1, hW1⟩ : ∃ W1, w.alloc (.cells #[.int .u64 (cl : Int), .int .u64 (sq : Int), .slice co cn cc] 36) = W1 := ⟨_, rfl⟩
  have B1 : Hid (Below w.heap.size w W1) := by rw [← hW1]; exact (Below.refl _ w).alloc (Nat.le_refl _) _
  have C1 : Hid (W1.heap[w.heap.size]? = some (.cells #[.int .u64 (cl : Int), .int .u64 (sq : Int), .slice co cn cc] 36 (0, 0))) := by rw [← hW1]; exact alloc_atK _ _
  have HF := hide (fixedL F e1 em W1)
  have HZ0 : Hid (∀ V, Below W1.heap.size W1 V → Zn w (fixC F e1 em) V.heap.size #[.int .u64 (cl : Int), .int .u64 (sq : Int), .slice co cn cc] 0 (.slice none 0 0) (V.alloc (.cells (fixC F e1 em).cells 26))) := fun V hb => by
    have b2 : Below w.heap.size w V := B1.out.trans (hb.mono B1.out.size)
    have b3 : Below w.heap.size w (V.alloc (.cells (fixC F e1 em).cells 26)) := b2.alloc b2.size _
    have c2 : V.heap[w.heap.size]? = some (.cells #[.int .u64 (cl : Int), .int .u64 (sq : Int), .slice co cn cc] 36 (0, 0)) := (hb.block _ (block_lt C1.out)).trans C1.out
    refine ⟨⟨fun _ => 0, fun _ => 0, GE.nil b3 (fun b e => ?_), World.ownsRow_nil _ _ _ _⟩, alloc_atK _ _, (Below.heap_alloc _ _ _ (block_lt c2)).trans c2⟩
    have := block_lt c2
    rw [e]
    simp
    omega
  have HO := hide hO
  have HR := hide hr
  have HW1 := hide hW1
  clear hO hr hW1 hq4 hq3 hF hD hnn hx0 he1 hy0 hem B1 C1
  generalize (ep0 : Int) = epi at *
  generalize (mo0 : Int) = moi at *
  obtain ⟨ci, hci⟩ : ∃ ci : Int, (cl : Int) = ci := ⟨_, rfl⟩
  obtain ⟨si, hsi⟩ : ∃ si : Int, (sq : Int) = si := ⟨_, rfl⟩
  have HCI := hide hci
  have HSI := hide hsi
  rw [hci, hsi] at HW1 HZ0
  rw [hci, hsi]
  clear hci hsi
  go_enter Try.func5, Try.ntmps5
  go_upto_region 1 with fail
  rw [HW1.out]
  go_wp2_with fail
  refine HF.out.mono ?_
  rintro e w1 ⟨rfl, hb1⟩
  have HZ : Hid (Zn w (fixC F e1 em) w1.heap.size #[.int .u64 ci, .int .u64 si, .slice co cn cc] 0 (.slice none 0 0) (w1.alloc (.cells #[.int .i64 F, .int .i64 8, .int .u64 0, .int .u64 8, .int .u64 1, .int .u64 1, .int .u64 (e1 : Nat), .int .u64 (em : Nat), .int .u64 1099511627776, .int .u64 1099511627776] 26))) := HZ0.out w1 hb1.out
  clear HF HZ0 hb1 HW1 hm0 hm1 hm2 hd1 hd2 hd3 hd4 hp0 hp1 hp2 hp3 hy1 hy2 hy3 hy4 hq
  unfold fixC Cf.cells
  simp only
  go_upto_block 0 with fail
  generalize w1.alloc (.cells #[.int .i64 F, .int .i64 8, .int .u64 0, .int .u64 8, .int .u64 1, .int .u64 1, .int .u64 (e1 : Nat), .int .u64 (em : Nat), .int .u64 1099511627776, .int .u64 1099511627776] 26) = w2 at *
  generalize w1.heap.size = cb at *
  have HCC : Hid ((fixC F e1 em).cells = #[.int .i64 F, .int .i64 8, .int .u64 0, .int .u64 8, .int .u64 1, .int .u64 1, .int .u64 (e1 : Nat), .int .u64 (em : Nat), .int .u64 1099511627776, .int .u64 1099511627776]) := by show _ = _; rfl
  have HCE : Hid ((fixC F e1 em).f = (F : Int) ∧ (fixC F e1 em).ep = e1 ∧ (fixC F e1 em).em = em ∧ (fixC F e1 em).mn = 1099511627776) := ⟨rfl, rfl, rfl, rfl⟩
  generalize fixC F e1 em = c at *
  go_cut [14, 15, 16, 17] from 26 (fun v _ _ _ V => Hid (Zn w c cb #[.int .u64 ci, .int .u64 si, .slice co cn cc] (F + 1) v V))
  case first =>
    go_wp2
    go_loopw [14, 15, 16, 17] (fun v i _ _ wr => ∃ j : Nat, j ≤ F + 1 ∧ i = .int .i64 j ∧ Hid (Zn w c cb #[.int .u64 ci, .int .u64 si, .slice co cn cc] j v wr)) (fun _ i _ _ _ => F + 1 - (intOf i).toNat)
    case atStart => exact ⟨0, by omega, rfl, HZ.out⟩
    case round =>
      obtain ⟨j, hj, rfl, HQ⟩ := hrel
      clear HZ
      by_cases hlt : j ≤ F
      · have d1 : decide ((j : Int) ≤ (F : Int)) = true := decide_eq_true (by omega)
        have hcf := HQ.out.cf
        rw [HCC.out] at hcf
        have z0 := block_cell hcf 0
        have z1 := block_cell hcf 1
        have z2 := block_cell hcf 2
        have z3 := block_cell hcf 3
        have z4 := block_cell hcf 4
        have z5 := block_cell hcf 5
        have z6 := block_cell hcf 6
        have z7 := block_cell hcf 7
        have z8 := block_cell hcf 8
        have z9 := block_cell hcf 9
        have zl := block_lt hcf
        simp at z0 z1 z2 z3 z4 z5 z6 z7 z8 z9
        clear hcf
        have H1 := hide (newZ HQ.out HC.out (k := j) (by rw [HCE.out.1]; omega))
        rw [HCC.out] at H1
        clear HQ
        go_wp2_with fail
        refine H1.out.mono ?_
        rintro e w3 ⟨eb', xs, rfl, Q3⟩
        clear z0 z1 z2 z3 z4 z5 z6 z7 z8 z9 zl H1
        have HOW : Hid (∀ o, (w3.alloc o).ownsRow w.heap.size 28 1 u14 j xs) := fun o => (Q3.out.kept ((Below.refl _ w3).alloc (Nat.le_refl _) o)).ow
        have HSZ : Hid (∀ o, w.heap.size ≤ (w3.alloc o).heap.size) := fun o => by
          obtain ⟨_, _, g1, _⟩ := Q3.out.ge
          have := g1.bel.size
          simp
          omega
        have HNX : Hid (∀ v' w4 o, w4.ownsRow w.heap.size 28 1 v' (j + 1) (xs ++ [.pointer (some ⟨eb', 0, none⟩)]) → (w3.alloc o).grownBy w4 u14.ownBlock → Zn w c cb #[.int .u64 ci, .int .u64 si, .slice co cn cc] (j + 1) v' w4) := fun v' w4 o ho hg => (Q3.out.kept ((Below.refl _ w3).alloc (Nat.le_refl _) o)).append ho hg
        clear Q3
        go_wp2_with (at_builtin; refine wpList_append_own _ rfl (.tmp 61) (.tmp 63) 72 rfl w.heap.size 28 i0 (.pointer none) 1 8 Try.underlying72 hi hz0 hz1 hz2 rfl (by decide) u14 j xs rfl (HOW.out _) ⟨w3.heap.size, 0, none⟩ 1 1 [.pointer (some ⟨eb', 0, none⟩)] rfl rfl (cell_one_new _ _ _) (by simp [Value.oneCell']) (by unfold maxLen; omega) (by omega) (HSZ.out _) ?_; intro v' w4 ho hg _; have HC2 := hide (HNX.out _ _ _ ho hg); clear ho hg)
        go_roundw
        case rel => exact ⟨_, _, _, _, _, _, _, _, _, _, _, _, _, _, _, _, _, _, _, _, _, _, _, _, _, _, ⟨j + 1, by omega, by go_num, HC2.out⟩, rfl⟩
        case measure => simp [intOf]; omega
      · have d1 : decide ((j : Int) ≤ (F : Int)) = false := decide_eq_false (by omega)
        have : j = F + 1 := by omega
        subst this
        go_wp2
        go_meet
        case rel => exact HQ.out
  case rest =>
  clear HZ
  obtain ⟨N, hN⟩ : ∃ N : Nat, F + 1 = N := ⟨_, rfl⟩
  rw [hN] at hcut
  obtain ⟨eb, g, rb, cap, hv, hcap, hcap2, hGL⟩ := hcut.out.gl (by omega)
  subst hv
  have G0 : Hid (Gt w c N eb g rb cb #[.int .u64 ci, .int .u64 si, .slice co cn cc] (s00 c.ep) wc) := ⟨hGL, hcut.out.cf, hcut.out.rq⟩
  have HNF : Hid ((N : Int) = c.f + 1 ∧ F + 1 = N) := ⟨by rw [HCE.out.1]; omega, hN⟩
  have hN4 : N ≤ 4 := by omega
  have hN2 : 2 ≤ N := by omega
  clear hcut hGL hN
  have hrq := G0.out.rq
  have b0 := block_cell hrq 0
  have b1 := block_cell hrq 1
  have b2 := block_cell hrq 2
  have bl := block_lt hrq
  simp at b0 b1 b2
  clear hrq
  obtain ⟨gd, hgd⟩ : ∃ gd, goodR (cl, sq, C) = gd := ⟨_, rfl⟩
  have H2 := hide (refValidReq cl sq co cn cc C HR.out.hC.1 wc)
  rw [hgd, HCI.out, HSI.out] at H2
  have HGD := hide hgd
  clear hgd
  go_wp2_with fail
  refine H2.out.mono ?_
  rintro e w5 ⟨rfl, hb5⟩
  have G5 := hide (G0.out.kept hb5.out)
  clear b0 b1 b2 bl H2 hb5 G0
  cases gd with
  | false =>
    have HBE := hide G5.out.gl.bel
    go_wp2
    go_ret
    exact ⟨rfl, HBE.out⟩
  | true =>
  have G6 : Hid (Gtop w c N eb g rb cb #[.int .u64 ci, .int .u64 si, .slice co cn cc] (s00 c.ep) w5.heap.size (1, 0) (w5.alloc (.cells #[.int .u64 1, .int .i64 0] 45))) := ⟨G5.out.kept ((Below.refl _ w5).alloc (Nat.le_refl _) _), alloc_atK _ _, by obtain h := G5.out.gl.bel.size; exact h⟩
  clear G5
  go_upto_block 2 with fail
  generalize w5.alloc (.cells #[.int .u64 1, .int .i64 0] 45) = w6 at *
  generalize w5.heap.size = tb at *
  go_cut [19, 20] from 26 (fun _ _ V => Hid (∃ s, Gtop w c N eb g rb cb #[.int .u64 ci, .int .u64 si, .slice co cn cc] s tb (1, 0) V ∧ Ah N c s))
  case first =>
    have HAH : Hid (Ah N c (s00 c.ep)) := by
      refine ⟨fun i hi => ⟨Nat.le_refl _, (valid_node (Nat.le_refl _)).2 ⟨HC.out.ok.mn1, Int.le_refl _, by have := HC.out.ok.f1; show (0 : Int) < _; omega⟩⟩, fun i hi => rfl, fun i hi => rfl, fun i hi => by show 1 < 549755813888; decide⟩
    have HLE := hide HO.out.le
    go_wp2
    go_loopw [19, 20] (fun i _ wr => ∃ j : Nat, j ≤ n ∧ i = .int .i64 j ∧ Hid (∃ s, Gtop w c N eb g rb cb #[.int .u64 ci, .int .u64 si, .slice co cn cc] s tb (1, 0) wr ∧ Ah N c s)) (fun i _ _ => n - (intOf i).toNat)
    case atStart => exact ⟨0, by omega, rfl, s00 c.ep, G6.out, HAH.out⟩
    case round =>
      obtain ⟨j, hj, rfl, HQ⟩ := hrel
      clear G6 HAH
      by_cases hlt : j < n
      · have d1 : decide ((j : Int) < (n : Int)) = true := decide_eq_true (by omega)
        obtain ⟨s, hG, hA⟩ := HQ.out
        have G := hide hG
        have A := hide hA
        obtain ⟨oc, kd, cs, kind, num, node, susp, src, nw, hrg, hk⟩ := HO.out.op j hlt
        have hol := HO.out.lt (by omega)
        have had := HO.out.ad (by omega)
        subst had
        have HRG : Hid (wr.rangeAt ob (off + j * 57) oc) := fun i v hv => (hG.gt.gl.bel.cell (p := ⟨ob, _, none⟩) hol).trans (hrg i v hv)
        have HOL : Hid (ob < wr.heap.size) := Nat.lt_of_lt_of_le hol hG.gt.gl.bel.size
        have HK := hide hk
        have H57 : Hid (((Try.prog.info? 64).map (·.size)) = some oc.length) := by show _ = _; rw [hk.len]; rfl
        clear hG hA hrg hk hol HQ
        go_upto_region 18 with fail
        have hol := HOL.out
        go_upto_region 19 with (first
          | (refine wpList_load_mid rfl 64 _ rfl ob (off + j * 57) rfl oc _ HRG.out Try.underlying64 rfl H57.out ?_; simp only [Act.put, List.setIfInBounds_toArray, List.set_cons_zero, List.set_cons_succ])
          | (refine wpList_store_boxT rfl 64 _ _ rfl wr.heap.size _ _ (alloc_atK _ _) oc rfl rfl (by rw [HK.out.len]; rfl) H57.out HK.out.one ?_; intro w7 g7 c7; have B7 := hide (below_box g7); have C7 := hide c7; clear g7 c7; simp only [Act.put]))
        have G7 := hide (G.out.kept B7.out)
        clear hol HRG HOL G B7
        have hle := HLE.out
        generalize wr.heap.size = xb at *
        have z0 := blk_cellE C7.out HK.out.c0
        have z8 := blk_cellE C7.out ((HK.out.mid 1 (by decide)).trans HK.out.msg.c1)
        have zl := block_lt C7.out
        simp only [Nat.reduceAdd] at z8
        by_cases hk3 : kd = 3
        · subst hk3
          by_cases hnm : num < 549755813888
          · have d2 : decide ((num : Int) < 549755813888) = true := decide_eq_true (by omega)
            have d2' : (num : Int) < 549755813888 := by omega
            go_upto_region 20 with fail
            clear z0 z8 zl d2 d2'
            obtain ⟨m, hm⟩ : ∃ m : Nat, j % N = m := ⟨_, rfl⟩
            have hmN : m < N := by rw [← hm]; exact Nat.mod_lt _ (by omega)
            have hmod : Int.tmod (j : Int) (N : Int) = (m : Int) := by rw [Int.tmod_eq_emod_of_nonneg (by omega)]; omega
            have hN0 : ¬ (N : Int) = 0 := by omega
            have hwm : IntKind.i64.wrap (m : Int) = (m : Int) := IntWalk.i64_in _ ⟨by omega, by omega⟩
            obtain ⟨s', hs'⟩ : ∃ s', up s m (Ev.beat c (s m) src kind num node susp nw).1 = s' := ⟨_, rfl⟩
            obtain ⟨zz, hzz⟩ : ∃ zz, (Ev.beat c (s m) src kind num node susp nw).2 = zz := ⟨_, rfl⟩
            have A2 : Hid (Ah N c s') := by rw [← hs']; exact A.out.beat hmN src kind num node susp nw hnm
            obtain ⟨SD, hSD⟩ : ∃ SD : Bool → World → Prop, SD = fun d V => Gtop w c N eb g rb cb #[.int .u64 ci, .int .u64 si, .slice co cn cc] (if d = true then s' else s) tb (1, 0) V ∧ V.heap[xb]? = some (.cells oc.toArray 64 (0, 0)) := ⟨_, rfl⟩
            have KD : Hid (∀ d V, SD d V → V.cell? ⟨rb, m, none⟩ = some (.pointer (some ⟨eb m, 0, none⟩)) ∧ rb < V.heap.size ∧ V.rangeAt xb 0 oc) := fun d V h => by
              rw [hSD] at h
              exact ⟨(h.1.gt.gl.cell hmN).1, (h.1.gt.gl.cell hmN).2, range_of_block h.2⟩
            have KC : Hid (∀ V, SD false V → Calls Try.prog 20 #[.pointer (some ⟨eb m, 0, none⟩), .agg oc.toArray] V fun e V' => e = .returned (.tuple #[.bool zz, .bool true]) ∧ Hid (SD true V')) := fun V h => by
              rw [hSD] at h ⊢
              simp only [Bool.false_eq_true, if_false, if_true] at h ⊢
              refine (callG h.1.gt.gl HC.out hmN HK.out.op).mono ?_
              rintro e V' ⟨rfl, D⟩
              refine ⟨by rw [hzz], h.1.next ?_ D.out.2, D.out.2.keep _ _ _ h.2 (.inl (by unfold Tt; decide))⟩
              have := D.out.1
              rw [hs'] at this
              exact this
            have KE : Hid (∀ V, SD true V → Gtop w c N eb g rb cb #[.int .u64 ci, .int .u64 si, .slice co cn cc] s' tb (1, 0) V) := fun V h => by
              rw [hSD] at h
              exact h.1
            have X1 : Hid (SD false w7.drew) := by
              rw [hSD]
              exact ⟨G7.out.kept (Below.refl _ w7).drew, C7.out⟩
            clear hSD hs' hzz hm HK A G7 C7
            refine region_assign1 (fun d V => Hid (SD d V)) 8 [(89, .slice (some ⟨rb, 0, none⟩) N cap), (90, .int .i64 (j : Nat)), (91, .slice (some ⟨rb, 0, none⟩) N cap), (92, .int .i64 (N : Nat)), (93, .int .i64 (m : Nat)), (94, .pointer (some ⟨rb, m, none⟩)), (95, .pointer (some ⟨eb m, 0, none⟩)), (96, .agg oc.toArray), (97, .tuple #[.bool zz, .bool true])] _ (by kernel_rfl) (by decide) (by kernel_rfl) (by kernel_rfl) (by kernel_rfl) rfl X1 ?_ (fun V2 HV2 => ?_)
            · simp only [putAll, Act.put, List.setIfInBounds_toArray, List.set_cons_zero, List.set_cons_succ]
              repeat' (first | exact AllFro.nil | refine AllFro.at_ rfl ?_ ?_ | refine AllFro.off (by decide) ?_ ?_)
              all_goals first
                | (intro d
                   refine stepTo_yes (by rfl) (fun V hV K hK => ?_)
                   refine wp_load_mid 64 _ rfl xb 0 rfl oc _ (KD.out d V hV.out).2.2 Try.underlying64 rfl H57.out ?_
                   exact hK.out _ hV)
                | (intro d
                   refine stepTo_yes (by rfl) (fun V hV K hK => ?_)
                   obtain ⟨q0, q1, _⟩ := KD.out d V hV.out
                   go_simp
                   exact hK.out _ hV)
                | (intro d
                   refine stepTo_yes (by rfl) (fun V hV K hK => ?_)
                   exact op_pure (exec_bin rfl rfl rfl (by kernel_rfl) (rem_run _ _ _ hN0 hmod V)) (hK.out _ hV))
                | (refine ⟨by rfl, fun V hV K hK => ?_⟩
                   go_simp
                   go_at_call 20
                   refine (KC.out V hV.out).mono ?_
                   rintro e V' ⟨rfl, hV'⟩
                   exact hK.out _ hV')
            simp only [putAll, Act.put, List.setIfInBounds_toArray, List.set_cons_zero, List.set_cons_succ]
            have HT : Hid (∃ s, Gtop w c N eb g rb cb #[.int .u64 ci, .int .u64 si, .slice co cn cc] s tb (1, 0) V2 ∧ Ah N c s) := ⟨s', KE.out V2 HV2.out, A2.out⟩
            clear KE KC KD HV2 X1 A2 hmod hN0 hwm
            go_wp2
            exact ⟨⟨j + 1, by omega, by congr 1, HT.out⟩, by simp only [intOf]; omega⟩
          · have d2 : decide ((num : Int) < 549755813888) = false := decide_eq_false (by omega)
            have HT : Hid (∃ s, Gtop w c N eb g rb cb #[.int .u64 ci, .int .u64 si, .slice co cn cc] s tb (1, 0) w7 ∧ Ah N c s) := ⟨s, G7.out, A.out⟩
            go_wp2
            exact ⟨⟨j + 1, by omega, by congr 1, HT.out⟩, by simp only [intOf]; omega⟩
        · have d2 : (kd == 3) = false := by simp [hk3]
          have HT : Hid (∃ s, Gtop w c N eb g rb cb #[.int .u64 ci, .int .u64 si, .slice co cn cc] s tb (1, 0) w7 ∧ Ah N c s) := ⟨s, G7.out, A.out⟩
          go_wp2
          exact ⟨⟨j + 1, by omega, by congr 1, HT.out⟩, by simp only [intOf]; omega⟩
      · have d1 : decide ((j : Int) < (n : Int)) = false := decide_eq_false (by omega)
        go_wp2
        go_meet
        case rel => exact HQ.out
  case rest =>
  clear G6
  obtain ⟨s, hG, hA⟩ := hcut.out
  have G := hide hG
  have A := hide hA
  clear hcut hG hA
  go_upto_block 4 with fail
  go_cut [21, 22, 23, 24] from 26 (fun nw _ _ _ V => ∃ a : Nat, nw = .int .u64 a ∧ Hid (∃ top, Gtop w c N eb g rb cb #[.int .u64 ci, .int .u64 si, .slice co cn cc] s tb top V ∧ Tp N s a top ∧ a < 18446744073709551616))
  case first =>
    have T0 : Hid (Tp 0 s 0 (1, 0)) := ⟨fun i hi => absurd hi (by omega), fun i hi => absurd hi (by omega), .inl rfl⟩
    go_wp2
    go_loopw [21, 22, 23, 24] (fun nw lg i _ wr => ∃ j a b : Nat, j ≤ N ∧ i = .int .i64 j ∧ nw = .int .u64 a ∧ lg = .int .u64 b ∧ Hid (∃ top, Gtop w c N eb g rb cb #[.int .u64 ci, .int .u64 si, .slice co cn cc] s tb top wr ∧ Tp j s a top ∧ a < 18446744073709551616)) (fun _ _ i _ _ => N - (intOf i).toNat)
    case atStart => exact ⟨0, 0, 0, by omega, rfl, rfl, rfl, (1, 0), G.out, T0.out, by decide⟩
    case round =>
      obtain ⟨j, a, b, hj, rfl, rfl, rfl, HQ⟩ := hrel
      clear G T0
      by_cases hlt : j < N
      · have d1 : decide ((j : Int) < (N : Int)) = true := decide_eq_true (by omega)
        obtain ⟨top, hG, hT, ha⟩ := HQ.out
        obtain ⟨c0, cl0⟩ := hG.gt.gl.cell hlt
        obtain ⟨nu, hnu⟩ : ∃ nu, (s j).num = nu := ⟨_, rfl⟩
        obtain ⟨no, hno⟩ : ∃ no, (s j).node = no := ⟨_, rfl⟩
        obtain ⟨su, hsu⟩ : ∃ su, (s j).sus = su := ⟨_, rfl⟩
        obtain ⟨le, hle⟩ : ∃ le, (s j).len = le := ⟨_, rfl⟩
        obtain ⟨fi, hfi⟩ : ∃ fi, (s j).fin = fi := ⟨_, rfl⟩
        have hfl : fi ≤ 1099511627776 := by
          obtain ⟨x, x1, x2, _⟩ := hG.gt.gl.el hlt
          have h1 := x1.f2
          have h2 : x.fin = fi := by rw [← hfi, ← x2]; rfl
          omega
        have H1 := hide (stateG hG.gt.gl hlt nu no su le fi hnu hno hsu hle hfi)
        obtain ⟨z, hz⟩ : ∃ z : Bool, z = true ↔ vlt top (s j).vw := by
          by_cases e : vlt top (s j).vw
          · exact ⟨true, by simp [e]⟩
          · exact ⟨false, by simp [e]⟩
        have HVW : Hid ((s j).vw = (nu, no)) := by show (_, _) = _; rw [hnu, hno]
        have HTN : Hid (Tp (j + 1) s (max a fi) (if z = true then (nu, no) else top)) := by
          have := hT.next z hz
          rw [hfi, HVW.out] at this
          exact this
        have HBL : Hid (∀ V, Calls Try.prog 17 #[.agg #[.int .u64 (top.1 : Int), .int .i64 top.2], .agg #[.int .u64 (nu : Int), .int .i64 no]] V fun e w' => e = .returned (.bool z) ∧ Hid (Below V.heap.size V w')) := fun V => by
          have := belowL top (s j).vw V z hz
          rw [HVW.out] at this
          exact this
        have G := hide hG
        have HA2 := hide ha
        have HFL := hide hfl
        clear HQ hG hT hnu hno hsu hle hfi hz HVW ha hfl
        go_wp2_with fail
        refine H1.out.mono ?_
        rintro e w3 ⟨ao1, n1, cap1, ao2, n2, cap2, rfl, hb3⟩
        clear c0 cl0 H1
        have G3 := hide (G.out.kept hb3.out)
        clear G hb3
        have t0 := block_cell G3.out.tp 0
        have t1 := block_cell G3.out.tp 1
        have tl := block_lt G3.out.tp
        simp at t0 t1
        obtain ⟨a2, ha2⟩ : ∃ a2, max a fi = a2 := ⟨_, rfl⟩
        obtain ⟨b2, hb2⟩ : ∃ b2, max b le = b2 := ⟨_, rfl⟩
        rw [ha2] at HTN
        have HAB : Hid (a2 < 18446744073709551616) := by
          have := HA2.out
          have := HFL.out
          show a2 < _
          omega
        go_upto_region 27 with fail
        obtain ⟨sb, hsb⟩ : ∃ sb, w3.heap.size = sb := ⟨_, rfl⟩
        have GS : Hid (Gtop w c N eb g rb cb #[.int .u64 ci, .int .u64 si, .slice co cn cc] s tb top (w3.alloc (.cells #[.int .u64 (nu : Nat), .int .i64 no, .int .u32 (su : Nat), .int .u64 (le : Nat), .int .u64 (fi : Nat), .slice ao1 n1 cap1, .slice ao2 n2 cap2] 49))) := G3.out.kept ((Below.refl _ w3).alloc (Nat.le_refl _) _)
        have CS : Hid ((w3.alloc (.cells #[.int .u64 (nu : Nat), .int .i64 no, .int .u32 (su : Nat), .int .u64 (le : Nat), .int .u64 (fi : Nat), .slice ao1 n1 cap1, .slice ao2 n2 cap2] 49)).heap[sb]? = some (.cells #[.int .u64 (nu : Nat), .int .i64 no, .int .u32 (su : Nat), .int .u64 (le : Nat), .int .u64 (fi : Nat), .slice ao1 n1 cap1, .slice ao2 n2 cap2] 49 (0, 0))) := by rw [← hsb]; exact alloc_atK _ _
        rw [hsb]
        clear G3 t0 t1 tl hsb
        generalize w3.alloc (.cells #[.int .u64 (nu : Nat), .int .i64 no, .int .u32 (su : Nat), .int .u64 (le : Nat), .int .u64 (fi : Nat), .slice ao1 n1 cap1, .slice ao2 n2 cap2] 49) = w4 at *
        have s0 := block_cell CS.out 0
        have s1 := block_cell CS.out 1
        have s3 := block_cell CS.out 3
        have s4 := block_cell CS.out 4
        have sl := block_lt CS.out
        have t0 := block_cell GS.out.tp 0
        have t1 := block_cell GS.out.tp 1
        have tl := block_lt GS.out.tp
        simp at s0 s1 s3 s4 t0 t1
        have HA2' := hide ha2
        have HB2' := hide hb2
        clear ha2 hb2
        have H5 := hide (HBL.out w4)
        clear HBL
        have fin : ∀ w5, Below w4.heap.size w4 w5 → Hid (Gtop w c N eb g rb cb #[.int .u64 ci, .int .u64 si, .slice co cn cc] s tb top w5) := fun w5 hb => GS.out.kept hb
        have FIN := hide fin
        clear fin
        have FCS : Hid (∀ w5, Below w4.heap.size w4 w5 → w5.cell? ⟨sb, 0, none⟩ = some (.int .u64 (nu : Nat)) ∧ w5.cell? ⟨sb, 1, none⟩ = some (.int .i64 no) ∧ sb < w5.heap.size) := fun w5 hb => by
          have := (hb.block _ (block_lt CS.out)).trans CS.out
          exact ⟨block_cell this 0, block_cell this 1, block_lt this⟩
        have FEND : Hid (∀ V, Gtop w c N eb g rb cb #[.int .u64 ci, .int .u64 si, .slice co cn cc] s tb (if z = true then (nu, no) else top) V → ∃ top, Gtop w c N eb g rb cb #[.int .u64 ci, .int .u64 si, .slice co cn cc] s tb top V ∧ Tp (j + 1) s a2 top ∧ a2 < 18446744073709551616) := fun V h => ⟨_, h, HTN.out, HAB.out⟩
        clear GS CS HTN HAB HA2 HFL
        go_upto_region 28 with fail
        have hif : (if a < fi then (fi : Int) else (a : Int)) = (a2 : Int) := by have := HA2'.out; split <;> omega
        rw [hif]
        clear hif
        go_upto_region 29 with fail
        have hif : (if b < le then (le : Int) else (b : Int)) = (b2 : Int) := by have := HB2'.out; split <;> omega
        rw [hif]
        clear hif HA2' HB2'
        go_wp2_with fail
        refine H5.out.mono ?_
        rintro e w5 ⟨rfl, hb5⟩
        have G5 := hide (FIN.out w5 hb5.out)
        obtain ⟨p0, p1, pl⟩ := FCS.out w5 hb5.out
        clear s0 s1 s3 s4 sl t0 t1 tl H5 FIN FCS hb5
        cases z with
        | true =>
          have t0 := block_cell G5.out.out.tp 0
          have t1 := block_cell G5.out.out.tp 1
          have f0' := block_free G5.out.out.tp 0
          have f1' := block_free G5.out.out.tp 1
          have tl := block_lt G5.out.out.tp
          simp at t0 t1
          have GE2 := hide (FEND.out _ (G5.out.out.set (nu, no)))
          clear G5 FEND
          go_wp2
          exact ⟨⟨j + 1, a2, b2, by omega, by congr 1, rfl, rfl, GE2.out⟩, by simp only [intOf]; omega⟩
        | false =>
          have GE2 := hide (FEND.out _ G5.out.out)
          clear G5 FEND
          go_wp2
          exact ⟨⟨j + 1, a2, b2, by omega, by congr 1, rfl, rfl, GE2.out⟩, by simp only [intOf]; omega⟩
      · have d1 : decide ((j : Int) < (N : Int)) = false := decide_eq_false (by omega)
        have : j = N := by omega
        subst this
        go_wp2
        go_meet
        case rel => exact ⟨a, rfl, HQ.out⟩
  case rest =>
  clear G
  obtain ⟨a, hu, hcut2⟩ := hcut
  subst hu
  obtain ⟨top, hG, hT, ha⟩ := hcut2.out
  have G := hide hG
  have TP := hide hT
  clear hcut2 hG hT
  by_cases hbig : 549755813888 < a
  · have HBE := hide G.out.gt.gl.bel
    have d1 : (549755813888 : Int) < (a : Int) := by omega
    have d2 : decide ((549755813888 : Int) < (a : Int)) = true := decide_eq_true d1
    go_wp2
    go_ret
    exact ⟨rfl, HBE.out⟩
  · have d2 : decide ((549755813888 : Int) < (a : Int)) = false := decide_eq_false (by omega)
    have hrq := G.out.gt.rq
    have b0 := block_cell hrq 0
    have b1 := block_cell hrq 1
    have b2 := block_cell hrq 2
    have bl := block_lt hrq
    simp at b0 b1 b2
    clear hrq
    have H3 := hide (heardL G.out.gt.gl hN4 cap hcap hcap2 cl sq co cn cc C HR.out HGD.out A.out.pv A.out.th)
    rw [HCI.out, HSI.out] at H3
    go_wp2_with fail
    refine H3.out.mono ?_
    rintro e w6 ⟨rfl, D6⟩
    have G6 := hide (G.out.next D6.out.1 D6.out.2)
    clear b0 b1 b2 bl H3 D6 G
    obtain ⟨t1, t2, t3⟩ := A.out.start (by omega) TP.out (cl, sq, C)
    have HTH : Hid (Th N c top) := ⟨HC.out.ok, HC.out.pe, Nat.le_trans HC.out.ep HC.out.pe, HNF.out.1, t2, by rw [HCE.out.2.2.2]; omega⟩
    have HT3 := hide t3
    have T0' : Hid (Tj N c a top 0 (hrd (cl, sq, C) s)) := .inl ⟨rfl, t1⟩
    clear t1 t2 t3 A TP
    generalize hrd (cl, sq, C) s = s1 at *
    have hem100 : em ≤ 100 := HE1.out.2.2
    obtain ⟨lim, hlim⟩ : ∃ lim : Nat, 2 * em + 2 = lim := ⟨_, rfl⟩
    have HLIM := hide hlim
    clear hlim
    go_wp2
    go_loopw [25] (fun i wr => ∃ t : Nat, t ≤ em + 1 ∧ i = .int .u64 t ∧ Hid (∃ s', Gtop w c N eb g rb cb #[.int .u64 ci, .int .u64 si, .slice co cn cc] s' tb top wr ∧ Tj N c a top t s')) (fun i _ => em + 2 - (intOf i).toNat)
    case atStart => exact ⟨0, by omega, rfl, s1, G6.out, T0'.out⟩
    case round =>
      obtain ⟨t, ht, rfl, HQ⟩ := hrel
      clear G6 T0'
      obtain ⟨s2, hG, hJ⟩ := HQ.out
      have G := hide hG
      have J := hide hJ
      clear HQ hG hJ
      have hcf := G.out.gt.cf
      rw [HCC.out] at hcf
      have z7 := block_cell hcf 7
      have zl := block_lt hcf
      simp at z7
      clear hcf
      have l1 : IntKind.u64.wrap (2 * (em : Int)) = 2 * (em : Int) := IntWalk.u64_in _ ⟨by omega, by omega⟩
      have l2 : IntKind.u64.wrap (2 * (em : Int) + 2) = (lim : Int) := by have := HLIM.out; rw [show 2 * (em : Int) + 2 = (lim : Int) by omega]; exact IntWalk.u64_in _ ⟨by omega, by omega⟩
      have l3 : decide ((t : Int) ≤ (lim : Int)) = true := decide_eq_true (by have := HLIM.out; omega)
      have l4 : (t : Int) ≤ (lim : Int) := by have := HLIM.out; omega
      obtain ⟨nt, hnt⟩ : ∃ nt : Nat, a + t = nt := ⟨_, rfl⟩
      have l5 : (a : Int) + (t : Int) = (nt : Int) := by omega
      have l6 : IntKind.u64.wrap ((a : Int) + (t : Int)) = (nt : Int) := by rw [l5]; exact IntWalk.u64_in _ ⟨by omega, by omega⟩
      have l7 : IntKind.u64.wrap (nt : Int) = (nt : Int) := IntWalk.u64_in _ ⟨by omega, by omega⟩
      have HMN : ∀ i, i < N → (bts c nt (tmo c nt s2) N i).num < c.mn := fun i hi => by
        have h1 := bts_num (c := c) (now := nt) J.out.num N (Nat.le_refl _) i hi
        have h2 := HT3.out
        rw [HCE.out.2.2.2]
        omega
      have H4 := hide (tickL G.out.gt.gl HC.out hN4 cap hcap hcap2 nt (by omega) HMN)
      clear HMN
      have HJ : Hid ((∀ i, i < N → (tickF c nt N s2 i).vw = nxt c top) ∨ Tj N c a top (t + 1) (tickF c nt N s2)) := by
        have := J.out.tick HTH.out (by have := HT3.out; rw [HCE.out.2.2.2]; omega)
        rw [hnt] at this
        exact this
      have HNT := hide hnt
      clear J hnt
      go_wp2_with fail
      refine H4.out.mono ?_
      rintro e w7 ⟨rfl, D7⟩
      have G7 := hide (G.out.next D7.out.1 D7.out.2)
      clear z7 zl H4 D7 G l5 l6 l7
      generalize tickF c nt N s2 = s3 at *
      obtain ⟨z, hz⟩ : ∃ z : Bool, z = true ↔ (∀ i, i < N → (s3 i).vw = (s3 0).vw) ∧ vlt top (s3 0).vw ∧ (s3 0).node < (nn : Int) := by
        by_cases e : (∀ i, i < N → (s3 i).vw = (s3 0).vw) ∧ vlt top (s3 0).vw ∧ (s3 0).node < (nn : Int)
        · exact ⟨true, iff_of_true rfl e⟩
        · exact ⟨false, iff_of_false (by simp) e⟩
      have H5 := hide (turnedL G7.out.gt.gl (by omega) hN4 cap hcap hcap2 top (nn : Int) z hz)
      have t0 := block_cell G7.out.tp 0
      have t1 := block_cell G7.out.tp 1
      have tl := block_lt G7.out.tp
      simp at t0 t1
      have HZZ := hide hz
      clear hz
      go_wp2_with fail
      refine H5.out.mono ?_
      rintro e w8 ⟨rfl, D8⟩
      have G8 := hide (G7.out.next D8.out.1 D8.out.2)
      clear t0 t1 tl H5 D8 G7
      cases z with
      | true =>
        have HBE := hide G8.out.gt.gl.bel
        go_wp2
        go_ret
        exact ⟨rfl, HBE.out⟩
      | false =>
        have HJ2 : Hid (Tj N c a top (t + 1) s3) := by
          rcases HJ.out with k | k
          · exfalso
            have hno := nxt_ok HTH.out.ok HTH.out.tv HTH.out.tm
            have e0 := k 0 (by omega)
            have hnd := ((valid_node hno.1).1 hno.2).2.2
            have e1 : (s3 0).node = (nxt c top).2 := congrArg Prod.snd e0
            have h1 := HZZ.out.2 ⟨fun i hi => (k i hi).trans e0.symm, by rw [e0]; exact nxt_lt c top, by rw [e1, HNN.out, ← HCE.out.1]; exact hnd⟩
            cases h1
          · exact k
        have hle := HJ2.out.le
        rw [HCE.out.2.2.1] at hle
        have HT : Hid (∃ s', Gtop w c N eb g rb cb #[.int .u64 ci, .int .u64 si, .slice co cn cc] s' tb top w8 ∧ Tj N c a top (t + 1) s') := ⟨s3, G8.out, HJ2.out⟩
        go_wp2
        exact ⟨⟨t + 1, by omega, by congr 1, HT.out⟩, by simp only [intOf]; omega⟩
end Go.Proofs.Ytkdciomijemmiaa
