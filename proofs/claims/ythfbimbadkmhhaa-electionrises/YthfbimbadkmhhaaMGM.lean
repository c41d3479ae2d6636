import Derived.Test.YthfbimbadkmhhaaMGK
import Derived.Deep.RegionHeld3
namespace Go.Proofs.Ythfbimbadkmhhaa
open Go.RowKit Crc

/-- Between two rounds of list. -/
structure Lw (w : World) (rs : List Rq) (k : Nat) (v : Value) (rs1 : List Rq) (wr : World) : Prop where
  bel : Below w.heap.size w wr
  row : wr.ownsRow w.heap.size 37 3 v k (rcells rs1)
  len : rs1.length = k
  val : rs1.map Rq.val = (rs.take k).map Rq.val
  cq : ∀ r ∈ rs1, Cq w.heap.size wr r
  nil : k = 0 → v = .slice none 0 0
theorem Lw.next {w : World} {rs : List Rq} {k : Nat} {v v' : Value} {rs1 : List Rq} {wr w1 w3 w4 : World} {r r1 : Rq} {o2 : Obj} (h : Lw w rs k v rs1 wr) (hr : rs[k]? = some r) (hv : r1.val = r.val) (b1 : Below wr.heap.size wr w1) (b3 : Below w1.heap.size w1 w3) (hc : Cq w1.heap.size w3 r1)
    (ho : w4.ownsRow w.heap.size 37 3 v' (k + 1) (rcells (rs1 ++ [r1]))) (hg : (w3.alloc o2).grownBy w4 v.ownBlock) : Lw w rs (k + 1) v' (rs1 ++ [r1]) w4 := by
  have s1 := h.bel.size
  have s2 := b1.size
  have s3 := b3.size
  have b13 : Below wr.heap.size wr w3 := b1.trans (b3.mono s2)
  have bw3 : Below w.heap.size w w3 := h.bel.trans (b13.mono s1)
  have rowA := row_quiet (row_quiet h.row (below_none b13)) (World.grownBy_alloc w3 o2 none)
  have hA := World.grownBy_alloc w3 o2 none
  have cqA : ∀ y ∈ rs1 ++ [r1], Cq w.heap.size (w3.alloc o2) y := fun y hy => by
    rcases List.mem_append.1 hy with hy | hy
    · exact ((h.cq y hy).quiet (below_none b13)).quiet hA
    · simp at hy; subst hy; exact (hc.lower (by omega)).quiet hA
  refine ⟨?_, ho, by simp [h.len], ?_, fun y hy => (cqA y hy).next hg (rows_ne (cqA y hy).ow.1 rowA (by decide)), fun e => by omega⟩
  · have f : Fe w (w3.alloc o2) (fun _ => False) := (Fe.below bw3 _).trans (Fe.grown hA (T := fun _ => False) (fun y e => by cases e)) (fun _ _ e => e)
    have f2 : Fe w w4 (fun b => v.ownBlock = some b) := (f.wide (fun _ e => e.elim)).trans (Fe.grown hg (fun y e => e)) (fun _ _ e => e)
    exact f2.toBelow _ (Nat.le_refl _) (fun j e => (h.row.lt j e).1)
  · rw [List.map_append, h.val, List.take_add_one, hr]
    simp [hv]
theorem Lw.form {w : World} {rs : List Rq} {k : Nat} {v : Value} {rs1 : List Rq} {wr : World} (h : Lw w rs k v rs1 wr) : ∃ ao cap, v = .slice ao k cap := by
  rcases h.row.2 with ⟨rfl, h0⟩ | ⟨g, cap, cur, rfl, _⟩
  · exact ⟨none, 0, by rw [h0]⟩
  · exact ⟨_, cap, rfl⟩
set_option maxRecDepth 10000 in
set_option maxHeartbeats 1600000 in
theorem listE {w : World} {fp : Nat → Prop} {ro : Option Addr} {rc n : Nat} {rs : List Rq} (hn : rs.length = n) (h : Qs w fp (.slice ro n rc) rs) :
    Calls Try.prog 14 #[.slice ro n rc] w fun e w' => ∃ ao cap, e = .returned (.slice ao n cap) ∧ Hid (∃ rs1, Lw w rs n (.slice ao n cap) rs1 w') := by
  obtain ⟨i0, hi, hz0, hz1, hz2⟩ := info_parts infoReq
  obtain ⟨ao, cap, b, e, _, hR⟩ := h.form
  simp only [Value.slice.injEq] at e
  obtain ⟨rfl, -, rfl⟩ := e
  have hle := h.le
  rw [hn] at hle
  have HR := hide hR
  have HN := hide hn
  have HL0 : Hid (Lw w rs 0 (.slice none 0 0) [] w) := ⟨Below.refl _ _, World.ownsRow_nil _ _ _ _, rfl, rfl, fun r hr => by simp at hr, fun _ => rfl⟩
  clear h hR hn
  go_enter Try.func14, Try.ntmps14
  go_wp2
  go_loopw [3, 5, 8] (fun v p i wr => ∃ k : Nat, k ≤ n ∧ i = .int .i64 k ∧ ∃ rs1, Hid (Lw w rs k v rs1 wr)) (fun _ _ i _ => n - (intOf i).toNat)
  case atStart => exact ⟨0, by omega, rfl, [], HL0.out⟩
  case round =>
    obtain ⟨k, hk, rfl, rs1, HT⟩ := hrel
    generalize u3 = v at *
    by_cases hlt : k < n
    · obtain ⟨r, hr, hd, hok, hbl, rfl, c0, c1, c2⟩ := (HR.out.below HT.out.bel).get (k := k) (by have := HN.out; omega)
      obtain ⟨cl, sq, co, cn, cc, C⟩ := r
      simp only [Nat.zero_add] at c0 c1 c2
      have HRR := hide hr
      have HOK := hide hok
      have hbl' : b < wr.heap.size := by have := HT.out.bel.size; omega
      have hsz : Hid (w.heap.size ≤ wr.heap.size) := HT.out.bel.size
      clear hr hd hok hbl
      go_upto_region 5 with fail
      obtain ⟨w1, hw1⟩ : ∃ w1, wr.alloc (.cells #[.int .u64 (cl : Int), .int .u64 (sq : Int), .slice co cn cc] 37) = w1 := ⟨_, rfl⟩
      have HB1 : Hid (Below wr.heap.size wr w1) := by rw [← hw1]; exact below_alloc1 wr _
      have HQ : Hid (w1.heap[wr.heap.size]? = some (.cells #[.int .u64 (cl : Int), .int .u64 (sq : Int), .slice co cn cc] 37 (0, 0))) := by rw [← hw1]; exact alloc_atK _ _
      rw [hw1]
      clear hw1 c0 c1 c2
      have q0 := block_cell HQ.out 0
      have q1 := block_cell HQ.out 1
      have q2 := block_cell HQ.out 2
      simp at q0 q1 q2
      have ql := block_lt HQ.out
      have HTW : Hid (Calls Try.prog 30 #[.agg #[.int .u64 (cl : Int), .int .u64 (sq : Int), .slice co cn cc]] w1 fun e w3 => ∃ ao cap, e = .returned (.agg #[.int .u64 (cl : Int), .int .u64 (sq : Int), .slice ao cn cap]) ∧ Hid ((w3.alloc (.cells #[.int .u64 (cl : Int), .int .u64 (sq : Int), .slice ao cn cap] 37)).ownsRow w.heap.size 37 3 v k (rcells rs1) ∧ w.heap.size ≤ (w3.alloc (.cells #[.int .u64 (cl : Int), .int .u64 (sq : Int), .slice ao cn cap] 37)).heap.size ∧ ∀ v' w4, w4.ownsRow w.heap.size 37 3 v' (k + 1) (rcells rs1 ++ [.int .u64 (cl : Int), .int .u64 (sq : Int), .slice ao cn cap]) → (w3.alloc (.cells #[.int .u64 (cl : Int), .int .u64 (sq : Int), .slice ao cn cap] 37)).grownBy w4 v.ownBlock → Lw w rs (k + 1) v' (rs1 ++ [⟨cl, sq, ao, cn, cap, C⟩]) w4)) := by
        have hb1 := HT.out.bel.trans (HB1.out.mono hsz.out)
        refine (twinE (w := w1) cl sq co cn cc C ⟨HOK.out.hc, HOK.out.hs, (HOK.out.hC.belowL (HB1.out.mono hsz.out)).wide (Nat.le_trans hsz.out HB1.out.size)⟩).mono ?_
        rintro e w3 ⟨ao, cap, rfl, G⟩
        have b13 : Below wr.heap.size wr w3 := HB1.out.trans (G.out.2.mono HB1.out.size)
        refine ⟨ao, cap, rfl, row_quiet (row_quiet HT.out.row (below_none b13)) (World.grownBy_alloc _ _ none), by have := b13.size; have := hsz.out; simp; omega, fun v' w4 ho hg => ?_⟩
        exact Lw.next (r1 := ⟨cl, sq, ao, cn, cap, C⟩) HT.out HRR.out rfl HB1.out G.out.2 G.out.1 (by rw [rcells_snoc]; exact ho) hg
      have hl' : Hid (k + 1 ≤ maxLen ∧ (k + 1) * 40 ≤ 140737488355328) := ⟨by unfold maxLen; omega, by omega⟩
      clear HQ HB1 HOK HRR
      go_wp2_with (first
        | (go_at_call 30; refine HTW.out.mono ?_; rintro e w3 ⟨ao, cap, rfl, G⟩; clear q0 q1 q2)
        | (at_builtin; refine wpList_append_own _ rfl (.tmp 12) (.tmp 15) 38 rfl w.heap.size 37 i0 (.agg #[.int .u64 0, .int .u64 0, .slice none 0 0]) 3 40 Try.underlying38 hi hz0 hz1 hz2 rfl (by decide) v k (rcells rs1) rfl G.out.1 ⟨w3.heap.size, 0, none⟩ 1 1 [.int .u64 (cl : Int), .int .u64 (sq : Int), .slice ao cn cap] rfl rfl (cell_req_new _ _ _ _ _) (by simp [Value.oneCell']) hl'.out.1 hl'.out.2 G.out.2.1 ?_; intro v' w4 ho hg _; have HC2 := hide (G.out.2.2 _ _ ho hg); obtain ⟨g', cap', rfl⟩ := ownsRow_succ ho; clear ho hg))
      go_roundw
      case rel => exact ⟨k + 1, by omega, by go_num, _, HC2.out⟩
      case measure => simp [intOf]; omega
    · obtain rfl : k = n := by omega
      obtain ⟨ao, cp, hv⟩ := HT.out.form
      subst hv
      go_wp2
      go_ret
      exact ⟨_, _, rfl, rs1, HT.out⟩
/-- Of an empty queue nothing is made. -/
theorem list_nil (ro : Option Addr) (rc : Nat) (w : World) : Calls Try.prog 14 #[.slice ro 0 rc] w fun e w' => e = .returned (.slice none 0 0) ∧ w' = w := by
  go_enter Try.func14, Try.ntmps14
  go_wp2
  refine wp_loop_rounds 1 ?_
  rw [rounds_succ]
  go_wp2
  go_ret
  exact ⟨rfl, rfl⟩
end Go.Proofs.Ythfbimbadkmhhaa
namespace Go.Proofs.Ythfbimbadkmhhaa
open Go.RowKit Crc

theorem step_append_no {P : Program} {ops : Array Oper} {o : Oper} {a : Act} {w : World} {K : Act → World → Prop} {Q : Exit → Act → World → Prop} {E : Prop}
    (hgd : o.guard = none) (s x : Operand) (t : TypeId) (ho : o.op = .call { callee := .builtin .append, args := #[s, x], argTypes := #[t, t] }) (v x' : Value) (hs : a.eval s = v) (hx : a.eval x = x')
    (hrun : (Builtin.append_ #[t, t] o.type #[v, x']).run P w = .ok v w) (h : K (a.put o.dst v) w) :
    if Region.wanted o (yielded ops a.tmps) = true then Oper.wp P o a w K Q else E := by
  have hw : Region.wanted o (yielded ops a.tmps) = true := by simp [Region.wanted, hgd]
  rw [if_pos hw]
  unfold Oper.wp execOp
  simp only [ho, resolve, invoke, builtin, Sem.run_bind, Sem.run_pure, Result.andThen_ok, List.map_toArray, List.map_cons, List.map_nil, hs, hx, hrun]
  exact h
theorem append_none_l (a b : Option Addr) (n c m : Nat) (hn : n ≤ c) (w : World) : (Builtin.append_ #[38, 38] 38 #[.slice a n c, .slice b 0 m]).run Try.prog w = .ok (.slice a n c) w := by
  obtain ⟨i0, hi, hz0, hz1, hz2⟩ := info_parts infoReq
  cases a <;> cases b <;> simp [Builtin.append_, run_underlying Try.underlying38, sizeOf, typeInfo, hi, storeCells, go_sem, hn]
theorem Lw.cap {w : World} {rs : List Rq} {k : Nat} {ao : Option Addr} {cap : Nat} {rs1 : List Rq} {wr : World} (h : Lw w rs k (.slice ao k cap) rs1 wr) : k ≤ cap := by
  rcases h.row.2 with ⟨e, h0⟩ | ⟨g, cap, cur, e, _, _, h4, _⟩
  · omega
  · cases e; exact h4
end Go.Proofs.Ythfbimbadkmhhaa
namespace Go.Proofs.Ythfbimbadkmhhaa
open Go.RowKit Crc

set_option maxRecDepth 10000 in
set_option maxHeartbeats 3200000 in
theorem stateE {W : World} {eb g : Nat} {c : Cf} {me : Nat} {fp : Nat → Prop} {x : Ex} (h : EL W eb g c me fp x) : Calls Try.prog 7 #[.pointer (some ⟨eb, 0, none⟩)] W fun e w' => ∃ ao cap ao' cap', e = .returned (.agg #[.int .u64 (x.num : Nat), .int .i64 x.node, .int .u32 (x.sus : Nat), .int .u64 (x.len : Nat), .int .u64 (x.fin : Nat), .slice ao x.ps.length cap, .slice ao' x.ts.length cap']) ∧ Hid (Below W.heap.size W w') := by
  obtain ⟨W1, hW1⟩ : ∃ W1, W.alloc (.cells #[.int .u64 0, .int .i64 0, .int .u32 0, .int .u64 0, .int .u64 0, .slice none 0 0, .slice none 0 0] 55) = W1 := ⟨_, rfl⟩
  have B1 : Hid (Below W.heap.size W W1) := by rw [← hW1]; exact below_alloc1 W _
  have C1 : Hid (W1.heap[W.heap.size]? = some (.cells #[.int .u64 0, .int .i64 0, .int .u32 0, .int .u64 0, .int .u64 0, .slice none 0 0, .slice none 0 0] 55 (0, 0))) := by rw [← hW1]; exact alloc_atK _ _
  have HL := hide (h.kept B1.out)
  have HM := hide (madeE HL.out)
  have KP : Hid (∀ V, Hid (Below W1.heap.size W1 V) → V.cell? ⟨eb, 2, none⟩ = some (.int .u64 (x.num : Nat)) ∧ V.cell? ⟨eb, 3, none⟩ = some (.int .i64 x.node) ∧ V.cell? ⟨eb, 4, none⟩ = some (.int .u32 (x.sus : Nat)) ∧ V.cell? ⟨eb, 5, none⟩ = some (.int .u64 (x.len : Nat)) ∧ V.cell? ⟨eb, 6, none⟩ = some (.int .u64 (x.fin : Nat)) ∧ V.cell? ⟨eb, 7, none⟩ = some (.slice x.po x.ps.length x.pc) ∧ V.cell? ⟨eb, 8, none⟩ = some (.slice x.qo x.ts.length x.tc)) := fun V hb => by
    have hk := HL.out.kept hb.out
    exact ⟨hk.c 2, hk.c 3, hk.c 4, hk.c 5, hk.c 6, hk.c 7, hk.c 8⟩
  have KZ : Hid (∀ V, Hid (Below W1.heap.size W1 V) → V.heap[W.heap.size]? = some (.cells #[.int .u64 0, .int .i64 0, .int .u32 0, .int .u64 0, .int .u64 0, .slice none 0 0, .slice none 0 0] 55 (0, 0))) := fun V hb => (hb.out.block _ (block_lt C1.out)).trans C1.out
  have KLp : Hid (∀ V, Hid (Below W1.heap.size W1 V) → Calls Try.prog 14 #[.slice x.po x.ps.length x.pc] V fun e V' => ∃ ao cap, e = .returned (.slice ao x.ps.length cap) ∧ Hid (Below W1.heap.size W1 V')) := fun V hb => by
    refine (listE rfl (HL.out.kept hb.out).qp).mono ?_
    rintro e V' ⟨ao, cap, rfl, G⟩
    obtain ⟨rs1, hL⟩ := G.out
    exact ⟨ao, cap, rfl, hb.out.trans (hL.bel.mono hb.out.size)⟩
  have KLt : Hid (∀ V, Hid (Below W1.heap.size W1 V) → Calls Try.prog 14 #[.slice x.qo x.ts.length x.tc] V fun e V' => ∃ ao cap, e = .returned (.slice ao x.ts.length cap) ∧ Hid (Below W1.heap.size W1 V')) := fun V hb => by
    refine (listE rfl (HL.out.kept hb.out).qt).mono ?_
    rintro e V' ⟨ao, cap, rfl, G⟩
    obtain ⟨rs1, hL⟩ := G.out
    exact ⟨ao, cap, rfl, hb.out.trans (hL.bel.mono hb.out.size)⟩
  have HVd : Hid (Below W1.heap.size W1 W1.drew) := (Below.refl _ W1).drew
  have ql : eb < W1.heap.size := HL.out.lt
  have qn : ¬ eb = W.heap.size := by have := h.lt; omega
  have qn' : ¬ W.heap.size = eb := by omega
  have FIN : Hid (∀ V, Hid (Below W1.heap.size W1 V) → ∀ u0 u1 u2 u3 u4 u5 u6, Below W.heap.size W (((((((V.setCell ⟨W.heap.size, 0, none⟩ u0).setCell ⟨W.heap.size, 1, none⟩ u1).setCell ⟨W.heap.size, 2, none⟩ u2).setCell ⟨W.heap.size, 3, none⟩ u3).setCell ⟨W.heap.size, 4, none⟩ u4).setCell ⟨W.heap.size, 5, none⟩ u5).setCell ⟨W.heap.size, 6, none⟩ u6)) := fun V hb u0 u1 u2 u3 u4 u5 u6 =>
    ((((((((B1.out.trans (hb.out.mono B1.out.size)).setCell (p := ⟨W.heap.size, 0, none⟩) (by simp) _).setCell (p := ⟨W.heap.size, 1, none⟩) (by simp) _).setCell (p := ⟨W.heap.size, 2, none⟩) (by simp) _).setCell (p := ⟨W.heap.size, 3, none⟩) (by simp) _).setCell (p := ⟨W.heap.size, 4, none⟩) (by simp) _).setCell (p := ⟨W.heap.size, 5, none⟩) (by simp) _).setCell (p := ⟨W.heap.size, 6, none⟩) (by simp) _)
  obtain ⟨q2, q3, q4, q5, q6, q7, q8⟩ := KP.out W1 (Below.refl _ _)
  have HW1 := hide hW1
  clear h HL hW1 B1 C1
  generalize (x.num : Int) = nu at *
  generalize x.node = no at *
  generalize (x.sus : Int) = su at *
  generalize (x.len : Int) = ln at *
  generalize (x.fin : Int) = fi at *
  generalize x.ps.length = pn at *
  generalize x.po = po at *
  generalize x.pc = pc at *
  generalize x.ts.length = tn at *
  generalize x.qo = qo at *
  generalize x.tc = tc at *
  go_enter Try.func7, Try.ntmps7
  go_upto_region 1 with fail
  rw [HW1.out]
  clear HW1
  generalize hwb : W.heap.size = wb at *
  go_upto_region 3 with (go_at_call 13; refine HM.out.mono ?_; rintro e V' ⟨rfl, hVV⟩; have hVW := hVV.symm; clear hVV; subst hVW)
  have HWB := hide hwb
  clear hwb HM
  go_region_held3 (fun V => V.cell? ⟨eb, 2, none⟩ = some (.int .u64 nu) ∧ V.cell? ⟨eb, 3, none⟩ = some (.int .i64 no) ∧ V.cell? ⟨eb, 4, none⟩ = some (.int .u32 su) ∧ V.cell? ⟨eb, 5, none⟩ = some (.int .u64 ln) ∧ V.cell? ⟨eb, 6, none⟩ = some (.int .u64 fi) ∧ V.cell? ⟨eb, 7, none⟩ = some (.slice po pn pc) ∧ V.cell? ⟨eb, 8, none⟩ = some (.slice qo tn tc)) (first | go_keep | exact KP.out _ GP | exact KP.out _ GT)
    (first
      | (go_at_call_of 14 po; refine (KLp.out _ GT).mono ?_; rintro e wp ⟨ao, cap, rfl, GP⟩; have bz := KZ.out _ GP; have y0 := block_cell bz 0; have y1 := block_cell bz 1; have y2 := block_cell bz 2; have y3 := block_cell bz 3; have y4 := block_cell bz 4; have y5 := block_cell bz 5; have y6 := block_cell bz 6; have g0 := block_free bz 0; have g1 := block_free bz 1; have g2 := block_free bz 2; have g3 := block_free bz 3; have g4 := block_free bz 4; have g5 := block_free bz 5; have g6 := block_free bz 6; have yl := block_lt bz; simp at y0 y1 y2 y3 y4 y5 y6; have GF := hide (FIN.out _ GP); clear bz)
      | (go_at_call_of 14 po; refine (KLp.out _ HVd).mono ?_; rintro e wp ⟨ao, cap, rfl, GP⟩)
      | (go_at_call_of 14 qo; refine (KLt.out _ GP).mono ?_; rintro e wt ⟨ao', cap', rfl, GT⟩; have bz := KZ.out _ GT; have y0 := block_cell bz 0; have y1 := block_cell bz 1; have y2 := block_cell bz 2; have y3 := block_cell bz 3; have y4 := block_cell bz 4; have y5 := block_cell bz 5; have y6 := block_cell bz 6; have g0 := block_free bz 0; have g1 := block_free bz 1; have g2 := block_free bz 2; have g3 := block_free bz 3; have g4 := block_free bz 4; have g5 := block_free bz 5; have g6 := block_free bz 6; have yl := block_lt bz; simp at y0 y1 y2 y3 y4 y5 y6; have GF := hide (FIN.out _ GT); clear bz)
      | (go_at_call_of 14 qo; refine (KLt.out _ HVd).mono ?_; rintro e wt ⟨ao', cap', rfl, GT⟩))
  all_goals go_wp2
  all_goals refine bodyPost_ret (v := .agg #[.int .u64 nu, .int .i64 no, .int .u32 su, .int .u64 ln, .int .u64 fi, .slice ao pn cap, .slice ao' tn cap']) (by simp [results, Try.results7, go_sem, y0, y1, y2, y3, y4, y5, y6]) rfl ?_
  all_goals refine ⟨_, _, _, _, rfl, ?_⟩
  all_goals show Below W.heap.size W _
  all_goals rw [HWB.out]
  all_goals exact GF.out _ _ _ _ _ _ _
end Go.Proofs.Ythfbimbadkmhhaa
