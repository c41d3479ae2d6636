import Derived.Test.YthfbimbadkmhhaaMGK
import Derived.Lib.SliceRun
namespace Go.Proofs.Ythfbimbadkmhhaa
open Go.RowKit Crc

/-- What is left of a queue. -/
def Left (w : World) (fp : Nat → Prop) (ro : Option Addr) (n rc : Nat) (vs : List Rv) (ao : Option Addr) (m cp : Nat) (w' : World) : Prop :=
  ∃ rs', m = rs'.length ∧ Qs w' fp (.slice ao m cp) rs' ∧ rs'.map Rq.val = vs ∧ Fe w w' (fun b => (Value.slice ro n rc).ownBlock = some b) ∧ ∀ b, (Value.slice ao m cp).ownBlock = some b → (Value.slice ro n rc).ownBlock = some b
set_option maxRecDepth 10000 in
set_option maxHeartbeats 1600000 in
theorem delete_none {w : World} {fp : Nat → Prop} {ro : Option Addr} {rs : List Rq} (n rc : Nat) (hn : rs.length = n) (h : Qs w fp (.slice ro n rc) rs) (F : Nat) (cap : Value) (f : Rq → Bool) (hce : ∀ (a : Value) (w : World), (callFunc F #[a, cap]).run Try.prog w = .ok (.enter F #[a, cap]) w)
    (hf : ∀ (k : Rq) (W : World), Below w.heap.size w W → Calls Try.prog F #[.agg #[.int .u64 (k.cl : Int), .int .u64 (k.sq : Int), .slice k.co k.cn k.cc], cap] W fun e w' => e = .returned (.bool (f k)) ∧ Below W.heap.size W w') (hno : rs.any f = false) :
    Calls Try.prog 51 #[.slice ro n rc, .func (.func F) #[] #[cap]] w fun e w' => ∃ ao m cp, e = .returned (.slice ao m cp) ∧ Hid (Left w fp ro n rc (rs.map Rq.val) ao m cp w') := by
  obtain ⟨ao, cp, b, e, _, hR⟩ := h.form
  simp only [Value.slice.injEq] at e
  obtain ⟨rfl, -, rfl⟩ := e
  have HI := hide (indexQ n rc hn hR F cap f hce hf)
  have FIN : Hid (∀ w', Below w.heap.size w w' → Left w fp ro n rc (rs.map Rq.val) ro n rc w') := fun w' hb => ⟨rs, hn.symm, h.kept hb, rfl, Fe.below hb _, fun b e => e⟩
  have HNO := hide hno
  clear h hR hn hf hno hce
  go_enter Try.func51, Try.ntmps51
  go_wp2_with fail
  refine HI.out.mono ?_
  rintro e w1 ⟨i, rfl, G⟩
  obtain rfl : i = -1 := by
    rcases G.out.1 with ⟨e, _⟩ | ⟨k, _, _, _, r, e1, e2⟩
    · exact e
    · have := anyO_at (f := f) e1 e2
      rw [HNO.out] at this
      cases this
  have FF := hide (FIN.out w1 G.out.2)
  clear HI G FIN
  go_wp2
  go_ret
  exact ⟨_, _, _, rfl, FF.out⟩
theorem run_clear1 {w : World} {b rc : Nat} {cur : Array Value} (hg : w.heap[b]? = some (.cells cur 37 (0, 0))) (hcs : 3 ≤ cur.size) (ty : TypeId) : (Builtin.clear_ #[67] ty #[.slice (some ⟨b, 0, none⟩) 1 rc]).run Try.prog w = .ok (.tuple #[]) (w.setCells b 0 [.int .u64 0, .int .u64 0, .slice none 0 0]) := by
  have hzc : (Builtin.zeroCells (Value.agg #[.int .u64 0, .int .u64 0, .slice none 0 0]).cells 1).toList = [.int .u64 0, .int .u64 0, .slice none 0 0] := by kernel_rfl
  have hst := run_storeCells_cells (P := Try.prog) b 0 [.int .u64 0, .int .u64 0, .slice none 0 0] 0 w (fun j hj => by rw [block_cell hg]; simp at hj ⊢; omega) (fun j _ => block_free hg _) (by intro v hv'; simp at hv'; rcases hv' with rfl | rfl | rfl <;> rfl)
  simp only [Nat.add_zero] at hst
  simp [Builtin.clear_, run_underlying Try.underlying67, hzc, hst]
set_option maxRecDepth 10000 in
set_option maxHeartbeats 1600000 in
theorem delete_one {w : World} {fp : Nat → Prop} {ro : Option Addr} {r : Rq} (rc : Nat) (h : Qs w fp (.slice ro 1 rc) [r]) (F : Nat) (cap : Value) (f : Rq → Bool) (hce : ∀ (a : Value) (w : World), (callFunc F #[a, cap]).run Try.prog w = .ok (.enter F #[a, cap]) w)
    (hf : ∀ (k : Rq) (W : World), Below w.heap.size w W → Calls Try.prog F #[.agg #[.int .u64 (k.cl : Int), .int .u64 (k.sq : Int), .slice k.co k.cn k.cc], cap] W fun e w' => e = .returned (.bool (f k)) ∧ Below W.heap.size W w') (hyes : f r = true) :
    Calls Try.prog 51 #[.slice ro 1 rc, .func (.func F) #[] #[cap]] w fun e w' => ∃ ao m cp, e = .returned (.slice ao m cp) ∧ Hid (Left w fp ro 1 rc [] ao m cp w') := by
  obtain ⟨ao, cp, b, e, hcap, hR⟩ := h.form
  simp only [Value.slice.injEq] at e
  obtain ⟨rfl, -, rfl⟩ := e
  obtain rfl := hR.ad (by simp)
  have HI := hide (indexQ 1 rc rfl hR F cap f hce hf)
  have hc1 : 1 ≤ rc := by simpa using hcap
  have HY := hide hyes
  have HQ := hide h
  clear h hR hf hyes hce hcap
  go_enter Try.func51, Try.ntmps51
  go_wp2_with fail
  refine HI.out.mono ?_
  rintro e w1 ⟨i, rfl, G⟩
  obtain rfl : i = 0 := by
    rcases G.out.1 with ⟨_, e⟩ | ⟨k, e, hk, _⟩
    · simp [HY.out] at e
    · omega
  have HB := hide G.out.2
  have HQ1 := hide (HQ.out.kept HB.out)
  clear HI G
  obtain ⟨cur, hg, hcs⟩ : ∃ cur : Array Value, w1.heap[b]? = some (.cells cur 37 (0, 0)) ∧ cur.size = rc * 3 := by
    rcases HQ1.out.row.2 with ⟨e, _⟩ | ⟨g, cap, cur, e, _, hg, _, _, hcs, _⟩
    · cases e
    · simp only [Value.slice.injEq, Option.some.injEq, Addr.mk.injEq] at e
      obtain ⟨⟨rfl, _⟩, _, rfl⟩ := e
      exact ⟨cur, hg, hcs⟩
  have hcl := run_clear1 (rc := rc) hg (by omega) 0
  have FIN : Hid (Left w fp (some ⟨b, 0, none⟩) 1 rc [] (some ⟨b, 0, none⟩) 0 rc (w1.setCells b 0 [.int .u64 0, .int .u64 0, .slice none 0 0])) := by
    have hf1 : Fe w1 (w1.setCells b 0 [.int .u64 0, .int .u64 0, .slice none 0 0]) (fun j => j = b) := by
      show Fe w1 (((w1.setCell ⟨b, 0, none⟩ (.int .u64 0)).setCell ⟨b, 0 + 1, none⟩ (.int .u64 0)).setCell ⟨b, 0 + 1 + 1, none⟩ (.slice none 0 0)) (fun j => j = b)
      exact ((Fe.grown (grown_set _ b 0 _) (fun y e => by cases e; rfl)).trans (Fe.grown (grown_set _ b (0 + 1) _) (T := fun j => j = b) (fun y e => by cases e; rfl)) (fun _ _ e => e)).trans (Fe.grown (grown_set _ b (0 + 1 + 1) _) (T := fun j => j = b) (fun y e => by cases e; rfl)) (fun _ _ e => e)
    have hbl : (w1.setCells b 0 [.int .u64 0, .int .u64 0, .slice none 0 0]).heap[b]? = some (.cells (((cur.setIfInBounds 0 (.int .u64 0)).setIfInBounds (0 + 1) (.int .u64 0)).setIfInBounds (0 + 1 + 1) (.slice none 0 0)) 37 (0, 0)) := by
      show (((w1.setCell ⟨b, 0, none⟩ (.int .u64 0)).setCell ⟨b, 0 + 1, none⟩ (.int .u64 0)).setCell ⟨b, 0 + 1 + 1, none⟩ (.slice none 0 0)).heap[b]? = _
      exact heap_setCell_same _ b (0 + 1 + 1) _ _ _ (heap_setCell_same _ b (0 + 1) _ _ _ (heap_setCell_same w1 b 0 _ _ _ hg))
    refine ⟨[], rfl, ⟨⟨rfl, .inr ⟨b, rc, _, rfl, Nat.zero_le _, hbl, Nat.zero_le _, ?_, by simpa using hcs, by simp [rcells]⟩⟩, fun j e => HQ.out.blk j e, fun r hr => (by simp at hr), fun r hr => (by simp at hr), by simp⟩, rfl, ?_, fun j e => e⟩
    · rcases HQ1.out.row.2 with ⟨e, _⟩ | ⟨g, cap, _, e, _, _, _, h5, _⟩
      · cases e
      · cases e; exact h5
    · exact (Fe.below HB.out _).trans (hf1.wide (fun j e => by rw [e]; rfl)) (fun _ _ e => e)
  obtain ⟨W9, hW9⟩ : ∃ W9, w1.setCells b 0 [.int .u64 0, .int .u64 0, .slice none 0 0] = W9 := ⟨_, rfl⟩
  rw [hW9] at hcl FIN
  clear hW9
  clear hg
  go_wp2
  refine wp_loop_rounds 1 ?_
  rw [rounds_succ]
  go_wp2
  go_ret
  exact ⟨_, _, _, rfl, FIN.out⟩
/-- What Executed's closure says: some request of the batch makes it needless. -/
def goneB (bs : List Rq) (k : Rq) : Bool := bs.any fun q => overR q.val k.val
set_option maxRecDepth 10000 in
set_option maxHeartbeats 800000 in
theorem gone_any {w : World} {bo : Option Addr} {bs : List Rq} {bb off : Nat} (n rc : Nat) (hn : bs.length = n) (rb : Nat) (hR : Rqs w.heap.size w bo bs bb off) (hb : w.heap[rb]? = some (.cells #[.slice bo n rc] 67 (0, 0))) (k : Rq) :
    Calls Try.prog 34 #[.agg #[.int .u64 (k.cl : Int), .int .u64 (k.sq : Int), .slice k.co k.cn k.cc], .pointer (some ⟨rb, 0, none⟩)] w fun e w' => e = .returned (.bool (goneB bs k)) ∧ Below w.heap.size w w' := by
  obtain ⟨W1, hW1⟩ : ∃ W1, w.alloc (.cells #[.int .u64 (k.cl : Int), .int .u64 (k.sq : Int), .slice k.co k.cn k.cc] 37) = W1 := ⟨_, rfl⟩
  have B1 : Hid (Below w.heap.size w W1) := by rw [← hW1]; exact below_alloc1 w _
  have C1 : W1.heap[w.heap.size]? = some (.cells #[.int .u64 (k.cl : Int), .int .u64 (k.sq : Int), .slice k.co k.cn k.cc] 37 (0, 0)) := by rw [← hW1]; exact alloc_atK _ _
  have bR := (B1.out.block _ (block_lt hb)).trans hb
  have q0 := block_cell bR 0
  have ql := block_lt bR
  have z0 := block_cell C1 0
  have z1 := block_cell C1 1
  have z2 := block_cell C1 2
  have zl := block_lt C1
  simp at q0 z0 z1 z2
  have HS := hide (supersedesE n rc hn ((hR.below B1.out).wide B1.out.size) k.cl k.sq k.co k.cn k.cc k.C)
  have HW1 := hide hW1
  clear hW1 C1 bR hb hR hn
  go_enter Try.func34, Try.ntmps34
  go_upto_region 1 with fail
  rw [HW1.out]
  clear HW1
  go_wp2_with fail
  refine HS.out.mono ?_
  rintro e w2 ⟨rfl, G⟩
  go_wp2
  go_ret
  exact ⟨rfl, B1.out.trans (G.out.mono B1.out.size)⟩
end Go.Proofs.Ythfbimbadkmhhaa
namespace Go.Proofs.Ythfbimbadkmhhaa
open Go.RowKit Crc

theorem left_fin7 {V w3 : World} {eb g : Nat} {c : Cf} {me : Nat} {fp : Nat → Prop} {x : Ex} (h : EL V eb g c me fp x) {vs : List Rv} {ao : Option Addr} {m cp : Nat} (L : Left V fp x.po x.ps.length x.pc vs ao m cp w3) :
    w3.heap[eb]? = some (.cells (x.cells g me) 69 (0, 0)) ∧ ∃ rs, rs.map Rq.val = vs ∧ m = rs.length ∧ EL (w3.setCell ⟨eb, 7, none⟩ (.slice ao m cp)) eb g c me fp ⟨x.num, x.node, x.sus, x.len, x.fin, ao, cp, rs, x.qo, x.tc, x.ts⟩ ∧ Fe V (w3.setCell ⟨eb, 7, none⟩ (.slice ao m cp)) (Mine eb fp) := by
  obtain ⟨rs, rfl, hq, hv, hf, hn⟩ := L
  have tn : ∀ b, (Value.slice x.po x.ps.length x.pc).ownBlock = some b → fp b := h.qp.blk
  have heb : w3.heap[eb]? = some (.cells (x.cells g me) 69 (0, 0)) := (hf.block _ h.lt (fun e => h.feb (tn _ e))).trans h.blk
  have hg : w3.heap[g]? = some (.cells c.cells 101 (0, 0)) := (hf.block _ (block_lt h.grp) (fun e => h.fg (tn _ e))).trans h.grp
  have f5 : Fe w3 (w3.setCell ⟨eb, 7, none⟩ (.slice ao rs.length cp)) (fun b => b = eb) := Fe.grown (grown_set _ eb 7 _) (fun y e => by cases e; rfl)
  have nb : ∀ b, fp b → ¬ b = eb := fun b hb e => h.feb (e ▸ hb)
  have qt3 : Qs w3 fp (.slice x.qo x.ts.length x.tc) x.ts := ⟨row_fe h.qt.row hf (fun b e e2 => h.ap b e2 e), h.qt.blk, fun r hr => (h.qt.cq r hr).fe hf (row_ne_cq h.qp (h.qt.cq r hr)), h.qt.cb, h.qt.le⟩
  refine ⟨heb, rs, hv, rfl, ⟨?_, (f5.block _ (block_lt hg) (fun e => h.neg e.symm)).trans hg, hq.fe f5 nb, qt3.fe f5 nb, fun b e => h.ap b (hn b e), fun b hb => by have := h.flt b hb; have := hf.size; simp; omega, h.feb, h.fg, h.n1, h.va, h.su, h.l1, h.l2, h.f2⟩, ?_⟩
  · rw [heap_setCell_same _ eb 7 _ _ _ heb]; rfl
  · exact (hf.wide (fun b e => .inr (tn b e))).trans (f5.wide (fun b e => .inl e)) (fun _ _ e => e)
theorem left_fin8 {V w3 : World} {eb g : Nat} {c : Cf} {me : Nat} {fp : Nat → Prop} {x : Ex} (h : EL V eb g c me fp x) {vs : List Rv} {ao : Option Addr} {m cp : Nat} (L : Left V fp x.qo x.ts.length x.tc vs ao m cp w3) :
    w3.heap[eb]? = some (.cells (x.cells g me) 69 (0, 0)) ∧ ∃ rs, rs.map Rq.val = vs ∧ m = rs.length ∧ EL (w3.setCell ⟨eb, 8, none⟩ (.slice ao m cp)) eb g c me fp ⟨x.num, x.node, x.sus, x.len, x.fin, x.po, x.pc, x.ps, ao, cp, rs⟩ ∧ Fe V (w3.setCell ⟨eb, 8, none⟩ (.slice ao m cp)) (Mine eb fp) := by
  obtain ⟨rs, rfl, hq, hv, hf, hn⟩ := L
  have tn : ∀ b, (Value.slice x.qo x.ts.length x.tc).ownBlock = some b → fp b := h.qt.blk
  have heb : w3.heap[eb]? = some (.cells (x.cells g me) 69 (0, 0)) := (hf.block _ h.lt (fun e => h.feb (tn _ e))).trans h.blk
  have hg : w3.heap[g]? = some (.cells c.cells 101 (0, 0)) := (hf.block _ (block_lt h.grp) (fun e => h.fg (tn _ e))).trans h.grp
  have f5 : Fe w3 (w3.setCell ⟨eb, 8, none⟩ (.slice ao rs.length cp)) (fun b => b = eb) := Fe.grown (grown_set _ eb 8 _) (fun y e => by cases e; rfl)
  have nb : ∀ b, fp b → ¬ b = eb := fun b hb e => h.feb (e ▸ hb)
  have qp3 : Qs w3 fp (.slice x.po x.ps.length x.pc) x.ps := ⟨row_fe h.qp.row hf (fun b e e2 => h.ap b e e2), h.qp.blk, fun r hr => (h.qp.cq r hr).fe hf (row_ne_cq h.qt (h.qp.cq r hr)), h.qp.cb, h.qp.le⟩
  refine ⟨heb, rs, hv, rfl, ⟨?_, (f5.block _ (block_lt hg) (fun e => h.neg e.symm)).trans hg, qp3.fe f5 nb, hq.fe f5 nb, fun b e e2 => h.ap b e (hn b e2), fun b hb => by have := h.flt b hb; have := hf.size; simp; omega, h.feb, h.fg, h.n1, h.va, h.su, h.l1, h.l2, h.f2⟩, ?_⟩
  · rw [heap_setCell_same _ eb 8 _ _ _ heb]; rfl
  · exact (hf.wide (fun b e => .inr (tn b e))).trans (f5.wide (fun b e => .inl e)) (fun _ _ e => e)
set_option maxRecDepth 10000 in
set_option maxHeartbeats 800000 in
theorem withoutE {w : World} (v fv : Value) {P : Ending → World → Prop} (h : Calls Try.prog 51 #[v, fv] w fun e w' => ∃ ao m cp, e = .returned (.slice ao m cp) ∧ P (.returned (.slice ao m cp)) w') :
    Calls Try.prog 35 #[v, fv] w fun e w' => ∃ ao m cp, e = .returned (.slice ao m cp) ∧ P (.returned (.slice ao m cp)) w' := by
  have H := hide h
  clear h
  go_enter Try.func35, Try.ntmps35
  go_wp2_with fail
  refine H.out.mono ?_
  rintro e w1 ⟨ao, m, cp, rfl, G⟩
  have GG := hide G
  clear G
  go_wp2
  go_ret
  exact ⟨_, _, _, rfl, GG.out⟩
theorem cbe (a cap : Value) (w : World) : (callFunc 34 #[a, cap]).run Try.prog w = .ok (.enter 34 #[a, cap]) w := by kernel_rfl
set_option maxRecDepth 10000 in
set_option maxHeartbeats 1600000 in
/-- Executed, where nothing waits from earlier epochs, and at most one request, which the batch makes needless. -/
theorem executedE {W : World} {eb g : Nat} {c : Cf} {me : Nat} {fp : Nat → Prop} {x : Ex} (h : EL W eb g c me fp x) (hps : x.ps = []) {bo : Option Addr} {bs : List Rq} {bb off : Nat} (st n rc : Nat) (hn : bs.length = n) (L : Nat) (hL : ∀ b, Mine eb fp b → b < L) (hLW : L ≤ W.heap.size) (hRk : ∀ V, Fe W V (fun b => b < L) → Rqs V.heap.size V bo bs bb off) (hts : x.ts = [] ∨ ∃ r, x.ts = [r] ∧ goneB bs r = true) :
    Calls Try.prog 19 #[.pointer (some ⟨eb, 0, none⟩), .agg #[.int .u64 (st : Nat), .slice bo n rc]] W fun e W' => e = .returned (.tuple #[]) ∧ Hid (Did W eb g c me fp ⟨x.num, x.node, x.sus, x.len, x.fin, [], []⟩ W') := by
  obtain ⟨W1, hW1⟩ : ∃ W1, W.alloc (.cells #[.int .u64 (st : Nat), .slice bo n rc] 40) = W1 := ⟨_, rfl⟩
  have s1 : W1.heap.size = W.heap.size + 1 := by rw [← hW1]; simp
  have B1 : Hid (Below W.heap.size W W1) := by rw [← hW1]; exact below_alloc1 W _
  have C1 : W1.heap[W.heap.size]? = some (.cells #[.int .u64 (st : Nat), .slice bo n rc] 40 (0, 0)) := by rw [← hW1]; exact alloc_atK _ _
  obtain ⟨W2, hW2⟩ : ∃ W2, W1.alloc (.cells #[.slice bo n rc] 67) = W2 := ⟨_, rfl⟩
  have B2' : Below W1.heap.size W1 W2 := by rw [← hW2]; exact below_alloc1 W1 _
  have B2 : Hid (Below W.heap.size W W2) := B1.out.trans (B2'.mono B1.out.size)
  have C2 : Hid (W2.heap[W1.heap.size]? = some (.cells #[.slice bo n rc] 67 (0, 0))) := by rw [← hW2]; exact alloc_atK _ _
  have HM := hide (madeE (h.kept B1.out))
  have a1 := block_cell C1 1
  have al := block_lt C1
  simp at a1
  have E2 := hide (h.kept B2.out)
  have hlp : x.ps.length = 0 := by rw [hps]; rfl
  have HRW : Hid (∀ V, Below W2.heap.size W2 V → Rqs V.heap.size V bo bs bb off ∧ V.heap[W1.heap.size]? = some (.cells #[.slice bo n rc] 67 (0, 0))) := fun V hb => by
    have hb' := B2.out.trans (hb.mono B2.out.size)
    exact ⟨hRk V (Fe.below hb' _), (hb.block _ (block_lt C2.out)).trans C2.out⟩
  have K7 : Hid (Calls Try.prog 35 #[.slice x.po 0 x.pc, .func (.func 34) #[] #[.pointer (some ⟨W1.heap.size, 0, none⟩)]] W2 fun e w3 => ∃ ao m cp, e = .returned (.slice ao m cp) ∧ Hid (w3.heap[eb]? = some (.cells (x.cells g me) 69 (0, 0)) ∧ Calls Try.prog 35 #[.slice x.qo x.ts.length x.tc, .func (.func 34) #[] #[.pointer (some ⟨W1.heap.size, 0, none⟩)]] (w3.setCell ⟨eb, 7, none⟩ (.slice ao m cp)) fun e w5 => ∃ ao' m' cp', e = .returned (.slice ao' m' cp') ∧ Hid (w5.heap[eb]? = some (.cells #[.pointer (some ⟨g, 0, none⟩), .int .i64 (me : Nat), .int .u64 (x.num : Nat), .int .i64 x.node, .int .u32 (x.sus : Nat), .int .u64 (x.len : Nat), .int .u64 (x.fin : Nat), .slice ao m cp, .slice x.qo x.ts.length x.tc] 69 (0, 0)) ∧ Did W eb g c me fp ⟨x.num, x.node, x.sus, x.len, x.fin, [], []⟩ (w5.setCell ⟨eb, 8, none⟩ (.slice ao' m' cp'))))) := by
    have hqp := E2.out.qp
    rw [hlp] at hqp
    refine (withoutE _ _ (P := fun e w3 => ∃ ao m cp, e = .returned (.slice ao m cp) ∧ Left W2 fp x.po 0 x.pc [] ao m cp w3) ?_).mono ?_
    · refine (delete_none (rs := x.ps) 0 x.pc hlp hqp 34 (.pointer (some ⟨W1.heap.size, 0, none⟩)) (goneB bs) (fun a w => cbe a _ w) (fun k V hb => gone_any n rc hn W1.heap.size (HRW.out V hb).1 (HRW.out V hb).2 k) (by rw [hps]; rfl)).mono ?_
      rintro e w3 ⟨ao, m, cp, rfl, G⟩
      have G' := G.out
      rw [hps] at G'
      exact ⟨ao, m, cp, rfl, ao, m, cp, rfl, G'⟩
    · rintro e w3 ⟨ao, m, cp, rfl, ao2, m2, cp2, e2, G⟩
      cases e2
      refine ⟨ao, m, cp, rfl, ?_⟩
      have G' : Left W2 fp x.po x.ps.length x.pc [] ao m cp w3 := by rw [hlp]; exact G
      obtain ⟨e1, rs7, hv7, hm7, h7, f7⟩ := left_fin7 E2.out G'
      have hrs7 : rs7 = [] := List.map_eq_nil_iff.1 hv7
      subst hrs7
      have F27 : Fe W (w3.setCell ⟨eb, 7, none⟩ (.slice ao m cp)) (Mine eb fp) := (Fe.below B2.out _).trans f7 (fun _ _ e => e)
      -- what the closure reads is there still
      have hRV : ∀ V, Below (w3.setCell ⟨eb, 7, none⟩ (.slice ao m cp)).heap.size (w3.setCell ⟨eb, 7, none⟩ (.slice ao m cp)) V → Rqs V.heap.size V bo bs bb off ∧ V.heap[W1.heap.size]? = some (.cells #[.slice bo n rc] 67 (0, 0)) := fun V hb => by
        refine ⟨hRk V ((F27.wide hL).trans (Fe.below hb _) (fun _ _ e => e)), ?_⟩
        have b2 := (f7.block _ (block_lt C2.out) (fun e => by have := hL _ e; omega)).trans C2.out
        exact (hb.block _ (block_lt b2)).trans b2
      have hgo : ∀ (k : Rq) (V : World), Below (w3.setCell ⟨eb, 7, none⟩ (.slice ao m cp)).heap.size (w3.setCell ⟨eb, 7, none⟩ (.slice ao m cp)) V → Calls Try.prog 34 #[.agg #[.int .u64 (k.cl : Int), .int .u64 (k.sq : Int), .slice k.co k.cn k.cc], .pointer (some ⟨W1.heap.size, 0, none⟩)] V fun e w' => e = .returned (.bool (goneB bs k)) ∧ Below V.heap.size V w' := fun k V hb => gone_any n rc hn W1.heap.size (hRV V hb).1 (hRV V hb).2 k
      have hstep : Calls Try.prog 51 #[.slice x.qo x.ts.length x.tc, .func (.func 34) #[] #[.pointer (some ⟨W1.heap.size, 0, none⟩)]] (w3.setCell ⟨eb, 7, none⟩ (.slice ao m cp)) fun e w5 => ∃ ao' m' cp', e = .returned (.slice ao' m' cp') ∧ Hid (Left (w3.setCell ⟨eb, 7, none⟩ (.slice ao m cp)) fp x.qo x.ts.length x.tc [] ao' m' cp' w5) := by
        rcases hts with e0 | ⟨r, e0, hgr⟩
        · have h8 := delete_none (rs := x.ts) x.ts.length x.tc rfl h7.qt 34 (.pointer (some ⟨W1.heap.size, 0, none⟩)) (goneB bs) (fun a w => cbe a _ w) hgo (by rw [e0]; rfl)
          rw [show x.ts.map Rq.val = [] by rw [e0]; rfl] at h8
          exact h8
        · have hq8 := h7.qt
          simp only at hq8
          rw [e0] at hq8 ⊢
          exact delete_one x.tc hq8 34 (.pointer (some ⟨W1.heap.size, 0, none⟩)) (goneB bs) (fun a w => cbe a _ w) hgo hgr
      refine ⟨e1, (withoutE _ _ (P := fun e w5 => ∃ ao' m' cp', e = .returned (.slice ao' m' cp') ∧ Left (w3.setCell ⟨eb, 7, none⟩ (.slice ao m cp)) fp x.qo x.ts.length x.tc [] ao' m' cp' w5) ?_).mono ?_⟩
      · refine hstep.mono ?_
        rintro e w5 ⟨ao', m', cp', rfl, G8⟩
        exact ⟨ao', m', cp', rfl, ao', m', cp', rfl, G8.out⟩
      · rintro e w5 ⟨ao', m', cp', rfl, _, _, _, e3, G8⟩
        cases e3
        obtain ⟨e4, rs8, hv8, hm8, h8, f8⟩ := left_fin8 h7 G8
        have hrs8 : rs8 = [] := List.map_eq_nil_iff.1 hv8
        subst hrs8
        have hm0 : m = 0 := by simpa using hm7
        refine ⟨ao', m', cp', rfl, ?_, fp, _, h8, rfl, F27.trans f8 (fun _ _ e => e), fun b hb => .inl hb⟩
        rw [e4, hm0]
        rfl
  have q7 : W2.cell? ⟨eb, 7, none⟩ = some (.slice x.po x.ps.length x.pc) := E2.out.c 7
  rw [hlp] at q7
  have ql := E2.out.lt
  have ql1 : eb < W1.heap.size := (h.kept B1.out).lt
  have b0 : W2.cell? ⟨W1.heap.size, 0, none⟩ = some (.slice bo n rc) := block_cell C2.out 0
  have HW1 := hide hW1
  have HW2 := hide hW2
  clear h hps hn hL hLW hRk hts s1 C1 B2' hW1 hW2 HRW E2 hlp C2
  unfold Ex.cells at K7
  generalize (x.num : Int) = nu at *
  generalize x.node = no at *
  generalize (x.sus : Int) = su at *
  generalize (x.len : Int) = ln at *
  generalize (x.fin : Int) = fi at *
  generalize x.ps.length = pn at *
  generalize x.ts.length = tn at *
  generalize x.po = po at *
  generalize x.pc = pc at *
  generalize x.qo = qo at *
  generalize x.tc = tc at *
  go_enter Try.func19, Try.ntmps19
  go_upto_region 1 with fail
  rw [HW1.out]
  clear HW1
  generalize W.heap.size = wb at *
  go_wp2_with fail
  refine HM.out.mono ?_
  rintro e V' ⟨rfl, hVV⟩
  have hVW := hVV.symm
  clear hVV
  subst hVW
  go_upto_region 3 with fail
  rw [HW2.out]
  clear HW2 HM
  generalize W1.heap.size = w1b at *
  go_wp2_with fail
  refine K7.out.mono ?_
  rintro e w3 ⟨ao, m, cp, rfl, G⟩
  have z7 := block_cell G.out.1 7
  have z8 := block_cell G.out.1 8
  have f7 := block_free G.out.1 7
  have f8 := block_free G.out.1 8
  have zl := block_lt G.out.1
  simp at z7 z8
  have HG := hide G.out.2
  clear q7 ql ql1 b0 a1 al G K7
  go_wp2_with fail
  refine HG.out.mono ?_
  rintro e w5 ⟨ao', m', cp', rfl, G⟩
  clear z7 z8 f7 f8 zl
  have z8 := block_cell G.out.1 8
  have f8 := block_free G.out.1 8
  have zl := block_lt G.out.1
  simp at z8
  have HD := hide G.out.2
  clear G
  go_wp2
  go_end0
  exact ⟨rfl, HD.out⟩
end Go.Proofs.Ythfbimbadkmhhaa
