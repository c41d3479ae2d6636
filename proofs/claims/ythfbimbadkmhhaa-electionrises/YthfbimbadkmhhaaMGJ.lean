import Derived.Test.YthfbimbadkmhhaaMGI
import Derived.Test.YthfbimbadkmhhaaMGD
import Derived.Test.YthfbimbadkmhhaaMGA
namespace Go.Proofs.Ythfbimbadkmhhaa
open Go.RowKit Crc

theorem EL.put {W W' : World} {eb g : Nat} {c : Cf} {me : Nat} {fp : Nat → Prop} {x : Ex} (h : EL W eb g c me fp x) (hf : Fe W W' (fun b => b = eb)) (n : Nat) (m : Int) (s l f : Nat)
    (hb : W'.heap[eb]? = some (.cells ((Ex.mk n m s l f x.po x.pc x.ps x.qo x.tc x.ts).cells g me) 69 (0, 0)))
    (n1 : 1 ≤ n) (va : c.valid n m = true) (su : s < 4294967296) (l1 : 1 ≤ l) (l2 : l ≤ c.em) (f2 : f ≤ 1099511627776) :
    EL W' eb g c me fp ⟨n, m, s, l, f, x.po, x.pc, x.ps, x.qo, x.tc, x.ts⟩ ∧ Fe W W' (Mine eb fp) :=
  ⟨⟨hb, (hf.block _ (block_lt h.grp) (fun e => h.neg e.symm)).trans h.grp, h.qp.fe hf (fun _ hb e => h.feb (e ▸ hb)), h.qt.fe hf (fun _ hb e => h.feb (e ▸ hb)), h.ap, fun b hb => Nat.lt_of_lt_of_le (h.flt b hb) hf.size, h.feb, h.fg, n1, va, su, l1, l2, f2⟩, hf.wide (fun _ e => .inl e)⟩
theorem Did.of {W W1 W' : World} {eb g : Nat} {c : Cf} {me : Nat} {fp : Nat → Prop} {s : Ev} (f : Fe W W1 (Mine eb fp)) (d : Did W1 eb g c me fp s W') : Did W eb g c me fp s W' := by
  obtain ⟨fp', x, h1, h2, h3, h4⟩ := d
  refine ⟨fp', x, h1, h2, f.trans h3 (fun _ _ e => e), fun b hb => (h4 b hb).elim .inl (fun h => .inr (by have := f.size; omega))⟩
def Ev.enter (c : Cf) (s : Ev) (n : Nat) (m : Int) (now : Nat) : Ev := Ev.begin ⟨n, m, 0, min (2 * s.len) c.em, s.fin, s.pv, s.th⟩ now
theorem fld7 (f m : Int) (d wn ev bt ep em mn ms : Int) (w : World) : (Instr.field 25 (.agg #[.int .i64 f, .int .i64 m, .int .u64 d, .int .u64 wn, .int .u64 ev, .int .u64 bt, .int .u64 ep, .int .u64 em, .int .u64 mn, .int .u64 ms]) 7).run Try.prog w = .ok (.int .u64 em) w := by kernel_rfl
theorem fld6 (f m : Int) (d wn ev bt ep em mn ms : Int) (w : World) : (Instr.field 25 (.agg #[.int .i64 f, .int .i64 m, .int .u64 d, .int .u64 wn, .int .u64 ev, .int .u64 bt, .int .u64 ep, .int .u64 em, .int .u64 mn, .int .u64 ms]) 6).run Try.prog w = .ok (.int .u64 ep) w := by kernel_rfl
theorem cfgcells (c : Cf) : c.cells = #[.int .i64 c.f, .int .i64 c.mb, .int .u64 (c.delay : Nat), .int .u64 (c.win : Nat), .int .u64 (c.every : Nat), .int .u64 (c.beat : Nat), .int .u64 (c.ep : Nat), .int .u64 (c.em : Nat), .int .u64 (c.mn : Nat), .int .u64 (c.ms : Nat)] := rfl
set_option maxRecDepth 10000 in
set_option maxHeartbeats 1600000 in
theorem enter_a {W : World} {eb g : Nat} {c : Cf} {me : Nat} {fp : Nat → Prop} {x : Ex} (h : EL W eb g c me fp x) (hok : c.Ok) (hem : c.em ≤ 100000) (n : Nat) (m : Int) (n1 : 1 ≤ n) (va : c.valid n m = true) (now : Nat) (hnow : now < 18446744073709551616) (L2 em : Nat) (hL2 : (2 : Int) * (x.len : Int) = (L2 : Int)) (hE : c.em = em) (h1 : em < L2) :
    Calls Try.prog 37 #[.pointer (some ⟨eb, 0, none⟩), .agg #[.int .u64 (n : Nat), .int .i64 m], .int .u64 (now : Nat)] W fun e W' => e = .returned (.tuple #[]) ∧ Hid (Did W eb g c me fp (Ev.enter c x.abs n m now) W') := by
  have HEV : Hid (Ev.enter c x.abs n m now = Ev.begin (Ex.mk n m 0 em x.fin x.po x.pc x.ps x.qo x.tc x.ts).abs now) := by
    show _ = _
    unfold Ev.enter Ex.abs
    simp only
    congr 2
    omega
  rw [HEV.out]
  clear HEV
  obtain ⟨W0, hW0⟩ : ∃ W0, W.alloc (.cells #[.int .u64 (n : Nat), .int .i64 m] 33) = W0 := ⟨_, rfl⟩
  have B0 : Below W.heap.size W W0 := by rw [← hW0]; exact (Below.refl _ W).alloc (Nat.le_refl _) _
  have C0 : W0.heap[W.heap.size]? = some (.cells #[.int .u64 (n : Nat), .int .i64 m] 33 (0, 0)) := by rw [← hW0]; exact alloc_atK _ _
  have h0 := h.kept B0
  have z0 : W0.cell? ⟨W.heap.size, 0, none⟩ = some (.int .u64 (n : Nat)) := block_cell C0 0
  have z1 : W0.cell? ⟨W.heap.size, 1, none⟩ = some (.int .i64 m) := block_cell C0 1
  have zl := block_lt C0
  have zn : ¬ eb = W.heap.size := by have := h.lt; omega
  have q2 : W0.cell? ⟨eb, 2, none⟩ = some (.int .u64 (x.num : Nat)) := h0.c 2
  have q3 : W0.cell? ⟨eb, 3, none⟩ = some (.int .i64 x.node) := h0.c 3
  have q4 : W0.cell? ⟨eb, 4, none⟩ = some (.int .u32 (x.sus : Nat)) := h0.c 4
  have f2 := h0.free 2
  have f3 := h0.free 3
  have f4 := h0.free 4
  have ql : eb < W0.heap.size := h0.lt
  obtain ⟨W1, hW1⟩ : ∃ W1, ((W0.setCell ⟨eb, 2, none⟩ (.int .u64 (n : Nat))).setCell ⟨eb, 3, none⟩ (.int .i64 m)).setCell ⟨eb, 4, none⟩ (.int .u32 0) = W1 := ⟨_, rfl⟩
  have U : EL W1 eb g c me fp ⟨n, m, 0, x.len, x.fin, x.po, x.pc, x.ps, x.qo, x.tc, x.ts⟩ ∧ Fe W0 W1 (Mine eb fp) := by
    refine h0.put ?_ n m 0 x.len x.fin ?_ n1 va (by omega) h.l1 h.l2 h.f2
    · rw [← hW1]
      exact ((Fe.grown (grown_set _ eb 2 _) (fun y e => by cases e; rfl)).trans (Fe.grown (grown_set _ eb 3 _) (T := fun b => b = eb) (fun y e => by cases e; rfl)) (fun _ _ e => e)).trans (Fe.grown (grown_set _ eb 4 _) (T := fun b => b = eb) (fun y e => by cases e; rfl)) (fun _ _ e => e)
    · rw [← hW1, heap_setCell_same _ eb 4 _ _ _ (heap_setCell_same _ eb 3 _ _ _ (heap_setCell_same _ eb 2 _ _ _ h0.blk))]
      rfl
  have H1 := hide U.1
  have F1 : Hid (Fe W W1 (Mine eb fp)) := (Fe.below B0 _).trans U.2 (fun _ _ e => e)
  have p5 : W1.cell? ⟨eb, 5, none⟩ = some (.int .u64 (x.len : Nat)) := H1.out.c 5
  have p0 : W1.cell? ⟨eb, 0, none⟩ = some (.pointer (some ⟨g, 0, none⟩)) := H1.out.c 0
  have pl : eb < W1.heap.size := H1.out.lt
  have HL : Hid (1 ≤ em ∧ em ≤ c.em) := by have := h.l1; have := h.l2; have := h.n1; show _ ∧ _; omega
  have hlb : (x.len : Int) ≤ 100000 := by have := h.l2; omega
  have hl0 : (0 : Int) ≤ (x.len : Int) := by omega
  have hx : (em : Int) < (L2 : Int) := by omega
  have hw2 : IntKind.u64.wrap (L2 : Int) = (L2 : Int) := IntWalk.u64_in _ ⟨by omega, by omega⟩
  have hfd := fld7 c.f c.mb c.delay c.win c.every c.beat c.ep em c.mn c.ms
  have HCF : Hid (∀ q, Calls Try.prog 39 #[.pointer (some ⟨g, 0, none⟩)] (W1.drewN q) fun e w' => e = .returned (.agg #[.int .i64 c.f, .int .i64 c.mb, .int .u64 (c.delay : Nat), .int .u64 (c.win : Nat), .int .u64 (c.every : Nat), .int .u64 (c.beat : Nat), .int .u64 (c.ep : Nat), .int .u64 (em : Nat), .int .u64 (c.mn : Nat), .int .u64 (c.ms : Nat)]) ∧ Hid (w'.cell? ⟨eb, 5, none⟩ = some (.int .u64 (x.len : Nat)) ∧ w'.cell? ⟨eb, 0, none⟩ = some (.pointer (some ⟨g, 0, none⟩)) ∧ w'.frozen? ⟨eb, 5, none⟩ = false ∧ eb < w'.heap.size ∧ Calls Try.prog 29 #[.pointer (some ⟨eb, 0, none⟩), .int .u64 (now : Nat)] (w'.setCell ⟨eb, 5, none⟩ (.int .u64 (em : Nat))) fun e W' => e = .returned (.tuple #[]) ∧ Hid (Did W eb g c me fp (Ev.begin (Ex.mk n m 0 em x.fin x.po x.pc x.ps x.qo x.tc x.ts).abs now) W'))) := fun q => by
    refine (config_live (H1.out.kept (drewN_below W1 q)).pg hok).mono ?_
    rintro e w' ⟨rfl, hb⟩
    have hb1 : Below W1.heap.size W1 w' := (drewN_below W1 q).trans (hb.mono (by simp))
    have h2 := H1.out.kept hb1
    refine ⟨by rw [cfgcells, hE], h2.c 5, h2.c 0, h2.free 5, h2.lt, ?_⟩
    have U := h2.upd 5 (.int .u64 (em : Nat)) n m 0 em x.fin rfl n1 va (by omega) HL.out.1 HL.out.2 h.f2
    refine (beginE U.1 hem now hnow).mono ?_
    rintro e W' ⟨rfl, d⟩
    exact ⟨rfl, Did.of (F1.out.trans ((Fe.below hb1 _).trans U.2 (fun _ _ e => e)) (fun _ _ e => e)) d.out⟩
  have HW0 := hide hW0
  have HW1 := hide hW1
  clear U B0 C0 h0 H1 F1 hW0 hW1 h HL hem hok n1 va hnow hE h1
  generalize (n : Int) = ni at *
  generalize (now : Int) = nw at *
  generalize (x.len : Int) = ln at *
  generalize (x.num : Int) = nu at *
  generalize (x.sus : Int) = su at *
  go_enter Try.func37, Try.ntmps37
  go_upto_region 1 with fail
  rw [HW0.out]
  generalize W.heap.size = wb at *
  go_upto_region 2 with fail
  rw [HW1.out]
  clear HW1 HW0 q2 q3 q4 f2 f3 f4 ql z0 z1 zl zn
  go_region_with ((go_at_call 39; refine (HCF.out _).mono ?_; rintro e w3 ⟨rfl, G⟩; obtain ⟨y5, y0, g5, yl, HBG⟩ := G.out; have HBH := hide HBG; clear HBG))
  all_goals go_wp2_with (go_at_call 29; refine HBH.out.mono ?_; rintro e w4 ⟨rfl, D⟩)
  all_goals go_end0
  all_goals exact ⟨rfl, D.out⟩
set_option maxRecDepth 10000 in
set_option maxHeartbeats 1600000 in
theorem enter_b {W : World} {eb g : Nat} {c : Cf} {me : Nat} {fp : Nat → Prop} {x : Ex} (h : EL W eb g c me fp x) (hok : c.Ok) (hem : c.em ≤ 100000) (n : Nat) (m : Int) (n1 : 1 ≤ n) (va : c.valid n m = true) (now : Nat) (hnow : now < 18446744073709551616) (L2 em : Nat) (hL2 : (2 : Int) * (x.len : Int) = (L2 : Int)) (hE : c.em = em) (h1 : L2 ≤ em) :
    Calls Try.prog 37 #[.pointer (some ⟨eb, 0, none⟩), .agg #[.int .u64 (n : Nat), .int .i64 m], .int .u64 (now : Nat)] W fun e W' => e = .returned (.tuple #[]) ∧ Hid (Did W eb g c me fp (Ev.enter c x.abs n m now) W') := by
  have HEV : Hid (Ev.enter c x.abs n m now = Ev.begin (Ex.mk n m 0 L2 x.fin x.po x.pc x.ps x.qo x.tc x.ts).abs now) := by
    show _ = _
    unfold Ev.enter Ex.abs
    simp only
    congr 2
    omega
  rw [HEV.out]
  clear HEV
  obtain ⟨W0, hW0⟩ : ∃ W0, W.alloc (.cells #[.int .u64 (n : Nat), .int .i64 m] 33) = W0 := ⟨_, rfl⟩
  have B0 : Below W.heap.size W W0 := by rw [← hW0]; exact (Below.refl _ W).alloc (Nat.le_refl _) _
  have C0 : W0.heap[W.heap.size]? = some (.cells #[.int .u64 (n : Nat), .int .i64 m] 33 (0, 0)) := by rw [← hW0]; exact alloc_atK _ _
  have h0 := h.kept B0
  have z0 : W0.cell? ⟨W.heap.size, 0, none⟩ = some (.int .u64 (n : Nat)) := block_cell C0 0
  have z1 : W0.cell? ⟨W.heap.size, 1, none⟩ = some (.int .i64 m) := block_cell C0 1
  have zl := block_lt C0
  have zn : ¬ eb = W.heap.size := by have := h.lt; omega
  have q2 : W0.cell? ⟨eb, 2, none⟩ = some (.int .u64 (x.num : Nat)) := h0.c 2
  have q3 : W0.cell? ⟨eb, 3, none⟩ = some (.int .i64 x.node) := h0.c 3
  have q4 : W0.cell? ⟨eb, 4, none⟩ = some (.int .u32 (x.sus : Nat)) := h0.c 4
  have f2 := h0.free 2
  have f3 := h0.free 3
  have f4 := h0.free 4
  have ql : eb < W0.heap.size := h0.lt
  obtain ⟨W1, hW1⟩ : ∃ W1, ((W0.setCell ⟨eb, 2, none⟩ (.int .u64 (n : Nat))).setCell ⟨eb, 3, none⟩ (.int .i64 m)).setCell ⟨eb, 4, none⟩ (.int .u32 0) = W1 := ⟨_, rfl⟩
  have U : EL W1 eb g c me fp ⟨n, m, 0, x.len, x.fin, x.po, x.pc, x.ps, x.qo, x.tc, x.ts⟩ ∧ Fe W0 W1 (Mine eb fp) := by
    refine h0.put ?_ n m 0 x.len x.fin ?_ n1 va (by omega) h.l1 h.l2 h.f2
    · rw [← hW1]
      exact ((Fe.grown (grown_set _ eb 2 _) (fun y e => by cases e; rfl)).trans (Fe.grown (grown_set _ eb 3 _) (T := fun b => b = eb) (fun y e => by cases e; rfl)) (fun _ _ e => e)).trans (Fe.grown (grown_set _ eb 4 _) (T := fun b => b = eb) (fun y e => by cases e; rfl)) (fun _ _ e => e)
    · rw [← hW1, heap_setCell_same _ eb 4 _ _ _ (heap_setCell_same _ eb 3 _ _ _ (heap_setCell_same _ eb 2 _ _ _ h0.blk))]
      rfl
  have H1 := hide U.1
  have F1 : Hid (Fe W W1 (Mine eb fp)) := (Fe.below B0 _).trans U.2 (fun _ _ e => e)
  have p5 : W1.cell? ⟨eb, 5, none⟩ = some (.int .u64 (x.len : Nat)) := H1.out.c 5
  have p0 : W1.cell? ⟨eb, 0, none⟩ = some (.pointer (some ⟨g, 0, none⟩)) := H1.out.c 0
  have pl : eb < W1.heap.size := H1.out.lt
  have HL : Hid (1 ≤ L2 ∧ L2 ≤ c.em) := by have := h.l1; have := h.l2; have := h.n1; show _ ∧ _; omega
  have hlb : (x.len : Int) ≤ 100000 := by have := h.l2; omega
  have hl0 : (0 : Int) ≤ (x.len : Int) := by omega
  have hx : ((em : Int) < (L2 : Int)) = False := by simp; omega
  have hw2 : IntKind.u64.wrap (L2 : Int) = (L2 : Int) := IntWalk.u64_in _ ⟨by omega, by omega⟩
  have hfd := fld7 c.f c.mb c.delay c.win c.every c.beat c.ep em c.mn c.ms
  have HCF : Hid (∀ q, Calls Try.prog 39 #[.pointer (some ⟨g, 0, none⟩)] (W1.drewN q) fun e w' => e = .returned (.agg #[.int .i64 c.f, .int .i64 c.mb, .int .u64 (c.delay : Nat), .int .u64 (c.win : Nat), .int .u64 (c.every : Nat), .int .u64 (c.beat : Nat), .int .u64 (c.ep : Nat), .int .u64 (em : Nat), .int .u64 (c.mn : Nat), .int .u64 (c.ms : Nat)]) ∧ Hid (w'.cell? ⟨eb, 5, none⟩ = some (.int .u64 (x.len : Nat)) ∧ w'.cell? ⟨eb, 0, none⟩ = some (.pointer (some ⟨g, 0, none⟩)) ∧ w'.frozen? ⟨eb, 5, none⟩ = false ∧ eb < w'.heap.size ∧ Calls Try.prog 29 #[.pointer (some ⟨eb, 0, none⟩), .int .u64 (now : Nat)] (w'.setCell ⟨eb, 5, none⟩ (.int .u64 (L2 : Nat))) fun e W' => e = .returned (.tuple #[]) ∧ Hid (Did W eb g c me fp (Ev.begin (Ex.mk n m 0 L2 x.fin x.po x.pc x.ps x.qo x.tc x.ts).abs now) W'))) := fun q => by
    refine (config_live (H1.out.kept (drewN_below W1 q)).pg hok).mono ?_
    rintro e w' ⟨rfl, hb⟩
    have hb1 : Below W1.heap.size W1 w' := (drewN_below W1 q).trans (hb.mono (by simp))
    have h2 := H1.out.kept hb1
    refine ⟨by rw [cfgcells, hE], h2.c 5, h2.c 0, h2.free 5, h2.lt, ?_⟩
    have U := h2.upd 5 (.int .u64 (L2 : Nat)) n m 0 L2 x.fin rfl n1 va (by omega) HL.out.1 HL.out.2 h.f2
    refine (beginE U.1 hem now hnow).mono ?_
    rintro e W' ⟨rfl, d⟩
    exact ⟨rfl, Did.of (F1.out.trans ((Fe.below hb1 _).trans U.2 (fun _ _ e => e)) (fun _ _ e => e)) d.out⟩
  have HW0 := hide hW0
  have HW1 := hide hW1
  clear U B0 C0 h0 H1 F1 hW0 hW1 h HL hem hok n1 va hnow hE h1
  generalize (n : Int) = ni at *
  generalize (now : Int) = nw at *
  generalize (x.len : Int) = ln at *
  generalize (x.num : Int) = nu at *
  generalize (x.sus : Int) = su at *
  go_enter Try.func37, Try.ntmps37
  go_upto_region 1 with fail
  rw [HW0.out]
  generalize W.heap.size = wb at *
  go_upto_region 2 with fail
  rw [HW1.out]
  clear HW1 HW0 q2 q3 q4 f2 f3 f4 ql z0 z1 zl zn
  go_region_with ((go_at_call 39; refine (HCF.out _).mono ?_; rintro e w3 ⟨rfl, G⟩; obtain ⟨y5, y0, g5, yl, HBG⟩ := G.out; have HBH := hide HBG; clear HBG))
  all_goals go_wp2_with (go_at_call 29; refine HBH.out.mono ?_; rintro e w4 ⟨rfl, D⟩)
  all_goals go_end0
  all_goals exact ⟨rfl, D.out⟩
theorem enterE {W : World} {eb g : Nat} {c : Cf} {me : Nat} {fp : Nat → Prop} {x : Ex} (h : EL W eb g c me fp x) (hok : c.Ok) (hem : c.em ≤ 100000) (n : Nat) (m : Int) (n1 : 1 ≤ n) (va : c.valid n m = true) (now : Nat) (hnow : now < 18446744073709551616) :
    Calls Try.prog 37 #[.pointer (some ⟨eb, 0, none⟩), .agg #[.int .u64 (n : Nat), .int .i64 m], .int .u64 (now : Nat)] W fun e W' => e = .returned (.tuple #[]) ∧ Hid (Did W eb g c me fp (Ev.enter c x.abs n m now) W') := by
  by_cases h1 : c.em < 2 * x.len
  · exact enter_a h hok hem n m n1 va now hnow (2 * x.len) c.em (by omega) rfl h1
  · exact enter_b h hok hem n m n1 va now hnow (2 * x.len) c.em (by omega) rfl (by omega)
end Go.Proofs.Ythfbimbadkmhhaa
namespace Go.Proofs.Ythfbimbadkmhhaa
open Go.RowKit Crc

theorem Did.refl {W : World} {eb g : Nat} {c : Cf} {me : Nat} {fp : Nat → Prop} {x : Ex} (h : EL W eb g c me fp x) : Did W eb g c me fp x.abs W := ⟨fp, x, h, rfl, Fe.refl _ _, fun _ hb => .inl hb⟩
def Ev.timeout (c : Cf) (me : Nat) (s : Ev) (now : Nat) : Ev × Bool :=
  if now < s.fin then (s, false) else if s.pv.length = 0 then (Ev.begin ⟨s.num, s.node, s.sus, c.ep, s.fin, s.pv, s.th⟩ now, true) else (Ev.begin ⟨s.num, s.node, withB s.sus (me : Nat), s.len, s.fin, s.pv, s.th⟩ now, true)

set_option maxRecDepth 10000 in
set_option maxHeartbeats 1600000 in
theorem timeoutE {W : World} {eb g : Nat} {c : Cf} {me : Nat} {fp : Nat → Prop} {x : Ex} (h : EL W eb g c me fp x) (hok : c.Ok) (hem : c.em ≤ 100000) (hep : 1 ≤ c.ep) (hpe : c.ep ≤ c.em) (now : Nat) (hnow : now < 18446744073709551616) :
    Calls Try.prog 21 #[.pointer (some ⟨eb, 0, none⟩), .int .u64 (now : Nat)] W fun e W' => e = .returned (.bool (Ev.timeout c me x.abs now).2) ∧ Hid (Did W eb g c me fp (Ev.timeout c me x.abs now).1 W') := by
  have HM := hide (madeE h)
  have q6 : W.cell? ⟨eb, 6, none⟩ = some (.int .u64 (x.fin : Nat)) := h.c 6
  have ql : eb < W.heap.size := h.lt
  by_cases h1 : now < x.fin
  · have e1 : Ev.timeout c me x.abs now = (x.abs, false) := by unfold Ev.timeout Ex.abs; simp only [if_pos h1]
    rw [e1]
    have HD := hide (Did.refl h)
    have hd : decide ((now : Int) < (x.fin : Int)) = true := by simp; omega
    clear h h1 e1 hok hem hep hpe hnow
    generalize (x.fin : Int) = f at *
    generalize (now : Int) = nw at *
    go_enter Try.func21, Try.ntmps21
    go_wp2_with (go_at_call 13; refine HM.out.mono ?_; rintro e w1 ⟨rfl, rfl⟩)
    go_ret
    exact ⟨rfl, HD.out⟩
  · have hd : decide ((now : Int) < (x.fin : Int)) = false := by simp; omega
    have q7 : W.cell? ⟨eb, 7, none⟩ = some (.slice x.po x.ps.length x.pc) := h.c 7
    by_cases h2 : x.ps.length = 0
    · have e1 : Ev.timeout c me x.abs now = (Ev.begin (Ex.mk x.num x.node x.sus c.ep x.fin x.po x.pc x.ps x.qo x.tc x.ts).abs now, true) := by unfold Ev.timeout Ex.abs; simp only [List.length_map, if_neg h1, if_pos h2]
      rw [e1]
      have q0 : W.cell? ⟨eb, 0, none⟩ = some (.pointer (some ⟨g, 0, none⟩)) := h.c 0
      have HCF : Hid (Calls Try.prog 39 #[.pointer (some ⟨g, 0, none⟩)] W fun e w' => e = .returned (.agg #[.int .i64 c.f, .int .i64 c.mb, .int .u64 (c.delay : Nat), .int .u64 (c.win : Nat), .int .u64 (c.every : Nat), .int .u64 (c.beat : Nat), .int .u64 (c.ep : Nat), .int .u64 (c.em : Nat), .int .u64 (c.mn : Nat), .int .u64 (c.ms : Nat)]) ∧ Hid (w'.cell? ⟨eb, 5, none⟩ = some (.int .u64 (x.len : Nat)) ∧ w'.frozen? ⟨eb, 5, none⟩ = false ∧ eb < w'.heap.size ∧ Calls Try.prog 29 #[.pointer (some ⟨eb, 0, none⟩), .int .u64 (now : Nat)] (w'.setCell ⟨eb, 5, none⟩ (.int .u64 (c.ep : Nat))) fun e W' => e = .returned (.tuple #[]) ∧ Hid (Did W eb g c me fp (Ev.begin (Ex.mk x.num x.node x.sus c.ep x.fin x.po x.pc x.ps x.qo x.tc x.ts).abs now) W'))) := by
        refine (config_live h.pg hok).mono ?_
        rintro e w' ⟨rfl, hb⟩
        have h2 := h.kept hb
        refine ⟨rfl, h2.c 5, h2.free 5, h2.lt, ?_⟩
        have U := h2.upd 5 (.int .u64 (c.ep : Nat)) x.num x.node x.sus c.ep x.fin rfl h.n1 h.va h.su hep hpe h.f2
        refine (beginE U.1 hem now hnow).mono ?_
        rintro e W' ⟨rfl, d⟩
        exact ⟨rfl, Did.of ((Fe.below hb _).trans U.2 (fun _ _ e => e)) d.out⟩
      have hfd := fld6 c.f c.mb c.delay c.win c.every c.beat c.ep c.em c.mn c.ms
      clear h h1 e1 hok hem hep hpe hnow
      rw [h2] at q7
      clear h2
      generalize (x.fin : Int) = f at *
      generalize (now : Int) = nw at *
      go_enter Try.func21, Try.ntmps21
      go_wp2_with (first
        | (go_at_call 13; refine HM.out.mono ?_; rintro e w1 ⟨rfl, rfl⟩)
        | (go_at_call 39; refine HCF.out.mono ?_; rintro e w3 ⟨rfl, G⟩; obtain ⟨y5, g5, yl, HBG⟩ := G.out; have HBH := hide HBG; clear HBG)
        | (go_at_call 29; refine HBH.out.mono ?_; rintro e w4 ⟨rfl, D⟩))
      go_ret
      exact ⟨rfl, D.out⟩
    · have e1 : Ev.timeout c me x.abs now = (Ev.begin (Ex.mk x.num x.node (withB x.sus (me : Nat)) x.len x.fin x.po x.pc x.ps x.qo x.tc x.ts).abs now, true) := by unfold Ev.timeout Ex.abs; simp only [List.length_map, if_neg h1, if_neg h2]
      rw [e1]
      have q4 : W.cell? ⟨eb, 4, none⟩ = some (.int .u32 (x.sus : Nat)) := h.c 4
      have q1 : W.cell? ⟨eb, 1, none⟩ = some (.int .i64 (me : Nat)) := h.c 1
      have f4 := h.free 4
      have hz : ((x.ps.length : Int) == 0) = false := by rw [beq_eq_false_iff_ne]; omega
      have HWI : Hid (∀ V, Calls Try.prog 38 #[.int .u32 (x.sus : Nat), .int .i64 (me : Nat)] V fun e w' => e = .returned (.int .u32 ((withB x.sus (me : Nat) : Nat) : Int)) ∧ w' = V) := fun V => with_any x.sus h.su (me : Nat) V
      have HBG : Hid (∀ q, Calls Try.prog 29 #[.pointer (some ⟨eb, 0, none⟩), .int .u64 (now : Nat)] ((W.drewN q).setCell ⟨eb, 4, none⟩ (.int .u32 ((withB x.sus (me : Nat) : Nat) : Int))) fun e W' => e = .returned (.tuple #[]) ∧ Hid (Did W eb g c me fp (Ev.begin (Ex.mk x.num x.node (withB x.sus (me : Nat)) x.len x.fin x.po x.pc x.ps x.qo x.tc x.ts).abs now) W')) := fun q => by
        have h2 := h.kept (drewN_below W q)
        have U := h2.upd 4 (.int .u32 ((withB x.sus (me : Nat) : Nat) : Int)) x.num x.node (withB x.sus (me : Nat)) x.len x.fin rfl h.n1 h.va (withB_lt _ _ h.su) h.l1 h.l2 h.f2
        refine (beginE U.1 hem now hnow).mono ?_
        rintro e W' ⟨rfl, d⟩
        exact ⟨rfl, Did.of ((Fe.below (drewN_below W q) _).trans U.2 (fun _ _ e => e)) d.out⟩
      clear h h1 h2 e1 hok hem hep hpe hnow
      generalize (x.fin : Int) = f at *
      generalize (now : Int) = nw at *
      generalize ((withB x.sus (me : Nat) : Nat) : Int) = wb at *
      generalize (x.sus : Int) = su at *
      generalize x.ps.length = pn at *
      generalize (me : Int) = mi at *
      go_enter Try.func21, Try.ntmps21
      go_upto_region 5 with (go_at_call 13; refine HM.out.mono ?_; rintro e w1 ⟨rfl, rfl⟩)
      go_region_with (go_at_call 38; refine (HWI.out _).mono ?_; rintro e w3 ⟨rfl, rfl⟩)
      all_goals go_wp2_with (go_at_call 29; refine (HBG.out _).mono ?_; rintro e w4 ⟨rfl, D⟩)
      all_goals go_ret
      all_goals exact ⟨rfl, D.out⟩
end Go.Proofs.Ythfbimbadkmhhaa
