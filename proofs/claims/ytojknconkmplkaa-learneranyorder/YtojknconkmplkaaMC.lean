import Derived.Test.YtojknconkmplkaaBNew
import Derived.Deep.RegionHeld
import Derived.Deep.RegionWith
namespace Go.Proofs.Ytojknconkmplkaa
open Go.RowKit

set_option maxRecDepth 10000 in
set_option maxHeartbeats 800000 in
theorem none0x (w : World) : Calls Try.prog 30 #[] w fun e w' => e = .returned (.agg #[.slice none 0 0, .int .i64 0]) ∧ w' = w.alloc (.cells #[.slice none 0 0, .int .i64 0] 61) := by
  go_enter Try.func30, Try.ntmps30
  go_wp2
  exact bodyPost_ret (v := .agg #[.slice none 0 0, .int .i64 0]) (by simp [results, Try.results30, go_sem]) rfl ⟨rfl, rfl⟩
theorem new_fin {w w2 : World} {p : Nat} (hb : Below w.heap.size w w2) (hp : w.heap.size ≤ p) (u0 u1 : Value) (o1 o2 : Obj) :
    Below w.heap.size w ((((w2.setCell ⟨p, 0, none⟩ u0).setCell ⟨p, 1, none⟩ u1).alloc o1).alloc o2).drew ∧ ((((w2.setCell ⟨p, 0, none⟩ u0).setCell ⟨p, 1, none⟩ u1).alloc o1).alloc o2).drew.heap[w2.heap.size]? = some o1 ∧ ((((w2.setCell ⟨p, 0, none⟩ u0).setCell ⟨p, 1, none⟩ u1).alloc o1).alloc o2).drew.heap[w2.heap.size + 1]? = some o2 := by
  have b2 := (hb.setCell (p := ⟨p, 0, none⟩) hp u0).setCell (p := ⟨p, 1, none⟩) hp u1
  have hs : ((w2.setCell ⟨p, 0, none⟩ u0).setCell ⟨p, 1, none⟩ u1).heap.size = w2.heap.size := by simp
  generalize ((w2.setCell ⟨p, 0, none⟩ u0).setCell ⟨p, 1, none⟩ u1) = W at *
  refine ⟨((b2.alloc b2.size o1).alloc (by have := b2.size; simp; omega) o2).drew, ?_, ?_⟩
  · rw [← hs]
    exact (Below.heap_alloc (W.alloc o1) o2 W.heap.size (by simp)).trans (alloc_atK W o1)
  · have h := alloc_atK (W.alloc o1) o2
    rw [show (W.alloc o1).heap.size = W.heap.size + 1 by simp, hs] at h
    exact h
set_option maxRecDepth 10000 in
set_option maxHeartbeats 800000 in
theorem refNew_ok (c : Cf) (hk : badOf c.oks = -1) (w : World) : Calls Try.prog 26 #[.agg c.cells] w fun e w' => ∃ g, RNewP w (.pointer (some ⟨g, 0, none⟩)) [] 0 e w' ∧ Hid (w'.heap[g]? = some (.cells c.cells 124 (0, 0)) ∧ w.heap.size ≤ g) := by
  have HNN := hide none0x
  have HFL : Hid (∀ W, Calls Try.prog 45 #[.agg c.cells] W fun e w' => e = .returned (.int .i64 (-1)) ∧ Below W.heap.size W w') := fun W => by rw [← hk]; exact refField c W
  unfold RNewP
  obtain ⟨W1, hW1⟩ : ∃ W1, (w.alloc (.cells c.cells 24)).alloc (.cells #[.slice none 0 0, .int .i64 0] 61) = W1 := ⟨_, rfl⟩
  have hs1 : (w.alloc (.cells c.cells 24)).heap.size = w.heap.size + 1 := by simp
  have Q1 : Hid (FBox (w.heap.size + 1) W1) := by rw [← hW1, ← hs1]; exact fbox_new _
  have B1 : Hid (Below w.heap.size w W1) := by rw [← hW1]; exact ((Below.refl _ w).alloc (Nat.le_refl _) _).alloc (by simp) _
  have C1 : Hid (W1.heap[w.heap.size]? = some (.cells c.cells 24 (0, 0))) := by
    rw [← hW1]
    exact (Below.heap_alloc _ _ _ (by simp)).trans (alloc_atK _ _)
  have q0 : ∀ i, W1.cell? ⟨w.heap.size, i, none⟩ = c.cells[i]? := fun i => block_cell C1.out i
  have z0 := q0 0
  have z1 := q0 1
  have z2 := q0 2
  have z3 := q0 3
  have z4 := q0 4
  have z5 := q0 5
  have z6 := q0 6
  have z7 := q0 7
  have z8 := q0 8
  have z9 := q0 9
  clear q0 hk hs1
  unfold Cf.cells at *
  generalize c.f = f at *
  generalize c.mb = mb at *
  generalize (c.delay : Int) = d at *
  generalize (c.win : Int) = wn at *
  generalize (c.every : Int) = ev at *
  generalize (c.beat : Int) = bt at *
  generalize (c.ep : Int) = ep at *
  generalize (c.em : Int) = em at *
  generalize (c.mn : Int) = mn at *
  generalize (c.ms : Int) = ms at *
  simp at z0 z1 z2 z3 z4 z5 z6 z7 z8 z9
  have HW1 := hide hW1
  clear hW1
  go_enter Try.func26, Try.ntmps26
  go_upto_region 1 with fail
  rw [HW1.out]
  clear HW1
  go_wp2_with fail
  refine (HFL.out W1).mono ?_
  rintro e w2 ⟨rfl, hb2⟩
  have Q2 := hide (Q1.out.kept hb2)
  have B2 := hide (B1.out.trans (hb2.mono B1.out.size))
  have C2 := hide ((hb2.block _ (block_lt C1.out)).trans C1.out)
  have q0 : ∀ i, w2.cell? ⟨w.heap.size, i, none⟩ = (_ : Array Value)[i]? := fun i => block_cell C2.out i
  clear hb2 Q1 B1 HFL z0 z1 z2 z3 z4 z5 z6 z7 z8 z9 C1
  have z0 := q0 0
  have z1 := q0 1
  have z2 := q0 2
  have z3 := q0 3
  have z4 := q0 4
  have z5 := q0 5
  have z6 := q0 6
  have z7 := q0 7
  have z8 := q0 8
  have z9 := q0 9
  simp at z0 z1 z2 z3 z4 z5 z6 z7 z8 z9
  clear q0
  have y0 := block_cell Q2.out 0
  have y1 := block_cell Q2.out 1
  have g0 := block_free Q2.out 0
  have g1 := block_free Q2.out 1
  simp at y0 y1
  have hl3 := block_lt Q2.out
  have hl2 := block_lt C2.out
  go_wp2_with fail
  obtain ⟨p, hp⟩ : ∃ p, w.heap.size + 1 = p := ⟨_, rfl⟩
  rw [hp] at Q2 y0 y1 g0 g1 hl3 ⊢
  obtain ⟨n, hn⟩ : ∃ n, w.heap.size = n := ⟨_, rfl⟩
  have HP := hide hp
  have HN := hide hn
  rw [hn] at z0 z1 z2 z3 z4 z5 z6 z7 z8 z9 hl2 ⊢
  clear hp hn
  have k0 : w2.frozen? ⟨p, 0, none⟩ = false := g0
  have k1 : w2.frozen? ⟨p, 1, none⟩ = false := g1
  go_region_with (go_at_call 30; refine (HNN.out _).mono ?_; rintro e w3 ⟨rfl, rfl⟩)
  all_goals go_wp2
  all_goals first
    | (refine bodyPost_ret (v := .tuple #[.pointer (some ⟨w2.heap.size, 0, none⟩), .agg #[.slice none 0 0, .int .i64 0]]) (by simp [results, Try.results26, go_sem, y0, y1, hl3]) rfl ?_
       obtain ⟨h1, h2, h3⟩ := new_fin (p := p) B2.out (by have := HP.out; omega) (.slice none 0 0) (.int .i64 0) (.cells #[.int .i64 f, .int .i64 mb, .int .u64 d, .int .u64 wn, .int .u64 ev, .int .u64 bt, .int .u64 ep, .int .u64 em, .int .u64 mn, .int .u64 ms] 124) (.cells #[.slice none 0 0, .int .i64 0] 61)
       exact ⟨w2.heap.size, ⟨none, 0, rfl, ⟨0, 0, FV.nil _ _ _ _ _⟩, h1⟩, h2, B2.out.size⟩)
    | (refine bodyPost_ret (v := .tuple #[.pointer (some ⟨w2.heap.size + 1, 0, none⟩), .agg #[.slice none 0 0, .int .i64 0]]) (by simp [results, Try.results26, go_sem, y0, y1, hl3]) rfl ?_
       obtain ⟨h1, h2, h3⟩ := new_fin (p := p) B2.out (by have := HP.out; omega) (.slice none 0 0) (.int .i64 0) (.cells #[.slice none 0 0, .int .i64 0] 61) (.cells #[.int .i64 f, .int .i64 mb, .int .u64 d, .int .u64 wn, .int .u64 ev, .int .u64 bt, .int .u64 ep, .int .u64 em, .int .u64 mn, .int .u64 ms] 124)
       exact ⟨w2.heap.size + 1, ⟨none, 0, rfl, ⟨0, 0, FV.nil _ _ _ _ _⟩, h1⟩, h3, by have := B2.out.size; omega⟩)
end Go.Proofs.Ytojknconkmplkaa
namespace Go.Proofs.Ytojknconkmplkaa
open Go.RowKit

/-- An error that is told so: none, or a chain of faults. -/
def ErrP (w : World) (L : List Lk) (c : Int) (v : Value) : Prop := (v = .nilIface ∧ L = [] ∧ c = 0) ∨ (Chain w.heap.size w L v c ∧ 0 < L.length ∧ L.length ≤ 11 ∧ c ≠ 0)
theorem ErrP.below {w w' : World} {L : List Lk} {c : Int} {v : Value} (h : ErrP w L c v) (hb : Below w.heap.size w w') : ErrP w' L c v := by
  rcases h with h | ⟨h1, h2⟩
  · exact .inl h
  · exact .inr ⟨(Chain.below hb h1).wide hb.size, h2⟩
/-- A value and an error. -/
def PNewP (w : World) (gp : Value) (L : List Lk) (c : Int) (e : Ending) (w' : World) : Prop := ∃ ev, e = .returned (.tuple #[gp, ev]) ∧ Hid (ErrP w' L c ev ∧ Below w.heap.size w w')
theorem cfg_cells {W : World} {n : Nat} {c : Cf} {t : TypeId} (h : W.heap[n]? = some (.cells c.cells t (0, 0))) :
    W.cell? ⟨n, 0, none⟩ = some (.int .i64 c.f) ∧ W.cell? ⟨n, 1, none⟩ = some (.int .i64 c.mb) ∧ W.cell? ⟨n, 2, none⟩ = some (.int .u64 (c.delay : Nat)) ∧ W.cell? ⟨n, 3, none⟩ = some (.int .u64 (c.win : Nat)) ∧ W.cell? ⟨n, 4, none⟩ = some (.int .u64 (c.every : Nat)) ∧ W.cell? ⟨n, 5, none⟩ = some (.int .u64 (c.beat : Nat)) ∧ W.cell? ⟨n, 6, none⟩ = some (.int .u64 (c.ep : Nat)) ∧ W.cell? ⟨n, 7, none⟩ = some (.int .u64 (c.em : Nat)) ∧ W.cell? ⟨n, 8, none⟩ = some (.int .u64 (c.mn : Nat)) ∧ W.cell? ⟨n, 9, none⟩ = some (.int .u64 (c.ms : Nat)) :=
  ⟨block_cell h 0, block_cell h 1, block_cell h 2, block_cell h 3, block_cell h 4, block_cell h 5, block_cell h 6, block_cell h 7, block_cell h 8, block_cell h 9⟩
end Go.Proofs.Ytojknconkmplkaa
namespace Go.Proofs.Ytojknconkmplkaa
open Go.RowKit

/-- The reference's group of a configuration that it took. -/
def haOk (c : Cf) (W : World) (b : Option Addr) : Prop := ∃ h, b = some ⟨h, 0, none⟩ ∧ RefG W h c ∧ h < W.heap.size
theorem haOk.kept {c : Cf} {W W' : World} {b : Option Addr} (h : haOk c W b) (hb : Below W.heap.size W W') : haOk c W' b := by
  obtain ⟨g, rfl, h1, h2⟩ := h
  exact ⟨g, rfl, h1.below hb h2, Nat.lt_of_lt_of_le h2 hb.size⟩
theorem oks_all {bs : List Bool} (h : badOf bs = -1) : ∀ j, j < bs.length → bs.getD j true = true := by
  intro j hj
  cases hb : bs.getD j true with
  | true => rfl
  | false =>
    exfalso
    unfold badOf at h
    rw [List.getD_eq_getElem?_getD, List.getElem?_eq_getElem hj] at hb
    have hlt : bs.findIdx (fun b => !b) < bs.length := List.findIdx_lt_length_of_exists ⟨bs[j], List.getElem_mem hj, by simpa using hb⟩
    rw [if_pos hlt] at h
    omega
theorem cf_ok {c : Cf} (h : badOf c.oks = -1) : c.Ok := by
  have a := oks_all h
  have a0 := a 0 (by simp [Cf.oks])
  have a3 := a 3 (by simp [Cf.oks])
  have a8 := a 8 (by simp [Cf.oks])
  have a9 := a 9 (by simp [Cf.oks])
  simp only [Cf.oks, List.getD_eq_getElem?_getD, List.getElem?_cons_zero, List.getElem?_cons_succ, Option.getD_some, Bool.and_eq_true, decide_eq_true_eq] at a0 a3 a8 a9
  exact ⟨by omega, by omega, by omega, by omega, by omega, by omega, by omega, by omega⟩
theorem refNew_okP (c : Cf) (hk : badOf c.oks = -1) (W : World) : Calls Try.prog 26 #[.agg c.cells] W fun e w' => ∃ a, RNewP W (.pointer a) [] 0 e w' ∧ Hid (haOk c w' a) :=
  (refNew_ok c hk W).mono fun _ _ ⟨g, h1, h2⟩ => ⟨some ⟨g, 0, none⟩, h1, g, rfl, ⟨(cfg_cells h2.out.1).1, (cfg_cells h2.out.1).2.2.2.1, (cfg_cells h2.out.1).2.2.2.2.2.2.2.2.1, (cfg_cells h2.out.1).2.2.2.2.2.2.2.2.2, cf_ok hk⟩, block_lt h2.out.1⟩
theorem refNew_badP (c : Cf) (k : Nat) (hk : badOf c.oks = (k : Int)) (W : World) : Calls Try.prog 26 #[.agg c.cells] W fun e w' => ∃ a, RNewP W (.pointer a) [⟨ballotN, (k : Int)⟩] 180 e w' ∧ Hid (a = none) :=
  (refNew_bad c k hk W).mono fun _ _ h => ⟨none, h, rfl⟩
end Go.Proofs.Ytojknconkmplkaa
