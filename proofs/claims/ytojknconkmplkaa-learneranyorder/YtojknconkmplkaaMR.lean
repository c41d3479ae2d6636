import Derived.Test.YtojknconkmplkaaJAc
import Derived.Test.YtojknconkmplkaaMK
import Derived.Test.YtojknconkmplkaaJNw
import Derived.Test.YtojknconkmplkaaMJ
import Derived.Test.YtojknconkmplkaaMD
namespace Go.Proofs.Ytojknconkmplkaa
open Go.RowKit Crc

/-- Who has voted behind i votes. -/
def lvFr (F : Nat) : Nat → Nat
  | 0 => 0
  | i + 1 => withB (lvFr F i) ((2 * F - i : Nat) : Int)
def lvR : List (Nat × Nat × List Nat) := [(300, 2, [9, 8])]
def lvM : Mw := ⟨7, 1, 0, 0, 4, lvR⟩
def lvU (F i : Nat) : Nat → Jv := fun x => if x = 0 ∧ 0 < i then ⟨1, 0, lvFr F i, 4, lvR⟩ else Jv.zero
theorem lv_maj {c : Cf} {F i : Nat} (hF : c.f = (F : Int)) (h1 : 1 ≤ F) (h3 : F ≤ 3) (hi : i ≤ F + 1) : c.maj (lvFr F i) = decide (i = F + 1) := by
  unfold Cf.maj
  rw [hF]
  have hF' : F = 1 ∨ F = 2 ∨ F = 3 := by omega
  rcases hF' with rfl | rfl | rfl
  · have hi' : i = 0 ∨ i = 1 ∨ i = 2 := by omega
    rcases hi' with rfl | rfl | rfl <;> decide
  · have hi' : i = 0 ∨ i = 1 ∨ i = 2 ∨ i = 3 := by omega
    rcases hi' with rfl | rfl | rfl | rfl <;> decide
  · have hi' : i = 0 ∨ i = 1 ∨ i = 2 ∨ i = 3 ∨ i = 4 := by omega
    rcases hi' with rfl | rfl | rfl | rfl | rfl <;> decide
theorem lv_has {F i : Nat} (h1 : 1 ≤ F) (h3 : F ≤ 3) (hi : i ≤ F) : hasB (lvFr F i) ((2 * F - i : Nat) : Int) = false := by
  have hF' : F = 1 ∨ F = 2 ∨ F = 3 := by omega
  rcases hF' with rfl | rfl | rfl
  · have hi' : i = 0 ∨ i = 1 := by omega
    rcases hi' with rfl | rfl <;> decide
  · have hi' : i = 0 ∨ i = 1 ∨ i = 2 := by omega
    rcases hi' with rfl | rfl | rfl <;> decide
  · have hi' : i = 0 ∨ i = 1 ∨ i = 2 ∨ i = 3 := by omega
    rcases hi' with rfl | rfl | rfl | rfl <;> decide
theorem lv_cnt {c : Cf} (hk : c.Ok) {F : Nat} (hF : c.f = (F : Int)) (src : Nat) (hs : src ≤ 2 * F) : cntB c 0 src lvM = true := by
  unfold cntB lvM
  have h1 : c.valid 1 0 = true := by
    unfold Cf.valid Cf.node
    rw [if_neg (by decide)]
    have := hk.mn1
    have := hk.f1
    simp only [Bool.and_eq_true, decide_eq_true_eq]
    omega
  have h2 : validB 4 lvR = true := by decide
  simp only [h1, h2, Bool.and_true, Bool.and_eq_true, decide_eq_true_eq]
  have := hk.ms1
  repeat' constructor
  all_goals first | rfl | decide | omega
theorem lv_acc {c : Cf} (hk : c.Ok) {F i : Nat} (hF : c.f = (F : Int)) (hi : i ≤ F) : accF c 0 (lvU F i) (2 * F - i) lvM = (true, lvU F (i + 1)) := by
  have h1 : 1 ≤ F := by have := hk.f1; omega
  have h3 : F ≤ 3 := by have := hk.f3; omega
  unfold accF
  rw [lv_cnt hk hF _ (by omega), if_neg (by decide)]
  have es : lvM.slot = 0 := rfl
  rw [es]
  by_cases h0 : i = 0
  · subst h0
    have eu : lvU F 0 0 = Jv.zero := by unfold lvU; simp
    rw [eu]
    have hm := lv_maj hF h1 h3 (i := 0) (by omega)
    have e0 : Jv.zero.fr = lvFr F 0 := rfl
    rw [e0, hm, decide_eq_false (by omega), if_neg (by decide), if_pos (by decide)]
    refine Prod.ext rfl (funext fun x => ?_)
    show updT (lvU F 0) 0 _ x = lvU F (0 + 1) x
    unfold updT lvU
    by_cases hx : x = 0
    · simp [hx, lvM, lvFr]
    · simp [hx]
  · have eu : lvU F i 0 = ⟨1, 0, lvFr F i, 4, lvR⟩ := by unfold lvU; simp [show 0 < i by omega]
    rw [eu]
    simp only
    rw [lv_maj hF h1 h3 (by omega), decide_eq_false (by omega), if_neg (by decide), if_neg (by decide), if_pos ⟨rfl, rfl, lv_has h1 h3 hi, rfl, rfl⟩]
    refine Prod.ext rfl (funext fun x => ?_)
    show updT (lvU F i) 0 _ x = lvU F (i + 1) x
    unfold updT lvU
    by_cases hx : x = 0
    · simp [hx, lvFr]
    · simp [hx]
end Go.Proofs.Ytojknconkmplkaa
namespace Go.Proofs.Ytojknconkmplkaa
open Go.RowKit Crc

theorem grown_new {w W : World} {o : Obj} (h : (w.alloc o).grownBy W (some w.heap.size)) : w.grownBy W none := by
  have g := World.grownBy_alloc w o none
  exact ⟨h.os.trans g.os, h.tape.trans g.tape, h.output.trans g.output, Nat.le_trans g.size h.size, fun k hk _ => (h.block k (by simp; omega) (by simp; omega)).trans (g.block k hk (by simp))⟩
theorem setCells_block {t : TypeId} (b : Nat) : ∀ (vs : List Value) (o : Nat) (w : World) (C : Array Value), w.heap[b]? = some (.cells C t (0, 0)) → ∃ C' : Array Value, (w.setCells b o vs).heap[b]? = some (.cells C' t (0, 0)) ∧ C'.size = C.size
  | [], _, w, C, h => ⟨C, h, rfl⟩
  | v :: r, o, w, C, h => by
    rw [World.setCells]
    have h1 := heap_setCell_same w b o _ _ v h
    obtain ⟨C', h2, h3⟩ := setCells_block b r (o + 1) _ _ h1
    exact ⟨C', h2, by rw [h3]; simp⟩
theorem block_of_range {W : World} {b : Nat} {C : Array Value} {t : TypeId} {cs : List Value} (hb : W.heap[b]? = some (.cells C t (0, 0))) (hs : C.size = cs.length) (hr : W.rangeAt b 0 cs) : W.heap[b]? = some (.cells cs.toArray t (0, 0)) := by
  have e : C = cs.toArray := by
    refine Array.ext (by simpa using hs) (fun i h1 h2 => ?_)
    have h3 := hr i _ (List.getElem?_eq_getElem (by simpa using h2))
    rw [Nat.zero_add, block_cell hb i, Array.getElem?_eq_getElem h1] at h3
    simpa using h3
  rw [← e]
  exact hb
theorem wpList_store_box {P : Program} {ops : Array Oper} {rest : List Oper} {op : Oper} {a : Act} {w : World} {Z : Array Value} {t : TypeId} {Q : Exit → Act → World → Prop} (hgd : op.guard = none) (ty : TypeId) (x y : Operand) (ho : op.op = .store ty x y)
    (cs : List Value) (hx : a.eval x = .pointer (some ⟨w.heap.size, 0, none⟩)) (hy : a.eval y = .agg cs.toArray)
    (hz : cs.length = Z.size) (hi : (P.info? ty).map (·.size) = some cs.length) (h1 : ∀ v ∈ cs, v.oneCell' = true)
    (h : ∀ W, w.grownBy W none → W.heap[w.heap.size]? = some (.cells cs.toArray t (0, 0)) → wpList P ops Q rest (a.put op.dst undef) W) : wpList P ops Q (op :: rest) a (w.alloc (.cells Z t)) := by
  have ht : (w.alloc (.cells Z t)).there w.heap.size 0 cs.length := there_new (by omega)
  refine wpList_store_mid hgd ty x y ho w.heap.size 0 cs.toArray hx hy (by simpa using ht) (by simpa using hi) (all_oneCell_toArray h1) ?_
  have g := grown_setCells w.heap.size cs.toArray.toList 0 (w.alloc (.cells Z t))
  obtain ⟨C', h2, h3⟩ := setCells_block w.heap.size cs.toArray.toList 0 (w.alloc (.cells Z t)) Z (alloc_atK _ _)
  exact h _ (grown_new g) (block_of_range h2 (by omega) (World.rangeAt_setCells_same _ _ _ _ ht))

def liveCs (ro : Option Addr) : List Value := Value.int .i64 7 :: .int .u64 1 :: .int .i64 0 :: .int .u64 0 :: .int .u64 0 :: .slice none 0 0 :: .int .u64 4 :: .slice ro 1 1 :: .int .u64 0 :: .int .u64 0 :: .int .i64 0 :: .slice none 0 0 :: .slice none 0 0 :: .bool false :: .int .u64 0 :: .int .u64 0 :: .int .u8 0 :: .int .u8 0 :: .int .u8 0 :: .int .u8 0 :: .int .u8 0 :: .int .u8 0 :: .int .u8 0 :: .int .u8 0 :: .int .u8 0 :: .int .u8 0 :: .int .u8 0 :: .int .u8 0 :: .int .u8 0 :: .int .u8 0 :: .int .u8 0 :: .int .u8 0 :: .int .u8 0 :: .int .u8 0 :: .int .u8 0 :: .int .u8 0 :: .int .u8 0 :: .int .u8 0 :: .int .u8 0 :: .int .u8 0 :: .int .u8 0 :: .int .u8 0 :: .int .u8 0 :: .int .u8 0 :: .int .u8 0 :: .int .u8 0 :: .int .u8 0 :: .int .u8 0 :: .slice none 0 0 :: []
theorem build_live (ro : Option Addr) (w : World) : (Instr.build 50 #[(0, .int .i64 7), (1, .agg #[.int .u64 1, .int .i64 0]), (2, .int .u64 0), (5, .agg #[.int .u64 4, .slice ro 1 1])]).run Try.prog w = .ok (.agg (liveCs ro).toArray) w := by kernel_rfl
theorem live_one (ro : Option Addr) : ∀ v ∈ liveCs ro, v.oneCell' = true := List.all_eq_true.1 rfl
theorem live_len (ro : Option Addr) : (liveCs ro).length = 49 := rfl
def liveM (rb bb : Nat) : Ms := ⟨liveCs (some ⟨rb, 0, none⟩), 7, 1, 0, 0, 4, some ⟨rb, 0, none⟩, 1, 1, [⟨300, 2, some ⟨bb, 0, none⟩, 2, 2, [9, 8]⟩], rb, 0⟩
theorem live_mw (rb bb : Nat) : (liveM rb bb).mw = lvM := rfl
/-- The request and its command, as they lie. -/
structure Lq (rb bb : Nat) (V : World) : Prop where
  hb : V.heap[bb]? = some (.cells #[.int .u8 9, .int .u8 8] 5 (0, 0))
  hr : V.heap[rb]? = some (.cells #[.int .u64 300, .int .u64 2, .slice (some ⟨bb, 0, none⟩) 2 2] 65 (0, 0))
theorem Lq.rqs {rb bb : Nat} {V : World} (h : Lq rb bb V) : Rqs V.heap.size V (some ⟨rb, 0, none⟩) [⟨300, 2, some ⟨bb, 0, none⟩, 2, 2, [9, 8]⟩] rb 0 := by
  refine ⟨fun _ => rfl, fun _ => block_lt h.hr, by simp, fun i r hr j v hv => ?_, fun r hr => ?_⟩
  · have hi : i = 0 := by have := (List.getElem?_eq_some_iff.1 hr).1; simp at this; omega
    subst hi
    simp at hr
    subst hr
    rw [block_cell h.hr]
    simpa [Rq.cells] using hv
  · simp at hr
    subst hr
    refine ⟨show 300 < 18446744073709551616 by decide, show 2 < 18446744073709551616 by decide, rfl, Nat.le_refl _, show 2 ≤ 140737488355328 by decide, show ∀ x ∈ [9, 8], x < 256 by decide, bb, 0, fun _ => rfl, fun _ => block_lt h.hb, fun i hi => ?_⟩
    rw [block_cell h.hb]
    have hi' : i = 0 ∨ i = 1 := by simp at hi; omega
    rcases hi' with rfl | rfl <;> rfl
theorem Lq.ok {rb bb : Nat} {V : World} (h : Lq rb bb V) : (liveM rb bb).Ok V.heap.size V := ⟨rfl, live_one _, rfl, rfl, rfl, rfl, rfl, rfl, show 1 < 18446744073709551616 by decide, show 0 < 18446744073709551616 by decide, show 4 < 18446744073709551616 by decide, h.rqs, rfl⟩
/-- All that lives holds. -/
structure Lv (w : World) (c : Cf) (xb xm rb bb : Nat) (V : World) : Prop where
  bel : Below w.heap.size w V
  cfg : V.heap[w.heap.size]? = some (.cells c.cells 24 (0, 0))
  xb : V.heap[xb]? = some (.cells #[.int .u64 4, .slice (some ⟨rb, 0, none⟩) 1 1] 43 (0, 0))
  xm : V.heap[xm]? = some (.cells (liveCs (some ⟨rb, 0, none⟩)).toArray 50 (0, 0))
  lq : Lq rb bb V
theorem Lv.kept {w V V' : World} {c : Cf} {xb xm rb bb : Nat} (h : Lv w c xb xm rb bb V) (hb : Below V.heap.size V V') : Lv w c xb xm rb bb V' :=
  ⟨h.bel.trans (hb.mono h.bel.size), (hb.block _ (block_lt h.cfg)).trans h.cfg, (hb.block _ (block_lt h.xb)).trans h.xb, (hb.block _ (block_lt h.xm)).trans h.xm, ⟨(hb.block _ (block_lt h.lq.hb)).trans h.lq.hb, (hb.block _ (block_lt h.lq.hr)).trans h.lq.hr⟩⟩
theorem Lv.map {w V V' : World} {c : Cf} {xb xm rb bb mb : Nat} (h : Lv w c xb xm rb bb V) (hg : V.grownBy V' (some mb)) (hm : w.heap.size ≤ mb) {es : Array MapEntry} {k : Nat} (ho : V.heap[mb]? = some (.map es k)) : Lv w c xb xm rb bb V' := by
  have q : ∀ {b : Nat} {cs : Array Value} {t : TypeId}, V.heap[b]? = some (.cells cs t (0, 0)) → V'.heap[b]? = some (.cells cs t (0, 0)) := fun {b cs t} hb => (hg.block _ (block_lt hb) (fun e => by cases e; rw [hb] at ho; cases ho)).trans hb
  exact ⟨h.bel.grown hg h.bel.size (fun k e => by cases e; exact hm), q h.cfg, q h.xb, q h.xm, ⟨q h.lq.hb, q h.lq.hr⟩⟩
theorem LL.obj {W : World} {lb g mb n : Nat} {c : Cf} {low : Nat} {u : Nat → Jv} (h : LL W lb g mb n c low u) : ∃ es k, W.heap[mb]? = some (.map es k) := by
  obtain ⟨m, t1, _⟩ := h.tal
  exact t1.obj

set_option maxRecDepth 100000 in
set_option maxHeartbeats 4000000 in
theorem livesL (c : Cf) (hin : c.In) (hk0 : badOf c.oks = -1) (w : World) : Calls Try.prog 5 #[.agg c.cells] w fun e w' => e = .returned (.bool true) ∧ Hid (Below w.heap.size w w') := by
  have hk : c.Ok := cf_ok hk0
  obtain ⟨F, hF⟩ : ∃ F : Nat, c.f = (F : Int) := ⟨c.f.toNat, by have := hk.f1; omega⟩
  have hF1 : 1 ≤ F := by have := hk.f1; omega
  have hF3 : F ≤ 3 := by have := hk.f3; omega
  obtain ⟨W1, hW1⟩ : ∃ W1, w.alloc (.cells c.cells 24) = W1 := ⟨_, rfl⟩
  have B1 : Hid (Below w.heap.size w W1) := by rw [← hW1]; exact (Below.refl _ w).alloc (Nat.le_refl _) _
  have C1 : Hid (W1.heap[w.heap.size]? = some (.cells c.cells 24 (0, 0))) := by rw [← hW1]; exact alloc_atK _ _
  have HNW := hide (newL c hin hk0 0 (Nat.zero_le _) W1)
  have HK := hide hk
  have HF := hide hF
  obtain ⟨z0, z1, z2, z3, z4, z5, z6, z7, z8, z9⟩ := cfg_cells C1.out
  have HCC : Hid (∀ V : World, V.heap[w.heap.size]? = some (.cells c.cells 24 (0, 0)) → V.cell? ⟨w.heap.size, 0, none⟩ = some (.int .i64 (F : Int))) := fun V h => by rw [← hF]; exact (cfg_cells h).1
  have HW1 := hide hW1
  clear hW1 hin hk0 hk hF
  go_enter Try.func5, Try.ntmps5
  go_upto_region 1 with fail
  rw [HW1.out]
  clear HW1
  unfold Cf.cells at HNW
  go_wp2_with fail
  refine HNW.out.mono ?_
  rintro e w2 ⟨lb, g, mb, rfl, G2⟩
  clear z0 z1 z2 z3 z4 z5 z6 z7 z8 z9 HNW
  go_upto_region 5 with fail
  obtain ⟨W5, hW5⟩ : ∃ W5, ((w2.alloc (.cells #[.int .u8 9, .int .u8 8] 5)).alloc (.cells #[.int .u64 300, .int .u64 2, .slice (some ⟨w2.heap.size, 0, none⟩) 2 2] 65)).alloc (.cells #[.int .u64 4, .slice (some ⟨w2.heap.size + 1, 0, none⟩) 1 1] 43) = W5 := ⟨_, rfl⟩
  have H5 : Hid (Below w2.heap.size w2 W5 ∧ W5.heap[w2.heap.size]? = some (.cells #[.int .u8 9, .int .u8 8] 5 (0, 0)) ∧ W5.heap[w2.heap.size + 1]? = some (.cells #[.int .u64 300, .int .u64 2, .slice (some ⟨w2.heap.size, 0, none⟩) 2 2] 65 (0, 0)) ∧ W5.heap[w2.heap.size + 1 + 1]? = some (.cells #[.int .u64 4, .slice (some ⟨w2.heap.size + 1, 0, none⟩) 1 1] 43 (0, 0))) := by
    have e1 : (w2.alloc (.cells #[.int .u8 9, .int .u8 8] 5)).heap.size = w2.heap.size + 1 := by simp
    have e2 : ((w2.alloc (.cells #[.int .u8 9, .int .u8 8] 5)).alloc (.cells #[.int .u64 300, .int .u64 2, .slice (some ⟨w2.heap.size, 0, none⟩) 2 2] 65)).heap.size = w2.heap.size + 1 + 1 := by simp
    have h1 := alloc_atK w2 (.cells #[.int .u8 9, .int .u8 8] 5)
    have h2 := alloc_atK (w2.alloc (.cells #[.int .u8 9, .int .u8 8] 5)) (.cells #[.int .u64 300, .int .u64 2, .slice (some ⟨w2.heap.size, 0, none⟩) 2 2] 65)
    have h3 := alloc_atK ((w2.alloc (.cells #[.int .u8 9, .int .u8 8] 5)).alloc (.cells #[.int .u64 300, .int .u64 2, .slice (some ⟨w2.heap.size, 0, none⟩) 2 2] 65)) (.cells #[.int .u64 4, .slice (some ⟨w2.heap.size + 1, 0, none⟩) 1 1] 43)
    rw [e1] at h2
    rw [e2] at h3
    rw [← hW5]
    refine ⟨((below_alloc1 w2 _).alloc (by simp) _).alloc (by simp; omega) _, ?_, ?_, h3⟩
    · exact ((World.grownBy_alloc _ _ none).block _ (by rw [e2]; omega) (by simp)).trans (((World.grownBy_alloc _ _ none).block _ (by rw [e1]; omega) (by simp)).trans h1)
    · exact ((World.grownBy_alloc _ _ none).block _ (by rw [e2]; omega) (by simp)).trans h2
  rw [hW5]
  clear hW5
  have x0 := block_cell H5.out.2.2.2 0
  have x1 := block_cell H5.out.2.2.2 1
  simp at x0 x1
  have HSZ : Hid ((Try.prog.info? 50).map (·.size) = some (liveCs (some ⟨w2.heap.size + 1, 0, none⟩)).length) := by show _ = _; rw [live_len]; kernel_rfl
  have HON := hide (live_one (some ⟨w2.heap.size + 1, 0, none⟩))
  have HBL := hide (build_live (some ⟨w2.heap.size + 1, 0, none⟩))
  have HLEN := hide (live_len (some ⟨w2.heap.size + 1, 0, none⟩))
  obtain ⟨LC, hLC⟩ : ∃ LC, liveCs (some ⟨w2.heap.size + 1, 0, none⟩) = LC := ⟨_, rfl⟩
  rw [hLC] at HSZ HON HBL HLEN
  have HLC := hide hLC
  clear hLC
  iterate 7 go_step
  refine wpList_pure rfl (exec_build (t := 50) (parts := #[(0, .const (.int .i64 7)), (1, .tmp 27), (2, .const (.int .u64 0)), (5, .tmp 28)]) rfl (by have h := HBL.out; simpa [Act.eval] using h _)) ?_
  simp only [Act.put, List.setIfInBounds_toArray, List.set_cons_zero, List.set_cons_succ]
  iterate 3 go_step
  refine wpList_store_box rfl 50 _ _ rfl LC rfl rfl (by rw [HLEN.out]; rfl) HSZ.out HON.out ?_
  intro W6 g6 rb6
  simp only [Act.put]
  have HLV : Hid (Lv w c (w2.heap.size + 1 + 1) W5.heap.size (w2.heap.size + 1) w2.heap.size W6) := by
    have b2 := G2.out.2.1
    have b12 := B1.out.trans (b2.mono B1.out.size)
    have b5 := b12.trans (H5.out.1.mono b12.size)
    have q : ∀ {b : Nat} {o : Obj}, W5.heap[b]? = some o → W6.heap[b]? = some o := fun {b o} hb => (g6.block _ (block_lt hb) (by simp)).trans hb
    refine ⟨b5.grown g6 b5.size (fun k e => by cases e), q ((H5.out.1.block _ (Nat.lt_of_lt_of_le (block_lt C1.out) b2.size)).trans ((b2.block _ (block_lt C1.out)).trans C1.out)), q H5.out.2.2.2, ?_, ⟨q H5.out.2.1, q H5.out.2.2.1⟩⟩
    rw [HLC.out]
    exact rb6
  have HLL : Hid (LL W6 lb g mb 0 c 0 (lvU F 0)) := by
    have h := (G2.out.1.kept H5.out.1).kept (W' := W6) ⟨g6.os, g6.tape, g6.output, g6.size, fun i hi => g6.block i hi (by simp)⟩
    have e : lvU F 0 = fun _ => Jv.zero := by funext x; unfold lvU; simp
    rw [e]
    exact h
  have HMB : Hid (w.heap.size ≤ mb) := Nat.le_trans B1.out.size G2.out.2.2.2
  clear g6 rb6 x0 x1 HBL HON H5 G2 B1 C1
  generalize W5.heap.size = xm at *
  generalize w2.heap.size + 1 + 1 = xb at *
  generalize hrb : w2.heap.size + 1 = rb at *
  clear hrb
  generalize w2.heap.size = bb at *
  go_wp2
  go_loopw [7, 8, 9] (fun i p q wr => ∃ k : Nat, k ≤ F + 1 ∧ i = .int .i64 k ∧ ∃ n, n ≤ k ∧ Hid (Lv w c xb xm rb bb wr) ∧ Hid (LL wr lb g mb n c 0 (lvU F k))) (fun i _ _ _ => F + 1 - (intOf i).toNat)
  case atStart => exact ⟨0, by omega, rfl, 0, Nat.le_refl _, HLV.out, HLL.out⟩
  case round =>
    clear HLV HLL
    obtain ⟨k, hk, rfl, n, hnk, HLV, HLL⟩ := hrel
    have q0 := HCC.out wr HLV.out.cfg
    have HDC : Hid (Calls Try.prog 12 #[.pointer (some ⟨lb, 0, none⟩), .int .u64 0] wr fun e w' => ∃ ao m cap, e = .returned (.tuple #[.agg #[.int .u64 (decS c (lvU F k 0) : Nat), .slice ao m cap], .bool (decide (k = F + 1))]) ∧ Hid (BtOk w' (decS c (lvU F k 0)) (.slice ao m cap) (decR c (lvU F k 0)) ∧ Below wr.heap.size wr w')) := by
      have h := decidedL HK.out HLL.out 0 (by decide)
      have e : c.maj (lvU F k 0).fr = decide (k = F + 1) := by
        have h2 := lv_maj HF.out hF1 hF3 hk
        by_cases h0 : k = 0
        · subst h0
          have : (lvU F 0 0).fr = lvFr F 0 := by unfold lvU; simp [lvFr, Jv.zero]
          rw [this]; exact h2
        · have : (lvU F k 0).fr = lvFr F k := by unfold lvU; simp [show 0 < k by omega]
          rw [this]; exact h2
      rw [e] at h
      exact h
    by_cases hlt : k ≤ F
    · have d0 : decide (k = F + 1) = false := decide_eq_false (by omega)
      rw [d0] at HDC
      generalize decS c (lvU F k 0) = ds at *
      have HAC : Hid (∀ w3 o, Below wr.heap.size wr w3 → Calls Try.prog 7 #[.pointer (some ⟨lb, 0, none⟩), .int .u64 (2 * (F : Int) - (k : Int)), .agg LC.toArray] (w3.alloc o) fun e w' => e = .returned (.bool true) ∧ Hid (Lv w c xb xm rb bb w' ∧ LL w' lb g mb (n + 1) c 0 (lvU F (k + 1)))) := fun w3 o hb => by
        have hb4 : Below wr.heap.size wr (w3.alloc o) := hb.alloc hb.size o
        have hlv := HLV.out.kept hb4
        have hll := HLL.out.kept hb4
        have ha := acceptL HK.out hll (by omega) (2 * F - k) (liveM rb bb) hlv.lq.ok
        rw [live_mw, lv_acc HK.out HF.out hlt] at ha
        have ei : ((2 * F - k : Nat) : Int) = 2 * (F : Int) - (k : Int) := by omega
        rw [ei] at ha
        have ec : (liveM rb bb).cs = LC := HLC.out
        rw [ec] at ha
        refine ha.mono ?_
        rintro e w' ⟨z, u', rfl, G⟩
        obtain ⟨e1, h1, h2⟩ := G.out
        cases e1
        obtain ⟨es, kk, ho⟩ := hll.obj
        exact ⟨rfl, hlv.map h2 HMB.out ho, h1⟩
      have HRX : Hid (∀ w3 o, Below wr.heap.size wr w3 → (w3.alloc o).rangeAt xm 0 LC ∧ (w3.alloc o).cell? ⟨w.heap.size, 0, none⟩ = some (.int .i64 (F : Int))) := fun w3 o hb => by
        have hlv := HLV.out.kept (hb.alloc hb.size o)
        refine ⟨?_, HCC.out _ hlv.cfg⟩
        have h := hlv.xm
        rw [HLC.out] at h
        exact blk_range h
      go_wp2_with fail
      refine HDC.out.mono ?_
      rintro e w3 ⟨ao, m', cap, rfl, G3⟩
      have HB3 := hide G3.out.2
      obtain ⟨w4, hw4⟩ : ∃ w4, w3.alloc (.cells #[.int .u64 (ds : Nat), .slice ao m' cap] 43) = w4 := ⟨_, rfl⟩
      have HA4 := hide (HAC.out w3 (.cells #[.int .u64 (ds : Nat), .slice ao m' cap] 43) HB3.out)
      have HR4 := hide (HRX.out w3 (.cells #[.int .u64 (ds : Nat), .slice ao m' cap] 43) HB3.out)
      rw [hw4] at HA4 HR4
      have HW4 := hide hw4
      clear hw4 G3 q0 HDC HAC HRX
      have q1 := HR4.out.2
      go_upto_region 10 with fail
      rw [HW4.out]
      go_wp2_with (first | (refine wpList_load_midG (by rfl) 50 _ rfl xm 0 rfl LC _ HR4.out.1 Try.underlying50 rfl HSZ.out ?_; simp only [Act.put, List.setIfInBounds_toArray, List.set_cons_zero, List.set_cons_succ]))
      refine HA4.out.mono ?_
      rintro e w5 ⟨rfl, G5⟩
      clear q1
      go_wp2
      go_roundw
      case rel => exact ⟨k + 1, by omega, by go_num, n + 1, by omega, G5.out.1, G5.out.2⟩
      case measure => simp [intOf]; omega
    · obtain rfl : k = F + 1 := by omega
      have d0 : decide (F + 1 = F + 1) = true := decide_eq_true rfl
      rw [d0] at HDC
      have e1 : decS c (lvU F (F + 1) 0) = 4 ∧ decR c (lvU F (F + 1) 0) = lvR := by
        have e : lvU F (F + 1) 0 = ⟨1, 0, lvFr F (F + 1), 4, lvR⟩ := by unfold lvU; simp
        have hm : c.maj (lvFr F (F + 1)) = true := by rw [lv_maj HF.out hF1 hF3 hk]; simp
        unfold decS decR
        rw [e]
        simp only [hm, if_true]
        exact ⟨trivial, trivial⟩
      rw [e1.1, e1.2] at HDC
      clear e1 d0
      have HSB : Hid (∀ w3 o, Below wr.heap.size wr w3 → ∀ ao m cap, BtOk w3 4 (.slice ao m cap) lvR → Calls Try.prog 13 #[.agg #[.int .u64 4, .slice ao m cap], .agg #[.int .u64 4, .slice (some ⟨rb, 0, none⟩) 1 1]] (w3.alloc o) fun e w' => e = .returned (.bool true) ∧ Hid (Below w.heap.size w w')) := fun w3 o hb ao m cap hbt => by
        have hb3 : Below w3.heap.size w3 (w3.alloc o) := (Below.refl _ _).alloc (Nat.le_refl _) o
        have hb4 : Below wr.heap.size wr (w3.alloc o) := hb.alloc hb.size o
        have hlv := HLV.out.kept hb4
        obtain ⟨ro', rc', rs', b', off', e1, e2, e3, e4⟩ := hbt.kept hb3
        cases e1
        refine (sameBatch_any (w := w3.alloc o) 4 4 rs'.length 1 cap 1 rfl rfl e3 hlv.lq.rqs).mono ?_
        rintro e w' ⟨rfl, g⟩
        refine ⟨?_, hlv.bel.trans (g.out.mono hlv.bel.size)⟩
        have ev : rs'.map Rq.val = [(⟨300, 2, some ⟨bb, 0, none⟩, 2, 2, [9, 8]⟩ : Rq)].map Rq.val := e2
        rw [ev]
        simp
      have HXB : Hid (∀ w3 o, Below wr.heap.size wr w3 → (w3.alloc o).cell? ⟨xb, 0, none⟩ = some (.int .u64 4) ∧ (w3.alloc o).cell? ⟨xb, 1, none⟩ = some (.slice (some ⟨rb, 0, none⟩) 1 1)) := fun w3 o hb => by
        have hlv := HLV.out.kept (hb.alloc hb.size o)
        exact ⟨block_cell hlv.xb 0, block_cell hlv.xb 1⟩
      go_wp2_with fail
      refine HDC.out.mono ?_
      rintro e w3 ⟨ao, m', cap, rfl, G3⟩
      obtain ⟨w4, hw4⟩ : ∃ w4, w3.alloc (.cells #[.int .u64 ((4 : Nat) : Int), .slice ao m' cap] 43) = w4 := ⟨_, rfl⟩
      have HA4 := hide (HSB.out w3 (.cells #[.int .u64 ((4 : Nat) : Int), .slice ao m' cap] 43) G3.out.2 ao m' cap G3.out.1)
      have HX4 := hide (HXB.out w3 (.cells #[.int .u64 ((4 : Nat) : Int), .slice ao m' cap] 43) G3.out.2)
      have HC4 := hide (alloc_atK w3 (.cells #[.int .u64 ((4 : Nat) : Int), .slice ao m' cap] 43))
      rw [hw4] at HA4 HX4 HC4
      have HW4 := hide hw4
      clear hw4 G3 q0 HDC HSB HXB
      have y0 := block_cell HC4.out 0
      have y1 := block_cell HC4.out 1
      simp at y0 y1
      obtain ⟨y2, y3⟩ := HX4.out
      go_upto_region 13 with fail
      rw [show (.cells #[.int .u64 4, .slice ao m' cap] 43 : Obj) = .cells #[.int .u64 ((4 : Nat) : Int), .slice ao m' cap] 43 from rfl, HW4.out]
      go_wp2_with fail
      refine HA4.out.mono ?_
      rintro e w5 ⟨rfl, G5⟩
      go_wp2
      go_ret
      exact ⟨rfl, G5.out⟩
end Go.Proofs.Ytojknconkmplkaa
