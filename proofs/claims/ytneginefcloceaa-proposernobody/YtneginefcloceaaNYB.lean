import Derived.Test.YtneginefcloceaaNYA
import Derived.Test.YtneginefcloceaaBSp
import Derived.Deep.MidRow
import Derived.Deep.RegionHeld
import Derived.Deep.RegionHeld3
namespace Go.Proofs.Ytneginefcloceaa
open Go.RowKit Crc

theorem Calls.atN {P : Program} {f : FuncId} {args : Array Value} {w w' : World} {Q : Ending → World → Prop} (e : w = w') (h : Calls P f args w' Q) : Calls P f args w Q := by rw [e]; exact h
theorem blk_setN {W : World} {b : Nat} {cs : List Value} {t : TypeId} (h : W.heap[b]? = some (.cells cs.toArray t (0, 0))) (i : Nat) (v : Value) : (W.setCell ⟨b, i, none⟩ v).heap[b]? = some (.cells (cs.set i v).toArray t (0, 0)) := by
  rw [heap_setCell_same _ b i _ _ v h]
  simp only [List.setIfInBounds_toArray]
theorem blk_rangeN {W : World} {b : Nat} {cs : List Value} {t : TypeId} (h : W.heap[b]? = some (.cells cs.toArray t (0, 0))) : W.rangeAt b 0 cs := fun j v hv => by
  rw [Nat.zero_add, block_cell h j, List.getElem?_toArray]
  exact hv
theorem blk_cellN {W : World} {b : Nat} {cs : List Value} {t : TypeId} (h : W.heap[b]? = some (.cells cs.toArray t (0, 0))) {j : Nat} {v : Value} (hv : cs[j]? = some v) : W.cell? ⟨b, j, none⟩ = some v := by
  rw [block_cell h j, List.getElem?_toArray]; exact hv
theorem block_thereN {W : World} {g : Nat} {Z : Array Value} {t : TypeId} {n : Nat} (hb : W.heap[g]? = some (.cells Z t (0, 0))) (h : n ≤ Z.size) : W.there g 0 n := fun j hj => by
  rw [Nat.zero_add]
  exact ⟨by rw [block_cell hb j, Array.getElem?_eq_getElem (by omega)]; rfl, block_free hb j⟩
theorem Vqs.wide {lim lim' : Nat} {w : World} {ao : Option Addr} {vs : List Vq} {b off : Nat} (h : Vqs lim w ao vs b off) (hl : lim ≤ lim') : Vqs lim' w ao vs b off :=
  ⟨h.ad, fun e => Nat.lt_of_lt_of_le (h.lt e) hl, h.le, h.at_, fun v hv => ⟨(h.ok v hv).hl, (h.ok v hv).hR.wide hl⟩⟩
/-- A message as it lies: its cells, and the lists that lend turns. -/
structure Mq where
  (cs : List Value) (vo : Option Addr) (vn vc : Nat) (vs : List Vq) (vb voff : Nat) (st : Nat) (ro : Option Addr) (rn rc : Nat) (rs : List Rq) (rb roff : Nat)
  (co : Option Addr) (cn cc : Nat) (C : List Nat) (do_ : Option Addr) (dn dc : Nat) (D : List Nat)
structure Mq.Ok (lim : Nat) (w : World) (m : Mq) : Prop where
  len : m.cs.length = 49
  one : ∀ u ∈ m.cs, u.oneCell' = true
  c5 : m.cs[5]? = some (.slice m.vo m.vn m.vc)
  c6 : m.cs[6]? = some (.int .u64 (m.st : Nat))
  c7 : m.cs[7]? = some (.slice m.ro m.rn m.rc)
  c11 : m.cs[11]? = some (.slice m.co m.cn m.cc)
  c12 : m.cs[12]? = some (.slice m.do_ m.dn m.dc)
  hv : m.vs.length = m.vn
  hV : Vqs lim w m.vo m.vs m.vb m.voff
  hr : m.rs.length = m.rn
  hR : Rqs lim w m.ro m.rs m.rb m.roff
  hC : Shows lim w m.co m.cn m.cc m.C
  hD : Shows lim w m.do_ m.dn m.dc m.D
theorem Mq.Ok.below {lim : Nat} {w w' : World} {m : Mq} (h : m.Ok lim w) (hb : Below lim w w') : m.Ok lim w' :=
  ⟨h.len, h.one, h.c5, h.c6, h.c7, h.c11, h.c12, h.hv, h.hV.below hb, h.hr, h.hR.below hb, h.hC.belowL hb, h.hD.belowL hb⟩
theorem Mq.Ok.wide {lim lim' : Nat} {w : World} {m : Mq} (h : m.Ok lim w) (hl : lim ≤ lim') : m.Ok lim' w :=
  ⟨h.len, h.one, h.c5, h.c6, h.c7, h.c11, h.c12, h.hv, h.hV.wide hl, h.hr, h.hR.wide hl, h.hC.wide hl, h.hD.wide hl⟩
/-- The two boxes of lendMsg. -/
structure S2N (w : World) (d : List Value) (W : World) : Prop where
  len : d.length = 49
  one : ∀ u ∈ d, u.oneCell' = true
  bel : Below w.heap.size w W
  q0 : W.heap[w.heap.size]? = some (.cells d.toArray 59 (0, 0))
  q1 : ∃ Z : Array Value, W.heap[w.heap.size + 1]? = some (.cells Z 59 (0, 0)) ∧ Z.size = 49
theorem S2N.set {w : World} {d : List Value} {W : World} (h : S2N w d W) (i : Nat) (v : Value) (hv : v.oneCell' = true) : S2N w (d.set i v) (W.setCell ⟨w.heap.size, i, none⟩ v) := by
  have g := grown_set W w.heap.size i v
  obtain ⟨Z, z1, z2⟩ := h.q1
  refine ⟨by simp [h.len], fun u hu => ?_, h.bel.grown g h.bel.size (fun k e => by cases e; exact Nat.le_refl _), blk_setN h.q0 i v, ⟨Z, (g.block _ (block_lt z1) (by simp)).trans z1, z2⟩⟩
  rcases List.mem_or_eq_of_mem_set hu with h1 | h1
  · exact h.one u h1
  · rw [h1]; exact hv
theorem S2N.next {w : World} {d : List Value} {W W' : World} (h : S2N w d W) (hb : Below W.heap.size W W') : S2N w d W' := by
  obtain ⟨Z, z1, z2⟩ := h.q1
  exact ⟨h.len, h.one, h.bel.trans (hb.mono h.bel.size), (hb.block _ (block_lt h.q0)).trans h.q0, ⟨Z, (hb.block _ (block_lt z1)).trans z1, z2⟩⟩
theorem s2_newN (w : World) (cs : List Value) (Z : Array Value) (hz : Z.size = 49) (W1 : World) (hl : cs.length = 49) (ho : ∀ u ∈ cs, u.oneCell' = true) (h1 : (w.alloc (.cells cs.toArray 59)).alloc (.cells Z 59) = W1) : S2N w cs W1 := by
  have h2 := two_box w (.cells cs.toArray 59) (.cells Z 59)
  rw [h1] at h2
  exact ⟨hl, ho, by rw [← h1]; exact (below_alloc1 w _).alloc (by simp) _, h2.1, ⟨Z, h2.2, hz⟩⟩

set_option maxRecDepth 10000 in
set_option maxHeartbeats 1600000 in
theorem lendMsgN {w : World} (m : Mq) (h : m.Ok w.heap.size w) :
    Calls Try.prog 10 #[.agg m.cs.toArray] w fun e w' => ∃ d : List Value, e = .returned (.agg d.toArray) ∧ Hid (d.length = 49 ∧ (∀ u ∈ d, u.oneCell' = true) ∧ Below w.heap.size w w') := by
  have HNEW : Hid (∀ (Z : Array Value) (W1 : World), Z.size = 49 → (w.alloc (.cells m.cs.toArray 59)).alloc (.cells Z 59) = W1 → S2N w m.cs W1) := fun Z W1 hz h1 => s2_newN w m.cs Z hz W1 h.len h.one h1
  have H5 := hide h.c5
  have H6 := hide h.c6
  have H7 := hide h.c7
  have H11 := hide h.c11
  have H12 := hide h.c12
  have HB : Hid (∀ W : World, Below w.heap.size w W → Calls Try.prog 24 #[.agg #[.int .u64 (m.st : Nat), .slice m.ro m.rn m.rc]] W fun e w' => ∃ g, e = .returned (.agg #[.int .u64 (m.st : Nat), .slice (some ⟨g, 0, none⟩) m.rn (m.rn + 1)]) ∧ Hid (Below W.heap.size W w')) := fun W hb => lendBatchN (m.st : Nat) m.rn m.rc h.hr ((h.hR.below hb).wide hb.size)
  have HV : Hid (∀ W : World, Below w.heap.size w W → Calls Try.prog 33 #[.slice m.vo m.vn m.vc] W fun e w' => ∃ g, e = .returned (.slice (some ⟨g, 0, none⟩) m.vn (m.vn + 1)) ∧ Hid (Below W.heap.size W w')) := fun W hb => lendVotesN m.vn m.vc h.hv ((h.hV.below hb).wide hb.size)
  have HC : Hid (∀ W : World, Below w.heap.size w W → Calls Try.prog 28 #[.slice m.co m.cn m.cc] W fun e w' => ∃ g, e = .returned (.slice (some ⟨g, 0, none⟩) m.cn (m.cn + 2)) ∧ Hid (Below W.heap.size W w')) := fun W hb => lendN (h.hC.belowL hb) hb.size
  have HD : Hid (∀ W : World, Below w.heap.size w W → Calls Try.prog 28 #[.slice m.do_ m.dn m.dc] W fun e w' => ∃ g, e = .returned (.slice (some ⟨g, 0, none⟩) m.dn (m.dn + 2)) ∧ Hid (Below W.heap.size W w')) := fun W hb => lendN (h.hD.belowL hb) hb.size
  clear h
  generalize m.cs = cs at *
  generalize (m.st : Int) = st at *
  generalize m.vo = vo at *
  generalize m.vn = vn at *
  generalize m.vc = vc at *
  generalize m.ro = ro at *
  generalize m.rn = rn at *
  generalize m.rc = rc at *
  generalize m.co = co at *
  generalize m.cn = cn at *
  generalize m.cc = cc at *
  generalize m.do_ = do_ at *
  generalize m.dn = dn at *
  generalize m.dc = dc at *
  go_enter Try.func10, Try.ntmps10
  go_upto_region 1 with fail
  generalize hW1 : World.alloc (World.alloc w _) _ = W1
  have S1 : Hid (S2N w cs W1) := HNEW.out _ W1 (by rfl) hW1
  clear hW1 HNEW
  -- the batch
  have z6 := blk_cellN S1.out.q0 H6.out
  have z7 := blk_cellN S1.out.q0 H7.out
  have hlt := block_lt S1.out.q0
  go_wp2_with fail
  refine (HB.out W1 S1.out.bel).mono ?_
  rintro e w2 ⟨g1, rfl, G⟩
  have S2 := hide (S1.out.next G.out)
  clear z6 z7 hlt S1 G HB
  have y6 := blk_cellN S2.out.q0 H6.out
  have y7 := blk_cellN S2.out.q0 H7.out
  have y5 := blk_cellN S2.out.q0 H5.out
  have f6 := block_free S2.out.q0 6
  have f7 := block_free S2.out.q0 7
  have hlt := block_lt S2.out.q0
  obtain ⟨X, hX⟩ : ∃ X, (w2.setCell ⟨w.heap.size, 6, none⟩ (.int .u64 st)).setCell ⟨w.heap.size, 7, none⟩ (.slice (some ⟨g1, 0, none⟩) rn (rn + 1)) = X := ⟨_, rfl⟩
  obtain ⟨c1, hc1⟩ : ∃ c1, (cs.set 6 (.int .u64 st)).set 7 (.slice (some ⟨g1, 0, none⟩) rn (rn + 1)) = c1 := ⟨_, rfl⟩
  have SX : Hid (S2N w c1 X) := by
    have h := (S2.out.set 6 (.int .u64 st) rfl).set 7 (.slice (some ⟨g1, 0, none⟩) rn (rn + 1)) rfl
    rw [hX, hc1] at h
    exact h
  have H5' : Hid (c1[5]? = some (.slice vo vn vc)) := by show _ = _; rw [← hc1, List.getElem?_set_ne (by decide), List.getElem?_set_ne (by decide)]; exact H5.out
  have H11' : Hid (c1[11]? = some (.slice co cn cc)) := by show _ = _; rw [← hc1, List.getElem?_set_ne (by decide), List.getElem?_set_ne (by decide)]; exact H11.out
  have H12' : Hid (c1[12]? = some (.slice do_ dn dc)) := by show _ = _; rw [← hc1, List.getElem?_set_ne (by decide), List.getElem?_set_ne (by decide)]; exact H12.out
  have HX := hide hX
  clear hX hc1 H5 H6 H7 H11 H12
  go_wp2_with fail
  refine Calls.atN HX.out ?_
  clear HX y5 y6 y7 f6 f7 hlt S2
  refine (HV.out X SX.out.bel).mono ?_
  rintro e w3 ⟨g2, rfl, G⟩
  have S3 := hide (SX.out.next G.out)
  clear SX G HV
  have y5 := blk_cellN S3.out.q0 H5'.out
  have y11 := blk_cellN S3.out.q0 H11'.out
  have f5 := block_free S3.out.q0 5
  have hlt := block_lt S3.out.q0
  obtain ⟨Y, hY⟩ : ∃ Y, w3.setCell ⟨w.heap.size, 5, none⟩ (.slice (some ⟨g2, 0, none⟩) vn (vn + 1)) = Y := ⟨_, rfl⟩
  obtain ⟨c2, hc2⟩ : ∃ c2, c1.set 5 (.slice (some ⟨g2, 0, none⟩) vn (vn + 1)) = c2 := ⟨_, rfl⟩
  have SY : Hid (S2N w c2 Y) := by
    have h := S3.out.set 5 (.slice (some ⟨g2, 0, none⟩) vn (vn + 1)) rfl
    rw [hY, hc2] at h
    exact h
  have H11 : Hid (c2[11]? = some (.slice co cn cc)) := by show _ = _; rw [← hc2, List.getElem?_set_ne (by decide)]; exact H11'.out
  have H12 : Hid (c2[12]? = some (.slice do_ dn dc)) := by show _ = _; rw [← hc2, List.getElem?_set_ne (by decide)]; exact H12'.out
  have HY := hide hY
  clear hY hc2 H5' H11' H12'
  go_wp2_with fail
  refine Calls.atN HY.out ?_
  clear HY y5 y11 f5 hlt S3
  refine (HC.out Y SY.out.bel).mono ?_
  rintro e w4 ⟨g3, rfl, G⟩
  have S4 := hide (SY.out.next G.out)
  clear SY G HC
  have y11 := blk_cellN S4.out.q0 H11.out
  have y12 := blk_cellN S4.out.q0 H12.out
  have f11 := block_free S4.out.q0 11
  have hlt := block_lt S4.out.q0
  obtain ⟨X2, hX2⟩ : ∃ Y, w4.setCell ⟨w.heap.size, 11, none⟩ (.slice (some ⟨g3, 0, none⟩) cn (cn + 2)) = Y := ⟨_, rfl⟩
  obtain ⟨c3, hc3⟩ : ∃ c, c2.set 11 (.slice (some ⟨g3, 0, none⟩) cn (cn + 2)) = c := ⟨_, rfl⟩
  have SX2 : Hid (S2N w c3 X2) := by
    have h := S4.out.set 11 (.slice (some ⟨g3, 0, none⟩) cn (cn + 2)) rfl
    rw [hX2, hc3] at h
    exact h
  have H12' : Hid (c3[12]? = some (.slice do_ dn dc)) := by show _ = _; rw [← hc3, List.getElem?_set_ne (by decide)]; exact H12.out
  have HX2 := hide hX2
  clear hX2 hc3 H11 H12
  go_wp2_with fail
  refine Calls.atN HX2.out ?_
  clear HX2 y11 y12 f11 hlt S4
  refine (HD.out X2 SX2.out.bel).mono ?_
  rintro e w5 ⟨g4, rfl, G⟩
  have S5 := hide (SX2.out.next G.out)
  clear SX2 G HD
  have y12 := blk_cellN S5.out.q0 H12'.out
  have f12 := block_free S5.out.q0 12
  have hlt := block_lt S5.out.q0
  obtain ⟨Y2, hY2⟩ : ∃ Y, w5.setCell ⟨w.heap.size, 12, none⟩ (.slice (some ⟨g4, 0, none⟩) dn (dn + 2)) = Y := ⟨_, rfl⟩
  obtain ⟨FR, hc4⟩ : ∃ c, c3.set 12 (.slice (some ⟨g4, 0, none⟩) dn (dn + 2)) = c := ⟨_, rfl⟩
  have SF : Hid (S2N w FR Y2) := by
    have h := S5.out.set 12 (.slice (some ⟨g4, 0, none⟩) dn (dn + 2)) rfl
    rw [hY2, hc4] at h
    exact h
  have HY2 := hide hY2
  clear hY2 hc4 H12'
  go_upto_region 5 with fail
  rw [HY2.out]
  clear HY2 y12 f12 hlt S5
  have HSF : Hid ((Try.prog.info? 59).map (·.size) = some FR.length) := by show _ = _; rw [SF.out.len]; kernel_rfl
  have RF : Hid (Y2.rangeAt w.heap.size 0 FR) := blk_rangeN SF.out.q0
  have TF : Hid (Y2.there (w.heap.size + 1) 0 FR.length) := by obtain ⟨Z, z1, z2⟩ := SF.out.q1; exact block_thereN z1 (by rw [SF.out.len, z2]; exact Nat.le_refl _)
  have FIN : Hid (FR.length = 49 ∧ (∀ u ∈ FR, u.oneCell' = true) ∧ Below w.heap.size w (Y2.setCells (w.heap.size + 1) 0 FR)) := ⟨SF.out.len, SF.out.one, below_setCells SF.out.bel (by omega) SF.out.bel.size⟩
  clear SF
  go_step
  refine wpList_load_mid rfl 59 _ rfl w.heap.size 0 rfl FR _ RF.out Try.underlying59 rfl HSF.out ?_
  simp only [Act.put, List.setIfInBounds_toArray, List.set_cons_zero, List.set_cons_succ]
  refine wpList_store_mid rfl 59 _ _ rfl (w.heap.size + 1) 0 FR.toArray rfl rfl (by simpa using TF.out) (by simpa using HSF.out) (all_oneCell_toArray FIN.out.2.1) ?_
  go_wp2
  simp only [Act.put]
  have hld := run_loadVar_mid (P := Try.prog) (Y2.setCells (w.heap.size + 1) 0 FR) (w.heap.size + 1) 0 59 FR _ (World.rangeAt_setCells_same _ _ _ _ TF.out) Try.underlying59 rfl HSF.out
  refine bodyPost_ret (v := .agg FR.toArray) ?_ rfl ⟨_, rfl, FIN.out⟩
  simp [results, Try.results10, asAddr, hld]
end Go.Proofs.Ytneginefcloceaa
namespace Go.Proofs.Ytneginefcloceaa
open Go.RowKit Crc

/-- A step of a script as it lies. -/
structure OqN where
  (kind bn bd : Int) (ro : Option Addr) (rn rc : Nat) (rs : List Rq) (rb roff : Nat) (src : Int) (m : Mq) (now low : Int) (st : Nat) (qo : Option Addr) (qn qc : Nat) (qs : List Rq) (qb qoff : Nat)
def OqN.cs (o : OqN) : List Value := [.int .i64 o.kind, .int .u64 o.bn, .int .i64 o.bd, .slice o.ro o.rn o.rc, .int .u64 o.src] ++ (o.m.cs ++ [.int .u64 o.now, .int .u64 o.low, .int .u64 (o.st : Nat), .slice o.qo o.qn o.qc])
structure OqN.Ok (lim : Nat) (w : World) (o : OqN) : Prop where
  hr : o.rs.length = o.rn
  hR : Rqs lim w o.ro o.rs o.rb o.roff
  hm : o.m.Ok lim w
  hq : o.qs.length = o.qn
  hQ : Rqs lim w o.qo o.qs o.qb o.qoff
theorem OqN.Ok.below {lim : Nat} {w w' : World} {o : OqN} (h : o.Ok lim w) (hb : Below lim w w') : o.Ok lim w' := ⟨h.hr, h.hR.below hb, h.hm.below hb, h.hq, h.hQ.below hb⟩
theorem OqN.Ok.wide {lim lim' : Nat} {w : World} {o : OqN} (h : o.Ok lim w) (hl : lim ≤ lim') : o.Ok lim' w := ⟨h.hr, h.hR.wide hl, h.hm.wide hl, h.hq, h.hQ.wide hl⟩
theorem OqN.tail {o : OqN} (h : o.m.cs.length = 49) (j : Nat) : o.cs[54 + j]? = [.int .u64 o.now, .int .u64 o.low, .int .u64 (o.st : Nat), .slice o.qo o.qn o.qc][j]? := by
  unfold OqN.cs
  rw [List.getElem?_append_right (by simp; omega), List.getElem?_append_right (by simp [h]; omega)]
  congr 1
  simp [h]
  omega
theorem OqN.len {o : OqN} (h : o.m.cs.length = 49) : o.cs.length = 58 := by simp [OqN.cs, h]
theorem OqN.mid {o : OqN} {W : World} {b : Nat} (hr : W.rangeAt b 0 o.cs) : W.rangeAt b 5 o.m.cs := fun j v hv => by
  have hj := (List.getElem?_eq_some_iff.1 hv).1
  have := hr (5 + j) v (by
    unfold OqN.cs
    rw [List.getElem?_append_right (by simp), List.getElem?_append_left (by simp; omega)]
    simpa using hv)
  rw [Nat.zero_add] at this
  exact this
theorem OqN.one {o : OqN} (h : ∀ u ∈ o.m.cs, u.oneCell' = true) : ∀ u ∈ o.cs, u.oneCell' = true := fun u hu => by
  simp only [OqN.cs, List.mem_append, List.mem_cons, List.not_mem_nil, or_false] at hu
  rcases hu with (rfl | rfl | rfl | rfl | rfl) | hu | (rfl | rfl | rfl | rfl)
  all_goals first | rfl | exact h u hu

set_option maxRecDepth 10000 in
set_option maxHeartbeats 1600000 in
theorem firstN {w : World} (o : OqN) (h : o.Ok w.heap.size w) :
    Calls Try.prog 8 #[.agg o.cs.toArray] w fun e w' => ∃ a b co cn cc, e = .returned (.agg #[.int .u64 a, .int .u64 b, .slice co cn cc]) ∧ Hid (Below w.heap.size w w') := by
  obtain ⟨W1, hW1⟩ : ∃ W1, (w.alloc (.cells o.cs.toArray 61)).alloc (.cells #[.int .u64 0, .int .u64 0, .slice none 0 0] 64) = W1 := ⟨_, rfl⟩
  have B1 : Hid (Below w.heap.size w W1) := by rw [← hW1]; exact (below_alloc1 w _).alloc (by simp) _
  have HA : Hid (W1.heap[w.heap.size]? = some (.cells o.cs.toArray 61 (0, 0)) ∧ W1.heap[w.heap.size + 1]? = some (.cells #[.int .u64 0, .int .u64 0, .slice none 0 0] 64 (0, 0))) := by rw [← hW1]; exact two_box w _ _
  have z3 := blk_cellN HA.out.1 (j := 3) (v := .slice o.ro o.rn o.rc) rfl
  have p0 := block_cell HA.out.2 0
  have p1 := block_cell HA.out.2 1
  have p2 := block_cell HA.out.2 2
  have f0 := block_free HA.out.2 0
  have f1 := block_free HA.out.2 1
  have f2 := block_free HA.out.2 2
  have zl := block_lt HA.out.1
  have pl := block_lt HA.out.2
  simp at p0 p1 p2
  have hr := h.hr
  have HR : Hid (Rqs w.heap.size W1 o.ro o.rs o.rb o.roff) := h.hR.below B1.out
  clear h
  generalize o.cs = cs at *
  generalize o.rs = rs at *
  generalize o.ro = ro at *
  generalize o.rn = rn at *
  generalize o.rc = rc at *
  generalize o.rb = rb at *
  generalize o.roff = roff at *
  have HW1 := hide hW1
  clear hW1
  go_enter Try.func8, Try.ntmps8
  go_upto_region 1 with fail
  rw [HW1.out]
  clear HW1
  by_cases h0 : rn = 0
  · subst h0
    have HF : Hid (∀ x y z, Below w.heap.size w (((W1.setCell ⟨w.heap.size + 1, 0, none⟩ x).setCell ⟨w.heap.size + 1, 1, none⟩ y).setCell ⟨w.heap.size + 1, 2, none⟩ z)) := fun x y z => ((B1.out.setCell (p := ⟨w.heap.size + 1, 0, none⟩) (by simp) x).setCell (p := ⟨w.heap.size + 1, 1, none⟩) (by simp) y).setCell (p := ⟨w.heap.size + 1, 2, none⟩) (by simp) z
    clear B1 HA HR
    go_wp2
    refine bodyPost_ret (v := .agg #[.int .u64 0, .int .u64 0, .slice none 0 0]) (by simp [results, Try.results8, go_sem, p0, p1, p2]) rfl ?_
    exact ⟨_, _, _, _, _, rfl, HF.out _ _ _⟩
  · obtain ⟨r, hr', _, hok, hbl, rfl, c0, c1, c2⟩ := HR.out.get (k := 0) (by omega)
    obtain ⟨cl, sq, co, cn, cc, C⟩ := r
    simp only [Nat.zero_mul, Nat.add_zero] at c0 c1 c2
    have hbl' : rb < W1.heap.size := Nat.lt_of_lt_of_le hbl B1.out.size
    obtain ⟨V1, hV1⟩ : ∃ V1, W1.alloc (.cells #[.int .u64 (cl : Int), .int .u64 (sq : Int), .slice co cn cc] 64) = V1 := ⟨_, rfl⟩
    have BV : Hid (Below W1.heap.size W1 V1) := by rw [← hV1]; exact below_alloc1 W1 _
    have C1 : Hid (V1.heap[W1.heap.size]? = some (.cells #[.int .u64 (cl : Int), .int .u64 (sq : Int), .slice co cn cc] 64 (0, 0))) := by rw [← hV1]; exact alloc_atK _ _
    have HLN : Hid (Calls Try.prog 28 #[.slice co cn cc] V1 fun e w' => ∃ g, e = .returned (.slice (some ⟨g, 0, none⟩) cn (cn + 2)) ∧ Hid ((w'.cell? ⟨W1.heap.size, 0, none⟩ = some (.int .u64 (cl : Int)) ∧ w'.cell? ⟨W1.heap.size, 1, none⟩ = some (.int .u64 (sq : Int)) ∧ w'.cell? ⟨W1.heap.size, 2, none⟩ = some (.slice co cn cc) ∧ w'.frozen? ⟨W1.heap.size, 2, none⟩ = false ∧ W1.heap.size < w'.heap.size) ∧ (w'.cell? ⟨w.heap.size + 1, 0, none⟩ = some (.int .u64 0) ∧ w'.cell? ⟨w.heap.size + 1, 1, none⟩ = some (.int .u64 0) ∧ w'.cell? ⟨w.heap.size + 1, 2, none⟩ = some (.slice none 0 0) ∧ w'.frozen? ⟨w.heap.size + 1, 0, none⟩ = false ∧ w'.frozen? ⟨w.heap.size + 1, 1, none⟩ = false ∧ w'.frozen? ⟨w.heap.size + 1, 2, none⟩ = false ∧ w.heap.size + 1 < w'.heap.size ∧ w.heap.size + 1 ≠ W1.heap.size) ∧ ∀ u x y z, Below w.heap.size w ((((w'.setCell ⟨W1.heap.size, 2, none⟩ u).setCell ⟨w.heap.size + 1, 0, none⟩ x).setCell ⟨w.heap.size + 1, 1, none⟩ y).setCell ⟨w.heap.size + 1, 2, none⟩ z))) := by
      have hbV := B1.out.trans (BV.out.mono B1.out.size)
      refine (lendN ((hok.hC.belowL (BV.out.mono B1.out.size)).wide hbV.size) (Nat.le_refl _)).mono ?_
      rintro e w' ⟨g, rfl, G⟩
      have b1 := (G.out.block _ (block_lt C1.out)).trans C1.out
      have b2 := (G.out.block _ (Nat.lt_of_lt_of_le (block_lt HA.out.2) BV.out.size)).trans ((BV.out.block _ (block_lt HA.out.2)).trans HA.out.2)
      have b3 := hbV.trans (G.out.mono hbV.size)
      have hs := B1.out.size
      exact ⟨g, rfl, ⟨block_cell b1 0, block_cell b1 1, block_cell b1 2, block_free b1 2, block_lt b1⟩, ⟨block_cell b2 0, block_cell b2 1, block_cell b2 2, block_free b2 0, block_free b2 1, block_free b2 2, block_lt b2, Nat.ne_of_lt (block_lt HA.out.2)⟩, fun u x y z => (((b3.setCell (p := ⟨W1.heap.size, 2, none⟩) hs u).setCell (p := ⟨w.heap.size + 1, 0, none⟩) (by simp) x).setCell (p := ⟨w.heap.size + 1, 1, none⟩) (by simp) y).setCell (p := ⟨w.heap.size + 1, 2, none⟩) (by simp) z⟩
    have HV1 := hide hV1
    clear hr' hok hbl hV1 HR B1 HA BV
    go_upto_region 4 with fail
    rw [HV1.out]
    clear HV1 c0 c1 c2 p0 p1 p2 f0 f1 f2 zl pl z3
    have q0 := block_cell C1.out 0
    have q1 := block_cell C1.out 1
    have q2 := block_cell C1.out 2
    have ql := block_lt C1.out
    simp at q0 q1 q2
    clear C1
    go_wp2_with (first
      | (go_at_call 28; refine HLN.out.mono ?_; rintro e w2 ⟨g, rfl, G⟩; clear q0 q1 q2 ql; obtain ⟨⟨q0, q1, q2, qf, ql⟩, ⟨p0, p1, p2, f0, f1, f2, pl, hne⟩, HST⟩ := G.out; have hne' := hne.symm; have HT := hide HST; clear HST G))
    refine bodyPost_ret (v := .agg #[.int .u64 (cl : Int), .int .u64 (sq : Int), .slice (some ⟨g, 0, none⟩) cn (cn + 2)]) (by simp [results, Try.results8, go_sem, p0, p1, p2]) rfl ?_
    exact ⟨_, _, _, _, _, rfl, HT.out _ _ _ _⟩
end Go.Proofs.Ytneginefcloceaa
namespace Go.Proofs.Ytneginefcloceaa
open Go.RowKit Crc

/-- The two boxes of calls: the step of the script, and the answer. -/
structure C2N (w : World) (cs : List Value) (W : World) : Prop where
  bel : Below w.heap.size w W
  q0 : W.heap[w.heap.size]? = some (.cells cs.toArray 61 (0, 0))
  q1 : W.heap[w.heap.size + 1]? = some (.cells #[.slice none 0 0, .slice none 0 0] 46 (0, 0))
theorem C2N.next {w : World} {cs : List Value} {W W' : World} (h : C2N w cs W) (hb : Below W.heap.size W W') : C2N w cs W' :=
  ⟨h.bel.trans (hb.mono h.bel.size), (hb.block _ (block_lt h.q0)).trans h.q0, (hb.block _ (block_lt h.q1)).trans h.q1⟩
theorem C2N.drew {w : World} {cs : List Value} {W : World} (h : C2N w cs W) (q : Nat) : C2N w cs (W.drewN q) := h.next ⟨rfl, rfl, rfl, Nat.le_refl _, fun _ _ => rfl⟩
theorem C2N.drew1 {w : World} {cs : List Value} {W : World} (h : C2N w cs W) : C2N w cs W.drew := h.next ⟨rfl, rfl, rfl, Nat.le_refl _, fun _ _ => rfl⟩
theorem C2N.fin {w : World} {cs : List Value} {W : World} (h : C2N w cs W) : W.cell? ⟨w.heap.size + 1, 0, none⟩ = some (.slice none 0 0) ∧ W.cell? ⟨w.heap.size + 1, 1, none⟩ = some (.slice none 0 0) ∧ W.frozen? ⟨w.heap.size + 1, 0, none⟩ = false ∧ W.frozen? ⟨w.heap.size + 1, 1, none⟩ = false ∧ w.heap.size + 1 < W.heap.size ∧ Hid (∀ x y, Below w.heap.size w ((W.setCell ⟨w.heap.size + 1, 0, none⟩ x).setCell ⟨w.heap.size + 1, 1, none⟩ y)) :=
  ⟨block_cell h.q1 0, block_cell h.q1 1, block_free h.q1 0, block_free h.q1 1, block_lt h.q1, fun x y => (h.bel.setCell (p := ⟨w.heap.size + 1, 0, none⟩) (by simp) x).setCell (p := ⟨w.heap.size + 1, 1, none⟩) (by simp) y⟩
theorem C2N.one {w : World} {cs : List Value} {W : World} {f : FuncId} {args : Array Value} {r : Ending} (h : C2N w cs W) (hc : Calls Try.prog f args W fun e w' => e = r ∧ Hid (Below W.heap.size W w')) : Calls Try.prog f args W fun e w' => e = r ∧ Hid (C2N w cs w') :=
  hc.mono (fun _ _ g => ⟨g.1, h.next g.2.out⟩)
theorem c2_new (w : World) (cs : List Value) : C2N w cs ((w.alloc (.cells cs.toArray 61)).alloc (.cells #[.slice none 0 0, .slice none 0 0] 46)) :=
  ⟨(below_alloc1 w _).alloc (by simp) _, (two_box w _ _).1, (two_box w _ _).2⟩

set_option maxRecDepth 10000 in
set_option maxHeartbeats 3200000 in
theorem callsN {w : World} {v : Value} (hp : Pn w v) (o : OqN) (h : o.Ok w.heap.size w) :
    Calls Try.prog 6 #[v, .agg o.cs.toArray] w fun e w' => e = .returned step0 ∧ Hid (Below w.heap.size w w') := by
  obtain ⟨W1, hW1⟩ : ∃ W1, (w.alloc (.cells o.cs.toArray 61)).alloc (.cells #[.slice none 0 0, .slice none 0 0] 46) = W1 := ⟨_, rfl⟩
  have C1 : Hid (C2N w o.cs W1) := by rw [← hW1]; exact c2_new w o.cs
  have HFI : Hid (∀ W, C2N w o.cs W → Calls Try.prog 8 #[.agg o.cs.toArray] W fun e w' => ∃ a b co cn cc, e = .returned (.agg #[.int .u64 a, .int .u64 b, .slice co cn cc]) ∧ Hid (C2N w o.cs w')) := fun W hc => (firstN o ((h.below hc.bel).wide hc.bel.size)).mono (fun _ _ ⟨a, b, co, cn, cc, h1, h2⟩ => ⟨a, b, co, cn, cc, h1, hc.next h2.out⟩)
  have HRQ : Hid (∀ W a b co cn cc, C2N w o.cs W → Calls Try.prog 7 #[v, .agg #[.int .u64 a, .int .u64 b, .slice co cn cc]] W fun e w' => e = .returned (.bool false) ∧ Hid (C2N w o.cs w')) := fun W a b co cn cc hc => hc.one (requestN (hp.kept hc.bel) a b co cn cc)
  have HLR : Hid (∀ W, C2N w o.cs W → Calls Try.prog 19 #[.slice o.ro o.rn o.rc] W fun e w' => ∃ g, e = .returned (.slice (some ⟨g, 0, none⟩) o.rn (o.rn + 1)) ∧ Hid (C2N w o.cs w')) := fun W hc => (lendReqsN o.rn o.rc h.hr ((h.hR.below hc.bel).wide hc.bel.size)).mono (fun _ _ ⟨g, h1, h2⟩ => ⟨g, h1, hc.next h2.out⟩)
  have HEN : Hid (∀ W n m ro rn rc, C2N w o.cs W → Calls Try.prog 5 #[v, .agg #[.int .u64 n, .int .i64 m], .slice ro rn rc] W fun e w' => e = .returned (.agg #[.slice none 0 0, .slice none 0 0]) ∧ Hid (C2N w o.cs w')) := fun W n m ro rn rc hc => hc.one (enterN (hp.kept hc.bel) n m ro rn rc)
  have HLM : Hid (∀ W, C2N w o.cs W → Calls Try.prog 10 #[.agg o.m.cs.toArray] W fun e w' => ∃ d : List Value, e = .returned (.agg d.toArray) ∧ Hid (C2N w o.cs w')) := fun W hc => (lendMsgN o.m ((h.hm.below hc.bel).wide hc.bel.size)).mono (fun _ _ ⟨d, h1, h2⟩ => ⟨d, h1, hc.next h2.out.2.2⟩)
  have HPR : Hid (∀ W s (d : List Value), C2N w o.cs W → Calls Try.prog 9 #[v, .int .u64 s, .agg d.toArray] W fun e w' => e = .returned (.bool false) ∧ Hid (C2N w o.cs w')) := fun W s d hc => hc.one (promiseN (hp.kept hc.bel) s)
  have HLE : Hid (∀ W a, C2N w o.cs W → Calls Try.prog 20 #[v, .int .u64 a] W fun e w' => e = .returned (.agg #[.slice none 0 0, .slice none 0 0]) ∧ Hid (C2N w o.cs w')) := fun W a hc => hc.one (leadN (hp.kept hc.bel) a)
  have HNO : Hid (∀ W a b, C2N w o.cs W → Calls Try.prog 21 #[v, .int .u64 a, .int .u64 b] W fun e w' => e = .returned (.agg #[.slice none 0 0, .slice none 0 0]) ∧ Hid (C2N w o.cs w')) := fun W a b hc => hc.one (nominateN (hp.kept hc.bel) a b)
  have HRS : Hid (∀ W, C2N w o.cs W → Calls Try.prog 22 #[v] W fun e w' => e = .returned (.agg #[.slice none 0 0, .slice none 0 0]) ∧ Hid (C2N w o.cs w')) := fun W hc => hc.one (resendN (hp.kept hc.bel))
  have HLB : Hid (∀ W, C2N w o.cs W → Calls Try.prog 24 #[.agg #[.int .u64 (o.st : Nat), .slice o.qo o.qn o.qc]] W fun e w' => ∃ g, e = .returned (.agg #[.int .u64 (o.st : Nat), .slice (some ⟨g, 0, none⟩) o.qn (o.qn + 1)]) ∧ Hid (C2N w o.cs w')) := fun W hc => (lendBatchN (o.st : Nat) o.qn o.qc h.hq ((h.hQ.below hc.bel).wide hc.bel.size)).mono (fun _ _ ⟨g, h1, h2⟩ => ⟨g, h1, hc.next h2.out⟩)
  have HEX : Hid (∀ W a co cn cc, C2N w o.cs W → Calls Try.prog 23 #[v, .agg #[.int .u64 a, .slice co cn cc]] W fun e w' => e = .returned (.tuple #[]) ∧ Hid (C2N w o.cs w')) := fun W a co cn cc hc => hc.one (executedN (hp.kept hc.bel) a co cn cc)
  have HT := hide (OqN.tail h.hm.len)
  have HML : Hid (o.m.cs.length = 49) := h.hm.len
  have HCL : Hid (o.cs.length = 58) := OqN.len h.hm.len
  have HMID : Hid (∀ (W : World) (b : Nat), W.rangeAt b 0 o.cs → W.rangeAt b 5 o.m.cs) := fun W b => OqN.mid
  have x0 : Hid (o.cs[0]? = some (.int .i64 o.kind)) := rfl
  have x1 : Hid (o.cs[1]? = some (.int .u64 o.bn)) := rfl
  have x2 : Hid (o.cs[2]? = some (.int .i64 o.bd)) := rfl
  have x3 : Hid (o.cs[3]? = some (.slice o.ro o.rn o.rc)) := rfl
  have x4 : Hid (o.cs[4]? = some (.int .u64 o.src)) := rfl
  have x54 : Hid (o.cs[54]? = some (.int .u64 o.now)) := HT.out 0
  have x55 : Hid (o.cs[55]? = some (.int .u64 o.low)) := HT.out 1
  have x56 : Hid (o.cs[56]? = some (.int .u64 (o.st : Nat))) := HT.out 2
  have x57 : Hid (o.cs[57]? = some (.slice o.qo o.qn o.qc)) := HT.out 3
  clear h hp HT
  generalize o.cs = cs at *
  generalize o.m.cs = ms at *
  generalize o.kind = kd at *
  generalize o.bn = bn at *
  generalize o.bd = bd at *
  generalize o.ro = ro at *
  generalize o.rn = rn at *
  generalize o.rc = rc at *
  generalize o.src = src at *
  generalize o.now = now at *
  generalize o.low = low at *
  generalize (o.st : Int) = st at *
  generalize o.qo = qo at *
  generalize o.qn = qn at *
  generalize o.qc = qc at *
  have HCS : Hid ((Try.prog.info? 61).map (·.size) = some cs.length) := by show _ = _; rw [HCL.out]; kernel_rfl
  have HMS : Hid ((Try.prog.info? 59).map (·.size) = some ms.length) := by show _ = _; rw [HML.out]; kernel_rfl
  have HW1 := hide hW1
  clear hW1
  go_enter Try.func6, Try.ntmps6
  go_upto_region 1 with fail
  rw [HW1.out]
  clear HW1
  have z0 := blk_cellN C1.out.q0 x0.out
  have zl := block_lt C1.out.q0
  by_cases k1 : kd = 1
  · subst k1
    clear HLR HEN HLM HPR HLE HNO HRS HLB HEX x1 x2 x3 x4 x54 x55 x56 x57
    go_upto_region 3 with fail
    iterate 4 go_step
    refine wpList_load_mid rfl 61 _ rfl w.heap.size 0 rfl cs _ (blk_rangeN C1.out.q0) Try.underlying61 rfl HCS.out ?_
    simp only [Act.put, List.setIfInBounds_toArray, List.set_cons_zero, List.set_cons_succ]
    go_wp2_with fail
    refine (HFI.out _ C1.out).mono ?_
    rintro e w2 ⟨a, b, co, cn, cc, rfl, G⟩
    clear z0 zl
    go_wp2_with fail
    refine (HRQ.out _ _ _ _ _ _ G.out).mono ?_
    rintro e w3 ⟨rfl, G3⟩
    obtain ⟨p0, p1, f0, f1, pl, HB⟩ := G3.out.fin
    clear G G3 C1 HFI HRQ
    go_wp2
    refine bodyPost_ret (v := .agg #[.slice none 0 0, .slice none 0 0]) (by simp [results, Try.results6, go_sem, p0, p1]) rfl ?_
    exact ⟨rfl, HB.out _ _⟩
  by_cases k2 : kd = 2
  · subst k2
    clear HFI HRQ HLM HPR HLE HNO HRS HLB HEX k1
    have z1 := blk_cellN C1.out.q0 x1.out
    have z2 := blk_cellN C1.out.q0 x2.out
    have z3 := blk_cellN C1.out.q0 x3.out
    have HK : Hid (∀ V, C2N w cs V → V.cell? ⟨w.heap.size, 1, none⟩ = some (.int .u64 bn) ∧ V.cell? ⟨w.heap.size, 2, none⟩ = some (.int .i64 bd) ∧ V.cell? ⟨w.heap.size, 3, none⟩ = some (.slice ro rn rc)) := fun V hv => ⟨blk_cellN hv.q0 x1.out, blk_cellN hv.q0 x2.out, blk_cellN hv.q0 x3.out⟩
    have CD := hide C1.out.drew1
    clear x0 x1 x2 x3 x4 x54 x55 x56 x57
    go_upto_region 5 with fail
    go_region_held3 (fun V => V.cell? ⟨w.heap.size, 1, none⟩ = some (.int .u64 bn) ∧ V.cell? ⟨w.heap.size, 2, none⟩ = some (.int .i64 bd) ∧ V.cell? ⟨w.heap.size, 3, none⟩ = some (.slice ro rn rc)) (first | exact HK.out _ G3.out | exact HK.out _ G2.out | go_keep)
      (first
        | (go_at_call 19; refine (HLR.out _ CD.out).mono ?_; rintro e w2 ⟨g, rfl, G2⟩; clear z0 zl z1 z2 z3)
        | (go_at_call 5; refine (HEN.out _ _ _ _ _ _ G2.out).mono ?_; rintro e w3 ⟨rfl, G3⟩; obtain ⟨p0, p1, f0, f1, pl, HB⟩ := G3.out.fin))
    go_wp2
    refine bodyPost_ret (v := .agg #[.slice none 0 0, .slice none 0 0]) (by simp [results, Try.results6, go_sem, p0, p1]) rfl ?_
    exact ⟨rfl, HB.out _ _⟩
  by_cases k3 : kd = 3
  · subst k3
    clear HFI HRQ HLR HEN HLE HNO HRS HLB HEX k1 k2 x1 x2 x3 x54 x55 x56 x57
    go_upto_region 7 with fail
    refine wp_region_held_drew (S := fun W => C2N w cs W) (by kernel_rfl) C1.out.drew1 (fun hH => ?_)
    refine wpAnyH_take (i := 0) (oi := { dst := some 24, op := Op.move (Operand.tmp 0), type := 23, pos := "outright.go:319", after := #[], guard := none }) (v := v) rfl (by kernel_rfl) (by kernel_rfl) (by kernel_rfl) (fun _ _ _ h => h) (Or.inl ⟨by rfl, fun w' hSw => ?_⟩) hH ?_
    · go_simp
    simp only [Act.put, List.setIfInBounds_toArray, List.set_cons_zero, List.set_cons_succ]
    refine wpAnyH_take (i := 1) (oi := { dst := some 25, op := Op.fieldAddr 61 (Operand.tmp 3) 3, type := 0, pos := "outright.go:319", after := #[], guard := none }) (v := .pointer (some ⟨w.heap.size, 4, none⟩)) rfl (by kernel_rfl) (by kernel_rfl) (by kernel_rfl) (fun _ _ _ h => h) (Or.inl ⟨by rfl, fun w' hSw => ?_⟩) hH ?_
    · go_simp
    simp only [Act.put, List.setIfInBounds_toArray, List.set_cons_zero, List.set_cons_succ]
    refine wpAnyH_take (i := 2) (oi := { dst := some 26, op := Op.load 49 (Operand.tmp 25), type := 49, pos := "outright.go:319", after := #[{ on := 1, ground := Ground.data }], guard := none }) (v := .int .u64 src) rfl (by kernel_rfl) (by kernel_rfl) (by kernel_rfl) (fun _ _ _ h => h) (Or.inl ⟨by rfl, fun w' hSw => ?_⟩) hH ?_
    · have z4 := blk_cellN hSw.q0 x4.out
      go_simp
    simp only [Act.put, List.setIfInBounds_toArray, List.set_cons_zero, List.set_cons_succ]
    refine wpAnyH_take (i := 3) (oi := { dst := some 27, op := Op.fieldAddr 61 (Operand.tmp 3) 4, type := 0, pos := "outright.go:319", after := #[], guard := none }) (v := .pointer (some ⟨w.heap.size, 5, none⟩)) rfl (by kernel_rfl) (by kernel_rfl) (by kernel_rfl) (fun _ _ _ h => h) (Or.inl ⟨by rfl, fun w' hSw => ?_⟩) hH ?_
    · go_simp
    simp only [Act.put, List.setIfInBounds_toArray, List.set_cons_zero, List.set_cons_succ]
    refine wpAnyH_take (i := 4) (oi := { dst := some 28, op := Op.load 59 (Operand.tmp 27), type := 59, pos := "outright.go:319", after := #[{ on := 3, ground := Ground.data }], guard := none }) (v := .agg ms.toArray) rfl (by kernel_rfl) (by kernel_rfl) (by kernel_rfl) (fun _ _ _ h => h) ?_ hH ?_
    · exact yieldsIf_load_mid (by rfl) 59 (.tmp 27) rfl w.heap.size 5 (by simp [Act.eval]) ms _ (fun _ h => HMID.out _ _ (blk_rangeN h.q0)) Try.underlying59 rfl HMS.out
    simp only [Act.put, List.setIfInBounds_toArray, List.set_cons_zero, List.set_cons_succ]
    refine wpAnyH_ready (rs := [5]) (by kernel_rfl) (by simp) ?_
    refine AllReadyH.cons rfl (fun K hK => ?_) AllReadyH.nil
    clear z0 zl
    go_simp
    go_wp2_with fail
    refine (HLM.out _ hH).mono ?_
    rintro e w2 ⟨d, rfl, G2⟩
    go_wp2_with fail
    refine hK.out _ _ G2.out (fun hH2 => ?_)
    clear hK K
    refine wpAnyH_ready (rs := [6]) (by kernel_rfl) (by simp) ?_
    refine AllReadyH.cons rfl (fun K hK => ?_) AllReadyH.nil
    go_simp
    go_wp2_with fail
    refine (HPR.out _ _ _ G2.out).mono ?_
    rintro e w3 ⟨rfl, G3⟩
    go_wp2_with fail
    refine hK.out _ _ G3.out (fun hH3 => ?_)
    clear hK K
    refine wpAnyH_done (by kernel_rfl) ?_ _
    obtain ⟨p0, p1, f0, f1, pl, HB⟩ := G3.out.fin
    clear G2 G3 C1 HLM HPR hH hH2 hH3
    go_wp2
    refine bodyPost_ret (v := .agg #[.slice none 0 0, .slice none 0 0]) (by simp [results, Try.results6, go_sem, p0, p1]) rfl ?_
    exact ⟨rfl, HB.out _ _⟩
  by_cases k4 : kd = 4
  · subst k4
    have z55 := blk_cellN C1.out.q0 x55.out
    clear HFI HRQ HLR HEN HLM HPR HNO HRS HLB HEX k1 k2 k3 x1 x2 x3 x54 x55 x56 x57
    go_wp2_with fail
    refine (HLE.out _ _ C1.out).mono ?_
    rintro e w3 ⟨rfl, G3⟩
    clear z0 z55 zl
    obtain ⟨p0, p1, f0, f1, pl, HB⟩ := G3.out.fin
    clear G3
    go_wp2
    refine bodyPost_ret (v := .agg #[.slice none 0 0, .slice none 0 0]) (by simp [results, Try.results6, go_sem, p0, p1]) rfl ?_
    exact ⟨rfl, HB.out _ _⟩
  by_cases k5 : kd = 5
  · subst k5
    have z55 := blk_cellN C1.out.q0 x55.out
    have z54 := blk_cellN C1.out.q0 x54.out
    clear HFI HRQ HLR HEN HLM HPR HLE HRS HLB HEX k1 k2 k3 k4 x1 x2 x3 x54 x55 x56 x57
    go_wp2_with fail
    refine (HNO.out _ _ _ C1.out).mono ?_
    rintro e w3 ⟨rfl, G3⟩
    clear z0 z54 z55 zl
    obtain ⟨p0, p1, f0, f1, pl, HB⟩ := G3.out.fin
    clear G3
    go_wp2
    refine bodyPost_ret (v := .agg #[.slice none 0 0, .slice none 0 0]) (by simp [results, Try.results6, go_sem, p0, p1]) rfl ?_
    exact ⟨rfl, HB.out _ _⟩
  by_cases k6 : kd = 6
  · subst k6
    clear HFI HRQ HLR HEN HLM HPR HLE HNO HLB HEX k1 k2 k3 k4 k5 x1 x2 x3 x54 x55 x56 x57
    go_wp2_with fail
    refine (HRS.out _ C1.out).mono ?_
    rintro e w3 ⟨rfl, G3⟩
    clear z0 zl
    obtain ⟨p0, p1, f0, f1, pl, HB⟩ := G3.out.fin
    clear G3
    go_wp2
    refine bodyPost_ret (v := .agg #[.slice none 0 0, .slice none 0 0]) (by simp [results, Try.results6, go_sem, p0, p1]) rfl ?_
    exact ⟨rfl, HB.out _ _⟩
  by_cases k7 : kd = 7
  · subst k7
    have z56 := blk_cellN C1.out.q0 x56.out
    have z57 := blk_cellN C1.out.q0 x57.out
    clear HFI HRQ HLR HEN HLM HPR HLE HNO HRS k1 k2 k3 k4 k5 k6 x1 x2 x3 x54 x55 x56 x57
    go_wp2_with fail
    refine (HLB.out _ C1.out).mono ?_
    rintro e w2 ⟨g, rfl, G2⟩
    clear z0 z56 z57 zl
    go_wp2_with fail
    refine (HEX.out _ _ _ _ _ G2.out).mono ?_
    rintro e w3 ⟨rfl, G3⟩
    obtain ⟨p0, p1, f0, f1, pl, HB⟩ := G3.out.fin
    clear G3
    go_wp2
    refine bodyPost_ret (v := .agg #[.slice none 0 0, .slice none 0 0]) (by simp [results, Try.results6, go_sem, p0, p1]) rfl ?_
    exact ⟨rfl, HB.out _ _⟩
  obtain ⟨p0, p1, f0, f1, pl, HB⟩ := C1.out.fin
  clear HFI HRQ HLR HEN HLM HPR HLE HNO HRS HLB HEX C1 x1 x2 x3 x54 x55 x56 x57
  go_wp2
  refine bodyPost_ret (v := .agg #[.slice none 0 0, .slice none 0 0]) (by simp [results, Try.results6, go_sem, p0, p1]) rfl ?_
  exact ⟨rfl, HB.out _ _⟩
end Go.Proofs.Ytneginefcloceaa
