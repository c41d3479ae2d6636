import Derived.Test.YtmoklddfaocihaaDoorMG
namespace Go.Proofs.YtmoklddfaocihaaDoor
open Go.RowKit

/-- What a call of cut is given of the places that are kept. -/
structure Kp (W : World) (ao : Option Addr) (kb ko n : Nat) (K : Nat → Bool) : Prop where
  ad : 0 < n → ao = some ⟨kb, ko, none⟩ ∧ kb < W.heap.size
  v : ∀ j, j < n → W.cell? ⟨kb, ko + j, none⟩ = some (.bool (K j))
theorem Kp.at {W : World} {ao : Option Addr} {kb ko n : Nat} {K : Nat → Bool} (h : Kp W ao kb ko n K) {w : World} (hb : Below W.heap.size W w) {j : Nat} (hj : j < n) : ao = some ⟨kb, ko, none⟩ ∧ kb < w.heap.size ∧ w.cell? ⟨kb, ko + j, none⟩ = some (.bool (K j)) := by
  obtain ⟨h1, h2⟩ := h.ad (by omega)
  exact ⟨h1, Nat.lt_of_lt_of_le h2 hb.size, (hb.cell (p := ⟨kb, ko + j, none⟩) h2).trans (h.v j hj)⟩
def cI (K : Nat → Bool) (i : Nat) : Int := ((cnt K i : Nat) : Int)
/-- The world of the reference's cut ahead of its copy. -/
structure Cs (W : World) (g : Pg) (p : Pv) (K : Nat → Bool) (v5 : Value) (j : Nat) (w : World) : Prop where
  pb : w.heap[W.heap.size]? = some (.cells (g.cs p).toArray 27 (0, 0))
  rb : w.heap[W.heap.size + 1]? = some (.cells zP 27 (0, 0))
  tor : w.ownsRow W.heap.size 3 1 v5 j (nums .i64 (cI K) j)
  bel : Below W.heap.size W w
theorem Cs.next {W : World} {g : Pg} {p : Pv} {K : Nat → Bool} {v5 : Value} {j : Nat} {w w' : World} (h : Cs W g p K v5 j w) (hb : Below w.heap.size w w') : Cs W g p K v5 j w' :=
  ⟨(hb.block _ (block_lt h.pb)).trans h.pb, (hb.block _ (block_lt h.rb)).trans h.rb, own_keep h.tor hb, h.bel.trans (hb.mono h.bel.size)⟩
theorem Cs.app {W : World} {g : Pg} {p : Pv} {K : Nat → Bool} {v5 v5' : Value} {j : Nat} {w w' : World} {o : Obj} (h : Cs W g p K v5 j w) (ho : w'.ownsRow W.heap.size 3 1 v5' (j + 1) (nums .i64 (cI K) j ++ [.int .i64 (cI K j)])) (hg : (w.alloc o).grownBy w' v5.ownBlock) : Cs W g p K v5' (j + 1) w' := by
  have hn := h.next (below_alloc1 w o)
  have off : ∀ (q : Nat) (cs : Array Value), (w.alloc o).heap[q]? = some (.cells cs 27 (0, 0)) → w'.heap[q]? = (w.alloc o).heap[q]? := fun q cs hq => hg.block q (block_lt hq) (fun x => own_off2 hn.tor (by decide) hq x.symm)
  refine ⟨(off _ _ hn.pb).trans hn.pb, (off _ _ hn.rb).trans hn.rb, by rw [nums_next]; exact ho, hn.bel.trans ((Below.refl _ _).grown hg hn.bel.size (fun x hx => (hn.tor.lt x hx).1))⟩
theorem Cs.row_at {W : World} {g : Pg} {p : Pv} {K : Nat → Bool} {v5 : Value} {n : Nat} {w : World} (h : Cs W g p K v5 n w) {j : Nat} (hj : j < n) : ∃ tb cp, v5 = .slice (some ⟨tb, 0, none⟩) n cp ∧ tb < w.heap.size ∧ n ≤ cp := by
  rcases h.tor.2 with ⟨_, e⟩ | ⟨q, cap, cur, e, _, hc, hn, _⟩
  · omega
  · exact ⟨q, cap, e, block_lt hc, hn⟩
/-- The world of the reference's cut behind its copy. -/
structure Cu (W : World) (g : Pg) (p : Pv) (K : Nat → Bool) (v5 : Value) (cb : Nat) (a0 a1 vi : Value) (e m : Nat) (w : World) : Prop where
  cs : Cs W g p K v5 p.n w
  bx : w.heap[cb]? = some (.cells #[a0, a1, .int .i64 ((pE p K e).en 0), .int .i64 ((pE p K e).en 1), .int .i64 ((pE p K e).en 2), .int .i64 ((pE p K e).en 3), .int .i64 ((pE p K e).en 4), .int .i64 ((pE p K e).en 5), vi] 27 (0, 0))
  n1 : cb ≠ W.heap.size
  n2 : cb ≠ W.heap.size + 1
  n3 : W.heap.size ≤ cb
  c : w.ownsRow W.heap.size 42 1 a0 p.nc (nums .u64 p.C p.nc)
  s : w.ownsRow W.heap.size 3 1 a1 p.ns (nums .i64 p.S p.ns)
  i : Irow w W.heap.size vi m (cutF p K).op (cutF p K).arg
section
variable {W : World} {g : Pg} {p : Pv} {K : Nat → Bool} {v5 : Value} {cb : Nat} {a0 a1 vi : Value} {e m : Nat} {w w' : World}
theorem Cu.next (h : Cu W g p K v5 cb a0 a1 vi e m w) (hb : Below w.heap.size w w') : Cu W g p K v5 cb a0 a1 vi e m w' :=
  ⟨h.cs.next hb, (hb.block _ (block_lt h.bx)).trans h.bx, h.n1, h.n2, h.n3, own_keep h.c hb, own_keep h.s hb, own_keep h.i hb⟩
/-- A cell of the new program is changed. -/
theorem Cu.put (h : Cu W g p K v5 cb a0 a1 vi e m w) {q : Nat} {x : Value} {e' m' : Nat} {vi' : Value} (hi : Irow w W.heap.size vi' m' (cutF p K).op (cutF p K).arg) (hx : (#[a0, a1, .int .i64 ((pE p K e).en 0), .int .i64 ((pE p K e).en 1), .int .i64 ((pE p K e).en 2), .int .i64 ((pE p K e).en 3), .int .i64 ((pE p K e).en 4), .int .i64 ((pE p K e).en 5), vi] : Array Value).setIfInBounds q x = #[a0, a1, .int .i64 ((pE p K e').en 0), .int .i64 ((pE p K e').en 1), .int .i64 ((pE p K e').en 2), .int .i64 ((pE p K e').en 3), .int .i64 ((pE p K e').en 4), .int .i64 ((pE p K e').en 5), vi']) : Cu W g p K v5 cb a0 a1 vi' e' m' (w.setCell ⟨cb, q, none⟩ x) := by
  have hg := grown_setT w cb q x
  have b1 : (w.setCell ⟨cb, q, none⟩ x).heap[cb]? = some (.cells #[a0, a1, .int .i64 ((pE p K e').en 0), .int .i64 ((pE p K e').en 1), .int .i64 ((pE p K e').en 2), .int .i64 ((pE p K e').en 3), .int .i64 ((pE p K e').en 4), .int .i64 ((pE p K e').en 5), vi'] 27 (0, 0)) := by
    rw [← hx]
    simp [World.setCell, Array.getElem?_modify, h.bx]
  exact ⟨⟨(hg.block _ (block_lt h.cs.pb) (by simpa using fun e => h.n1 e.symm)).trans h.cs.pb, (hg.block _ (block_lt h.cs.rb) (by simpa using fun e => h.n2 e.symm)).trans h.cs.rb, own_offT h.cs.tor h.bx (by decide) hg, h.cs.bel.trans ((Below.refl _ w).setCell (p := ⟨cb, q, none⟩) h.n3 x)⟩, b1, h.n1, h.n2, h.n3, own_offT h.c h.bx (by decide) hg, own_offT h.s h.bx (by decide) hg, own_offT hi h.bx (by decide) hg⟩
/-- An append to the instructions. -/
theorem Cu.app {vi' : Value} {o : Obj} (h : Cu W g p K v5 cb a0 a1 vi e m w) (ho : Irow w' W.heap.size vi' (m + 1) (cutF p K).op (cutF p K).arg) (hg : (w.alloc o).grownBy w' vi.ownBlock) : Cu W g p K v5 cb a0 a1 vi' e (m + 1) (w'.setCell ⟨cb, 8, none⟩ vi') ∧ w'.heap[cb]? = some (.cells #[a0, a1, .int .i64 ((pE p K e).en 0), .int .i64 ((pE p K e).en 1), .int .i64 ((pE p K e).en 2), .int .i64 ((pE p K e).en 3), .int .i64 ((pE p K e).en 4), .int .i64 ((pE p K e).en 5), vi] 27 (0, 0)) := by
  have hn := h.next (below_alloc1 w o)
  have off : ∀ {t : TypeId} {q : Nat} {cs : Array Value}, (83 : TypeId) ≠ t → (w.alloc o).heap[q]? = some (.cells cs t (0, 0)) → w'.heap[q]? = (w.alloc o).heap[q]? := fun ht hq => hg.block _ (block_lt hq) (fun x => own_off2 hn.i ht hq x.symm)
  have row : ∀ {t : TypeId} {v : Value} {n sz : Nat} {xs : List Value}, (83 : TypeId) ≠ t → (w.alloc o).ownsRow W.heap.size t sz v n xs → w'.ownsRow W.heap.size t sz v n xs := fun ht hr => by
    refine hr.kept hg ?_
    cases e : Value.ownBlock _ with
    | none => exact .inl rfl
    | some b =>
      obtain ⟨_, cs, hc⟩ := own_typ2 hr e
      exact .inr (fun x => own_off2 hn.i ht hc x.symm)
  have b1 := (off (by decide) hn.bx).trans hn.bx
  have h1 : Cu W g p K v5 cb a0 a1 vi e m w' → True := fun _ => trivial
  have hb : Below W.heap.size W w' := hn.cs.bel.trans ((Below.refl _ _).grown hg hn.cs.bel.size (fun x hx => (hn.i.lt x hx).1))
  have hcs : Cs W g p K v5 p.n w' := ⟨(off (by decide) hn.cs.pb).trans hn.cs.pb, (off (by decide) hn.cs.rb).trans hn.cs.rb, row (by decide) hn.cs.tor, hb⟩
  refine ⟨?_, b1⟩
  have hg2 := grown_setT w' cb 8 vi'
  have b2 : (w'.setCell ⟨cb, 8, none⟩ vi').heap[cb]? = some (.cells #[a0, a1, .int .i64 ((pE p K e).en 0), .int .i64 ((pE p K e).en 1), .int .i64 ((pE p K e).en 2), .int .i64 ((pE p K e).en 3), .int .i64 ((pE p K e).en 4), .int .i64 ((pE p K e).en 5), vi'] 27 (0, 0)) := by
    simp [World.setCell, Array.getElem?_modify, b1]
  exact ⟨⟨(hg2.block _ (block_lt hcs.pb) (by simpa using fun e => h.n1 e.symm)).trans hcs.pb, (hg2.block _ (block_lt hcs.rb) (by simpa using fun e => h.n2 e.symm)).trans hcs.rb, own_offT hcs.tor b1 (by decide) hg2, hb.trans ((Below.refl _ w').setCell (p := ⟨cb, 8, none⟩) h.n3 vi')⟩, b2, h.n1, h.n2, h.n3, own_offT (row (by decide) hn.c) b1 (by decide) hg2, own_offT (row (by decide) hn.s) b1 (by decide) hg2, own_offT ho b1 (by decide) hg2⟩
theorem Cu.ent (h : Cu W g p K v5 cb a0 a1 vi e m w) (he : e < 6) (h0 : 0 ≤ p.en e) : Cu W g p K v5 cb a0 a1 vi (e + 1) m (w.setCell ⟨cb, 2 + e, none⟩ (.int .i64 ((cnt K (p.en e).toNat : Nat) : Int))) := by
  refine h.put h.i ?_
  match e, he with
  | 0, _ => simp [pE, h0]
  | 1, _ => simp [pE, h0]
  | 2, _ => simp [pE, h0]
  | 3, _ => simp [pE, h0]
  | 4, _ => simp [pE, h0]
  | 5, _ => simp [pE, h0]
theorem pE_en_skip (h : ¬ 0 ≤ p.en e) (x : Nat) : (pE p K (e + 1)).en x = (pE p K e).en x := by
  show (if x < e + 1 ∧ 0 ≤ p.en x then _ else _) = (if x < e ∧ 0 ≤ p.en x then _ else _)
  by_cases q : x = e
  · subst q
    rw [if_neg (fun y => h y.2), if_neg (fun y => h y.2)]
  · by_cases y : x < e
    · by_cases z : 0 ≤ p.en x
      · rw [if_pos ⟨by omega, z⟩, if_pos ⟨y, z⟩]
      · rw [if_neg (fun y => z y.2), if_neg (fun y => z y.2)]
    · rw [if_neg (fun z => by omega), if_neg (fun z => y z.1)]
theorem Cu.skip (h : Cu W g p K v5 cb a0 a1 vi e m w) (h0 : ¬ 0 ≤ p.en e) : Cu W g p K v5 cb a0 a1 vi (e + 1) m w := by
  refine ⟨h.cs, ?_, h.n1, h.n2, h.n3, h.c, h.s, h.i⟩
  rw [pE_en_skip h0, pE_en_skip h0, pE_en_skip h0, pE_en_skip h0, pE_en_skip h0, pE_en_skip h0]
  exact h.bx
/-- The end of the reference's cut. -/
theorem Cu.fin (h : Cu W g p K v5 cb a0 a1 vi 6 (cnt K p.n) w) (hw : Wf p) : ∃ g' : Pg, a0 = .slice g'.ca p.nc g'.cc ∧ a1 = .slice g'.sa p.ns g'.sc ∧ vi = .slice g'.ia (cnt K p.n) g'.ic ∧ Po W.heap.size g' (cutF p K) (set9 w (W.heap.size + 1) a0 a1 (.int .i64 ((cutF p K).en 0)) (.int .i64 ((cutF p K).en 1)) (.int .i64 ((cutF p K).en 2)) (.int .i64 ((cutF p K).en 3)) (.int .i64 ((cutF p K).en 4)) (.int .i64 ((cutF p K).en 5)) vi) ∧ Below W.heap.size W (set9 w (W.heap.size + 1) a0 a1 (.int .i64 ((cutF p K).en 0)) (.int .i64 ((cutF p K).en 1)) (.int .i64 ((cutF p K).en 2)) (.int .i64 ((cutF p K).en 3)) (.int .i64 ((cutF p K).en 4)) (.int .i64 ((cutF p K).en 5)) vi) := by
  have G := set9_grown w (W.heap.size + 1) a0 a1 (.int .i64 ((cutF p K).en 0)) (.int .i64 ((cutF p K).en 1)) (.int .i64 ((cutF p K).en 2)) (.int .i64 ((cutF p K).en 3)) (.int .i64 ((cutF p K).en 4)) (.int .i64 ((cutF p K).en 5)) vi
  obtain ⟨g', e1, e2, e3, e4⟩ := po_mk (B := W.heap.size) (p := cutF p K) (own_offT h.c h.cs.rb (by decide) G) (own_offT h.s h.cs.rb (by decide) G) (own_offT h.i h.cs.rb (by decide) G) hw.sz.1 hw.sz.2.1 (Nat.le_trans (cnt_le K p.n) hw.sz.2.2)
  exact ⟨g', e1, e2, e3, e4, h.cs.bel.trans (below_of_grown G (by omega) h.cs.bel.size)⟩
end
end Go.Proofs.YtmoklddfaocihaaDoor
namespace Go.Proofs.YtmoklddfaocihaaDoor
open Go.RowKit

theorem cI_le (K : Nat → Bool) (i : Nat) : 0 ≤ cI K i ∧ cI K i ≤ i := by
  have := cnt_le K i
  unfold cI
  omega
theorem cI_next (K : Nat → Bool) (i : Nat) (b : Bool) (h : K i = b) : cI K (i + 1) = if b then cI K i + 1 else cI K i := by
  unfold cI
  show ((cnt K i + (if K i then 1 else 0) : Nat) : Int) = _
  rw [h]
  cases b <;> simp
theorem Cs.at {W : World} {g : Pg} {p : Pv} {K : Nat → Bool} {v5 : Value} {n : Nat} {w : World} (h : Cs W g p K v5 n w) {j : Nat} (hj : j < n) : ∃ tb cp, v5 = .slice (some ⟨tb, 0, none⟩) n cp ∧ tb < w.heap.size ∧ w.cell? ⟨tb, j, none⟩ = some (.int .i64 (cI K j)) := by
  obtain ⟨tb, cp, rfl, h2, _⟩ := h.row_at hj
  obtain ⟨_, _, q⟩ := own_place h.tor rfl
  refine ⟨tb, cp, rfl, h2, ?_⟩
  have := q j (by omega)
  rw [Nat.zero_add] at this
  rw [this]
  simp [nums, hj]
theorem cs_en (g : Pg) (p : Pv) {e : Nat} (he : e < 6) : (g.cs p).toArray[2 + e]? = some (.int .i64 (p.en e)) := by
  match e, he with
  | 0, _ => rfl
  | 1, _ => rfl
  | 2, _ => rfl
  | 3, _ => rfl
  | 4, _ => rfl
  | 5, _ => rfl
theorem cu_new {W : World} {g g' : Pg} {p : Pv} {K : Nat → Bool} {v5 : Value} {w w6 : World} (hp : Po W.heap.size g' p w) (hc : Cs W g p K v5 p.n w) (hw : w.alloc (.cells #[.slice g'.ca p.nc g'.cc, .slice g'.sa p.ns g'.sc, .int .i64 (p.en 0), .int .i64 (p.en 1), .int .i64 (p.en 2), .int .i64 (p.en 3), .int .i64 (p.en 4), .int .i64 (p.en 5), .slice none 0 0] 27) = w6) : Cu W g p K v5 w.heap.size (.slice g'.ca p.nc g'.cc) (.slice g'.sa p.ns g'.sc) (.slice none 0 0) 0 0 w6 := by
  have hb : Below w.heap.size w w6 := by rw [← hw]; exact below_alloc1 _ _
  refine ⟨hc.next hb, ?_, Nat.ne_of_gt (block_lt hc.pb), Nat.ne_of_gt (block_lt hc.rb), hc.bel.size, own_keep hp.c hb, own_keep hp.s hb, World.ownsRow_nil _ _ _ _⟩
  rw [← hw]
  simpa [pE] using alloc_atK w _
theorem cnt_not {K : Nat → Bool} {i : Nat} (h : K i = false) : cnt K (i + 1) = cnt K i := by
  show cnt K i + (if K i then 1 else 0) = _
  rw [h]
  rfl
set_option maxRecDepth 10000 in
set_option maxHeartbeats 12800000 in
/-- The reference's cut. -/
theorem cutR {W : World} {g : Pg} {p : Pv} (h : g.Ok p W.heap.size W) (hw : Wf p) {K : Nat → Bool} {ao : Option Addr} {kb ko cap : Nat} (hk : Kp W ao kb ko p.n K) :
    Calls Tryd.prog 27 #[.agg (g.cs p).toArray, .slice ao p.n cap] W fun e w' => ∃ g', e = .returned (.agg (g'.cs (cutF p K)).toArray) ∧ Hid (Po W.heap.size g' (cutF p K) w' ∧ Below W.heap.size W w') := by
  obtain ⟨i0, hi, hz0, hz1, hz2⟩ := info_parts Tryd.infoI
  obtain ⟨i1, hi', hz0', hz1', hz2'⟩ := info_parts Tryd.infoIn
  have HZN := hide (And.intro hi' (And.intro hz0' (And.intro hz1' hz2')))
  clear hi' hz0' hz1' hz2'
  obtain ⟨W2, hW2⟩ : ∃ W2, (W.alloc (.cells (g.cs p).toArray 27)).alloc (.cells zP 27) = W2 := ⟨_, rfl⟩
  obtain ⟨p2, r2, B2⟩ := two_new hW2
  have HC0 : Hid (Cs W g p K (.slice none 0 0) 0 W2) := ⟨p2, r2, World.ownsRow_nil _ _ _ _, B2⟩
  have hn := hw.sz.2.2
  have HWF := hide hw
  have HOK := hide h
  have HK := hide hk
  have HW2 := hide hW2
  have HCS : Hid (∀ (g : Pg) (p : Pv), g.cs p = [.slice g.ca p.nc g.cc, .slice g.sa p.ns g.sc, .int .i64 (p.en 0), .int .i64 (p.en 1), .int .i64 (p.en 2), .int .i64 (p.en 3), .int .i64 (p.en 4), .int .i64 (p.en 5), .slice g.ia p.n g.ic]) := fun _ _ => rfl
  have HZ : Hid (zP = #[.slice none 0 0, .slice none 0 0, .int .i64 0, .int .i64 0, .int .i64 0, .int .i64 0, .int .i64 0, .int .i64 0, .slice none 0 0]) := rfl
  have HCP : Hid (∀ v5 w1, Cs W g p K v5 p.n w1 → Calls Tryd.prog 38 #[.agg #[.slice g.ca p.nc g.cc, .slice g.sa p.ns g.sc, .int .i64 (p.en 0), .int .i64 (p.en 1), .int .i64 (p.en 2), .int .i64 (p.en 3), .int .i64 (p.en 4), .int .i64 (p.en 5), .slice g.ia p.n g.ic]] w1 fun e w' => ∃ g' : Pg, e = .returned (.agg #[.slice g'.ca p.nc g'.cc, .slice g'.sa p.ns g'.sc, .int .i64 (p.en 0), .int .i64 (p.en 1), .int .i64 (p.en 2), .int .i64 (p.en 3), .int .i64 (p.en 4), .int .i64 (p.en 5), .slice g'.ia p.n g'.ic]) ∧ Hid (Po W.heap.size g' p w' ∧ Cs W g p K v5 p.n w')) := fun v5 w1 h1 => by
    refine (copyR9 ((h.kept h1.bel (Nat.le_refl _)).wide h1.bel.size) hw.sz.1 hw.sz.2.1 hw.sz.2.2).mono ?_
    rintro e w' ⟨g', rfl, q1, q2⟩
    exact ⟨g', rfl, q1.low h1.bel.size, h1.next q2⟩
  rw [HCS.out g p, HZ.out] at HW2
  rw [HCS.out g p]
  clear h hw hk hW2 p2 r2 B2
  go_enter Tryd.func27, Tryd.ntmps27
  go_upto_region 1 with fail
  rw [HW2.out]
  clear HW2
  go_upto_block 0 with fail
  go_cut [5, 6, 7] from 12 (fun v _ _ V => Hid (Cs W g p K v p.n V))
  case first =>
    go_wp2
    go_loopw [5, 6, 7] (fun v n i wr => ∃ j : Nat, j ≤ p.n ∧ i = .int .i64 (j : Nat) ∧ n = .int .i64 (cI K j) ∧ Hid (Cs W g p K v j wr)) (fun _ _ i _ => p.n - (intOf i).toNat)
    case atStart => exact ⟨0, by omega, rfl, rfl, HC0.out⟩
    case round =>
      obtain ⟨j, hj, rfl, rfl, HJ⟩ := hrel
      clear HC0
      by_cases hlt : j < p.n
      · have hc := cI_le K j
        obtain ⟨kj, hkj⟩ : ∃ kj, K j = kj := ⟨_, rfl⟩
        have HNX2 := hide (cI_next K j kj hkj)
        have HOW : Hid (∀ o, (wr.alloc o).ownsRow W.heap.size 3 1 u5 j (nums .i64 (cI K) j)) := fun o => (HJ.out.next (below_alloc1 wr o)).tor
        have HSZ : Hid (∀ o, W.heap.size ≤ (wr.alloc o).heap.size) := fun o => (HJ.out.next (below_alloc1 wr o)).bel.size
        have HNX : Hid (∀ o v' w', w'.ownsRow W.heap.size 3 1 v' (j + 1) (nums .i64 (cI K) j ++ [.int .i64 (cI K j)]) → (wr.alloc o).grownBy w' u5.ownBlock → Cs W g p K v' (j + 1) w' ∧ ao = some ⟨kb, ko, none⟩ ∧ kb < w'.heap.size ∧ w'.cell? ⟨kb, ko + j, none⟩ = some (.bool kj)) := fun o v' w' h1 h2 => by
          have q := HJ.out.app h1 h2
          refine ⟨q, ?_⟩
          rw [← hkj]
          exact HK.out.at q.bel hlt
        clear HJ hkj
        obtain ⟨c, hcc⟩ : ∃ c, cI K j = c := ⟨_, rfl⟩
        rw [hcc] at HNX HNX2 hc ⊢
        clear hcc
        go_upto_region 7 with (at_builtin; refine wpList_append_own _ rfl (.tmp 18) (.tmp 20) 23 rfl W.heap.size 3 i0 (.int .i64 0) 1 8 Tryd.underlying23 hi hz0 hz1 hz2 rfl (by decide) u5 j _ rfl (HOW.out _) ⟨wr.heap.size, 0, none⟩ 1 1 [.int .i64 c] rfl rfl (cell_one_new _ _ _) (by simp [Value.oneCell']) (by unfold maxLen; omega) (by omega) (HSZ.out _) ?_; intro v' w5 ho hg _)
        obtain ⟨q1, q2, q3, q4⟩ := HNX.out _ _ _ ho hg
        have HN := hide q1
        clear ho hg q1 HOW HSZ HNX
        subst q2
        cases kj with
        | false =>
          go_wp2
          go_roundw
          case rel => exact ⟨j + 1, by omega, by go_num, by rw [HNX2.out]; rfl, HN.out⟩
          case measure => simp [intOf]; omega
        | true =>
          go_wp2
          go_roundw
          case rel => exact ⟨j + 1, by omega, by go_num, by rw [HNX2.out]; simp only [if_true], HN.out⟩
          case measure => simp [intOf]; omega
      · obtain rfl : j = p.n := by omega
        clear HCP
        go_wp2
        go_meet
        case rel => exact HJ.out
  case rest =>
  clear HC0
  have HC0 := hide hcut.out
  clear hcut
  have y0 := block_cell HC0.out.pb 0
  have y1 := block_cell HC0.out.pb 1
  have y2 := block_cell HC0.out.pb 2
  have y3 := block_cell HC0.out.pb 3
  have y4 := block_cell HC0.out.pb 4
  have y5 := block_cell HC0.out.pb 5
  have y6 := block_cell HC0.out.pb 6
  have y7 := block_cell HC0.out.pb 7
  have y8 := block_cell HC0.out.pb 8
  have yl := block_lt HC0.out.pb
  simp [Pg.cs] at y0 y1 y2 y3 y4 y5 y6 y7 y8
  go_wp2_with fail
  refine (HCP.out _ _ HC0.out).mono ?_
  rintro e w5 ⟨g', rfl, G5⟩
  clear HC0 y0 y1 y2 y3 y4 y5 y6 y7 y8 yl HCP
  go_upto_region 11 with fail
  obtain ⟨w6, hw6⟩ : ∃ w6, w5.alloc (.cells #[.slice g'.ca p.nc g'.cc, .slice g'.sa p.ns g'.sc, .int .i64 (p.en 0), .int .i64 (p.en 1), .int .i64 (p.en 2), .int .i64 (p.en 3), .int .i64 (p.en 4), .int .i64 (p.en 5), .slice none 0 0] 27) = w6 := ⟨_, rfl⟩
  have HU0 := hide (cu_new G5.out.1 G5.out.2 hw6)
  rw [hw6]
  clear hw6 G5
  generalize w5.heap.size = cb at *
  go_upto_block 2 with fail
  go_cut [9, 10] from 31 (fun _ _ V => Hid (∃ vi, Cu W g p K u5 cb (.slice g'.ca p.nc g'.cc) (.slice g'.sa p.ns g'.sc) vi 0 (cnt K p.n) V))
  case first =>
    go_wp2
    go_loopw [9] (fun i wr => ∃ j : Nat, j ≤ p.n ∧ i = .int .i64 (j : Nat) ∧ ∃ vi, Hid (Cu W g p K u5 cb (.slice g'.ca p.nc g'.cc) (.slice g'.sa p.ns g'.sc) vi 0 (cnt K j) wr)) (fun i _ => p.n - (intOf i).toNat)
    case atStart => exact ⟨0, by omega, rfl, _, HU0.out⟩
    case round =>
      obtain ⟨j, hj, rfl, vi, HJ⟩ := hrel
      clear HU0
      have y8 := block_cell HJ.out.cs.pb 8
      have yl := block_lt HJ.out.cs.pb
      simp [Pg.cs] at y8
      by_cases hlt : j < p.n
      · obtain ⟨hao, hkl, hkv⟩ := HK.out.at HJ.out.cs.bel hlt
        obtain ⟨kj, hkj⟩ : ∃ kj, K j = kj := ⟨_, rfl⟩
        rw [hkj] at hkv
        have HKJ := hide hkj
        clear hkj
        have HAO := hide hao
        subst hao
        cases kj with
        | false =>
          have HN : Hid (Cu W g p K u5 cb (.slice g'.ca p.nc g'.cc) (.slice g'.sa p.ns g'.sc) vi 0 (cnt K (j + 1)) wr) := by rw [cnt_not HKJ.out]; exact HJ.out
          clear HJ
          go_wp2
          go_roundw
          case rel => exact ⟨j + 1, by omega, by go_num, _, HN.out⟩
          case measure => simp [intOf]; omega
        | true =>
          have hcj : cnt K j ≤ 1024 := Nat.le_trans (cnt_le K j) (by omega)
          have ok := (HOK.out.kept HJ.out.cs.bel (Nat.le_refl _))
          obtain ⟨hia, hil⟩ := ok.hi (by omega)
          have hv := ok.vo j hlt
          have hv2 := ok.va j hlt
          have hl2 : g.ib < wr.heap.size := Nat.lt_of_lt_of_le hil HJ.out.cs.bel.size
          rw [hia] at y8
          have HII := hide (HWF.out.ins j hlt)
          have HSC := hide (sel_cnt hlt HKJ.out)
          have HOP : Hid ((cutF p K).op (cnt K j) = p.op j) := by show p.op (sel K p.n (cnt K j)) = _; rw [HSC.out]
          have HAR0 : Hid ((cutF p K).arg (cnt K j) = if wayP (p.op j) = true then cI K (p.arg j).toNat else p.arg j) := by
            show (if wayP (p.op (sel K p.n (cnt K j))) = true then _ else p.arg (sel K p.n (cnt K j))) = _
            rw [HSC.out]
            rfl
          have HTO : Hid (∀ t, t < p.n → ∀ w, Cs W g p K u5 p.n w → ∃ tb cp, u5 = .slice (some ⟨tb, 0, none⟩) p.n cp ∧ tb < w.heap.size ∧ w.cell? ⟨tb, t, none⟩ = some (.int .i64 (cI K t))) := fun t ht w hcs => hcs.at ht
          obtain ⟨b, hb⟩ : ∃ b, wayP (p.op j) = b := ⟨_, rfl⟩
          have HPL : Hid (b = true → ∃ t : Nat, p.arg j = t ∧ t < p.n) := fun e => by
            have q := isPl_nat (HII.out.way (hb.trans e))
            exact ⟨_, q.1, by have := q.2; omega⟩
          rw [hb] at HAR0
          obtain ⟨oj, hoj⟩ : ∃ oj, p.op j = oj := ⟨_, rfl⟩
          obtain ⟨aj, haj⟩ : ∃ aj, p.arg j = aj := ⟨_, rfl⟩
          rw [hoj] at hv HOP hb
          rw [haj] at hv2 HAR0 HPL
          have HB := hide hb
          obtain ⟨w6, hw6⟩ : ∃ w6, wr.alloc (.cells #[.int .i64 oj, .int .i64 aj] 83) = w6 := ⟨_, rfl⟩
          have hbn : Below wr.heap.size wr w6 := by rw [← hw6]; exact below_alloc1 _ _
          have han : w6.heap[wr.heap.size]? = some (.cells #[.int .i64 oj, .int .i64 aj] 83 (0, 0)) := by rw [← hw6]; exact alloc_atK _ _
          have HBN := hide hbn
          have HAN := hide han
          have HW6 := hide hw6
          clear hoj haj hia hil ok hb hbn han hw6 HSC HII
          go_upto_region 16 with fail
          rw [HW6.out]
          clear HW6 hv hv2 hl2 hkv y8 yl hkl
          have n0 := block_cell HAN.out 0
          have n1 := block_cell HAN.out 1
          have nl := block_lt HAN.out
          simp at n0 n1
          go_wp2_with fail
          refine (jumpsR oj w6).mono ?_
          rintro e w7 ⟨rfl, rfl⟩
          rw [HB.out]
          cases b with
          | false =>
            have H8 : Hid (Cu W g p K u5 cb (.slice g'.ca p.nc g'.cc) (.slice g'.sa p.ns g'.sc) vi 0 (cnt K j) w7) := HJ.out.next HBN.out
            have HAR : Hid ((cutF p K).arg (cnt K j) = aj) := HAR0.out
            clear HJ HBN HAN HPL HTO
            obtain ⟨ai, ci, hvi, hci, _⟩ := irow_val H8.out.i
            subst hvi
            have z8 := block_cell H8.out.bx 8
            have zl := block_lt H8.out.bx
            simp at z8
            have HOW : Hid (∀ ob, (w7.alloc ob).ownsRow W.heap.size 83 2 (.slice ai (cnt K j) ci) (cnt K j) (nums2 (cutF p K).op (cutF p K).arg (cnt K j))) := fun ob => (H8.out.next (below_alloc1 w7 ob)).i
            have HSZ : Hid (∀ ob, W.heap.size ≤ (w7.alloc ob).heap.size) := fun ob => (H8.out.next (below_alloc1 w7 ob)).cs.bel.size
            have HNX : Hid (∀ v' w9 ob, w9.ownsRow W.heap.size 83 2 v' (cnt K j + 1) (nums2 (cutF p K).op (cutF p K).arg (cnt K j) ++ [.int .i64 oj, .int .i64 aj]) → (w7.alloc ob).grownBy w9 (Value.slice ai (cnt K j) ci).ownBlock → Cu W g p K u5 cb (.slice g'.ca p.nc g'.cc) (.slice g'.sa p.ns g'.sc) v' 0 (cnt K (j + 1)) (w9.setCell ⟨cb, 8, none⟩ v') ∧ ∃ cs : Array Value, w9.heap[cb]? = some (.cells cs 27 (0, 0)) ∧ cs[8]? = some (.slice ai (cnt K j) ci)) := fun v' w9 ob ho hg => by
              have ho2 : Irow w9 W.heap.size v' (cnt K j + 1) (cutF p K).op (cutF p K).arg := by
                unfold Irow
                rw [nums2_next, HOP.out, HAR.out]
                exact ho
              have q := H8.out.app ho2 hg
              rw [cnt_next HKJ.out]
              exact ⟨q.1, _, q.2, rfl⟩
            clear H8
            generalize cnt K j = cj at *
            go_wp2_with (at_builtin; refine wpList_append_own _ rfl (.tmp 57) (.tmp 59) 25 rfl W.heap.size 83 i1 _ 2 16 Tryd.underlying25 HZN.out.1 HZN.out.2.1 HZN.out.2.2.1 HZN.out.2.2.2 rfl (by decide) (.slice ai cj ci) cj _ rfl (HOW.out _) ⟨w7.heap.size, 0, none⟩ 1 1 [.int .i64 oj, .int .i64 aj] rfl rfl (cells_newK w7 [.int .i64 oj, .int .i64 aj] 83) (by simp [Value.oneCell']) (by unfold maxLen; omega) (by omega) (HSZ.out _) ?_; intro v' w9 ho hg _; obtain ⟨q1, cs9, q2, q3⟩ := HNX.out _ _ _ ho hg; obtain ⟨ai2, ci2, hv2⟩ := own_val2 ho; have k8 := (block_cell q2 8).trans q3; have kf := block_free q2 8; have kl := block_lt q2; have HN := hide q1; subst hv2; clear ho hg q1 q2 q3 HOW HSZ HNX z8 zl n0 n1 nl)
            go_roundw
            case rel => exact ⟨j + 1, by omega, by go_num, _, HN.out⟩
            case measure => simp [intOf]; omega
          | true =>
            obtain ⟨t, ht, htn⟩ := HPL.out rfl
            subst ht
            obtain ⟨tb, cp, hu, htl, htv⟩ := HTO.out t htn _ (HJ.out.next HBN.out).cs
            subst hu
            have hf1 := block_free HAN.out 1
            have HAR : Hid ((cutF p K).arg (cnt K j) = cI K t) := HAR0.out
            obtain ⟨w8, hw8⟩ : ∃ w8, w7.setCell ⟨wr.heap.size, 1, none⟩ (.int .i64 (cI K t)) = w8 := ⟨_, rfl⟩
            have hb8 : Below wr.heap.size wr w8 := by rw [← hw8]; exact HBN.out.setCell (p := ⟨wr.heap.size, 1, none⟩) (Nat.le_refl _) _
            have ha8 : w8.heap[wr.heap.size]? = some (.cells #[.int .i64 oj, .int .i64 (cI K t)] 83 (0, 0)) := by
              rw [← hw8]
              simp [World.setCell, Array.getElem?_modify, HAN.out]
            have H8 := hide (HJ.out.next hb8)
            have HA8 := hide ha8
            have HW8 := hide hw8
            clear HJ HBN HAN HPL HTO hb8 ha8 hw8 HAR0
            generalize cI K t = ct at *
            go_upto_region 18 with fail
            rw [HW8.out]
            clear HW8 n0 n1 nl htv htl hf1
            have n0 := block_cell HA8.out 0
            have n1 := block_cell HA8.out 1
            have nl := block_lt HA8.out
            simp at n0 n1
            clear HA8
            obtain ⟨ai, ci, hvi, hci, _⟩ := irow_val H8.out.i
            subst hvi
            have z8 := block_cell H8.out.bx 8
            have zl := block_lt H8.out.bx
            simp at z8
            have HOW : Hid (∀ ob, (w8.alloc ob).ownsRow W.heap.size 83 2 (.slice ai (cnt K j) ci) (cnt K j) (nums2 (cutF p K).op (cutF p K).arg (cnt K j))) := fun ob => (H8.out.next (below_alloc1 w8 ob)).i
            have HSZ : Hid (∀ ob, W.heap.size ≤ (w8.alloc ob).heap.size) := fun ob => (H8.out.next (below_alloc1 w8 ob)).cs.bel.size
            have HNX : Hid (∀ v' w9 ob, w9.ownsRow W.heap.size 83 2 v' (cnt K j + 1) (nums2 (cutF p K).op (cutF p K).arg (cnt K j) ++ [.int .i64 oj, .int .i64 ct]) → (w8.alloc ob).grownBy w9 (Value.slice ai (cnt K j) ci).ownBlock → Cu W g p K (.slice (some ⟨tb, 0, none⟩) p.n cp) cb (.slice g'.ca p.nc g'.cc) (.slice g'.sa p.ns g'.sc) v' 0 (cnt K (j + 1)) (w9.setCell ⟨cb, 8, none⟩ v') ∧ ∃ cs : Array Value, w9.heap[cb]? = some (.cells cs 27 (0, 0)) ∧ cs[8]? = some (.slice ai (cnt K j) ci)) := fun v' w9 ob ho hg => by
              have ho2 : Irow w9 W.heap.size v' (cnt K j + 1) (cutF p K).op (cutF p K).arg := by
                unfold Irow
                rw [nums2_next, HOP.out, HAR.out]
                exact ho
              have q := H8.out.app ho2 hg
              rw [cnt_next HKJ.out]
              exact ⟨q.1, _, q.2, rfl⟩
            clear H8
            generalize cnt K j = cj at *
            go_wp2_with (at_builtin; refine wpList_append_own _ rfl (.tmp 57) (.tmp 59) 25 rfl W.heap.size 83 i1 _ 2 16 Tryd.underlying25 HZN.out.1 HZN.out.2.1 HZN.out.2.2.1 HZN.out.2.2.2 rfl (by decide) (.slice ai cj ci) cj _ rfl (HOW.out _) ⟨w8.heap.size, 0, none⟩ 1 1 [.int .i64 oj, .int .i64 ct] rfl rfl (cells_newK w8 [.int .i64 oj, .int .i64 ct] 83) (by simp [Value.oneCell']) (by unfold maxLen; omega) (by omega) (HSZ.out _) ?_; intro v' w9 ho hg _; obtain ⟨q1, cs9, q2, q3⟩ := HNX.out _ _ _ ho hg; obtain ⟨ai2, ci2, hv2⟩ := own_val2 ho; have k8 := (block_cell q2 8).trans q3; have kf := block_free q2 8; have kl := block_lt q2; have HN := hide q1; subst hv2; clear ho hg q1 q2 q3 HOW HSZ HNX z8 zl n0 n1 nl)
            go_roundw
            case rel => exact ⟨j + 1, by omega, by go_num, _, HN.out⟩
            case measure => simp [intOf]; omega
      · obtain rfl : j = p.n := by omega
        go_wp2
        go_meet
        case rel => exact ⟨_, HJ.out⟩
  case rest =>
  obtain ⟨vi, HU1⟩ := hcut.out
  have HU := hide HU1
  clear HU0 HU1 hcut
  go_upto_block 4 with fail
  go_cut [11] from 62 (fun _ V => Hid (Cu W g p K u5 cb (.slice g'.ca p.nc g'.cc) (.slice g'.sa p.ns g'.sc) vi 6 (cnt K p.n) V))
  case first =>
    go_wp2
    go_loopw [11] (fun i wr => ∃ j : Nat, j ≤ 6 ∧ i = .int .i64 (j : Nat) ∧ Hid (Cu W g p K u5 cb (.slice g'.ca p.nc g'.cc) (.slice g'.sa p.ns g'.sc) vi j (cnt K p.n) wr)) (fun i _ => 6 - (intOf i).toNat)
    case atStart => exact ⟨0, by omega, rfl, HU.out⟩
    case round =>
      obtain ⟨j, hj, rfl, HJ⟩ := hrel
      clear HU
      by_cases hlt : j < 6
      · have e0 := (block_cell HJ.out.cs.pb (2 + j)).trans (cs_en g p hlt)
        have yl := block_lt HJ.out.cs.pb
        by_cases he : 0 ≤ p.en j
        · obtain ⟨t, ht⟩ : ∃ t : Nat, p.en j = t := ⟨(p.en j).toNat, by omega⟩
          have htn : t < p.n := by
            rcases HWF.out.en j hlt with q | q
            · omega
            · have := (isPl_nat q).2; omega
          have H6 := hide (HJ.out.ent hlt he)
          have ht2 : (p.en j).toNat = t := by omega
          rw [ht2] at H6
          obtain ⟨tb, cp, hu, htl, htv⟩ := HJ.out.cs.at htn
          subst hu
          have hbx : ∃ u, wr.cell? ⟨cb, 2 + j, none⟩ = some u := by
            rw [block_cell HJ.out.bx]
            exact ⟨_, Array.getElem?_eq_getElem (by simp; omega)⟩
          obtain ⟨u, hu⟩ := hbx
          have hfz := block_free HJ.out.bx (2 + j)
          have hpl := block_lt HJ.out.bx
          rw [ht] at e0
          have htv2 : wr.cell? ⟨tb, t, none⟩ = some (.int .i64 ((cnt K t : Nat) : Int)) := htv
          clear HJ ht ht2 he htv
          generalize ((cnt K t : Nat) : Int) = ct at *
          go_wp2
          go_roundw
          case rel => exact ⟨j + 1, by omega, by go_num, H6.out⟩
          case measure => simp [intOf]; omega
        · have H6 := hide (HJ.out.skip he)
          clear HJ
          generalize p.en j = x at *
          go_wp2
          go_roundw
          case rel => exact ⟨j + 1, by omega, by go_num, H6.out⟩
          case measure => simp [intOf]; omega
      · obtain rfl : j = 6 := by omega
        go_wp2
        go_meet
        case rel => exact HJ.out
  case rest =>
  clear HU
  have HU := hide hcut.out
  clear hcut
  obtain ⟨g2, e1, e2, e3, hf⟩ := HU.out.fin HWF.out
  subst e3
  have HF := hide hf
  have HE1 := hide e1
  have HE2 := hide e2
  clear hf e1 e2
  have z0 := block_cell HU.out.bx 0
  have z1 := block_cell HU.out.bx 1
  have z2 := block_cell HU.out.bx 2
  have z3 := block_cell HU.out.bx 3
  have z4 := block_cell HU.out.bx 4
  have z5 := block_cell HU.out.bx 5
  have z6 := block_cell HU.out.bx 6
  have z7 := block_cell HU.out.bx 7
  have z8 := block_cell HU.out.bx 8
  have zl := block_lt HU.out.bx
  have r0 := block_cell HU.out.cs.rb 0
  have f0 := block_free HU.out.cs.rb 0
  have r1 := block_cell HU.out.cs.rb 1
  have f1 := block_free HU.out.cs.rb 1
  have r2 := block_cell HU.out.cs.rb 2
  have f2 := block_free HU.out.cs.rb 2
  have r3 := block_cell HU.out.cs.rb 3
  have f3 := block_free HU.out.cs.rb 3
  have r4 := block_cell HU.out.cs.rb 4
  have f4 := block_free HU.out.cs.rb 4
  have r5 := block_cell HU.out.cs.rb 5
  have f5 := block_free HU.out.cs.rb 5
  have r6 := block_cell HU.out.cs.rb 6
  have f6 := block_free HU.out.cs.rb 6
  have r7 := block_cell HU.out.cs.rb 7
  have f7 := block_free HU.out.cs.rb 7
  have r8 := block_cell HU.out.cs.rb 8
  have f8 := block_free HU.out.cs.rb 8
  have rl := block_lt HU.out.cs.rb
  have en6 : ∀ x, x < 6 → (pE p K 6).en x = (cutF p K).en x := fun x hx => by simp [pE, cutF, hx]
  rw [en6 0 (by decide), en6 1 (by decide), en6 2 (by decide), en6 3 (by decide), en6 4 (by decide), en6 5 (by decide)] at z0 z1 z2 z3 z4 z5 z6 z7 z8
  simp at z0 z1 z2 z3 z4 z5 z6 z7 z8
  simp [zP] at r0 r1 r2 r3 r4 r5 r6 r7 r8
  have HR9 := hide (set9_blk HU.out.cs.rb rfl (.slice g'.ca p.nc g'.cc) (.slice g'.sa p.ns g'.sc) (.int .i64 ((cutF p K).en 0)) (.int .i64 ((cutF p K).en 1)) (.int .i64 ((cutF p K).en 2)) (.int .i64 ((cutF p K).en 3)) (.int .i64 ((cutF p K).en 4)) (.int .i64 ((cutF p K).en 5)) (.slice g2.ia (cnt K p.n) g2.ic)).1
  have HV : Hid ((g2.cs (cutF p K)) = [(.slice g'.ca p.nc g'.cc), (.slice g'.sa p.ns g'.sc), .int .i64 ((cutF p K).en 0), .int .i64 ((cutF p K).en 1), .int .i64 ((cutF p K).en 2), .int .i64 ((cutF p K).en 3), .int .i64 ((cutF p K).en 4), .int .i64 ((cutF p K).en 5), .slice g2.ia (cnt K p.n) g2.ic]) := by
    show [Value.slice g2.ca p.nc g2.cc, Value.slice g2.sa p.ns g2.sc, _, _, _, _, _, _, _] = _
    rw [← HE1.out, ← HE2.out]
    rfl
  clear HU en6
  generalize (cutF p K).en 0 = en0 at *
  generalize (cutF p K).en 1 = en1 at *
  generalize (cutF p K).en 2 = en2 at *
  generalize (cutF p K).en 3 = en3 at *
  generalize (cutF p K).en 4 = en4 at *
  generalize (cutF p K).en 5 = en5 at *
  generalize cnt K p.n = m at *
  go_wp2
  have hr9 := HR9.out
  have q0 := block_cell hr9 0
  have q1 := block_cell hr9 1
  have q2 := block_cell hr9 2
  have q3 := block_cell hr9 3
  have q4 := block_cell hr9 4
  have q5 := block_cell hr9 5
  have q6 := block_cell hr9 6
  have q7 := block_cell hr9 7
  have q8 := block_cell hr9 8
  unfold set9 at q0 q1 q2 q3 q4 q5 q6 q7 q8
  simp only [List.getElem?_toArray, List.getElem?_cons_zero, List.getElem?_cons_succ] at q0 q1 q2 q3 q4 q5 q6 q7 q8
  refine bodyPost_ret (v := .agg #[.slice g'.ca p.nc g'.cc, .slice g'.sa p.ns g'.sc, .int .i64 en0, .int .i64 en1, .int .i64 en2, .int .i64 en3, .int .i64 en4, .int .i64 en5, .slice g2.ia m g2.ic]) (by simp [results, Tryd.results27, go_sem, q0, q1, q2, q3, q4, q5, q6, q7, q8]) rfl ?_
  exact ⟨g2, by rw [HV.out], HF.out⟩
end Go.Proofs.YtmoklddfaocihaaDoor
