import Derived.Test.YtmoklddfaocihaaDoorMI
namespace Go.Proofs.YtmoklddfaocihaaDoor
open Go.RowKit

theorem FV.offG {w w' : World} {q : Nat} {cs : Array Value} {t : TypeId} {ao : Option Addr} {L : List Lk} {b off : Nat} (h : FV w.heap.size w ao L b off) (hq : w.heap[q]? = some (.cells cs t (0, 0))) (hs : ∀ (j : Nat) (x : ByteArray), cs[j]? ≠ some (Value.string x)) (hg : w.grownBy w' (some q)) : FV w'.heap.size w' ao L b off := by
  refine ⟨h.ad, fun e => Nat.lt_of_lt_of_le (h.lt e) hg.size, h.le, fun j l hl => ?_⟩
  have hne : b ≠ q := fun e => by
    have := (h.at_ j l hl).1
    rw [e, block_cell hq] at this
    exact hs _ _ this
  have hlt := h.lt (by have := (List.getElem?_eq_some_iff.1 hl).1; omega)
  have hb : w'.heap[b]? = w.heap[b]? := hg.block b hlt (by simpa using fun e => hne e)
  obtain ⟨a1, a2⟩ := h.at_ j l hl
  simp only [World.cell?] at a1 a2 ⊢
  rw [hb]
  exact ⟨a1, a2⟩
theorem zP_str (j : Nat) (x : ByteArray) : zP[j]? ≠ some (Value.string x) := by
  match j with
  | 0 => simp [zP]
  | 1 => simp [zP]
  | 2 => simp [zP]
  | 3 => simp [zP]
  | 4 => simp [zP]
  | 5 => simp [zP]
  | 6 => simp [zP]
  | 7 => simp [zP]
  | 8 => simp [zP]
  | j + 9 => simp [zP]
theorem three_new {W W3 : World} {cs : Array Value} (hW : ((W.alloc (.cells cs 27)).alloc (.cells zP 27)).alloc (.cells #[.slice none 0 0, .int .i64 0] 30) = W3) : W3.heap[W.heap.size]? = some (.cells cs 27 (0, 0)) ∧ W3.heap[W.heap.size + 1]? = some (.cells zP 27 (0, 0)) ∧ W3.heap[W.heap.size + 1 + 1]? = some (.cells #[.slice none 0 0, .int .i64 0] 30 (0, 0)) ∧ W.heap.size + 3 = W3.heap.size ∧ Below W.heap.size W W3 := by
  obtain ⟨W2, hW2⟩ : ∃ W2, (W.alloc (.cells cs 27)).alloc (.cells zP 27) = W2 := ⟨_, rfl⟩
  obtain ⟨a1, a2, a3⟩ := two_new hW2
  rw [hW2] at hW
  have s2 : W2.heap.size = W.heap.size + 1 + 1 := by rw [← hW2]; simp
  have B3 : Below W2.heap.size W2 W3 := by rw [← hW]; exact below_alloc1 _ _
  refine ⟨(B3.block _ (block_lt a1)).trans a1, (B3.block _ (block_lt a2)).trans a2, ?_, ?_, a3.trans (B3.mono a3.size)⟩
  · rw [← hW, ← s2]; exact alloc_atK _ _
  · rw [← hW]; simp; omega
/-- The reference's Tidy under way: the boxes, the program. -/
structure Tq (W : World) (qb : Nat) (g : Pg) (p : Pv) (w : World) : Prop where
  rb : w.heap[W.heap.size + 1]? = some (.cells zP 27 (0, 0))
  fb : w.heap[W.heap.size + 1 + 1]? = some (.cells #[.slice none 0 0, .int .i64 0] 30 (0, 0))
  bx : w.heap[qb]? = some (.cells (g.cs p).toArray 27 (0, 0))
  n : W.heap.size + 1 + 1 < qb
  po : Po W.heap.size g p w
  bel : Below W.heap.size W w
section
variable {W : World} {qb : Nat} {g : Pg} {p : Pv} {w w' : World}
theorem Tq.next (h : Tq W qb g p w) (hb : Below w.heap.size w w') : Tq W qb g p w' :=
  ⟨(hb.block _ (block_lt h.rb)).trans h.rb, (hb.block _ (block_lt h.fb)).trans h.fb, (hb.block _ (block_lt h.bx)).trans h.bx, h.n, h.po.next hb, h.bel.trans (hb.mono h.bel.size)⟩
/-- The program is replaced. -/
theorem Tq.put {g' : Pg} {p' : Pv} (h : Tq W qb g p w) (hpo : Po W.heap.size g' p' w) (hwf : set9 w qb (.slice g'.ca p'.nc g'.cc) (.slice g'.sa p'.ns g'.sc) (.int .i64 (p'.en 0)) (.int .i64 (p'.en 1)) (.int .i64 (p'.en 2)) (.int .i64 (p'.en 3)) (.int .i64 (p'.en 4)) (.int .i64 (p'.en 5)) (.slice g'.ia p'.n g'.ic) = w') : Tq W qb g' p' w' := by
  obtain ⟨q1, q2⟩ := set9_blk h.bx (by rfl) (.slice g'.ca p'.nc g'.cc) (.slice g'.sa p'.ns g'.sc) (.int .i64 (p'.en 0)) (.int .i64 (p'.en 1)) (.int .i64 (p'.en 2)) (.int .i64 (p'.en 3)) (.int .i64 (p'.en 4)) (.int .i64 (p'.en 5)) (.slice g'.ia p'.n g'.ic)
  rw [hwf] at q1 q2
  have hn := h.n
  have bw : Below W.heap.size w w' := (Below.refl _ w).grown q2 h.bel.size (fun x hx => by cases hx; omega)
  exact ⟨(q2.block _ (block_lt h.rb) (by simp; omega)).trans h.rb, (q2.block _ (block_lt h.fb) (by simp; omega)).trans h.fb, q1, h.n, hpo.off h.bx (by decide) (by decide) (by decide) q2, h.bel.trans bw⟩
/-- An argument is changed. -/
theorem Tq.arg {a a' : Nat → Int} {gb i : Nat} {x : Int} (h : Tq W qb g (pA p a) w) (hia : g.ia = some ⟨gb, 0, none⟩) (hi : i < p.n) (ha : ∀ y, y < p.n → (if y = i then x else a y) = a' y) : Tq W qb g (pA p a') (w.setCell ⟨gb, i * 2 + 1, none⟩ (.int .i64 x)) := by
  have hg := grown_setT w gb (i * 2 + 1) (.int .i64 x)
  have hrow : Irow w W.heap.size (.slice (some ⟨gb, 0, none⟩) p.n g.ic) p.n p.op a := by have := h.po.i; rw [hia] at this; exact this
  obtain ⟨hgb, cs, hc⟩ := own_typ2 hrow (b := gb) rfl
  have off : ∀ {t : TypeId} {q : Nat} {cs : Array Value}, (83 : TypeId) ≠ t → w.heap[q]? = some (.cells cs t (0, 0)) → (w.setCell ⟨gb, i * 2 + 1, none⟩ (.int .i64 x)).heap[q]? = w.heap[q]? := fun ht hq => hg.block _ (block_lt hq) (fun y => own_off2 hrow ht hq (by rw [y]; rfl))
  refine ⟨(off (by decide) h.rb).trans h.rb, (off (by decide) h.fb).trans h.fb, (off (by decide) h.bx).trans h.bx, h.n, ?_, h.bel.trans ((Below.refl _ w).setCell (p := ⟨gb, i * 2 + 1, none⟩) hgb _)⟩
  refine h.po.remake (p' := pA p a') rfl rfl rfl (own_offT h.po.c hc (by decide) hg) (own_offT h.po.s hc (by decide) hg) ?_
  show Irow _ W.heap.size (.slice g.ia p.n g.ic) p.n p.op a'
  rw [hia]
  exact irow_congr (irow_set hrow hi) (fun _ _ => rfl) ha
theorem Tq.congr {a a' : Nat → Int} (h : Tq W qb g (pA p a) w) (ha : ∀ y, y < p.n → a y = a' y) : Tq W qb g (pA p a') w :=
  ⟨h.rb, h.fb, h.bx, h.n, h.po.remake (p' := pA p a') rfl rfl rfl h.po.c h.po.s (irow_congr h.po.i (fun _ _ => rfl) ha), h.bel⟩
theorem Tq.row (h : Tq W qb g p w) (h0 : 0 < p.n) : ∃ gb, g.ia = some ⟨gb, 0, none⟩ ∧ gb < w.heap.size ∧ p.n ≤ g.ic ∧ ∀ j, j < p.n → w.cell? ⟨gb, j * 2, none⟩ = some (.int .i64 (p.op j)) ∧ w.cell? ⟨gb, j * 2 + 1, none⟩ = some (.int .i64 (p.arg j)) ∧ w.frozen? ⟨gb, j * 2 + 1, none⟩ = false := by
  obtain ⟨_, _, e, h1, h2⟩ := irow_val h.po.i
  cases e
  obtain ⟨gb, e, _, h3, h4⟩ := h2 h0
  exact ⟨gb, e, h3, h1, h4⟩
/-- Where the way of j stands in memory: a measure. -/
def mesQ (p : Pv) (ga : Option Addr) (j : Nat) (w : World) : Nat := match ga with
  | some g => mesS p g.block j w
  | none => 0
/-- How far the search for idle jumps may still go. -/
def mesT (qb : Nat) (w : World) (i : Value) : Nat := match w.cell? ⟨qb, 8, none⟩ with
  | some (.slice _ n _) => n * 2000 + (n - (intOf i).toNat)
  | _ => 0
theorem Tq.mes (h : Tq W qb g p w) (i : Nat) : mesT qb w (.int .i64 (i : Nat)) = p.n * 2000 + (p.n - i) := by
  have := block_cell h.bx 8
  simp [Pg.cs] at this
  unfold mesT
  rw [this]
  simp [intOf]
/-- Which places are kept, as a row. -/
def bls (K : Nat → Bool) (n : Nat) : List Value := (List.range n).map (fun j => .bool (K j))
theorem bls_next (K : Nat → Bool) (n : Nat) : bls K (n + 1) = bls K n ++ [.bool (K n)] := by unfold bls; rw [List.range_succ]; simp
structure Tk (W : World) (qb : Nat) (g : Pg) (p : Pv) (v : Value) (K : Nat → Bool) (j : Nat) (w : World) : Prop where
  q : Tq W qb g p w
  r : w.ownsRow W.heap.size 4 1 v j (bls K j)
theorem Tk.next {v : Value} {K : Nat → Bool} {j : Nat} (h : Tk W qb g p v K j w) (hb : Below w.heap.size w w') : Tk W qb g p v K j w' := ⟨h.q.next hb, own_keep h.r hb⟩
theorem Tk.app {v v' : Value} {K : Nat → Bool} {j : Nat} {o : Obj} (h : Tk W qb g p v K j w) (ho : w'.ownsRow W.heap.size 4 1 v' (j + 1) (bls K j ++ [.bool (K j)])) (hg : (w.alloc o).grownBy w' v.ownBlock) : Tk W qb g p v' K (j + 1) w' := by
  have hn := h.next (below_alloc1 w o)
  have off : ∀ {t : TypeId} {q : Nat} {cs : Array Value}, (4 : TypeId) ≠ t → (w.alloc o).heap[q]? = some (.cells cs t (0, 0)) → w'.heap[q]? = (w.alloc o).heap[q]? := fun ht hq => hg.block _ (block_lt hq) (fun x => own_off2 hn.r ht hq x.symm)
  have row : ∀ {t : TypeId} {v : Value} {n sz : Nat} {xs : List Value}, (4 : TypeId) ≠ t → (w.alloc o).ownsRow W.heap.size t sz v n xs → w'.ownsRow W.heap.size t sz v n xs := fun ht hr => by
    refine hr.kept hg ?_
    cases e : Value.ownBlock _ with
    | none => exact .inl rfl
    | some b =>
      obtain ⟨_, cs, hc⟩ := own_typ2 hr e
      exact .inr (fun x => own_off2 hn.r ht hc x.symm)
  refine ⟨⟨(off (by decide) hn.q.rb).trans hn.q.rb, (off (by decide) hn.q.fb).trans hn.q.fb, (off (by decide) hn.q.bx).trans hn.q.bx, h.q.n, ?_, hn.q.bel.trans ((Below.refl _ _).grown hg hn.q.bel.size (fun x hx => (hn.r.lt x hx).1))⟩, by rw [bls_next]; exact ho⟩
  exact hn.q.po.remake rfl rfl rfl (row (by decide) hn.q.po.c) (row (by decide) hn.q.po.s) (row (by decide) hn.q.po.i)
theorem Tk.kp {v : Value} {K : Nat → Bool} (h : Tk W qb g p v K p.n w) : ∃ ao cap kb, v = .slice ao p.n cap ∧ Kp w ao kb 0 p.n K := by
  obtain ⟨ao, cap, rfl⟩ := own_val h.r
  rcases h.r.2 with ⟨e, h0⟩ | ⟨b, cap', cur, e, _⟩
  · exact ⟨ao, cap, 0, rfl, fun x => by omega, fun j hj => by omega⟩
  · cases e
    obtain ⟨_, h2, h3⟩ := own_place h.r rfl
    refine ⟨_, _, b, rfl, fun _ => ⟨rfl, h2⟩, fun j hj => ?_⟩
    rw [h3 j (by omega)]
    simp [bls, hj]
end
/-- The search for idle jumps: what the invariant says beside the memory. -/
structure Id3 (F q : Pv) (i : Nat) : Prop where
  wf : Wf q
  f : idleF q.n q = F
  i0 : fstI q i = none
  le : i ≤ q.n
theorem Id3.step {F q : Pv} {i : Nat} (h : Id3 F q i) (hi : i < q.n) (hn : idleB q i = false) : Id3 F q (i + 1) := ⟨h.wf, h.f, by rw [fstI_next h.i0, hn]; rfl, hi⟩
theorem Id3.cut {F q : Pv} {i : Nat} (h : Id3 F q i) (hi : i < q.n) (hn : idleB q i = true) : Id3 F (cutF q (butK i)) 0 ∧ (cutF q (butK i)).n + 1 = q.n := by
  have e := fstI_hit h.i0 hn hi
  obtain ⟨a1, a2, _⟩ := idle_wf h.wf e
  refine ⟨⟨a1, ?_, rfl, Nat.zero_le _⟩, a2⟩
  rw [← h.f]
  have : idleF q.n q = idleF ((cutF q (butK i)).n + 1) q := by rw [a2]
  rw [this, idleF_some e]
theorem Id3.fin {F q : Pv} (h : Id3 F q q.n) : q = F := by rw [← h.f, idleF_none h.i0]
/-- What the reference's Tidy answers. -/
def TdR (W : World) (p : Pv) (r : Except (Int × Int) Kn) (e : Ending) (w' : World) : Prop := match r with
  | .ok k => ∃ k2 g', e = .returned (.tuple #[.agg (g'.cs (tidF p k k2)).toArray, .agg #[.slice none 0 0, .int .i64 0]]) ∧ Hid (verF (shortF (cutF p (kOf k))) = .ok k2 ∧ Po W.heap.size g' (tidF p k k2) w' ∧ Below W.heap.size W w')
  | .error (a, y) => ∃ ao cap, e = .returned (.tuple #[.agg zP, .agg #[.slice ao 1 cap, .int .i64 y]]) ∧ Hid (y ≠ 0 ∧ ∃ b off, FV w'.heap.size w' ao [⟨⟨#[99, 111, 100, 101]⟩, a⟩] b off ∧ Below W.heap.size W w')
/-- The end of a refusal: both results are written, in either order. -/
theorem tdr_fin {W w wf : World} {ao : Option Addr} {L : List Lk} {b off cap : Nat} {y : Int} (rb : w.heap[W.heap.size + 1]? = some (.cells zP 27 (0, 0))) (fb : w.heap[W.heap.size + 1 + 1]? = some (.cells #[.slice none 0 0, .int .i64 0] 30 (0, 0))) (hf : FV w.heap.size w ao L b off) (hb : Below W.heap.size W w)
    (hw : (((set9 w (W.heap.size + 1) (.slice none 0 0) (.slice none 0 0) (.int .i64 0) (.int .i64 0) (.int .i64 0) (.int .i64 0) (.int .i64 0) (.int .i64 0) (.slice none 0 0)).setCell ⟨W.heap.size + 1 + 1, 0, none⟩ (.slice ao 1 cap)).setCell ⟨W.heap.size + 1 + 1, 1, none⟩ (.int .i64 y)) = wf ∨ set9 ((w.setCell ⟨W.heap.size + 1 + 1, 0, none⟩ (.slice ao 1 cap)).setCell ⟨W.heap.size + 1 + 1, 1, none⟩ (.int .i64 y)) (W.heap.size + 1) (.slice none 0 0) (.slice none 0 0) (.int .i64 0) (.int .i64 0) (.int .i64 0) (.int .i64 0) (.int .i64 0) (.int .i64 0) (.slice none 0 0) = wf) :
    wf.heap[W.heap.size + 1]? = some (.cells zP 27 (0, 0)) ∧ wf.heap[W.heap.size + 1 + 1]? = some (.cells #[.slice ao 1 cap, .int .i64 y] 30 (0, 0)) ∧ FV wf.heap.size wf ao L b off ∧ Below W.heap.size W wf := by
  have set2 : ∀ {u : World}, u.heap[W.heap.size + 1 + 1]? = some (.cells #[.slice none 0 0, .int .i64 0] 30 (0, 0)) → ((u.setCell ⟨W.heap.size + 1 + 1, 0, none⟩ (.slice ao 1 cap)).setCell ⟨W.heap.size + 1 + 1, 1, none⟩ (.int .i64 y)).heap[W.heap.size + 1 + 1]? = some (.cells #[.slice ao 1 cap, .int .i64 y] 30 (0, 0)) ∧ u.grownBy ((u.setCell ⟨W.heap.size + 1 + 1, 0, none⟩ (.slice ao 1 cap)).setCell ⟨W.heap.size + 1 + 1, 1, none⟩ (.int .i64 y)) (some (W.heap.size + 1 + 1)) := fun {u} hu => by
    refine ⟨?_, grown_tr (grown_setT u _ 0 _) (grown_setT _ _ 1 _)⟩
    simp [World.setCell, Array.getElem?_modify, hu]
  rcases hw with hw | hw
  · obtain ⟨q1, q2⟩ := set9_blk rb (by rfl) (.slice none 0 0) (.slice none 0 0) (.int .i64 0) (.int .i64 0) (.int .i64 0) (.int .i64 0) (.int .i64 0) (.int .i64 0) (.slice none 0 0)
    generalize set9 w (W.heap.size + 1) (.slice none 0 0) (.slice none 0 0) (.int .i64 0) (.int .i64 0) (.int .i64 0) (.int .i64 0) (.int .i64 0) (.int .i64 0) (.slice none 0 0) = u at hw q1 q2
    have fu := (q2.block _ (block_lt fb) (by simp)).trans fb
    have hfu := hf.offG rb zP_str q2
    have bu : Below W.heap.size w u := (Below.refl _ w).grown q2 hb.size (fun x hx => by cases hx; omega)
    obtain ⟨s1, s2⟩ := set2 fu
    rw [hw] at s1 s2
    have bf : Below W.heap.size u wf := (Below.refl _ u).grown s2 (hb.trans bu).size (fun x hx => by cases hx; omega)
    exact ⟨(s2.block _ (block_lt q1) (by simp)).trans q1, s1, hfu.offG fu (fun j x => by match j with | 0 => simp | 1 => simp | j + 2 => simp) s2, (hb.trans bu).trans bf⟩
  · obtain ⟨s1, s2⟩ := set2 fb
    generalize (w.setCell ⟨W.heap.size + 1 + 1, 0, none⟩ (.slice ao 1 cap)).setCell ⟨W.heap.size + 1 + 1, 1, none⟩ (.int .i64 y) = u at hw s1 s2
    have ru := (s2.block _ (block_lt rb) (by simp)).trans rb
    have hfu := hf.offG fb (fun j x => by match j with | 0 => simp | 1 => simp | j + 2 => simp) s2
    have bu : Below W.heap.size w u := (Below.refl _ w).grown s2 hb.size (fun x hx => by cases hx; omega)
    obtain ⟨q1, q2⟩ := set9_blk ru (by rfl) (.slice none 0 0) (.slice none 0 0) (.int .i64 0) (.int .i64 0) (.int .i64 0) (.int .i64 0) (.int .i64 0) (.int .i64 0) (.slice none 0 0)
    rw [hw] at q1 q2
    have bf : Below W.heap.size u wf := (Below.refl _ u).grown q2 (hb.trans bu).size (fun x hx => by cases hx; omega)
    exact ⟨q1, (q2.block _ (block_lt s1) (by simp)).trans s1, hfu.offG ru zP_str q2, (hb.trans bu).trans bf⟩
/-- The end of a program that is tidied: both results are written. -/
theorem tdo_fin {W w wf : World} {g : Pg} {p : Pv} (rb : w.heap[W.heap.size + 1]? = some (.cells zP 27 (0, 0))) (fb : w.heap[W.heap.size + 1 + 1]? = some (.cells #[.slice none 0 0, .int .i64 0] 30 (0, 0))) (hpo : Po W.heap.size g p w) (hb : Below W.heap.size W w)
    (hw : ((set9 w (W.heap.size + 1) (.slice g.ca p.nc g.cc) (.slice g.sa p.ns g.sc) (.int .i64 (p.en 0)) (.int .i64 (p.en 1)) (.int .i64 (p.en 2)) (.int .i64 (p.en 3)) (.int .i64 (p.en 4)) (.int .i64 (p.en 5)) (.slice g.ia p.n g.ic)).setCell ⟨W.heap.size + 1 + 1, 0, none⟩ (.slice none 0 0)).setCell ⟨W.heap.size + 1 + 1, 1, none⟩ (.int .i64 0) = wf) :
    wf.heap[W.heap.size + 1]? = some (.cells #[.slice g.ca p.nc g.cc, .slice g.sa p.ns g.sc, .int .i64 (p.en 0), .int .i64 (p.en 1), .int .i64 (p.en 2), .int .i64 (p.en 3), .int .i64 (p.en 4), .int .i64 (p.en 5), .slice g.ia p.n g.ic] 27 (0, 0)) ∧ wf.heap[W.heap.size + 1 + 1]? = some (.cells #[.slice none 0 0, .int .i64 0] 30 (0, 0)) ∧ Po W.heap.size g p wf ∧ Below W.heap.size W wf := by
  obtain ⟨q1, q2⟩ := set9_blk rb (by rfl) (.slice g.ca p.nc g.cc) (.slice g.sa p.ns g.sc) (.int .i64 (p.en 0)) (.int .i64 (p.en 1)) (.int .i64 (p.en 2)) (.int .i64 (p.en 3)) (.int .i64 (p.en 4)) (.int .i64 (p.en 5)) (.slice g.ia p.n g.ic)
  generalize set9 w (W.heap.size + 1) (.slice g.ca p.nc g.cc) (.slice g.sa p.ns g.sc) (.int .i64 (p.en 0)) (.int .i64 (p.en 1)) (.int .i64 (p.en 2)) (.int .i64 (p.en 3)) (.int .i64 (p.en 4)) (.int .i64 (p.en 5)) (.slice g.ia p.n g.ic) = u at hw q1 q2
  have fu := (q2.block _ (block_lt fb) (by simp)).trans fb
  have bu : Below W.heap.size w u := (Below.refl _ w).grown q2 hb.size (fun x hx => by cases hx; omega)
  have s1 : ((u.setCell ⟨W.heap.size + 1 + 1, 0, none⟩ (.slice none 0 0)).setCell ⟨W.heap.size + 1 + 1, 1, none⟩ (.int .i64 0)).heap[W.heap.size + 1 + 1]? = some (.cells #[.slice none 0 0, .int .i64 0] 30 (0, 0)) := by simp [World.setCell, Array.getElem?_modify, fu]
  have s2 : u.grownBy ((u.setCell ⟨W.heap.size + 1 + 1, 0, none⟩ (.slice none 0 0)).setCell ⟨W.heap.size + 1 + 1, 1, none⟩ (.int .i64 0)) (some (W.heap.size + 1 + 1)) := grown_tr (grown_setT u _ 0 _) (grown_setT _ _ 1 _)
  rw [hw] at s1 s2
  have bf : Below W.heap.size u wf := (Below.refl _ u).grown s2 (hb.trans bu).size (fun x hx => by cases hx; omega)
  exact ⟨(s2.block _ (block_lt q1) (by simp)).trans q1, s1, (hpo.off rb (by decide) (by decide) (by decide) q2).off fu (by decide) (by decide) (by decide) s2, (hb.trans bu).trans bf⟩
end Go.Proofs.YtmoklddfaocihaaDoor
namespace Go.Proofs.YtmoklddfaocihaaDoor
open Go.RowKit

set_option maxRecDepth 10000 in
set_option maxHeartbeats 25600000 in
theorem tidyR {W : World} {g : Pg} {p : Pv} (h : g.Ok p W.heap.size W) :
    Calls Tryd.prog 6 #[.agg (g.cs p).toArray] W (TdR W p (verF p)) := by
  obtain ⟨iB, hB, hB0, hB1, hB2⟩ := info_parts Tryd.infoB
  obtain ⟨W3, hW3⟩ : ∃ W3, ((W.alloc (.cells (g.cs p).toArray 27)).alloc (.cells zP 27)).alloc (.cells #[.slice none 0 0, .int .i64 0] 30) = W3 := ⟨_, rfl⟩
  have hn3 := three_new hW3
  have HVF := hide (verifyR ((h.kept hn3.2.2.2.2 (Nat.le_refl _)).wide hn3.2.2.2.2.size))
  obtain ⟨r, hr⟩ : ∃ r, verF p = r := ⟨_, rfl⟩
  have HVR := hide hr
  rw [hr] at HVF ⊢
  have y0 := block_cell hn3.1 0
  have y1 := block_cell hn3.1 1
  have y2 := block_cell hn3.1 2
  have y3 := block_cell hn3.1 3
  have y4 := block_cell hn3.1 4
  have y5 := block_cell hn3.1 5
  have y6 := block_cell hn3.1 6
  have y7 := block_cell hn3.1 7
  have y8 := block_cell hn3.1 8
  have yl := block_lt hn3.1
  simp [Pg.cs] at y0 y1 y2 y3 y4 y5 y6 y7 y8
  have HN3 := hide hn3
  have HOK := hide h
  have HW3 := hide hW3
  have HCS : Hid (∀ (g : Pg) (p : Pv), g.cs p = [.slice g.ca p.nc g.cc, .slice g.sa p.ns g.sc, .int .i64 (p.en 0), .int .i64 (p.en 1), .int .i64 (p.en 2), .int .i64 (p.en 3), .int .i64 (p.en 4), .int .i64 (p.en 5), .slice g.ia p.n g.ic]) := fun _ _ => rfl
  have HZ : Hid (zP = #[.slice none 0 0, .slice none 0 0, .int .i64 0, .int .i64 0, .int .i64 0, .int .i64 0, .int .i64 0, .int .i64 0, .slice none 0 0]) := rfl
  rw [HCS.out g p, HZ.out] at HW3
  rw [HCS.out g p] at HVF ⊢
  clear h hW3 hn3 hr
  go_enter Tryd.func6, Tryd.ntmps6
  go_upto_region 1 with fail
  rw [HW3.out]
  clear HW3
  go_wp2_with fail
  refine HVF.out.mono ?_
  intro e w4 hh
  clear y0 y1 y2 y3 y4 y5 y6 y7 y8 yl
  cases r with
  | error z =>
    obtain ⟨a, y⟩ := z
    obtain ⟨ao, cap, rfl, G⟩ := hh
    obtain ⟨b, off, hf, hb4⟩ := G.out
    have hne : y ≠ 0 := ver_ne HVR.out
    obtain ⟨w5, hw5⟩ : ∃ w5, w4.alloc (.cells #[.slice ao 1 cap, .int .i64 y] 30) = w5 := ⟨_, rfl⟩
    have B5 : Below w4.heap.size w4 w5 := by rw [← hw5]; exact below_alloc1 _ _
    have A5 : w5.heap[w4.heap.size]? = some (.cells #[.slice ao 1 cap, .int .i64 y] 30 (0, 0)) := by rw [← hw5]; exact alloc_atK _ _
    have t0 := block_cell A5 0
    have t1 := block_cell A5 1
    have tl := block_lt A5
    simp at t0 t1
    have HA5 := hide A5
    have HW5 := hide hw5
    have HAN := hide (anyYes ao 1 cap y hne w5)
    have H5 : Hid (w5.heap[W.heap.size + 1]? = some (.cells zP 27 (0, 0)) ∧ w5.heap[W.heap.size + 1 + 1]? = some (.cells #[.slice none 0 0, .int .i64 0] 30 (0, 0)) ∧ FV w5.heap.size w5 ao [⟨⟨#[99, 111, 100, 101]⟩, a⟩] b off ∧ Below W.heap.size W w5) := by
      have b5 := hb4.trans (B5.mono hb4.size)
      exact ⟨(b5.block _ (block_lt HN3.out.2.1)).trans HN3.out.2.1, (b5.block _ (block_lt HN3.out.2.2.1)).trans HN3.out.2.2.1, hf.next B5, HN3.out.2.2.2.2.trans (b5.mono HN3.out.2.2.2.2.size)⟩
    have HFB : Hid (W.heap.size + 3 ≤ w4.heap.size) := by have := hb4.size; have := HN3.out.2.2.2.1; show _ ≤ _; omega
    clear G hf hb4 hw5 B5 A5 HVF HN3 HVR
    go_upto_region 2 with fail
    rw [HW5.out]
    clear HW5
    go_wp2_with fail
    refine HAN.out.mono ?_
    rintro e w6 ⟨rfl, G6⟩
    have A6 : w6.heap[w4.heap.size]? = some (.cells #[.slice ao 1 cap, .int .i64 y] 30 (0, 0)) := (G6.out.block _ (block_lt HA5.out)).trans HA5.out
    have H6 : Hid (w6.heap[W.heap.size + 1]? = some (.cells zP 27 (0, 0)) ∧ w6.heap[W.heap.size + 1 + 1]? = some (.cells #[.slice none 0 0, .int .i64 0] 30 (0, 0)) ∧ FV w6.heap.size w6 ao [⟨⟨#[99, 111, 100, 101]⟩, a⟩] b off ∧ Below W.heap.size W w6) := ⟨(G6.out.block _ (block_lt H5.out.1)).trans H5.out.1, (G6.out.block _ (block_lt H5.out.2.1)).trans H5.out.2.1, H5.out.2.2.1.next G6.out, H5.out.2.2.2.trans (G6.out.mono H5.out.2.2.2.size)⟩
    clear H5 G6 HA5 HAN t0 t1 tl
    have HA6 := hide A6
    clear A6
    have HKP : Hid (∀ (u u' : World) (c : Nat), c = W.heap.size + 1 ∨ c = W.heap.size + 1 + 1 → u.heap[w4.heap.size]? = some (.cells #[.slice ao 1 cap, .int .i64 y] 30 (0, 0)) → u.grownBy u' (some c) → u'.heap[w4.heap.size]? = some (.cells #[.slice ao 1 cap, .int .i64 y] 30 (0, 0))) := fun u u' c hc hu hg => (hg.block _ (block_lt hu) (by have := HFB.out; simp; omega)).trans hu
    generalize w4.heap.size = fb at *
    have H7 : Hid (w6.drew.heap[W.heap.size + 1]? = some (.cells zP 27 (0, 0)) ∧ w6.drew.heap[W.heap.size + 1 + 1]? = some (.cells #[.slice none 0 0, .int .i64 0] 30 (0, 0)) ∧ FV w6.drew.heap.size w6.drew ao [⟨⟨#[99, 111, 100, 101]⟩, a⟩] b off ∧ Below W.heap.size W w6.drew) := ⟨H6.out.1, H6.out.2.1, H6.out.2.2.1.next (Below.refl _ _).drew, H6.out.2.2.2.drew⟩
    have HA7 : Hid (w6.drew.heap[fb]? = some (.cells #[.slice ao 1 cap, .int .i64 y] 30 (0, 0))) := HA6.out
    clear H6 HA6
    have H6 := hide H7.out
    clear H7
    go_upto_region 3 with fail
    refine wp_region_held_drew (S := fun w => w.heap[fb]? = some (.cells #[.slice ao 1 cap, .int .i64 y] 30 (0, 0))) (by kernel_rfl) HA7.out (fun hH => ?_)
    generalize w6.drew = w7 at *
    have HR := hide H6.out.1
    have HS := hide H6.out.2.1
    refine wpAnyH_take (i := 0) (oi := { dst := some 14, op := Op.build 27 #[], type := 27, pos := "verify.go:303", after := #[], guard := none }) (v := .agg #[.slice none 0 0, .slice none 0 0, .int .i64 0, .int .i64 0, .int .i64 0, .int .i64 0, .int .i64 0, .int .i64 0, .slice none 0 0]) rfl (by kernel_rfl) (by kernel_rfl) (by kernel_rfl) (fun _ _ _ h => h) (Or.inl ⟨by rfl, fun w' hSw => ?_⟩) hH ?_
    · go_simp
    simp only [Act.put, List.setIfInBounds_toArray, List.set_cons_zero, List.set_cons_succ]
    refine wpAnyH_take (i := 1) (oi := { dst := some 15, op := Op.load 30 (Operand.tmp 4), type := 30, pos := "verify.go:303", after := #[{ on := 2, ground := Ground.gcOnly Departure.lateStores }], guard := none }) (v := .agg #[.slice ao 1 cap, .int .i64 y]) rfl (by kernel_rfl) (by kernel_rfl) (by kernel_rfl) (fun _ _ _ h => h) (Or.inl ⟨by rfl, fun w' hSw => ?_⟩) hH ?_
    · have k0 := block_cell hSw 0
      have k1 := block_cell hSw 1
      have kl := block_lt hSw
      simp at k0 k1
      go_simp
    simp only [Act.put, List.setIfInBounds_toArray, List.set_cons_zero, List.set_cons_succ]
    refine wpAnyH_ready (rs := [2]) (by kernel_rfl) (by simp) ?_
    refine AllReadyH.cons rfl (fun K hK => ?_) AllReadyH.nil
    have r0 := block_cell HR.out 0
    have r1 := block_cell HR.out 1
    have r2 := block_cell HR.out 2
    have r3 := block_cell HR.out 3
    have r4 := block_cell HR.out 4
    have r5 := block_cell HR.out 5
    have r6 := block_cell HR.out 6
    have r7 := block_cell HR.out 7
    have r8 := block_cell HR.out 8
    have rf0 := block_free HR.out 0
    have rf1 := block_free HR.out 1
    have rf2 := block_free HR.out 2
    have rf3 := block_free HR.out 3
    have rf4 := block_free HR.out 4
    have rf5 := block_free HR.out 5
    have rf6 := block_free HR.out 6
    have rf7 := block_free HR.out 7
    have rf8 := block_free HR.out 8
    have rl := block_lt HR.out
    simp [zP] at r0 r1 r2 r3 r4 r5 r6 r7 r8
    have s0 := block_cell HS.out 0
    have s1 := block_cell HS.out 1
    have sf0 := block_free HS.out 0
    have sf1 := block_free HS.out 1
    have sl := block_lt HS.out
    simp at s0 s1
    go_simp
    go_wp2_with fail
    refine hK.out _ _ (HKP.out _ _ _ (.inl rfl) hH (set9_grown _ (W.heap.size + 1) (.slice none 0 0) (.slice none 0 0) (.int .i64 0) (.int .i64 0) (.int .i64 0) (.int .i64 0) (.int .i64 0) (.int .i64 0) (.slice none 0 0))) (fun hSb => ?_)
    clear hK K
    refine wpAnyH_ready (rs := [3]) (by kernel_rfl) (by simp) ?_
    refine AllReadyH.cons rfl (fun K hK => ?_) AllReadyH.nil
    go_simp
    go_wp2_with fail
    refine hK.out _ _ (HKP.out _ _ _ (.inr rfl) hSb (grown_tr (grown_setT _ (W.heap.size + 1 + 1) 0 (.slice ao 1 cap)) (grown_setT _ (W.heap.size + 1 + 1) 1 (.int .i64 y)))) (fun _ => ?_)
    clear hK K
    refine wpAnyH_done (by kernel_rfl) ?_ _
    generalize hwf : World.setCell _ _ _ = wf
    obtain ⟨hr1, hr2, hr3, hr4⟩ := tdr_fin (wf := wf) (cap := cap) (y := y) H6.out.1 H6.out.2.1 H6.out.2.2.1 H6.out.2.2.2 (.inl hwf)
    clear hwf r0 r1 r2 r3 r4 r5 r6 r7 r8 rf0 rf1 rf2 rf3 rf4 rf5 rf6 rf7 rf8 rl s0 s1 sf0 sf1 sl HR HS
    have c0 := block_cell hr1 0
    have c1 := block_cell hr1 1
    have c2 := block_cell hr1 2
    have c3 := block_cell hr1 3
    have c4 := block_cell hr1 4
    have c5 := block_cell hr1 5
    have c6 := block_cell hr1 6
    have c7 := block_cell hr1 7
    have c8 := block_cell hr1 8
    have cl := block_lt hr1
    have d0 := block_cell hr2 0
    have d1 := block_cell hr2 1
    simp [zP] at c0 c1 c2 c3 c4 c5 c6 c7 c8
    simp at d0 d1
    have HE : Hid (y ≠ 0 ∧ ∃ b off, FV wf.heap.size wf ao [⟨⟨#[99, 111, 100, 101]⟩, a⟩] b off ∧ Below W.heap.size W wf) := ⟨hne, b, off, hr3, hr4⟩
    clear hr1 hr2 hr3 hr4
    go_wp2
    refine bodyPost_ret (v := .tuple #[.agg #[.slice none 0 0, .slice none 0 0, .int .i64 0, .int .i64 0, .int .i64 0, .int .i64 0, .int .i64 0, .int .i64 0, .slice none 0 0], .agg #[.slice ao 1 cap, .int .i64 y]]) (by simp [results, Tryd.results6, go_sem, c0, c1, c2, c3, c4, c5, c6, c7, c8, d0, d1]) rfl ?_
    exact ⟨ao, cap, by rw [HZ.out], HE⟩
  | ok k =>
    obtain ⟨rfl, hb4⟩ := (hh : e = .returned (.agg #[.slice none 0 0, .int .i64 0]) ∧ Hid (Below W3.heap.size W3 w4))
    obtain ⟨w5, hw5⟩ : ∃ w5, w4.alloc (.cells #[.slice none 0 0, .int .i64 0] 30) = w5 := ⟨_, rfl⟩
    have B5 : Below w4.heap.size w4 w5 := by rw [← hw5]; exact below_alloc1 _ _
    have A5 : w5.heap[w4.heap.size]? = some (.cells #[.slice none 0 0, .int .i64 0] 30 (0, 0)) := by rw [← hw5]; exact alloc_atK _ _
    have t0 := block_cell A5 0
    have t1 := block_cell A5 1
    have tl := block_lt A5
    simp at t0 t1
    have HB5 := hide (hb4.out.trans (B5.mono hb4.out.size))
    have HW5 := hide hw5
    have HAN := hide (anyNo w5)
    clear hb4 hw5 B5 A5 HVF
    go_upto_region 2 with fail
    rw [HW5.out]
    clear HW5
    go_wp2_with fail
    refine HAN.out.mono ?_
    rintro e w6 ⟨rfl, G6⟩
    have HB6 := hide (HB5.out.trans (G6.out.mono HB5.out.size))
    have HP6 : Hid (w6.heap[W.heap.size]? = some (.cells (g.cs p).toArray 27 (0, 0))) := (HB6.out.block _ (block_lt HN3.out.1)).trans HN3.out.1
    have HBW := hide (HN3.out.2.2.2.2.trans (HB6.out.mono HN3.out.2.2.2.2.size))
    have HRE := hide (reachedR ((HOK.out.kept HBW.out (Nat.le_refl _)).wide HBW.out.size) HVR.out)
    rw [HCS.out g p] at HRE
    have y0 := block_cell HP6.out 0
    have y1 := block_cell HP6.out 1
    have y2 := block_cell HP6.out 2
    have y3 := block_cell HP6.out 3
    have y4 := block_cell HP6.out 4
    have y5 := block_cell HP6.out 5
    have y6 := block_cell HP6.out 6
    have y7 := block_cell HP6.out 7
    have y8 := block_cell HP6.out 8
    have yl := block_lt HP6.out
    simp [Pg.cs] at y0 y1 y2 y3 y4 y5 y6 y7 y8
    clear G6 HB5 HAN t0 t1 tl HP6
    obtain ⟨k2, hk2⟩ := short_ver HVR.out
    obtain ⟨cw1, k1, cv1, call⟩ := cut_ver HVR.out
    have HK2 := hide hk2
    have HWF := hide cw1
    have HFL := hide (flow_of cv1)
    have HALL := hide call
    clear hk2 cw1 cv1 call
    have HTF : Hid (tidF p k k2 = constF (idleF (cutF (shortF (cutF p (kOf k))) (kOf k2)).n (cutF (shortF (cutF p (kOf k))) (kOf k2)))) := rfl
    go_upto_region 4 with fail
    go_wp2_with fail
    refine HRE.out.mono ?_
    rintro e w7 ⟨g1, rfl, G7⟩
    clear HRE y0 y1 y2 y3 y4 y5 y6 y7 y8 yl
    have HQN : Hid (∀ w8, w7.alloc (.cells (g1.cs (cutF p (kOf k))).toArray 27) = w8 → Tq W w7.heap.size g1 (cutF p (kOf k)) w8) := fun w8 hw8 => by
      have B8 : Below w7.heap.size w7 w8 := by rw [← hw8]; exact below_alloc1 _ _
      have B7 := HB6.out.trans (G7.out.2.mono HB6.out.size)
      have r7 := (B7.block _ (block_lt HN3.out.2.1)).trans HN3.out.2.1
      have f7 := (B7.block _ (block_lt HN3.out.2.2.1)).trans HN3.out.2.2.1
      have s7 := B7.size
      have s3 := HN3.out.2.2.2.1
      have q8 : w8.heap[w7.heap.size]? = some (.cells (g1.cs (cutF p (kOf k))).toArray 27 (0, 0)) := by rw [← hw8]; exact alloc_atK _ _
      have W7 := HN3.out.2.2.2.2.trans (B7.mono HN3.out.2.2.2.2.size)
      exact ⟨(B8.block _ (block_lt r7)).trans r7, (B8.block _ (block_lt f7)).trans f7, q8, by omega, (G7.out.1.low HBW.out.size).next B8, W7.trans (B8.mono W7.size)⟩
    clear HN3 G7 HOK HB6 HBW
    rw [HCS.out g1 (cutF p (kOf k))]
    rw [HCS.out g1 (cutF p (kOf k))] at HQN
    obtain ⟨qq, hq⟩ : ∃ qq, cutF p (kOf k) = qq := ⟨_, rfl⟩
    rw [hq] at HQN HWF HFL HALL HK2 HTF ⊢
    have HQQ := hide hq
    clear hq
    go_upto_region 5 with fail
    obtain ⟨w8, hw8⟩ : ∃ w8, w7.alloc (.cells #[.slice g1.ca qq.nc g1.cc, .slice g1.sa qq.ns g1.sc, .int .i64 (qq.en 0), .int .i64 (qq.en 1), .int .i64 (qq.en 2), .int .i64 (qq.en 3), .int .i64 (qq.en 4), .int .i64 (qq.en 5), .slice g1.ia qq.n g1.ic] 27) = w8 := ⟨_, rfl⟩
    have HQ0 := hide (HQN.out w8 hw8)
    rw [hw8]
    clear hw8 HQN
    generalize w7.heap.size = qb at *
    have HQ0 : Hid (Tq W qb g1 (pA qq (argS qq 0 (qq.arg 0))) w8) := HQ0.out.congr (p := qq) (a := qq.arg) (fun y _ => by unfold argS; rw [if_neg (by omega)]; split; rename_i e; rw [e]; rfl)
    go_upto_block 0 with fail
    go_cut [6] from 18 (fun _ V => Hid (Tq W qb g1 (shortF qq) V))
    case first =>
      have hqn := HWF.out.sz.2.2
      go_wp2
      go_loopw [6] (fun i wr => ∃ j : Nat, j ≤ qq.n ∧ i = .int .i64 (j : Nat) ∧ Hid (Tq W qb g1 (pA qq (argS qq j (qq.arg j))) wr)) (fun i _ => qq.n - (intOf i).toNat)
      case atStart => exact ⟨0, by omega, rfl, HQ0.out⟩
      case round =>
        obtain ⟨j, hj, rfl, HJ⟩ := hrel
        clear HQ0
        have z8 := block_cell HJ.out.bx 8
        have zl := block_lt HJ.out.bx
        simp [Pg.cs, pA] at z8
        by_cases hlt : j < qq.n
        · obtain ⟨gb, hia, _⟩ := HJ.out.row (by show 0 < qq.n; omega)
          obtain ⟨wo, hwo⟩ : ∃ wo, wo = wr := ⟨_, rfl⟩
          rw [← hwo] at HJ z8 zl ⊢
          clear hwo
          have hii := HWF.out.ins j hlt
          obtain ⟨oj, hoj⟩ : ∃ oj, qq.op j = oj := ⟨_, rfl⟩
          obtain ⟨wy, hwy⟩ : ∃ wy, wayP oj = wy := ⟨_, rfl⟩
          have HWY := hide hwy
          have HOO := hide hoj
          have HIA := hide hia
          have HIV : Hid (IvS qq j wy (qq.arg j)) := by
            refine ⟨fun e => rfl, fun e => ?_⟩
            have hwp : wayP (qq.op j) = true := by rw [hoj, hwy]; exact e
            have hpl := isPl_nat (hii.way hwp)
            obtain ⟨l, hl⟩ := Option.isSome_iff_exists.1 (HALL.out j hlt)
            obtain ⟨l', hm⟩ := mem_way (l := l) hwp
            have g1 := (HFL.out.fl j l hlt hl).2 _ hm
            refine ⟨(qq.arg j).toNat, hpl.1, hpl.2, rfl, fun e25 => ?_⟩
            rcases Nat.lt_or_ge j (qq.arg j).toNat with q | q
            · exact q
            · have := g1.2.1 q
              simp only at this
              rw [e25] at this
              exact absurd this (by decide)
          clear hwy hoj hii hia
          go_upto_block 2 with fail
          clear z8 zl
          go_wp2
          go_loopw [] (fun wr => ∃ c : Int, Hid (Tq W qb g1 (pA qq (argS qq j c)) wr ∧ IvS qq j wy c)) (fun wr => mesS qq gb j wr)
          case atStart => exact ⟨qq.arg j, HJ.out, HIV.out⟩
          case round =>
            obtain ⟨c, HC⟩ := hrel
            clear HJ HIV
            obtain ⟨gb', hia', gl, hcap, hrow⟩ := HC.out.1.row (by show 0 < qq.n; omega)
            rw [HIA.out] at hia'
            cases hia'
            have hcap : qq.n ≤ g1.ic := hcap
            obtain ⟨e0, e1, c2⟩ := hrow j hlt
            have c0 : wr.cell? ⟨gb, j * 2, none⟩ = some (.int .i64 oj) := by rw [← HOO.out]; exact e0
            have hself : argS qq j c j = c := by unfold argS; rw [if_neg (by omega), if_pos rfl]
            have c1 : wr.cell? ⟨gb, j * 2 + 1, none⟩ = some (.int .i64 c) := by rw [← hself]; exact e1
            have z8 := block_cell HC.out.1.bx 8
            have zl := block_lt HC.out.1.bx
            simp [Pg.cs, pA, HIA.out] at z8
            have HJR := hide (fun w => jumpsR oj w)
            rw [HWY.out] at HJR
            clear e0 e1
            cases wy with
            | false =>
              have hcj := HC.out.2.1 rfl
              have HN : Hid (Tq W qb g1 (pA qq (argS qq (j + 1) (qq.arg (j + 1)))) wr) := HC.out.1.congr (fun y _ => by
                unfold argS
                by_cases q : y = j
                · subst q
                  rw [if_neg (by omega), if_pos rfl, if_pos (by omega)]
                  show _ = (if wayP (qq.op y) = true then _ else _)
                  rw [if_neg (by rw [HOO.out, HWY.out]; decide)]
                  exact hcj
                · by_cases q2 : y < j
                  · rw [if_pos q2, if_pos (by omega)]
                  · rw [if_neg q2, if_neg q, if_neg (by omega)]
                    split
                    · rename_i q3; rw [q3]
                    · rfl)
              clear HC hself hcj hrow
              go_upto_region 8 with fail
              go_quiet (first | (go_at_call 26; refine Calls.quiet_of_same (HJR.out _)))
              go_wp2
              go_roundw
              case rel => exact ⟨j + 1, by omega, by go_num, HN.out.next (Go.below_drewN (Below.refl _ _) _)⟩
              case measure => simp [intOf]; omega
            | true =>
              obtain ⟨t, rfl, htn, hfin, hfw⟩ := HC.out.2.2 rfl
              obtain ⟨x0, x1, _⟩ := hrow t htn
              have d0 : wr.cell? ⟨gb, t * 2, none⟩ = some (.int .i64 (qq.op t)) := x0
              have d1 : wr.cell? ⟨gb, t * 2 + 1, none⟩ = some (.int .i64 (argS qq j (t : Int) t)) := x1
              clear x0 x1
              by_cases e25 : qq.op t = 25
              · have hjt := hfw e25
                have hargt : argS qq j (t : Int) t = qq.arg t := by unfold argS; rw [if_neg (by omega), if_neg (by omega)]
                rw [hargt] at d1
                obtain ⟨l, hl⟩ := Option.isSome_iff_exists.1 (HALL.out t htn)
                have g0 := (HFL.out.fl t l htn hl).2 ((qq.arg t).toNat, l) (by rw [jump_edgs e25]; exact List.mem_cons_self ..)
                simp only at g0
                have hpl := isPl_nat ((HWF.out.ins t htn).way (by rw [e25]; rfl))
                obtain ⟨t2, ht2⟩ : ∃ t2 : Nat, qq.arg t = t2 := ⟨_, hpl.1⟩
                have ht3 : (qq.arg t).toNat = t2 := by omega
                rw [ht3] at g0
                rw [ht2] at d1
                rw [e25] at d0
                have HN : Hid (∀ w, Tq W qb g1 (pA qq (argS qq j (t : Int))) w → w.cell? ⟨gb, j * 2 + 1, none⟩ = some (.int .i64 (t : Int)) → (Tq W qb g1 (pA qq (argS qq j (t2 : Int))) (w.setCell ⟨gb, j * 2 + 1, none⟩ (.int .i64 (t2 : Int))) ∧ IvS qq j true (t2 : Int)) ∧ mesS qq gb j (w.setCell ⟨gb, j * 2 + 1, none⟩ (.int .i64 (t2 : Int))) < mesS qq gb j w) := fun w hq hc1 => by
                  have h1 : Tq W qb g1 (pA qq (argS qq j (t2 : Int))) (w.setCell ⟨gb, j * 2 + 1, none⟩ (.int .i64 (t2 : Int))) := by
                    refine hq.arg HIA.out hlt (fun y _ => ?_)
                    unfold argS
                    by_cases q : y = j
                    · subst q
                      rw [if_pos rfl, if_neg (by omega), if_pos rfl]
                    · rw [if_neg q]
                      by_cases q2 : y < j
                      · rw [if_pos q2, if_pos q2]
                      · rw [if_neg q2, if_neg q2, if_neg q, if_neg q]
                  refine ⟨⟨h1, fun e => (by cases e), fun _ => ⟨t2, rfl, g0.1, ?_, fun e => ?_⟩⟩, ?_⟩
                  · rw [← hfin, fin_step HFL.out htn hl e25, ht3]
                  · rcases Nat.lt_or_ge t t2 with q | q
                    · omega
                    · have := g0.2.1 q
                      rw [e] at this
                      exact absurd this (by decide)
                  · obtain ⟨gb', hia', _, _, hr2⟩ := h1.row (by show 0 < qq.n; omega)
                    rw [HIA.out] at hia'
                    cases hia'
                    obtain ⟨_, k1, _⟩ := hr2 j hlt
                    have hs2 : argS qq j (t2 : Int) j = t2 := by unfold argS; rw [if_neg (by omega), if_pos rfl]
                    have k1 : _ = some (Value.int .i64 (argS qq j (t2 : Int) j)) := k1
                    rw [hs2] at k1
                    unfold mesS
                    rw [k1, hc1]
                    simp only [Int.toNat_natCast]
                    rw [if_pos e25]
                    by_cases e : qq.op t2 = 25
                    · rw [if_pos e]
                      rcases Nat.lt_or_ge t t2 with q | q
                      · omega
                      · have := g0.2.1 q
                        rw [e] at this
                        exact absurd this (by decide)
                    · rw [if_neg e]
                      omega
                have HC1 := hide (HC.out.1)
                clear HC hself hargt hfin hfw g0 hpl ht2 ht3 hl e25 hrow hjt
                go_upto_region 8 with fail
                go_quiet (first | (go_at_call 26; refine Calls.quiet_of_same (HJR.out _)))
                clear d0 c0 HJR
                go_upto_region 9 with fail
                obtain ⟨wz, hwz⟩ : ∃ wz, (wr.drewN nq).drew = wz := ⟨_, rfl⟩
                have HZ1 : Hid (Tq W qb g1 (pA qq (argS qq j (t : Int))) wz) := by rw [← hwz]; exact (HC1.out.next (Go.below_drewN (Below.refl _ _) _)).next (Below.refl _ _).drew
                have HS9 : Hid ((fun (w : World) => w.cell? ⟨qb, 8, none⟩ = some (.slice (some ⟨gb, 0, none⟩) qq.n g1.ic) ∧ qb < w.heap.size ∧ w.cell? ⟨gb, j * 2 + 1, none⟩ = some (.int .i64 (t : Nat)) ∧ w.cell? ⟨gb, t * 2 + 1, none⟩ = some (.int .i64 (t2 : Nat)) ∧ gb < w.heap.size ∧ w.frozen? ⟨gb, j * 2 + 1, none⟩ = false) wz) := by rw [← hwz]; exact ⟨z8, zl, c1, d1, gl, c2⟩
                have HN2 := hide (HN.out wz HZ1.out HS9.out.2.2.1)
                have HMW : Hid (mesS qq gb j wz = mesS qq gb j wr) := by rw [← hwz]; rfl
                clear z8 zl c1 d1 gl c2 HC1 HZ1 HN
                refine wp_region_L 16 (fun (w : World) => w.cell? ⟨qb, 8, none⟩ = some (.slice (some ⟨gb, 0, none⟩) qq.n g1.ic) ∧ qb < w.heap.size ∧ w.cell? ⟨gb, j * 2 + 1, none⟩ = some (.int .i64 (t : Nat)) ∧ w.cell? ⟨gb, t * 2 + 1, none⟩ = some (.int .i64 (t2 : Nat)) ∧ gb < w.heap.size ∧ w.frozen? ⟨gb, j * 2 + 1, none⟩ = false) (fun _ => True) (by kernel_rfl) (by rw [hwz]; exact HS9.out) trivial (fun hS0 => ?_)
                rw [hwz] at hS0 ⊢
                clear hwz
                refine wpAnyL_take (i := 0) (oi := { dst := some 46, op := Op.fieldAddr 27 (Operand.tmp 5) 3, type := 0, pos := "verify.go:308", after := #[], guard := none }) (v := .pointer (some ⟨qb, 8, none⟩)) rfl (by decide) (by kernel_rfl) (by kernel_rfl) (by kernel_rfl) (fun _ _ _ h => h) (Or.inl ⟨by rfl, fun w2 hSw => ?_⟩) hS0 (fun hS1 => ?_)
                · go_simp
                simp only [Act.put, List.setIfInBounds_toArray, List.set_cons_zero, List.set_cons_succ]
                clear hS0
                refine wpAnyL_take1 (i := 1) (oi := { dst := some 47, op := Op.load 25 (Operand.tmp 46), type := 25, pos := "verify.go:308", after := #[{ on := 0, ground := Ground.data }], guard := none }) (v := .slice (some ⟨gb, 0, none⟩) qq.n g1.ic) rfl (by decide) (by kernel_rfl) (by kernel_rfl) (by kernel_rfl) (fun _ _ _ h => h) (Or.inl ⟨by rfl, fun w2 hSw => ?_⟩) hS1 (by kernel_rfl) rfl (by kernel_rfl) (fun hS2 => ?_)
                · obtain ⟨k8, kl, kj, kt, gl, kf⟩ := hSw
                  go_simp
                simp only [Act.put, List.setIfInBounds_toArray, List.set_cons_zero, List.set_cons_succ]
                clear hS1
                refine wpAnyL_take (i := 2) (oi := { dst := some 48, op := Op.move (Operand.tmp 6), type := 3, pos := "verify.go:308", after := #[], guard := none }) (v := .int .i64 (j : Nat)) rfl (by decide) (by kernel_rfl) (by kernel_rfl) (by kernel_rfl) (fun _ _ _ h => h) (Or.inl ⟨by rfl, fun w2 hSw => ?_⟩) hS2 (fun hS3 => ?_)
                · go_simp
                simp only [Act.put, List.setIfInBounds_toArray, List.set_cons_zero, List.set_cons_succ]
                clear hS2
                refine wpAnyL_take (i := 3) (oi := { dst := some 49, op := Op.fieldAddr 27 (Operand.tmp 5) 3, type := 0, pos := "verify.go:308", after := #[], guard := none }) (v := .pointer (some ⟨qb, 8, none⟩)) rfl (by decide) (by kernel_rfl) (by kernel_rfl) (by kernel_rfl) (fun _ _ _ h => h) (Or.inl ⟨by rfl, fun w2 hSw => ?_⟩) hS3 (fun hS4 => ?_)
                · go_simp
                simp only [Act.put, List.setIfInBounds_toArray, List.set_cons_zero, List.set_cons_succ]
                clear hS3
                refine wpAnyL_take1 (i := 4) (oi := { dst := some 50, op := Op.load 25 (Operand.tmp 49), type := 25, pos := "verify.go:308", after := #[{ on := 3, ground := Ground.data }], guard := none }) (v := .slice (some ⟨gb, 0, none⟩) qq.n g1.ic) rfl (by decide) (by kernel_rfl) (by kernel_rfl) (by kernel_rfl) (fun _ _ _ h => h) (Or.inl ⟨by rfl, fun w2 hSw => ?_⟩) hS4 (by kernel_rfl) rfl (by kernel_rfl) (fun hS5 => ?_)
                · obtain ⟨k8, kl, kj, kt, gl, kf⟩ := hSw
                  go_simp
                simp only [Act.put, List.setIfInBounds_toArray, List.set_cons_zero, List.set_cons_succ]
                clear hS4
                refine wpAnyL_take (i := 5) (oi := { dst := some 51, op := Op.fieldAddr 27 (Operand.tmp 5) 3, type := 0, pos := "verify.go:308", after := #[], guard := none }) (v := .pointer (some ⟨qb, 8, none⟩)) rfl (by decide) (by kernel_rfl) (by kernel_rfl) (by kernel_rfl) (fun _ _ _ h => h) (Or.inl ⟨by rfl, fun w2 hSw => ?_⟩) hS5 (fun hS6 => ?_)
                · go_simp
                simp only [Act.put, List.setIfInBounds_toArray, List.set_cons_zero, List.set_cons_succ]
                clear hS5
                refine wpAnyL_take1 (i := 6) (oi := { dst := some 52, op := Op.load 25 (Operand.tmp 51), type := 25, pos := "verify.go:308", after := #[{ on := 5, ground := Ground.data }], guard := none }) (v := .slice (some ⟨gb, 0, none⟩) qq.n g1.ic) rfl (by decide) (by kernel_rfl) (by kernel_rfl) (by kernel_rfl) (fun _ _ _ h => h) (Or.inl ⟨by rfl, fun w2 hSw => ?_⟩) hS6 (by kernel_rfl) rfl (by kernel_rfl) (fun hS7 => ?_)
                · obtain ⟨k8, kl, kj, kt, gl, kf⟩ := hSw
                  go_simp
                simp only [Act.put, List.setIfInBounds_toArray, List.set_cons_zero, List.set_cons_succ]
                clear hS6
                refine wpAnyL_take (i := 7) (oi := { dst := some 53, op := Op.move (Operand.tmp 6), type := 3, pos := "verify.go:308", after := #[], guard := none }) (v := .int .i64 (j : Nat)) rfl (by decide) (by kernel_rfl) (by kernel_rfl) (by kernel_rfl) (fun _ _ _ h => h) (Or.inl ⟨by rfl, fun w2 hSw => ?_⟩) hS7 (fun hS8 => ?_)
                · go_simp
                simp only [Act.put, List.setIfInBounds_toArray, List.set_cons_zero, List.set_cons_succ]
                clear hS7
                refine wpAnyL_take (i := 8) (oi := { dst := some 54, op := Op.indexAddr 25 (Operand.tmp 52) (Operand.tmp 53), type := 0, pos := "verify.go:308", after := #[{ on := 6, ground := Ground.data }, { on := 7, ground := Ground.data }], guard := none }) (v := .pointer (some ⟨gb, j * 2, none⟩)) rfl (by decide) (by kernel_rfl) (by kernel_rfl) (by kernel_rfl) (fun _ _ _ h => h) (Or.inl ⟨by rfl, fun w2 hSw => ?_⟩) hS8 (fun hS9 => ?_)
                · go_simp
                simp only [Act.put, List.setIfInBounds_toArray, List.set_cons_zero, List.set_cons_succ]
                clear hS8
                refine wpAnyL_take (i := 9) (oi := { dst := some 55, op := Op.fieldAddr 83 (Operand.tmp 54) 1, type := 0, pos := "verify.go:308", after := #[{ on := 8, ground := Ground.data }], guard := none }) (v := .pointer (some ⟨gb, j * 2 + 1, none⟩)) rfl (by decide) (by kernel_rfl) (by kernel_rfl) (by kernel_rfl) (fun _ _ _ h => h) (Or.inl ⟨by rfl, fun w2 hSw => ?_⟩) hS9 (fun hS10 => ?_)
                · go_simp
                simp only [Act.put, List.setIfInBounds_toArray, List.set_cons_zero, List.set_cons_succ]
                clear hS9
                refine wpAnyL_take1 (i := 10) (oi := { dst := some 56, op := Op.load 3 (Operand.tmp 55), type := 3, pos := "verify.go:308", after := #[{ on := 9, ground := Ground.data }], guard := none }) (v := .int .i64 (t : Nat)) rfl (by decide) (by kernel_rfl) (by kernel_rfl) (by kernel_rfl) (fun _ _ _ h => h) (Or.inl ⟨by rfl, fun w2 hSw => ?_⟩) hS10 (by kernel_rfl) rfl (by kernel_rfl) (fun hS11 => ?_)
                · obtain ⟨k8, kl, kj, kt, gl, kf⟩ := hSw
                  go_simp
                simp only [Act.put, List.setIfInBounds_toArray, List.set_cons_zero, List.set_cons_succ]
                clear hS10
                refine wpAnyL_take (i := 11) (oi := { dst := some 57, op := Op.indexAddr 25 (Operand.tmp 50) (Operand.tmp 56), type := 0, pos := "verify.go:308", after := #[{ on := 4, ground := Ground.data }, { on := 10, ground := Ground.data }], guard := none }) (v := .pointer (some ⟨gb, t * 2, none⟩)) rfl (by decide) (by kernel_rfl) (by kernel_rfl) (by kernel_rfl) (fun _ _ _ h => h) (Or.inl ⟨by rfl, fun w2 hSw => ?_⟩) hS11 (fun hS12 => ?_)
                · go_simp
                simp only [Act.put, List.setIfInBounds_toArray, List.set_cons_zero, List.set_cons_succ]
                clear hS11
                refine wpAnyL_take (i := 12) (oi := { dst := some 58, op := Op.fieldAddr 83 (Operand.tmp 57) 1, type := 0, pos := "verify.go:308", after := #[{ on := 11, ground := Ground.data }], guard := none }) (v := .pointer (some ⟨gb, t * 2 + 1, none⟩)) rfl (by decide) (by kernel_rfl) (by kernel_rfl) (by kernel_rfl) (fun _ _ _ h => h) (Or.inl ⟨by rfl, fun w2 hSw => ?_⟩) hS12 (fun hS13 => ?_)
                · go_simp
                simp only [Act.put, List.setIfInBounds_toArray, List.set_cons_zero, List.set_cons_succ]
                clear hS12
                refine wpAnyL_take1 (i := 13) (oi := { dst := some 59, op := Op.load 3 (Operand.tmp 58), type := 3, pos := "verify.go:308", after := #[{ on := 12, ground := Ground.data }], guard := none }) (v := .int .i64 (t2 : Nat)) rfl (by decide) (by kernel_rfl) (by kernel_rfl) (by kernel_rfl) (fun _ _ _ h => h) (Or.inl ⟨by rfl, fun w2 hSw => ?_⟩) hS13 (by kernel_rfl) rfl (by kernel_rfl) (fun hS14 => ?_)
                · obtain ⟨k8, kl, kj, kt, gl, kf⟩ := hSw
                  go_simp
                simp only [Act.put, List.setIfInBounds_toArray, List.set_cons_zero, List.set_cons_succ]
                clear hS13
                refine wpAnyL_take (i := 14) (oi := { dst := some 60, op := Op.indexAddr 25 (Operand.tmp 47) (Operand.tmp 48), type := 0, pos := "verify.go:308", after := #[{ on := 1, ground := Ground.data }, { on := 2, ground := Ground.data }, { on := 0, ground := Ground.phase }, { on := 1, ground := Ground.phase }, { on := 2, ground := Ground.phase }, { on := 3, ground := Ground.phase }, { on := 4, ground := Ground.phase }, { on := 5, ground := Ground.phase }, { on := 6, ground := Ground.phase }, { on := 7, ground := Ground.phase }, { on := 8, ground := Ground.phase }, { on := 9, ground := Ground.phase }, { on := 10, ground := Ground.phase }, { on := 11, ground := Ground.phase }, { on := 12, ground := Ground.phase }, { on := 13, ground := Ground.phase }], guard := none }) (v := .pointer (some ⟨gb, j * 2, none⟩)) rfl (by decide) (by kernel_rfl) (by kernel_rfl) (by kernel_rfl) (fun _ _ _ h => h) (Or.inl ⟨by rfl, fun w2 hSw => ?_⟩) hS14 (fun hS15 => ?_)
                · go_simp
                simp only [Act.put, List.setIfInBounds_toArray, List.set_cons_zero, List.set_cons_succ]
                clear hS14
                refine wpAnyL_take (i := 15) (oi := { dst := some 61, op := Op.fieldAddr 83 (Operand.tmp 60) 1, type := 0, pos := "verify.go:308", after := #[{ on := 14, ground := Ground.data }, { on := 0, ground := Ground.phase }, { on := 1, ground := Ground.phase }, { on := 2, ground := Ground.phase }, { on := 3, ground := Ground.phase }, { on := 4, ground := Ground.phase }, { on := 5, ground := Ground.phase }, { on := 6, ground := Ground.phase }, { on := 7, ground := Ground.phase }, { on := 8, ground := Ground.phase }, { on := 9, ground := Ground.phase }, { on := 10, ground := Ground.phase }, { on := 11, ground := Ground.phase }, { on := 12, ground := Ground.phase }, { on := 13, ground := Ground.phase }], guard := none }) (v := .pointer (some ⟨gb, j * 2 + 1, none⟩)) rfl (by decide) (by kernel_rfl) (by kernel_rfl) (by kernel_rfl) (fun _ _ _ h => h) (Or.inl ⟨by rfl, fun w2 hSw => ?_⟩) hS15 (fun hS16 => ?_)
                · go_simp
                simp only [Act.put, List.setIfInBounds_toArray, List.set_cons_zero, List.set_cons_succ]
                clear hS15
                have HS16 := hS16.1 rfl
                obtain ⟨k8, kl, kj, kt, gl, kf⟩ := HS16
                clear hS16
                refine wpAnyL_one (i := 16) (o := { dst := none, op := Op.store 3 (Operand.tmp 61) (Operand.tmp 59), type := 0, pos := "verify.go:308", after := #[{ on := 15, ground := Ground.data }, { on := 13, ground := Ground.data }, { on := 0, ground := Ground.phase }, { on := 1, ground := Ground.phase }, { on := 2, ground := Ground.phase }, { on := 3, ground := Ground.phase }, { on := 4, ground := Ground.phase }, { on := 5, ground := Ground.phase }, { on := 6, ground := Ground.phase }, { on := 7, ground := Ground.phase }, { on := 8, ground := Ground.phase }, { on := 9, ground := Ground.phase }, { on := 10, ground := Ground.phase }, { on := 11, ground := Ground.phase }, { on := 12, ground := Ground.phase }, { on := 13, ground := Ground.phase }], guard := none }) (by kernel_rfl) rfl (fun K hK => ?_)
                go_simp
                go_wp2_with fail
                refine hK.out _ _ ⟨fun h => (by cases (show true = false from h)), trivial⟩ ?_
                clear hK K k8 kl kj kt gl kf
                refine wpAnyL_done (by kernel_rfl) ?_ _
                go_wp2
                go_roundw
                case rel => exact ⟨_, HN2.out.1⟩
                case measure => rw [← HMW.out]; exact HN2.out.2
              · have hft : finF qq qq.n t = t := fin_stop e25 _
                have HN : Hid (Tq W qb g1 (pA qq (argS qq (j + 1) (qq.arg (j + 1)))) wr) := HC.out.1.congr (fun y _ => by
                  unfold argS
                  by_cases q : y = j
                  · subst q
                    rw [if_neg (by omega), if_pos rfl, if_pos (by omega)]
                    show _ = (if wayP (qq.op y) = true then _ else _)
                    rw [if_pos (by rw [HOO.out]; exact HWY.out), ← hfin, hft]
                  · by_cases q2 : y < j
                    · rw [if_pos q2, if_pos (by omega)]
                    · rw [if_neg q2, if_neg q, if_neg (by omega)]
                      split
                      · rename_i q3; rw [q3]
                      · rfl)
                obtain ⟨oi, hoi⟩ : ∃ oi, qq.op t = oi := ⟨_, rfl⟩
                rw [hoi] at d0 e25
                have d25 : (oi == 25) = false := beq_eq_false_iff_ne.2 e25
                have d26 : decide (oi = 25) = false := by simp [e25]
                clear HC hself hfin hfw hft hoi e25 d1 hrow
                go_upto_region 8 with fail
                go_quiet (first | (go_at_call 26; refine Calls.quiet_of_same (HJR.out _)))
                go_wp2
                go_roundw
                case rel => exact ⟨j + 1, by omega, by go_num, HN.out.next (Go.below_drewN (Below.refl _ _) _)⟩
                case measure => simp [intOf]; omega
        · obtain rfl : j = qq.n := by omega
          have HN : Hid (Tq W qb g1 (shortF qq) wr) := HJ.out.congr (fun y hy => by unfold argS; rw [if_pos hy]; rfl)
          clear HJ
          go_wp2
          go_meet
          case rel => exact HN.out
    case rest =>
    clear HQ0
    have HQ1 := hide hcut.out
    clear hcut
    have HRE := hide (reachedR HQ1.out.po.ok HK2.out)
    rw [HCS.out g1 (shortF qq)] at HRE
    have y0 := block_cell HQ1.out.bx 0
    have y1 := block_cell HQ1.out.bx 1
    have y2 := block_cell HQ1.out.bx 2
    have y3 := block_cell HQ1.out.bx 3
    have y4 := block_cell HQ1.out.bx 4
    have y5 := block_cell HQ1.out.bx 5
    have y6 := block_cell HQ1.out.bx 6
    have y7 := block_cell HQ1.out.bx 7
    have y8 := block_cell HQ1.out.bx 8
    have yf0 := block_free HQ1.out.bx 0
    have yf1 := block_free HQ1.out.bx 1
    have yf2 := block_free HQ1.out.bx 2
    have yf3 := block_free HQ1.out.bx 3
    have yf4 := block_free HQ1.out.bx 4
    have yf5 := block_free HQ1.out.bx 5
    have yf6 := block_free HQ1.out.bx 6
    have yf7 := block_free HQ1.out.bx 7
    have yf8 := block_free HQ1.out.bx 8
    have yl := block_lt HQ1.out.bx
    simp [Pg.cs] at y0 y1 y2 y3 y4 y5 y6 y7 y8
    go_wp2_with fail
    refine HRE.out.mono ?_
    rintro e w9 ⟨g2, rfl, G9⟩
    obtain ⟨q2, hq2⟩ : ∃ q2, cutF (shortF qq) (kOf k2) = q2 := ⟨_, rfl⟩
    have HWF2 : Hid (Wf q2) := by obtain ⟨c, _⟩ := cut_ver HK2.out; rw [hq2] at c; exact c
    have HQ9 := hide (HQ1.out.next G9.out.2)
    have HPT : Hid (∀ wA, set9 w9 qb (.slice g2.ca q2.nc g2.cc) (.slice g2.sa q2.ns g2.sc) (.int .i64 (q2.en 0)) (.int .i64 (q2.en 1)) (.int .i64 (q2.en 2)) (.int .i64 (q2.en 3)) (.int .i64 (q2.en 4)) (.int .i64 (q2.en 5)) (.slice g2.ia q2.n g2.ic) = wA → Tq W qb g2 q2 wA) := fun wA hwA => HQ9.out.put (by rw [hq2] at G9; exact G9.out.1.low HQ1.out.bel.size) hwA
    rw [hq2, HCS.out g2 q2]
    rw [hq2] at HTF
    clear HRE HQ1 G9 y0 y1 y2 y3 y4 y5 y6 y7 y8 yf0 yf1 yf2 yf3 yf4 yf5 yf6 yf7 yf8 yl
    have y0 := block_cell HQ9.out.bx 0
    have y1 := block_cell HQ9.out.bx 1
    have y2 := block_cell HQ9.out.bx 2
    have y3 := block_cell HQ9.out.bx 3
    have y4 := block_cell HQ9.out.bx 4
    have y5 := block_cell HQ9.out.bx 5
    have y6 := block_cell HQ9.out.bx 6
    have y7 := block_cell HQ9.out.bx 7
    have y8 := block_cell HQ9.out.bx 8
    have yf0 := block_free HQ9.out.bx 0
    have yf1 := block_free HQ9.out.bx 1
    have yf2 := block_free HQ9.out.bx 2
    have yf3 := block_free HQ9.out.bx 3
    have yf4 := block_free HQ9.out.bx 4
    have yf5 := block_free HQ9.out.bx 5
    have yf6 := block_free HQ9.out.bx 6
    have yf7 := block_free HQ9.out.bx 7
    have yf8 := block_free HQ9.out.bx 8
    have yl := block_lt HQ9.out.bx
    simp [Pg.cs] at y0 y1 y2 y3 y4 y5 y6 y7 y8
    clear HQ9 HWF HFL HALL hq2
    go_upto_region 11 with fail
    generalize hwA : World.setCell _ ⟨qb, 8, none⟩ _ = wA
    have HQA := hide (HPT.out wA hwA)
    clear hwA HPT y0 y1 y2 y3 y4 y5 y6 y7 y8 yf0 yf1 yf2 yf3 yf4 yf5 yf6 yf7 yf8 yl
    have HI0 : Hid (Id3 (idleF q2.n q2) q2 0) := ⟨HWF2.out, rfl, rfl, Nat.zero_le _⟩
    obtain ⟨FIN, hFIN⟩ : ∃ FIN, idleF q2.n q2 = FIN := ⟨_, rfl⟩
    rw [hFIN] at HI0
    have HFI := hide hFIN
    clear hFIN
    go_upto_block 4 with fail
    go_cut [7, 8, 9] from 64 (fun _ _ _ V => Hid (∃ g3, Tq W qb g3 FIN V ∧ Wf FIN))
    case first =>
      go_wp2
      go_loopw [7] (fun i wr => ∃ (g3 : Pg) (p3 : Pv) (j : Nat), i = .int .i64 (j : Nat) ∧ Hid (Tq W qb g3 p3 wr ∧ Id3 FIN p3 j)) (fun i wr => mesT qb wr i)
      case atStart => exact ⟨g2, q2, 0, rfl, HQA.out, HI0.out⟩
      case round =>
        obtain ⟨g3, p3, j, rfl, HJ⟩ := hrel
        clear HQA HI0
        have hn3 := HJ.out.2.wf.sz.2.2
        have hle := HJ.out.2.le
        have z8 := block_cell HJ.out.1.bx 8
        have zl := block_lt HJ.out.1.bx
        simp [Pg.cs] at z8
        have HMJ := hide (HJ.out.1.mes j)
        by_cases hlt : j < p3.n
        · obtain ⟨gb, hia, gl, hcap, hrow⟩ := HJ.out.1.row (by omega)
          rw [hia] at z8
          obtain ⟨c0, c1, _⟩ := hrow j hlt
          have HIA := hide hia
          clear hrow hia
          by_cases o25 : p3.op j = 25
          · by_cases a1 : p3.arg j = (j : Int) + 1
            · have hid : idleB p3 j = true := by simp [idleB, o25, a1]
              obtain ⟨hi3, hcn⟩ := HJ.out.2.cut hlt hid
              have HI3 := hide hi3
              have HCN := hide hcn
              rw [o25] at c0
              rw [a1] at c1
              obtain ⟨wo, hwo⟩ : ∃ wo, wo = wr := ⟨_, rfl⟩
              rw [← hwo] at HJ z8 zl c0 c1 gl HMJ ⊢
              have HT0 : Hid (Tk W qb g3 p3 (.slice none 0 0) (butK j) 0 wo) := ⟨HJ.out.1, World.ownsRow_nil _ _ _ _⟩
              have HWJ := hide HJ.out.2.wf
              clear hwo hi3 hcn hid o25 a1 HJ
              go_upto_region 17 with fail
              clear c0 c1 z8 zl gl hcap
              go_loopw [8, 9] (fun v i wr => ∃ m : Nat, m ≤ p3.n ∧ i = .int .i64 (m : Nat) ∧ Hid (Tk W qb g3 p3 v (butK j) m wr)) (fun _ i _ => p3.n - (intOf i).toNat)
              case atStart => exact ⟨0, by omega, rfl, HT0.out⟩
              case round =>
                obtain ⟨m, hm, rfl, HK⟩ := hrel
                clear HT0
                have z8 := block_cell HK.out.q.bx 8
                have zl := block_lt HK.out.q.bx
                simp [Pg.cs] at z8
                by_cases hlm : m < p3.n
                · have HOW : Hid (∀ o, (wr.alloc o).ownsRow W.heap.size 4 1 u8 m (bls (butK j) m)) := fun o => (HK.out.next (below_alloc1 wr o)).r
                  have HSZ : Hid (∀ o, W.heap.size ≤ (wr.alloc o).heap.size) := fun o => (HK.out.next (below_alloc1 wr o)).q.bel.size
                  obtain ⟨bm, hbm⟩ : ∃ bm, butK j m = bm := ⟨_, rfl⟩
                  have HNX : Hid (∀ o v' w', w'.ownsRow W.heap.size 4 1 v' (m + 1) (bls (butK j) m ++ [.bool bm]) → (wr.alloc o).grownBy w' u8.ownBlock → Tk W qb g3 p3 v' (butK j) (m + 1) w') := fun o v' w' h1 h2 => HK.out.app (by rw [hbm]; exact h1) h2
                  have hdb : ((m : Int) != (j : Int)) = bm := by
                    rw [← hbm]
                    unfold butK
                    by_cases e : m = j
                    · subst e; simp
                    · have e2 : ¬ (m : Int) = (j : Int) := by omega
                      simp [e, e2]
                  clear HK hbm
                  go_wp2_with (at_builtin; refine wpList_append_own _ rfl (.tmp 96) (.tmp 100) 84 rfl W.heap.size 4 iB (.bool false) 1 1 Tryd.underlying84 hB hB0 hB1 hB2 rfl (by decide) u8 m _ rfl (HOW.out _) ⟨wr.heap.size, 0, none⟩ 1 1 [.bool bm] rfl rfl (cell_one_new _ _ _) (by simp [Value.oneCell']) (by unfold maxLen; omega) (by omega) (HSZ.out _) ?_; intro v' w5 ho hg _)
                  have HN := hide (HNX.out _ _ _ ho hg)
                  clear ho hg HOW HSZ HNX hdb
                  go_wp2
                  go_roundw
                  case rel => exact ⟨m + 1, by omega, by go_num, HN.out⟩
                  case measure => simp [intOf]; omega
                · obtain rfl : m = p3.n := by omega
                  obtain ⟨ao, cp, kb, hv8, hkp⟩ := HK.out.kp
                  subst hv8
                  have HCT := hide (cutR (cap := cp) HK.out.q.po.ok HWJ.out hkp)
                  have HQK := hide HK.out.q
                  rw [HCS.out g3 p3] at HCT
                  clear HK hkp z8 zl
                  have y0 := block_cell HQK.out.bx 0
                  have y1 := block_cell HQK.out.bx 1
                  have y2 := block_cell HQK.out.bx 2
                  have y3 := block_cell HQK.out.bx 3
                  have y4 := block_cell HQK.out.bx 4
                  have y5 := block_cell HQK.out.bx 5
                  have y6 := block_cell HQK.out.bx 6
                  have y7 := block_cell HQK.out.bx 7
                  have y8 := block_cell HQK.out.bx 8
                  have yf0 := block_free HQK.out.bx 0
                  have yf1 := block_free HQK.out.bx 1
                  have yf2 := block_free HQK.out.bx 2
                  have yf3 := block_free HQK.out.bx 3
                  have yf4 := block_free HQK.out.bx 4
                  have yf5 := block_free HQK.out.bx 5
                  have yf6 := block_free HQK.out.bx 6
                  have yf7 := block_free HQK.out.bx 7
                  have yf8 := block_free HQK.out.bx 8
                  have yl := block_lt HQK.out.bx
                  simp [Pg.cs] at y0 y1 y2 y3 y4 y5 y6 y7 y8
                  go_wp2_with fail
                  refine HCT.out.mono ?_
                  rintro e w9 ⟨g4, rfl, G9⟩
                  have HQ9 := hide (HQK.out.next G9.out.2)
                  have HPT : Hid (∀ wA, set9 w9 qb (.slice g4.ca (cutF p3 (butK j)).nc g4.cc) (.slice g4.sa (cutF p3 (butK j)).ns g4.sc) (.int .i64 ((cutF p3 (butK j)).en 0)) (.int .i64 ((cutF p3 (butK j)).en 1)) (.int .i64 ((cutF p3 (butK j)).en 2)) (.int .i64 ((cutF p3 (butK j)).en 3)) (.int .i64 ((cutF p3 (butK j)).en 4)) (.int .i64 ((cutF p3 (butK j)).en 5)) (.slice g4.ia (cutF p3 (butK j)).n g4.ic) = wA → Tq W qb g4 (cutF p3 (butK j)) wA) := fun wA hwA => HQ9.out.put (G9.out.1.low HQK.out.bel.size) hwA
                  rw [HCS.out g4 (cutF p3 (butK j))]
                  clear HCT HQK G9 y0 y1 y2 y3 y4 y5 y6 y7 y8 yf0 yf1 yf2 yf3 yf4 yf5 yf6 yf7 yf8 yl
                  have y0 := block_cell HQ9.out.bx 0
                  have y1 := block_cell HQ9.out.bx 1
                  have y2 := block_cell HQ9.out.bx 2
                  have y3 := block_cell HQ9.out.bx 3
                  have y4 := block_cell HQ9.out.bx 4
                  have y5 := block_cell HQ9.out.bx 5
                  have y6 := block_cell HQ9.out.bx 6
                  have y7 := block_cell HQ9.out.bx 7
                  have y8 := block_cell HQ9.out.bx 8
                  have yf0 := block_free HQ9.out.bx 0
                  have yf1 := block_free HQ9.out.bx 1
                  have yf2 := block_free HQ9.out.bx 2
                  have yf3 := block_free HQ9.out.bx 3
                  have yf4 := block_free HQ9.out.bx 4
                  have yf5 := block_free HQ9.out.bx 5
                  have yf6 := block_free HQ9.out.bx 6
                  have yf7 := block_free HQ9.out.bx 7
                  have yf8 := block_free HQ9.out.bx 8
                  have yl := block_lt HQ9.out.bx
                  simp [Pg.cs] at y0 y1 y2 y3 y4 y5 y6 y7 y8
                  clear HQ9
                  obtain ⟨p4, hp4⟩ : ∃ p4, cutF p3 (butK j) = p4 := ⟨_, rfl⟩
                  rw [hp4] at HPT HI3 HCN ⊢
                  clear hp4
                  go_upto_region 21 with fail
                  generalize hwA : World.setCell _ ⟨qb, 8, none⟩ _ = wA
                  have HQB := hide (HPT.out wA hwA)
                  clear hwA HPT y0 y1 y2 y3 y4 y5 y6 y7 y8 yf0 yf1 yf2 yf3 yf4 yf5 yf6 yf7 yf8 yl
                  go_wp2
                  go_roundw
                  case rel => exact ⟨g4, p4, 0, rfl, HQB.out, HI3.out⟩
                  case measure =>
                    have e1 := HQB.out.mes 0
                    have e2 := HCN.out
                    rw [HMJ.out]
                    show mesT qb wA (.int .i64 0) < _
                    have e1 : mesT qb wA (.int .i64 0) = p4.n * 2000 + (p4.n - 0) := e1
                    omega
            · have hid : idleB p3 j = false := by simp [idleB, a1]
              have HN : Hid (Tq W qb g3 p3 wr ∧ Id3 FIN p3 (j + 1)) := ⟨HJ.out.1, HJ.out.2.step hlt hid⟩
              rw [o25] at c0
              clear HJ hid o25
              have HMJ2 := hide (HN.out.1.mes (j + 1))
              generalize p3.arg j = aj at *
              go_wp2
              go_roundw
              case rel => exact ⟨g3, p3, j + 1, by go_num, HN.out⟩
              case measure =>
                rw [HMJ.out]
                show mesT qb wr (.int .i64 (((j + 1 : Nat) : Int))) < _
                rw [HMJ2.out]
                omega
          · have hid : idleB p3 j = false := by simp [idleB, o25]
            have HN : Hid (Tq W qb g3 p3 wr ∧ Id3 FIN p3 (j + 1)) := ⟨HJ.out.1, HJ.out.2.step hlt hid⟩
            clear HJ hid c1
            have HMJ2 := hide (HN.out.1.mes (j + 1))
            generalize p3.op j = oj at *
            go_wp2
            go_roundw
            case rel => exact ⟨g3, p3, j + 1, by go_num, HN.out⟩
            case measure =>
              rw [HMJ.out]
              show mesT qb wr (.int .i64 (((j + 1 : Nat) : Int))) < _
              rw [HMJ2.out]
              omega
        · obtain rfl : j = p3.n := by omega
          have hF := HJ.out.2.fin
          have HN : Hid (∃ g3, Tq W qb g3 FIN wr ∧ Wf FIN) := ⟨g3, by rw [← hF]; exact HJ.out.1, by rw [← hF]; exact HJ.out.2.wf⟩
          clear HJ hF
          go_wp2
          go_meet
          case rel => exact HN.out
    case rest =>
    obtain ⟨g3, hq3, hwf3⟩ := hcut.out
    have HQ3 := hide hq3
    have HCN := hide (constsR HQ3.out.po.ok hwf3)
    rw [HCS.out g3 FIN] at HCN
    have HTK : Hid (tidF p k k2 = constF FIN) := by rw [← HFI.out]; exact HTF.out
    clear HQA HI0 hcut hq3 hwf3 HTF HFI
    have y0 := block_cell HQ3.out.bx 0
    have y1 := block_cell HQ3.out.bx 1
    have y2 := block_cell HQ3.out.bx 2
    have y3 := block_cell HQ3.out.bx 3
    have y4 := block_cell HQ3.out.bx 4
    have y5 := block_cell HQ3.out.bx 5
    have y6 := block_cell HQ3.out.bx 6
    have y7 := block_cell HQ3.out.bx 7
    have y8 := block_cell HQ3.out.bx 8
    have yl := block_lt HQ3.out.bx
    simp [Pg.cs] at y0 y1 y2 y3 y4 y5 y6 y7 y8
    go_wp2_with fail
    refine HCN.out.mono ?_
    rintro e w10 ⟨g5, rfl, G10⟩
    have HQ4 := hide (HQ3.out.next G10.out.2)
    obtain ⟨fp, hfp⟩ : ∃ fp, constF FIN = fp := ⟨_, rfl⟩
    rw [hfp] at HTK G10 ⊢
    rw [HCS.out g5 fp]
    have HEND : Hid (∀ wf, ((set9 w10 (W.heap.size + 1) (.slice g5.ca fp.nc g5.cc) (.slice g5.sa fp.ns g5.sc) (.int .i64 (fp.en 0)) (.int .i64 (fp.en 1)) (.int .i64 (fp.en 2)) (.int .i64 (fp.en 3)) (.int .i64 (fp.en 4)) (.int .i64 (fp.en 5)) (.slice g5.ia fp.n g5.ic)).setCell ⟨W.heap.size + 1 + 1, 0, none⟩ (.slice none 0 0)).setCell ⟨W.heap.size + 1 + 1, 1, none⟩ (.int .i64 0) = wf → wf.heap[W.heap.size + 1]? = some (.cells #[.slice g5.ca fp.nc g5.cc, .slice g5.sa fp.ns g5.sc, .int .i64 (fp.en 0), .int .i64 (fp.en 1), .int .i64 (fp.en 2), .int .i64 (fp.en 3), .int .i64 (fp.en 4), .int .i64 (fp.en 5), .slice g5.ia fp.n g5.ic] 27 (0, 0)) ∧ wf.heap[W.heap.size + 1 + 1]? = some (.cells #[.slice none 0 0, .int .i64 0] 30 (0, 0)) ∧ Po W.heap.size g5 fp wf ∧ Below W.heap.size W wf) := fun wf hw => tdo_fin HQ4.out.rb HQ4.out.fb (G10.out.1.low HQ3.out.bel.size) HQ4.out.bel hw
    clear HCN HQ3 G10 y0 y1 y2 y3 y4 y5 y6 y7 y8 yl
    have r0 := block_cell HQ4.out.rb 0
    have r1 := block_cell HQ4.out.rb 1
    have r2 := block_cell HQ4.out.rb 2
    have r3 := block_cell HQ4.out.rb 3
    have r4 := block_cell HQ4.out.rb 4
    have r5 := block_cell HQ4.out.rb 5
    have r6 := block_cell HQ4.out.rb 6
    have r7 := block_cell HQ4.out.rb 7
    have r8 := block_cell HQ4.out.rb 8
    have rf0 := block_free HQ4.out.rb 0
    have rf1 := block_free HQ4.out.rb 1
    have rf2 := block_free HQ4.out.rb 2
    have rf3 := block_free HQ4.out.rb 3
    have rf4 := block_free HQ4.out.rb 4
    have rf5 := block_free HQ4.out.rb 5
    have rf6 := block_free HQ4.out.rb 6
    have rf7 := block_free HQ4.out.rb 7
    have rf8 := block_free HQ4.out.rb 8
    have rl := block_lt HQ4.out.rb
    have s0 := block_cell HQ4.out.fb 0
    have s1 := block_cell HQ4.out.fb 1
    have sf0 := block_free HQ4.out.fb 0
    have sf1 := block_free HQ4.out.fb 1
    have sl := block_lt HQ4.out.fb
    simp [zP] at r0 r1 r2 r3 r4 r5 r6 r7 r8
    simp at s0 s1
    clear HQ4 hfp
    go_wp2
    generalize hwf : World.setCell _ _ _ = wf
    obtain ⟨hr1, hr2, hr3, hr4⟩ := HEND.out wf hwf
    have c0 := block_cell hr1 0
    have c1 := block_cell hr1 1
    have c2 := block_cell hr1 2
    have c3 := block_cell hr1 3
    have c4 := block_cell hr1 4
    have c5 := block_cell hr1 5
    have c6 := block_cell hr1 6
    have c7 := block_cell hr1 7
    have c8 := block_cell hr1 8
    have cl := block_lt hr1
    have d0 := block_cell hr2 0
    have d1 := block_cell hr2 1
    simp at c0 c1 c2 c3 c4 c5 c6 c7 c8 d0 d1
    have HE : Hid (Po W.heap.size g5 fp wf ∧ Below W.heap.size W wf) := ⟨hr3, hr4⟩
    clear hr1 hr2 hr3 hr4 hwf
    refine bodyPost_ret (v := .tuple #[.agg #[.slice g5.ca fp.nc g5.cc, .slice g5.sa fp.ns g5.sc, .int .i64 (fp.en 0), .int .i64 (fp.en 1), .int .i64 (fp.en 2), .int .i64 (fp.en 3), .int .i64 (fp.en 4), .int .i64 (fp.en 5), .slice g5.ia fp.n g5.ic], .agg #[.slice none 0 0, .int .i64 0]]) (by simp [results, Tryd.results6, go_sem, c0, c1, c2, c3, c4, c5, c6, c7, c8, d0, d1]) rfl ?_
    refine ⟨k2, g5, ?_, ?_⟩
    · rw [HTK.out, HCS.out g5 fp]
    · rw [HTK.out]
      exact ⟨by rw [HQQ.out]; exact HK2.out, HE.out⟩
end Go.Proofs.YtmoklddfaocihaaDoor
