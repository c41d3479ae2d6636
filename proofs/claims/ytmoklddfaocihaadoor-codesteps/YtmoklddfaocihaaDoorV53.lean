import Derived.Test.YtmoklddfaocihaaDoorV52
import Derived.Test.YtmoklddfaocihaaDoorV42
import Derived.Test.YtmoklddfaocihaaDoorV51
namespace Go.Proofs.YtmoklddfaocihaaDoor
open Go.RowKit

theorem ldx_no {W : World} {p : Pv} {ev : Int} {e : En} {fuel : Int} {x : Ending} {w' : World} {a y : Int} (hz : rnF p ev = some (a, y)) (h : LdX W p ev e fuel (verF p) x w') : ∃ ao cap, x = .returned (.tuple #[.pointer none, .agg #[.slice ao 1 cap, .int .i64 y]]) ∧ y ≠ 0 ∧ (∃ b off, FV w'.heap.size w' ao [⟨⟨#[99, 111, 100, 101]⟩, a⟩] b off) ∧ Below W.heap.size W w' := by
 cases hv : verF p with
 | error q =>
  rw [rnF_err hv] at hz
  cases hz
  rw [hv] at h
  obtain ⟨ao, cap, rfl, G⟩ := h
  obtain ⟨b, off, hf, hb⟩ := G.out
  exact ⟨ao, cap, rfl, ver_ne hv, ⟨b, off, hf⟩, hb⟩
 | ok k =>
  rw [rnF_ok hv] at hz
  cases hpl : isPl ev 6 with
  | true => rw [hpl] at hz; simp at hz
  | false =>
   rw [hpl] at hz
   simp at hz
   obtain ⟨rfl, rfl⟩ := hz
   rw [hv] at h
   obtain ⟨ao, cap, rfl, G⟩ := h.1 hpl
   obtain ⟨b, off, hf, hb⟩ := G.out
   exact ⟨ao, cap, rfl, by decide, ⟨b, off, hf⟩, hb⟩
theorem ldr_no {W : World} {p : Pv} {ev : Int} {e : En} {fuel : Int} {x : Ending} {w' : World} {a y : Int} (hz : rnF p ev = some (a, y)) (h : LdR W p ev e fuel (verF p) x w') : ∃ v, x = .returned (.tuple #[.pointer none, v]) ∧ Ft w'.heap.size w' v a y ∧ Below W.heap.size W w' := by
 cases hv : verF p with
 | error q =>
  rw [rnF_err hv] at hz
  cases hz
  rw [hv] at h
  obtain ⟨g, rfl, G⟩ := h
  exact ⟨_, rfl, G.out.1, G.out.2⟩
 | ok k =>
  rw [rnF_ok hv] at hz
  cases hpl : isPl ev 6 with
  | true => rw [hpl] at hz; simp at hz
  | false =>
   rw [hpl] at hz
   simp at hz
   obtain ⟨rfl, rfl⟩ := hz
   rw [hv] at h
   obtain ⟨g, rfl, G⟩ := h.1 hpl
   exact ⟨_, rfl, G.out.1, G.out.2⟩
theorem rnF_none {p : Pv} {ev : Int} (h : rnF p ev = none) : ∃ k, verF p = .ok k ∧ isPl ev 6 = true := by
 cases hv : verF p with
 | error q => rw [rnF_err hv] at h; cases h
 | ok k =>
  rw [rnF_ok hv] at h
  cases hpl : isPl ev 6 with
  | true => exact ⟨k, rfl, rfl⟩
  | false => rw [hpl] at h; simp at h
theorem ld_h (p : Pv) (ev fuel : Int) : (ldS p ev fuel).h = 0 := by
 unfold ldS
 split <;> rfl
/-- Both machines are loaded, and what was lent is spoilt. -/
theorem jm_of {W w w4 w5 w6 w7 w8 w10 w11 : World} {k : Kn} {c : Mc} {d : Rc} {vS : Value} {mb : Nat} {ev fuel : Int} (hb : Below W.heap.size W w) (hx : Rx d vS (ldS d.p ev fuel) w4) (lr : w.heap.size ≤ d.rb) (b4 : Below w.heap.size w w4) (b45 : Below w4.heap.size w4 w5) (b56 : Below w5.heap.size w5 w6) (b67 : Below w6.heap.size w6 w7) (L : LdOk w7 d.p d.e (ldS d.p ev fuel) c mb w8) (b810 : Below w8.heap.size w8 w10) (hs : Below w5.heap.size w10 w11) (hsz : w10.heap.size ≤ w11.heap.size) (hm : ∀ b, w7.heap.size ≤ b → b < w10.heap.size → w11.heap[b]? = w10.heap[b]?) (ht : Tm d.p k d.e.x2 (ldS d.p ev fuel)) :
  ∃ cb co cc ib io ic, Jm W k c d mb cb co cc ib io ic (ldS d.p ev fuel) w11 := by
 obtain ⟨cb, co, cc, ib, io, ic, hr⟩ := L.r
 have K : ∀ b, w7.heap.size ≤ b → b < w8.heap.size → w11.heap[b]? = w8.heap[b]? := fun b h1 h2 => (hm b h1 (Nat.lt_of_lt_of_le h2 b810.size)).trans (b810.block b h2)
 have b57 := b56.trans (b67.mono b56.size)
 have b58 := b57.trans (L.b.mono b57.size)
 have b510 := b58.trans (b810.mono b58.size)
 have b511 : Below w5.heap.size w5 w11 := b510.trans hs
 have bw5 := b4.trans (b45.mono b4.size)
 have bw11 := bw5.trans (b511.mono bw5.size)
 have oc : 0 < d.p.nc → w7.heap.size ≤ cb ∧ ∃ cs, w8.heap[cb]? = some (.cells cs 42 (0, 0)) := fun q => L.oc cb (by rw [(hr.C q).1]; rfl)
 have oi : 0 < d.p.n → w7.heap.size ≤ ib ∧ ∃ cs, w8.heap[ib]? = some (.cells cs 83 (0, 0)) := fun q => L.oi ib (by rw [(hr.I q).1]; rfl)
 refine ⟨cb, co, cc, ib, io, ic, ⟨(K mb L.lo L.m.lt).trans L.m.blk⟩, hr.keep (Nat.le_trans b810.size hsz) (fun q => K cb (oc q).1 (hr.C q).2.2) (fun q => K ib (oi q).1 (hr.I q).2.2), fun q => ?_, fun q => ?_, ⟨vS, (hx.next b45).next b511⟩, ht, by rw [ld_h]; exact Nat.zero_le _, ld_fail _ _ _, hb.trans (bw11.mono hb.size), Nat.le_trans hb.size lr, ?_⟩
 ·obtain ⟨cs, e⟩ := (oc q).2
  exact ⟨cs, (K cb (oc q).1 (hr.C q).2.2).trans e⟩
 ·obtain ⟨cs, e⟩ := (oi q).2
  exact ⟨cs, (K ib (oi q).1 (hr.I q).2.2).trans e⟩
 ·have h1 := hx.lt
  have h2 := b45.size
  have h3 := b57.size
  have h4 := L.lo
  omega
theorem ch0 {W : World} {g : Pg} {p : Pv} (h : g.Ok p W.heap.size W) (hT : Tab W) (hC : ∀ j, j < p.nc → 0 ≤ p.C j ∧ p.C j < two64) (hlend : ∀ w, Below W.heap.size W w → Calls Tryd.prog 7 #[.agg (g.cs p).toArray] w (Lno w p)) (ev : Int) {e : En} (he : e.Ok) {fuel : Int} (hf : 0 ≤ fuel) (w : World) (hb : Below W.heap.size W w) : Ch0 W g p ev e.cs.toArray fuel w := by
 unfold Ch0
 refine (loadR ((h.kept hb (Nat.le_refl _)).wide hb.size) ev e hf).mono ?_
 intro x w4 hh
 cases hz : rnF p ev with
 | some z =>
  obtain ⟨a, y⟩ := z
  obtain ⟨ao, cap, rfl, hy, ⟨b, off, hfv⟩, b4⟩ := ldx_no hz hh
  refine ⟨_, ao, 1, cap, y, rfl, b4, ?_⟩
  unfold ChLn
  have b45 := below_alloc1 w4 (.cells #[.slice ao 1 cap, .int .i64 y] 30)
  generalize w4.alloc (.cells #[.slice ao 1 cap, .int .i64 y] 30) = w5 at b45 ⊢
  have bw5 := b4.trans (b45.mono b4.size)
  have bW5 := hb.trans (bw5.mono hb.size)
  refine (hlend w5 bW5).mono ?_
  rintro x w6 ⟨g', rfl, G6⟩
  obtain ⟨ok6, _, b56, _⟩ := G6.out
  refine ⟨g', rfl, b56, ?_⟩
  have b67 := below_alloc1 w6 (.cells (g'.cs p).toArray 27)
  generalize w6.alloc (.cells (g'.cs p).toArray 27) = w7 at b67 ⊢
  have b57 := b56.trans (b67.mono b56.size)
  have bW7 := bW5.trans (b57.mono bW5.size)
  unfold ChLd
  refine (loadC ((ok6.kept b67 (Nat.le_refl _)).wide b67.size) (hT.below bW7 hT.z) ev e fuel).mono ?_
  intro x w8 hh8
  obtain ⟨v, rfl, hft, b78⟩ := ldr_no hz hh8
  have bW8 := bW7.trans (b78.mono bW7.size)
  refine .inl ⟨v, rfl, b78, ?_⟩
  unfold ChIs
  have hfv8 := ((hfv.next b45).next b57).next b78
  refine (isT (.inr ⟨a, y, ao, cap, b, off, rfl, hy, hft, hfv8⟩)).mono ?_
  rintro x w9 ⟨rfl, G9⟩
  refine ⟨rfl, G9.out, ?_⟩
  have bW9 := bW8.trans (G9.out.mono bW8.size)
  unfold ChA1
  exact (anyYes ao 1 cap y hy w9).mono fun x w10 q => ⟨q.1, bW9.trans (q.2.out.mono bW9.size)⟩
 | none =>
  obtain ⟨k, hv, hpl⟩ := rnF_none hz
  rw [hv] at hh
  obtain ⟨rb, rfl, G4⟩ := hh.2 hpl
  obtain ⟨d, vS, hx, rfl, rfl, rfl, lr, b4, hq⟩ := G4.out
  clear G4
  refine ⟨_, none, 0, 0, 0, rfl, b4, ?_⟩
  unfold ChLn
  have b45 := below_alloc1 w4 (.cells #[.slice none 0 0, .int .i64 0] 30)
  generalize w4.alloc (.cells #[.slice none 0 0, .int .i64 0] 30) = w5 at b45 ⊢
  have bw5 := b4.trans (b45.mono b4.size)
  have bW5 := hb.trans (bw5.mono hb.size)
  refine (hlend w5 bW5).mono ?_
  rintro x w6 ⟨g', rfl, G6⟩
  obtain ⟨ok6, _, b56, lo6⟩ := G6.out
  refine ⟨g', rfl, b56, ?_⟩
  have b67 := below_alloc1 w6 (.cells (g'.cs d.p).toArray 27)
  generalize w6.alloc (.cells (g'.cs d.p).toArray 27) = w7 at b67 ⊢
  have b57 := b56.trans (b67.mono b56.size)
  have bW7 := bW5.trans (b57.mono bW5.size)
  have lo7 := lo6.next b67
  have ok7 := (ok6.kept b67 (Nat.le_refl _)).wide b67.size
  unfold ChLd
  refine (loadC ok7 (hT.below bW7 hT.z) ev d.e fuel).mono ?_
  intro x w8 hh8
  rw [hv] at hh8
  obtain ⟨mb, c, rfl, G8⟩ := hh8.2 hpl
  have L := G8.out
  clear G8 hh8
  refine .inr ⟨mb, _, rfl, L.b, ?_⟩
  unfold ChIs
  refine (isT (.inl ⟨rfl, rfl⟩)).mono ?_
  rintro x w9 ⟨rfl, G9⟩
  refine ⟨rfl, G9.out, ?_⟩
  unfold ChA2
  refine (anyNo w9).mono ?_
  rintro x w10 ⟨rfl, G10⟩
  refine ⟨rfl, G10.out, ?_⟩
  have b810 : Below w8.heap.size w8 w10 := G9.out.trans (G10.out.mono G9.out.size)
  have b710 := L.b.trans (b810.mono L.b.size)
  have wf := ver_wf hv
  unfold ChSp
  refine (spoilQ ((lo7.next b710).po ((ok7.kept b710 (Nat.le_refl _)).wide b710.size)) (Nat.le_trans b57.size b710.size) lo7.bh (by have := wf.sz.1; omega) (by have := wf.sz.2.1; omega) (by have := wf.sz.2.2; omega)).mono ?_
  rintro x w11 ⟨rfl, G11⟩
  refine ⟨rfl, ?_⟩
  obtain ⟨cb, co, cc, ib, io, ic, hj⟩ := jm_of hb hx lr b4 b45 b56 b67 L b810 G11.out.1 G11.out.2.1 G11.out.2.2 (ld_tm (hd := d.e.x2) hv hpl hf (he.b 2 (by decide)).1)
  exact ⟨_, _, Jm.dv ⟨he.me hv hC, L.ek, L.ev, L.hd, L.ns, L.kd, hq⟩, hj⟩
theorem nobody {W w : World} {pm : Value} {vb : Nat} (hb : Below W.heap.size W w) (hv : w.heap[vb]? = some (.cells zR.toArray 67 (0, 0))) (hm : pm = .pointer none ∨ ∃ mb, pm = .pointer (some ⟨mb, 0, none⟩) ∧ w.heap[mb]? = some (.cells zM.toArray 61 (0, 0))) : ∃ J s, Dv W pm (.pointer (some ⟨vb, 0, none⟩)) J ∧ J s w := by
 refine ⟨Jn W pm vb, mk0 0 0, Jn.dv, rfl, ?_, block_lt hv, (block_cell hv 0).trans rfl, hb⟩
 rcases hm with e | ⟨mb, e, q⟩
 ·exact .inl e
 ·refine .inr ⟨mb, e, block_lt q, ?_, ?_⟩
  ·rw [block_cell q 0, List.getElem?_toArray]; exact zM0
  ·rw [block_cell q 411, List.getElem?_toArray]; exact zM411
theorem stepsW {W : World} {g : Pg} {p : Pv} (h : g.Ok p W.heap.size W) (hT : Tab W) (hC : ∀ j, j < p.nc → 0 ≤ p.C j ∧ p.C j < two64) (hlend : ∀ w, Below W.heap.size W w → Calls Tryd.prog 7 #[.agg (g.cs p).toArray] w (Lno w p)) (ev : Int) {e : En} (he : e.Ok) {fuel : Int} (hf : 0 ≤ fuel) (md evr : Int) :
  Calls Tryd.prog 5 #[.agg (g.cs p).toArray, .int .i64 ev, .agg e.cs.toArray, .int .u64 fuel, .int .i64 md, .int .i64 evr] W fun x w' => x = .returned (.bool true) ∧ Below W.heap.size W w' :=
 steps_walk ev e fuel md evr (fun w hb => ch0 h hT hC hlend ev he hf w hb) (fun _ _ _ hb hv hm => nobody hb hv hm)
end Go.Proofs.YtmoklddfaocihaaDoor
