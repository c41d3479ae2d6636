import Derived.Test.YthfbimbadkmhhaaMGL
import Derived.Test.YthfbimbadkmhhaaMGO
import Derived.Test.YthfbimbadkmhhaaMGM
import Derived.Test.YthfbimbadkmhhaaMGN
namespace Go.Proofs.Ythfbimbadkmhhaa
open Go.RowKit Crc

/-- One election of the law's own: it says s; nothing that was there at the law's call has turned. -/
structure QE (w : World) (c : Cf) (eb g me : Nat) (s : Ev) (W : World) : Prop where
  bel : Below w.heap.size w W
  ex : ∃ fp x, EL W eb g c me fp x ∧ x.abs = s ∧ ∀ b, Mine eb fp b → w.heap.size ≤ b
theorem QE.kept {w : World} {c : Cf} {eb g me : Nat} {s : Ev} {W W' : World} (h : QE w c eb g me s W) (hb : Below W.heap.size W W') : QE w c eb g me s W' := by
  obtain ⟨fp, x, h1, h2, h3⟩ := h.ex
  exact ⟨h.bel.trans (hb.mono h.bel.size), fp, x, h1.kept hb, h2, h3⟩
theorem QE.did {w : World} {c : Cf} {eb g me : Nat} {s' : Ev} {W W' : World} {fp : Nat → Prop} (hb : Below w.heap.size w W) (hm : ∀ b, Mine eb fp b → w.heap.size ≤ b) (d : Did W eb g c me fp s' W') : QE w c eb g me s' W' := by
  obtain ⟨fp', x, d1, d2, d3, d4⟩ := d
  refine ⟨hb.trans (d3.toBelow _ hb.size hm), fp', x, d1, d2, ?_⟩
  rintro b (e | e)
  · exact hm b (.inl e)
  · rcases d4 b e with e | e
    · exact hm b (.inr e)
    · have := hb.size; omega
structure OkC (c : Cf) : Prop where
  hin : c.In
  hk : badOf c.oks = -1
  ok : c.Ok
  em : c.em ≤ 100000
  ep : 1 ≤ c.ep
  pe : c.ep ≤ c.em
theorem newQ (c : Cf) (hc : OkC c) (me : Nat) (hme : (me : Int) < 2 * c.f + 1) (now : Nat) (hnow : now ≤ 1099511627776) {w W : World} (hb : Below w.heap.size w W) :
    Calls Try.prog 5 #[.agg c.cells, .int .i64 (me : Nat), .int .u64 (now : Nat)] W fun e w' => ∃ eb g, e = .returned (.tuple #[.pointer (some ⟨eb, 0, none⟩), .nilIface]) ∧ Hid (QE w c eb g me ⟨1, 0, 0, c.ep, addB now c.ep 1099511627776, [], []⟩ w') := by
  refine (newE c hc.hin hc.hk hc.ok me hme hc.em hc.ep hc.pe now hnow W).mono ?_
  rintro e w' ⟨eb, g, rfl, D⟩
  obtain ⟨fp, x, d1, d2, d3, d4, d5⟩ := D.out
  have := hb.size
  refine ⟨eb, g, rfl, hb.trans (d3.mono hb.size), fp, x, d1, d2, ?_⟩
  rintro b (e | e)
  · omega
  · have := d5 b e; omega
theorem any_nil {x : Ex} {v : Rv} (h : x.abs.pv = []) : (x.ps.any fun k => overR k.val v) = false := by
  have : x.ps = [] := List.map_eq_nil_iff.1 h
  rw [this]; rfl
theorem any_nilt {x : Ex} {v : Rv} (h : x.abs.th = []) : (x.ts.any fun k => overR k.val v) = false := by
  have : x.ts = [] := List.map_eq_nil_iff.1 h
  rw [this]; rfl
theorem requestQ {w : World} {c : Cf} {eb g me : Nat} {s : Ev} {W : World} (h : QE w c eb g me s W) (hp : s.pv = []) (ht : s.th = []) (cl sq : Nat) (co : Option Addr) (cn cc : Nat) (C : List Nat) (hr : (Rq.mk cl sq co cn cc C).Ok W.heap.size W) :
    Calls Try.prog 16 #[.pointer (some ⟨eb, 0, none⟩), .agg #[.int .u64 (cl : Int), .int .u64 (sq : Int), .slice co cn cc]] W fun e W' => e = .returned (.bool (goodR (cl, sq, C))) ∧ Hid (QE w c eb g me ⟨s.num, s.node, s.sus, s.len, s.fin, [], if goodR (cl, sq, C) = true then [(cl, sq, C)] else []⟩ W') := by
  obtain ⟨fp, x, h1, rfl, h3⟩ := h.ex
  cases hg : goodR (cl, sq, C) with
  | true =>
    have hl : x.ts.length < 32 := by have : x.ts = [] := List.map_eq_nil_iff.1 ht
                                     rw [this]; decide
    refine (request_ok h1 cl sq co cn cc C hr hg (any_nil hp) (any_nilt ht) hl).mono ?_
    rintro e W' ⟨rfl, D⟩
    refine ⟨rfl, QE.did h.bel h3 ?_⟩
    have hp' : x.ps.map Rq.val = [] := hp
    have ht' : x.ts.map Rq.val = [] := ht
    have D' := D.out
    rw [hp', ht'] at D'
    exact D'
  | false =>
    refine (request_bad h1 cl sq co cn cc C hr.hC.1 hg).mono ?_
    rintro e W' ⟨rfl, D⟩
    refine ⟨rfl, QE.did h.bel h3 ?_⟩
    have hp' : x.ps.map Rq.val = [] := hp
    have ht' : x.ts.map Rq.val = [] := ht
    have D' := D.out
    unfold Ex.abs at D'
    rw [hp', ht'] at D'
    exact D'
theorem timeoutQ {w : World} {c : Cf} {eb g me : Nat} {s : Ev} {W : World} (h : QE w c eb g me s W) (hc : OkC c) (now : Nat) (hnow : now < 18446744073709551616) :
    Calls Try.prog 21 #[.pointer (some ⟨eb, 0, none⟩), .int .u64 (now : Nat)] W fun e W' => e = .returned (.bool (Ev.timeout c me s now).2) ∧ Hid (QE w c eb g me (Ev.timeout c me s now).1 W') := by
  obtain ⟨fp, x, h1, rfl, h3⟩ := h.ex
  refine (timeoutE h1 hc.ok hc.em hc.ep hc.pe now hnow).mono ?_
  rintro e W' ⟨rfl, D⟩
  exact ⟨rfl, QE.did h.bel h3 D.out⟩
theorem stateQ {w : World} {c : Cf} {eb g me : Nat} {s : Ev} {W : World} (h : QE w c eb g me s W) (n m : Nat) (hn : s.pv.length = n) (hm : s.th.length = m) :
    Calls Try.prog 7 #[.pointer (some ⟨eb, 0, none⟩)] W fun e W' => ∃ ao cap ao' cap', e = .returned (.agg #[.int .u64 (s.num : Nat), .int .i64 s.node, .int .u32 (s.sus : Nat), .int .u64 (s.len : Nat), .int .u64 (s.fin : Nat), .slice ao n cap, .slice ao' m cap']) ∧ Hid (QE w c eb g me s W') := by
  obtain ⟨fp, x, h1, rfl, h3⟩ := h.ex
  have hn' : x.ps.length = n := by rw [← hn]; simp [Ex.abs]
  have hm' : x.ts.length = m := by rw [← hm]; simp [Ex.abs]
  rw [← hn', ← hm']
  refine (stateE h1).mono ?_
  rintro e W' ⟨ao, cap, ao', cap', rfl, hb⟩
  exact ⟨ao, cap, ao', cap', rfl, h.kept hb.out⟩
end Go.Proofs.Ythfbimbadkmhhaa
namespace Go.Proofs.Ythfbimbadkmhhaa
open Go.RowKit Crc

/-- The law's configuration. -/
def fixC (f : Int) (ep em : Nat) : Cf := ⟨f, 8, 0, 8, 1, 1, ep, em, 1099511627776, 1099511627776⟩
theorem fixC_ok (f : Int) (h1 : 1 ≤ f) (h3 : f ≤ 3) (ep em : Nat) (he : 1 ≤ ep) (hp : ep ≤ 100) (hm : ep ≤ em) (hm2 : em ≤ 1100) : OkC (fixC f ep em) := by
  refine ⟨⟨by show -9223372036854775808 ≤ f; omega, by show f < _; omega, by show (-9223372036854775808 : Int) ≤ 8; decide, by show (8 : Int) < 9223372036854775808; decide, by show 8 < _; decide, by show 1099511627776 < _; decide, by show 1099511627776 < _; decide⟩, ?_, ⟨h1, h3, by show 1 ≤ 8; decide, by show 8 ≤ 8; decide, by show 1 ≤ 1099511627776; decide, Nat.le_refl _, by show 1 ≤ 1099511627776; decide, Nat.le_refl _⟩, by show em ≤ _; omega, he, hm⟩
  have e : (fixC f ep em).oks = [true, true, true, true, true, true, true, true, true, true] := by
    unfold Cf.oks fixC
    simp
    omega
  rw [e]
  rfl
set_option maxRecDepth 10000 in
set_option maxHeartbeats 800000 in
theorem fixedL (f : Int) (ep em : Nat) (w : World) : Calls Try.prog 4 #[.int .i64 f, .int .u64 (ep : Nat), .int .u64 (em : Nat)] w fun e w' => e = .returned (.agg (fixC f ep em).cells) ∧ Hid (Below w.heap.size w w') := by
  have hB : Hid (∀ o, Below w.heap.size w (w.alloc o)) := fun o => (Below.refl _ _).alloc (Nat.le_refl _) _
  unfold fixC Cf.cells
  simp only
  generalize (ep : Int) = e at *
  generalize (em : Int) = m at *
  go_enter Try.func4, Try.ntmps4
  go_wp2
  refine bodyPost_ret (v := .agg #[.int .i64 f, .int .i64 8, .int .u64 0, .int .u64 8, .int .u64 1, .int .u64 1, .int .u64 e, .int .u64 m, .int .u64 1099511627776, .int .u64 1099511627776]) (by simp [results, Try.results4, go_sem]) rfl ⟨rfl, hB.out _⟩
end Go.Proofs.Ythfbimbadkmhhaa
