import Derived.Test.YtkdciomijemmiaaME
import Derived.Test.YtkdciomijemmiaaNK
import Derived.Test.YtkdciomijemmiaaMF
import Derived.Test.YtkdciomijemmiaaNI
namespace Go.Proofs.Ytkdciomijemmiaa
open Go.RowKit Crc

/-- One election of the law's own: it says s; nothing that was there at the law's call has turned. -/
structure QE (w : World) (c : Cf) (eb g me : Nat) (s : Ev) (W : World) : Prop where
  bel : Below w.heap.size w W
  ex : ∃ fp x, EL W eb g c me fp x ∧ x.abs = s ∧ ∀ b, Mine eb fp b → w.heap.size ≤ b
theorem QE.kept {w : World} {c : Cf} {eb g me : Nat} {s : Ev} {W W' : World} (h : QE w c eb g me s W) (hb : Below W.heap.size W W') : QE w c eb g me s W' := by
  obtain ⟨fp, x, h1, h2, h3⟩ := h.ex
  exact ⟨h.bel.trans (hb.mono h.bel.size), fp, x, h1.kept hb, h2, h3⟩
theorem QE.did {w : World} {c : Cf} {eb g me : Nat} {s' : Ev} {W W' : World} {fp : Nat → Prop} (hb : Below w.heap.size w W) (hm : ∀ b, Mine eb fp b → w.heap.size ≤ b) (d : Did W eb g c me fp s' W') : QE w c eb g me s' W' := by
  obtain ⟨fp', x, d1, d2, d3, d4⟩ := d
  refine ⟨hb.trans (d3.toBelow _ hb.size hm), fp', x, d1, d2, ?_⟩
  rintro b (e | e)
  · exact hm b (.inl e)
  · rcases d4 b e with e | e
    · exact hm b (.inr e)
    · have := hb.size; omega
structure OkC (c : Cf) : Prop where
  hin : c.In
  hk : badOf c.oks = -1
  ok : c.Ok
  em : c.em ≤ 100000
  ep : 1 ≤ c.ep
  pe : c.ep ≤ c.em
theorem newQ (c : Cf) (hc : OkC c) (me : Nat) (hme : (me : Int) < 2 * c.f + 1) (now : Nat) (hnow : now ≤ 1099511627776) {w W : World} (hb : Below w.heap.size w W) :
    Calls Try.prog 7 #[.agg c.cells, .int .i64 (me : Nat), .int .u64 (now : Nat)] W fun e w' => ∃ eb g, e = .returned (.tuple #[.pointer (some ⟨eb, 0, none⟩), .nilIface]) ∧ Hid (QE w c eb g me ⟨1, 0, 0, c.ep, addB now c.ep 1099511627776, [], []⟩ w') := by
  refine (newE c hc.hin hc.hk hc.ok me hme hc.em hc.ep hc.pe now hnow W).mono ?_
  rintro e w' ⟨eb, g, rfl, D⟩
  obtain ⟨fp, x, d1, d2, d3, d4, d5⟩ := D.out
  have := hb.size
  refine ⟨eb, g, rfl, hb.trans (d3.mono hb.size), fp, x, d1, d2, ?_⟩
  rintro b (e | e)
  · omega
  · have := d5 b e; omega
theorem any_nil {x : Ex} {v : Rv} (h : x.abs.pv = []) : (x.ps.any fun k => overR k.val v) = false := by
  have : x.ps = [] := List.map_eq_nil_iff.1 h
  rw [this]; rfl
theorem any_nilt {x : Ex} {v : Rv} (h : x.abs.th = []) : (x.ts.any fun k => overR k.val v) = false := by
  have : x.ts = [] := List.map_eq_nil_iff.1 h
  rw [this]; rfl
theorem requestQ {w : World} {c : Cf} {eb g me : Nat} {s : Ev} {W : World} (h : QE w c eb g me s W) (hp : s.pv = []) (ht : s.th = []) (cl sq : Nat) (co : Option Addr) (cn cc : Nat) (C : List Nat) (hr : (Rq.mk cl sq co cn cc C).Ok W.heap.size W) :
    Calls Try.prog 8 #[.pointer (some ⟨eb, 0, none⟩), .agg #[.int .u64 (cl : Int), .int .u64 (sq : Int), .slice co cn cc]] W fun e W' => e = .returned (.bool (goodR (cl, sq, C))) ∧ Hid (QE w c eb g me ⟨s.num, s.node, s.sus, s.len, s.fin, [], if goodR (cl, sq, C) = true then [(cl, sq, C)] else []⟩ W') := by
  obtain ⟨fp, x, h1, rfl, h3⟩ := h.ex
  cases hg : goodR (cl, sq, C) with
  | true =>
    have hl : x.ts.length < 32 := by have : x.ts = [] := List.map_eq_nil_iff.1 ht
                                     rw [this]; decide
    refine (request_ok h1 cl sq co cn cc C hr hg (any_nil hp) (any_nilt ht) hl).mono ?_
    rintro e W' ⟨rfl, D⟩
    refine ⟨rfl, QE.did h.bel h3 ?_⟩
    have hp' : x.ps.map Rq.val = [] := hp
    have ht' : x.ts.map Rq.val = [] := ht
    have D' := D.out
    rw [hp', ht'] at D'
    exact D'
  | false =>
    refine (request_bad h1 cl sq co cn cc C hr.hC.1 hg).mono ?_
    rintro e W' ⟨rfl, D⟩
    refine ⟨rfl, QE.did h.bel h3 ?_⟩
    have hp' : x.ps.map Rq.val = [] := hp
    have ht' : x.ts.map Rq.val = [] := ht
    have D' := D.out
    unfold Ex.abs at D'
    rw [hp', ht'] at D'
    exact D'
theorem timeoutQ {w : World} {c : Cf} {eb g me : Nat} {s : Ev} {W : World} (h : QE w c eb g me s W) (hc : OkC c) (now : Nat) (hnow : now < 18446744073709551616) :
    Calls Try.prog 12 #[.pointer (some ⟨eb, 0, none⟩), .int .u64 (now : Nat)] W fun e W' => e = .returned (.bool (Ev.timeout c me s now).2) ∧ Hid (QE w c eb g me (Ev.timeout c me s now).1 W') := by
  obtain ⟨fp, x, h1, rfl, h3⟩ := h.ex
  refine (timeoutE h1 hc.ok hc.em hc.ep hc.pe now hnow).mono ?_
  rintro e W' ⟨rfl, D⟩
  exact ⟨rfl, QE.did h.bel h3 D.out⟩
theorem suspectingQ {w : World} {c : Cf} {eb g me : Nat} {s : Ev} {W : World} (h : QE w c eb g me s W) (hme : me < 32) :
    Calls Try.prog 13 #[.pointer (some ⟨eb, 0, none⟩)] W fun e W' => e = .returned (.bool (s.sus.testBit me)) ∧ Hid (QE w c eb g me s W') := by
  obtain ⟨fp, x, h1, rfl, h3⟩ := h.ex
  refine (suspectingE h1 hme).mono ?_
  rintro e W' ⟨rfl, hb⟩
  exact ⟨rfl, h.kept hb⟩
theorem waitingQ {w : World} {c : Cf} {eb g me : Nat} {s : Ev} {W : World} (h : QE w c eb g me s W) (ht : s.th = []) (n : Nat) (hn : s.pv.length = n) :
    Calls Try.prog 14 #[.pointer (some ⟨eb, 0, none⟩)] W fun e W' => ∃ ao cap, e = .returned (.slice ao n cap) ∧ Hid (QE w c eb g me s W') := by
  obtain ⟨fp, x, h1, rfl, h3⟩ := h.ex
  have hn' : x.ps.length = n := by rw [← hn]; simp [Ex.abs]
  rw [← hn']
  refine (waitingE h1 (List.map_eq_nil_iff.1 ht)).mono ?_
  rintro e W' ⟨ao, cap, rfl, hb⟩
  exact ⟨ao, cap, rfl, h.kept hb.out⟩
theorem stateQ {w : World} {c : Cf} {eb g me : Nat} {s : Ev} {W : World} (h : QE w c eb g me s W) (n m : Nat) (hn : s.pv.length = n) (hm : s.th.length = m) :
    Calls Try.prog 15 #[.pointer (some ⟨eb, 0, none⟩)] W fun e W' => ∃ ao cap ao' cap', e = .returned (.agg #[.int .u64 (s.num : Nat), .int .i64 s.node, .int .u32 (s.sus : Nat), .int .u64 (s.len : Nat), .int .u64 (s.fin : Nat), .slice ao n cap, .slice ao' m cap']) ∧ Hid (QE w c eb g me s W') := by
  obtain ⟨fp, x, h1, rfl, h3⟩ := h.ex
  have hn' : x.ps.length = n := by rw [← hn]; simp [Ex.abs]
  have hm' : x.ts.length = m := by rw [← hm]; simp [Ex.abs]
  rw [← hn', ← hm']
  refine (stateE h1).mono ?_
  rintro e W' ⟨ao, cap, ao', cap', rfl, hb⟩
  exact ⟨ao, cap, ao', cap', rfl, h.kept hb.out⟩
/-- A request that was copied, then handed over as a batch of one: it lets that request go. -/
theorem copyExecQ {w : World} {c : Cf} {eb g me : Nat} {s : Ev} {W : World} (h : QE w c eb g me s W) (hp : s.pv = []) (cl sq : Nat) (co : Option Addr) (cn cc : Nat) (C : List Nat) (ht : s.th = [] ∨ s.th = [(cl, sq, C)]) (hr : (Rq.mk cl sq co cn cc C).Ok W.heap.size W) :
    Calls Try.prog 9 #[.agg #[.int .u64 (cl : Int), .int .u64 (sq : Int), .slice co cn cc]] W fun e w' => ∃ ao cap, e = .returned (.agg #[.int .u64 (cl : Int), .int .u64 (sq : Int), .slice ao cn cap]) ∧ Hid (Calls Try.prog 11 #[.pointer (some ⟨eb, 0, none⟩), .agg #[.int .u64 0, .slice (some ⟨w'.heap.size, 0, none⟩) 1 1]] (w'.alloc (.cells #[.int .u64 (cl : Int), .int .u64 (sq : Int), .slice ao cn cap] 36)) fun e W' => e = .returned (.tuple #[]) ∧ Hid (QE w c eb g me ⟨s.num, s.node, s.sus, s.len, s.fin, [], []⟩ W')) := by
  refine (copyRequestE cl sq co cn cc C hr).mono ?_
  rintro e w' ⟨ao, cap, rfl, G⟩
  refine ⟨ao, cap, rfl, ?_⟩
  obtain ⟨hb, hq⟩ := G.out
  obtain ⟨fp, x, h1, rfl, h3⟩ := h.ex
  have hbA : Below W.heap.size W (w'.alloc (.cells #[.int .u64 (cl : Int), .int .u64 (sq : Int), .slice ao cn cap] 36)) := hb.alloc hb.size _
  have hqA := hq.quiet (World.grownBy_alloc w' (.cells #[.int .u64 (cl : Int), .int .u64 (sq : Int), .slice ao cn cap] 36) none)
  have bA := alloc_atK w' (.cells #[.int .u64 (cl : Int), .int .u64 (sq : Int), .slice ao cn cap] 36)
  have hL : ∀ b, Mine eb fp b → b < W.heap.size := by
    rintro b (e | e)
    · rw [e]; exact h1.lt
    · exact h1.flt b e
  have hRk : ∀ V, Fe (w'.alloc (.cells #[.int .u64 (cl : Int), .int .u64 (sq : Int), .slice ao cn cap] 36)) V (fun b => b < W.heap.size) → Rqs V.heap.size V (some ⟨w'.heap.size, 0, none⟩) [⟨cl, sq, ao, cn, cap, C⟩] w'.heap.size 0 := fun V f => by
    have s1 := hb.size
    have bV := (f.block _ (block_lt bA) (by omega)).trans bA
    have hqV := hqA.fe f (fun b e e2 => by have := (hq.ow.1.lt b e).1; omega)
    refine ⟨fun _ => rfl, fun _ => block_lt bV, by simp, fun i r hi j v hv => ?_, fun r hr' => ?_⟩
    · match i, hi with
      | 0, hi =>
        simp at hi
        subst hi
        rw [Nat.zero_mul, Nat.zero_add, block_cell bV j]
        exact hv
      | i + 1, hi => simp at hi
    · simp at hr'
      subst hr'
      exact hqV.ok
  have hps : x.ps = [] := List.map_eq_nil_iff.1 hp
  have hts : x.ts = [] ∨ ∃ r, x.ts = [r] ∧ goneB [⟨cl, sq, ao, cn, cap, C⟩] r = true := by
    rcases ht with ht | ht
    · exact .inl (List.map_eq_nil_iff.1 ht)
    · right
      have ht' : x.ts.map Rq.val = [(cl, sq, C)] := ht
      obtain ⟨r, e1, e2⟩ : ∃ r, x.ts = [r] ∧ r.val = (cl, sq, C) := by
        match x.ts, ht' with
        | [r], e => exact ⟨r, rfl, by simpa using e⟩
        | [], e => simp at e
        | _ :: _ :: _, e => simp at e
      refine ⟨r, e1, ?_⟩
      unfold goneB overR
      rw [e2]
      simp [Rq.val]
  refine (executedE (h1.kept hbA) hps 0 1 1 rfl W.heap.size hL hbA.size hRk hts).mono ?_
  rintro e W' ⟨rfl, D⟩
  exact ⟨rfl, QE.did (h.bel.trans (hbA.mono h.bel.size)) h3 D.out⟩
end Go.Proofs.Ytkdciomijemmiaa
namespace Go.Proofs.Ytkdciomijemmiaa
open Go.RowKit Crc

/-- The law's configuration. -/
def fixC (f : Int) (ep em : Nat) : Cf := ⟨f, 8, 0, 8, 1, 1, ep, em, 1099511627776, 1099511627776⟩
theorem fixC_ok (f : Int) (h1 : 1 ≤ f) (h3 : f ≤ 3) (ep em : Nat) (he : 1 ≤ ep) (hp : ep ≤ 100) (hm : ep ≤ em) (hm2 : em ≤ 1100) : OkC (fixC f ep em) := by
  refine ⟨⟨by show -9223372036854775808 ≤ f; omega, by show f < _; omega, by show (-9223372036854775808 : Int) ≤ 8; decide, by show (8 : Int) < 9223372036854775808; decide, by show 8 < _; decide, by show 1099511627776 < _; decide, by show 1099511627776 < _; decide⟩, ?_, ⟨h1, h3, by show 1 ≤ 8; decide, by show 8 ≤ 8; decide, by show 1 ≤ 1099511627776; decide, Nat.le_refl _, by show 1 ≤ 1099511627776; decide, Nat.le_refl _⟩, by show em ≤ _; omega, he, hm⟩
  have e : (fixC f ep em).oks = [true, true, true, true, true, true, true, true, true, true] := by
    unfold Cf.oks fixC
    simp
    omega
  rw [e]
  rfl
set_option maxRecDepth 10000 in
set_option maxHeartbeats 800000 in
theorem fixedL (f : Int) (ep em : Nat) (w : World) : Calls Try.prog 6 #[.int .i64 f, .int .u64 (ep : Nat), .int .u64 (em : Nat)] w fun e w' => e = .returned (.agg (fixC f ep em).cells) ∧ Hid (Below w.heap.size w w') := by
  have hB : Hid (∀ o, Below w.heap.size w (w.alloc o)) := fun o => (Below.refl _ _).alloc (Nat.le_refl _) _
  unfold fixC Cf.cells
  simp only
  generalize (ep : Int) = e at *
  generalize (em : Int) = m at *
  go_enter Try.func6, Try.ntmps6
  go_wp2
  refine bodyPost_ret (v := .agg #[.int .i64 f, .int .i64 8, .int .u64 0, .int .u64 8, .int .u64 1, .int .u64 1, .int .u64 e, .int .u64 m, .int .u64 1099511627776, .int .u64 1099511627776]) (by simp [results, Try.results6, go_sem]) rfl ⟨rfl, hB.out _⟩
end Go.Proofs.Ytkdciomijemmiaa
namespace Go.Proofs.Ytkdciomijemmiaa
open Go.RowKit Crc

/-- Nothing waits from earlier epochs, nobody suspects; of this one what th says. -/
def Qt (w : World) (c : Cf) (eb g : Nat) (th : List Rv) (f : Nat) (W : World) : Prop := ∃ n m l, 1 ≤ f ∧ f ≤ 1099511627776 ∧ QE w c eb g 1 ⟨n, m, 0, l, f, [], th⟩ W
def Qi (w : World) (c : Cf) (eb g : Nat) (W : World) : Prop := ∃ f, Qt w c eb g [] f W
theorem Qt.bel {w : World} {c : Cf} {eb g : Nat} {th : List Rv} {f : Nat} {W : World} (h : Qt w c eb g th f W) : Below w.heap.size w W := by
  obtain ⟨_, _, _, _, _, h⟩ := h
  exact h.bel
theorem Qt.kept {w : World} {c : Cf} {eb g : Nat} {th : List Rv} {f : Nat} {W W' : World} (h : Qt w c eb g th f W) (hb : Below W.heap.size W W') : Qt w c eb g th f W' := by
  obtain ⟨n, m, l, f1, f2, h⟩ := h
  exact ⟨n, m, l, f1, f2, h.kept hb⟩
set_option maxRecDepth 10000 in
set_option maxHeartbeats 1600000 in
theorem timeout_no {W : World} {eb g : Nat} {c : Cf} {me : Nat} {fp : Nat → Prop} {x : Ex} (h : EL W eb g c me fp x) (now : Nat) (h1 : now < x.fin) :
    Calls Try.prog 12 #[.pointer (some ⟨eb, 0, none⟩), .int .u64 (now : Nat)] W fun e W' => e = .returned (.bool false) ∧ W' = W := by
  have HM := hide (madeE h)
  have q6 : W.cell? ⟨eb, 6, none⟩ = some (.int .u64 (x.fin : Nat)) := h.c 6
  have ql : eb < W.heap.size := h.lt
  have hd : decide ((now : Int) < (x.fin : Int)) = true := by simp; omega
  clear h h1
  generalize (x.fin : Int) = f at *
  generalize (now : Int) = nw at *
  go_enter Try.func12, Try.ntmps12
  go_wp2_with (go_at_call 25; refine HM.out.mono ?_; rintro e V' ⟨rfl, hVV⟩; have hVW := hVV.symm; clear hVV; subst hVW)
  go_ret
  exact ⟨rfl, rfl⟩
theorem timeNo {w : World} {c : Cf} {eb g : Nat} {th : List Rv} {f : Nat} {W : World} (h : Qt w c eb g th f W) (now : Nat) (h1 : now < f) : Calls Try.prog 12 #[.pointer (some ⟨eb, 0, none⟩), .int .u64 (now : Nat)] W fun e W' => e = .returned (.bool false) ∧ W' = W := by
  obtain ⟨n, m, l, f1, f2, h⟩ := h
  obtain ⟨fp, x, e1, e2, e3⟩ := h.ex
  have hf : x.fin = f := by have := congrArg Ev.fin e2; exact this
  exact timeout_no e1 now (by omega)
theorem addB_bound (a b : Nat) (hb : 1 ≤ b) : 1 ≤ addB a b 1099511627776 ∧ addB a b 1099511627776 ≤ 1099511627776 := by
  unfold addB
  split <;> omega
/-- Timeout where nothing waits. -/
theorem timeQi {w : World} {c : Cf} {eb g : Nat} {W : World} (h : Qi w c eb g W) (hc : OkC c) (now : Nat) (hnow : now < 18446744073709551616) : Calls Try.prog 12 #[.pointer (some ⟨eb, 0, none⟩), .int .u64 (now : Nat)] W fun e W' => ∃ z, e = .returned (.bool z) ∧ Hid (Qi w c eb g W') := by
  obtain ⟨f, n, m, l, f1, f2, h⟩ := h
  refine (timeoutQ h hc now hnow).mono ?_
  rintro e W' ⟨rfl, D⟩
  refine ⟨_, rfl, ?_⟩
  have D' := D.out
  unfold Ev.timeout at D'
  simp only [List.length_nil, if_pos] at D'
  by_cases hl : now < f
  · rw [if_pos hl] at D'
    exact ⟨f, n, m, l, f1, f2, D'⟩
  · rw [if_neg hl] at D'
    have hb := addB_bound now c.ep hc.ep
    exact ⟨addB now c.ep 1099511627776, n, m, c.ep, hb.1, hb.2, D'⟩
/-- Timeout at the epoch's end, where one request has been heard in it. -/
theorem timeEnd {w : World} {c : Cf} {eb g : Nat} {v : Rv} {f : Nat} {W : World} (h : Qt w c eb g [v] f W) (hc : OkC c) : Calls Try.prog 12 #[.pointer (some ⟨eb, 0, none⟩), .int .u64 (f : Nat)] W fun e W' => e = .returned (.bool true) ∧ Hid (∃ n m f', f' ≤ 1099511627776 ∧ QE w c eb g 1 ⟨n, m, 0, c.ep, f', [v], []⟩ W') := by
  obtain ⟨n, m, l, f1, f2, h⟩ := h
  refine (timeoutQ h hc f (by omega)).mono ?_
  rintro e W' ⟨rfl, D⟩
  have D' := D.out
  have e : Ev.timeout c 1 ⟨n, m, 0, l, f, [], [v]⟩ f = (⟨n, m, 0, c.ep, addB f c.ep 1099511627776, [v], []⟩, true) := by
    unfold Ev.timeout
    simp only [Nat.lt_irrefl, if_false, List.length_nil, if_true]
    rfl
  rw [e] at D' ⊢
  exact ⟨rfl, n, m, _, (addB_bound f c.ep hc.ep).2, D'⟩
theorem timeTwice {w : World} {c : Cf} {eb g n : Nat} {m : Int} {v : Rv} {f' : Nat} {W : World} (h : QE w c eb g 1 ⟨n, m, 0, c.ep, f', [v], []⟩ W) (hf : f' ≤ 1099511627776) (hc : OkC c) : Calls Try.prog 12 #[.pointer (some ⟨eb, 0, none⟩), .int .u64 (f' : Nat)] W fun e W' => e = .returned (.bool true) ∧ Hid (∃ n m l f s, s.testBit 1 = true ∧ QE w c eb g 1 ⟨n, m, s, l, f, [v], []⟩ W') := by
  refine (timeoutQ h hc f' (by omega)).mono ?_
  rintro e W' ⟨rfl, D⟩
  have D' := D.out
  have e : Ev.timeout c 1 ⟨n, m, 0, c.ep, f', [v], []⟩ f' = (⟨n, m, withB 0 ((1 : Nat) : Int), c.ep, addB f' c.ep 1099511627776, [v], []⟩, true) := by
    unfold Ev.timeout
    simp only [Nat.lt_irrefl, if_false, List.length_cons, List.length_nil]
    rfl
  rw [e] at D' ⊢
  exact ⟨rfl, n, m, _, _, _, by decide, D'⟩
theorem suspQt {w : World} {c : Cf} {eb g : Nat} {th : List Rv} {f : Nat} {W : World} (h : Qt w c eb g th f W) : Calls Try.prog 13 #[.pointer (some ⟨eb, 0, none⟩)] W fun e W' => e = .returned (.bool false) ∧ Hid (Qt w c eb g th f W') := by
  obtain ⟨n, m, l, f1, f2, h⟩ := h
  refine (suspectingQ h (by decide)).mono ?_
  rintro e W' ⟨rfl, D⟩
  exact ⟨by simp, n, m, l, f1, f2, D.out⟩
theorem suspQi {w : World} {c : Cf} {eb g : Nat} {W : World} (h : Qi w c eb g W) : Calls Try.prog 13 #[.pointer (some ⟨eb, 0, none⟩)] W fun e W' => e = .returned (.bool false) ∧ Hid (Qi w c eb g W') := by
  obtain ⟨f, h⟩ := h
  refine (suspQt h).mono ?_
  rintro e W' ⟨rfl, D⟩
  exact ⟨rfl, f, D.out⟩
theorem waitQi {w : World} {c : Cf} {eb g : Nat} {W : World} (h : Qi w c eb g W) : Calls Try.prog 14 #[.pointer (some ⟨eb, 0, none⟩)] W fun e W' => ∃ ao cap, e = .returned (.slice ao 0 cap) ∧ Hid (Qi w c eb g W') := by
  obtain ⟨f, n, m, l, f1, f2, h⟩ := h
  refine (waitingQ h rfl 0 rfl).mono ?_
  rintro e W' ⟨ao, cap, rfl, D⟩
  exact ⟨ao, cap, rfl, f, n, m, l, f1, f2, D.out⟩
/-- A request, copied and told. -/
theorem hearQi {w : World} {c : Cf} {eb g : Nat} {W : World} (h : Qi w c eb g W) (cl sq : Nat) (co : Option Addr) (cn cc : Nat) (C : List Nat) (hr : (Rq.mk cl sq co cn cc C).Ok W.heap.size W) (gd : Bool) (hg : goodR (cl, sq, C) = gd) :
    Calls Try.prog 9 #[.agg #[.int .u64 (cl : Int), .int .u64 (sq : Int), .slice co cn cc]] W fun e w' => ∃ ao cap, e = .returned (.agg #[.int .u64 (cl : Int), .int .u64 (sq : Int), .slice ao cn cap]) ∧ Hid (Calls Try.prog 8 #[.pointer (some ⟨eb, 0, none⟩), .agg #[.int .u64 (cl : Int), .int .u64 (sq : Int), .slice ao cn cap]] w' fun e W' => e = .returned (.bool gd) ∧ Hid (∃ f, Qt w c eb g (if gd = true then [(cl, sq, C)] else []) f W')) := by
  obtain ⟨f, n, m, l, f1, f2, h⟩ := h
  refine (copyRequestE cl sq co cn cc C hr).mono ?_
  rintro e w' ⟨ao, cap, rfl, G⟩
  refine ⟨ao, cap, rfl, ?_⟩
  refine (requestQ (h.kept G.out.1) rfl rfl cl sq ao cn cap C G.out.2.ok).mono ?_
  rintro e W' ⟨rfl, D⟩
  have D' := D.out
  rw [hg] at D' ⊢
  exact ⟨rfl, f, n, m, l, f1, f2, D'⟩
/-- The same request, copied and run. -/
theorem runQi {w : World} {c : Cf} {eb g : Nat} {f : Nat} {W : World} (cl sq : Nat) (co : Option Addr) (cn cc : Nat) (C : List Nat) (gd : Bool) (h : Qt w c eb g (if gd = true then [(cl, sq, C)] else []) f W) (hr : (Rq.mk cl sq co cn cc C).Ok W.heap.size W) :
    Calls Try.prog 9 #[.agg #[.int .u64 (cl : Int), .int .u64 (sq : Int), .slice co cn cc]] W fun e w' => ∃ ao cap, e = .returned (.agg #[.int .u64 (cl : Int), .int .u64 (sq : Int), .slice ao cn cap]) ∧ Hid (Calls Try.prog 11 #[.pointer (some ⟨eb, 0, none⟩), .agg #[.int .u64 0, .slice (some ⟨w'.heap.size, 0, none⟩) 1 1]] (w'.alloc (.cells #[.int .u64 (cl : Int), .int .u64 (sq : Int), .slice ao cn cap] 36)) fun e W' => e = .returned (.tuple #[]) ∧ Hid (Qi w c eb g W')) := by
  obtain ⟨n, m, l, f1, f2, h⟩ := h
  refine (copyExecQ h rfl cl sq co cn cc C (by cases gd <;> simp) hr).mono ?_
  rintro e w' ⟨ao, cap, rfl, G⟩
  refine ⟨ao, cap, rfl, G.out.mono ?_⟩
  rintro e W' ⟨rfl, D⟩
  exact ⟨rfl, f, n, m, l, f1, f2, D.out⟩
theorem lastReq {w : World} {c : Cf} {eb g : Nat} {W : World} (h : Qi w c eb g W) : Calls Try.prog 8 #[.pointer (some ⟨eb, 0, none⟩), .agg #[.int .u64 300, .int .u64 1, .slice none 0 0]] W fun e W' => e = .returned (.bool true) ∧ Hid (∃ f, Qt w c eb g [(300, 1, [])] f W') := by
  obtain ⟨f, n, m, l, f1, f2, h⟩ := h
  refine (requestQ h rfl rfl 300 1 none 0 0 [] ⟨by decide, by decide, (shows_nil W 0).wide (Nat.zero_le _)⟩).mono ?_
  rintro e W' ⟨rfl, D⟩
  have hg : goodR (300, 1, []) = true := by decide
  have D' := D.out
  rw [hg] at D' ⊢
  exact ⟨rfl, f, n, m, l, f1, f2, D'⟩
theorem stateQt {w : World} {c : Cf} {eb g : Nat} {v : Rv} {f : Nat} {W : World} (h : Qt w c eb g [v] f W) : Calls Try.prog 15 #[.pointer (some ⟨eb, 0, none⟩)] W fun e W' => ∃ n m l ao cap ao' cap', e = .returned (.agg #[.int .u64 n, .int .i64 m, .int .u32 0, .int .u64 l, .int .u64 (f : Nat), .slice ao 0 cap, .slice ao' 1 cap']) ∧ Hid (Qt w c eb g [v] f W') := by
  obtain ⟨n, m, l, f1, f2, h⟩ := h
  refine (stateQ h 0 1 rfl rfl).mono ?_
  rintro e W' ⟨ao, cap, ao', cap', rfl, D⟩
  exact ⟨n, m, l, ao, cap, ao', cap', rfl, n, m, l, f1, f2, D.out⟩
end Go.Proofs.Ytkdciomijemmiaa
