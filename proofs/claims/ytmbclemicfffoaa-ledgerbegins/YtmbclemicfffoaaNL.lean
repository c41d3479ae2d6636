import Derived.Test.YtmbclemicfffoaaLeA
import Derived.Test.YtmbclemicfffoaaRows
import Derived.ProofKit
import Derived.OpenShut
import Derived.ChangeOld
import Derived.Below
import Derived.SizedLaws
import Derived.Deep.Slices
import Derived.Test.YtmbclemicfffoaaLeS
namespace Go.Proofs.Ytmbclemicfffoaa
open Go.ChangeShapes Go.WideShapes Go.ChangeAt Go.RowKit Go.Deep

theorem cellsAcc : Try.prog.cellsOf 37 = 4 := by kernel_rfl
theorem bytesAcc : Try.prog.bytesOf 37 = 32 := by kernel_rfl
theorem cellsU64 : Try.prog.cellsOf 28 = 1 := by kernel_rfl
theorem list4A {α : Type} {l : List α} (h : l.length = 4) : ∃ a b c d, l = [a, b, c, d] := by
  match l, h with
  | [a, b, c, d], _ => exact ⟨a, b, c, d, rfl⟩
theorem own : ownKnob Try.prog.godebug = none := by kernel_rfl
theorem laidOut : laidOutB Try.prog = true := by kernel_rfl
/-- An account that came in. -/
theorem view_acc {H : Type} {enc : TypeId × Value → H} {W : World} {fuel : Nat} {cs : List Value} {x : DataW H × List MemPlace}
    (h : DataW.trod enc Try.prog W 0 (fun _ => true) true fuel 37 cs = some x) : ∃ f : Ac, cs = f.vals ∧ f.In := by
  obtain ⟨xs, n, _, rfl, hl, hlen, hf⟩ := DataW.trod_struct Try.underlying37 h
  rw [cellsAcc] at hl
  have hlen : xs.length = 4 := hlen
  obtain ⟨c0, c1, c2, c3, rfl⟩ := list4A hl
  obtain ⟨y0, y1, y2, y3, rfl⟩ := list4A hlen
  have e0 : DataW.trod enc Try.prog W 0 (fun _ => true) true n 28 (List.take (Try.prog.cellsOf 28) [c0, c1, c2, c3]) = some y0 := hf 0 _ rfl
  rw [cellsU64] at e0
  have e1 : DataW.trod enc Try.prog W 0 (fun _ => true) true n 28 (List.take (Try.prog.cellsOf 28) [c1, c2, c3]) = some y1 := hf 1 _ rfl
  rw [cellsU64] at e1
  have e2 : DataW.trod enc Try.prog W 0 (fun _ => true) true n 28 (List.take (Try.prog.cellsOf 28) [c2, c3]) = some y2 := hf 2 _ rfl
  rw [cellsU64] at e2
  have e3 : DataW.trod enc Try.prog W 0 (fun _ => true) true n 28 (List.take (Try.prog.cellsOf 28) [c3]) = some y3 := hf 3 _ rfl
  rw [cellsU64] at e3
  obtain ⟨N0, k0, _, w0⟩ := DataW.trod_int Try.underlying28 e0
  obtain ⟨N1, k1, _, w1⟩ := DataW.trod_int Try.underlying28 e1
  obtain ⟨N2, k2, _, w2⟩ := DataW.trod_int Try.underlying28 e2
  obtain ⟨N3, k3, _, w3⟩ := DataW.trod_int Try.underlying28 e3
  have b0 := bounds_u64 w0
  have b1 := bounds_u64 w1
  have b2 := bounds_u64 w2
  have b3 := bounds_u64 w3
  simp only [List.take, List.cons.injEq, and_true] at k0 k1 k2 k3
  subst k0 k1 k2 k3
  obtain ⟨n0, rfl⟩ := Int.eq_ofNat_of_zero_le b0.1
  obtain ⟨n1, rfl⟩ := Int.eq_ofNat_of_zero_le b1.1
  obtain ⟨n2, rfl⟩ := Int.eq_ofNat_of_zero_le b2.1
  obtain ⟨n3, rfl⟩ := Int.eq_ofNat_of_zero_le b3.1
  exact ⟨⟨n0, n1, n2, n3⟩, rfl, by simp only; omega, by simp only; omega, by simp only; omega, by simp only; omega⟩
/-- The accounts that came in. -/
theorem view_accs {H : Type} {enc : TypeId × Value → H} {W : World} {ao : Option Addr} {len cap : Nat} {d : DataW H} {p : List MemPlace}
    (h : DataW.Trod enc Try.prog W 0 (fun _ => true) true 22 (.slice ao len cap) d p) (hr : ∀ n ∈ d.weights Try.prog 22, n ≤ reachBytes) :
    ∃ (b off : Nat) (ws : List Ac), len = ws.length ∧ len ≤ 4398046510976 ∧ Acs W b off ws ∧ (0 < len → ao = some ⟨b, off, none⟩) ∧ (0 < len → b < W.heap.size) := by
  obtain ⟨fuel, hf⟩ := h
  have hlt := DataW.trod_lt fuel _ _ _ hf
  rcases open_slice Try.underlying22 hf with ⟨hc, _⟩ | ⟨a, l, c, m, n, D, Pl, hc, _, hl, hm, hmm, hx, hall⟩
  · simp [Value.cells] at hc
    obtain ⟨rfl, rfl, rfl⟩ := hc
    exact ⟨0, 0, [], rfl, by omega, ⟨by simp, by simp⟩, fun h => by omega, fun h => by omega⟩
  · simp [Value.cells] at hc
    obtain ⟨rfl, rfl, rfl⟩ := hc
    simp only [if_true] at hmm
    subst hmm
    simp only [Prod.mk.injEq, cellsAcc] at hx
    obtain ⟨hd, hp⟩ := hx
    subst hd
    subst hp
    simp only [cellsAcc] at hall
    simp only [DataW.weights, Try.underlying22, bytesAcc, List.length_map, List.length_range] at hr
    have hcap := hr _ (List.mem_cons_self ..)
    simp only [reachBytes] at hcap
    obtain ⟨F, hF⟩ := choose_lt (α := Ac) (n := len) (p := fun i f => f.In ∧ ∀ j v, f.vals[j]? = some v → W.cell? (a.add (i * 4 + j)) = some v) (fun i hi => by
      obtain ⟨cs, h1, h2⟩ := hall i (by omega)
      obtain ⟨f, rfl, hok⟩ := view_acc h2
      refine ⟨f, hok, fun j v hj => ?_⟩
      have hj6 : j < 4 := by
        have := (List.getElem?_eq_some_iff.1 hj).1
        simpa [Ac.vals] using this
      have h3 := (World.cells?_some h1).2.2 j hj6
      rw [add_add] at h3
      rw [h3]
      simpa using hj)
    by_cases hp : 0 < len
    · obtain ⟨b, off, spot⟩ := a
      have h00 := (hF 0 hp).2 0 _ rfl
      have hspot : spot = none := by simpa [Addr.add] using World.cell?_spot h00
      subst hspot
      have hbW : b < W.heap.size := hlt (.cell b off) (List.mem_append_left _ (MemPlace.mem_row.2 ⟨0, by omega, by simp⟩))
      refine ⟨b, off, (List.range len).map F, by simp, by omega, ⟨?_, ?_⟩, fun _ => rfl, fun _ => hbW⟩
      · intro f hf
        obtain ⟨i, hi, rfl⟩ := List.mem_map.1 hf
        exact (hF i (List.mem_range.1 hi)).1
      · intro i f hi j v hj
        have hil : i < len := by
          have := (List.getElem?_eq_some_iff.1 hi).1
          simpa using this
        rw [List.getElem?_map, List.getElem?_range hil] at hi
        cases hi
        have := (hF i hil).2 j v hj
        rw [add_plain] at this
        rw [Nat.add_assoc]
        exact this
    · obtain rfl : len = 0 := by omega
      exact ⟨0, 0, [], rfl, by omega, ⟨by simp, by simp⟩, fun h => by omega, fun h => by omega⟩
end Go.Proofs.Ytmbclemicfffoaa
namespace Go.Proofs.Ytmbclemicfffoaa
open Go.ChangeShapes Go.WideShapes Go.ChangeAt Go.RowKit Go.Deep

set_option maxRecDepth 100000 in
/-- The row of LedgerBegins, around a walk. -/
theorem ledgerBegins_lifted (walk : ∀ (sb0 off0 : Nat) (ao0 : Option Addr) (len0 cap0 : Nat) (vs0 : List Ac) (w : World), len0 = vs0.length → len0 ≤ 4398046510976 → Acs w sb0 off0 vs0 → (0 < len0 → ao0 = some ⟨sb0, off0, none⟩) → (0 < len0 → sb0 < w.heap.size) → Calls Try.prog 3 #[.slice ao0 len0 cap0] w fun e w' => e = .returned (.bool true) ∧ Below w.heap.size w w')
    (os : Os) (started : os.Started) (H : Type) (enc : TypeId × Value → H) :
    ReturnsInHanded {} Try.checked os 3 .any (Rows.ledgerBeginsSpec.pre6 enc Try.prog Try.f3 Rows.ledgerBeginsRow.domain false) (Rows.ledgerBeginsSpec.post enc Try.prog Try.f3 false true false false) := by
  refine returnsInHanded_of_change_sized (C := Try.checked) own started (by kernel_rfl) Try.func3
    (ChangeSpec.witness6 (enc := enc) (C := Try.checked) false ⟨#[], #[.slice none 0 0], []⟩ 8 (by kernel_rfl) (by kernel_rfl) (by kernel_rfl) (by kernel_rfl)) ?_
  intro W base args ds gs before hval0 hW hcnd hsz0 _
  have hval : ∀ (j : Nat) t v, Try.f3.params[j]? = some t → args[j]? = some v → Value.okWide Try.prog W .any base t v := hval0
  have hW' := hW
  obtain ⟨p, q, hA0, hV, rfl, hfz, hnd⟩ := hW
  have hA : DataW.TrodAll enc Try.prog W 0 (fun _ => true) true Try.f3.params.toList args.toList ds p := hA0
  rw [Try.params3] at hA hval hsz0
  obtain ⟨v0, vs0, d0, ds0, p0, q0, hargs, rfl, rfl, h0, r0⟩ := trodAll_cons hA
  obtain ⟨rfl, rfl, rfl⟩ := trodAll_nil r0
  obtain rfl : args = #[v0] := by cases args; simp_all
  obtain ⟨rfl, rfl⟩ := trodVars_none hV
  obtain ⟨ao0, len0, cap0, rfl⟩ := okWide_slice Try.underlying22 (hval 0 22 v0 rfl rfl)
  have k0 := h0
  have lt0 : ∀ x ∈ p0, x.block < W.heap.size := by obtain ⟨m, hm⟩ := k0; exact DataW.trod_lt m _ _ _ hm
  obtain ⟨sb0, off0, vs0, hn0, hn470, hF0, hao0, hb0⟩ := view_accs h0 (fun n hn => by
    have := List.all_eq_true.1 hsz0 n (DataW.weights_mem_each (j := 0) (t := 22) (d := d0) rfl rfl n hn)
    simpa using this)
  clear hA0 hval0
  refine (walk sb0 off0 ao0 len0 cap0 vs0 W hn0 hn470 hF0 hao0 hb0).mono fun e W' ⟨he, bel⟩ => ?_
  subst he
  exact ⟨_, rfl, _, _, _, [], _, [], hW', trodAll_mk1 (shut_bool Try.underlying4 _), (trodAll_cons_mk (Below.trod laidOut (by kernel_rfl) (of_decide_eq_true (by kernel_rfl)) k0 bel lt0) trodAll_mk0), rfl, bel.frame _, fun h => by cases h⟩

set_option maxRecDepth 100000 in
theorem ledgerBegins_of (walk : ∀ (sb0 off0 : Nat) (ao0 : Option Addr) (len0 cap0 : Nat) (vs0 : List Ac) (w : World), len0 = vs0.length → len0 ≤ 4398046510976 → Acs w sb0 off0 vs0 → (0 < len0 → ao0 = some ⟨sb0, off0, none⟩) → (0 < len0 → sb0 < w.heap.size) → Calls Try.prog 3 #[.slice ao0 len0 cap0] w fun e w' => e = .returned (.bool true) ∧ Below w.heap.size w w') :
    Rows.ledgerBeginsRow.holds Try.pinned (OpenSpec.ofChange Rows.ledgerBeginsSpec) :=
  OpenClaim.holds_of_wide 3 Try.f3 rfl rfl rfl rfl rfl rfl rfl ⟨rfl, rfl, rfl, rfl, rfl⟩ rfl rfl rfl rfl rfl (by kernel_rfl) Try.func3 (by kernel_rfl)
    (of_decide_eq_true (by kernel_rfl)) (by unfold Func.isWrapper; first | (rw [if_pos (by decide +kernel)]; kernel_rfl) | (rw [if_neg (by decide +kernel)]; exact ⟨rfl, rfl⟩))
    (fun os started H enc _ => ledgerBegins_lifted walk os started H enc)
end Go.Proofs.Ytmbclemicfffoaa
namespace Go.Proofs.Ytmbclemicfffoaa
open Go.RowKit

theorem ledgerBeginsProof : Rows.LedgerBeginsSaid := ledgerBegins_of fun _ _ _ len cap _ _ hn hle hA hao hbw => begins_walk len cap hn hA hao hbw hle
end Go.Proofs.Ytmbclemicfffoaa
