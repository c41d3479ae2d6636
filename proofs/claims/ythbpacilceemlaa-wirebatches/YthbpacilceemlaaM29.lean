import Derived.Test.YthbpacilceemlaaM20
import Derived.Test.YthbpacilceemlaaRows
import Derived.ProofKit
import Derived.OpenShut
import Derived.ChangeOld
import Derived.Below
import Derived.SizedLaws
import Derived.Deep.Slices
import Derived.Test.YthbpacilceemlaaM26
import Derived.Test.YthbpacilceemlaaM27
import Derived.Test.YthbpacilceemlaaPKept
namespace Go.Proofs.Ythbpacilceemlaa
open Go.ChangeShapes Go.WideShapes Go.ChangeAt Go.RowKit Go.Deep

theorem own : ownKnob Try.prog.godebug = none := by kernel_rfl
theorem laidOut : laidOutB Try.prog = true := by kernel_rfl
theorem bytesU8 : Try.prog.bytesOf 5 = 1 := by kernel_rfl
theorem cellsU8 : Try.prog.cellsOf 5 = 1 := by kernel_rfl
theorem cellsInt : Try.prog.cellsOf 3 = 1 := by kernel_rfl
theorem cellsU64 : Try.prog.cellsOf 28 = 1 := by kernel_rfl
theorem cellsBs : Try.prog.cellsOf 29 = 1 := by kernel_rfl
theorem cellsStr : Try.prog.cellsOf 9 = 1 := by kernel_rfl
theorem cellsOp : Try.prog.cellsOf 31 = 6 := by kernel_rfl
theorem bytesOp : Try.prog.bytesOf 31 = 72 := by kernel_rfl

theorem weights_all {H : Type} {P : Program} {e : TypeId} {d : DataW H} {n : Nat} (hn : n ∈ d.weights P e) : ∀ {ds : List (DataW H)}, d ∈ ds → n ∈ DataW.weightsAll P e ds
  | [], h => by cases h
  | x :: r, h => by
    simp only [DataW.weightsAll, List.mem_append]
    rcases List.mem_cons.1 h with rfl | h
    · exact .inl hn
    · exact .inr (weights_all hn h)

theorem list6 {α : Type} {l : List α} (h : l.length = 6) : ∃ a b c d e f, l = [a, b, c, d, e, f] := by
  match l, h with
  | [a, b, c, d, e, f], _ => exact ⟨a, b, c, d, e, f, rfl⟩

/-- The bytes as numbers. -/
theorem bytes_of (zs : List Int) (hwz : ∀ n ∈ zs, (Lit.int .u8 n).wf = true) : ∃ B : List Nat, zs = B.map (fun (x : Nat) => (x : Int)) ∧ ∀ x ∈ B, x < 256 := by
  induction zs with
  | nil => exact ⟨[], rfl, by simp⟩
  | cons z r ih =>
    obtain ⟨B, hB, hl⟩ := ih (fun n hn => hwz n (by simp [hn]))
    have hz := bounds_u8 (hwz z (by simp))
    refine ⟨z.toNat :: B, ?_, ?_⟩
    · simp [hB]; omega
    · intro x hx
      rcases List.mem_cons.1 hx with rfl | hx
      · omega
      · exact hl x hx

/-- Bytes that came in. -/
theorem view_bytes {H : Type} {enc : TypeId × Value → H} {W : World} {fuel : Nat} {cs : List Value} {x : DataW H × List MemPlace}
    (hf : DataW.trod enc Try.prog W 0 (fun _ => true) true fuel 29 cs = some x) (hr : ∀ n ∈ x.1.weights Try.prog 29, n ≤ reachBytes) :
    ∃ (ao : Option Addr) (len cap : Nat) (B : List Nat), cs = [.slice ao len cap] ∧ Shows W.heap.size W ao len cap B := by
  have hlt := DataW.trod_lt fuel _ _ _ hf
  rcases open_ints Try.underlying29 Try.underlying5 cellsU8 hf with ⟨rfl, _⟩ | ⟨x, len, cap, zs, rfl, _, hl, hm, hz, rfl, hcell, hwz⟩
  · exact ⟨none, 0, 0, [], rfl, rfl, by omega, by omega, by simp, 0, 0, fun h => by omega, fun h => by omega, fun i hi => by omega⟩
  · obtain ⟨B, rfl, hB⟩ := bytes_of zs hwz
    have hr := hr ((lits .u8 ((B.map (fun (x : Nat) => (x : Int))).take len)).length + (lits (H := H) .u8 ((B.map (fun (x : Nat) => (x : Int))).drop len)).length) (by
      simp only [DataW.weights, Try.underlying29, bytesU8, Nat.mul_one]
      exact List.mem_cons_self ..)
    simp only [lits, List.length_map, List.length_take, List.length_drop, reachBytes] at hr
    have hzl : B.length = cap := by simpa using hz
    by_cases hp : 0 < len
    · obtain ⟨b, off, spot⟩ := x
      have hspot : spot = none := by simpa [Addr.add] using World.cell?_spot (hcell 0 (by simp; omega))
      subst hspot
      have hbW : b < W.heap.size := hlt (.cell b off) (MemPlace.mem_row.2 ⟨0, by simp; omega, by simp⟩)
      refine ⟨_, len, cap, B.take len, rfl, by simp; omega, hl, by omega, fun x hx => hB x (List.mem_of_mem_take hx), b, off, fun _ => rfl, fun _ => hbW, fun i hi => ?_⟩
      have hci := hcell i (by simp; omega)
      rw [add_plain] at hci
      rw [hci, List.getD_eq_getElem?_getD, List.getD_eq_getElem?_getD, List.getElem?_map, List.getElem?_take, if_pos hi, List.getElem?_eq_getElem (by omega)]
      rfl
    · obtain rfl : len = 0 := by omega
      exact ⟨_, 0, cap, [], rfl, rfl, by omega, by omega, by simp, 0, 0, fun h => by omega, fun h => by omega, fun i hi => by omega⟩

/-- A field that came in. -/
theorem view_field {H : Type} {enc : TypeId × Value → H} {W : World} {fuel : Nat} {cs : List Value} {x : DataW H × List MemPlace}
    (h : DataW.trod enc Try.prog W 0 (fun _ => true) true fuel 31 cs = some x) (hr : ∀ n ∈ x.1.weights Try.prog 31, n ≤ reachBytes) :
    ∃ f : Fl, cs = f.cells.toList ∧ f.Ok W.heap.size W := by
  obtain ⟨xs, n, _, rfl, hl, hlen, hf⟩ := DataW.trod_struct Try.underlying31 h
  rw [cellsOp] at hl
  have hlen : xs.length = 6 := hlen
  obtain ⟨c0, c1, c2, c3, c4, c5, rfl⟩ := list6 hl
  obtain ⟨y0, y1, y2, y3, y4, y5, rfl⟩ := list6 hlen
  have e0 : DataW.trod enc Try.prog W 0 (fun _ => true) true n 3 (List.take (Try.prog.cellsOf 3) [c0, c1, c2, c3, c4, c5]) = some y0 := hf 0 _ rfl
  rw [cellsInt] at e0
  have e1 : DataW.trod enc Try.prog W 0 (fun _ => true) true n 28 (List.take (Try.prog.cellsOf 28) [c1, c2, c3, c4, c5]) = some y1 := hf 1 _ rfl
  rw [cellsU64] at e1
  have e2 : DataW.trod enc Try.prog W 0 (fun _ => true) true n 3 (List.take (Try.prog.cellsOf 3) [c2, c3, c4, c5]) = some y2 := hf 2 _ rfl
  rw [cellsInt] at e2
  have e3 : DataW.trod enc Try.prog W 0 (fun _ => true) true n 29 (List.take (Try.prog.cellsOf 29) [c3, c4, c5]) = some y3 := hf 3 _ rfl
  rw [cellsBs] at e3
  have e4 : DataW.trod enc Try.prog W 0 (fun _ => true) true n 9 (List.take (Try.prog.cellsOf 9) [c4, c5]) = some y4 := hf 4 _ rfl
  rw [cellsStr] at e4
  have e5 : DataW.trod enc Try.prog W 0 (fun _ => true) true n 3 (List.take (Try.prog.cellsOf 3) [c5]) = some y5 := hf 5 _ rfl
  rw [cellsInt] at e5
  have hr : ∀ n ∈ DataW.weightsEach Try.prog [3, 28, 3, 29, 9, 3] [y0.1, y1.1, y2.1, y3.1, y4.1, y5.1], n ≤ reachBytes := by
    intro n hn
    refine hr n ?_
    simp only [DataW.weights, Try.underlying31]
    exact hn
  obtain ⟨K, k0, _, wK⟩ := DataW.trod_int Try.underlying3 e0
  obtain ⟨N, k1, _, wN⟩ := DataW.trod_int Try.underlying28 e1
  obtain ⟨I, k2, _, wI⟩ := DataW.trod_int Try.underlying3 e2
  obtain ⟨ao, len, cap, B, k3, hB⟩ := view_bytes e3 (fun n hn => hr n (DataW.weights_mem_each (j := 3) rfl rfl n hn))
  obtain ⟨S, k4, h4, _⟩ := DataW.trod_string Try.underlying9 e4
  obtain ⟨M, k5, _, wM⟩ := DataW.trod_int Try.underlying3 e5
  have hS : S.size ≤ reachBytes := hr S.size (DataW.weights_mem_each (j := 4) (t := 9) (d := y4.1) rfl rfl _ (by rw [h4]; show S.size ∈ [S.data.toList.length]; rw [Array.length_toList]; exact List.mem_singleton.2 rfl))
  have bN := bounds_u64 wN
  have bK := bounds_i64 wK
  have bI := bounds_i64 wI
  have bM := bounds_i64 wM
  simp only [List.take, List.cons.injEq, and_true] at k0 k1 k2 k3 k4 k5
  subst k0 k1 k2 k3 k4 k5
  have hNN : ((N.toNat : Nat) : Int) = N := by omega
  refine ⟨⟨K, N.toNat, I, ao, len, cap, B, S, M⟩, by simp [Fl.cells, hNN], ?_⟩
  have hS : S.size ≤ 140737488351232 := hS
  exact ⟨by simp only; omega, bK.1, by simp only; omega, bI.1, by simp only; omega, bM.1, by simp only; omega, hB, by simp only; omega⟩
end Go.Proofs.Ythbpacilceemlaa
namespace Go.Proofs.Ythbpacilceemlaa
open Go.ChangeShapes Go.WideShapes Go.ChangeAt Go.RowKit Go.Deep

theorem Fl.Ok.next {lim : Nat} {w w' : World} {f : Fl} {row : Option Nat} (h : f.Ok lim w) (hg : w.grownBy w' row) (hr : ∀ g, row = some g → lim ≤ g) : f.Ok lim w' :=
  ⟨h.hN, h.hK1, h.hK2, h.hI1, h.hI2, h.hM1, h.hM2, h.hB.kept hg hr, h.hS⟩

/-- The fields as they lie, one behind the other. -/
structure Fls (lim : Nat) (w : World) (b off : Nat) (fs : List Fl) : Prop where
  ok : ∀ f ∈ fs, f.Ok lim w
  at_ : ∀ i f, fs[i]? = some f → ∀ j v, f.cells[j]? = some v → w.cell? ⟨b, off + i * 6 + j, none⟩ = some v
theorem Fls.next {lim : Nat} {w w' : World} {b off : Nat} {fs : List Fl} {row : Option Nat} (h : Fls lim w b off fs) (hb : b < lim) (hg : w.grownBy w' row) (hr : ∀ g, row = some g → lim ≤ g) : Fls lim w' b off fs :=
  ⟨fun f hf => (h.ok f hf).next hg hr, fun i f hi j v hj => hg.cell (h.at_ i f hi j v hj) (fun e => by have := hr b e.symm; omega)⟩

instance : Inhabited Fl := ⟨⟨0, 0, 0, none, 0, 0, [], ByteArray.empty, 0⟩⟩
/-- The fields that came in. -/
theorem view_fields {H : Type} {enc : TypeId × Value → H} {W : World} {ao : Option Addr} {len cap : Nat} {d : DataW H} {p : List MemPlace}
    (h : DataW.Trod enc Try.prog W 0 (fun _ => true) true 22 (.slice ao len cap) d p) (hr : ∀ n ∈ d.weights Try.prog 22, n ≤ reachBytes) :
    ∃ (b off : Nat) (fs : List Fl), len = fs.length ∧ len ≤ 140737488355328 ∧ Fls W.heap.size W b off fs ∧ (0 < len → ao = some ⟨b, off, none⟩) ∧ (0 < len → b < W.heap.size) := by
  obtain ⟨fuel, hf⟩ := h
  have hlt := DataW.trod_lt fuel _ _ _ hf
  rcases open_slice Try.underlying22 hf with ⟨hc, _⟩ | ⟨a, l, c, m, n, D, Pl, hc, _, hl, hm, hmm, hx, hall⟩
  · simp [Value.cells] at hc
    obtain ⟨rfl, rfl, rfl⟩ := hc
    exact ⟨0, 0, [], rfl, by omega, ⟨by simp, by simp⟩, fun h => by omega, fun h => by omega⟩
  · simp [Value.cells] at hc
    obtain ⟨rfl, rfl, rfl⟩ := hc
    simp only [if_true] at hmm
    subst hmm
    simp only [Prod.mk.injEq, cellsOp] at hx
    obtain ⟨hd, hp⟩ := hx
    subst hd
    subst hp
    simp only [cellsOp] at hall
    simp only [DataW.weights, Try.underlying22, bytesOp, List.length_map, List.length_range] at hr
    have hcap := hr _ (List.mem_cons_self ..)
    simp only [reachBytes] at hcap
    obtain ⟨F, hF⟩ := choose_lt (α := Fl) (n := len) (p := fun i f => f.Ok W.heap.size W ∧ ∀ j v, f.cells[j]? = some v → W.cell? (a.add (i * 6 + j)) = some v) (fun i hi => by
      obtain ⟨cs, h1, h2⟩ := hall i (by omega)
      obtain ⟨f, rfl, hok⟩ := view_field h2 (fun n hn => hr n (List.mem_cons_of_mem _ (List.mem_append_left _ (weights_all hn (List.mem_map.2 ⟨i, List.mem_range.2 hi, rfl⟩)))))
      refine ⟨f, hok, fun j v hj => ?_⟩
      have hj6 : j < 6 := by
        have := (Array.getElem?_eq_some_iff.1 hj).1
        simpa [Fl.cells] using this
      have h3 := (World.cells?_some h1).2.2 j hj6
      rw [add_add] at h3
      rw [h3]
      simpa using hj)
    by_cases hp : 0 < len
    · obtain ⟨b, off, spot⟩ := a
      have h00 := (hF 0 hp).2 0 _ rfl
      have hspot : spot = none := by simpa [Addr.add] using World.cell?_spot h00
      subst hspot
      have hbW : b < W.heap.size := hlt (.cell b off) (List.mem_append_left _ (MemPlace.mem_row.2 ⟨0, by omega, by simp⟩))
      refine ⟨b, off, (List.range len).map F, by simp, by omega, ⟨?_, ?_⟩, fun _ => rfl, fun _ => hbW⟩
      · intro f hf
        obtain ⟨i, hi, rfl⟩ := List.mem_map.1 hf
        exact (hF i (List.mem_range.1 hi)).1
      · intro i f hi j v hj
        have hil : i < len := by
          have := (List.getElem?_eq_some_iff.1 hi).1
          simpa using this
        rw [List.getElem?_map, List.getElem?_range hil] at hi
        cases hi
        have := (hF i hil).2 j v hj
        rw [add_plain] at this
        rw [Nat.add_assoc]
        exact this
    · obtain rfl : len = 0 := by omega
      exact ⟨0, 0, [], rfl, by omega, ⟨by simp, by simp⟩, fun h => by omega, fun h => by omega⟩

end Go.Proofs.Ythbpacilceemlaa
namespace Go.Proofs.Ythbpacilceemlaa
open Go.RowKit Crc

/-- What lay below base is kept. -/
def KeepW (base : Nat) (w w' : World) : Prop := ∀ W, Below base W w → Below base W w'
theorem KeepW.trans {base : Nat} {a b c : World} (h : KeepW base a b) (k : KeepW base b c) : KeepW base a c := fun W hW => k W (h W hW)

theorem Owns.keepAt {base : Nat} {w w' : World} {v : Value} {B : List Nat} (h : Owns base w v B) (hk : ∀ g, v.ownBlock = some g → w'.heap[g]? = w.heap[g]?) : Owns base w' v B := by
  obtain ⟨⟨h1, h2⟩, h3, h4⟩ := h
  refine ⟨⟨h1, ?_⟩, h3, h4⟩
  rcases h2 with h2 | ⟨g, cap, cur, hv, hbg, hg, hr⟩
  · exact .inl h2
  · exact .inr ⟨g, cap, cur, hv, hbg, (hk g (by rw [hv]; rfl)).trans hg, hr⟩
theorem cell_keepAt {w w' : World} {p j : Nat} (h : w'.heap[p]? = w.heap[p]?) : w'.cell? ⟨p, j, none⟩ = w.cell? ⟨p, j, none⟩ := by simp [World.cell?, h]
theorem Foot.keepAt {w w' : World} {p j k : Nat} (h : w'.heap[p]? = w.heap[p]?) : Foot w' p j k ↔ Foot w p j k := by unfold Foot; rw [cell_keepAt h]
theorem WrS.keepAt {base p : Nat} {w w' : World} {s : WS} (h : WrS base w p s) (hk : ∀ k, Foot w p 4 k → w'.heap[k]? = w.heap[k]?) : WrS base w' p s := by
  obtain ⟨v, hb, hO, hne⟩ := h
  have c4 := block_cell hb 4
  simp at c4
  exact ⟨v, (hk p (.inl rfl)).trans hb, hO.keepAt (fun g hg => hk g (.inr ⟨v, c4, hg⟩)), hne⟩
theorem RefW.keepAt {base p : Nat} {w w' : World} {s : WS} (h : RefW base w p s) (hk : ∀ k, Foot w p 2 k → w'.heap[k]? = w.heap[k]?) : RefW base w' p s := by
  obtain ⟨v, hb, hO, hne⟩ := h
  have c4 := block_cell hb 2
  simp at c4
  exact ⟨v, (hk p (.inl rfl)).trans hb, hO.keepAt (fun g hg => hk g (.inr ⟨v, c4, hg⟩)), hne⟩
theorem owns_lt {base : Nat} {w : World} {v : Value} {B : List Nat} (h : Owns base w v B) : ∀ g, v.ownBlock = some g → g < w.heap.size := by
  intro g hg
  obtain ⟨a0, c0, rfl, _, (⟨rfl, _⟩ | ⟨g', rfl, hb, hl⟩)⟩ := h.form
  · cases hg
  · have : g' = g := by simpa [Value.ownBlock] using hg
    omega
theorem WrS.foot {base p : Nat} {w : World} {s : WS} (h : WrS base w p s) (hp : base ≤ p) {k : Nat} (hk : Foot w p 4 k) : base ≤ k ∧ k < w.heap.size := by
  obtain ⟨v, hb, hO, hne⟩ := h
  rcases hk with rfl | ⟨u, hu, hg⟩
  · exact ⟨hp, block_lt hb⟩
  · have c4 := block_cell hb 4
    rw [hu] at c4
    simp at c4
    subst c4
    exact ⟨ownx_far hO k hg, owns_lt hO k hg⟩
theorem RefW.foot {base p : Nat} {w : World} {s : WS} (h : RefW base w p s) (hp : base ≤ p) {k : Nat} (hk : Foot w p 2 k) : base ≤ k ∧ k < w.heap.size := by
  obtain ⟨v, hb, hO, hne⟩ := h
  rcases hk with rfl | ⟨u, hu, hg⟩
  · exact ⟨hp, block_lt hb⟩
  · have c4 := block_cell hb 2
    rw [hu] at c4
    simp at c4
    subst c4
    exact ⟨ownx_far hO k hg, owns_lt hO k hg⟩

/-- The blocks of the program's writer, nil or not. -/
def FootP (w : World) (po : Option Addr) (k : Nat) : Prop := ∃ p, po = some ⟨p, 0, none⟩ ∧ Foot w p 4 k
/-- Both writers, in one state. -/
structure PairW (base pv : Nat) (po : Option Addr) (w : World) (s : WS) : Prop where
  prog : WrP base w po s
  ref : RefW base w pv s
  inv : s.Inv
  place : s.sound → s.place = 0
  bpo : ∀ p, po = some ⟨p, 0, none⟩ → base ≤ p
  bpv : base ≤ pv
  apart : ∀ k, FootP w po k → ¬ Foot w pv 2 k
def ResW (base pv : Nat) (po : Option Addr) (w w' : World) : Prop := (∃ s', PairW base pv po w' s') ∧ KeepW base w w'
theorem ResW.from {base pv : Nat} {po : Option Addr} {w w1 w2 : World} (hk : KeepW base w w1) (h : ResW base pv po w1 w2) : ResW base pv po w w2 := ⟨h.1, hk.trans h.2⟩
theorem PairW.base_le {base pv : Nat} {po : Option Addr} {w : World} {s : WS} (h : PairW base pv po w s) : base ≤ w.heap.size := by have h1 := h.bpv; have h2 := h.ref.plt; omega
theorem PairW.footP {base pv : Nat} {po : Option Addr} {w : World} {s : WS} (h : PairW base pv po w s) {k : Nat} (hk : FootP w po k) : base ≤ k ∧ k < w.heap.size := by
  obtain ⟨p, rfl, hk⟩ := hk
  rcases h.prog with ⟨h0, _⟩ | ⟨p', hp, hW⟩
  · cases h0
  · cases hp
    exact hW.foot (h.bpo _ rfl) hk
theorem WrP.keepAt {base : Nat} {w w' : World} {po : Option Addr} {s : WS} (h : WrP base w po s) (hk : ∀ k, FootP w po k → w'.heap[k]? = w.heap[k]?) : WrP base w' po s := by
  rcases h with h | ⟨p, rfl, h⟩
  · exact .inl h
  · exact .inr ⟨p, rfl, h.keepAt (fun k hf => hk k ⟨p, rfl, hf⟩)⟩
theorem FootP.keepAt {w w' : World} {po : Option Addr} {k : Nat} (hk : ∀ k, FootP w po k → w'.heap[k]? = w.heap[k]?) : FootP w' po k ↔ FootP w po k := by
  constructor
  · rintro ⟨p, rfl, h⟩
    exact ⟨p, rfl, (Foot.keepAt (hk p ⟨p, rfl, .inl rfl⟩)).1 h⟩
  · rintro ⟨p, rfl, h⟩
    exact ⟨p, rfl, (Foot.keepAt (hk p ⟨p, rfl, .inl rfl⟩)).2 h⟩
/-- Nothing of both was touched. -/
theorem PairW.wrote {base pv : Nat} {po : Option Addr} {w w' : World} {s : WS} {row : Option Nat} (h : PairW base pv po w s) (hg : w.grownBy w' row) (hr : ∀ g, row = some g → base ≤ g ∧ ¬ FootP w po g ∧ ¬ Foot w pv 2 g) : PairW base pv po w' s ∧ KeepW base w w' := by
  have hkp : ∀ k, FootP w po k → w'.heap[k]? = w.heap[k]? := fun k hk => hg.block k (h.footP hk).2 (fun e => (hr k e.symm).2.1 hk)
  have hkr : ∀ k, Foot w pv 2 k → w'.heap[k]? = w.heap[k]? := fun k hk => hg.block k (h.ref.foot h.bpv hk).2 (fun e => (hr k e.symm).2.2 hk)
  refine ⟨⟨h.prog.keepAt hkp, h.ref.keepAt hkr, h.inv, h.place, h.bpo, h.bpv, fun k hk hf => ?_⟩, fun W hW => hW.grown hg h.base_le (fun k hk => (hr k hk).1)⟩
  exact h.apart k ((FootP.keepAt hkp).1 hk) ((Foot.keepAt (hkr pv (.inl rfl))).1 hf)
theorem PairW.quiet {base pv : Nat} {po : Option Addr} {w w' : World} {s : WS} {row : Option Nat} (h : PairW base pv po w s) (hg : w.grownBy w' row) (hr : ∀ g, row = some g → w.heap.size ≤ g) : PairW base pv po w' s ∧ KeepW base w w' := by
  refine h.wrote hg (fun g e => ⟨Nat.le_trans h.base_le (hr g e), fun hf => ?_, fun hf => ?_⟩)
  · have := (h.footP hf).2; have := hr g e; omega
  · have := (h.ref.foot h.bpv hf).2; have := hr g e; omega
theorem PairW.alloc {base pv : Nat} {po : Option Addr} {w : World} {s : WS} (h : PairW base pv po w s) (o : Obj) : PairW base pv po (w.alloc o) s ∧ KeepW base w (w.alloc o) := h.quiet (World.grownBy_alloc w o none) (fun g e => by cases e)
theorem PairW.below {base pv : Nat} {po : Option Addr} {w w' : World} {s : WS} (h : PairW base pv po w s) (hb : Below w.heap.size w w') : PairW base pv po w' s ∧ KeepW base w w' := h.quiet (below_none hb) (fun g e => by cases e)
theorem PairW.drewN {base pv : Nat} {po : Option Addr} {w : World} {s : WS} (h : PairW base pv po w s) (q : Nat) : PairW base pv po (w.drewN q) s ∧ KeepW base w (w.drewN q) := h.quiet (drew_grown w q) (fun g e => by cases e)

theorem WS.put_place {s : WS} (h : s.sound → s.place = 0) (F : List Nat) (y : Int) : (s.put F y).sound → (s.put F y).place = 0 := by
  unfold WS.put
  split
  · rename_i hs
    split
    · rename_i hy; intro h2; exact absurd h2.2 hy
    · split
      · intro h2; cases h2.2
      · intro _; exact h hs
  · exact h
/-- What the program's step touched, of what was there. -/
theorem TchP.keep {base pv : Nat} {po : Option Addr} {w w1 : World} {s : WS} (_h : PairW base pv po w s) (ht : TchP w w1 po) : (w1.os = w.os ∧ w1.tape = w.tape ∧ w1.output = w.output ∧ w.heap.size ≤ w1.heap.size) ∧ (∀ k, k < w.heap.size → ¬ FootP w po k → w1.heap[k]? = w.heap[k]?) ∧ ∀ k, FootP w1 po k → FootP w po k ∨ w.heap.size ≤ k := by
  rcases ht with ⟨rfl, hg⟩ | ⟨p, rfl, ht⟩
  · exact ⟨⟨hg.os, hg.tape, hg.output, hg.size⟩, fun k hk _ => hg.block k hk (by simp), fun k hk => by obtain ⟨p, e, _⟩ := hk; cases e⟩
  · refine ⟨⟨ht.os, ht.tape, ht.output, ht.size⟩, fun k hk hf => ht.keep k hk (fun e => hf ⟨p, rfl, e⟩), fun k hk => ?_⟩
    obtain ⟨p', e, hk⟩ := hk
    cases e
    rcases ht.foot k hk with h1 | h1
    · exact .inl ⟨p, rfl, h1⟩
    · exact .inr h1
/-- The reference's writer behind the program's step. -/
theorem PairW.refAt {base pv : Nat} {po : Option Addr} {w w1 : World} {s : WS} (h : PairW base pv po w s) (ht : TchP w w1 po) : RefW base w1 pv s ∧ base ≤ w1.heap.size ∧ ∀ k, Foot w1 pv 2 k ↔ Foot w pv 2 k := by
  obtain ⟨⟨_, _, _, hs⟩, hk, _⟩ := ht.keep h
  have hkr : ∀ k, Foot w pv 2 k → w1.heap[k]? = w.heap[k]? := fun k hf => hk k (h.ref.foot h.bpv hf).2 (fun e => h.apart k e hf)
  exact ⟨h.ref.keepAt hkr, Nat.le_trans h.base_le hs, fun k => Foot.keepAt (hkr pv (.inl rfl))⟩
/-- Both went on. -/
theorem PairW.next {base pv : Nat} {po : Option Addr} {w w1 w2 : World} {s : WS} {F : List Nat} {y : Int} (h : PairW base pv po w s) (hp : WrP base w1 po (s.put F y)) (ht : TchP w w1 po) (hr : RefW base w2 pv (s.put F y)) (ht2 : Tch 2 w1 w2 pv) :
    PairW base pv po w2 (s.put F y) ∧ KeepW base w w2 ∧ ∀ k, k < w.heap.size → ¬ FootP w po k → ¬ Foot w pv 2 k → w2.heap[k]? = w.heap[k]? ∧ ¬ FootP w2 po k ∧ ¬ Foot w2 pv 2 k := by
  obtain ⟨hrs, hb1, hf1⟩ := h.refAt ht
  obtain ⟨⟨ho, hta, hou, hs⟩, hkk, hfp⟩ := ht.keep h
  have hlt1 : ∀ k, FootP w1 po k → base ≤ k ∧ k < w1.heap.size := by
    rintro k ⟨p, rfl, hk⟩
    rcases hp with ⟨h0, _⟩ | ⟨p', hp, hW⟩
    · cases h0
    · cases hp
      exact hW.foot (h.bpo _ rfl) hk
  have hap1 : ∀ k, FootP w1 po k → ¬ Foot w1 pv 2 k := by
    intro k hk hf
    rcases hfp k hk with h1 | h1
    · exact h.apart k h1 ((hf1 k).1 hf)
    · have := (h.ref.foot h.bpv ((hf1 k).1 hf)).2; omega
  have hkp : ∀ k, FootP w1 po k → w2.heap[k]? = w1.heap[k]? := fun k hk => ht2.keep k (hlt1 k hk).2 (hap1 k hk)
  refine ⟨⟨hp.keepAt hkp, hr, WS.put_inv h.inv F y, WS.put_place h.place F y, h.bpo, h.bpv, fun k hk hf => ?_⟩, fun W hW => ?_, fun k hk hn1 hn2 => ?_⟩
  · have hk1 := (FootP.keepAt hkp).1 hk
    rcases ht2.foot k hf with h1 | h1
    · exact hap1 k hk1 h1
    · have := (hlt1 k hk1).2; omega
  · refine ⟨ht2.os.trans (ho.trans hW.os), ht2.tape.trans (hta.trans hW.tape), ht2.output.trans (hou.trans hW.output), Nat.le_trans hW.size (Nat.le_trans hs ht2.size), fun k hk => ?_⟩
    have hbl := h.base_le
    rw [ht2.keep k (by omega) (fun e => by have := (hrs.foot h.bpv e).1; omega), hkk k (by omega) (fun e => by have := (h.footP e).1; omega)]
    exact hW.block k hk
  · have hn3 : ¬ Foot w1 pv 2 k := fun e => hn2 ((hf1 k).1 e)
    refine ⟨(ht2.keep k (by omega) hn3).trans (hkk k hk hn1), fun e => ?_, fun e => ?_⟩
    · rcases hfp k ((FootP.keepAt hkp).1 e) with h1 | h1
      · exact hn1 h1
      · omega
    · rcases ht2.foot k e with h1 | h1
      · exact hn3 h1
      · omega
end Go.Proofs.Ythbpacilceemlaa
