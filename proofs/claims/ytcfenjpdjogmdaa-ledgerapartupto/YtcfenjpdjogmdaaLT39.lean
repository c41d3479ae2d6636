import Derived.Test.YtcfenjpdjogmdaaLT38
import Derived.Test.YtcfenjpdjogmdaaLT32
import Derived.Test.YtcfenjpdjogmdaaLT33
import Derived.Test.YtcfenjpdjogmdaaLT37
import Derived.Test.YtcfenjpdjogmdaaLT16
import Derived.Test.YtcfenjpdjogmdaaLT40
namespace Go.Proofs.Ytcfenjpdjogmdaa
open Go.ChangeShapes Go.WideShapes Go.ChangeAt Go.RowKit Go.Deep

theorem cellsInt : Try.prog.cellsOf 3 = 1 := by kernel_rfl
theorem cellsShs : Try.prog.cellsOf 28 = 1 := by kernel_rfl
theorem cellsSh : Try.prog.cellsOf 109 = 2 := by kernel_rfl
theorem bytesSh : Try.prog.bytesOf 109 = 16 := by kernel_rfl
theorem cellsOp : Try.prog.cellsOf 30 = 6 := by kernel_rfl
theorem bytesOp : Try.prog.bytesOf 30 = 64 := by kernel_rfl
instance : Inhabited Sh := ⟨⟨0, 0⟩⟩
/-- A step of a script. -/
structure OpR where
  K : Int
  (A B C : Nat)
  N : Int
  so : Option Addr
  (sn sc : Nat)
  l : List Sh
def OpR.arr (o : OpR) : Array Value := #[.int .i64 o.K, .int .u64 (o.A : Nat), .int .u64 (o.B : Nat), .int .u64 (o.C : Nat), .int .i64 o.N, .slice o.so o.sn o.sc]
structure OpR.Ok (lim : Nat) (W : World) (o : OpR) : Prop where
  (hA : o.A < 18446744073709551616) (hB : o.B < 18446744073709551616) (hC : o.C < 18446744073709551616)
  hn : o.sn = o.l.length
  le : o.sn ≤ 8796093021952
  sh : ∃ bs off, Shs W bs off o.l ∧ (0 < o.sn → o.so = some ⟨bs, off, none⟩ ∧ bs < lim)
theorem OpR.Ok.below {lim B : Nat} {W W' : World} {o : OpR} (h : o.Ok lim W) (hb : Below B W W') (hl : lim ≤ B) : o.Ok lim W' := by
  obtain ⟨bs, off, h1, h2⟩ := h.sh
  exact ⟨h.hA, h.hB, h.hC, h.hn, h.le, bs, off, h1.below hb (fun hp => by have := (h2 (by have := h.hn; omega)).2; omega), h2⟩
/-- A script as it lies. -/
def Ops (lim : Nat) (W : World) (b off n : Nat) : Prop := ∀ i, i < n → ∃ o : OpR, (∀ (j : Nat) (v : Value), o.arr[j]? = some v → W.cell? ⟨b, off + i * 6 + j, none⟩ = some v) ∧ o.Ok lim W
theorem Ops.below {lim B : Nat} {W W' : World} {b off n : Nat} (h : Ops lim W b off n) (hb : Below B W W') (hl : lim ≤ B) (hbl : 0 < n → b < lim) : Ops lim W' b off n := fun i hi => by
  obtain ⟨o, h1, h2⟩ := h i hi
  exact ⟨o, fun j v hj => (hb.cell (p := ⟨b, _, none⟩) (by have := hbl (by omega); show b < B; omega)).trans (h1 j v hj), h2.below hb hl⟩
theorem weights_all {H : Type} {P : Program} {e : TypeId} {d : DataW H} {n : Nat} (hn : n ∈ d.weights P e) : ∀ {ds : List (DataW H)}, d ∈ ds → n ∈ DataW.weightsAll P e ds
  | [], h => by cases h
  | x :: r, h => by
    simp only [DataW.weightsAll, List.mem_append]
    rcases List.mem_cons.1 h with rfl | h
    · exact .inl hn
    · exact .inr (weights_all hn h)

theorem list2 {α : Type} {l : List α} (h : l.length = 2) : ∃ a b, l = [a, b] := by
  match l, h with
  | [a, b], _ => exact ⟨a, b, rfl⟩
theorem list6 {α : Type} {l : List α} (h : l.length = 6) : ∃ a b c d e f, l = [a, b, c, d, e, f] := by
  match l, h with
  | [a, b, c, d, e, f], _ => exact ⟨a, b, c, d, e, f, rfl⟩

/-- A share that came in. -/
theorem view_share {H : Type} {enc : TypeId × Value → H} {W : World} {fuel : Nat} {cs : List Value} {x : DataW H × List MemPlace}
    (h : DataW.trod enc Try.prog W 0 (fun _ => true) true fuel 109 cs = some x) : ∃ f : Sh, cs = f.vals ∧ f.In := by
  obtain ⟨xs, n, _, rfl, hl, hlen, hf⟩ := DataW.trod_struct Try.underlying109 h
  rw [cellsSh] at hl
  have hlen : xs.length = 2 := hlen
  obtain ⟨c0, c1, rfl⟩ := list2 hl
  obtain ⟨y0, y1, rfl⟩ := list2 hlen
  have e0 : DataW.trod enc Try.prog W 0 (fun _ => true) true n 25 (List.take (Try.prog.cellsOf 25) [c0, c1]) = some y0 := hf 0 _ rfl
  rw [cellsU64] at e0
  have e1 : DataW.trod enc Try.prog W 0 (fun _ => true) true n 25 (List.take (Try.prog.cellsOf 25) [c1]) = some y1 := hf 1 _ rfl
  rw [cellsU64] at e1
  obtain ⟨a, k0, _, w0⟩ := DataW.trod_int Try.underlying25 e0
  obtain ⟨b, k1, _, w1⟩ := DataW.trod_int Try.underlying25 e1
  have b0 := bounds_u64 w0
  have b1 := bounds_u64 w1
  simp only [List.take, List.cons.injEq, and_true] at k0 k1
  subst k0 k1
  obtain ⟨n0, rfl⟩ := Int.eq_ofNat_of_zero_le b0.1
  obtain ⟨n1, rfl⟩ := Int.eq_ofNat_of_zero_le b1.1
  exact ⟨⟨n0, n1⟩, rfl, by simp only; omega, by simp only; omega⟩
/-- Shares that came in. -/
theorem view_shares {H : Type} {enc : TypeId × Value → H} {W : World} {fuel : Nat} {cs : List Value} {x : DataW H × List MemPlace}
    (hf : DataW.trod enc Try.prog W 0 (fun _ => true) true fuel 28 cs = some x) (hr : ∀ n ∈ x.1.weights Try.prog 28, n ≤ reachBytes) :
    ∃ (ao : Option Addr) (len cap : Nat) (l : List Sh), cs = [.slice ao len cap] ∧ len = l.length ∧ len ≤ 8796093021952 ∧ ∃ b off, Shs W b off l ∧ (0 < len → ao = some ⟨b, off, none⟩ ∧ b < W.heap.size) := by
  have hlt := DataW.trod_lt fuel _ _ _ hf
  rcases open_slice Try.underlying28 hf with ⟨rfl, _⟩ | ⟨a, len, cap, m, n, D, Pl, rfl, _, hl, hm, hmm, hx, hall⟩
  · exact ⟨none, 0, 0, [], rfl, rfl, by omega, 0, 0, ⟨by simp, by simp⟩, fun h => by omega⟩
  · simp only [if_true] at hmm
    subst hmm
    simp only [cellsSh] at hx
    subst hx
    simp only [cellsSh] at hall
    simp only [DataW.weights, Try.underlying28, bytesSh, List.length_map, List.length_range] at hr
    have hcap := hr _ (List.mem_cons_self ..)
    simp only [reachBytes] at hcap
    obtain ⟨F, hF⟩ := choose_lt (α := Sh) (n := len) (p := fun i f => f.In ∧ ∀ j v, f.vals[j]? = some v → W.cell? (a.add (i * 2 + j)) = some v) (fun i hi => by
      obtain ⟨cs, h1, h2⟩ := hall i (by omega)
      obtain ⟨f, rfl, hok⟩ := view_share h2
      refine ⟨f, hok, fun j v hj => ?_⟩
      have hj6 : j < 2 := by
        have := (List.getElem?_eq_some_iff.1 hj).1
        simpa [Sh.vals] using this
      have h3 := (World.cells?_some h1).2.2 j hj6
      rw [add_add] at h3
      rw [h3]
      simpa using hj)
    by_cases hp : 0 < len
    · obtain ⟨b, off, spot⟩ := a
      have h00 := (hF 0 hp).2 0 _ rfl
      have hspot : spot = none := by simpa [Addr.add] using World.cell?_spot h00
      subst hspot
      have hbW : b < W.heap.size := hlt (.cell b off) (List.mem_append_left _ (MemPlace.mem_row.2 ⟨0, by omega, by simp⟩))
      refine ⟨_, len, _, (List.range len).map F, rfl, by simp, by omega, b, off, ⟨?_, ?_⟩, fun _ => ⟨rfl, hbW⟩⟩
      · intro f hf
        obtain ⟨i, hi, rfl⟩ := List.mem_map.1 hf
        exact (hF i (List.mem_range.1 hi)).1
      · intro i f hi
        have hil : i < len := by
          have := (List.getElem?_eq_some_iff.1 hi).1
          simpa using this
        rw [List.getElem?_map, List.getElem?_range hil] at hi
        cases hi
        have g0 := (hF i hil).2 0 _ rfl
        have g1 := (hF i hil).2 1 _ rfl
        rw [add_plain] at g0 g1
        exact ⟨g0, by rw [Nat.add_assoc]; exact g1⟩
    · obtain rfl : len = 0 := by omega
      exact ⟨_, 0, _, [], rfl, rfl, by omega, 0, 0, ⟨by simp, by simp⟩, fun h => by omega⟩
/-- A step that came in. -/
theorem view_op {H : Type} {enc : TypeId × Value → H} {W : World} {fuel : Nat} {cs : List Value} {x : DataW H × List MemPlace}
    (h : DataW.trod enc Try.prog W 0 (fun _ => true) true fuel 30 cs = some x) (hr : ∀ n ∈ x.1.weights Try.prog 30, n ≤ reachBytes) :
    ∃ o : OpR, cs = o.arr.toList ∧ o.Ok W.heap.size W := by
  obtain ⟨xs, n, _, rfl, hl, hlen, hf⟩ := DataW.trod_struct Try.underlying30 h
  rw [cellsOp] at hl
  have hlen : xs.length = 6 := hlen
  obtain ⟨c0, c1, c2, c3, c4, c5, rfl⟩ := list6 hl
  obtain ⟨y0, y1, y2, y3, y4, y5, rfl⟩ := list6 hlen
  have e0 : DataW.trod enc Try.prog W 0 (fun _ => true) true n 3 (List.take (Try.prog.cellsOf 3) [c0, c1, c2, c3, c4, c5]) = some y0 := hf 0 _ rfl
  rw [cellsInt] at e0
  have e1 : DataW.trod enc Try.prog W 0 (fun _ => true) true n 25 (List.take (Try.prog.cellsOf 25) [c1, c2, c3, c4, c5]) = some y1 := hf 1 _ rfl
  rw [cellsU64] at e1
  have e2 : DataW.trod enc Try.prog W 0 (fun _ => true) true n 25 (List.take (Try.prog.cellsOf 25) [c2, c3, c4, c5]) = some y2 := hf 2 _ rfl
  rw [cellsU64] at e2
  have e3 : DataW.trod enc Try.prog W 0 (fun _ => true) true n 25 (List.take (Try.prog.cellsOf 25) [c3, c4, c5]) = some y3 := hf 3 _ rfl
  rw [cellsU64] at e3
  have e4 : DataW.trod enc Try.prog W 0 (fun _ => true) true n 3 (List.take (Try.prog.cellsOf 3) [c4, c5]) = some y4 := hf 4 _ rfl
  rw [cellsInt] at e4
  have e5 : DataW.trod enc Try.prog W 0 (fun _ => true) true n 28 (List.take (Try.prog.cellsOf 28) [c5]) = some y5 := hf 5 _ rfl
  rw [cellsShs] at e5
  have hr : ∀ n ∈ DataW.weightsEach Try.prog [3, 25, 25, 25, 3, 28] [y0.1, y1.1, y2.1, y3.1, y4.1, y5.1], n ≤ reachBytes := by
    intro n hn
    refine hr n ?_
    simp only [DataW.weights, Try.underlying30]
    exact hn
  obtain ⟨K, k0, _, _⟩ := DataW.trod_int Try.underlying3 e0
  obtain ⟨A, k1, _, w1⟩ := DataW.trod_int Try.underlying25 e1
  obtain ⟨B, k2, _, w2⟩ := DataW.trod_int Try.underlying25 e2
  obtain ⟨C, k3, _, w3⟩ := DataW.trod_int Try.underlying25 e3
  obtain ⟨N, k4, _, _⟩ := DataW.trod_int Try.underlying3 e4
  have b1 := bounds_u64 w1
  have b2 := bounds_u64 w2
  have b3 := bounds_u64 w3
  obtain ⟨so, sn, sc, l, k5, hn, hle, hS⟩ := view_shares e5 (fun n hn => hr n (DataW.weights_mem_each (j := 5) rfl rfl n hn))
  simp only [List.take, List.cons.injEq, and_true] at k0 k1 k2 k3 k4 k5
  subst k0 k1 k2 k3 k4 k5
  obtain ⟨A, rfl⟩ := Int.eq_ofNat_of_zero_le b1.1
  obtain ⟨B, rfl⟩ := Int.eq_ofNat_of_zero_le b2.1
  obtain ⟨C, rfl⟩ := Int.eq_ofNat_of_zero_le b3.1
  exact ⟨⟨K, A, B, C, N, so, sn, sc, l⟩, by simp [OpR.arr], ⟨by simp only; omega, by simp only; omega, by simp only; omega, hn, hle, hS⟩⟩

/-- The script that came in. -/
theorem view_ops {H : Type} {enc : TypeId × Value → H} {W : World} {ao : Option Addr} {len cap : Nat} {d : DataW H} {p : List MemPlace}
    (h : DataW.Trod enc Try.prog W 0 (fun _ => true) true 23 (.slice ao len cap) d p) (hr : ∀ n ∈ d.weights Try.prog 23, n ≤ reachBytes) : ∃ b off : Nat, Ops W.heap.size W b off len ∧ len ≤ 4398046510976 ∧ (0 < len → ao = some ⟨b, off, none⟩) ∧ (0 < len → b < W.heap.size) := by
  obtain ⟨fuel, hf⟩ := h
  have hlt := DataW.trod_lt fuel _ _ _ hf
  rcases open_slice Try.underlying23 hf with ⟨hc, _⟩ | ⟨a, l, c, m, n, D, Pl, hc, _, hl, hm, hmm, hx, hall⟩
  · simp [Value.cells] at hc
    obtain ⟨rfl, rfl, rfl⟩ := hc
    exact ⟨0, 0, fun i hi => by omega, by omega, fun h => by omega, fun h => by omega⟩
  · simp [Value.cells] at hc
    obtain ⟨rfl, rfl, rfl⟩ := hc
    simp only [if_true] at hmm
    subst hmm
    simp only [Prod.mk.injEq, cellsOp] at hx
    obtain ⟨hd, hp⟩ := hx
    subst hd
    subst hp
    simp only [cellsOp] at hall
    simp only [DataW.weights, Try.underlying23, bytesOp, List.length_map, List.length_range] at hr
    have hcap := hr _ (List.mem_cons_self ..)
    simp only [reachBytes] at hcap
    have hcell : ∀ i, i < len → ∃ o : OpR, (∀ j v, o.arr[j]? = some v → W.cell? (a.add (i * 6 + j)) = some v) ∧ o.Ok W.heap.size W := fun i hi => by
      obtain ⟨cs, h1, h2⟩ := hall i (by omega)
      obtain ⟨o, rfl, hok⟩ := view_op h2 (fun n hn => hr n (List.mem_cons_of_mem _ (List.mem_append_left _ (weights_all hn (List.mem_map.2 ⟨i, List.mem_range.2 hi, rfl⟩)))))
      refine ⟨o, fun j v hj => ?_, hok⟩
      have hj6 : j < 6 := by
        have := (Array.getElem?_eq_some_iff.1 hj).1
        simpa [OpR.arr] using this
      have h3 := (World.cells?_some h1).2.2 j hj6
      rw [add_add] at h3
      rw [h3]
      simpa using hj
    by_cases hp : 0 < len
    · obtain ⟨b, off, spot⟩ := a
      obtain ⟨o0, h00, _⟩ := hcell 0 hp
      have h00 := h00 0 _ rfl
      have hspot : spot = none := by simpa [Addr.add] using World.cell?_spot h00
      subst hspot
      have hbW : b < W.heap.size := hlt (.cell b off) (List.mem_append_left _ (MemPlace.mem_row.2 ⟨0, by omega, by simp⟩))
      refine ⟨b, off, fun i hi => ?_, by omega, fun _ => rfl, fun _ => hbW⟩
      obtain ⟨o, h1, h2⟩ := hcell i hi
      refine ⟨o, fun j v hj => ?_, h2⟩
      have := h1 j v hj
      rw [add_plain] at this
      rw [Nat.add_assoc]
      exact this
    · obtain rfl : len = 0 := by omega
      exact ⟨0, 0, fun i hi => by omega, by omega, fun h => by omega, fun h => by omega⟩
end Go.Proofs.Ytcfenjpdjogmdaa
namespace Go.Proofs.Ytcfenjpdjogmdaa
open Go.RowKit

theorem Fr3.bel {w V V' : World} {p a b : Nat} (h : Fr3 V V' p a b) (hb : Below w.heap.size w V) (hp : w.heap.size ≤ p) (ha : w.heap.size ≤ a) (hbb : w.heap.size ≤ b) : Below w.heap.size w V' :=
  ⟨h.os.trans hb.os, h.tape.trans hb.tape, h.output.trans hb.output, Nat.le_trans hb.size h.size, fun k hk => (h.block k (Nat.lt_of_lt_of_le hk hb.size) (by omega) (by omega) (by omega)).trans (hb.block k hk)⟩
/-- The law's world while the script is done: the ledger, the first image in its box. -/
structure Bo (w : World) (B p a b mb : Nat) (mc : Array Value) (A : List Ac) (H : List Ho) (ao ho : Option Addr) (ga gh : Nat) (S0 : LS) (L : Nat) (S : LS) (V : World) : Prop where
  bel : Below w.heap.size w V
  lg : LG V p a b nilS nilS S
  ok : S.Ok
  rn : ∃ es, es.length = L ∧ Rn S0 es S
  box : V.heap[mb]? = some (.cells mc 35 (0, 0))
  im : Im V A H ao ho ga gh
  ne : w.heap.size ≤ p ∧ w.heap.size ≤ a ∧ w.heap.size ≤ b ∧ p < B ∧ a < B ∧ b < B ∧ B ≤ mb ∧ (0 < A.length → B ≤ ga) ∧ (0 < H.length → B ≤ gh)
theorem Bo.kept {w : World} {B p a b mb : Nat} {mc : Array Value} {A : List Ac} {H : List Ho} {ao ho : Option Addr} {ga gh : Nat} {S0 : LS} {L : Nat} {S : LS} {V V' : World} (h : Bo w B p a b mb mc A H ao ho ga gh S0 L S V) (hb : Below V.heap.size V V') : Bo w B p a b mb mc A H ao ho ga gh S0 L S V' :=
  ⟨h.bel.trans (hb.mono h.bel.size), h.lg.kept hb, h.ok, h.rn, (hb.block _ (block_lt h.box)).trans h.box, h.im.below hb, h.ne⟩
theorem Bo.step {w : World} {B p a b mb : Nat} {mc : Array Value} {A : List Ac} {H : List Ho} {ao ho : Option Addr} {ga gh : Nat} {S0 : LS} {L L' : Nat} {S S' : LS} {V V' : World} (h : Bo w B p a b mb mc A H ao ho ga gh S0 L S V) (hg : LgP V V' p a b nilS S') (hok : S'.Ok) (hr : ∃ es, es.length = L' ∧ Rn S0 es S') : Bo w B p a b mb mc A H ao ho ga gh S0 L' S' V' := by
  obtain ⟨n1, n2, n3, n4, n5, n6, n7, n8, n9⟩ := h.ne
  have hl := block_lt h.box
  exact ⟨hg.2.bel h.bel n1 n2 n3, hg.1, hok, hr, (hg.2.block _ hl (by omega) (by omega) (by omega)).trans h.box, h.im.kept hg.2.size (fun hp => hg.2.block _ (h.im.ao hp).2 (by have := n8 hp; omega) (by have := n8 hp; omega) (by have := n8 hp; omega)) (fun hp => hg.2.block _ (h.im.ho hp).2 (by have := n9 hp; omega) (by have := n9 hp; omega) (by have := n9 hp; omega)), h.ne⟩
/-- A step of a script: what the ledger is behind it. -/
theorem Bo.does {w : World} {B p a b mb : Nat} {mc : Array Value} {A : List Ac} {H : List Ho} {ao ho : Option Addr} {ga gh : Nat} {S0 : LS} {L : Nat} {S S' : LS} {V V' : World} (h : Bo w B p a b mb mc A H ao ho ga gh S0 L S V) (hg : LgP V V' p a b nilS S') {k x y z c : Nat} {l : List Sh} (h1 : 1 ≤ k) (h6 : k ≤ 6) (hx : x < 18446744073709551616) (hy : y < 18446744073709551616) (hz : z < 18446744073709551616) (hin : ∀ s ∈ l, s.In) (hS : S.step k x y z l = (c, S')) :
    (c ≠ 0 → Bo w B p a b mb mc A H ao ho ga gh S0 L S' V') ∧ (c = 0 → k = 6 → l.length ≤ 16 ∧ Bo w B p a b mb mc A H ao ho ga gh S0 (L + l.length) S' V') ∧ (c = 0 → k ≠ 6 → Bo w B p a b mb mc A H ao ho ga gh S0 (L + 1) S' V') := by
  refine ⟨fun hc => ?_, fun hc hk => ?_, fun hc hk => ?_⟩
  · have := LS.step_no hS hc
    subst this
    exact h.step hg h.ok h.rn
  · subst hc
    obtain ⟨es, e1, e2, e3⟩ := step_rn h.ok hx hy hz hin hS
    rw [if_neg (by omega)] at e1
    obtain ⟨fs, f1, f2⟩ := h.rn
    exact ⟨by omega, h.step hg (e2.ok h.ok) ⟨fs ++ es, by rw [List.length_append]; omega, f2.trans e2⟩⟩
  · subst hc
    obtain ⟨es, e1, e2, e3⟩ := step_rn h.ok hx hy hz hin hS
    rw [if_pos (by omega)] at e1
    obtain ⟨fs, f1, f2⟩ := h.rn
    exact h.step hg (e2.ok h.ok) ⟨fs ++ es, by rw [List.length_append]; omega, f2.trans e2⟩
/-- Lines that are one's own. -/
theorem jn_of_row {W : World} {base : Nat} {J : List Jn} {jo : Option Addr} {cap : Nat} (rj : W.ownsRow base 68 5 (.slice jo J.length cap) J.length (jcells J)) (ij : ∀ x ∈ J, x.In) : ∃ nj, (0 < J.length → jo = some ⟨nj, 0, none⟩ ∧ nj < W.heap.size) ∧ (0 < J.length → base ≤ nj) ∧ Jns W nj 0 J := by
  rcases rj.2 with ⟨h1, h0⟩ | ⟨g, cp, cur, h1, _, hg, _⟩
  · exact ⟨0, fun h => by omega, fun h => by omega, ij, fun i x hi => by have := (List.getElem?_eq_some_iff.1 hi).1; omega⟩
  · obtain ⟨e, _, e3⟩ := slice_inj h1
    have := rj.lt g (by rw [h1]; rfl)
    rw [e] at rj
    exact ⟨g, fun _ => ⟨e, this.2⟩, fun _ => this.1, jns_of_row rj ij⟩
/-- The law's world while the image goes on line by line. -/
structure Bq (w : World) (mb nb : Nat) (T0 T1 : Int) (nc : Array Value) (A' : List Ac) (H' : List Ho) (nao nho : Option Addr) (na nh : Nat) (J : List Jn) (njo : Option Addr) (nj : Nat) (Ai : List Ac) (Hi : List Ho) (ai : Option Addr) (cap : Nat) (hi : Option Addr) (hcap : Nat) (ja : Option Addr) (jl jc gi gj : Nat) (V : World) : Prop where
  bel : Below w.heap.size w V
  box : V.heap[mb]? = some (.cells #[.int .u64 T0, .int .u64 T1, .slice ai Ai.length cap, .slice hi Hi.length hcap, .slice ja jl jc] 35 (0, 0))
  nbox : V.heap[nb]? = some (.cells nc 35 (0, 0))
  imn : Im V A' H' nao nho na nh
  jn : Jns V nj 0 J
  jo : 0 < J.length → njo = some ⟨nj, 0, none⟩ ∧ nj < V.heap.size
  im : Im V Ai Hi ai hi gi gj
  ne : w.heap.size ≤ mb ∧ mb < nb ∧ (0 < A'.length → na ≠ mb) ∧ (0 < H'.length → nh ≠ mb) ∧ (0 < J.length → nj ≠ mb)
theorem Jns.off {W W' : World} {b : Nat} {l : List Jn} (h : Jns W b 0 l) (hb : 0 < l.length → W'.heap[b]? = W.heap[b]?) : Jns W' b 0 l := by
  by_cases e : 0 < l.length
  · exact h.same (hb e)
  · exact ⟨h.ok, fun i x hi => by have := (List.getElem?_eq_some_iff.1 hi).1; omega⟩
section
variable {w : World} {mb nb : Nat} {T0 T1 : Int} {nc : Array Value} {A' : List Ac} {H' : List Ho} {nao nho : Option Addr} {na nh : Nat} {J : List Jn} {njo : Option Addr} {nj : Nat} {Ai : List Ac} {Hi : List Ho} {ai : Option Addr} {cap : Nat} {hi : Option Addr} {hcap : Nat} {ja : Option Addr} {jl jc gi gj : Nat} {V V' : World}
theorem Bq.kept (h : Bq w mb nb T0 T1 nc A' H' nao nho na nh J njo nj Ai Hi ai cap hi hcap ja jl jc gi gj V) (hb : Below V.heap.size V V') : Bq w mb nb T0 T1 nc A' H' nao nho na nh J njo nj Ai Hi ai cap hi hcap ja jl jc gi gj V' :=
  ⟨h.bel.trans (hb.mono h.bel.size), (hb.block _ (block_lt h.box)).trans h.box, (hb.block _ (block_lt h.nbox)).trans h.nbox, h.imn.below hb, h.jn.off (fun hp => hb.block _ (h.jo hp).2), fun hp => ⟨(h.jo hp).1, Nat.lt_of_lt_of_le (h.jo hp).2 hb.size⟩, h.im.below hb, h.ne⟩
theorem Bq.next (h : Bq w mb nb T0 T1 nc A' H' nao nho na nh J njo nj Ai Hi ai cap hi hcap ja jl jc gi gj V) (hb : Below V.heap.size V V') {A1 : List Ac} {H1 : List Ho} {a1 h1 : Option Addr} {g1 g2 : Nat} (him : Im V' A1 H1 a1 h1 g1 g2) (hg1 : 0 < A1.length → V.heap.size ≤ g1) (hg2 : 0 < H1.length → V.heap.size ≤ g2) (cap1 hcap1 : Nat) :
    Bq w mb nb T0 T1 nc A' H' nao nho na nh J njo nj A1 H1 a1 cap1 h1 hcap1 none 0 0 g1 g2 (((((V'.setCell ⟨mb, 0, none⟩ (.int .u64 T0)).setCell ⟨mb, 1, none⟩ (.int .u64 T1)).setCell ⟨mb, 2, none⟩ (.slice a1 A1.length cap1)).setCell ⟨mb, 3, none⟩ (.slice h1 H1.length hcap1)).setCell ⟨mb, 4, none⟩ (.slice none 0 0)) := by
  have hk := h.kept hb
  have hml := block_lt h.box
  have hg : V'.grownBy (((((V'.setCell ⟨mb, 0, none⟩ (.int .u64 T0)).setCell ⟨mb, 1, none⟩ (.int .u64 T1)).setCell ⟨mb, 2, none⟩ (.slice a1 A1.length cap1)).setCell ⟨mb, 3, none⟩ (.slice h1 H1.length hcap1)).setCell ⟨mb, 4, none⟩ (.slice none 0 0)) (some mb) := set5_g V' mb _ _ _ _ _
  generalize hwf : ((((V'.setCell ⟨mb, 0, none⟩ (.int .u64 T0)).setCell ⟨mb, 1, none⟩ (.int .u64 T1)).setCell ⟨mb, 2, none⟩ (.slice a1 A1.length cap1)).setCell ⟨mb, 3, none⟩ (.slice h1 H1.length hcap1)).setCell ⟨mb, 4, none⟩ (.slice none 0 0) = wf at *
  obtain ⟨n1, n2, n3, n4, n5⟩ := h.ne
  have hs := set5b rfl hk.box hk.bel n1 _ _ _ _ _ hwf
  have ne : ∀ {x : Nat}, x ≠ mb → some x ≠ some mb := fun hx e => hx (Option.some.inj e)
  refine ⟨hs.2.1, hs.1, (hg.block _ (block_lt hk.nbox) (ne (by omega))).trans hk.nbox, hk.imn.kept hg.size (fun hp => hg.block _ (hk.imn.ao hp).2 (ne (n3 hp))) (fun hp => hg.block _ (hk.imn.ho hp).2 (ne (n4 hp))), hk.jn.off (fun hp => hg.block _ (hk.jo hp).2 (ne (n5 hp))), fun hp => ⟨(hk.jo hp).1, Nat.lt_of_lt_of_le (hk.jo hp).2 hg.size⟩, him.kept hg.size (fun hp => hg.block _ (him.ao hp).2 (ne (by have := hg1 hp; omega))) (fun hp => hg.block _ (him.ho hp).2 (ne (by have := hg2 hp; omega))), h.ne⟩
end
end Go.Proofs.Ytcfenjpdjogmdaa
namespace Go.Proofs.Ytcfenjpdjogmdaa
open Go.RowKit

theorem Hos.below {W W' : World} {b off : Nat} {l : List Ho} (h : Hos W b off l) {B : Nat} (hb : Below B W W') (hl : 0 < l.length → b < B) : Hos W' b off l := ⟨h.ok, fun i x hi => by
  have e := hb.block b (hl (by have := (List.getElem?_eq_some_iff.1 hi).1; omega))
  obtain ⟨c0, c1, c2⟩ := h.at_ i x hi
  exact ⟨(cell_same e _).trans c0, (cell_same e _).trans c1, (cell_same e _).trans c2⟩⟩
theorem Jns.below {W W' : World} {b off : Nat} {l : List Jn} (h : Jns W b off l) {B : Nat} (hb : Below B W W') (hl : 0 < l.length → b < B) : Jns W' b off l := ⟨h.ok, fun i x hi => by
  have e := hb.block b (hl (by have := (List.getElem?_eq_some_iff.1 hi).1; omega))
  obtain ⟨c0, c1, c2, c3, c4⟩ := h.at_ i x hi
  exact ⟨(cell_same e _).trans c0, (cell_same e _).trans c1, (cell_same e _).trans c2, (cell_same e _).trans c3, (cell_same e _).trans c4⟩⟩
set_option maxRecDepth 10000 in
set_option maxHeartbeats 1600000 in
theorem sameH {w : World} {b off b' off' : Nat} {ao ao' : Option Addr} (n cap cap' : Nat) {l : List Ho} (hn : n = l.length) (h : Hos w b off l) (h' : Hos w b' off' l) (hao : 0 < n → ao = some ⟨b, off, none⟩ ∧ ao' = some ⟨b', off', none⟩) (hbw : 0 < n → b < w.heap.size ∧ b' < w.heap.size) (hle : n ≤ 4398046510976) :
    Calls Try.prog 36 #[.slice ao n cap, .slice ao' n cap'] w fun e w' => e = .returned (.bool true) ∧ Hid (Below w.heap.size w w') := by
  have HA := hide hao
  have HC := hide h
  have HC' := hide h'
  have HB := hide hbw
  have HN := hide hn
  clear h h' hao hbw hn
  go_enter Try.func36, Try.ntmps36
  go_wp2
  go_loopw [5] (fun i wr => ∃ k : Nat, k ≤ n ∧ i = .int .i64 k ∧ Hid (Below w.heap.size w wr)) (fun i _ => n - (intOf i).toNat)
  case atStart => exact ⟨0, by omega, rfl, Below.refl _ _⟩
  case round =>
    obtain ⟨k, hk, rfl, HB1⟩ := hrel
    by_cases hlt : k < n
    · obtain ⟨a, ha⟩ : ∃ a, l[k]? = some a := ⟨_, List.getElem?_eq_getElem (by have := HN.out; omega)⟩
      obtain ⟨c0, c1, c2⟩ := (HC.out.below HB1.out (fun hp => (HB.out (by have := HN.out; omega)).1)).at_ k a ha
      obtain ⟨d0, d1, d2⟩ := (HC'.out.below HB1.out (fun hp => (HB.out (by have := HN.out; omega)).2)).at_ k a ha
      obtain ⟨rfl, rfl⟩ := HA.out (by omega)
      have hl1 : b < wr.heap.size := Nat.lt_of_lt_of_le (HB.out (by omega)).1 HB1.out.size
      have hl2 : b' < wr.heap.size := Nat.lt_of_lt_of_le (HB.out (by omega)).2 HB1.out.size
      clear ha
      obtain ⟨x0, x1, x2⟩ := a
      simp only at c0 c1 c2 d0 d1 d2
      go_wp2_with fail
      go_quiet (fail)
      go_wp2
      go_roundw
      case rel => exact ⟨k + 1, by omega, by go_num, below_dA HB1.out _⟩
      case measure => simp [intOf]; omega
    · obtain rfl : k = n := by omega
      go_wp2
      go_ret
      exact ⟨rfl, HB1.out⟩
set_option maxRecDepth 10000 in
set_option maxHeartbeats 1600000 in
theorem sameJ {w : World} {b off b' off' : Nat} {ao ao' : Option Addr} (n cap cap' : Nat) {l : List Jn} (hn : n = l.length) (h : Jns w b off l) (h' : Jns w b' off' l) (hao : 0 < n → ao = some ⟨b, off, none⟩ ∧ ao' = some ⟨b', off', none⟩) (hbw : 0 < n → b < w.heap.size ∧ b' < w.heap.size) (hle : n ≤ 4398046510976) :
    Calls Try.prog 37 #[.slice ao n cap, .slice ao' n cap'] w fun e w' => e = .returned (.bool true) ∧ Hid (Below w.heap.size w w') := by
  have HA := hide hao
  have HC := hide h
  have HC' := hide h'
  have HB := hide hbw
  have HN := hide hn
  clear h h' hao hbw hn
  go_enter Try.func37, Try.ntmps37
  go_wp2
  go_loopw [5] (fun i wr => ∃ k : Nat, k ≤ n ∧ i = .int .i64 k ∧ Hid (Below w.heap.size w wr)) (fun i _ => n - (intOf i).toNat)
  case atStart => exact ⟨0, by omega, rfl, Below.refl _ _⟩
  case round =>
    obtain ⟨k, hk, rfl, HB1⟩ := hrel
    by_cases hlt : k < n
    · obtain ⟨a, ha⟩ : ∃ a, l[k]? = some a := ⟨_, List.getElem?_eq_getElem (by have := HN.out; omega)⟩
      obtain ⟨c0, c1, c2, c3, c4⟩ := (HC.out.below HB1.out (fun hp => (HB.out (by have := HN.out; omega)).1)).at_ k a ha
      obtain ⟨d0, d1, d2, d3, d4⟩ := (HC'.out.below HB1.out (fun hp => (HB.out (by have := HN.out; omega)).2)).at_ k a ha
      obtain ⟨rfl, rfl⟩ := HA.out (by omega)
      have hl1 : b < wr.heap.size := Nat.lt_of_lt_of_le (HB.out (by omega)).1 HB1.out.size
      have hl2 : b' < wr.heap.size := Nat.lt_of_lt_of_le (HB.out (by omega)).2 HB1.out.size
      clear ha
      obtain ⟨x0, x1, x2, x3, x4⟩ := a
      simp only at c0 c1 c2 c3 c4 d0 d1 d2 d3 d4
      go_wp2_with fail
      go_quiet (fail)
      go_wp2
      go_roundw
      case rel => exact ⟨k + 1, by omega, by go_num, below_dA HB1.out _⟩
      case measure => simp [intOf]; omega
    · obtain rfl : k = n := by omega
      go_wp2
      go_ret
      exact ⟨rfl, HB1.out⟩
/-- An image's lists, as they lie. -/
structure ImJ (W : World) (A : List Ac) (H : List Ho) (J : List Jn) (ao ho jo : Option Addr) (ga gh gj : Nat) : Prop extends Im W A H ao ho ga gh where
  jo_ : 0 < J.length → jo = some ⟨gj, 0, none⟩ ∧ gj < W.heap.size
  j : Jns W gj 0 J
theorem ImJ.below {W W' : World} {A : List Ac} {H : List Ho} {J : List Jn} {ao ho jo : Option Addr} {ga gh gj : Nat} (h : ImJ W A H J ao ho jo ga gh gj) (hb : Below W.heap.size W W') : ImJ W' A H J ao ho jo ga gh gj :=
  ⟨h.toIm.below hb, fun hp => ⟨(h.jo_ hp).1, Nat.lt_of_lt_of_le (h.jo_ hp).2 hb.size⟩, h.j.below hb (fun hp => (h.jo_ hp).2)⟩
set_option maxRecDepth 10000 in
set_option maxHeartbeats 3200000 in
/-- sameImage of two images that are alike. -/
theorem sameImageI {w : World} {A : List Ac} {H : List Ho} {J : List Jn} {ao ho jo ao' ho' jo' : Option Addr} {ga gh gj ga' gh' gj' : Nat} (h : ImJ w A H J ao ho jo ga gh gj) (h' : ImJ w A H J ao' ho' jo' ga' gh' gj') (hA : A.length ≤ 64) (hH : H.length ≤ 64) (hJ : J.length ≤ 64) (t x : Int) (cap hcap jcap cap' hcap' jcap' : Nat) :
    Calls Try.prog 11 #[.agg #[.int .u64 t, .int .u64 x, .slice ao A.length cap, .slice ho H.length hcap, .slice jo J.length jcap], .agg #[.int .u64 t, .int .u64 x, .slice ao' A.length cap', .slice ho' H.length hcap', .slice jo' J.length jcap']] w fun e w' => e = .returned (.bool true) ∧ Hid (Below w.heap.size w w') := by
  obtain ⟨W1, hW1⟩ : ∃ W1, (w.alloc (.cells #[.int .u64 t, .int .u64 x, .slice ao A.length cap, .slice ho H.length hcap, .slice jo J.length jcap] 35)).alloc (.cells #[.int .u64 t, .int .u64 x, .slice ao' A.length cap', .slice ho' H.length hcap', .slice jo' J.length jcap'] 35) = W1 := ⟨_, rfl⟩
  have b1 : Below w.heap.size w W1 := by rw [← hW1]; exact ((Below.refl _ w).alloc (Nat.le_refl _) _).alloc (by simp) _
  have e1 : (w.alloc (.cells #[.int .u64 t, .int .u64 x, .slice ao A.length cap, .slice ho H.length hcap, .slice jo J.length jcap] 35)).heap.size = w.heap.size + 1 := by simp
  have q2 : W1.heap[w.heap.size + 1]? = some (.cells #[.int .u64 t, .int .u64 x, .slice ao' A.length cap', .slice ho' H.length hcap', .slice jo' J.length jcap'] 35 (0, 0)) := by rw [← hW1, ← e1]; exact alloc_atK _ _
  have q1 : W1.heap[w.heap.size]? = some (.cells #[.int .u64 t, .int .u64 x, .slice ao A.length cap, .slice ho H.length hcap, .slice jo J.length jcap] 35 (0, 0)) := by rw [← hW1]; exact ((World.grownBy_alloc _ _ none).block _ (by simp) (by simp)).trans (alloc_atK _ _)
  have HQ : Hid (∀ V, Below W1.heap.size W1 V → (V.cell? ⟨w.heap.size, 0, none⟩ = some (.int .u64 t) ∧ V.cell? ⟨w.heap.size, 1, none⟩ = some (.int .u64 x) ∧ V.cell? ⟨w.heap.size, 2, none⟩ = some (.slice ao A.length cap) ∧ V.cell? ⟨w.heap.size, 3, none⟩ = some (.slice ho H.length hcap) ∧ V.cell? ⟨w.heap.size, 4, none⟩ = some (.slice jo J.length jcap) ∧ w.heap.size < V.heap.size) ∧ V.cell? ⟨w.heap.size + 1, 0, none⟩ = some (.int .u64 t) ∧ V.cell? ⟨w.heap.size + 1, 1, none⟩ = some (.int .u64 x) ∧ V.cell? ⟨w.heap.size + 1, 2, none⟩ = some (.slice ao' A.length cap') ∧ V.cell? ⟨w.heap.size + 1, 3, none⟩ = some (.slice ho' H.length hcap') ∧ V.cell? ⟨w.heap.size + 1, 4, none⟩ = some (.slice jo' J.length jcap') ∧ w.heap.size + 1 < V.heap.size) := fun V hV => by
    have c1 := (hV.block _ (block_lt q1)).trans q1
    have c2 := (hV.block _ (block_lt q2)).trans q2
    exact ⟨⟨block_cell c1 0, block_cell c1 1, block_cell c1 2, block_cell c1 3, block_cell c1 4, block_lt c1⟩, block_cell c2 0, block_cell c2 1, block_cell c2 2, block_cell c2 3, block_cell c2 4, block_lt c2⟩
  have HA1 : Hid (∀ V, Below W1.heap.size W1 V → Calls Try.prog 35 #[.slice ao A.length cap, .slice ao' A.length cap'] V fun e w' => e = .returned (.bool true) ∧ Hid (Below V.heap.size V w')) := fun V hV => by
    have k := (h.below b1).below hV
    have k' := (h'.below b1).below hV
    exact sameA A.length cap cap' rfl k.a k'.a (fun hp => ⟨(k.ao hp).1, (k'.ao hp).1⟩) (fun hp => ⟨(k.ao hp).2, (k'.ao hp).2⟩) (by omega)
  have HA2 : Hid (∀ V, Below W1.heap.size W1 V → Calls Try.prog 36 #[.slice ho H.length hcap, .slice ho' H.length hcap'] V fun e w' => e = .returned (.bool true) ∧ Hid (Below V.heap.size V w')) := fun V hV => by
    have k := (h.below b1).below hV
    have k' := (h'.below b1).below hV
    exact sameH H.length hcap hcap' rfl k.h k'.h (fun hp => ⟨(k.ho hp).1, (k'.ho hp).1⟩) (fun hp => ⟨(k.ho hp).2, (k'.ho hp).2⟩) (by omega)
  have HA3 : Hid (∀ V, Below W1.heap.size W1 V → Calls Try.prog 37 #[.slice jo J.length jcap, .slice jo' J.length jcap'] V fun e w' => e = .returned (.bool true) ∧ Hid (Below V.heap.size V w')) := fun V hV => by
    have k := (h.below b1).below hV
    have k' := (h'.below b1).below hV
    exact sameJ J.length jcap jcap' rfl k.j k'.j (fun hp => ⟨(k.jo_ hp).1, (k'.jo_ hp).1⟩) (fun hp => ⟨(k.jo_ hp).2, (k'.jo_ hp).2⟩) (by omega)
  have HB1 := hide b1
  have HW1 := hide hW1
  clear h h' hA hH hJ b1 e1 q1 q2 hW1
  generalize A.length = LA at *
  generalize H.length = LH at *
  generalize J.length = LJ at *
  go_enter Try.func11, Try.ntmps11
  go_upto_region 1 with fail
  rw [HW1.out]
  clear HW1
  obtain ⟨⟨x0, x1, x2, x3, x4, xl⟩, y0, y1, y2, y3, y4, yl⟩ := HQ.out W1 (Below.refl _ _)
  have HC1 := hide (HA1.out W1 (Below.refl _ _))
  go_wp2_with fail
  refine HC1.out.mono ?_
  rintro e w2 ⟨rfl, G2⟩
  have HC2 := hide (HA2.out w2 G2.out)
  clear x0 x1 x2 x3 x4 xl y0 y1 y2 y3 y4 yl HC1
  obtain ⟨⟨x0, x1, x2, x3, x4, xl⟩, y0, y1, y2, y3, y4, yl⟩ := HQ.out w2 G2.out
  go_wp2_with fail
  refine HC2.out.mono ?_
  rintro e w3 ⟨rfl, G3⟩
  have HG3 : Hid (Below W1.heap.size W1 w3) := G2.out.trans (G3.out.mono G2.out.size)
  have HC3 := hide (HA3.out w3 HG3.out)
  clear x0 x1 x2 x3 x4 xl y0 y1 y2 y3 y4 yl HC2 G2 G3
  obtain ⟨⟨x0, x1, x2, x3, x4, xl⟩, y0, y1, y2, y3, y4, yl⟩ := HQ.out w3 HG3.out
  go_wp2_with fail
  refine HC3.out.mono ?_
  rintro e w4 ⟨rfl, G4⟩
  have HE : Hid (Below w.heap.size w w4) := HB1.out.trans ((HG3.out.trans (G4.out.mono HG3.out.size)).mono HB1.out.size)
  clear HC3 G4 HG3 HQ HA1 HA2 HA3
  go_wp2
  go_ret
  exact ⟨rfl, HE⟩
end Go.Proofs.Ytcfenjpdjogmdaa
namespace Go.Proofs.Ytcfenjpdjogmdaa
open Go.RowKit

theorem TAm.same {W W' : World} {mb n : Nat} {m : Nat → Option Ac} (h : TAm W mb n m) (hb : W'.heap[mb]? = W.heap[mb]?) : TAm W' mb n m := by
  obtain ⟨D, ⟨es, k, h1, h2⟩, h3⟩ := h
  exact ⟨D, ⟨es, k, hb.trans h1, h2⟩, h3⟩
theorem THm.same {W W' : World} {mb n : Nat} {m : Nat → Option Ho} (h : THm W mb n m) (hb : W'.heap[mb]? = W.heap[mb]?) : THm W' mb n m := by
  obtain ⟨D, ⟨es, k, h1, h2⟩, h3⟩ := h
  exact ⟨D, ⟨es, k, hb.trans h1, h2⟩, h3⟩
theorem LG.same {W W' : World} {p a b : Nat} {mk ch : Value} {S : LS} (h : LG W p a b mk ch S) (h1 : W'.heap[p]? = W.heap[p]?) (h2 : W'.heap[a]? = W.heap[a]?) (h3 : W'.heap[b]? = W.heap[b]?) : LG W' p a b mk ch S := by
  obtain ⟨cs, q1, q2⟩ := h.blk
  exact ⟨⟨cs, h1.trans q1, q2⟩, h.acc.same h2, h.hol.same h3, h.ne⟩
theorem row_same {W W' : World} {B s n : Nat} {t : TypeId} {v : Value} {xs : List Value} (h : W.ownsRow B t s v n xs) (hb : ∀ k, v.ownBlock = some k → W'.heap[k]? = W.heap[k]?) : W'.ownsRow B t s v n xs := by
  refine ⟨h.1, ?_⟩
  rcases h.2 with h | ⟨g, cp, cur, rfl, q1, q2, q3⟩
  · exact .inl h
  · exact .inr ⟨g, cp, cur, rfl, q1, (hb g rfl).trans q2, q3⟩
theorem LM.same {W W' : World} {B p a b : Nat} {Z : SZ} {S : LS} (h : LM W B p a b Z S) (hp : ∀ k, k = p ∨ k = a ∨ k = b ∨ Z.mv.ownBlock = some k ∨ Z.cv.ownBlock = some k → W'.heap[k]? = W.heap[k]?) (hf : Fl W W') : LM W' B p a b Z S := by
  obtain ⟨xs, hc, hd⟩ := h.cr
  exact ⟨h.lg.same (hp p (.inl rfl)) (hp a (.inr (.inl rfl))) (hp b (.inr (.inr (.inl rfl)))), row_same h.mr (fun k e => hp k (.inr (.inr (.inr (.inl e))))), ⟨xs, row_same hc (fun k e => hp k (.inr (.inr (.inr (.inr e))))), fun i d v hi hv => (hd i d v hi hv).fl hf⟩, h.lo⟩
/-- Another ledger's blocks are none of its rows. -/
theorem LM.far {W : World} {B p a b p' a' b' : Nat} {Z : SZ} {S S' : LS} {mk ch : Value} (h : LM W B p a b Z S) (h' : LG W p' a' b' mk ch S') : ∀ q, q = p' ∨ q = a' ∨ q = b' → Z.mv.ownBlock ≠ some q ∧ Z.cv.ownBlock ≠ some q := by
  obtain ⟨xs, hc, _⟩ := h.cr
  intro q hq
  obtain ⟨cs, h1, _⟩ := h'.blk
  obtain ⟨es, k, h2⟩ := h'.acc.obj
  obtain ⟨es', k', h3⟩ := h'.hol.obj
  have key : ∀ {t : TypeId} {n : Nat} {v : Value} {ys : List Value}, W.ownsRow B t 1 v n ys → t ≠ 77 → v.ownBlock ≠ some q := fun {t n v ys} hr ht e => by
    rcases hr.2 with ⟨rfl, _⟩ | ⟨g, cp, cur, rfl, _, hg, _⟩
    · cases e
    · cases e
      rcases hq with rfl | rfl | rfl
      · rw [h1] at hg; cases hg; exact ht rfl
      · rw [h2] at hg; cases hg
      · rw [h3] at hg; cases hg
  exact ⟨key h.mr (by decide), key hc (by decide)⟩
theorem Fr3.fl {W W' : World} {p a b : Nat} {mk ch : Value} {S : LS} (h : Fr3 W W' p a b) (hl : LG W p a b mk ch S) : Fl W W' := by
  obtain ⟨cs, h1, _⟩ := hl.blk
  obtain ⟨es, k, h2⟩ := hl.acc.obj
  obtain ⟨es', k', h3⟩ := hl.hol.obj
  refine ⟨h.size, fun q cs' t hq t1 t2 t3 => (h.block q (block_lt hq) (fun e => ?_) (fun e => ?_) (fun e => ?_)).trans hq⟩
  · subst e; rw [h1] at hq; cases hq; exact t1 rfl
  · subst e; rw [h2] at hq; cases hq
  · subst e; rw [h3] at hq; cases hq
/-- Two ledgers: one with marks, at S; one without, at S'. -/
structure Tw (w : World) (p a b p' a' b' m N : Nat) (S S' : LS) (V : World) : Prop where
  bel : Below w.heap.size w V
  l : ∃ Z, LM V w.heap.size p a b Z S ∧ Z.ms.length = m ∧ Z.cs.length ≤ N
  k : LG V p' a' b' nilS nilS S'
  ne : p < p' ∧ a < p' ∧ b < p' ∧ p < a' ∧ a < a' ∧ b < a' ∧ p < b' ∧ a < b' ∧ b < b' ∧ w.heap.size ≤ p' ∧ w.heap.size ≤ a' ∧ w.heap.size ≤ b'
section
variable {w : World} {p a b p' a' b' m N : Nat} {S S' S1 : LS} {V V' : World}
theorem Tw.kept (h : Tw w p a b p' a' b' m N S S' V) (hb : Below V.heap.size V V') : Tw w p a b p' a' b' m N S S' V' := by
  obtain ⟨Z, h1, h2⟩ := h.l
  exact ⟨h.bel.trans (hb.mono h.bel.size), ⟨Z, h1.kept hb, h2⟩, h.k.kept hb, h.ne⟩
theorem Tw.le {M : Nat} (h : Tw w p a b p' a' b' m N S S' V) (hM : N ≤ M) : Tw w p a b p' a' b' m M S S' V := by
  obtain ⟨Z, h1, h2, h3⟩ := h.l
  exact ⟨h.bel, ⟨Z, h1, h2, by omega⟩, h.k, h.ne⟩
/-- The first ledger goes on. -/
theorem Tw.ltr (h : Tw w p a b p' a' b' m N S S' V) {Z Z' : SZ} {M : Nat} (hZ : LM V w.heap.size p a b Z S) (hl : LM V' w.heap.size p a b Z' S1) (ht : Tr V V' p a b Z Z') (hN : Z'.cs.length ≤ M) : Tw w p a b p' a' b' Z'.ms.length M S1 S' V' := by
  obtain ⟨n1, n2, n3, n4, n5, n6, n7, n8, n9, n10, n11, n12⟩ := h.ne
  have hf := hZ.far h.k
  have lt := h.k.lt
  have lo := hZ.lo
  obtain ⟨xs, hc, _⟩ := hZ.cr
  have row : ∀ {t : TypeId} {n k : Nat} {v : Value} {ys : List Value}, V.ownsRow w.heap.size t 1 v n ys → v.ownBlock = some k → w.heap.size ≤ k := fun {t n k v ys} hr e => (hr.lt k e).1
  refine ⟨⟨ht.os.trans h.bel.os, ht.tape.trans h.bel.tape, ht.output.trans h.bel.output, Nat.le_trans h.bel.size ht.size, fun k hk => (ht.block k (Nat.lt_of_lt_of_le hk h.bel.size) (by omega) (by omega) (by omega) (fun e => by have := row hZ.mr e; omega) (fun e => by have := row hc e; omega)).trans (h.bel.block k hk)⟩, ⟨Z', hl, rfl, hN⟩, h.k.same (ht.block _ lt.1 (by omega) (by omega) (by omega) (hf _ (.inl rfl)).1 (hf _ (.inl rfl)).2) (ht.block _ lt.2.1 (by omega) (by omega) (by omega) (hf _ (.inr (.inl rfl))).1 (hf _ (.inr (.inl rfl))).2) (ht.block _ lt.2.2 (by omega) (by omega) (by omega) (hf _ (.inr (.inr rfl))).1 (hf _ (.inr (.inr rfl))).2), h.ne⟩
/-- The second ledger goes on. -/
theorem Tw.ktr (h : Tw w p a b p' a' b' m N S S' V) (hk : LgP V V' p' a' b' nilS S1) : Tw w p a b p' a' b' m N S S1 V' := by
  obtain ⟨n1, n2, n3, n4, n5, n6, n7, n8, n9, n10, n11, n12⟩ := h.ne
  obtain ⟨Z, hZ, hm, hN⟩ := h.l
  have hf := hZ.far h.k
  have lt := hZ.lg.lt
  obtain ⟨xs, hc, _⟩ := hZ.cr
  have row : ∀ {t : TypeId} {n k : Nat} {v : Value} {ys : List Value}, V.ownsRow w.heap.size t 1 v n ys → v.ownBlock = some k → k < V.heap.size := fun {t n k v ys} hr e => (hr.lt k e).2
  have hl := hZ.same (W' := V') (fun k e => by
    rcases e with rfl | rfl | rfl | e | e
    · exact hk.2.block _ lt.1 (by omega) (by omega) (by omega)
    · exact hk.2.block _ lt.2.1 (by omega) (by omega) (by omega)
    · exact hk.2.block _ lt.2.2 (by omega) (by omega) (by omega)
    · exact hk.2.block _ (row hZ.mr e) (fun e' => (hf k (.inl e')).1 e) (fun e' => (hf k (.inr (.inl e'))).1 e) (fun e' => (hf k (.inr (.inr e'))).1 e)
    · exact hk.2.block _ (row hc e) (fun e' => (hf k (.inl e')).2 e) (fun e' => (hf k (.inr (.inl e'))).2 e) (fun e' => (hf k (.inr (.inr e'))).2 e)) (hk.2.fl h.k)
  exact ⟨hk.2.bel h.bel n10 n11 n12, ⟨Z, hl, hm, hN⟩, hk.1, h.ne⟩
end
end Go.Proofs.Ytcfenjpdjogmdaa
namespace Go.Proofs.Ytcfenjpdjogmdaa
open Go.RowKit

def opBox (o : OpR) : Obj := .cells o.arr 30 (0, 0)
def opCells (V : World) (ob : Nat) (o : OpR) : Prop := V.cell? ⟨ob, 0, none⟩ = some (.int .i64 o.K) ∧ V.cell? ⟨ob, 1, none⟩ = some (.int .u64 (o.A : Nat)) ∧ V.cell? ⟨ob, 2, none⟩ = some (.int .u64 (o.B : Nat)) ∧ V.cell? ⟨ob, 3, none⟩ = some (.int .u64 (o.C : Nat)) ∧ V.cell? ⟨ob, 4, none⟩ = some (.int .i64 o.N) ∧ V.cell? ⟨ob, 5, none⟩ = some (.slice o.so o.sn o.sc) ∧ ob < V.heap.size
theorem op_cells {V : World} {ob : Nat} {o : OpR} (h : V.heap[ob]? = some (opBox o)) : opCells V ob o :=
  ⟨block_cell h 0, block_cell h 1, block_cell h 2, block_cell h 3, block_cell h 4, block_cell h 5, block_lt h⟩
theorem Fl.op {V V' : World} (h : Fl V V') {ob : Nat} {o : OpR} (hb : V.heap[ob]? = some (opBox o)) : V'.heap[ob]? = some (opBox o) := h.at_ _ _ _ hb (by decide) (by decide) (by decide)
section
variable {w : World} {p a b p' a' b' m N : Nat} {S S1 : LS}
/-- A step by the ledger with marks. -/
theorem Tw.doesL {Sk : LS} {V : World} {ob : Nat} {o : OpR} (h : Tw w p a b p' a' b' m N S Sk V) (hbx : V.heap[ob]? = some (opBox o)) (hN : N ≤ 100000000000) (hok : S.Ok) {k c : Nat} (hK : o.K = (k : Int)) (h1 : 1 ≤ k) (h6 : k ≤ 6) (ho : o.Ok w.heap.size w) (hS : S.step k o.A o.B o.C o.l = (c, S1)) :
    Calls Try.prog 6 #[.pointer (some ⟨p, 0, none⟩), .agg o.arr] V fun e V' => e = .returned (.int .i64 (c : Nat)) ∧ opCells V' ob o ∧ Hid (Tw w p a b p' a' b' m (N + 48) S1 Sk V' ∧ V'.heap[ob]? = some (opBox o)) := by
  obtain ⟨Z, hZ, hm, hc⟩ := h.l
  have hoV := ho.below h.bel (Nat.le_refl _)
  obtain ⟨bs, off, hsh, hso⟩ := hoV.sh
  have hd := doesM hZ (by omega) hok h1 h6 ho.hA ho.hB ho.hC o.N o.sn o.sc ho.hn hsh (fun h0 => ⟨(hso h0).1, Nat.lt_of_lt_of_le (hso h0).2 h.bel.size⟩) ho.le hS
  rw [← hK] at hd
  refine hd.mono ?_
  rintro e V' ⟨rfl, G⟩
  obtain ⟨Z', ds, g1, g2, g3, g4, g5, _⟩ := G.out.tr
  have hq := g2.fl.op hbx
  have hT := h.ltr hZ g1 g2 (M := N + 48) (by
    rw [g4]
    split
    · omega
    · rw [List.length_append]; omega)
  rw [g3, hm] at hT
  exact ⟨rfl, op_cells hq, hT, hq⟩
/-- The same step by the ledger without. -/
theorem Tw.doesK {Sl : LS} {V : World} {ob : Nat} {o : OpR} (h : Tw w p a b p' a' b' m N Sl S V) (hbx : V.heap[ob]? = some (opBox o)) (hok : S.Ok) {k c : Nat} (hK : o.K = (k : Int)) (h1 : 1 ≤ k) (h6 : k ≤ 6) (ho : o.Ok w.heap.size w) (hS : S.step k o.A o.B o.C o.l = (c, S1)) :
    Calls Try.prog 6 #[.pointer (some ⟨p', 0, none⟩), .agg o.arr] V fun e V' => e = .returned (.int .i64 (c : Nat)) ∧ opCells V' ob o ∧ Hid (Tw w p a b p' a' b' m N Sl S1 V' ∧ V'.heap[ob]? = some (opBox o)) := by
  have hoV := ho.below h.bel (Nat.le_refl _)
  obtain ⟨bs, off, hsh, hso⟩ := hoV.sh
  have hd := doesG h.k hok h1 h6 ho.hA ho.hB ho.hC o.N o.sn o.sc ho.hn hsh (fun h0 => ⟨(hso h0).1, Nat.lt_of_lt_of_le (hso h0).2 h.bel.size⟩) ho.le hS
  rw [← hK] at hd
  refine hd.mono ?_
  rintro e V' ⟨rfl, G⟩
  have hq := (G.out.2.fl h.k).op hbx
  exact ⟨rfl, op_cells hq, h.ktr G.out, hq⟩
end
/-- The step keeps what always holds. -/
theorem step_ok {S T : LS} (h : S.Ok) {k a b c : Nat} {l : List Sh} (ha : a < 18446744073709551616) (hb : b < 18446744073709551616) (hc : c < 18446744073709551616) (hin : ∀ s ∈ l, s.In) {d : Nat} (hS : S.step k a b c l = (d, T)) : T.Ok := by
  by_cases hd : d = 0
  · subst hd
    obtain ⟨es, _, e2, _⟩ := step_rn h ha hb hc hin hS
    exact e2.ok h
  · have := LS.step_no hS hd
    subst this
    exact h
end Go.Proofs.Ytcfenjpdjogmdaa
