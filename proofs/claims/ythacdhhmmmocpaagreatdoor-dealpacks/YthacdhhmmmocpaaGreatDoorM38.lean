import Derived.Test.YthacdhhmmmocpaaGreatDoorM30
import Derived.Test.YthacdhhmmmocpaaGreatDoorPSame
import Derived.Test.YthacdhhmmmocpaaGreatDoorPSpoil
import Derived.Test.YthacdhhmmmocpaaGreatDoorPKept
import Derived.Test.YthacdhhmmmocpaaGreatDoorPLent
import Derived.Test.YthacdhhmmmocpaaGreatDoorPLawA
import Derived.Test.YthacdhhmmmocpaaGreatDoorPFls
import Derived.Test.YthacdhhmmmocpaaGreatDoorM11
namespace Go.Proofs.YthacdhhmmmocpaaGreatDoor
open Go.RowKit Crc

/-- What lay below base is kept. -/
def KeepW (base : Nat) (w w' : World) : Prop := ∀ W, Below base W w → Below base W w'
theorem KeepW.trans {base : Nat} {a b c : World} (h : KeepW base a b) (k : KeepW base b c) : KeepW base a c := fun W hW => k W (h W hW)

theorem Owns.keepAt {base : Nat} {w w' : World} {v : Value} {B : List Nat} (h : Owns base w v B) (hk : ∀ g, v.ownBlock = some g → w'.heap[g]? = w.heap[g]?) : Owns base w' v B := by
  obtain ⟨⟨h1, h2⟩, h3, h4⟩ := h
  refine ⟨⟨h1, ?_⟩, h3, h4⟩
  rcases h2 with h2 | ⟨g, cap, cur, hv, hbg, hg, hr⟩
  · exact .inl h2
  · exact .inr ⟨g, cap, cur, hv, hbg, (hk g (by rw [hv]; rfl)).trans hg, hr⟩
theorem cell_keepAt {w w' : World} {p j : Nat} (h : w'.heap[p]? = w.heap[p]?) : w'.cell? ⟨p, j, none⟩ = w.cell? ⟨p, j, none⟩ := by simp [World.cell?, h]
theorem Foot.keepAt {w w' : World} {p j k : Nat} (h : w'.heap[p]? = w.heap[p]?) : Foot w' p j k ↔ Foot w p j k := by unfold Foot; rw [cell_keepAt h]
theorem WrS.keepAt {base p : Nat} {w w' : World} {s : WS} (h : WrS base w p s) (hk : ∀ k, Foot w p 4 k → w'.heap[k]? = w.heap[k]?) : WrS base w' p s := by
  obtain ⟨v, hb, hO, hne⟩ := h
  have c4 := block_cell hb 4
  simp at c4
  exact ⟨v, (hk p (.inl rfl)).trans hb, hO.keepAt (fun g hg => hk g (.inr ⟨v, c4, hg⟩)), hne⟩
theorem owns_lt {base : Nat} {w : World} {v : Value} {B : List Nat} (h : Owns base w v B) : ∀ g, v.ownBlock = some g → g < w.heap.size := by
  intro g hg
  obtain ⟨a0, c0, rfl, _, (⟨rfl, _⟩ | ⟨g', rfl, hb, hl⟩)⟩ := h.form
  · cases hg
  · have : g' = g := by simpa [Value.ownBlock] using hg
    omega
theorem WrS.foot {base p : Nat} {w : World} {s : WS} (h : WrS base w p s) (hp : base ≤ p) {k : Nat} (hk : Foot w p 4 k) : base ≤ k ∧ k < w.heap.size := by
  obtain ⟨v, hb, hO, hne⟩ := h
  rcases hk with rfl | ⟨u, hu, hg⟩
  · exact ⟨hp, block_lt hb⟩
  · have c4 := block_cell hb 4
    rw [hu] at c4
    simp at c4
    subst c4
    exact ⟨ownx_far hO k hg, owns_lt hO k hg⟩
/-- The blocks of the program's writer, nil or not. -/
def FootP (w : World) (po : Option Addr) (k : Nat) : Prop := ∃ p, po = some ⟨p, 0, none⟩ ∧ Foot w p 4 k
theorem WrP.keepAt {base : Nat} {w w' : World} {po : Option Addr} {s : WS} (h : WrP base w po s) (hk : ∀ k, FootP w po k → w'.heap[k]? = w.heap[k]?) : WrP base w' po s := by
  rcases h with h | ⟨p, rfl, h⟩
  · exact .inl h
  · exact .inr ⟨p, rfl, h.keepAt (fun k hf => hk k ⟨p, rfl, hf⟩)⟩
theorem FootP.keepAt {w w' : World} {po : Option Addr} {k : Nat} (hk : ∀ k, FootP w po k → w'.heap[k]? = w.heap[k]?) : FootP w' po k ↔ FootP w po k := by
  constructor
  · rintro ⟨p, rfl, h⟩
    exact ⟨p, rfl, (Foot.keepAt (hk p ⟨p, rfl, .inl rfl⟩)).1 h⟩
  · rintro ⟨p, rfl, h⟩
    exact ⟨p, rfl, (Foot.keepAt (hk p ⟨p, rfl, .inl rfl⟩)).2 h⟩
theorem WS.put_place {s : WS} (h : s.sound → s.place = 0) (F : List Nat) (y : Int) : (s.put F y).sound → (s.put F y).place = 0 := by
  unfold WS.put
  split
  · rename_i hs
    split
    · rename_i hy; intro h2; exact absurd h2.2 hy
    · split
      · intro h2; cases h2.2
      · intro _; exact h hs
  · exact h
end Go.Proofs.YthacdhhmmmocpaaGreatDoor
namespace Go.Proofs.YthacdhhmmmocpaaGreatDoor
open Go.RowKit Crc

end Go.Proofs.YthacdhhmmmocpaaGreatDoor
namespace Go.Proofs.YthacdhhmmmocpaaGreatDoor
open Go.RowKit Crc

theorem KeepW.below {base : Nat} {w w' : World} (h : KeepW base w w') : Below base w w' := h w (Below.refl _ _)
theorem Shows.belowB {base : Nat} {w w' : World} {ao : Option Addr} {n cap : Nat} {B : List Nat} (h : Shows base w ao n cap B) (hb : Below base w w') : Shows base w' ao n cap B := by
  obtain ⟨h1, h2, h3, h4, b, off, h5, h6, h7⟩ := h
  refine ⟨h1, h2, h3, h4, b, off, h5, h6, fun i hi => ?_⟩
  rw [← h7 i hi]
  exact hb.cell (p := ⟨b, off + i, none⟩) (h6 (by omega))
theorem Lent.keepAt {w w' : World} {gc n : Nat} {B : List Nat} (h : Lent w gc n B) (hk : w'.heap[gc]? = w.heap[gc]?) : Lent w' gc n B := by
  obtain ⟨h0, h1, h2⟩ := h
  refine ⟨h0, h1, ?_⟩
  rcases h2 with h2 | ⟨g, cap, cur, hv, hbg, hg, hr⟩
  · exact .inl h2
  · have e : g = gc := by
      simp only [Value.slice.injEq, Option.some.injEq, Addr.mk.injEq, and_true] at hv
      exact hv.1.symm
    exact .inr ⟨g, cap, cur, hv, hbg, (by rw [e] at hg ⊢; exact hk.trans hg), hr⟩
theorem Lent.ownsW {w : World} {gc n : Nat} {B : List Nat} (h : Lent w gc n B) (hB : ∀ x ∈ B, x < 256) (hl : n ≤ 140737488355328) : Owns gc w (.slice (some ⟨gc, 0, none⟩) n (n + 4)) B := by
  obtain ⟨h1, h2, h3⟩ := h
  subst h1
  rcases h3 with ⟨h4, _⟩ | ⟨g, cap, cur, hv, hbg, hg, hnc, hcm, hcs, htake⟩
  · cases h4
  · simp only [Value.slice.injEq, Option.some.injEq, Addr.mk.injEq, and_true, true_and] at hv
    obtain ⟨rfl, rfl⟩ := hv
    refine ⟨⟨by simp [vals], .inr ⟨gc, B.length + 4, cur, rfl, hbg, hg, by omega, hcm, hcs, ?_⟩⟩, hB, hl⟩
    have h5 : cur.toList.take (B.length * 1) = (cur.toList.take ((B.length + 4) * 1)).take (B.length * 1) := by
      rw [List.take_take]
      congr 1
      omega
    rw [h5, htake]
    unfold vals
    rw [List.map_append, List.take_left' (by simp)]

end Go.Proofs.YthacdhhmmmocpaaGreatDoor
namespace Go.Proofs.YthacdhhmmmocpaaGreatDoor
open Go.RowKit Crc

theorem WS.shown_len {s : WS} (h : s.Inv) : s.shown.length ≤ 65507 := by
  unfold WS.shown
  split
  · rename_i hs
    have := h hs.1
    omega
  · simp

end Go.Proofs.YthacdhhmmmocpaaGreatDoor
namespace Go.Proofs.YthacdhhmmmocpaaGreatDoor
open Go.RowKit Crc

/-- A field with the reach's own bounds. -/
structure Fl.Okx (base : Nat) (w : World) (f : Fl) : Prop where
  ok : f.Ok base w
  hbn : f.bn ≤ 140737488351232
  hSn : f.S.size ≤ 140737488351232
end Go.Proofs.YthacdhhmmmocpaaGreatDoor
namespace Go.Proofs.YthacdhhmmmocpaaGreatDoor
open Go.RowKit Crc

def clampW (m : Int) : Int := if m < 0 then 0 else if 65507 < m then 65507 else m
def wNew (m : Int) : Obj := .cells #[.bool true, .int .i64 0, .int .i64 0, .int .i64 (clampW m), .slice none 0 0] 94 (0, 0)
def wZero : Obj := .cells #[.bool false, .int .i64 0, .int .i64 0, .int .i64 0, .slice none 0 0] 94 (0, 0)
set_option maxRecDepth 10000 in
set_option maxHeartbeats 400000 in
theorem newWriter_any (m : Int) (w : World) :
    Calls Tryz.prog 17 #[.int .i64 m] w fun e w' => e = .returned (.pointer (some ⟨w.heap.size, 0, none⟩)) ∧ w' = w.alloc (wNew m) := by
  by_cases h0 : m < 0
  · have HC : Hid (clampW m = 0) := by unfold clampW; rw [if_pos h0]; rfl
    unfold wNew
    rw [HC.out]
    have d0 : decide (m < 0) = true := by simp [h0]
    have d1 : decide (0 < m) = false := by simp; omega
    have d2 : max m 0 = 0 := by omega
    go_enter Tryz.func17, Tryz.ntmps17
    go_wp2
    go_ret
    exact ⟨rfl, rfl⟩
  · by_cases h1 : 65507 < m
    · have HC : Hid (clampW m = 65507) := by unfold clampW; rw [if_neg h0, if_pos h1]; rfl
      unfold wNew
      rw [HC.out]
      have d0 : decide (m < 0) = false := by simp; omega
      have d1 : decide (0 < m) = true := by simp; omega
      have d2 : max m 0 = m := by omega
      have d3 : decide (65507 < m) = true := by simp; omega
      have d4 : decide (m < 65507) = false := by simp; omega
      go_enter Tryz.func17, Tryz.ntmps17
      go_wp2
      go_ret
      exact ⟨rfl, rfl⟩
    · have HC : Hid (clampW m = m) := by unfold clampW; rw [if_neg h0, if_neg h1]; rfl
      unfold wNew
      rw [HC.out]
      have d0 : decide (m < 0) = false := by simp; omega
      have d3 : decide (65507 < m) = false := by simp; omega
      go_enter Tryz.func17, Tryz.ntmps17
      go_wp2
      go_ret
      exact ⟨rfl, rfl⟩

theorem clampW_le (m : Int) : 0 ≤ clampW m ∧ clampW m ≤ 65507 := by
  unfold clampW
  split
  · omega
  · split <;> omega
theorem foot_plain {w : World} {p j k : Nat} (hc : w.cell? ⟨p, j, none⟩ = some (.slice none 0 0)) (h : Foot w p j k) : k = p := by
  rcases h with h | ⟨u, hu, hg⟩
  · exact h
  · rw [hc] at hu
    cases hu
    cases hg
theorem Fl.Ok.belowB {base : Nat} {w w' : World} {f : Fl} (h : f.Ok base w) (hb : Below base w w') : f.Ok base w' := ⟨h.hN, h.hK1, h.hK2, h.hI1, h.hI2, h.hM1, h.hM2, h.hB.belowB hb, h.hS⟩

end Go.Proofs.YthacdhhmmmocpaaGreatDoor
namespace Go.Proofs.YthacdhhmmmocpaaGreatDoor
open Go.RowKit Crc

/-- An error that is nil, or a chain of faults. -/
def ErrC (w : World) (x : Value) (L : List Lk) (c : Int) : Prop := (x = .nilIface ∧ L = [] ∧ c = 0) ∨ (Chain w.heap.size w L x c ∧ 0 < L.length ∧ L.length ≤ 11 ∧ c ≠ 0)
theorem ErrC.below {w w' : World} {x : Value} {L : List Lk} {c : Int} (h : ErrC w x L c) (hb : Below w.heap.size w w') : ErrC w' x L c := h.imp id (fun ⟨a, b⟩ => ⟨(Chain.below hb a).wide hb.size, b⟩)
/-- A step of the writer touches no block below it. -/
theorem tch_below {base p : Nat} {w w' : World} {s : WS} (hW : WrP base w (some ⟨p, 0, none⟩) s) (hb : p ≤ base) (ht : TchP w w' (some ⟨p, 0, none⟩)) : Below p w w' := by
  rcases ht with ⟨e, _⟩ | ⟨p', e, ht⟩
  · cases e
  cases e
  rcases hW with ⟨e, _⟩ | ⟨p', e, v, hv, ho, hne⟩
  · cases e
  cases e
  refine ⟨ht.os, ht.tape, ht.output, ht.size, fun k hk => ht.keep k (Nat.lt_trans hk (block_lt hv)) (fun hf => ?_)⟩
  rcases hf with e | ⟨u, hu, e⟩
  · omega
  · rw [block_cell hv 4] at hu
    simp at hu
    subst hu
    have := (ho.1.lt k e).1
    omega
/-- Between two fields of the packing. -/
structure Pk (w0 : World) (base p fb : Nat) (L : List Nat) (s : WS) (W : World) : Prop where
  wr : WrP base W (some ⟨p, 0, none⟩) s
  inv : s.Inv
  bs : base ≤ W.heap.size
  bel : Below p w0 W
  ints : Ints W fb L
  nf : ¬ Foot W p 4 fb
  lt : fb < W.heap.size
  pl : s.sound → s.place = 0
theorem Pk.step {w0 : World} {base p fb : Nat} {L : List Nat} {s : WS} {W W' : World} {F : List Nat} {y : Int} (h : Pk w0 base p fb L s W) (hb : p ≤ base) (h1 : WrP base W' (some ⟨p, 0, none⟩) (s.put F y) ∧ TchP W W' (some ⟨p, 0, none⟩)) : Pk w0 base p fb L (s.put F y) W' := by
  have hbl := tch_below h.wr hb h1.2
  rcases h1.2 with ⟨e, _⟩ | ⟨p', e, ht⟩
  · cases e
  cases e
  exact ⟨h1.1, WS.put_inv h.inv F y, Nat.le_trans h.bs ht.size, h.bel.trans hbl, h.ints.heap (ht.keep fb h.lt h.nf), fun hf => (ht.foot fb hf).elim h.nf (fun e => by have := h.lt; omega), Nat.lt_of_lt_of_le h.lt ht.size, WS.put_place h.pl F y⟩
/-- What a field adds. -/
def Cd.lay (c : Cd) (s : WS) (f : Nat) : WS := if f = 7 then s.put (numB c.terms.size ++ strB c.terms) (txtY c.terms 512) else s.put (numB (c.num f)) 0
def wsN : WS := ⟨true, 0, 0, 700, [], KW⟩
def Cd.pkS (c : Cd) : WS := (fds c.verb).foldl c.lay (wsN.put (big c.verb.toNat 1) 0)
def Cd.pkL (c : Cd) : List Lk := if 1 ≤ c.verb ∧ c.verb ≤ 13 then (if c.stray = 0 then (if c.pkS.errC = 0 then [] else [⟨dealN, 7⟩, ⟨wireN, c.pkS.errA⟩]) else [⟨dealN, (c.stray : Int)⟩]) else [⟨dealN, 0⟩]
def Cd.pkC (c : Cd) : Int := if 1 ≤ c.verb ∧ c.verb ≤ 13 then (if c.stray = 0 then c.pkS.errC else 100) else 100
def Cd.pkB (c : Cd) : List Nat := if 1 ≤ c.verb ∧ c.verb ≤ 13 then (if c.stray = 0 then (if c.pkS.errC = 0 then c.pkS.shown else []) else []) else []
def PackP (c : Cd) (w : World) (e : Ending) (w' : World) : Prop := ∃ v x, e = .returned (.tuple #[v, x]) ∧ Hid (Owns w.heap.size w' v c.pkB ∧ ErrC w' x c.pkL c.pkC ∧ Below w.heap.size w w')
theorem owns_nil (base : Nat) (w : World) : Owns base w (.slice none 0 0) [] := ⟨World.ownsRow_nil _ _ _ _, fun _ h => (by cases h), by simp⟩
theorem chain_end (w : World) (c : Int) : Chain w.heap.size w [] (.iface 47 (.int .i64 c)) c := rfl

set_option maxRecDepth 10000 in
set_option maxHeartbeats 800000 in
theorem pack_bad (c : Cd) (w : World) (h : ¬ (1 ≤ c.verb ∧ c.verb ≤ 13)) : Calls Tryz.prog 4 #[.agg c.cells] w (PackP c w) := by
  have e1 : c.pkL = [⟨dealN, 0⟩] := by unfold Cd.pkL; rw [if_neg h]
  have e2 : c.pkC = 100 := by unfold Cd.pkC; rw [if_neg h]
  have e3 : c.pkB = [] := by unfold Cd.pkB; rw [if_neg h]
  unfold PackP
  rw [e1, e2, e3]
  have HV := hide (isVerb_any c.verb)
  rw [decide_eq_false h] at HV
  clear e1 e2 e3 h
  unfold Cd.cells
  have b1 : Hid (∀ o, Below w.heap.size w (w.alloc o)) := fun o => (Below.refl _ w).alloc (Nat.le_refl _) o
  go_enter Tryz.func4, Tryz.ntmps4
  go_wp2_with fail
  refine (HV.out _).mono ?_
  rintro e w1 ⟨rfl, hw1⟩
  rw [hw1]
  clear hw1
  go_wp2_with fail
  refine (refusalD 0 (chain_end _ 100)).mono ?_
  rintro e w2 ⟨g, rfl, G⟩
  go_wp2
  go_ret2
  refine ⟨_, _, rfl, owns_nil _ _, .inr ⟨G.out.1, by simp, by simp, by simp⟩, ?_⟩
  exact (b1.out _).trans (G.out.2.mono (by simp))

set_option maxRecDepth 10000 in
set_option maxHeartbeats 800000 in
theorem pack_stray (c : Cd) (w : World) (h : 1 ≤ c.verb ∧ c.verb ≤ 13) (hs : c.stray ≠ 0) : Calls Tryz.prog 4 #[.agg c.cells] w (PackP c w) := by
  have e1 : c.pkL = [⟨dealN, (c.stray : Int)⟩] := by unfold Cd.pkL; rw [if_pos h, if_neg hs]
  have e2 : c.pkC = 100 := by unfold Cd.pkC; rw [if_pos h, if_neg hs]
  have e3 : c.pkB = [] := by unfold Cd.pkB; rw [if_pos h, if_neg hs]
  unfold PackP
  rw [e1, e2, e3]
  have HV := hide (isVerb_any c.verb)
  rw [decide_eq_true h] at HV
  have HS := hide (stray_any c h.1 h.2)
  have hd : ((c.stray : Int) != 0) = true := by simp; omega
  clear e1 e2 e3 h
  generalize c.stray = st at *
  unfold Cd.cells
  unfold Cd.cells at HS
  have b1 : Hid (∀ o, Below w.heap.size w (w.alloc o)) := fun o => (Below.refl _ w).alloc (Nat.le_refl _) o
  go_enter Tryz.func4, Tryz.ntmps4
  go_wp2_with fail
  refine (HV.out _).mono ?_
  rintro e w1 ⟨rfl, hw1⟩
  rw [hw1]
  clear hw1
  go_wp2_with fail
  refine (HS.out _).mono ?_
  rintro e w2 ⟨rfl, hb2⟩
  go_wp2_with fail
  refine (refusalD (st : Int) (chain_end _ 100)).mono ?_
  rintro e w3 ⟨g, rfl, G⟩
  go_wp2
  go_ret2
  refine ⟨_, _, rfl, owns_nil _ _, .inr ⟨G.out.1, by simp, by simp, by simp⟩, ?_⟩
  exact (b1.out _).trans ((hb2.out.trans (G.out.2.mono hb2.out.size)).mono (by simp))
end Go.Proofs.YthacdhhmmmocpaaGreatDoor
