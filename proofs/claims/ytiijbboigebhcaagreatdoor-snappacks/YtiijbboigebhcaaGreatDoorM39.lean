import Derived.Test.YtiijbboigebhcaaGreatDoorM38
import Derived.Test.YtiijbboigebhcaaGreatDoorRows
import Derived.ProofKit
import Derived.OpenShut
import Derived.ChangeOld
import Derived.Below
import Derived.SizedLaws
import Derived.Deep.Slices
import Derived.Test.YtiijbboigebhcaaGreatDoorM31
import Derived.Test.YtiijbboigebhcaaGreatDoorNPt
import Derived.Test.YtiijbboigebhcaaGreatDoorKToldB
namespace Go.Proofs.YtiijbboigebhcaaGreatDoor
open Go.ChangeShapes Go.WideShapes Go.ChangeAt Go.RowKit Go.Deep

theorem own : ownKnob Tryz.prog.godebug = none := by kernel_rfl
theorem laidOut : laidOutB Tryz.prog = true := by kernel_rfl
theorem bytesU8 : Tryz.prog.bytesOf 5 = 1 := by kernel_rfl
theorem cellsU8 : Tryz.prog.cellsOf 5 = 1 := by kernel_rfl
theorem cellsInt : Tryz.prog.cellsOf 3 = 1 := by kernel_rfl
theorem cellsU64 : Tryz.prog.cellsOf 22 = 1 := by kernel_rfl
theorem cellsBs : Tryz.prog.cellsOf 36 = 1 := by kernel_rfl
theorem cellsStr : Tryz.prog.cellsOf 9 = 1 := by kernel_rfl
theorem weights_all {H : Type} {P : Program} {e : TypeId} {d : DataW H} {n : Nat} (hn : n ∈ d.weights P e) : ∀ {ds : List (DataW H)}, d ∈ ds → n ∈ DataW.weightsAll P e ds
  | [], h => by cases h
  | x :: r, h => by
    simp only [DataW.weightsAll, List.mem_append]
    rcases List.mem_cons.1 h with rfl | h
    · exact .inl hn
    · exact .inr (weights_all hn h)

theorem list6 {α : Type} {l : List α} (h : l.length = 6) : ∃ a b c d e f, l = [a, b, c, d, e, f] := by
  match l, h with
  | [a, b, c, d, e, f], _ => exact ⟨a, b, c, d, e, f, rfl⟩

/-- The bytes as numbers. -/
theorem bytes_of (zs : List Int) (hwz : ∀ n ∈ zs, (Lit.int .u8 n).wf = true) : ∃ B : List Nat, zs = B.map (fun (x : Nat) => (x : Int)) ∧ ∀ x ∈ B, x < 256 := by
  induction zs with
  | nil => exact ⟨[], rfl, by simp⟩
  | cons z r ih =>
    obtain ⟨B, hB, hl⟩ := ih (fun n hn => hwz n (by simp [hn]))
    have hz := bounds_u8 (hwz z (by simp))
    refine ⟨z.toNat :: B, ?_, ?_⟩
    · simp [hB]; omega
    · intro x hx
      rcases List.mem_cons.1 hx with rfl | hx
      · omega
      · exact hl x hx

/-- Bytes that came in. -/
theorem view_bytes {H : Type} {enc : TypeId × Value → H} {W : World} {fuel : Nat} {cs : List Value} {x : DataW H × List MemPlace}
    (hf : DataW.trod enc Tryz.prog W 0 (fun _ => true) true fuel 36 cs = some x) (hr : ∀ n ∈ x.1.weights Tryz.prog 36, n ≤ reachBytes) :
    ∃ (ao : Option Addr) (len cap : Nat) (B : List Nat), cs = [.slice ao len cap] ∧ Shows W.heap.size W ao len cap B := by
  have hlt := DataW.trod_lt fuel _ _ _ hf
  rcases open_ints Tryz.underlying36 Tryz.underlying5 cellsU8 hf with ⟨rfl, _⟩ | ⟨x, len, cap, zs, rfl, _, hl, hm, hz, rfl, hcell, hwz⟩
  · exact ⟨none, 0, 0, [], rfl, rfl, by omega, by omega, by simp, 0, 0, fun h => by omega, fun h => by omega, fun i hi => by omega⟩
  · obtain ⟨B, rfl, hB⟩ := bytes_of zs hwz
    have hr := hr ((lits .u8 ((B.map (fun (x : Nat) => (x : Int))).take len)).length + (lits (H := H) .u8 ((B.map (fun (x : Nat) => (x : Int))).drop len)).length) (by
      simp only [DataW.weights, Tryz.underlying36, bytesU8, Nat.mul_one]
      exact List.mem_cons_self ..)
    simp only [lits, List.length_map, List.length_take, List.length_drop, reachBytes] at hr
    have hzl : B.length = cap := by simpa using hz
    by_cases hp : 0 < len
    · obtain ⟨b, off, spot⟩ := x
      have hspot : spot = none := by simpa [Addr.add] using World.cell?_spot (hcell 0 (by simp; omega))
      subst hspot
      have hbW : b < W.heap.size := hlt (.cell b off) (MemPlace.mem_row.2 ⟨0, by simp; omega, by simp⟩)
      refine ⟨_, len, cap, B.take len, rfl, by simp; omega, hl, by omega, fun x hx => hB x (List.mem_of_mem_take hx), b, off, fun _ => rfl, fun _ => hbW, fun i hi => ?_⟩
      have hci := hcell i (by simp; omega)
      rw [add_plain] at hci
      rw [hci, List.getD_eq_getElem?_getD, List.getD_eq_getElem?_getD, List.getElem?_map, List.getElem?_take, if_pos hi, List.getElem?_eq_getElem (by omega)]
      rfl
    · obtain rfl : len = 0 := by omega
      exact ⟨_, 0, cap, [], rfl, rfl, by omega, by omega, by simp, 0, 0, fun h => by omega, fun h => by omega, fun i hi => by omega⟩

end Go.Proofs.YtiijbboigebhcaaGreatDoor
namespace Go.Proofs.YtiijbboigebhcaaGreatDoor
open Go.ChangeShapes Go.WideShapes Go.ChangeAt Go.RowKit Go.Deep

theorem Fl.Ok.next {lim : Nat} {w w' : World} {f : Fl} {row : Option Nat} (h : f.Ok lim w) (hg : w.grownBy w' row) (hr : ∀ g, row = some g → lim ≤ g) : f.Ok lim w' :=
  ⟨h.hN, h.hK1, h.hK2, h.hI1, h.hI2, h.hM1, h.hM2, h.hB.kept hg hr, h.hS⟩

/-- The fields as they lie, one behind the other. -/
structure Fls (lim : Nat) (w : World) (b off : Nat) (fs : List Fl) : Prop where
  ok : ∀ f ∈ fs, f.Ok lim w
  at_ : ∀ i f, fs[i]? = some f → ∀ j v, f.cells[j]? = some v → w.cell? ⟨b, off + i * 6 + j, none⟩ = some v
theorem Fls.next {lim : Nat} {w w' : World} {b off : Nat} {fs : List Fl} {row : Option Nat} (h : Fls lim w b off fs) (hb : b < lim) (hg : w.grownBy w' row) (hr : ∀ g, row = some g → lim ≤ g) : Fls lim w' b off fs :=
  ⟨fun f hf => (h.ok f hf).next hg hr, fun i f hi j v hj => hg.cell (h.at_ i f hi j v hj) (fun e => by have := hr b e.symm; omega)⟩

instance : Inhabited Fl := ⟨⟨0, 0, 0, none, 0, 0, [], ByteArray.empty, 0⟩⟩
end Go.Proofs.YtiijbboigebhcaaGreatDoor
namespace Go.Proofs.YtiijbboigebhcaaGreatDoor
open Go.RowKit Crc

/-- What lay below base is kept. -/
def KeepW (base : Nat) (w w' : World) : Prop := ∀ W, Below base W w → Below base W w'
theorem KeepW.trans {base : Nat} {a b c : World} (h : KeepW base a b) (k : KeepW base b c) : KeepW base a c := fun W hW => k W (h W hW)

theorem Owns.keepAt {base : Nat} {w w' : World} {v : Value} {B : List Nat} (h : Owns base w v B) (hk : ∀ g, v.ownBlock = some g → w'.heap[g]? = w.heap[g]?) : Owns base w' v B := by
  obtain ⟨⟨h1, h2⟩, h3, h4⟩ := h
  refine ⟨⟨h1, ?_⟩, h3, h4⟩
  rcases h2 with h2 | ⟨g, cap, cur, hv, hbg, hg, hr⟩
  · exact .inl h2
  · exact .inr ⟨g, cap, cur, hv, hbg, (hk g (by rw [hv]; rfl)).trans hg, hr⟩
theorem cell_keepAt {w w' : World} {p j : Nat} (h : w'.heap[p]? = w.heap[p]?) : w'.cell? ⟨p, j, none⟩ = w.cell? ⟨p, j, none⟩ := by simp [World.cell?, h]
theorem Foot.keepAt {w w' : World} {p j k : Nat} (h : w'.heap[p]? = w.heap[p]?) : Foot w' p j k ↔ Foot w p j k := by unfold Foot; rw [cell_keepAt h]
theorem WrS.keepAt {base p : Nat} {w w' : World} {s : WS} (h : WrS base w p s) (hk : ∀ k, Foot w p 4 k → w'.heap[k]? = w.heap[k]?) : WrS base w' p s := by
  obtain ⟨v, hb, hO, hne⟩ := h
  have c4 := block_cell hb 4
  simp at c4
  exact ⟨v, (hk p (.inl rfl)).trans hb, hO.keepAt (fun g hg => hk g (.inr ⟨v, c4, hg⟩)), hne⟩
theorem owns_lt {base : Nat} {w : World} {v : Value} {B : List Nat} (h : Owns base w v B) : ∀ g, v.ownBlock = some g → g < w.heap.size := by
  intro g hg
  obtain ⟨a0, c0, rfl, _, (⟨rfl, _⟩ | ⟨g', rfl, hb, hl⟩)⟩ := h.form
  · cases hg
  · have : g' = g := by simpa [Value.ownBlock] using hg
    omega
theorem WrS.foot {base p : Nat} {w : World} {s : WS} (h : WrS base w p s) (hp : base ≤ p) {k : Nat} (hk : Foot w p 4 k) : base ≤ k ∧ k < w.heap.size := by
  obtain ⟨v, hb, hO, hne⟩ := h
  rcases hk with rfl | ⟨u, hu, hg⟩
  · exact ⟨hp, block_lt hb⟩
  · have c4 := block_cell hb 4
    rw [hu] at c4
    simp at c4
    subst c4
    exact ⟨ownx_far hO k hg, owns_lt hO k hg⟩
/-- The blocks of the program's writer, nil or not. -/
def FootP (w : World) (po : Option Addr) (k : Nat) : Prop := ∃ p, po = some ⟨p, 0, none⟩ ∧ Foot w p 4 k
theorem WrP.keepAt {base : Nat} {w w' : World} {po : Option Addr} {s : WS} (h : WrP base w po s) (hk : ∀ k, FootP w po k → w'.heap[k]? = w.heap[k]?) : WrP base w' po s := by
  rcases h with h | ⟨p, rfl, h⟩
  · exact .inl h
  · exact .inr ⟨p, rfl, h.keepAt (fun k hf => hk k ⟨p, rfl, hf⟩)⟩
theorem FootP.keepAt {w w' : World} {po : Option Addr} {k : Nat} (hk : ∀ k, FootP w po k → w'.heap[k]? = w.heap[k]?) : FootP w' po k ↔ FootP w po k := by
  constructor
  · rintro ⟨p, rfl, h⟩
    exact ⟨p, rfl, (Foot.keepAt (hk p ⟨p, rfl, .inl rfl⟩)).1 h⟩
  · rintro ⟨p, rfl, h⟩
    exact ⟨p, rfl, (Foot.keepAt (hk p ⟨p, rfl, .inl rfl⟩)).2 h⟩
theorem WS.put_place {s : WS} (h : s.sound → s.place = 0) (F : List Nat) (y : Int) : (s.put F y).sound → (s.put F y).place = 0 := by
  unfold WS.put
  split
  · rename_i hs
    split
    · rename_i hy; intro h2; exact absurd h2.2 hy
    · split
      · intro h2; cases h2.2
      · intro _; exact h hs
  · exact h
end Go.Proofs.YtiijbboigebhcaaGreatDoor
namespace Go.Proofs.YtiijbboigebhcaaGreatDoor
open Go.RowKit Crc

end Go.Proofs.YtiijbboigebhcaaGreatDoor
namespace Go.Proofs.YtiijbboigebhcaaGreatDoor
open Go.RowKit Crc

theorem KeepW.below {base : Nat} {w w' : World} (h : KeepW base w w') : Below base w w' := h w (Below.refl _ _)
theorem Shows.belowB {base : Nat} {w w' : World} {ao : Option Addr} {n cap : Nat} {B : List Nat} (h : Shows base w ao n cap B) (hb : Below base w w') : Shows base w' ao n cap B := by
  obtain ⟨h1, h2, h3, h4, b, off, h5, h6, h7⟩ := h
  refine ⟨h1, h2, h3, h4, b, off, h5, h6, fun i hi => ?_⟩
  rw [← h7 i hi]
  exact hb.cell (p := ⟨b, off + i, none⟩) (h6 (by omega))
theorem Lent.keepAt {w w' : World} {gc n : Nat} {B : List Nat} (h : Lent w gc n B) (hk : w'.heap[gc]? = w.heap[gc]?) : Lent w' gc n B := by
  obtain ⟨h0, h1, h2⟩ := h
  refine ⟨h0, h1, ?_⟩
  rcases h2 with h2 | ⟨g, cap, cur, hv, hbg, hg, hr⟩
  · exact .inl h2
  · have e : g = gc := by
      simp only [Value.slice.injEq, Option.some.injEq, Addr.mk.injEq, and_true] at hv
      exact hv.1.symm
    exact .inr ⟨g, cap, cur, hv, hbg, (by rw [e] at hg ⊢; exact hk.trans hg), hr⟩
theorem Lent.ownsW {w : World} {gc n : Nat} {B : List Nat} (h : Lent w gc n B) (hB : ∀ x ∈ B, x < 256) (hl : n ≤ 140737488355328) : Owns gc w (.slice (some ⟨gc, 0, none⟩) n (n + 4)) B := by
  obtain ⟨h1, h2, h3⟩ := h
  subst h1
  rcases h3 with ⟨h4, _⟩ | ⟨g, cap, cur, hv, hbg, hg, hnc, hcm, hcs, htake⟩
  · cases h4
  · simp only [Value.slice.injEq, Option.some.injEq, Addr.mk.injEq, and_true, true_and] at hv
    obtain ⟨rfl, rfl⟩ := hv
    refine ⟨⟨by simp [vals], .inr ⟨gc, B.length + 4, cur, rfl, hbg, hg, by omega, hcm, hcs, ?_⟩⟩, hB, hl⟩
    have h5 : cur.toList.take (B.length * 1) = (cur.toList.take ((B.length + 4) * 1)).take (B.length * 1) := by
      rw [List.take_take]
      congr 1
      omega
    rw [h5, htake]
    unfold vals
    rw [List.map_append, List.take_left' (by simp)]

end Go.Proofs.YtiijbboigebhcaaGreatDoor
namespace Go.Proofs.YtiijbboigebhcaaGreatDoor
open Go.RowKit Crc

theorem WS.shown_len {s : WS} (h : s.Inv) : s.shown.length ≤ 65507 := by
  unfold WS.shown
  split
  · rename_i hs
    have := h hs.1
    omega
  · simp

end Go.Proofs.YtiijbboigebhcaaGreatDoor
namespace Go.Proofs.YtiijbboigebhcaaGreatDoor
open Go.RowKit Crc

/-- A field with the reach's own bounds. -/
structure Fl.Okx (base : Nat) (w : World) (f : Fl) : Prop where
  ok : f.Ok base w
  hbn : f.bn ≤ 140737488351232
  hSn : f.S.size ≤ 140737488351232
end Go.Proofs.YtiijbboigebhcaaGreatDoor
namespace Go.Proofs.YtiijbboigebhcaaGreatDoor
open Go.RowKit Crc

def clampW (m : Int) : Int := if m < 0 then 0 else if 65507 < m then 65507 else m
def wNew (m : Int) : Obj := .cells #[.bool true, .int .i64 0, .int .i64 0, .int .i64 (clampW m), .slice none 0 0] 123 (0, 0)
def wZero : Obj := .cells #[.bool false, .int .i64 0, .int .i64 0, .int .i64 0, .slice none 0 0] 123 (0, 0)
set_option maxRecDepth 10000 in
set_option maxHeartbeats 400000 in
theorem newWriter_any (m : Int) (w : World) :
    Calls Tryz.prog 20 #[.int .i64 m] w fun e w' => e = .returned (.pointer (some ⟨w.heap.size, 0, none⟩)) ∧ w' = w.alloc (wNew m) := by
  by_cases h0 : m < 0
  · have HC : Hid (clampW m = 0) := by unfold clampW; rw [if_pos h0]; rfl
    unfold wNew
    rw [HC.out]
    have d0 : decide (m < 0) = true := by simp [h0]
    have d1 : decide (0 < m) = false := by simp; omega
    have d2 : max m 0 = 0 := by omega
    go_enter Tryz.func20, Tryz.ntmps20
    go_wp2
    go_ret
    exact ⟨rfl, rfl⟩
  · by_cases h1 : 65507 < m
    · have HC : Hid (clampW m = 65507) := by unfold clampW; rw [if_neg h0, if_pos h1]; rfl
      unfold wNew
      rw [HC.out]
      have d0 : decide (m < 0) = false := by simp; omega
      have d1 : decide (0 < m) = true := by simp; omega
      have d2 : max m 0 = m := by omega
      have d3 : decide (65507 < m) = true := by simp; omega
      have d4 : decide (m < 65507) = false := by simp; omega
      go_enter Tryz.func20, Tryz.ntmps20
      go_wp2
      go_ret
      exact ⟨rfl, rfl⟩
    · have HC : Hid (clampW m = m) := by unfold clampW; rw [if_neg h0, if_neg h1]; rfl
      unfold wNew
      rw [HC.out]
      have d0 : decide (m < 0) = false := by simp; omega
      have d3 : decide (65507 < m) = false := by simp; omega
      go_enter Tryz.func20, Tryz.ntmps20
      go_wp2
      go_ret
      exact ⟨rfl, rfl⟩

theorem clampW_le (m : Int) : 0 ≤ clampW m ∧ clampW m ≤ 65507 := by
  unfold clampW
  split
  · omega
  · split <;> omega
theorem foot_plain {w : World} {p j k : Nat} (hc : w.cell? ⟨p, j, none⟩ = some (.slice none 0 0)) (h : Foot w p j k) : k = p := by
  rcases h with h | ⟨u, hu, hg⟩
  · exact h
  · rw [hc] at hu
    cases hu
    cases hg
theorem Fl.Ok.belowB {base : Nat} {w w' : World} {f : Fl} (h : f.Ok base w) (hb : Below base w w') : f.Ok base w' := ⟨h.hN, h.hK1, h.hK2, h.hI1, h.hI2, h.hM1, h.hM2, h.hB.belowB hb, h.hS⟩

end Go.Proofs.YtiijbboigebhcaaGreatDoor
namespace Go.Proofs.YtiijbboigebhcaaGreatDoor
open Go.RowKit Crc

/-- A writer in memory, in its state. -/
structure Wk (base p : Nat) (s : WS) (W : World) : Prop where
  wr : WrP base W (some ⟨p, 0, none⟩) s
  inv : s.Inv
  bs : base ≤ W.heap.size
  pb : p < base
  pl : s.sound → s.place = 0
theorem Tch.then_ {j p : Nat} {a b c : World} (h : Tch j a b p) (k : Tch j b c p) : Tch j a c p :=
  ⟨k.os.trans h.os, k.tape.trans h.tape, k.output.trans h.output, Nat.le_trans h.size k.size,
   fun n hn hf => (k.keep n (Nat.lt_of_lt_of_le hn h.size) (fun e => (h.foot n e).elim hf (fun e => by omega))).trans (h.keep n hn hf),
   fun n hn => (k.foot n hn).elim (h.foot n) (fun e => .inr (Nat.le_trans h.size e))⟩
/-- The writer behind some steps from a world on. -/
structure Wa (base p : Nat) (w : World) (s : WS) (W : World) : Prop where
  k : Wk base p s W
  t : Tch 4 w W p
theorem Wa.start {base p : Nat} {w : World} {s : WS} (h : Wk base p s w) : Wa base p w s w := ⟨h, Tch.refl _ _ _⟩
theorem Wa.trans {base p : Nat} {w W W' : World} {s s' : WS} (h : Wa base p w s W) (k : Wa base p W s' W') : Wa base p w s' W' := ⟨k.k, h.t.then_ k.t⟩
theorem Wk.block {base p : Nat} {s : WS} {W : World} (h : Wk base p s W) : ∃ v, W.cell? ⟨p, 4, none⟩ = some v ∧ p < W.heap.size ∧ ∀ g, v.ownBlock = some g → base ≤ g ∧ g < W.heap.size := by
  rcases h.wr with ⟨e, _⟩ | ⟨p', e, v, hv, ho, hne⟩
  · cases e
  cases e
  exact ⟨v, by rw [block_cell hv 4]; simp, block_lt hv, fun g e => ho.1.lt g e⟩
theorem Wk.foot {base p k : Nat} {s : WS} {W : World} (h : Wk base p s W) (hf : Foot W p 4 k) : p ≤ k ∧ k < W.heap.size := by
  obtain ⟨v, hv, hp, hl⟩ := h.block
  rcases hf with rfl | ⟨u, hu, e⟩
  · exact ⟨Nat.le_refl _, hp⟩
  · rw [hv] at hu
    cases hu
    have := hl k e
    have := h.pb
    omega
theorem Wk.lt {base p : Nat} {s : WS} {W : World} (h : Wk base p s W) : p < W.heap.size := (h.foot (.inl rfl)).2
theorem Wk.quiet {base p : Nat} {s : WS} {W W' : World} (h : Wk base p s W) (hb : Below W.heap.size W W') : Wk base p s W' := ⟨h.wr.below hb, h.inv, Nat.le_trans h.bs hb.size, h.pb, h.pl⟩
theorem Wa.quiet {base p : Nat} {w W W' : World} {s : WS} (h : Wa base p w s W) (hb : Below W.heap.size W W') : Wa base p w s W' := ⟨h.k.quiet hb, h.t.then_ (Tch.from hb h.k.lt (Tch.refl _ _ _))⟩
theorem Wa.alloc {base p : Nat} {w W : World} {s : WS} (h : Wa base p w s W) (o : Obj) : Wa base p w s (W.alloc o) := h.quiet ((Below.refl _ W).alloc (Nat.le_refl _) o)
/-- What lies below the writer is as it was. -/
theorem Wa.below {base p : Nat} {w W : World} {s s' : WS} (h : Wk base p s w) (k : Wa base p w s' W) : Below p w W :=
  ⟨k.t.os, k.t.tape, k.t.output, k.t.size, fun n hn => k.t.keep n (Nat.lt_trans hn h.lt) (fun e => by have := (h.foot e).1; omega)⟩
/-- What is new is none of the writer's, as long as nobody gives it to the writer. -/
theorem Wk.fresh {base p : Nat} {s : WS} {w : World} (h : Wk base p s w) (o : Obj) : ¬ Foot (w.alloc o) p 4 w.heap.size := fun hf => by
  have := ((Foot.old ((Below.refl _ w).alloc (Nat.le_refl _) o) h.lt).1 hf)
  have := (h.foot this).2
  omega
theorem Wk.box {base p : Nat} {s s' : WS} {w W : World} {o : Array Value} {e : TypeId} (h : Wk base p s w) (k : Wa base p (w.alloc (.cells o e)) s' W) : W.heap[w.heap.size]? = some (.cells o e (0, 0)) :=
  (k.t.keep _ (by simp) (h.fresh _)).trans (alloc_atN _ _)
theorem Wk.from_ {base p : Nat} {s s' : WS} {w W : World} {o : Obj} (h : Wk base p s w) (k : Wa base p (w.alloc o) s' W) : Wa base p w s' W := ((Wa.start h).alloc o).trans k
theorem Wk.put {base p : Nat} {s : WS} {W W' : World} {F : List Nat} {y : Int} (h : Wk base p s W) (k : WrP base W' (some ⟨p, 0, none⟩) (s.put F y) ∧ TchP W W' (some ⟨p, 0, none⟩)) : Wa base p W (s.put F y) W' := by
  rcases k.2 with ⟨e, _⟩ | ⟨p', e, ht⟩
  · cases e
  cases e
  exact ⟨⟨k.1, WS.put_inv h.inv F y, Nat.le_trans h.bs ht.size, h.pb, WS.put_place h.pl F y⟩, ht⟩
/-- The fields. -/
def lN (s : WS) (v : Nat) : WS := s.put (numB v) 0
def lNs (s : WS) (L : List Nat) : WS := L.foldl lN s
def lO (s : WS) (v : Nat) : WS := s.put (big v 1) 0
def lC (s : WS) (n : Nat) (m : Nat) : WS := s.put (numB n) (cntY n m)
def lB (s : WS) (B : List Nat) (m : Nat) : WS := s.put (numB B.length ++ B) (cntY B.length m)
def u64 : Nat := 18446744073709551616
theorem num_w {base p : Nat} {w W : World} {s : WS} (h : Wa base p w s W) (v : Nat) (hv : v < u64) : Calls Tryz.prog 98 #[.pointer (some ⟨p, 0, none⟩), .int .u64 (v : Int)] W fun e W' => e = .returned (.tuple #[]) ∧ Hid (Wa base p w (lN s v) W') :=
  (wNumP h.k.wr h.k.inv h.k.bs v _ rfl hv).mono fun _ _ ⟨e, G⟩ => ⟨e, h.trans (h.k.put G.out)⟩
theorem u8_w {base p : Nat} {w W : World} {s : WS} (h : Wa base p w s W) (v : Nat) (vi : Int) (hvi : vi = (v : Int)) (hv : v < 256) : Calls Tryz.prog 22 #[.pointer (some ⟨p, 0, none⟩), .int .u8 vi] W fun e W' => e = .returned (.tuple #[]) ∧ Hid (Wa base p w (lO s v) W') :=
  (wU8P h.k.wr h.k.inv h.k.bs v vi hvi hv).mono fun _ _ ⟨e, G⟩ => ⟨e, h.trans (h.k.put G.out)⟩
theorem count_w {base p : Nat} {w W : World} {s : WS} (h : Wa base p w s W) (n m : Nat) (hn : n ≤ 1000) : Calls Tryz.prog 105 #[.pointer (some ⟨p, 0, none⟩), .int .i64 (n : Int), .int .i64 (m : Int)] W fun e W' => e = .returned (.tuple #[]) ∧ Hid (Wa base p w (lC s n m) W') :=
  (wCountP h.k.wr h.k.inv h.k.bs n m (by omega) (by omega)).mono fun _ _ ⟨e, G⟩ => ⟨e, h.trans (h.k.put G.out)⟩
theorem blob_w {base p blim : Nat} {w W : World} {s : WS} (h : Wa base p w s W) (bo : Option Addr) (n bcap : Nat) (B : List Nat) (m : Nat) (hS : Shows blim W bo n bcap B) (hb : ∀ b off, bo = some ⟨b, off, none⟩ → ¬ Foot W p 4 b) : Calls Tryz.prog 106 #[.pointer (some ⟨p, 0, none⟩), .slice bo n bcap, .int .i64 (m : Int)] W fun e W' => e = .returned (.tuple #[]) ∧ Hid (Wa base p w (lB s B m) W') := by
  refine (wBlobP h.k.wr h.k.inv h.k.bs bo n bcap B m hS ?_).mono ?_
  · intro p' u g e hu hg b off e2 e3
    cases e
    subst e3
    exact hb b off e2 (.inr ⟨u, hu, hg⟩)
  · rintro e W' ⟨rfl, G⟩
    refine ⟨rfl, h.trans ?_⟩
    unfold lB
    rw [← hS.1]
    exact h.k.put G.out
end Go.Proofs.YtiijbboigebhcaaGreatDoor
namespace Go.Proofs.YtiijbboigebhcaaGreatDoor
open Go.RowKit Crc

/-- From one state to another these bytes are laid down, if there is room. -/
def Lays (s s' : WS) (F : List Nat) : Prop := s.sound → ((s.L.length + F.length : Nat) : Int) ≤ s.most → s' = { s with L := s.L ++ F }
theorem Lays.nil (s : WS) : Lays s s [] := fun _ _ => by simp
theorem Lays.then_ {s s1 s2 : WS} {F G : List Nat} (h : Lays s s1 F) (k : Lays s1 s2 G) : Lays s s2 (F ++ G) := fun hs hm => by
  rw [List.length_append] at hm
  have e := h hs (by omega)
  subst e
  have e2 := k hs (by simp only [List.length_append]; omega)
  rw [e2, List.append_assoc]
theorem Lays.put (s : WS) (F : List Nat) : Lays s (s.put F 0) F := fun hs hm => WS.put_takes ⟨hs, rfl, hm⟩
theorem Lays.fold {α : Type} {f : WS → α → WS} {e : α → List Nat} : ∀ (L : List α), (∀ x ∈ L, ∀ s, Lays s (f s x) (e x)) → ∀ s, Lays s (L.foldl f s) (L.flatMap e)
  | [], _, s => Lays.nil s
  | x :: r, h, s => by
    rw [List.foldl_cons, List.flatMap_cons]
    exact (h x (List.mem_cons_self ..) s).then_ (Lays.fold r (fun y hy => h y (List.mem_cons_of_mem _ hy)) _)
def eNs (L : List Nat) : List Nat := L.flatMap numB
theorem lays_N (s : WS) (v : Nat) : Lays s (lN s v) (numB v) := Lays.put s _
theorem lays_Ns (s : WS) (L : List Nat) : Lays s (lNs s L) (eNs L) := Lays.fold L (fun x _ s => lays_N s x) s
theorem lays_O (s : WS) (v : Nat) : Lays s (lO s v) (big v 1) := Lays.put s _
theorem cntY_ok {n m : Nat} (h : n ≤ m) : cntY n m = 0 := by unfold cntY; rw [if_neg (by omega)]
theorem lays_C (s : WS) {n m : Nat} (h : n ≤ m) : Lays s (lC s n m) (numB n) := by unfold lC; rw [cntY_ok h]; exact Lays.put s _
theorem lays_B (s : WS) {B : List Nat} {m : Nat} (h : B.length ≤ m) : Lays s (lB s B m) (numB B.length ++ B) := by unfold lB; rw [cntY_ok h]; exact Lays.put s _
/-- The parts. -/
def lAc (s : WS) (x : Ac) : WS := lNs s [x.a, x.b, x.c, x.d]
def lHo (s : WS) (x : Ho) : WS := lNs s [x.a, x.b, x.c]
def lEn (s : WS) (x : En) : WS := lNs (lO (lN s x.a) x.k.toNat) [x.b, x.c, x.d]
def lDe (s : WS) (x : De) : WS := lB (lNs (lO (lNs s [x.a, x.b, x.c, x.d, x.e, x.f, x.g]) x.ph.toNat) [x.p, x.q, x.r, x.z]) (strB x.t) 512
def lSn (s : WS) (x : Sn) : WS := lB (lNs s [x.cl, x.sq, x.st, x.cd.toNat]) x.D 256
def lLs {α : Type} (f : WS → α → WS) (m : Nat) (s : WS) (L : List α) : WS := L.foldl f (lC s L.length m)
def eAc (x : Ac) : List Nat := eNs [x.a, x.b, x.c, x.d]
def eHo (x : Ho) : List Nat := eNs [x.a, x.b, x.c]
def eEn (x : En) : List Nat := numB x.a ++ big x.k.toNat 1 ++ eNs [x.b, x.c, x.d]
def eDe (x : De) : List Nat := eNs [x.a, x.b, x.c, x.d, x.e, x.f, x.g] ++ big x.ph.toNat 1 ++ eNs [x.p, x.q, x.r, x.z] ++ (numB x.t.size ++ strB x.t)
def eSn (x : Sn) : List Nat := eNs [x.cl, x.sq, x.st, x.cd.toNat] ++ (numB x.D.length ++ x.D)
def eLs {α : Type} (e : α → List Nat) (L : List α) : List Nat := numB L.length ++ L.flatMap e
theorem lays_Ac (s : WS) (x : Ac) : Lays s (lAc s x) (eAc x) := lays_Ns _ _
theorem lays_Ho (s : WS) (x : Ho) : Lays s (lHo s x) (eHo x) := lays_Ns _ _
theorem lays_En (s : WS) (x : En) : Lays s (lEn s x) (eEn x) := ((lays_N s _).then_ (lays_O _ _)).then_ (lays_Ns _ _)
theorem lays_De (s : WS) (x : De) (h : x.t.size ≤ 512) : Lays s (lDe s x) (eDe x) := by
  have q := lays_B (lNs (lO (lNs s [x.a, x.b, x.c, x.d, x.e, x.f, x.g]) x.ph.toNat) [x.p, x.q, x.r, x.z]) (B := strB x.t) (m := 512) (by rw [strB_len]; exact h)
  rw [strB_len] at q
  exact (((lays_Ns s _).then_ (lays_O _ _)).then_ (lays_Ns _ _)).then_ q
theorem lays_Sn (s : WS) (x : Sn) (h : x.D.length ≤ 256) : Lays s (lSn s x) (eSn x) := (lays_Ns s _).then_ (lays_B _ h)
theorem lays_Ls {α : Type} {f : WS → α → WS} {e : α → List Nat} {m : Nat} (s : WS) (L : List α) (hl : L.length ≤ m) (h : ∀ x ∈ L, ∀ s, Lays s (f s x) (e x)) : Lays s (lLs f m s L) (eLs e L) := (lays_C s hl).then_ (Lays.fold L h _)
def lBk (s : WS) (tot nx : Nat) (A : List Ac) (H : List Ho) (J : List En) : WS := lLs lEn 64 (lLs lHo 64 (lLs lAc 64 (lNs s [tot, nx]) A) H) J
def eBk (tot nx : Nat) (A : List Ac) (H : List Ho) (J : List En) : List Nat := eNs [tot, nx] ++ eLs eAc A ++ eLs eHo H ++ eLs eEn J
def Mi.lay (m : Mi) (s : WS) : WS := lLs lSn 16 (lLs lDe 32 (lNs (lBk (lNs s [m.slot, m.now]) m.tot m.nx m.A m.H m.J) [m.ends]) m.D) m.S
def Mi.enc (m : Mi) : List Nat := eNs [m.slot, m.now] ++ eBk m.tot m.nx m.A m.H m.J ++ eNs [m.ends] ++ eLs eDe m.D ++ eLs eSn m.S
/-- What well-formed images keep of their lists. -/
structure Mi.Fit (m : Mi) : Prop where
  a : m.A.length ≤ 64
  h : m.H.length ≤ 64
  j : m.J.length ≤ 64
  d : m.D.length ≤ 32
  s : m.S.length ≤ 16
  t : ∀ x ∈ m.D, x.t.size ≤ 512
  u : ∀ x ∈ m.S, x.D.length ≤ 256
theorem lays_Im (m : Mi) (h : m.Fit) (s : WS) : Lays s (m.lay s) m.enc :=
  ((((lays_Ns s _).then_ ((((lays_Ns _ _).then_ (lays_Ls _ _ h.a (fun x _ s => lays_Ac s x))).then_ (lays_Ls _ _ h.h (fun x _ s => lays_Ho s x))).then_ (lays_Ls _ _ h.j (fun x _ s => lays_En s x)))).then_ (lays_Ns _ _)).then_ (lays_Ls _ _ h.d (fun x hx s => lays_De s x (h.t x hx)))).then_ (lays_Ls _ _ h.s (fun x hx s => lays_Sn s x (h.u x hx)))
theorem numB_ten (n : Nat) : (numB n).length ≤ 10 := by
  have : ∀ k n, (numTo k n).length ≤ k + 1 := by
    intro k
    induction k with
    | zero => intro n; simp [numTo]
    | succ k ih =>
      intro n
      unfold numTo
      split
      · simp
      · have := ih (n / 128); simp only [List.length_cons]; omega
  exact this 9 n
theorem eNs_len (L : List Nat) : (eNs L).length ≤ 10 * L.length := by
  induction L with
  | nil => simp [eNs]
  | cons x r ih =>
    have := numB_ten x
    simp only [eNs, List.flatMap_cons, List.length_append, List.length_cons] at *
    omega
theorem flatMap_le {α : Type} {e : α → List Nat} {c : Nat} : ∀ (L : List α), (∀ x ∈ L, (e x).length ≤ c) → (L.flatMap e).length ≤ c * L.length
  | [], _ => by simp
  | x :: r, h => by
    have := flatMap_le r (fun y hy => h y (List.mem_cons_of_mem _ hy))
    have := h x (List.mem_cons_self ..)
    rw [List.flatMap_cons, List.length_append, List.length_cons, Nat.mul_succ]
    omega
theorem eLs_le {α : Type} {e : α → List Nat} {c m : Nat} (L : List α) (hl : L.length ≤ m) (h : ∀ x ∈ L, (e x).length ≤ c) : (eLs e L).length ≤ 10 + c * m := by
  have h1 := flatMap_le L h
  have h2 := numB_ten L.length
  have h3 : c * L.length ≤ c * m := Nat.mul_le_mul_left _ hl
  unfold eLs
  rw [List.length_append]
  omega
theorem eAc_le (x : Ac) : (eAc x).length ≤ 40 := eNs_len _
theorem eHo_le (x : Ho) : (eHo x).length ≤ 30 := eNs_len _
theorem eEn_le (x : En) : (eEn x).length ≤ 41 := by
  have h1 := eNs_len [x.b, x.c, x.d]
  have h2 := numB_ten x.a
  have h3 := big_length x.k.toNat 1
  unfold eEn
  simp only [List.length_append, List.length_cons, List.length_nil] at *
  omega
theorem eDe_le (x : De) (h : x.t.size ≤ 512) : (eDe x).length ≤ 633 := by
  have h1 := eNs_len [x.a, x.b, x.c, x.d, x.e, x.f, x.g]
  have h2 := eNs_len [x.p, x.q, x.r, x.z]
  have h3 := big_length x.ph.toNat 1
  have h4 := numB_ten x.t.size
  have h5 := strB_len x.t
  unfold eDe
  simp only [List.length_append, List.length_cons, List.length_nil] at *
  omega
theorem eSn_le (x : Sn) (h : x.D.length ≤ 256) : (eSn x).length ≤ 306 := by
  have h1 := eNs_len [x.cl, x.sq, x.st, x.cd.toNat]
  have h4 := numB_ten x.D.length
  unfold eSn
  simp only [List.length_append, List.length_cons, List.length_nil] at *
  omega
theorem enc_le (m : Mi) (h : m.Fit) : m.enc.length ≤ 39000 := by
  have h1 := eNs_len [m.slot, m.now]
  have h2 := eNs_len [m.tot, m.nx]
  have h3 := eNs_len [m.ends]
  have h4 := eLs_le m.A h.a (fun x _ => eAc_le x)
  have h5 := eLs_le m.H h.h (fun x _ => eHo_le x)
  have h6 := eLs_le m.J h.j (fun x _ => eEn_le x)
  have h7 := eLs_le m.D h.d (fun x hx => eDe_le x (h.t x hx))
  have h8 := eLs_le m.S h.s (fun x hx => eSn_le x (h.u x hx))
  unfold Mi.enc eBk
  simp only [List.length_append, List.length_cons, List.length_nil] at *
  omega
end Go.Proofs.YtiijbboigebhcaaGreatDoor
namespace Go.Proofs.YtiijbboigebhcaaGreatDoor
open Go.RowKit Crc

/-- Numbers in a row. -/
def nvs (L : List Nat) : List Value := L.map fun (v : Nat) => .int .u64 (v : Int)
theorem nvs_at {L : List Nat} {i v : Nat} (h : L[i]? = some v) : (nvs L)[i]? = some (.int .u64 (v : Int)) := by simp [nvs, h]
set_option maxRecDepth 10000 in
set_option maxHeartbeats 800000 in
theorem layNums_any {base p g n : Nat} {w W : World} {s : WS} (h : Wa base p w s W) (L : List Nat) (hL : ∀ v ∈ L, v < u64) (hn : L.length = n) (hn2 : n ≤ 1000) (hg : W.heap[g]? = some (.cells (nvs L).toArray 22 (0, 0))) (hf : ¬ Foot W p 4 g) : Calls Tryz.prog 57 #[.pointer (some ⟨p, 0, none⟩), .slice (some ⟨g, 0, none⟩) n n] W fun e W' => e = .returned (.tuple #[]) ∧ Hid (Wa base p w (lNs s L) W') := by
  have H0 := hide (Wa.start h.k)
  have HT := hide h
  have HLV := hide hL
  have HLN := hide hn
  have HG : Hid (∀ s' V, Wa base p W s' V → V.heap[g]? = some (.cells (nvs L).toArray 22 (0, 0))) := fun s' V hv => (hv.t.keep g (block_lt hg) hf).trans hg
  have HFI : Hid (∀ V, Wa base p W (lNs s (L.take n)) V → Wa base p w (lNs s L) V) := fun V hv => by
    rw [List.take_of_length_le (by omega)] at hv
    exact h.trans hv
  clear h hg hf hL hn
  go_enter Tryz.func57, Tryz.ntmps57
  go_wp2
  go_loopw [8] (fun i wr => ∃ k : Nat, k ≤ n ∧ i = .int .i64 k ∧ Hid (Wa base p W (lNs s (L.take k)) wr)) (fun i _ => n - (intOf i).toNat)
  case atStart => exact ⟨0, by omega, rfl, H0.out⟩
  case round =>
    obtain ⟨k, hk, rfl, HS⟩ := hrel
    by_cases hlt : k < n
    · obtain ⟨v, hv⟩ : ∃ v, L[k]? = some v := ⟨_, List.getElem?_eq_getElem (by rw [HLN.out]; exact hlt)⟩
      have q := HG.out _ _ HS.out
      have c0 : wr.cell? ⟨g, k, none⟩ = some (.int .u64 (v : Int)) := by rw [block_cell q]; simpa using nvs_at hv
      have hgw := block_lt q
      have HN := hide (num_w HS.out v (HLV.out v (List.mem_of_getElem? hv)))
      have HX : Hid (∀ V, Wa base p W (lN (lNs s (L.take k)) v) V → Wa base p W (lNs s (L.take (k + 1))) V) := fun V h => by
        rw [List.take_add_one, hv]
        simpa [lNs] using h
      clear q hv
      go_wp2_with fail
      refine HN.out.mono ?_
      rintro e w2 ⟨rfl, G⟩
      go_wp2
      go_roundw
      case rel => exact ⟨k + 1, by omega, by go_num, HX.out _ G.out⟩
      case measure => simp [intOf]; omega
    · obtain rfl : k = n := by omega
      go_wp2
      go_end0
      exact ⟨rfl, HFI.out _ HS.out⟩
theorem nums_new {base p g n : Nat} {w W : World} {s : WS} (h : Wa base p w s W) (L : List Nat) (hL : ∀ v ∈ L, v < u64) (hn : L.length = n) (hn2 : n ≤ 1000) {o : Array Value} (ho : o = (nvs L).toArray) (hg : g = W.heap.size) : Calls Tryz.prog 57 #[.pointer (some ⟨p, 0, none⟩), .slice (some ⟨g, 0, none⟩) n n] (W.alloc (.cells o 22)) fun e W' => e = .returned (.tuple #[]) ∧ Hid (Wa base p w (lNs s L) W') := by
  subst ho
  subst hg
  exact layNums_any (h.alloc _) L hL hn hn2 (alloc_atN _ _) (h.k.fresh _)
theorem Shows.deep {lim : Nat} {w w' : World} {ao : Option Addr} {n cap : Nat} {B : List Nat} (h : Shows lim w ao n cap B) (hb : Below lim w w') : Shows lim w' ao n cap B := by
  obtain ⟨h1, h2, h3, h4, b, off, h5, h6, h7⟩ := h
  exact ⟨h1, h2, h3, h4, b, off, h5, h6, fun i hi => (hb.cell (p := ⟨b, off + i, none⟩) (h6 (by omega))).trans (h7 i hi)⟩
end Go.Proofs.YtiijbboigebhcaaGreatDoor
namespace Go.Proofs.YtiijbboigebhcaaGreatDoor
open Go.RowKit Crc

section
variable {P : Program} (w : World)
/-- An append to a list of its own: the list that comes out is the old row or a new one. -/
theorem run_append_x (base : Nat) (t ty e : TypeId) (i : TypeInfo) (z : Value) (size bytes : Nat) (ht : P.underlying t = some (.slice e)) (hi : P.info? e = some i) (hz : i.zero = some z)
    (hsize : i.size = size) (hby : i.bytes = bytes) (hzs : z.cells.size = size) (hsz : 0 < size)
    (v : Value) (n : Nat) (xs : List Value) (hown : w.ownsRow base e size v n xs)
    (ad : Addr) (m c : Nat) (news : List Value) (hl : news.length = m * size) (hnews : ∀ j u, news[j]? = some u → w.cell? (ad.add j) = some u) (h1 : ∀ u ∈ news, u.oneCell' = true)
    (h63 : n + m ≤ maxLen) (hbytes : (n + m) * bytes ≤ 140737488355328) (hbase : base ≤ w.heap.size) :
    ∃ v' w', (Builtin.append_ #[t, t] ty #[v, .slice (some ad) m c]).run P w = .ok v' w' ∧ w'.ownsRow base e size v' (n + m) (xs ++ news) ∧ Ext w w' v v' := by
  have low : ∀ {v' : Value} {w' : World} {ys : List Value} {k : Nat}, w'.ownsRow w.heap.size e size v' k ys → w'.ownsRow base e size v' k ys := fun h => by
    refine ⟨h.1, ?_⟩
    rcases h.2 with h0 | ⟨g, cap, cur, hv, hbg, rest⟩
    · exact .inl h0
    · exact .inr ⟨g, cap, cur, hv, by omega, rest⟩
  rcases hown.2 with ⟨rfl, rfl⟩ | ⟨g, cap, cur, rfl, hbg, hg, hnc, hcm, hcs, htake⟩
  · have hxs : xs = [] := List.eq_nil_of_length_eq_zero (by have := hown.1; omega)
    subst hxs
    obtain ⟨v', w', hr, r1, r2, _⟩ := run_append_own (P := P) w w.heap.size t ty e i z size bytes ht hi hz hsize hby hzs hsz (.slice none 0 0) 0 [] (World.ownsRow_nil w _ e size) ad m c news hl hnews h1 h63 hbytes (Nat.le_refl _)
    exact ⟨v', w', hr, low r1, r2, fun g hg => .inr (r1.lt g hg).1⟩
  · by_cases hroom : n + m ≤ cap
    · obtain ⟨w', hr, h2, h3⟩ := run_append_own_spare (P := P) w base t ty e i size ht hi hsize g n cap xs hown ad m c news hl hnews h1 hroom
      exact ⟨_, w', hr, h2, h3, fun g' hg' => .inl hg'⟩
    · obtain ⟨v', w', hr, r1, r2⟩ := run_append_arg_grows (P := P) w t ty e i z size bytes ht hi hz hsize hby hzs hsz ⟨g, 0, none⟩ n cap xs hown.1 (hown.cells rfl) ad m c news hl hnews (by omega) h63 hbytes
      exact ⟨v', w', hr, low r1, ⟨r2.os, r2.tape, r2.output, r2.size, fun k hk _ => r2.block k hk (by simp)⟩, fun g' hg' => .inr (r1.lt g' hg').1⟩
end
theorem step_append_x {P : Program} {ops : Array Oper} {o : Oper} {a : Act} {w : World} {K : Act → World → Prop} {Q : Exit → Act → World → Prop} {E : Prop}
    (hgd : o.guard = none) (s x : Operand) (t : TypeId) (ho : o.op = .call { callee := .builtin .append, args := #[s, x], argTypes := #[t, t] })
    (base : Nat) (e : TypeId) (i : TypeInfo) (z : Value) (size bytes : Nat) (ht : P.underlying t = some (.slice e)) (hi : P.info? e = some i) (hz : i.zero = some z)
    (hsize : i.size = size) (hby : i.bytes = bytes) (hzs : z.cells.size = size) (hsz : 0 < size)
    (v : Value) (n : Nat) (xs : List Value) (hs : a.eval s = v) (hown : w.ownsRow base e size v n xs)
    (ad : Addr) (m c : Nat) (news : List Value) (hx : a.eval x = .slice (some ad) m c) (hl : news.length = m * size) (hnews : ∀ j u, news[j]? = some u → w.cell? (ad.add j) = some u) (h1 : ∀ u ∈ news, u.oneCell' = true)
    (h63 : n + m ≤ maxLen) (hbytes : (n + m) * bytes ≤ 140737488355328) (hbase : base ≤ w.heap.size)
    (h : ∀ v' w', w'.ownsRow base e size v' (n + m) (xs ++ news) → Ext w w' v v' → K (a.put o.dst v') w') :
    if Region.wanted o (yielded ops a.tmps) = true then Oper.wp P o a w K Q else E := by
  have hw : Region.wanted o (yielded ops a.tmps) = true := by simp [Region.wanted, hgd]
  rw [if_pos hw]
  obtain ⟨v', w', hr, h2, h3⟩ := run_append_x (P := P) w base t o.type e i z size bytes ht hi hz hsize hby hzs hsz v n xs hown ad m c news hl hnews h1 h63 hbytes hbase
  unfold Oper.wp execOp
  simp only [ho, resolve, invoke, builtin, Sem.run_bind, Sem.run_pure, Result.andThen_ok, List.map_toArray, List.map_cons, List.map_nil, hs, hx, hr]
  exact h v' w' h2 h3

/-- A pen in memory, and what it has laid down. -/
structure Pe (base p : Nat) (L : List Nat) (W : World) : Prop where
  wr : ∃ v, W.heap[p]? = some (.cells #[v] 81 (0, 0)) ∧ Owns base W v L ∧ v.ownBlock ≠ some p
  bs : base ≤ W.heap.size
  pb : p < base
structure Pa (base p : Nat) (w : World) (L : List Nat) (W : World) : Prop where
  k : Pe base p L W
  t : Tch 0 w W p
theorem Pa.start {base p : Nat} {w : World} {L : List Nat} (h : Pe base p L w) : Pa base p w L w := ⟨h, Tch.refl _ _ _⟩
theorem Pa.trans {base p : Nat} {w W W' : World} {L L' : List Nat} (h : Pa base p w L W) (k : Pa base p W L' W') : Pa base p w L' W' := ⟨k.k, h.t.then_ k.t⟩
theorem Pe.foot {base p k : Nat} {L : List Nat} {W : World} (h : Pe base p L W) (hf : Foot W p 0 k) : p ≤ k ∧ k < W.heap.size := by
  obtain ⟨v, hv, ho, hne⟩ := h.wr
  rcases hf with rfl | ⟨u, hu, e⟩
  · exact ⟨Nat.le_refl _, block_lt hv⟩
  · rw [block_cell hv 0] at hu
    simp at hu
    subst hu
    have := ho.1.lt k e
    have := h.pb
    omega
theorem Pe.lt {base p : Nat} {L : List Nat} {W : World} (h : Pe base p L W) : p < W.heap.size := (h.foot (.inl rfl)).2
theorem Pe.quiet {base p : Nat} {L : List Nat} {W W' : World} (h : Pe base p L W) (hb : Below W.heap.size W W') : Pe base p L W' := by
  obtain ⟨v, hv, ho, hne⟩ := h.wr
  exact ⟨⟨v, (hb.block _ h.lt).trans hv, ⟨ho.1.kept (below_none hb) (by cases v.ownBlock <;> simp), ho.2⟩, hne⟩, Nat.le_trans h.bs hb.size, h.pb⟩
theorem Pa.quiet {base p : Nat} {w W W' : World} {L : List Nat} (h : Pa base p w L W) (hb : Below W.heap.size W W') : Pa base p w L W' := ⟨h.k.quiet hb, h.t.then_ (Tch.from hb h.k.lt (Tch.refl _ _ _))⟩
theorem Pa.alloc {base p : Nat} {w W : World} {L : List Nat} (h : Pa base p w L W) (o : Obj) : Pa base p w L (W.alloc o) := h.quiet ((Below.refl _ W).alloc (Nat.le_refl _) o)
theorem Pa.below {base p : Nat} {w W : World} {L L' : List Nat} (h : Pe base p L w) (k : Pa base p w L' W) : Below p w W :=
  ⟨k.t.os, k.t.tape, k.t.output, k.t.size, fun n hn => k.t.keep n (Nat.lt_trans hn h.lt) (fun e => by have := (h.foot e).1; omega)⟩
theorem Pe.fresh {base p : Nat} {L : List Nat} {w : World} (h : Pe base p L w) (o : Obj) : ¬ Foot (w.alloc o) p 0 w.heap.size := fun hf => by
  have := ((Foot.old ((Below.refl _ w).alloc (Nat.le_refl _) o) h.lt).1 hf)
  have := (h.foot this).2
  omega
theorem Pe.box {base p : Nat} {L L' : List Nat} {w W : World} {o : Array Value} {e : TypeId} (h : Pe base p L w) (k : Pa base p (w.alloc (.cells o e)) L' W) : W.heap[w.heap.size]? = some (.cells o e (0, 0)) :=
  (k.t.keep _ (by simp) (h.fresh _)).trans (alloc_atN _ _)
theorem Pe.from_ {base p : Nat} {L L' : List Nat} {w W : World} {o : Obj} (h : Pe base p L w) (k : Pa base p (w.alloc o) L' W) : Pa base p w L' W := ((Pa.start h).alloc o).trans k
/-- The pen behind an append to its list. -/
theorem pe_after {base p : Nat} {W w2 : World} {v v' : Value} {L' : List Nat} (hb : W.heap[p]? = some (.cells #[v] 81 (0, 0))) (hne : v.ownBlock ≠ some p) (hbs : base ≤ W.heap.size) (hpb : p < base) (hE : Ext W w2 v v') (hO : Owns base w2 v' L') :
    Pa base p W L' (w2.setCell ⟨p, 0, none⟩ v') ∧ w2.cell? ⟨p, 0, none⟩ = some v ∧ w2.frozen? ⟨p, 0, none⟩ = false ∧ p < w2.heap.size := by
  have hp := block_lt hb
  have c0 := block_cell hb 0
  simp at c0
  have hb2 : w2.heap[p]? = some (.cells #[v] 81 (0, 0)) := (hE.1.block p hp (fun e => hne e.symm)).trans hb
  have hb3 : (w2.setCell ⟨p, 0, none⟩ v').heap[p]? = some (.cells #[v'] 81 (0, 0)) := by
    rw [heap_setCell_same w2 p 0 _ _ v' hb2]; rfl
  have c2 := block_cell hb2 0
  simp at c2
  have hne' : v'.ownBlock ≠ some p := fun e => by have := (hO.1.lt p e).1; omega
  refine ⟨⟨⟨⟨v', hb3, ⟨hO.1.kept (grown_set w2 p 0 v') (.inr hne'), hO.2⟩, hne'⟩, ?_, hpb⟩, hE.1.os, hE.1.tape, hE.1.output, ?_, fun k hk hf => ?_, fun k hk => ?_⟩, c2, block_free hb2 0, block_lt hb2⟩
  · have := hE.1.size
    have := (grown_set w2 p 0 v').size
    omega
  · have := hE.1.size
    have := (grown_set w2 p 0 v').size
    omega
  · exact (heap_setCell_other w2 ⟨p, 0, none⟩ k v' (fun e => hf (.inl (by simpa using e)))).trans (hE.1.block k hk (fun e => hf (.inr ⟨v, c0, e.symm⟩)))
  · rcases hk with rfl | ⟨u, hu, hg⟩
    · exact .inl (.inl rfl)
    · have h4 := block_cell hb3 0
      rw [hu] at h4
      simp at h4
      subst h4
      rcases hE.2 k hg with h | h
      · exact .inl (.inr ⟨v, c0, h⟩)
      · exact .inr h
end Go.Proofs.YtiijbboigebhcaaGreatDoor
