import Derived.Test.YtggpaljilpbmhaaGreatDoorZ18
import Derived.Lib.RuneCountTail
import Derived.Test.YtggpaljilpbmhaaGreatDoorZ19
import Derived.Test.YtggpaljilpbmhaaGreatDoorZ46
import Derived.Test.YtggpaljilpbmhaaGreatDoorZ04
import Derived.Test.YtggpaljilpbmhaaGreatDoorZ05
import Derived.Deep.RegionHeld
import Derived.Test.YtggpaljilpbmhaaGreatDoorZ21
import Derived.Lib.AppendStr
namespace Go.Proofs.YtggpaljilpbmhaaGreatDoor
open Go.RowKit Crc

end Go.Proofs.YtggpaljilpbmhaaGreatDoor
namespace Go.Proofs.YtggpaljilpbmhaaGreatDoor
open Go.RowKit Crc

end Go.Proofs.YtggpaljilpbmhaaGreatDoor
namespace Go.Proofs.YtggpaljilpbmhaaGreatDoor
open Go.RowKit Crc
variable {K : Kd}

/-! The writer's methods once more, with what they touch: the writer's own block and its list's. -/
/-- The blocks of a writer: its own, and its list's (which lies in cell j). -/
def Foot (w : World) (p j k : Nat) : Prop := k = p ∨ ∃ u, w.cell? ⟨p, j, none⟩ = some u ∧ u.ownBlock = some k
/-- Nothing but these was touched; what is new of them is new memory. -/
structure Tch (j : Nat) (w w' : World) (p : Nat) : Prop where
 os : w'.os = w.os
 tape : w'.tape = w.tape
 output : w'.output = w.output
 size : w.heap.size ≤ w'.heap.size
 keep : ∀ k, k < w.heap.size → ¬ Foot w p j k → w'.heap[k]? = w.heap[k]?
 foot : ∀ k, Foot w' p j k → Foot w p j k ∨ w.heap.size ≤ k
theorem Foot.old {w w1 : World} {p j k : Nat} (hb : Below w.heap.size w w1) (hp : p < w.heap.size) : Foot w1 p j k ↔ Foot w p j k := by
 unfold Foot
 rw [hb.cell (p := ⟨p, j, none⟩) hp]
theorem Tch.from {j p : Nat} {w w1 w2 : World} (hb : Below w.heap.size w w1) (hp : p < w.heap.size) (h : Tch j w1 w2 p) : Tch j w w2 p :=
 ⟨h.os.trans hb.os, h.tape.trans hb.tape, h.output.trans hb.output, Nat.le_trans hb.size h.size, fun k hk hf => (h.keep k (Nat.lt_of_lt_of_le hk hb.size) (fun e => hf ((Foot.old hb hp).1 e))).trans (hb.block k hk),
  fun k hk => (h.foot k hk).elim (fun e => .inl ((Foot.old hb hp).1 e)) (fun e => .inr (Nat.le_trans hb.size e))⟩
theorem Tch.row {j p : Nat} {w w' : World} (hg : w.grownBy w' (some p)) (hc : w'.cell? ⟨p, j, none⟩ = w.cell? ⟨p, j, none⟩) : Tch j w w' p :=
 ⟨hg.os, hg.tape, hg.output, hg.size, fun k hk hf => hg.block k hk (fun e => hf (.inl (by cases e; rfl))), fun k hk => .inl (by unfold Foot at hk ⊢; rwa [hc] at hk)⟩
theorem Tch.refl (j p : Nat) (w : World) : Tch j w w p := ⟨rfl, rfl, rfl, Nat.le_refl _, fun _ _ _ => rfl, fun _ h => .inl h⟩
structure BT (lim : Nat) (w w' : World) (p : Nat) : Prop where
 below : Below lim w w'
 touch : Tch 4 w w' p
theorem BT.from {lim p : Nat} {w w1 w2 : World} (hb : Below w.heap.size w w1) (hp : p < w.heap.size) (hl : lim ≤ w.heap.size) (h : BT lim w1 w2 p) : BT lim w w2 p :=
 ⟨(hb.mono hl).trans h.below, Tch.from hb hp h.touch⟩
theorem wr_afterx {base lim : Nat} {w w2 : World} {p : Nat} {made : Bool} {place why most : Int} {v v' : Value} {L : List Nat} (hb : w.heap[p]? = some (.cells (List.toArray (.bool made :: .int .i64 place :: .int .i64 why :: .int .i64 most :: v :: K.R)) K.t (0, 0)))
  (hne : v.ownBlock ≠ some p) (hO0 : ∀ g, v.ownBlock = some g → base ≤ g) (hE : ExtP w w2 v v') (hO : Owns base w2 v' L) (hl1 : lim ≤ base) (hl2 : lim ≤ p) :
  Wr K base (w2.setCell ⟨p, 4, none⟩ v') p made place why most L ∧ BT lim w (w2.setCell ⟨p, 4, none⟩ v') p := by
 obtain ⟨h1, h2⟩ := wr_after hb hne hO0 hE hO hl1 hl2
 have c4 := block_cell hb 4
 simp at c4
 have hp := block_lt hb
 have hb2 : w2.heap[p]? = some (.cells (List.toArray (.bool made :: .int .i64 place :: .int .i64 why :: .int .i64 most :: v :: K.R)) K.t (0, 0)) := (hE.1.block p hp (fun e => hne e.symm)).trans hb
 have hb3 : (w2.setCell ⟨p, 4, none⟩ v').heap[p]? = some (.cells (List.toArray (.bool made :: .int .i64 place :: .int .i64 why :: .int .i64 most :: v' :: K.R)) K.t (0, 0)) := by
  rw [heap_setCell_same w2 p 4 _ _ v' hb2]; rfl
 refine ⟨h1, h2, h2.os, h2.tape, h2.output, by simpa using hE.1.size, fun k hk hf => ?_, fun k hk => ?_⟩
 ·have h3 := heap_setCell_other w2 ⟨p, 4, none⟩ k v' (fun e => hf (.inl (by simpa using e)))
  exact h3.trans (hE.1.block k hk (fun e => hf (.inr ⟨v, c4, e.symm⟩)))
 ·rcases hk with rfl | ⟨u, hu, hg⟩
  ·exact .inl (.inl rfl)
  ·have h4 := block_cell hb3 4
   rw [hu] at h4
   simp at h4
   subst h4
   rcases hE.2 k hg with h | h
   ·exact .inl (.inr ⟨v, c4, h⟩)
   ·exact .inr h
theorem fixed_goodx (base lim p v s : Nat) (vi si place most : Int) (L : List Nat) (w : World) (hvi : vi = (v : Int)) (hsi : si = (s : Int)) (hs : s ≤ 8) (hW : Wr K base w p true place 0 most L) (hm : most ≤ 65507) (hfit : ((L.length + s : Nat) : Int) ≤ most) (hbs : base ≤ w.heap.size) (hl1 : lim ≤ base) (hl2 : lim ≤ p) :
  Calls Tryz.prog 80 #[.pointer (some ⟨p, 0, none⟩), .int .u64 vi, .int .i64 si] w fun e w' => e = .returned (.tuple #[]) ∧ Wr K base w' p true place 0 most (L ++ big v s) ∧ BT lim w w' p := by
 obtain ⟨u, hb, hO, hne⟩ := hW
 obtain ⟨ao, cap, rfl, hS, _⟩ := hO.form
 have c0 := block_cell hb 0
 have c2 := block_cell hb 2
 have c3 := block_cell hb 3
 have c4 := block_cell hb 4
 simp at c0 c2 c3 c4
 have HTK : Hid (Calls Tryz.prog 81 #[.pointer (some ⟨p, 0, none⟩), .int .i64 si, .int .i64 0] w fun e w' => e = .returned (.bool true) ∧ ∃ q, w' = w.drewN q) := takes_good p most ao L.length cap si w c0 c2 c3 c4 hm (by omega) (by omega)
 have HAP : Hid (∀ q, Calls Tryz.prog 129 #[.slice ao L.length cap, .int .u64 vi, .int .i64 si] (w.drewN q) fun e w' => ∃ v', e = .returned v' ∧ Owns base w' v' (L ++ big v s) ∧ ExtP (w.drewN q) w' (.slice ao L.length cap) v') :=
  fun q => appendHigh_any base v s _ vi si L (w.drewN q) hvi hsi hs (hO.drew q) (by omega) hbs
 have HFIN : Hid (∀ (q : Nat) (w2 : World) (v' : Value), Owns base w2 v' (L ++ big v s) → ExtP (w.drewN q) w2 (.slice ao L.length cap) v' → Wr K base (w2.setCell ⟨p, 4, none⟩ v') p true place 0 most (L ++ big v s) ∧ BT lim w (w2.setCell ⟨p, 4, none⟩ v') p) := by
  intro q w2 v' ho he
  have he' : ExtP w w2 (.slice ao L.length cap) v' := ⟨⟨he.1.os, he.1.tape, he.1.output, he.1.size, he.1.block⟩, he.2⟩
  exact wr_afterx hb hne (fun g hg => (hO.1.lt g hg).1) he' ho hl1 hl2
 have HCL : Hid (∀ (q : Nat) (w2 : World) (v' : Value), ExtP (w.drewN q) w2 (.slice ao L.length cap) v' → w2.cell? ⟨p, 4, none⟩ = some (.slice ao L.length cap) ∧ w2.frozen? ⟨p, 4, none⟩ = false) := by
  intro q w2 v' he
  exact wr_cell hb hne (show ExtP w w2 (.slice ao L.length cap) v' from ⟨⟨he.1.os, he.1.tape, he.1.output, he.1.size, he.1.block⟩, he.2⟩)
 clear hb hO hne hS c0 c2 c3 hvi hsi
 go_enter Tryz.func80, Tryz.ntmps80
 go_wp2_with fail
 refine HTK.out.mono ?_
 rintro e w1 ⟨rfl, q, rfl⟩
 go_wp2_with fail
 refine (HAP.out q).mono ?_
 rintro e w2 ⟨v', rfl, ho, he⟩
 obtain ⟨k4, f4⟩ := HCL.out q w2 v' he
 have HF2 := HFIN.out q w2 v' ho he
 obtain ⟨a', c', rfl, _, _⟩ := ho.form
 have HF2' : Hid (Wr K base (w2.setCell ⟨p, 4, none⟩ (.slice a' (L ++ big v s).length c')) p true place 0 most (L ++ big v s) ∧ BT lim w (w2.setCell ⟨p, 4, none⟩ (.slice a' (L ++ big v s).length c')) p) := HF2
 clear HF2 ho he HFIN HCL HAP HTK c4
 generalize (L ++ big v s).length = m at *
 go_wp2
 go_end0
 exact ⟨rfl, HF2'.out⟩

theorem wU8_goodx (base lim p v : Nat) (vi place most : Int) (L : List Nat) (w : World) (hvi : vi = (v : Int)) (hv : v < 256) (hW : Wr K base w p true place 0 most L) (hm : most ≤ 65507) (hfit : ((L.length + 1 : Nat) : Int) ≤ most) (hbs : base ≤ w.heap.size) (hl1 : lim ≤ base) (hl2 : lim ≤ p) :
  Calls Tryz.prog 43 #[.pointer (some ⟨p, 0, none⟩), .int .u8 vi] w fun e w' => e = .returned (.tuple #[]) ∧ Wr K base w' p true place 0 most (L ++ big v 1) ∧ BT lim w w' p := by
 have HF : Hid (Calls Tryz.prog 80 #[.pointer (some ⟨p, 0, none⟩), .int .u64 vi, .int .i64 1] w fun e w' => e = .returned (.tuple #[]) ∧ Wr K base w' p true place 0 most (L ++ big v 1) ∧ BT lim w w' p) := fixed_goodx base lim p v 1 vi 1 place most L w hvi rfl (by omega) hW hm hfit hbs hl1 hl2
 have h0 : 0 ≤ vi := by omega
 have h1 : vi < 256 := by omega
 clear hW hvi
 go_enter Tryz.func43, Tryz.ntmps43
 go_wp2_with fail
 refine HF.out.mono ?_
 rintro e w1 ⟨rfl, hr⟩
 have HR : Hid (Wr K base w1 p true place 0 most (L ++ big v 1) ∧ BT lim w w1 p) := hr
 clear hr
 go_wp2
 go_end0
 exact ⟨rfl, HR.out⟩

end Go.Proofs.YtggpaljilpbmhaaGreatDoor
namespace Go.Proofs.YtggpaljilpbmhaaGreatDoor
open Go.RowKit Crc

/-- A writer's state. -/
structure WS where
 made : Bool
 place : Int
 why : Int
 most : Int
 L : List Nat
 K : Kd
def WS.sound (s : WS) : Prop := s.made = true ∧ s.why = 0
instance (s : WS) : Decidable s.sound := by unfold WS.sound; exact inferInstance
/-- A field that is to be laid down, with its own reason not to. -/
def WS.put (s : WS) (F : List Nat) (y : Int) : WS := if s.sound then (if y ≠ 0 then { s with place := (s.L.length : Int), why := y } else if s.most < ((s.L.length + F.length : Nat) : Int) then { s with place := (s.L.length : Int), why := 21 } else { s with L := s.L ++ F }) else s
def WS.takes (s : WS) (F : List Nat) (y : Int) : Prop := s.sound ∧ y = 0 ∧ ((s.L.length + F.length : Nat) : Int) ≤ s.most
def WrS (base : Nat) (w : World) (p : Nat) (s : WS) : Prop := Wr s.K base w p s.made s.place s.why s.most s.L
theorem WS.put_takes {s : WS} {F : List Nat} {y : Int} (h : s.takes F y) : s.put F y = { s with L := s.L ++ F } := by
 unfold WS.put
 rw [if_pos h.1, if_neg (by simp [h.2.1]), if_neg (by have := h.2.2; omega)]
theorem WS.put_not {s : WS} (hs : ¬ s.sound) (F : List Nat) (y : Int) : s.put F y = s := by unfold WS.put; rw [if_neg hs]
theorem WS.put_own {s : WS} (hs : s.sound) (F : List Nat) {y : Int} (hy : y ≠ 0) : s.put F y = { s with place := (s.L.length : Int), why := y } := by unfold WS.put; rw [if_pos hs, if_pos hy]
theorem WS.put_long {s : WS} (hs : s.sound) {F : List Nat} (hl : s.most < ((s.L.length + F.length : Nat) : Int)) : s.put F 0 = { s with place := (s.L.length : Int), why := 21 } := by unfold WS.put; rw [if_pos hs, if_neg (by simp), if_pos hl]

end Go.Proofs.YtggpaljilpbmhaaGreatDoor
namespace Go.Proofs.YtggpaljilpbmhaaGreatDoor
open Go.RowKit Crc

def WS0 : WS := ⟨false, 0, 0, 0, [], KW⟩
def WrP (base : Nat) (w : World) (po : Option Addr) (s : WS) : Prop := (po = none ∧ s = WS0) ∨ ∃ p, po = some ⟨p, 0, none⟩ ∧ WrS base w p s
def TchP (w w' : World) (po : Option Addr) : Prop := (po = none ∧ w.grownBy w' none) ∨ ∃ p, po = some ⟨p, 0, none⟩ ∧ Tch 4 w w' p
/-- What holds of every writer that was made: its bound, and that it is kept. -/
def WS.Inv (s : WS) : Prop := s.made = true → s.most ≤ 65507 ∧ (s.L.length : Int) ≤ s.most
end Go.Proofs.YtggpaljilpbmhaaGreatDoor
namespace Go.Proofs.YtggpaljilpbmhaaGreatDoor
open Go.RowKit Crc

theorem WrP.below {base : Nat} {w w' : World} {po : Option Addr} {s : WS} (h : WrP base w po s) (hb : Below w.heap.size w w') : WrP base w' po s := by
 rcases h with ⟨rfl, rfl⟩ | ⟨p, rfl, v, hbk, hO, hne⟩
 ·exact .inl ⟨rfl, rfl⟩
 ·exact .inr ⟨p, rfl, v, (hb.block p (block_lt hbk)).trans hbk, hO.quiet (below_none hb), hne⟩
theorem TchP.below {w w1 w2 : World} {po : Option Addr} (hb : Below w.heap.size w w1) (hp : ∀ p, po = some ⟨p, 0, none⟩ → p < w.heap.size) (h : TchP w1 w2 po) : TchP w w2 po := by
 rcases h with ⟨rfl, hg⟩ | ⟨p, rfl, h⟩
 ·exact .inl ⟨rfl, grown_trans (below_none hb) hg⟩
 ·exact .inr ⟨p, rfl, Tch.from hb (hp p rfl) h⟩
theorem WrP.plt {base : Nat} {w : World} {po : Option Addr} {s : WS} (h : WrP base w po s) : ∀ p, po = some ⟨p, 0, none⟩ → p < w.heap.size := by
 intro p hp
 rcases h with ⟨rfl, _⟩ | ⟨p', rfl, v, hbk, _⟩
 ·cases hp
 ·cases hp; exact block_lt hbk

end Go.Proofs.YtggpaljilpbmhaaGreatDoor
namespace Go.Proofs.YtggpaljilpbmhaaGreatDoor
open Go.RowKit Crc

set_option maxRecDepth 10000 in
set_option maxHeartbeats 800000 in
theorem big_any (v s : Nat) (vi si : Int) (w : World) (hvi : vi = (v : Int)) (hsi : si = (s : Int)) (hs : s ≤ 8) :
  Calls Tryz.prog 78 #[.int .u64 vi, .int .i64 si] w fun e w' => ∃ v', e = .returned v' ∧ Owns w.heap.size w' v' (big v s) ∧ Below w.heap.size w w' := by
 obtain ⟨i0, hi, hz0, hz1, hz2⟩ := info_parts Tryz.info5
 subst hvi
 subst hsi
 go_enter Tryz.func78, Tryz.ntmps78
 go_wp2
 go_loopw [5, 6] (fun sl i wr => ∃ j : Nat, j ≤ s ∧ i = .int .i64 ((s : Int) - 1 - (j : Int)) ∧ Hid (Owns w.heap.size wr sl (bigTo v s j)) ∧ Below w.heap.size w wr) (fun _ i _ => (intOf i + 1).toNat)
 case atStart => exact ⟨0, by omega, by go_num, Owns.nil _ _, Below.refl _ _⟩
 case round =>
  obtain ⟨j, hj, rfl, HO, hnx⟩ := hrel
  have hsize := hnx.size
  by_cases hlt : j < s
  ·obtain ⟨i, hi'⟩ : ∃ i : Nat, i + j + 1 = s := ⟨s - 1 - j, by omega⟩
   have he : (s : Int) - 1 - (j : Int) = (i : Int) := by omega
   have HI : Hid (i = s - 1 - j) := by show _ = _; omega
   have hi8 : i ≤ 7 := by omega
   have HTS : Hid (bigTo v s (j + 1) = bigTo v s j ++ [v / 2 ^ (8 * i) % 256]) := by
    show _ = _
    simp only [bigTo]
    rw [← HI.out]
   have HTL : Hid ((bigTo v s j).length = j) := big_len v s j
   have HHO : Hid (wr.ownsRow w.heap.size 5 1 u5 j (vals (bigTo v s j))) := by
    show wr.ownsRow _ _ _ _ _ _
    have := HO.out.1; rw [HTL.out] at this; exact this
   clear hi'
   go_wp2_with (first
    | (at_builtin; refine wpList_append_own _ rfl (.tmp 13) (.tmp 20) 51 rfl w.heap.size 5 i0 (.int .u8 0) 1 1 Tryz.underlying51 hi hz0 hz1 hz2 rfl (by decide) u5 j (vals (bigTo v s j)) rfl (HHO.out.alloc _) ⟨wr.heap.size, 0, none⟩ 1 1 [.int .u8 ((v : Int) / (2 : Int) ^ (8 * i) % (256 : Int))] rfl rfl (cell_one_new _ _ _) (Shade.one _ rfl) (by unfold maxLen; omega) (by omega) (by simp; omega) ?_; intro v' w1 hown1 hgrow1 _))
   go_roundw
   case rel =>
    refine ⟨j + 1, by omega, by have := HI.out; go_num, ?_, (hnx.alloc (by omega) _).grown hgrow1 (by simp; omega) (fun j hj => (HHO.out.lt j hj).1)⟩
    show Owns _ _ _ _
    rw [HTS.out]
    exact HO.out.snoc (Nat.mod_lt _ (by omega)) (by rw [HTL.out]; omega) (by rw [HTL.out, big_byte]; exact hown1)
   case measure => simp [intOf]; omega
  ·obtain rfl : j = s := by omega
   go_wp2
   go_ret
   exact ⟨_, rfl, HO.out, hnx⟩


set_option maxRecDepth 10000 in
set_option maxHeartbeats 800000 in
theorem refNumB (v0 : Nat) (vi : Int) (w : World) (hvi : vi = (v0 : Int)) (hv0 : v0 < 18446744073709551616) :
  Calls Tryz.prog 79 #[.int .u64 vi] w fun e w' => ∃ v', e = .returned v' ∧ Owns w.heap.size w' v' (numB v0) ∧ Below w.heap.size w w' := by
 obtain ⟨i0, hi, hz0, hz1, hz2⟩ := info_parts Tryz.info5
 subst hvi
 go_enter Tryz.func79, Tryz.ntmps79
 go_wp2
 go_loopw [0, 3] (fun i sl wr => ∃ v j : Nat, v < 18446744073709551616 ∧ j ≤ 10 ∧ i = .int .u64 v ∧ Hid (∃ L, Owns w.heap.size wr sl L ∧ L.length = j ∧ numB v0 = L ++ numB v ∧ v < 128 ^ (10 - j)) ∧ Below w.heap.size w wr) (fun i _ _ => (intOf i).toNat)
 case atStart => exact ⟨v0, 0, hv0, by omega, rfl, ⟨[], Owns.nil _ _, rfl, rfl, by omega⟩, Below.refl _ _⟩
 case round =>
  obtain ⟨v, j, hv, hj, rfl, HL, hnx⟩ := hrel
  have hsize := hnx.size
  obtain ⟨L, hO, hlj, hnb, hvp⟩ := HL.out
  have HO := hide hO
  have HHO : Hid (wr.ownsRow w.heap.size 5 1 u3 j (vals L)) := by
   show wr.ownsRow _ _ _ _ _ _
   have := hO.1; rw [hlj] at this; exact this
  have HLJ := hide hlj
  clear hO
  by_cases hb : v < 128
  ·have HF : Hid (numB v0 = L ++ [v]) := by show _ = _; rw [hnb, numB_small v hb]
   have d : decide ((127 : Int) < (v : Int)) = false := by simp; omega
   have d' : decide (127 < v) = false := by simp; omega
   have hw8 : IntKind.u8.wrap (v : Int) = (v : Int) := by simp [IntKind.wrap, IntKind.bits, IntKind.signed]; omega
   clear HL hnb hlj hvp
   go_wp2_with (first
    | (at_builtin; refine wpList_append_own _ rfl (.tmp 15) (.tmp 18) 51 rfl w.heap.size 5 i0 (.int .u8 0) 1 1 Tryz.underlying51 hi hz0 hz1 hz2 rfl (by decide) u3 j (vals L) rfl (HHO.out.alloc _) ⟨wr.heap.size, 0, none⟩ 1 1 [.int .u8 (v : Int)] rfl rfl (by first | exact cell_one_new _ _ _ | (rw [show ((v : Int) % 256) = (v : Int) by omega]; exact cell_one_new _ _ _)) (Shade.one _ rfl) (by unfold maxLen; omega) (by omega) (by simp; omega) ?_; intro v' w1 hown1 hgrow1 _))
   go_ret
   refine ⟨v', rfl, ?_, (hnx.alloc (by omega) _).grown hgrow1 (by simp; omega) (fun j hj => (HHO.out.lt j hj).1)⟩
   rw [HF.out]
   exact HO.out.snoc (by omega) (by rw [HLJ.out]; omega) (by rw [HLJ.out]; exact hown1)
  ·have hj9 : j < 10 := by
    rcases Nat.lt_or_ge j 10 with h | h
    ·exact h
    ·obtain rfl : j = 10 := by omega
     have h2 : v < 128 ^ 0 := hvp
     rw [Nat.pow_zero] at h2
     omega
   obtain ⟨x, hx⟩ : ∃ x, x = v % 128 := ⟨_, rfl⟩
   obtain ⟨y, hy⟩ : ∃ y, y = v / 128 := ⟨_, rfl⟩
   have hx128 : x < 128 := by omega
   have hxi : (v : Int) % 128 = (x : Int) := by omega
   have hyi : (v : Int) / 128 = (y : Int) := by omega
   have HF : Hid (Owns w.heap.size wr u3 L → ∀ w1 v', Owns w.heap.size w1 v' (L ++ [x + 128]) → ∃ L', Owns w.heap.size w1 v' L' ∧ L'.length = j + 1 ∧ numB v0 = L' ++ numB y ∧ y < 128 ^ (10 - (j + 1))) := by
    intro _ w1 v' h
    refine ⟨L ++ [x + 128], h, by simp [hlj], ?_, ?_⟩
    ·rw [hnb, numB_big v hb hv, ← hx, ← hy, List.append_assoc]
     rfl
    ·rw [show 10 - j = (10 - (j + 1)) + 1 by omega, Nat.pow_succ] at hvp
     rw [hy]
     exact Nat.div_lt_of_lt_mul (by rw [Nat.mul_comm]; exact hvp)
   have hylt : y < v := by omega
   have hy64 : y < 18446744073709551616 := by omega
   have d : decide ((127 : Int) < (v : Int)) = true := by simp; omega
   have d' : decide (127 < v) = true := by simp; omega
   have hw8 : IntKind.u8.wrap (x : Int) = (x : Int) := by simp [IntKind.wrap, IntKind.bits, IntKind.signed]; omega
   obtain ⟨z, hz⟩ : ∃ z, z = x + 128 := ⟨_, rfl⟩
   have hxe : ((x : Int) + 128) = (z : Int) := by omega
   have hx256 : (z : Int) < 256 := by omega
   have HZ := hide hz
   clear HL hnb hlj hvp hx hy hb hz
   go_wp2_with (first
    | (at_builtin; refine wpList_append_own _ rfl (.tmp 6) (.tmp 11) 51 rfl w.heap.size 5 i0 (.int .u8 0) 1 1 Tryz.underlying51 hi hz0 hz1 hz2 rfl (by decide) u3 j (vals L) rfl (HHO.out.alloc _) ⟨wr.heap.size, 0, none⟩ 1 1 [.int .u8 (z : Int)] rfl rfl (cell_one_new _ _ _) (Shade.one _ rfl) (by unfold maxLen; omega) (by omega) (by simp; omega) ?_; intro v' w1 hown1 hgrow1 _))
   go_roundw
   case rel =>
    refine ⟨y, j + 1, hy64, by omega, rfl, HF.out HO.out _ _ ?_, (hnx.alloc (by omega) _).grown hgrow1 (by simp; omega) (fun j hj => (HHO.out.lt j hj).1)⟩
    rw [← HZ.out]
    exact HO.out.snoc (by omega) (by rw [HLJ.out]; omega) (by rw [HLJ.out]; exact hown1)
   case measure => simp [intOf]; omega

theorem ownx_far {base : Nat} {w : World} {v : Value} {B : List Nat} (h : Owns base w v B) : ∀ g, v.ownBlock = some g → base ≤ g := by
 intro g hg
 obtain ⟨a0, c0, rfl, _, (⟨rfl, _⟩ | ⟨g', rfl, hb, _⟩)⟩ := h.form
 ·cases hg
 ·have : g' = g := by simpa [Value.ownBlock] using hg
  omega
/-- The reference's writer as it lies. -/
def RefW (base : Nat) (w : World) (p : Nat) (s : WS) : Prop :=
 ∃ v, w.heap[p]? = some (.cells #[.bool s.made, .int .i64 s.most, v, .int .i64 s.why, .int .i64 s.place] 96 (0, 0)) ∧ Owns base w v s.L ∧ v.ownBlock ≠ some p
theorem RefW.below {base p : Nat} {w w' : World} {s : WS} (h : RefW base w p s) (hb : Below w.heap.size w w') : RefW base w' p s := by
 obtain ⟨v, hbk, hO, hne⟩ := h
 exact ⟨v, (hb.block p (block_lt hbk)).trans hbk, hO.quiet (below_none hb), hne⟩
theorem RefW.plt {base p : Nat} {w : World} {s : WS} (h : RefW base w p s) : p < w.heap.size := by obtain ⟨v, hbk, _⟩ := h; exact block_lt hbk

set_option maxRecDepth 10000 in
set_option maxHeartbeats 1600000 in
theorem refPut_any {base p flim : Nat} {w : World} {s : WS} (hW : RefW base w p s) (hi : s.Inv) (hbs : base ≤ w.heap.size) (fo : Option Addr) (fn fc : Nat) (F : List Nat) (y : Int) (hF : Shows flim w fo fn fc F) (hfl : flim ≤ w.heap.size) :
  Calls Tryz.prog 77 #[.pointer (some ⟨p, 0, none⟩), .slice fo fn fc, .int .i64 y] w fun e w' => e = .returned (.tuple #[]) ∧ Hid (RefW base w' p (s.put F y) ∧ Tch 2 w w' p) := by
 have HW := hide hW
 obtain ⟨v, hb, hO, hne⟩ := hW
 obtain ⟨ao, cap, rfl, hS, _⟩ := hO.form
 have c0 := block_cell hb 0
 have c1 := block_cell hb 1
 have c2 := block_cell hb 2
 have c3 := block_cell hb 3
 have c4 := block_cell hb 4
 simp at c0 c1 c2 c3 c4
 have f2 := block_free hb 2
 have f3 := block_free hb 3
 have f4 := block_free hb 4
 have hn47 := hF.2.2.1
 have HFN : Hid (fn = F.length) := hF.1
 have HJ : Hid (∀ q, s.L.length + fn ≤ 140737488355328 → Calls Tryz.prog 128 #[.slice ao s.L.length cap, .slice fo fn fc] (w.drewN q) fun e w' => ∃ v, e = .returned v ∧ Owns w.heap.size w' v (s.L ++ F) ∧ Below w.heap.size w w') := by
  intro q hl
  refine (join_any (hS.world (w' := w.drewN q) rfl) (Nat.le_refl _) (hF.world (w' := w.drewN q) rfl) hfl hl).mono ?_
  rintro e w' ⟨v, rfl, h1, h2⟩
  exact ⟨v, rfl, h1, h2.os, h2.tape, h2.output, h2.size, h2.block⟩
 have HST : Hid (∀ w2 v', Below w.heap.size w w2 → Owns w.heap.size w2 v' (s.L ++ F) → (w2.cell? ⟨p, 2, none⟩ = some (.slice ao s.L.length cap) ∧ w2.frozen? ⟨p, 2, none⟩ = false) ∧ RefW base (w2.setCell ⟨p, 2, none⟩ v') p { s with L := s.L ++ F } ∧ Tch 2 w (w2.setCell ⟨p, 2, none⟩ v') p) := by
  intro w2 v' hbl hO2
  have hb2 := (hbl.block p (block_lt hb)).trans hb
  have hne' : v'.ownBlock ≠ some p := fun e => by have := ownx_far hO2 p e; have := block_lt hb; omega
  have hb3 : (w2.setCell ⟨p, 2, none⟩ v').heap[p]? = some (.cells #[.bool s.made, .int .i64 s.most, v', .int .i64 s.why, .int .i64 s.place] 96 (0, 0)) := by
   rw [heap_setCell_same w2 p 2 _ _ v' hb2]; rfl
  have hk2 := block_cell hb2 2
  simp at hk2
  refine ⟨⟨hk2, block_free hb2 2⟩, ⟨v', hb3, (hO2.lower hbs).kept (grown_set _ _ _ _) (.inr hne'), hne'⟩, hbl.os, hbl.tape, hbl.output, by simpa using hbl.size, fun k hk hf => ?_, fun k hk => ?_⟩
  ·have h3 := heap_setCell_other w2 ⟨p, 2, none⟩ k v' (fun e => hf (.inl (by simpa using e)))
   exact h3.trans (hbl.block k hk)
  ·rcases hk with rfl | ⟨u, hu, hg⟩
   ·exact .inl (.inl rfl)
   ·have h4 := block_cell hb3 2
    rw [hu] at h4
    simp at h4
    subst h4
    exact .inr (ownx_far hO2 k hg)
 have HNO : Hid (∀ q y', RefW base (((w.drewN q).setCell ⟨p, 3, none⟩ (.int .i64 y')).setCell ⟨p, 4, none⟩ (.int .i64 (s.L.length : Int))) p { s with place := (s.L.length : Int), why := y' } ∧ Tch 2 w (((w.drewN q).setCell ⟨p, 3, none⟩ (.int .i64 y')).setCell ⟨p, 4, none⟩ (.int .i64 (s.L.length : Int))) p) := by
  intro q y'
  have hb1 : ((w.drewN q).setCell ⟨p, 3, none⟩ (.int .i64 y')).heap[p]? = some (.cells #[.bool s.made, .int .i64 s.most, .slice ao s.L.length cap, .int .i64 y', .int .i64 s.place] 96 (0, 0)) := by
   rw [heap_setCell_same (w.drewN q) p 3 _ _ _ (show (w.drewN q).heap[p]? = _ from hb)]; simp
  have hb2 : (((w.drewN q).setCell ⟨p, 3, none⟩ (.int .i64 y')).setCell ⟨p, 4, none⟩ (.int .i64 (s.L.length : Int))).heap[p]? = some (.cells #[.bool s.made, .int .i64 s.most, .slice ao s.L.length cap, .int .i64 y', .int .i64 (s.L.length : Int)] 96 (0, 0)) := by
   rw [heap_setCell_same _ p 4 _ _ _ hb1]; simp
  have hg : w.grownBy (((w.drewN q).setCell ⟨p, 3, none⟩ (.int .i64 y')).setCell ⟨p, 4, none⟩ (.int .i64 (s.L.length : Int))) (some p) := grown_trans (row := some p) (grown_trans (a := w) (b := w.drewN q) (row := some p) ⟨rfl, rfl, rfl, Nat.le_refl _, fun _ _ _ => rfl⟩ (grown_set (w.drewN q) _ _ _)) (grown_set _ _ _ _)
  refine ⟨⟨_, hb2, hO.kept hg (.inr hne), hne⟩, Tch.row hg ?_⟩
  have h4 := block_cell hb2 2
  simp at h4
  rw [h4, c2]
 clear hb hO hne hS hF
 by_cases hs : s.sound
 ·have hmm := hi hs.1
  rw [hs.1] at c0
  rw [hs.2] at c3
  by_cases hy : y = 0
  ·subst hy
   by_cases hfit : ((s.L.length + fn : Nat) : Int) ≤ s.most
   ·have HPT : Hid (s.put F 0 = { s with L := s.L ++ F }) := WS.put_takes ⟨hs, rfl, by rw [← HFN.out]; exact hfit⟩
    rw [HPT.out]
    have HJ2 := hide (fun q => HJ.out q (by omega))
    generalize hn : s.L.length = n at *
    have hd : decide (s.most < (n : Int) + (fn : Int)) = false := by simp; omega
    have hlen : (n : Int) + (fn : Int) ≤ 65507 := by omega
    clear hs hi hn HJ HNO HFN hfit HW HPT
    go_enter Tryz.func77, Tryz.ntmps77
    go_wp2_with fail
    go_quiet (fail)
    go_wp2_with fail
    refine (HJ2.out _).mono ?_
    rintro e w2 ⟨v', rfl, hO2, hb2⟩
    obtain ⟨⟨k2, k2f⟩, hr⟩ := HST.out w2 v' hb2 hO2
    obtain ⟨a', c', rfl, _, _⟩ := hO2.form
    have HR := hide hr
    clear hr hO2 hb2 HST
    generalize (s.L ++ F).length = m at *
    go_wp2
    go_end0
    exact ⟨rfl, HR.out⟩
   ·have HPT : Hid (s.put F 0 = { s with place := (s.L.length : Int), why := 21 }) := WS.put_long hs (by rw [← HFN.out]; omega)
    rw [HPT.out]
    generalize hn : s.L.length = n at *
    have hd : decide (s.most < (n : Int) + (fn : Int)) = true := by simp; omega
    have hlen : (n : Int) ≤ 65507 := by omega
    clear hs hi hn HJ HST HFN hfit HW HPT
    go_enter Tryz.func77, Tryz.ntmps77
    go_wp2_with fail
    go_quiet (fail)
    go_wp2
    refine bodyPost_ret (v := .tuple #[]) (by simp [results, Tryz.results77, go_sem]) rfl ⟨rfl, HNO.out _ _⟩
  ·have HPT := hide (WS.put_own hs F hy)
   rw [HPT.out]
   have hyb : (y == 0) = false := by simp [hy]
   have hyb' : (y != 0) = true := by simp [hy]
   generalize hn : s.L.length = n at *
   clear hs hi hn HJ HST HFN HW HPT hy
   go_enter Tryz.func77, Tryz.ntmps77
   go_wp2_with fail
   go_quiet (fail)
   go_wp2
   refine bodyPost_ret (v := .tuple #[]) (by simp [results, Tryz.results77, go_sem]) rfl ⟨rfl, HNO.out _ _⟩
 ·have HPN := hide (WS.put_not hs F y)
  rw [HPN.out]
  have HO : Hid (s.made = false ∨ s.made = true ∧ (s.why != 0) = true) := by
   show _ ∨ _
   unfold WS.sound at hs
   cases hm : s.made with
   | false => exact .inl rfl
   | true => exact .inr ⟨rfl, by rw [hm] at hs; simpa using hs⟩
  have HRW : Hid (RefW base w p s ∧ Tch 2 w w p) := ⟨HW.out, Tch.refl _ _ _⟩
  clear hs hi HJ HST HFN HW HPN HNO
  rcases HO.out with hm | ⟨hm, hw⟩
  ·rw [hm] at c0
   clear hm
   go_enter Tryz.func77, Tryz.ntmps77
   go_wp2
   refine bodyPost_ret (v := .tuple #[]) (by simp [results, Tryz.results77, go_sem]) rfl ⟨rfl, HRW.out⟩
  ·rw [hm] at c0
   generalize hwy : s.why = wy at *
   clear hm hwy
   go_enter Tryz.func77, Tryz.ntmps77
   go_wp2
   refine bodyPost_ret (v := .tuple #[]) (by simp [results, Tryz.results77, go_sem]) rfl ⟨rfl, HRW.out⟩
end Go.Proofs.YtggpaljilpbmhaaGreatDoor
namespace Go.Proofs.YtggpaljilpbmhaaGreatDoor
open Go.RowKit Crc

/-- What put says behind bytes that were just made. -/
theorem put_after {base p : Nat} {w w1 : World} {s : WS} (hW : RefW base w p s) (hi : s.Inv) (hbs : base ≤ w.heap.size) {v : Value} {F : List Nat} (y : Int) (hO : Owns w.heap.size w1 v F) (hb : Below w.heap.size w w1) :
  Calls Tryz.prog 77 #[.pointer (some ⟨p, 0, none⟩), v, .int .i64 y] w1 fun e w' => e = .returned (.tuple #[]) ∧ Hid (RefW base w' p (s.put F y) ∧ Tch 2 w w' p) := by
 obtain ⟨ao, cap, rfl, hS, _⟩ := hO.form
 refine (refPut_any (hW.below hb) hi (Nat.le_trans hbs hb.size) ao _ cap F y hS (Nat.le_refl _)).mono ?_
 rintro e w' ⟨rfl, h⟩
 exact ⟨rfl, h.out.1, Tch.from hb hW.plt h.out.2⟩

set_option maxRecDepth 10000 in
set_option maxHeartbeats 400000 in
theorem refWFixed {base p : Nat} {w : World} {s : WS} (hW : RefW base w p s) (hi : s.Inv) (hbs : base ≤ w.heap.size) (v k : Nat) (vi ki : Int) (hvi : vi = (v : Int)) (hki : ki = (k : Int)) (hk : k ≤ 8) :
  Calls Tryz.prog 38 #[.pointer (some ⟨p, 0, none⟩), .int .u64 vi, .int .i64 ki] w fun e w' => e = .returned (.tuple #[]) ∧ Hid (RefW base w' p (s.put (big v k) 0) ∧ Tch 2 w w' p) := by
 have HB := hide (big_any v k vi ki w hvi hki hk)
 have HP : Hid (∀ w1 x, Owns w.heap.size w1 x (big v k) → Below w.heap.size w w1 → _) := fun w1 x h1 h2 => put_after hW hi hbs (v := x) 0 h1 h2
 clear hW hi hvi hki
 go_enter Tryz.func38, Tryz.ntmps38
 go_wp2_with fail
 refine HB.out.mono ?_
 rintro e w1 ⟨x, rfl, h1, h2⟩
 have HP1 := hide (HP.out w1 x h1 h2)
 obtain ⟨a1, c1, rfl, _, _⟩ := h1.form
 clear h1 h2
 generalize (big v k).length = m at *
 go_wp2_with fail
 refine HP1.out.mono ?_
 rintro e w2 ⟨rfl, H⟩
 go_wp2
 go_end0
 exact ⟨rfl, H⟩

set_option maxRecDepth 10000 in
set_option maxHeartbeats 400000 in
theorem refWNum {base p : Nat} {w : World} {s : WS} (hW : RefW base w p s) (hi : s.Inv) (hbs : base ≤ w.heap.size) (v : Nat) (vi : Int) (hvi : vi = (v : Int)) (hv : v < 18446744073709551616) :
  Calls Tryz.prog 39 #[.pointer (some ⟨p, 0, none⟩), .int .u64 vi] w fun e w' => e = .returned (.tuple #[]) ∧ Hid (RefW base w' p (s.put (numB v) 0) ∧ Tch 2 w w' p) := by
 have HB := hide (refNumB v vi w hvi hv)
 have HP : Hid (∀ w1 x, Owns w.heap.size w1 x (numB v) → Below w.heap.size w w1 → _) := fun w1 x h1 h2 => put_after hW hi hbs (v := x) 0 h1 h2
 clear hW hi hvi
 go_enter Tryz.func39, Tryz.ntmps39
 go_wp2_with fail
 refine HB.out.mono ?_
 rintro e w1 ⟨x, rfl, h1, h2⟩
 have HP1 := hide (HP.out w1 x h1 h2)
 obtain ⟨a1, c1, rfl, _, _⟩ := h1.form
 clear h1 h2
 generalize (numB v).length = m at *
 go_wp2_with fail
 refine HP1.out.mono ?_
 rintro e w2 ⟨rfl, H⟩
 go_wp2
 go_end0
 exact ⟨rfl, H⟩

end Go.Proofs.YtggpaljilpbmhaaGreatDoor
