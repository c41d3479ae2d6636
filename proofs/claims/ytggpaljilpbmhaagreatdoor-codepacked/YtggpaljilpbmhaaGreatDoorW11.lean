import Derived.Test.YtggpaljilpbmhaaGreatDoorW10
import Derived.Lib.RuneCountTail
import Derived.Test.YtggpaljilpbmhaaGreatDoorW13
import Derived.Test.YtggpaljilpbmhaaGreatDoorW15
import Derived.Test.YtggpaljilpbmhaaGreatDoorW04
namespace Go.Proofs.YtggpaljilpbmhaaGreatDoor
open Go.RowKit Crc

end Go.Proofs.YtggpaljilpbmhaaGreatDoor
namespace Go.Proofs.YtggpaljilpbmhaaGreatDoor
open Go.RowKit Crc

end Go.Proofs.YtggpaljilpbmhaaGreatDoor
namespace Go.Proofs.YtggpaljilpbmhaaGreatDoor
open Go.RowKit Crc
variable {K : Kd}

/-! The writer's methods once more, with what they touch: the writer's own block and its list's. -/
/-- The blocks of a writer: its own, and its list's (which lies in cell j). -/
def Foot (w : World) (p j k : Nat) : Prop := k = p ∨ ∃ u, w.cell? ⟨p, j, none⟩ = some u ∧ u.ownBlock = some k
/-- Nothing but these was touched; what is new of them is new memory. -/
structure Tch (j : Nat) (w w' : World) (p : Nat) : Prop where
 os : w'.os = w.os
 tape : w'.tape = w.tape
 output : w'.output = w.output
 size : w.heap.size ≤ w'.heap.size
 keep : ∀ k, k < w.heap.size → ¬ Foot w p j k → w'.heap[k]? = w.heap[k]?
 foot : ∀ k, Foot w' p j k → Foot w p j k ∨ w.heap.size ≤ k
theorem Foot.old {w w1 : World} {p j k : Nat} (hb : Below w.heap.size w w1) (hp : p < w.heap.size) : Foot w1 p j k ↔ Foot w p j k := by
 unfold Foot
 rw [hb.cell (p := ⟨p, j, none⟩) hp]
theorem Tch.from {j p : Nat} {w w1 w2 : World} (hb : Below w.heap.size w w1) (hp : p < w.heap.size) (h : Tch j w1 w2 p) : Tch j w w2 p :=
 ⟨h.os.trans hb.os, h.tape.trans hb.tape, h.output.trans hb.output, Nat.le_trans hb.size h.size, fun k hk hf => (h.keep k (Nat.lt_of_lt_of_le hk hb.size) (fun e => hf ((Foot.old hb hp).1 e))).trans (hb.block k hk),
  fun k hk => (h.foot k hk).elim (fun e => .inl ((Foot.old hb hp).1 e)) (fun e => .inr (Nat.le_trans hb.size e))⟩
theorem Tch.row {j p : Nat} {w w' : World} (hg : w.grownBy w' (some p)) (hc : w'.cell? ⟨p, j, none⟩ = w.cell? ⟨p, j, none⟩) : Tch j w w' p :=
 ⟨hg.os, hg.tape, hg.output, hg.size, fun k hk hf => hg.block k hk (fun e => hf (.inl (by cases e; rfl))), fun k hk => .inl (by unfold Foot at hk ⊢; rwa [hc] at hk)⟩
theorem Tch.refl (j p : Nat) (w : World) : Tch j w w p := ⟨rfl, rfl, rfl, Nat.le_refl _, fun _ _ _ => rfl, fun _ h => .inl h⟩
structure BT (lim : Nat) (w w' : World) (p : Nat) : Prop where
 below : Below lim w w'
 touch : Tch 4 w w' p
theorem BT.from {lim p : Nat} {w w1 w2 : World} (hb : Below w.heap.size w w1) (hp : p < w.heap.size) (hl : lim ≤ w.heap.size) (h : BT lim w1 w2 p) : BT lim w w2 p :=
 ⟨(hb.mono hl).trans h.below, Tch.from hb hp h.touch⟩
theorem wr_afterx {base lim : Nat} {w w2 : World} {p : Nat} {made : Bool} {place why most : Int} {v v' : Value} {L : List Nat} (hb : w.heap[p]? = some (.cells (List.toArray (.bool made :: .int .i64 place :: .int .i64 why :: .int .i64 most :: v :: K.R)) K.t (0, 0)))
  (hne : v.ownBlock ≠ some p) (hO0 : ∀ g, v.ownBlock = some g → base ≤ g) (hE : ExtP w w2 v v') (hO : Owns base w2 v' L) (hl1 : lim ≤ base) (hl2 : lim ≤ p) :
  Wr K base (w2.setCell ⟨p, 4, none⟩ v') p made place why most L ∧ BT lim w (w2.setCell ⟨p, 4, none⟩ v') p := by
 obtain ⟨h1, h2⟩ := wr_after hb hne hO0 hE hO hl1 hl2
 have c4 := block_cell hb 4
 simp at c4
 have hp := block_lt hb
 have hb2 : w2.heap[p]? = some (.cells (List.toArray (.bool made :: .int .i64 place :: .int .i64 why :: .int .i64 most :: v :: K.R)) K.t (0, 0)) := (hE.1.block p hp (fun e => hne e.symm)).trans hb
 have hb3 : (w2.setCell ⟨p, 4, none⟩ v').heap[p]? = some (.cells (List.toArray (.bool made :: .int .i64 place :: .int .i64 why :: .int .i64 most :: v' :: K.R)) K.t (0, 0)) := by
  rw [heap_setCell_same w2 p 4 _ _ v' hb2]; rfl
 refine ⟨h1, h2, h2.os, h2.tape, h2.output, by simpa using hE.1.size, fun k hk hf => ?_, fun k hk => ?_⟩
 ·have h3 := heap_setCell_other w2 ⟨p, 4, none⟩ k v' (fun e => hf (.inl (by simpa using e)))
  exact h3.trans (hE.1.block k hk (fun e => hf (.inr ⟨v, c4, e.symm⟩)))
 ·rcases hk with rfl | ⟨u, hu, hg⟩
  ·exact .inl (.inl rfl)
  ·have h4 := block_cell hb3 4
   rw [hu] at h4
   simp at h4
   subst h4
   rcases hE.2 k hg with h | h
   ·exact .inl (.inr ⟨v, c4, h⟩)
   ·exact .inr h
theorem fixed_goodx (base lim p v s : Nat) (vi si place most : Int) (L : List Nat) (w : World) (hvi : vi = (v : Int)) (hsi : si = (s : Int)) (hs : s ≤ 8) (hW : Wr K base w p true place 0 most L) (hm : most ≤ 65507) (hfit : ((L.length + s : Nat) : Int) ≤ most) (hbs : base ≤ w.heap.size) (hl1 : lim ≤ base) (hl2 : lim ≤ p) :
  Calls Tryz.prog 80 #[.pointer (some ⟨p, 0, none⟩), .int .u64 vi, .int .i64 si] w fun e w' => e = .returned (.tuple #[]) ∧ Wr K base w' p true place 0 most (L ++ big v s) ∧ BT lim w w' p := by
 obtain ⟨u, hb, hO, hne⟩ := hW
 obtain ⟨ao, cap, rfl, hS, _⟩ := hO.form
 have c0 := block_cell hb 0
 have c2 := block_cell hb 2
 have c3 := block_cell hb 3
 have c4 := block_cell hb 4
 simp at c0 c2 c3 c4
 have HTK : Hid (Calls Tryz.prog 81 #[.pointer (some ⟨p, 0, none⟩), .int .i64 si, .int .i64 0] w fun e w' => e = .returned (.bool true) ∧ ∃ q, w' = w.drewN q) := takes_good p most ao L.length cap si w c0 c2 c3 c4 hm (by omega) (by omega)
 have HAP : Hid (∀ q, Calls Tryz.prog 129 #[.slice ao L.length cap, .int .u64 vi, .int .i64 si] (w.drewN q) fun e w' => ∃ v', e = .returned v' ∧ Owns base w' v' (L ++ big v s) ∧ ExtP (w.drewN q) w' (.slice ao L.length cap) v') :=
  fun q => appendHigh_any base v s _ vi si L (w.drewN q) hvi hsi hs (hO.drew q) (by omega) hbs
 have HFIN : Hid (∀ (q : Nat) (w2 : World) (v' : Value), Owns base w2 v' (L ++ big v s) → ExtP (w.drewN q) w2 (.slice ao L.length cap) v' → Wr K base (w2.setCell ⟨p, 4, none⟩ v') p true place 0 most (L ++ big v s) ∧ BT lim w (w2.setCell ⟨p, 4, none⟩ v') p) := by
  intro q w2 v' ho he
  have he' : ExtP w w2 (.slice ao L.length cap) v' := ⟨⟨he.1.os, he.1.tape, he.1.output, he.1.size, he.1.block⟩, he.2⟩
  exact wr_afterx hb hne (fun g hg => (hO.1.lt g hg).1) he' ho hl1 hl2
 have HCL : Hid (∀ (q : Nat) (w2 : World) (v' : Value), ExtP (w.drewN q) w2 (.slice ao L.length cap) v' → w2.cell? ⟨p, 4, none⟩ = some (.slice ao L.length cap) ∧ w2.frozen? ⟨p, 4, none⟩ = false) := by
  intro q w2 v' he
  exact wr_cell hb hne (show ExtP w w2 (.slice ao L.length cap) v' from ⟨⟨he.1.os, he.1.tape, he.1.output, he.1.size, he.1.block⟩, he.2⟩)
 clear hb hO hne hS c0 c2 c3 hvi hsi
 go_enter Tryz.func80, Tryz.ntmps80
 go_wp2_with fail
 refine HTK.out.mono ?_
 rintro e w1 ⟨rfl, q, rfl⟩
 go_wp2_with fail
 refine (HAP.out q).mono ?_
 rintro e w2 ⟨v', rfl, ho, he⟩
 obtain ⟨k4, f4⟩ := HCL.out q w2 v' he
 have HF2 := HFIN.out q w2 v' ho he
 obtain ⟨a', c', rfl, _, _⟩ := ho.form
 have HF2' : Hid (Wr K base (w2.setCell ⟨p, 4, none⟩ (.slice a' (L ++ big v s).length c')) p true place 0 most (L ++ big v s) ∧ BT lim w (w2.setCell ⟨p, 4, none⟩ (.slice a' (L ++ big v s).length c')) p) := HF2
 clear HF2 ho he HFIN HCL HAP HTK c4
 generalize (L ++ big v s).length = m at *
 go_wp2
 go_end0
 exact ⟨rfl, HF2'.out⟩

theorem wU8_goodx (base lim p v : Nat) (vi place most : Int) (L : List Nat) (w : World) (hvi : vi = (v : Int)) (hv : v < 256) (hW : Wr K base w p true place 0 most L) (hm : most ≤ 65507) (hfit : ((L.length + 1 : Nat) : Int) ≤ most) (hbs : base ≤ w.heap.size) (hl1 : lim ≤ base) (hl2 : lim ≤ p) :
  Calls Tryz.prog 43 #[.pointer (some ⟨p, 0, none⟩), .int .u8 vi] w fun e w' => e = .returned (.tuple #[]) ∧ Wr K base w' p true place 0 most (L ++ big v 1) ∧ BT lim w w' p := by
 have HF : Hid (Calls Tryz.prog 80 #[.pointer (some ⟨p, 0, none⟩), .int .u64 vi, .int .i64 1] w fun e w' => e = .returned (.tuple #[]) ∧ Wr K base w' p true place 0 most (L ++ big v 1) ∧ BT lim w w' p) := fixed_goodx base lim p v 1 vi 1 place most L w hvi rfl (by omega) hW hm hfit hbs hl1 hl2
 have h0 : 0 ≤ vi := by omega
 have h1 : vi < 256 := by omega
 clear hW hvi
 go_enter Tryz.func43, Tryz.ntmps43
 go_wp2_with fail
 refine HF.out.mono ?_
 rintro e w1 ⟨rfl, hr⟩
 have HR : Hid (Wr K base w1 p true place 0 most (L ++ big v 1) ∧ BT lim w w1 p) := hr
 clear hr
 go_wp2
 go_end0
 exact ⟨rfl, HR.out⟩

end Go.Proofs.YtggpaljilpbmhaaGreatDoor
