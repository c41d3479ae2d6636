import Derived.Test.YtgdliomkdkjlaaaPAppendX
import Derived.Test.YtgdliomkdkjlaaaPNum
namespace Go.Proofs.Ytgdliomkdkjlaaa
open Go.RowKit Crc

/-- A writer as it lies: the block p; what is laid down is its own. -/
def Wr (base : Nat) (w : World) (p : Nat) (made : Bool) (place why most : Int) (L : List Nat) : Prop :=
  ∃ v, w.heap[p]? = some (.cells #[.bool made, .int .i64 place, .int .i64 why, .int .i64 most, v] 71 (0, 0)) ∧ Owns base w v L ∧ v.ownBlock ≠ some p

theorem block_cell {w : World} {p : Nat} {cs : Array Value} {t : TypeId} (h : w.heap[p]? = some (.cells cs t (0, 0))) (j : Nat) : w.cell? ⟨p, j, none⟩ = cs[j]? := cell_of_row w p j cs t (0, 0) h
theorem block_free {w : World} {p : Nat} {cs : Array Value} {t : TypeId} (h : w.heap[p]? = some (.cells cs t (0, 0))) (j : Nat) : w.frozen? ⟨p, j, none⟩ = false := frozen_of_row w p j cs t h
theorem block_lt {w : World} {p : Nat} {o : Obj} (h : w.heap[p]? = some o) : p < w.heap.size := (Array.getElem?_eq_some_iff.1 h).1

set_option maxRecDepth 10000 in
set_option maxHeartbeats 400000 in
theorem sound_any (p : Nat) (made : Bool) (why : Int) (w : World) (h0 : w.cell? ⟨p, 0, none⟩ = some (.bool made)) (h2 : w.cell? ⟨p, 2, none⟩ = some (.int .i64 why)) :
    Calls Try.prog 93 #[.pointer (some ⟨p, 0, none⟩)] w fun e w' => e = .returned (.bool (made && (why == 0))) ∧ w' = w := by
  cases made
  · go_enter Try.func93, Try.ntmps93
    go_wp2
    go_ret
    exact ⟨rfl, rfl⟩
  · go_enter Try.func93, Try.ntmps93
    go_wp2
    go_ret
    exact ⟨rfl, rfl⟩

set_option maxRecDepth 10000 in
set_option maxHeartbeats 400000 in
theorem takes_good (p : Nat) (most : Int) (ao : Option Addr) (n cap : Nat) (sz : Int) (w : World) (h0 : w.cell? ⟨p, 0, none⟩ = some (.bool true)) (h2 : w.cell? ⟨p, 2, none⟩ = some (.int .i64 0)) (h3 : w.cell? ⟨p, 3, none⟩ = some (.int .i64 most)) (h4 : w.cell? ⟨p, 4, none⟩ = some (.slice ao n cap))
  (hm1 : most ≤ 65507) (hm2 : (n : Int) ≤ most) (hfit : sz ≤ most - (n : Int)) :
    Calls Try.prog 73 #[.pointer (some ⟨p, 0, none⟩), .int .i64 sz, .int .i64 0] w fun e w' => e = .returned (.bool true) ∧ ∃ q, w' = w.drewN q := by
  have hd : decide (most - (n : Int) < sz) = false := by simp; omega
  go_enter Try.func73, Try.ntmps73
  go_wp2_with fail
  refine (sound_any p true 0 _ h0 h2).mono ?_
  rintro e w1 ⟨rfl, rfl⟩
  go_wp2_with fail
  go_quiet (fail)
  go_wp2_with fail
  refine (sound_any p true 0 (w1.drewN nq) h0 h2).mono ?_
  rintro e w2 ⟨rfl, rfl⟩
  go_wp2
  go_ret
  exact ⟨rfl, _, rfl⟩

/-- What is laid down has grown, and is put back into the writer. -/
theorem wr_after {base lim : Nat} {w w2 : World} {p : Nat} {made : Bool} {place why most : Int} {v v' : Value} {L : List Nat} (hb : w.heap[p]? = some (.cells #[.bool made, .int .i64 place, .int .i64 why, .int .i64 most, v] 71 (0, 0)))
    (hne : v.ownBlock ≠ some p) (hO0 : ∀ g, v.ownBlock = some g → base ≤ g) (hE : Ext w w2 v v') (hO : Owns base w2 v' L) (hl1 : lim ≤ base) (hl2 : lim ≤ p) :
    Wr base (w2.setCell ⟨p, 4, none⟩ v') p made place why most L ∧ Below lim w (w2.setCell ⟨p, 4, none⟩ v') := by
  have hp := block_lt hb
  have hb2 : w2.heap[p]? = some (.cells #[.bool made, .int .i64 place, .int .i64 why, .int .i64 most, v] 71 (0, 0)) := (hE.1.block p hp (fun e => hne e.symm)).trans hb
  have hne' : v'.ownBlock ≠ some p := by
    intro e
    rcases hE.2 p e with h | h
    · exact hne h
    · omega
  refine ⟨⟨v', ?_, hO.kept (grown_set _ _ _ _) (.inr hne'), hne'⟩, ?_⟩
  · rw [heap_setCell_same w2 p 4 _ _ v' hb2]; rfl
  · refine Below.setCell ?_ hl2 _
    exact ⟨hE.1.os, hE.1.tape, hE.1.output, hE.1.size, fun k hk => hE.1.block k (by omega) (fun e => by have := hO0 k e.symm; omega)⟩
theorem wr_cell {w w2 : World} {p : Nat} {made : Bool} {place why most : Int} {v v' : Value} (hb : w.heap[p]? = some (.cells #[.bool made, .int .i64 place, .int .i64 why, .int .i64 most, v] 71 (0, 0)))
    (hne : v.ownBlock ≠ some p) (hE : Ext w w2 v v') : w2.cell? ⟨p, 4, none⟩ = some v ∧ w2.frozen? ⟨p, 4, none⟩ = false := by
  have hb2 : w2.heap[p]? = some (.cells #[.bool made, .int .i64 place, .int .i64 why, .int .i64 most, v] 71 (0, 0)) := (hE.1.block p (block_lt hb) (fun e => hne e.symm)).trans hb
  exact ⟨block_cell hb2 4, block_free hb2 4⟩

set_option maxRecDepth 10000 in
set_option maxHeartbeats 800000 in
theorem fixed_good (base lim p v s : Nat) (vi si place most : Int) (L : List Nat) (w : World) (hvi : vi = (v : Int)) (hsi : si = (s : Int)) (hs : s ≤ 8) (hW : Wr base w p true place 0 most L) (hm : most ≤ 65507) (hfit : ((L.length + s : Nat) : Int) ≤ most) (hbs : base ≤ w.heap.size) (hl1 : lim ≤ base) (hl2 : lim ≤ p) :
    Calls Try.prog 70 #[.pointer (some ⟨p, 0, none⟩), .int .u64 vi, .int .i64 si] w fun e w' => e = .returned (.tuple #[]) ∧ Wr base w' p true place 0 most (L ++ big v s) ∧ Below lim w w' := by
  obtain ⟨u, hb, hO, hne⟩ := hW
  obtain ⟨ao, cap, rfl, hS, _⟩ := hO.form
  have c0 := block_cell hb 0
  have c2 := block_cell hb 2
  have c3 := block_cell hb 3
  have c4 := block_cell hb 4
  simp at c0 c2 c3 c4
  have HTK : Hid (Calls Try.prog 73 #[.pointer (some ⟨p, 0, none⟩), .int .i64 si, .int .i64 0] w fun e w' => e = .returned (.bool true) ∧ ∃ q, w' = w.drewN q) := takes_good p most ao L.length cap si w c0 c2 c3 c4 hm (by omega) (by omega)
  have HAP : Hid (∀ q, Calls Try.prog 92 #[.slice ao L.length cap, .int .u64 vi, .int .i64 si] (w.drewN q) fun e w' => ∃ v', e = .returned v' ∧ Owns base w' v' (L ++ big v s) ∧ Ext (w.drewN q) w' (.slice ao L.length cap) v') :=
    fun q => appendHigh_any base v s _ vi si L (w.drewN q) hvi hsi hs (hO.drew q) (by omega) hbs
  have HFIN : Hid (∀ (q : Nat) (w2 : World) (v' : Value), Owns base w2 v' (L ++ big v s) → Ext (w.drewN q) w2 (.slice ao L.length cap) v' → Wr base (w2.setCell ⟨p, 4, none⟩ v') p true place 0 most (L ++ big v s) ∧ Below lim w (w2.setCell ⟨p, 4, none⟩ v')) := by
    intro q w2 v' ho he
    have he' : Ext w w2 (.slice ao L.length cap) v' := ⟨⟨he.1.os, he.1.tape, he.1.output, he.1.size, he.1.block⟩, he.2⟩
    exact wr_after hb hne (fun g hg => (hO.1.lt g hg).1) he' ho hl1 hl2
  have HCL : Hid (∀ (q : Nat) (w2 : World) (v' : Value), Ext (w.drewN q) w2 (.slice ao L.length cap) v' → w2.cell? ⟨p, 4, none⟩ = some (.slice ao L.length cap) ∧ w2.frozen? ⟨p, 4, none⟩ = false) := by
    intro q w2 v' he
    exact wr_cell hb hne (show Ext w w2 (.slice ao L.length cap) v' from ⟨⟨he.1.os, he.1.tape, he.1.output, he.1.size, he.1.block⟩, he.2⟩)
  clear hb hO hne hS c0 c2 c3 hvi hsi
  go_enter Try.func70, Try.ntmps70
  go_wp2_with fail
  refine HTK.out.mono ?_
  rintro e w1 ⟨rfl, q, rfl⟩
  go_wp2_with fail
  refine (HAP.out q).mono ?_
  rintro e w2 ⟨v', rfl, ho, he⟩
  obtain ⟨k4, f4⟩ := HCL.out q w2 v' he
  have HF2 := HFIN.out q w2 v' ho he
  obtain ⟨a', c', rfl, _, _⟩ := ho.form
  have HF2' : Hid (Wr base (w2.setCell ⟨p, 4, none⟩ (.slice a' (L ++ big v s).length c')) p true place 0 most (L ++ big v s) ∧ Below lim w (w2.setCell ⟨p, 4, none⟩ (.slice a' (L ++ big v s).length c'))) := HF2
  clear HF2 ho he HFIN HCL HAP HTK c4
  generalize (L ++ big v s).length = m at *
  go_wp2
  go_end0
  exact ⟨rfl, HF2'.out⟩
end Go.Proofs.Ytgdliomkdkjlaaa
