import Derived.Test.YthbpacilceemlaaM8
import Derived.Test.YthbpacilceemlaaPWriterC
import Derived.Test.YthbpacilceemlaaPUtfC
namespace Go.Proofs.Ythbpacilceemlaa
open Go.RowKit Crc

/-! The writer's methods once more, with what they touch: the writer's own block and its list's. -/
/-- The blocks of a writer: its own, and its list's (which lies in cell j). -/
def Foot (w : World) (p j k : Nat) : Prop := k = p ∨ ∃ u, w.cell? ⟨p, j, none⟩ = some u ∧ u.ownBlock = some k
/-- Nothing but these was touched; what is new of them is new memory. -/
structure Tch (j : Nat) (w w' : World) (p : Nat) : Prop where
  os : w'.os = w.os
  tape : w'.tape = w.tape
  output : w'.output = w.output
  size : w.heap.size ≤ w'.heap.size
  keep : ∀ k, k < w.heap.size → ¬ Foot w p j k → w'.heap[k]? = w.heap[k]?
  foot : ∀ k, Foot w' p j k → Foot w p j k ∨ w.heap.size ≤ k
theorem Foot.old {w w1 : World} {p j k : Nat} (hb : Below w.heap.size w w1) (hp : p < w.heap.size) : Foot w1 p j k ↔ Foot w p j k := by
  unfold Foot
  rw [hb.cell (p := ⟨p, j, none⟩) hp]
theorem Tch.from {j p : Nat} {w w1 w2 : World} (hb : Below w.heap.size w w1) (hp : p < w.heap.size) (h : Tch j w1 w2 p) : Tch j w w2 p :=
  ⟨h.os.trans hb.os, h.tape.trans hb.tape, h.output.trans hb.output, Nat.le_trans hb.size h.size, fun k hk hf => (h.keep k (Nat.lt_of_lt_of_le hk hb.size) (fun e => hf ((Foot.old hb hp).1 e))).trans (hb.block k hk),
   fun k hk => (h.foot k hk).elim (fun e => .inl ((Foot.old hb hp).1 e)) (fun e => .inr (Nat.le_trans hb.size e))⟩
theorem Tch.row {j p : Nat} {w w' : World} (hg : w.grownBy w' (some p)) (hc : w'.cell? ⟨p, j, none⟩ = w.cell? ⟨p, j, none⟩) : Tch j w w' p :=
  ⟨hg.os, hg.tape, hg.output, hg.size, fun k hk hf => hg.block k hk (fun e => hf (.inl (by cases e; rfl))), fun k hk => .inl (by unfold Foot at hk ⊢; rwa [hc] at hk)⟩
theorem Tch.refl (j p : Nat) (w : World) : Tch j w w p := ⟨rfl, rfl, rfl, Nat.le_refl _, fun _ _ _ => rfl, fun _ h => .inl h⟩
structure BT (lim : Nat) (w w' : World) (p : Nat) : Prop where
  below : Below lim w w'
  touch : Tch 4 w w' p
theorem BT.from {lim p : Nat} {w w1 w2 : World} (hb : Below w.heap.size w w1) (hp : p < w.heap.size) (hl : lim ≤ w.heap.size) (h : BT lim w1 w2 p) : BT lim w w2 p :=
  ⟨(hb.mono hl).trans h.below, Tch.from hb hp h.touch⟩
theorem wr_afterx {base lim : Nat} {w w2 : World} {p : Nat} {made : Bool} {place why most : Int} {v v' : Value} {L : List Nat} (hb : w.heap[p]? = some (.cells #[.bool made, .int .i64 place, .int .i64 why, .int .i64 most, v] 81 (0, 0)))
    (hne : v.ownBlock ≠ some p) (hO0 : ∀ g, v.ownBlock = some g → base ≤ g) (hE : Ext w w2 v v') (hO : Owns base w2 v' L) (hl1 : lim ≤ base) (hl2 : lim ≤ p) :
    Wr base (w2.setCell ⟨p, 4, none⟩ v') p made place why most L ∧ BT lim w (w2.setCell ⟨p, 4, none⟩ v') p := by
  obtain ⟨h1, h2⟩ := wr_after hb hne hO0 hE hO hl1 hl2
  have c4 := block_cell hb 4
  simp at c4
  have hp := block_lt hb
  have hb2 : w2.heap[p]? = some (.cells #[.bool made, .int .i64 place, .int .i64 why, .int .i64 most, v] 81 (0, 0)) := (hE.1.block p hp (fun e => hne e.symm)).trans hb
  have hb3 : (w2.setCell ⟨p, 4, none⟩ v').heap[p]? = some (.cells #[.bool made, .int .i64 place, .int .i64 why, .int .i64 most, v'] 81 (0, 0)) := by
    rw [heap_setCell_same w2 p 4 _ _ v' hb2]; rfl
  refine ⟨h1, h2, h2.os, h2.tape, h2.output, by simpa using hE.1.size, fun k hk hf => ?_, fun k hk => ?_⟩
  · have h3 := heap_setCell_other w2 ⟨p, 4, none⟩ k v' (fun e => hf (.inl (by simpa using e)))
    exact h3.trans (hE.1.block k hk (fun e => hf (.inr ⟨v, c4, e.symm⟩)))
  · rcases hk with rfl | ⟨u, hu, hg⟩
    · exact .inl (.inl rfl)
    · have h4 := block_cell hb3 4
      rw [hu] at h4
      simp at h4
      subst h4
      rcases hE.2 k hg with h | h
      · exact .inl (.inr ⟨v, c4, h⟩)
      · exact .inr h
set_option maxRecDepth 10000 in
set_option maxHeartbeats 400000 in
theorem textFault_ok (s : ByteArray) (most : Int) (w : World) (hs : utf8Ok s = true) (hl : (s.size : Int) ≤ most) :
    Calls Try.prog 95 #[.string s, .int .i64 most] w fun e w' => e = .returned (.int .i64 0) ∧ ∃ pos, w' = w.iter s pos := by
  have HT : Hid (Calls Try.prog 114 #[.string s] w fun e w' => e = .returned (.bool true) ∧ ∃ pos, w' = w.iter s pos) := by rw [← hs]; exact isText_any s w
  have d : decide (most < (s.size : Int)) = false := by simp; omega
  clear hs
  go_enter Try.func95, Try.ntmps95
  go_wp2_with fail
  refine HT.out.mono ?_
  rintro e w1 ⟨rfl, pos, rfl⟩
  go_wp2
  go_ret
  exact ⟨rfl, pos, rfl⟩

theorem fixed_goodx (base lim p v s : Nat) (vi si place most : Int) (L : List Nat) (w : World) (hvi : vi = (v : Int)) (hsi : si = (s : Int)) (hs : s ≤ 8) (hW : Wr base w p true place 0 most L) (hm : most ≤ 65507) (hfit : ((L.length + s : Nat) : Int) ≤ most) (hbs : base ≤ w.heap.size) (hl1 : lim ≤ base) (hl2 : lim ≤ p) :
    Calls Try.prog 86 #[.pointer (some ⟨p, 0, none⟩), .int .u64 vi, .int .i64 si] w fun e w' => e = .returned (.tuple #[]) ∧ Wr base w' p true place 0 most (L ++ big v s) ∧ BT lim w w' p := by
  obtain ⟨u, hb, hO, hne⟩ := hW
  obtain ⟨ao, cap, rfl, hS, _⟩ := hO.form
  have c0 := block_cell hb 0
  have c2 := block_cell hb 2
  have c3 := block_cell hb 3
  have c4 := block_cell hb 4
  simp at c0 c2 c3 c4
  have HTK : Hid (Calls Try.prog 89 #[.pointer (some ⟨p, 0, none⟩), .int .i64 si, .int .i64 0] w fun e w' => e = .returned (.bool true) ∧ ∃ q, w' = w.drewN q) := takes_good p most ao L.length cap si w c0 c2 c3 c4 hm (by omega) (by omega)
  have HAP : Hid (∀ q, Calls Try.prog 111 #[.slice ao L.length cap, .int .u64 vi, .int .i64 si] (w.drewN q) fun e w' => ∃ v', e = .returned v' ∧ Owns base w' v' (L ++ big v s) ∧ Ext (w.drewN q) w' (.slice ao L.length cap) v') :=
    fun q => appendHigh_any base v s _ vi si L (w.drewN q) hvi hsi hs (hO.drew q) (by omega) hbs
  have HFIN : Hid (∀ (q : Nat) (w2 : World) (v' : Value), Owns base w2 v' (L ++ big v s) → Ext (w.drewN q) w2 (.slice ao L.length cap) v' → Wr base (w2.setCell ⟨p, 4, none⟩ v') p true place 0 most (L ++ big v s) ∧ BT lim w (w2.setCell ⟨p, 4, none⟩ v') p) := by
    intro q w2 v' ho he
    have he' : Ext w w2 (.slice ao L.length cap) v' := ⟨⟨he.1.os, he.1.tape, he.1.output, he.1.size, he.1.block⟩, he.2⟩
    exact wr_afterx hb hne (fun g hg => (hO.1.lt g hg).1) he' ho hl1 hl2
  have HCL : Hid (∀ (q : Nat) (w2 : World) (v' : Value), Ext (w.drewN q) w2 (.slice ao L.length cap) v' → w2.cell? ⟨p, 4, none⟩ = some (.slice ao L.length cap) ∧ w2.frozen? ⟨p, 4, none⟩ = false) := by
    intro q w2 v' he
    exact wr_cell hb hne (show Ext w w2 (.slice ao L.length cap) v' from ⟨⟨he.1.os, he.1.tape, he.1.output, he.1.size, he.1.block⟩, he.2⟩)
  clear hb hO hne hS c0 c2 c3 hvi hsi
  go_enter Try.func86, Try.ntmps86
  go_wp2_with fail
  refine HTK.out.mono ?_
  rintro e w1 ⟨rfl, q, rfl⟩
  go_wp2_with fail
  refine (HAP.out q).mono ?_
  rintro e w2 ⟨v', rfl, ho, he⟩
  obtain ⟨k4, f4⟩ := HCL.out q w2 v' he
  have HF2 := HFIN.out q w2 v' ho he
  obtain ⟨a', c', rfl, _, _⟩ := ho.form
  have HF2' : Hid (Wr base (w2.setCell ⟨p, 4, none⟩ (.slice a' (L ++ big v s).length c')) p true place 0 most (L ++ big v s) ∧ BT lim w (w2.setCell ⟨p, 4, none⟩ (.slice a' (L ++ big v s).length c')) p) := HF2
  clear HF2 ho he HFIN HCL HAP HTK c4
  generalize (L ++ big v s).length = m at *
  go_wp2
  go_end0
  exact ⟨rfl, HF2'.out⟩

theorem wU8_goodx (base lim p v : Nat) (vi place most : Int) (L : List Nat) (w : World) (hvi : vi = (v : Int)) (hv : v < 256) (hW : Wr base w p true place 0 most L) (hm : most ≤ 65507) (hfit : ((L.length + 1 : Nat) : Int) ≤ most) (hbs : base ≤ w.heap.size) (hl1 : lim ≤ base) (hl2 : lim ≤ p) :
    Calls Try.prog 36 #[.pointer (some ⟨p, 0, none⟩), .int .u8 vi] w fun e w' => e = .returned (.tuple #[]) ∧ Wr base w' p true place 0 most (L ++ big v 1) ∧ BT lim w w' p := by
  have HF : Hid (Calls Try.prog 86 #[.pointer (some ⟨p, 0, none⟩), .int .u64 vi, .int .i64 1] w fun e w' => e = .returned (.tuple #[]) ∧ Wr base w' p true place 0 most (L ++ big v 1) ∧ BT lim w w' p) := fixed_goodx base lim p v 1 vi 1 place most L w hvi rfl (by omega) hW hm hfit hbs hl1 hl2
  have h0 : 0 ≤ vi := by omega
  have h1 : vi < 256 := by omega
  clear hW hvi
  go_enter Try.func36, Try.ntmps36
  go_wp2_with fail
  refine HF.out.mono ?_
  rintro e w1 ⟨rfl, hr⟩
  have HR : Hid (Wr base w1 p true place 0 most (L ++ big v 1) ∧ BT lim w w1 p) := hr
  clear hr
  go_wp2
  go_end0
  exact ⟨rfl, HR.out⟩

theorem wU16_goodx (base lim p v : Nat) (vi place most : Int) (L : List Nat) (w : World) (hvi : vi = (v : Int)) (hv : v < 65536) (hW : Wr base w p true place 0 most L) (hm : most ≤ 65507) (hfit : ((L.length + 2 : Nat) : Int) ≤ most) (hbs : base ≤ w.heap.size) (hl1 : lim ≤ base) (hl2 : lim ≤ p) :
    Calls Try.prog 38 #[.pointer (some ⟨p, 0, none⟩), .int .u16 vi] w fun e w' => e = .returned (.tuple #[]) ∧ Wr base w' p true place 0 most (L ++ big v 2) ∧ BT lim w w' p := by
  have HF : Hid (Calls Try.prog 86 #[.pointer (some ⟨p, 0, none⟩), .int .u64 vi, .int .i64 2] w fun e w' => e = .returned (.tuple #[]) ∧ Wr base w' p true place 0 most (L ++ big v 2) ∧ BT lim w w' p) := fixed_goodx base lim p v 2 vi 2 place most L w hvi rfl (by omega) hW hm hfit hbs hl1 hl2
  have h0 : 0 ≤ vi := by omega
  have h1 : vi < 65536 := by omega
  clear hW hvi
  go_enter Try.func38, Try.ntmps38
  go_wp2_with fail
  refine HF.out.mono ?_
  rintro e w1 ⟨rfl, hr⟩
  have HR : Hid (Wr base w1 p true place 0 most (L ++ big v 2) ∧ BT lim w w1 p) := hr
  clear hr
  go_wp2
  go_end0
  exact ⟨rfl, HR.out⟩

theorem wU32_goodx (base lim p v : Nat) (vi place most : Int) (L : List Nat) (w : World) (hvi : vi = (v : Int)) (hv : v < 4294967296) (hW : Wr base w p true place 0 most L) (hm : most ≤ 65507) (hfit : ((L.length + 4 : Nat) : Int) ≤ most) (hbs : base ≤ w.heap.size) (hl1 : lim ≤ base) (hl2 : lim ≤ p) :
    Calls Try.prog 39 #[.pointer (some ⟨p, 0, none⟩), .int .u32 vi] w fun e w' => e = .returned (.tuple #[]) ∧ Wr base w' p true place 0 most (L ++ big v 4) ∧ BT lim w w' p := by
  have HF : Hid (Calls Try.prog 86 #[.pointer (some ⟨p, 0, none⟩), .int .u64 vi, .int .i64 4] w fun e w' => e = .returned (.tuple #[]) ∧ Wr base w' p true place 0 most (L ++ big v 4) ∧ BT lim w w' p) := fixed_goodx base lim p v 4 vi 4 place most L w hvi rfl (by omega) hW hm hfit hbs hl1 hl2
  have h0 : 0 ≤ vi := by omega
  have h1 : vi < 4294967296 := by omega
  clear hW hvi
  go_enter Try.func39, Try.ntmps39
  go_wp2_with fail
  refine HF.out.mono ?_
  rintro e w1 ⟨rfl, hr⟩
  have HR : Hid (Wr base w1 p true place 0 most (L ++ big v 4) ∧ BT lim w w1 p) := hr
  clear hr
  go_wp2
  go_end0
  exact ⟨rfl, HR.out⟩

theorem wU64_goodx (base lim p v : Nat) (vi place most : Int) (L : List Nat) (w : World) (hvi : vi = (v : Int)) (hW : Wr base w p true place 0 most L) (hm : most ≤ 65507) (hfit : ((L.length + 8 : Nat) : Int) ≤ most) (hbs : base ≤ w.heap.size) (hl1 : lim ≤ base) (hl2 : lim ≤ p) :
    Calls Try.prog 40 #[.pointer (some ⟨p, 0, none⟩), .int .u64 vi] w fun e w' => e = .returned (.tuple #[]) ∧ Wr base w' p true place 0 most (L ++ big v 8) ∧ BT lim w w' p := by
  have HF : Hid (Calls Try.prog 86 #[.pointer (some ⟨p, 0, none⟩), .int .u64 vi, .int .i64 8] w fun e w' => e = .returned (.tuple #[]) ∧ Wr base w' p true place 0 most (L ++ big v 8) ∧ BT lim w w' p) := fixed_goodx base lim p v 8 vi 8 place most L w hvi rfl (by omega) hW hm hfit hbs hl1 hl2
  clear hW hvi
  go_enter Try.func40, Try.ntmps40
  go_wp2_with fail
  refine HF.out.mono ?_
  rintro e w1 ⟨rfl, hr⟩
  have HR : Hid (Wr base w1 p true place 0 most (L ++ big v 8) ∧ BT lim w w1 p) := hr
  clear hr
  go_wp2
  go_end0
  exact ⟨rfl, HR.out⟩

theorem wFlag_goodx (base lim p : Nat) (b : Bool) (place most : Int) (L : List Nat) (w : World) (hW : Wr base w p true place 0 most L) (hm : most ≤ 65507) (hfit : ((L.length + 1 : Nat) : Int) ≤ most) (hbs : base ≤ w.heap.size) (hl1 : lim ≤ base) (hl2 : lim ≤ p) :
    Calls Try.prog 43 #[.pointer (some ⟨p, 0, none⟩), .bool b] w fun e w' => e = .returned (.tuple #[]) ∧ Wr base w' p true place 0 most (L ++ big (if b then 1 else 0) 1) ∧ BT lim w w' p := by
  cases b
  · have HF : Hid (Calls Try.prog 36 #[.pointer (some ⟨p, 0, none⟩), .int .u8 0] w fun e w' => e = .returned (.tuple #[]) ∧ Wr base w' p true place 0 most (L ++ big 0 1) ∧ BT lim w w' p) := wU8_goodx base lim p 0 0 place most L w rfl (by omega) hW hm hfit hbs hl1 hl2
    clear hW
    go_enter Try.func43, Try.ntmps43
    go_wp2_with fail
    refine HF.out.mono ?_
    rintro e w1 ⟨rfl, hr⟩
    have HR : Hid (Wr base w1 p true place 0 most (L ++ big 0 1) ∧ BT lim w w1 p) := hr
    clear hr
    go_wp2
    go_end0
    exact ⟨rfl, HR.out⟩
  · have HF : Hid (Calls Try.prog 36 #[.pointer (some ⟨p, 0, none⟩), .int .u8 1] w fun e w' => e = .returned (.tuple #[]) ∧ Wr base w' p true place 0 most (L ++ big 1 1) ∧ BT lim w w' p) := wU8_goodx base lim p 1 1 place most L w rfl (by omega) hW hm hfit hbs hl1 hl2
    clear hW
    go_enter Try.func43, Try.ntmps43
    go_wp2_with fail
    refine HF.out.mono ?_
    rintro e w1 ⟨rfl, hr⟩
    have HR : Hid (Wr base w1 p true place 0 most (L ++ big 1 1) ∧ BT lim w w1 p) := hr
    clear hr
    go_wp2
    go_end0
    exact ⟨rfl, HR.out⟩

theorem wr_openx {base lim p : Nat} {w : World} {place most : Int} {L : List Nat} (hW : Wr base w p true place 0 most L) (hm : most ≤ 65507) (hlen : (L.length : Int) ≤ most) (hl1 : lim ≤ base) (hl2 : lim ≤ p) :
    ∃ (ao : Option Addr) (cap : Nat), w.cell? ⟨p, 4, none⟩ = some (.slice ao L.length cap) ∧ Owns base w (.slice ao L.length cap) L ∧
      (∀ sz : Int, sz ≤ most - (L.length : Int) → Calls Try.prog 89 #[.pointer (some ⟨p, 0, none⟩), .int .i64 sz, .int .i64 0] w fun e w' => e = .returned (.bool true) ∧ ∃ q, w' = w.drewN q) ∧
      (∀ (w2 : World) (v' : Value) (L' : List Nat), Owns base w2 v' L' → Ext w w2 (.slice ao L.length cap) v' → w2.cell? ⟨p, 4, none⟩ = some (.slice ao L.length cap) ∧ w2.frozen? ⟨p, 4, none⟩ = false ∧ Wr base (w2.setCell ⟨p, 4, none⟩ v') p true place 0 most L' ∧ BT lim w (w2.setCell ⟨p, 4, none⟩ v') p) := by
  obtain ⟨u, hb, hO, hne⟩ := hW
  obtain ⟨ao, cap, rfl, hS, _⟩ := hO.form
  have c0 := block_cell hb 0
  have c2 := block_cell hb 2
  have c3 := block_cell hb 3
  have c4 := block_cell hb 4
  simp at c0 c2 c3 c4
  refine ⟨ao, cap, c4, hO, fun sz hsz => takes_good p most ao L.length cap sz w c0 c2 c3 c4 hm hlen hsz, fun w2 v' L' ho he => ?_⟩
  obtain ⟨k4, f4⟩ := wr_cell hb hne he
  exact ⟨k4, f4, wr_afterx hb hne (fun g hg => (hO.1.lt g hg).1) he ho hl1 hl2⟩

theorem wNum_goodx (base lim p v : Nat) (vi place most : Int) (L : List Nat) (w : World) (hvi : vi = (v : Int)) (hv : v < 18446744073709551616) (hW : Wr base w p true place 0 most L) (hm : most ≤ 65507) (hfit : ((L.length + (numB v).length : Nat) : Int) ≤ most) (hbs : base ≤ w.heap.size) (hl1 : lim ≤ base) (hl2 : lim ≤ p) :
    Calls Try.prog 41 #[.pointer (some ⟨p, 0, none⟩), .int .u64 vi] w fun e w' => e = .returned (.tuple #[]) ∧ Wr base w' p true place 0 most (L ++ numB v) ∧ BT lim w w' p := by
  obtain ⟨ao, cap, c4, hO, htk, hfin⟩ := wr_openx hW hm (by omega) hl1 hl2
  have HNS : Hid (Calls Try.prog 90 #[.int .u64 vi] w fun e w' => e = .returned (.int .i64 ((numB v).length : Nat)) ∧ w' = w) := numSize_any v vi w hvi hv
  have HTK : Hid (Calls Try.prog 89 #[.pointer (some ⟨p, 0, none⟩), .int .i64 ((numB v).length : Nat), .int .i64 0] w fun e w' => e = .returned (.bool true) ∧ ∃ q, w' = w.drewN q) := htk _ (by omega)
  have HAP : Hid (∀ q, Calls Try.prog 91 #[.slice ao L.length cap, .int .u64 vi] (w.drewN q) fun e w' => ∃ v', e = .returned v' ∧ Owns base w' v' (L ++ numB v) ∧ Ext (w.drewN q) w' (.slice ao L.length cap) v') :=
    fun q => appendNum_any base _ L v vi (w.drewN q) hvi hv (hO.drew q) (by omega) hbs
  have HFIN := hide hfin
  clear hfin htk hO hW hvi
  generalize (numB v).length = ns at *
  go_enter Try.func41, Try.ntmps41
  go_wp2_with fail
  refine HNS.out.mono ?_
  rintro e w0 ⟨rfl, rfl⟩
  go_wp2_with fail
  refine HTK.out.mono ?_
  rintro e w1 ⟨rfl, q, rfl⟩
  go_wp2_with fail
  refine (HAP.out q).mono ?_
  rintro e w2 ⟨v', rfl, ho, he⟩
  obtain ⟨k4, f4, hr⟩ := HFIN.out w2 v' _ ho (ext_drew he)
  obtain ⟨a', c', rfl, _, _⟩ := ho.form
  have HR := hide hr
  clear hr ho he HFIN HAP HTK HNS c4
  generalize (L ++ numB v).length = m at *
  go_wp2
  go_end0
  exact ⟨rfl, HR.out⟩

theorem wCount_goodx (base lim p v : Nat) (vi cm place most : Int) (L : List Nat) (w : World) (hvi : vi = (v : Int)) (hv : v < 9223372036854775808) (hcm : vi ≤ cm) (hW : Wr base w p true place 0 most L) (hm : most ≤ 65507) (hfit : ((L.length + (numB v).length : Nat) : Int) ≤ most) (hbs : base ≤ w.heap.size) (hl1 : lim ≤ base) (hl2 : lim ≤ p) :
    Calls Try.prog 45 #[.pointer (some ⟨p, 0, none⟩), .int .i64 vi, .int .i64 cm] w fun e w' => e = .returned (.tuple #[]) ∧ Wr base w' p true place 0 most (L ++ numB v) ∧ BT lim w w' p := by
  obtain ⟨ao, cap, c4, hO, htk, hfin⟩ := wr_openx hW hm (by omega) hl1 hl2
  have HNS : Hid (Calls Try.prog 90 #[.int .u64 vi] w fun e w' => e = .returned (.int .i64 ((numB v).length : Nat)) ∧ w' = w) := numSize_any v vi w hvi (by omega)
  have HCF : Hid (Calls Try.prog 93 #[.int .i64 vi, .int .i64 cm] w fun e w' => e = .returned (.int .i64 0) ∧ w' = w) := countFault_good vi cm w (by omega) hcm
  have HTK : Hid (Calls Try.prog 89 #[.pointer (some ⟨p, 0, none⟩), .int .i64 ((numB v).length : Nat), .int .i64 0] w fun e w' => e = .returned (.bool true) ∧ ∃ q, w' = w.drewN q) := htk _ (by omega)
  have HAP : Hid (∀ q, Calls Try.prog 91 #[.slice ao L.length cap, .int .u64 vi] (w.drewN q) fun e w' => ∃ v', e = .returned v' ∧ Owns base w' v' (L ++ numB v) ∧ Ext (w.drewN q) w' (.slice ao L.length cap) v') :=
    fun q => appendNum_any base _ L v vi (w.drewN q) hvi (by omega) (hO.drew q) (by omega) hbs
  have HFIN := hide hfin
  have h0 : 0 ≤ vi := by omega
  have h1 : vi ≤ 9223372036854775807 := by omega
  clear hfin htk hO hW hvi
  generalize (numB v).length = ns at *
  go_enter Try.func45, Try.ntmps45
  go_wp2_with fail
  refine HNS.out.mono ?_
  rintro e w0 ⟨rfl, rfl⟩
  go_wp2_with fail
  refine HCF.out.mono ?_
  rintro e w0 ⟨rfl, rfl⟩
  go_wp2_with fail
  refine HTK.out.mono ?_
  rintro e w1 ⟨rfl, q, rfl⟩
  go_wp2_with fail
  refine (HAP.out q).mono ?_
  rintro e w2 ⟨v', rfl, ho, he⟩
  obtain ⟨k4, f4, hr⟩ := HFIN.out w2 v' _ ho (ext_drew he)
  obtain ⟨a', c', rfl, _, _⟩ := ho.form
  have HR := hide hr
  clear hr ho he HFIN HAP HTK HNS HCF c4
  generalize (L ++ numB v).length = m at *
  go_wp2
  go_end0
  exact ⟨rfl, HR.out⟩

theorem wBlob_genx (base lim p : Nat) (bo : Option Addr) (n bcap blim : Nat) (B : List Nat) (cm place most : Int) (L : List Nat) (w : World) (hS : Shows blim w bo n bcap B) (hKP : ∀ (u v' : Value) (w2 : World), w.cell? ⟨p, 4, none⟩ = some u → Ext w w2 u v' → Shows blim w2 bo n bcap B) (hcm : (n : Int) ≤ cm) (hW : Wr base w p true place 0 most L) (hm : most ≤ 65507) (hfit : ((L.length + (numB n).length + n : Nat) : Int) ≤ most) (hbs : base ≤ w.heap.size) (hl1 : lim ≤ base) (hl2 : lim ≤ p) :
    Calls Try.prog 47 #[.pointer (some ⟨p, 0, none⟩), .slice bo n bcap, .int .i64 cm] w fun e w' => e = .returned (.tuple #[]) ∧ Wr base w' p true place 0 most (L ++ numB n ++ B) ∧ BT lim w w' p := by
  obtain ⟨i0, hi, hz0, hz1, hz2⟩ := info_parts Try.info5
  obtain ⟨ao, cap, c4, hO, htk, hfin⟩ := wr_openx hW hm (by omega) hl1 hl2
  have hn47 := hS.2.2.1
  have HNS : Hid (Calls Try.prog 90 #[.int .u64 (n : Int)] w fun e w' => e = .returned (.int .i64 ((numB n).length : Nat)) ∧ w' = w) := numSize_any n _ w rfl (by omega)
  have HCF : Hid (Calls Try.prog 93 #[.int .i64 (n : Int), .int .i64 cm] w fun e w' => e = .returned (.int .i64 0) ∧ w' = w) := countFault_good n cm w (by omega) hcm
  have HTK : Hid (Calls Try.prog 89 #[.pointer (some ⟨p, 0, none⟩), .int .i64 (((numB n).length : Nat) + (n : Int)), .int .i64 0] w fun e w' => e = .returned (.bool true) ∧ ∃ q, w' = w.drewN q) := htk _ (by omega)
  have HAP : Hid (∀ q, Calls Try.prog 91 #[.slice ao L.length cap, .int .u64 (n : Int)] (w.drewN q) fun e w' => ∃ v', e = .returned v' ∧ Owns base w' v' (L ++ numB n) ∧ Ext (w.drewN q) w' (.slice ao L.length cap) v') :=
    fun q => appendNum_any base _ L n _ (w.drewN q) rfl (by omega) (hO.drew q) (by omega) hbs
  have HKP : Hid (∀ (w2 : World) (v' : Value), Ext w w2 (.slice ao L.length cap) v' → Shows blim w2 bo n bcap B) := fun w2 v' he => hKP _ v' w2 c4 he
  have HFIN := hide hfin
  have HNB : Hid (n = B.length) := hS.1
  have hnl : (numB n).length ≤ 10 := numTo_len 9 n
  have HBS : Hid (∀ (w2 : World) (v' : Value), Ext w w2 (.slice ao L.length cap) v' → base ≤ w2.heap.size) := fun w2 v' he => Nat.le_trans hbs he.1.size
  clear hfin htk hO hW hS hKP
  generalize hns : (numB n).length = ns at *
  have HNS2 := hide hns
  clear hns
  go_enter Try.func47, Try.ntmps47
  go_wp2_with fail
  refine HNS.out.mono ?_
  rintro e w0 ⟨rfl, rfl⟩
  go_wp2_with fail
  refine HCF.out.mono ?_
  rintro e w0 ⟨rfl, rfl⟩
  go_wp2_with fail
  refine HTK.out.mono ?_
  rintro e w1 ⟨rfl, q, rfl⟩
  go_wp2_with fail
  refine (HAP.out q).mono ?_
  rintro e w2 ⟨v', rfl, ho, he⟩
  have HE := hide (ext_drew he)
  have HO := hide ho
  obtain ⟨a', c', rfl, hs', _⟩ := ho.form
  have hcap' : (L ++ numB n).length ≤ c' := hs'.2.1
  have HSB := hide (HKP.out w2 _ HE.out)
  have hll : (L ++ numB n).length = L.length + ns := by rw [List.length_append, HNS2.out]
  have HLL := hide hll
  have hbd : (L ++ numB n).length ≤ 100000 := by omega
  clear ho he hs' HAP HTK HNS HCF HKP hll
  generalize hm' : (L ++ numB n).length = m at *
  by_cases hn0 : n = 0
  · obtain rfl : n = 0 := hn0
    have HB0 : Hid (B = []) := List.eq_nil_of_length_eq_zero HNB.out.symm
    obtain ⟨k4, f4, hr⟩ := HFIN.out w2 _ _ HO.out HE.out
    have HR := hide hr
    have HAN := hide (fun wx => append_none_run a' bo m c' bcap hcap' wx)
    clear hr HFIN c4 hm'
    go_wp2_with (first
      | (at_builtin; refine wpList_append_nothing rfl (.tmp 27) (.tmp 28) 29 rfl _ _ rfl rfl (HAN.out _) ?_))
    go_end0
    refine ⟨rfl, ?_⟩
    rw [HB0.out, List.append_nil]
    exact HR.out
  · obtain ⟨hq1, _, _, hBlt, bb, oo, q5, q6, q7⟩ := HSB.out
    clear hq1
    obtain rfl := q5 (by omega)
    have HSRC := hide (vals_cell (B := B) (w := w2) (b := bb) (off := oo) (fun i hi => q7 i (by have := HNB.out; omega)))
    have HBLT := hide hBlt
    have HOW : Hid (w2.ownsRow base 5 1 (.slice a' m c') m (vals (L ++ numB n))) := by
      have h := HO.out.1
      rw [hm'] at h
      exact h
    have HMM := hide hm'
    clear q5 q6 q7 hBlt hm'
    go_wp2_with (first
      | (at_builtin; refine wpList_append_ext _ rfl (.tmp 27) (.tmp 28) 29 rfl base 5 i0 (.int .u8 0) Try.underlying29 hi hz0 hz1 hz2 rfl _ m (vals (L ++ numB n)) rfl HOW.out ⟨bb, oo, none⟩ n bcap (vals B) rfl (by rw [vals_len]; exact HNB.out.symm) HSRC.out (vals_one' B) (by omega) (by omega) (HBS.out w2 _ HE.out) ?_; intro v' w3 hown3 hext3; have HO3 : Hid (Owns base w3 v' (L ++ numB n ++ B)) := owns_join HO.out HBLT.out (by rw [HMM.out, ← HNB.out]; omega) (by rw [HMM.out, ← HNB.out]; exact hown3); obtain ⟨k4, f4, hr⟩ := HFIN.out w3 v' _ HO3.out (HE.out.trans hext3); obtain ⟨a3, c3, rfl, _, _⟩ := HO3.out.form; have HR := hide hr; clear hr hown3 hext3))
    go_end0
    refine ⟨rfl, ?_⟩
    rw [show L.length + ((numB n).length + B.length) = (L ++ numB n ++ B).length by simp]
    exact HR.out

theorem wText_goodx (base lim p : Nat) (s : ByteArray) (cm place most : Int) (L : List Nat) (w : World) (hs : utf8Ok s = true) (hcm : (s.size : Int) ≤ cm) (hW : Wr base w p true place 0 most L) (hm : most ≤ 65507) (hfit : ((L.length + (numB s.size).length + s.size : Nat) : Int) ≤ most) (hbs : base ≤ w.heap.size) (hl1 : lim ≤ base) (hl2 : lim ≤ p) :
    Calls Try.prog 49 #[.pointer (some ⟨p, 0, none⟩), .string s, .int .i64 cm] w fun e w' => e = .returned (.tuple #[]) ∧ Wr base w' p true place 0 most (L ++ numB s.size ++ strB s) ∧ BT lim w w' p := by
  obtain ⟨i0, hi, hz0, hz1, hz2⟩ := info_parts Try.info5
  have hlw : lim ≤ w.heap.size := by omega
  have HTF := hide (textFault_ok s cm w hs hcm)
  have HNS : Hid (Calls Try.prog 90 #[.int .u64 (s.size : Int)] w fun e w' => e = .returned (.int .i64 ((numB s.size).length : Nat)) ∧ w' = w) := numSize_any s.size _ w rfl (by omega)
  have HOP := hide (fun (w1 : World) (pos : Nat) (h : w1 = w.iter s pos) => wr_openx (lim := lim) (w := w1) (place := place) (most := most) (L := L) (by rw [h]; exact hW.alloc (.stringIter s pos)) hm (by omega) hl1 hl2)
  have HBI : Hid (∀ pos, Below w.heap.size w (w.iter s pos) ∧ base ≤ (w.iter s pos).heap.size) := fun pos => ⟨(Below.refl _ w).alloc (Nat.le_refl _) _, by unfold World.iter; simp; omega⟩
  have HPL : Hid (p < w.heap.size) := by obtain ⟨u, hb, _⟩ := hW; exact block_lt hb
  have HLW := hide hlw
  have hnl : (numB s.size).length ≤ 10 := numTo_len 9 s.size
  have hsz : s.size ≤ 65507 := by omega
  have HST := hide (strB_vals s)
  have HSL := hide (strB_len s)
  clear hW hs
  generalize hns : (numB s.size).length = ns at *
  have HNS2 := hide hns
  clear hns
  go_enter Try.func49, Try.ntmps49
  go_wp2_with fail
  refine HNS.out.mono ?_
  rintro e w0 ⟨rfl, rfl⟩
  go_wp2_with fail
  refine HTF.out.mono ?_
  rintro e w1 ⟨rfl, pos, hw1⟩
  obtain ⟨ao, cap, c4, hO, htk, hfin⟩ := HOP.out w1 pos hw1
  obtain ⟨hbel, hbs1⟩ := HBI.out pos
  rw [← hw1] at hbel hbs1
  have HFIN := hide hfin
  have HTK : Hid (Calls Try.prog 89 #[.pointer (some ⟨p, 0, none⟩), .int .i64 ((ns : Int) + (s.size : Int)), .int .i64 0] w1 fun e w' => e = .returned (.bool true) ∧ ∃ q, w' = w1.drewN q) := htk _ (by omega)
  have HAP : Hid (∀ q, Calls Try.prog 91 #[.slice ao L.length cap, .int .u64 (s.size : Int)] (w1.drewN q) fun e w' => ∃ v', e = .returned v' ∧ Owns base w' v' (L ++ numB s.size) ∧ Ext (w1.drewN q) w' (.slice ao L.length cap) v') :=
    fun q => appendNum_any base _ L s.size _ (w1.drewN q) rfl (by omega) (hO.drew q) (by omega) hbs1
  have HBEL := hide hbel
  have HBS : Hid (∀ (w2 : World) (v' : Value), Ext w1 w2 (.slice ao L.length cap) v' → base ≤ w2.heap.size) := fun w2 v' he => Nat.le_trans hbs1 he.1.size
  clear hfin htk hO hw1 HOP HBI hbel hbs1 HNS HTF
  go_wp2_with fail
  refine HTK.out.mono ?_
  rintro e w3 ⟨rfl, q, rfl⟩
  go_wp2_with fail
  refine (HAP.out q).mono ?_
  rintro e w2 ⟨v', rfl, ho, he⟩
  have HE := hide (ext_drew he)
  have HO := hide ho
  obtain ⟨a', c', rfl, hs', _⟩ := ho.form
  have hll : (L ++ numB s.size).length = L.length + ns := by rw [List.length_append, HNS2.out]
  have hbd : (L ++ numB s.size).length ≤ 65507 := by omega
  clear ho he hs' HAP HTK hll
  generalize hm' : (L ++ numB s.size).length = m at *
  have HOW : Hid (w2.ownsRow base 5 1 (.slice a' m c') m (vals (L ++ numB s.size))) := by
    have h := HO.out.1
    rw [hm'] at h
    exact h
  have HMM := hide hm'
  clear hm'
  go_wp2_with (first
    | (at_builtin; refine wpList_append_string_ext _ rfl (.tmp 26) (.tmp 27) 29 9 rfl base 5 i0 Try.underlying29 Try.underlying9 hi hz0 hz1 hz2 _ m (vals (L ++ numB s.size)) rfl HOW.out s rfl (by omega) (HBS.out w2 _ HE.out) ?_; intro v' w3 hown3 hext3; have HO3 : Hid (Owns base w3 v' (L ++ numB s.size ++ strB s)) := owns_join HO.out (strB_lt s) (by rw [HMM.out, HSL.out]; omega) (by rw [HMM.out, HSL.out, HST.out]; exact hown3); obtain ⟨k4, f4, hr⟩ := HFIN.out w3 v' _ HO3.out (HE.out.trans hext3); obtain ⟨a3, c3, rfl, _, _⟩ := HO3.out.form; have HR := hide hr; clear hr hown3 hext3))
  go_end0
  refine ⟨rfl, ?_⟩
  first
    | exact ⟨HR.out.1, BT.from HBEL.out HPL.out HLW.out HR.out.2⟩
    | (rw [show L.length + ((numB s.size).length + (strB s).length) = (L ++ numB s.size ++ strB s).length by simp]; exact ⟨HR.out.1, BT.from HBEL.out HPL.out HLW.out HR.out.2⟩)

end Go.Proofs.Ythbpacilceemlaa
