import Derived.Test.YtiijbboigebhcaaGreatDoorM4
import Derived.Test.YtiijbboigebhcaaGreatDoorM7
import Derived.Test.YtiijbboigebhcaaGreatDoorM2
import Derived.Test.YtiijbboigebhcaaGreatDoorM1
import Derived.Deep.RegionHeld
namespace Go.Proofs.YtiijbboigebhcaaGreatDoor
open Go.RowKit Crc
variable {K : Kd}

/-! The writer's methods once more, with what they touch: the writer's own block and its list's. -/
/-- The blocks of a writer: its own, and its list's (which lies in cell j). -/
def Foot (w : World) (p j k : Nat) : Prop := k = p ∨ ∃ u, w.cell? ⟨p, j, none⟩ = some u ∧ u.ownBlock = some k
/-- Nothing but these was touched; what is new of them is new memory. -/
structure Tch (j : Nat) (w w' : World) (p : Nat) : Prop where
  os : w'.os = w.os
  tape : w'.tape = w.tape
  output : w'.output = w.output
  size : w.heap.size ≤ w'.heap.size
  keep : ∀ k, k < w.heap.size → ¬ Foot w p j k → w'.heap[k]? = w.heap[k]?
  foot : ∀ k, Foot w' p j k → Foot w p j k ∨ w.heap.size ≤ k
theorem Foot.old {w w1 : World} {p j k : Nat} (hb : Below w.heap.size w w1) (hp : p < w.heap.size) : Foot w1 p j k ↔ Foot w p j k := by
  unfold Foot
  rw [hb.cell (p := ⟨p, j, none⟩) hp]
theorem Tch.from {j p : Nat} {w w1 w2 : World} (hb : Below w.heap.size w w1) (hp : p < w.heap.size) (h : Tch j w1 w2 p) : Tch j w w2 p :=
  ⟨h.os.trans hb.os, h.tape.trans hb.tape, h.output.trans hb.output, Nat.le_trans hb.size h.size, fun k hk hf => (h.keep k (Nat.lt_of_lt_of_le hk hb.size) (fun e => hf ((Foot.old hb hp).1 e))).trans (hb.block k hk),
   fun k hk => (h.foot k hk).elim (fun e => .inl ((Foot.old hb hp).1 e)) (fun e => .inr (Nat.le_trans hb.size e))⟩
theorem Tch.row {j p : Nat} {w w' : World} (hg : w.grownBy w' (some p)) (hc : w'.cell? ⟨p, j, none⟩ = w.cell? ⟨p, j, none⟩) : Tch j w w' p :=
  ⟨hg.os, hg.tape, hg.output, hg.size, fun k hk hf => hg.block k hk (fun e => hf (.inl (by cases e; rfl))), fun k hk => .inl (by unfold Foot at hk ⊢; rwa [hc] at hk)⟩
theorem Tch.refl (j p : Nat) (w : World) : Tch j w w p := ⟨rfl, rfl, rfl, Nat.le_refl _, fun _ _ _ => rfl, fun _ h => .inl h⟩
structure BT (lim : Nat) (w w' : World) (p : Nat) : Prop where
  below : Below lim w w'
  touch : Tch 4 w w' p
theorem BT.from {lim p : Nat} {w w1 w2 : World} (hb : Below w.heap.size w w1) (hp : p < w.heap.size) (hl : lim ≤ w.heap.size) (h : BT lim w1 w2 p) : BT lim w w2 p :=
  ⟨(hb.mono hl).trans h.below, Tch.from hb hp h.touch⟩
theorem wr_afterx {base lim : Nat} {w w2 : World} {p : Nat} {made : Bool} {place why most : Int} {v v' : Value} {L : List Nat} (hb : w.heap[p]? = some (.cells (List.toArray (.bool made :: .int .i64 place :: .int .i64 why :: .int .i64 most :: v :: K.R)) K.t (0, 0)))
    (hne : v.ownBlock ≠ some p) (hO0 : ∀ g, v.ownBlock = some g → base ≤ g) (hE : Ext w w2 v v') (hO : Owns base w2 v' L) (hl1 : lim ≤ base) (hl2 : lim ≤ p) :
    Wr K base (w2.setCell ⟨p, 4, none⟩ v') p made place why most L ∧ BT lim w (w2.setCell ⟨p, 4, none⟩ v') p := by
  obtain ⟨h1, h2⟩ := wr_after hb hne hO0 hE hO hl1 hl2
  have c4 := block_cell hb 4
  simp at c4
  have hp := block_lt hb
  have hb2 : w2.heap[p]? = some (.cells (List.toArray (.bool made :: .int .i64 place :: .int .i64 why :: .int .i64 most :: v :: K.R)) K.t (0, 0)) := (hE.1.block p hp (fun e => hne e.symm)).trans hb
  have hb3 : (w2.setCell ⟨p, 4, none⟩ v').heap[p]? = some (.cells (List.toArray (.bool made :: .int .i64 place :: .int .i64 why :: .int .i64 most :: v' :: K.R)) K.t (0, 0)) := by
    rw [heap_setCell_same w2 p 4 _ _ v' hb2]; rfl
  refine ⟨h1, h2, h2.os, h2.tape, h2.output, by simpa using hE.1.size, fun k hk hf => ?_, fun k hk => ?_⟩
  · have h3 := heap_setCell_other w2 ⟨p, 4, none⟩ k v' (fun e => hf (.inl (by simpa using e)))
    exact h3.trans (hE.1.block k hk (fun e => hf (.inr ⟨v, c4, e.symm⟩)))
  · rcases hk with rfl | ⟨u, hu, hg⟩
    · exact .inl (.inl rfl)
    · have h4 := block_cell hb3 4
      rw [hu] at h4
      simp at h4
      subst h4
      rcases hE.2 k hg with h | h
      · exact .inl (.inr ⟨v, c4, h⟩)
      · exact .inr h
theorem fixed_goodx (base lim p v s : Nat) (vi si place most : Int) (L : List Nat) (w : World) (hvi : vi = (v : Int)) (hsi : si = (s : Int)) (hs : s ≤ 8) (hW : Wr K base w p true place 0 most L) (hm : most ≤ 65507) (hfit : ((L.length + s : Nat) : Int) ≤ most) (hbs : base ≤ w.heap.size) (hl1 : lim ≤ base) (hl2 : lim ≤ p) :
    Calls Tryz.prog 56 #[.pointer (some ⟨p, 0, none⟩), .int .u64 vi, .int .i64 si] w fun e w' => e = .returned (.tuple #[]) ∧ Wr K base w' p true place 0 most (L ++ big v s) ∧ BT lim w w' p := by
  obtain ⟨u, hb, hO, hne⟩ := hW
  obtain ⟨ao, cap, rfl, hS, _⟩ := hO.form
  have c0 := block_cell hb 0
  have c2 := block_cell hb 2
  have c3 := block_cell hb 3
  have c4 := block_cell hb 4
  simp at c0 c2 c3 c4
  have HTK : Hid (Calls Tryz.prog 96 #[.pointer (some ⟨p, 0, none⟩), .int .i64 si, .int .i64 0] w fun e w' => e = .returned (.bool true) ∧ ∃ q, w' = w.drewN q) := takes_good p most ao L.length cap si w c0 c2 c3 c4 hm (by omega) (by omega)
  have HAP : Hid (∀ q, Calls Tryz.prog 97 #[.slice ao L.length cap, .int .u64 vi, .int .i64 si] (w.drewN q) fun e w' => ∃ v', e = .returned v' ∧ Owns base w' v' (L ++ big v s) ∧ Ext (w.drewN q) w' (.slice ao L.length cap) v') :=
    fun q => appendHigh_any base v s _ vi si L (w.drewN q) hvi hsi hs (hO.drew q) (by omega) hbs
  have HFIN : Hid (∀ (q : Nat) (w2 : World) (v' : Value), Owns base w2 v' (L ++ big v s) → Ext (w.drewN q) w2 (.slice ao L.length cap) v' → Wr K base (w2.setCell ⟨p, 4, none⟩ v') p true place 0 most (L ++ big v s) ∧ BT lim w (w2.setCell ⟨p, 4, none⟩ v') p) := by
    intro q w2 v' ho he
    have he' : Ext w w2 (.slice ao L.length cap) v' := ⟨⟨he.1.os, he.1.tape, he.1.output, he.1.size, he.1.block⟩, he.2⟩
    exact wr_afterx hb hne (fun g hg => (hO.1.lt g hg).1) he' ho hl1 hl2
  have HCL : Hid (∀ (q : Nat) (w2 : World) (v' : Value), Ext (w.drewN q) w2 (.slice ao L.length cap) v' → w2.cell? ⟨p, 4, none⟩ = some (.slice ao L.length cap) ∧ w2.frozen? ⟨p, 4, none⟩ = false) := by
    intro q w2 v' he
    exact wr_cell hb hne (show Ext w w2 (.slice ao L.length cap) v' from ⟨⟨he.1.os, he.1.tape, he.1.output, he.1.size, he.1.block⟩, he.2⟩)
  clear hb hO hne hS c0 c2 c3 hvi hsi
  go_enter Tryz.func56, Tryz.ntmps56
  go_wp2_with fail
  refine HTK.out.mono ?_
  rintro e w1 ⟨rfl, q, rfl⟩
  go_wp2_with fail
  refine (HAP.out q).mono ?_
  rintro e w2 ⟨v', rfl, ho, he⟩
  obtain ⟨k4, f4⟩ := HCL.out q w2 v' he
  have HF2 := HFIN.out q w2 v' ho he
  obtain ⟨a', c', rfl, _, _⟩ := ho.form
  have HF2' : Hid (Wr K base (w2.setCell ⟨p, 4, none⟩ (.slice a' (L ++ big v s).length c')) p true place 0 most (L ++ big v s) ∧ BT lim w (w2.setCell ⟨p, 4, none⟩ (.slice a' (L ++ big v s).length c')) p) := HF2
  clear HF2 ho he HFIN HCL HAP HTK c4
  generalize (L ++ big v s).length = m at *
  go_wp2
  go_end0
  exact ⟨rfl, HF2'.out⟩

theorem wU8_goodx (base lim p v : Nat) (vi place most : Int) (L : List Nat) (w : World) (hvi : vi = (v : Int)) (hv : v < 256) (hW : Wr K base w p true place 0 most L) (hm : most ≤ 65507) (hfit : ((L.length + 1 : Nat) : Int) ≤ most) (hbs : base ≤ w.heap.size) (hl1 : lim ≤ base) (hl2 : lim ≤ p) :
    Calls Tryz.prog 22 #[.pointer (some ⟨p, 0, none⟩), .int .u8 vi] w fun e w' => e = .returned (.tuple #[]) ∧ Wr K base w' p true place 0 most (L ++ big v 1) ∧ BT lim w w' p := by
  have HF : Hid (Calls Tryz.prog 56 #[.pointer (some ⟨p, 0, none⟩), .int .u64 vi, .int .i64 1] w fun e w' => e = .returned (.tuple #[]) ∧ Wr K base w' p true place 0 most (L ++ big v 1) ∧ BT lim w w' p) := fixed_goodx base lim p v 1 vi 1 place most L w hvi rfl (by omega) hW hm hfit hbs hl1 hl2
  have h0 : 0 ≤ vi := by omega
  have h1 : vi < 256 := by omega
  clear hW hvi
  go_enter Tryz.func22, Tryz.ntmps22
  go_wp2_with fail
  refine HF.out.mono ?_
  rintro e w1 ⟨rfl, hr⟩
  have HR : Hid (Wr K base w1 p true place 0 most (L ++ big v 1) ∧ BT lim w w1 p) := hr
  clear hr
  go_wp2
  go_end0
  exact ⟨rfl, HR.out⟩

theorem wU32_goodx (base lim p v : Nat) (vi place most : Int) (L : List Nat) (w : World) (hvi : vi = (v : Int)) (hv : v < 4294967296) (hW : Wr K base w p true place 0 most L) (hm : most ≤ 65507) (hfit : ((L.length + 4 : Nat) : Int) ≤ most) (hbs : base ≤ w.heap.size) (hl1 : lim ≤ base) (hl2 : lim ≤ p) :
    Calls Tryz.prog 21 #[.pointer (some ⟨p, 0, none⟩), .int .u32 vi] w fun e w' => e = .returned (.tuple #[]) ∧ Wr K base w' p true place 0 most (L ++ big v 4) ∧ BT lim w w' p := by
  have HF : Hid (Calls Tryz.prog 56 #[.pointer (some ⟨p, 0, none⟩), .int .u64 vi, .int .i64 4] w fun e w' => e = .returned (.tuple #[]) ∧ Wr K base w' p true place 0 most (L ++ big v 4) ∧ BT lim w w' p) := fixed_goodx base lim p v 4 vi 4 place most L w hvi rfl (by omega) hW hm hfit hbs hl1 hl2
  have h0 : 0 ≤ vi := by omega
  have h1 : vi < 4294967296 := by omega
  clear hW hvi
  go_enter Tryz.func21, Tryz.ntmps21
  go_wp2_with fail
  refine HF.out.mono ?_
  rintro e w1 ⟨rfl, hr⟩
  have HR : Hid (Wr K base w1 p true place 0 most (L ++ big v 4) ∧ BT lim w w1 p) := hr
  clear hr
  go_wp2
  go_end0
  exact ⟨rfl, HR.out⟩

theorem wr_openx {base lim p : Nat} {w : World} {place most : Int} {L : List Nat} (hW : Wr K base w p true place 0 most L) (hm : most ≤ 65507) (hlen : (L.length : Int) ≤ most) (hl1 : lim ≤ base) (hl2 : lim ≤ p) :
    ∃ (ao : Option Addr) (cap : Nat), w.cell? ⟨p, 4, none⟩ = some (.slice ao L.length cap) ∧ Owns base w (.slice ao L.length cap) L ∧
      (∀ sz : Int, sz ≤ most - (L.length : Int) → Calls Tryz.prog 96 #[.pointer (some ⟨p, 0, none⟩), .int .i64 sz, .int .i64 0] w fun e w' => e = .returned (.bool true) ∧ ∃ q, w' = w.drewN q) ∧
      (∀ (w2 : World) (v' : Value) (L' : List Nat), Owns base w2 v' L' → Ext w w2 (.slice ao L.length cap) v' → w2.cell? ⟨p, 4, none⟩ = some (.slice ao L.length cap) ∧ w2.frozen? ⟨p, 4, none⟩ = false ∧ Wr K base (w2.setCell ⟨p, 4, none⟩ v') p true place 0 most L' ∧ BT lim w (w2.setCell ⟨p, 4, none⟩ v') p) := by
  obtain ⟨u, hb, hO, hne⟩ := hW
  obtain ⟨ao, cap, rfl, hS, _⟩ := hO.form
  have c0 := block_cell hb 0
  have c2 := block_cell hb 2
  have c3 := block_cell hb 3
  have c4 := block_cell hb 4
  simp at c0 c2 c3 c4
  refine ⟨ao, cap, c4, hO, fun sz hsz => takes_good p most ao L.length cap sz w c0 c2 c3 c4 hm hlen hsz, fun w2 v' L' ho he => ?_⟩
  obtain ⟨k4, f4⟩ := wr_cell hb hne he
  exact ⟨k4, f4, wr_afterx hb hne (fun g hg => (hO.1.lt g hg).1) he ho hl1 hl2⟩

theorem wNum_goodx (base lim p v : Nat) (vi place most : Int) (L : List Nat) (w : World) (hvi : vi = (v : Int)) (hv : v < 18446744073709551616) (hW : Wr K base w p true place 0 most L) (hm : most ≤ 65507) (hfit : ((L.length + (numB v).length : Nat) : Int) ≤ most) (hbs : base ≤ w.heap.size) (hl1 : lim ≤ base) (hl2 : lim ≤ p) :
    Calls Tryz.prog 98 #[.pointer (some ⟨p, 0, none⟩), .int .u64 vi] w fun e w' => e = .returned (.tuple #[]) ∧ Wr K base w' p true place 0 most (L ++ numB v) ∧ BT lim w w' p := by
  obtain ⟨ao, cap, c4, hO, htk, hfin⟩ := wr_openx hW hm (by omega) hl1 hl2
  have HNS : Hid (Calls Tryz.prog 125 #[.int .u64 vi] w fun e w' => e = .returned (.int .i64 ((numB v).length : Nat)) ∧ w' = w) := numSize_any v vi w hvi hv
  have HTK : Hid (Calls Tryz.prog 96 #[.pointer (some ⟨p, 0, none⟩), .int .i64 ((numB v).length : Nat), .int .i64 0] w fun e w' => e = .returned (.bool true) ∧ ∃ q, w' = w.drewN q) := htk _ (by omega)
  have HAP : Hid (∀ q, Calls Tryz.prog 126 #[.slice ao L.length cap, .int .u64 vi] (w.drewN q) fun e w' => ∃ v', e = .returned v' ∧ Owns base w' v' (L ++ numB v) ∧ Ext (w.drewN q) w' (.slice ao L.length cap) v') :=
    fun q => appendNum_any base _ L v vi (w.drewN q) hvi hv (hO.drew q) (by omega) hbs
  have HFIN := hide hfin
  clear hfin htk hO hW hvi
  generalize (numB v).length = ns at *
  go_enter Tryz.func98, Tryz.ntmps98
  go_wp2_with fail
  refine HNS.out.mono ?_
  rintro e w0 ⟨rfl, rfl⟩
  go_wp2_with fail
  refine HTK.out.mono ?_
  rintro e w1 ⟨rfl, q, rfl⟩
  go_wp2_with fail
  refine (HAP.out q).mono ?_
  rintro e w2 ⟨v', rfl, ho, he⟩
  obtain ⟨k4, f4, hr⟩ := HFIN.out w2 v' _ ho (ext_drew he)
  obtain ⟨a', c', rfl, _, _⟩ := ho.form
  have HR := hide hr
  clear hr ho he HFIN HAP HTK HNS c4
  generalize (L ++ numB v).length = m at *
  go_wp2
  go_end0
  exact ⟨rfl, HR.out⟩

theorem wCount_goodx (base lim p v : Nat) (vi cm place most : Int) (L : List Nat) (w : World) (hvi : vi = (v : Int)) (hv : v < 9223372036854775808) (hcm : vi ≤ cm) (hW : Wr K base w p true place 0 most L) (hm : most ≤ 65507) (hfit : ((L.length + (numB v).length : Nat) : Int) ≤ most) (hbs : base ≤ w.heap.size) (hl1 : lim ≤ base) (hl2 : lim ≤ p) :
    Calls Tryz.prog 105 #[.pointer (some ⟨p, 0, none⟩), .int .i64 vi, .int .i64 cm] w fun e w' => e = .returned (.tuple #[]) ∧ Wr K base w' p true place 0 most (L ++ numB v) ∧ BT lim w w' p := by
  obtain ⟨ao, cap, c4, hO, htk, hfin⟩ := wr_openx hW hm (by omega) hl1 hl2
  have HNS : Hid (Calls Tryz.prog 125 #[.int .u64 vi] w fun e w' => e = .returned (.int .i64 ((numB v).length : Nat)) ∧ w' = w) := numSize_any v vi w hvi (by omega)
  have HCF : Hid (Calls Tryz.prog 127 #[.int .i64 vi, .int .i64 cm] w fun e w' => e = .returned (.int .i64 0) ∧ w' = w) := countFault_good vi cm w (by omega) hcm
  have HTK : Hid (Calls Tryz.prog 96 #[.pointer (some ⟨p, 0, none⟩), .int .i64 ((numB v).length : Nat), .int .i64 0] w fun e w' => e = .returned (.bool true) ∧ ∃ q, w' = w.drewN q) := htk _ (by omega)
  have HAP : Hid (∀ q, Calls Tryz.prog 126 #[.slice ao L.length cap, .int .u64 vi] (w.drewN q) fun e w' => ∃ v', e = .returned v' ∧ Owns base w' v' (L ++ numB v) ∧ Ext (w.drewN q) w' (.slice ao L.length cap) v') :=
    fun q => appendNum_any base _ L v vi (w.drewN q) hvi (by omega) (hO.drew q) (by omega) hbs
  have HFIN := hide hfin
  have h0 : 0 ≤ vi := by omega
  have h1 : vi ≤ 9223372036854775807 := by omega
  clear hfin htk hO hW hvi
  generalize (numB v).length = ns at *
  go_enter Tryz.func105, Tryz.ntmps105
  go_wp2_with fail
  refine HNS.out.mono ?_
  rintro e w0 ⟨rfl, rfl⟩
  go_wp2_with fail
  refine HCF.out.mono ?_
  rintro e w0 ⟨rfl, rfl⟩
  go_wp2_with fail
  refine HTK.out.mono ?_
  rintro e w1 ⟨rfl, q, rfl⟩
  go_wp2_with fail
  refine (HAP.out q).mono ?_
  rintro e w2 ⟨v', rfl, ho, he⟩
  obtain ⟨k4, f4, hr⟩ := HFIN.out w2 v' _ ho (ext_drew he)
  obtain ⟨a', c', rfl, _, _⟩ := ho.form
  have HR := hide hr
  clear hr ho he HFIN HAP HTK HNS HCF c4
  generalize (L ++ numB v).length = m at *
  go_wp2
  go_end0
  exact ⟨rfl, HR.out⟩

theorem wBlob_genx (base lim p : Nat) (bo : Option Addr) (n bcap blim : Nat) (B : List Nat) (cm place most : Int) (L : List Nat) (w : World) (hS : Shows blim w bo n bcap B) (hKP : ∀ (u v' : Value) (w2 : World), w.cell? ⟨p, 4, none⟩ = some u → Ext w w2 u v' → Shows blim w2 bo n bcap B) (hcm : (n : Int) ≤ cm) (hW : Wr K base w p true place 0 most L) (hm : most ≤ 65507) (hfit : ((L.length + (numB n).length + n : Nat) : Int) ≤ most) (hbs : base ≤ w.heap.size) (hl1 : lim ≤ base) (hl2 : lim ≤ p) :
    Calls Tryz.prog 106 #[.pointer (some ⟨p, 0, none⟩), .slice bo n bcap, .int .i64 cm] w fun e w' => e = .returned (.tuple #[]) ∧ Wr K base w' p true place 0 most (L ++ numB n ++ B) ∧ BT lim w w' p := by
  obtain ⟨i0, hi, hz0, hz1, hz2⟩ := info_parts Tryz.info5
  obtain ⟨ao, cap, c4, hO, htk, hfin⟩ := wr_openx hW hm (by omega) hl1 hl2
  have hn47 := hS.2.2.1
  have HNS : Hid (Calls Tryz.prog 125 #[.int .u64 (n : Int)] w fun e w' => e = .returned (.int .i64 ((numB n).length : Nat)) ∧ w' = w) := numSize_any n _ w rfl (by omega)
  have HCF : Hid (Calls Tryz.prog 127 #[.int .i64 (n : Int), .int .i64 cm] w fun e w' => e = .returned (.int .i64 0) ∧ w' = w) := countFault_good n cm w (by omega) hcm
  have HTK : Hid (Calls Tryz.prog 96 #[.pointer (some ⟨p, 0, none⟩), .int .i64 (((numB n).length : Nat) + (n : Int)), .int .i64 0] w fun e w' => e = .returned (.bool true) ∧ ∃ q, w' = w.drewN q) := htk _ (by omega)
  have HAP : Hid (∀ q, Calls Tryz.prog 126 #[.slice ao L.length cap, .int .u64 (n : Int)] (w.drewN q) fun e w' => ∃ v', e = .returned v' ∧ Owns base w' v' (L ++ numB n) ∧ Ext (w.drewN q) w' (.slice ao L.length cap) v') :=
    fun q => appendNum_any base _ L n _ (w.drewN q) rfl (by omega) (hO.drew q) (by omega) hbs
  have HKP : Hid (∀ (w2 : World) (v' : Value), Ext w w2 (.slice ao L.length cap) v' → Shows blim w2 bo n bcap B) := fun w2 v' he => hKP _ v' w2 c4 he
  have HFIN := hide hfin
  have HNB : Hid (n = B.length) := hS.1
  have hnl : (numB n).length ≤ 10 := numTo_len 9 n
  have HBS : Hid (∀ (w2 : World) (v' : Value), Ext w w2 (.slice ao L.length cap) v' → base ≤ w2.heap.size) := fun w2 v' he => Nat.le_trans hbs he.1.size
  clear hfin htk hO hW hS hKP
  generalize hns : (numB n).length = ns at *
  have HNS2 := hide hns
  clear hns
  go_enter Tryz.func106, Tryz.ntmps106
  go_wp2_with fail
  refine HNS.out.mono ?_
  rintro e w0 ⟨rfl, rfl⟩
  go_wp2_with fail
  refine HCF.out.mono ?_
  rintro e w0 ⟨rfl, rfl⟩
  go_wp2_with fail
  refine HTK.out.mono ?_
  rintro e w1 ⟨rfl, q, rfl⟩
  go_wp2_with fail
  refine (HAP.out q).mono ?_
  rintro e w2 ⟨v', rfl, ho, he⟩
  have HE := hide (ext_drew he)
  have HO := hide ho
  obtain ⟨a', c', rfl, hs', _⟩ := ho.form
  have hcap' : (L ++ numB n).length ≤ c' := hs'.2.1
  have HSB := hide (HKP.out w2 _ HE.out)
  have hll : (L ++ numB n).length = L.length + ns := by rw [List.length_append, HNS2.out]
  have HLL := hide hll
  have hbd : (L ++ numB n).length ≤ 100000 := by omega
  clear ho he hs' HAP HTK HNS HCF HKP hll
  generalize hm' : (L ++ numB n).length = m at *
  by_cases hn0 : n = 0
  · obtain rfl : n = 0 := hn0
    have HB0 : Hid (B = []) := List.eq_nil_of_length_eq_zero HNB.out.symm
    obtain ⟨k4, f4, hr⟩ := HFIN.out w2 _ _ HO.out HE.out
    have HR := hide hr
    have HAN := hide (fun wx => append_none_run a' bo m c' bcap hcap' wx)
    clear hr HFIN c4 hm'
    go_wp2_with (first
      | (at_builtin; refine wpList_append_nothing rfl (.tmp 27) (.tmp 28) 36 rfl _ _ rfl rfl (HAN.out _) ?_))
    go_end0
    refine ⟨rfl, ?_⟩
    rw [HB0.out, List.append_nil]
    exact HR.out
  · obtain ⟨hq1, _, _, hBlt, bb, oo, q5, q6, q7⟩ := HSB.out
    clear hq1
    obtain rfl := q5 (by omega)
    have HSRC := hide (vals_cell (B := B) (w := w2) (b := bb) (off := oo) (fun i hi => q7 i (by have := HNB.out; omega)))
    have HBLT := hide hBlt
    have HOW : Hid (w2.ownsRow base 5 1 (.slice a' m c') m (vals (L ++ numB n))) := by
      have h := HO.out.1
      rw [hm'] at h
      exact h
    have HMM := hide hm'
    clear q5 q6 q7 hBlt hm'
    go_wp2_with (first
      | (at_builtin; refine wpList_append_ext _ rfl (.tmp 27) (.tmp 28) 36 rfl base 5 i0 (.int .u8 0) Tryz.underlying36 hi hz0 hz1 hz2 rfl _ m (vals (L ++ numB n)) rfl HOW.out ⟨bb, oo, none⟩ n bcap (vals B) rfl (by rw [vals_len]; exact HNB.out.symm) HSRC.out (vals_one' B) (by omega) (by omega) (HBS.out w2 _ HE.out) ?_; intro v' w3 hown3 hext3; have HO3 : Hid (Owns base w3 v' (L ++ numB n ++ B)) := owns_join HO.out HBLT.out (by rw [HMM.out, ← HNB.out]; omega) (by rw [HMM.out, ← HNB.out]; exact hown3); obtain ⟨k4, f4, hr⟩ := HFIN.out w3 v' _ HO3.out (HE.out.trans hext3); obtain ⟨a3, c3, rfl, _, _⟩ := HO3.out.form; have HR := hide hr; clear hr hown3 hext3))
    go_end0
    refine ⟨rfl, ?_⟩
    rw [show L.length + ((numB n).length + B.length) = (L ++ numB n ++ B).length by simp]
    exact HR.out

end Go.Proofs.YtiijbboigebhcaaGreatDoor
namespace Go.Proofs.YtiijbboigebhcaaGreatDoor
open Go.RowKit Crc

/-- A writer's state. -/
structure WS where
  made : Bool
  place : Int
  why : Int
  most : Int
  L : List Nat
  K : Kd
def WS.sound (s : WS) : Prop := s.made = true ∧ s.why = 0
instance (s : WS) : Decidable s.sound := by unfold WS.sound; exact inferInstance
/-- A field that is to be laid down, with its own reason not to. -/
def WS.put (s : WS) (F : List Nat) (y : Int) : WS := if s.sound then (if y ≠ 0 then { s with place := (s.L.length : Int), why := y } else if s.most < ((s.L.length + F.length : Nat) : Int) then { s with place := (s.L.length : Int), why := 21 } else { s with L := s.L ++ F }) else s
def WS.takes (s : WS) (F : List Nat) (y : Int) : Prop := s.sound ∧ y = 0 ∧ ((s.L.length + F.length : Nat) : Int) ≤ s.most
def WrS (base : Nat) (w : World) (p : Nat) (s : WS) : Prop := Wr s.K base w p s.made s.place s.why s.most s.L
theorem WS.put_takes {s : WS} {F : List Nat} {y : Int} (h : s.takes F y) : s.put F y = { s with L := s.L ++ F } := by
  unfold WS.put
  rw [if_pos h.1, if_neg (by simp [h.2.1]), if_neg (by have := h.2.2; omega)]
theorem WS.put_not {s : WS} (hs : ¬ s.sound) (F : List Nat) (y : Int) : s.put F y = s := by unfold WS.put; rw [if_neg hs]
theorem WS.put_own {s : WS} (hs : s.sound) (F : List Nat) {y : Int} (hy : y ≠ 0) : s.put F y = { s with place := (s.L.length : Int), why := y } := by unfold WS.put; rw [if_pos hs, if_pos hy]
theorem WS.put_long {s : WS} (hs : s.sound) {F : List Nat} (hl : s.most < ((s.L.length + F.length : Nat) : Int)) : s.put F 0 = { s with place := (s.L.length : Int), why := 21 } := by unfold WS.put; rw [if_pos hs, if_neg (by simp), if_pos hl]

/-- A fault noted. -/
theorem WrS.failed {base p : Nat} {w : World} {s : WS} (h : WrS base w p s) (q : Nat) (y : Int) :
    WrS base (((w.drewN q).setCell ⟨p, 1, none⟩ (.int .i64 (s.L.length : Int))).setCell ⟨p, 2, none⟩ (.int .i64 y)) p { s with place := (s.L.length : Int), why := y } ∧ w.grownBy (((w.drewN q).setCell ⟨p, 1, none⟩ (.int .i64 (s.L.length : Int))).setCell ⟨p, 2, none⟩ (.int .i64 y)) (some p) := by
  obtain ⟨v, hb, hO, hne⟩ := h
  have hb1 : ((w.drewN q).setCell ⟨p, 1, none⟩ (.int .i64 (s.L.length : Int))).heap[p]? = some (.cells (List.toArray (.bool s.made :: .int .i64 (s.L.length : Int) :: .int .i64 s.why :: .int .i64 s.most :: v :: s.K.R)) s.K.t (0, 0)) := by
    rw [heap_setCell_same (w.drewN q) p 1 _ _ _ (show (w.drewN q).heap[p]? = _ from hb)]; simp
  refine ⟨⟨v, ?_, ((hO.drew q).kept (grown_set _ _ _ _) (.inr hne)).kept (grown_set _ _ _ _) (.inr hne), hne⟩, grown_trans (row := some p) (grown_trans (a := w) (b := w.drewN q) (row := some p) ⟨rfl, rfl, rfl, Nat.le_refl _, fun _ _ _ => rfl⟩ (grown_set (w.drewN q) _ _ _)) (grown_set _ _ _ _)⟩
  rw [heap_setCell_same _ p 2 _ _ _ hb1]; simp

set_option maxRecDepth 10000 in
set_option maxHeartbeats 1600000 in
theorem takes_no (base p : Nat) (s : WS) (F : List Nat) (sz y : Int) (w : World) (hW : WrS base w p s) (hno : ¬ s.takes F y) (hsz : y = 0 → sz = (F.length : Int)) (hm : s.made = true → s.most ≤ 65507 ∧ (s.L.length : Int) ≤ s.most) :
    Calls Tryz.prog 96 #[.pointer (some ⟨p, 0, none⟩), .int .i64 sz, .int .i64 y] w fun e w' => e = .returned (.bool false) ∧ WrS base w' p (s.put F y) ∧ Tch 4 w w' p := by
  have HW := hide hW
  obtain ⟨v, hb, hO, hne⟩ := hW
  obtain ⟨ao, cap, rfl, hS, _⟩ := hO.form
  have c0 := block_cell hb 0
  have c1 := block_cell hb 1
  have c2 := block_cell hb 2
  have c3 := block_cell hb 3
  have c4 := block_cell hb 4
  have f1 := block_free hb 1
  have f2 := block_free hb 2
  simp at c0 c1 c2 c3 c4
  have HSD := hide (sound_any p s.made s.why w c0 c2)
  clear hb hO hne hS
  by_cases hs : s.sound
  · have hmm := hm hs.1
    rw [hs.1] at c0
    rw [hs.2] at c2
    rw [hs.1, hs.2] at HSD
    have HFA := hide (fun q y' => fail_sound p s.place (s.L.length : Int) y' (w.drewN q) c0 c1 c2 f1 f2)
    have HFF := hide (fun q y' => HW.out.failed q y')
    have HC4 : Hid (∀ q y', (((w.drewN q).setCell ⟨p, 1, none⟩ (.int .i64 (s.L.length : Int))).setCell ⟨p, 2, none⟩ (.int .i64 y')).cell? ⟨p, 4, none⟩ = some (.slice ao s.L.length cap)) := by
      intro q y'
      obtain ⟨v', hb', hO', hne'⟩ := (HFF.out q y').1
      have h4 := block_cell hb' 4
      obtain ⟨v0, hb0, _, _⟩ := HW.out
      have hx := block_cell hb0 4
      rw [c4] at hx
      simp at hx
      have hb1 : ((w.drewN q).setCell ⟨p, 1, none⟩ (.int .i64 (s.L.length : Int))).heap[p]? = some (.cells (List.toArray (.bool s.made :: .int .i64 (s.L.length : Int) :: .int .i64 s.why :: .int .i64 s.most :: v0 :: s.K.R)) s.K.t (0, 0)) := by
        rw [heap_setCell_same (w.drewN q) p 1 _ _ _ (show (w.drewN q).heap[p]? = _ from hb0)]; simp
      have hb2 : (((w.drewN q).setCell ⟨p, 1, none⟩ (.int .i64 (s.L.length : Int))).setCell ⟨p, 2, none⟩ (.int .i64 y')).heap[p]? = some (.cells (List.toArray (.bool s.made :: .int .i64 (s.L.length : Int) :: .int .i64 y' :: .int .i64 s.most :: v0 :: s.K.R)) s.K.t (0, 0)) := by
        rw [heap_setCell_same _ p 2 _ _ _ hb1]; simp
      have h5 := block_cell hb2 4
      simp at h5
      rw [h5, ← hx]
    have HS2 : Hid (∀ q y', y' ≠ 0 → Calls Tryz.prog 123 #[.pointer (some ⟨p, 0, none⟩)] (((w.drewN q).setCell ⟨p, 1, none⟩ (.int .i64 (s.L.length : Int))).setCell ⟨p, 2, none⟩ (.int .i64 y')) fun e w' => e = .returned (.bool false) ∧ w' = (((w.drewN q).setCell ⟨p, 1, none⟩ (.int .i64 (s.L.length : Int))).setCell ⟨p, 2, none⟩ (.int .i64 y'))) := by
      intro q y' hy'
      obtain ⟨v', hb', _, _⟩ := (HFF.out q y').1
      have h0 := block_cell hb' 0
      have h2 := block_cell hb' 2
      simp at h0 h2
      have h := sound_any p s.made y' _ h0 h2
      rw [show (s.made && (y' == 0)) = false by simp [hy']] at h
      exact h
    by_cases hy : y = 0
    · have hlong : s.most < ((s.L.length + F.length : Nat) : Int) := by
        by_cases h : ((s.L.length + F.length : Nat) : Int) ≤ s.most
        · exact absurd ⟨hs, hy, h⟩ hno
        · omega
      obtain rfl := hsz hy
      subst hy
      have HPT := hide (WS.put_long hs hlong)
      have hd : decide (s.most - (s.L.length : Int) < (F.length : Int)) = true := by simp; omega
      generalize hn : s.L.length = n at *
      clear hs hno hsz hm hlong hn HW
      go_enter Tryz.func96, Tryz.ntmps96
      go_wp2_with fail
      refine HSD.out.mono ?_
      rintro e w1 ⟨rfl, rfl⟩
      go_wp2_with fail
      go_quiet (fail)
      go_wp2_with fail
      go_region_held (fun w' => w'.cell? ⟨p, 4, none⟩ = some (.slice ao n cap)) (go_keep)
        ((go_at_call 124; refine (HFA.out _ _).mono ?_; rintro e w2 ⟨rfl, hw2⟩; have hx4 : w2.cell? ⟨p, 4, none⟩ = some (.slice ao n cap) := (by rw [hw2]; exact HC4.out _ _); have HW2 := hide hw2; clear hw2))
      all_goals
        have HS3 : Hid (Calls Tryz.prog 123 #[.pointer (some ⟨p, 0, none⟩)] w2 fun e w' => e = .returned (.bool false) ∧ w' = w2) := by rw [HW2.out]; exact HS2.out _ _ (by decide)
        have HRS : Hid (WrS base w2 p (s.put F 0) ∧ Tch 4 w1 w2 p) := by
          have h := HFF.out (nq + 1) 21
          rw [← HW2.out] at h
          rw [HPT.out]
          exact ⟨h.1, Tch.row h.2 (hx4.trans c4.symm)⟩
        clear HW2 HFF HC4 HS2 HFA HSD
        go_wp2_with fail
        refine HS3.out.mono ?_
        rintro e w3 ⟨rfl, rfl⟩
        go_wp2
        go_ret
        exact ⟨rfl, HRS.out⟩
    · have HPT := hide (WS.put_own hs F hy)
      have hyb : (y == 0) = false := by simp [hy]
      have hyb' : (y != 0) = true := by simp [hy]
      have HY := hide hy
      generalize hn : s.L.length = n at *
      clear hs hno hsz hm hn HW hy
      go_enter Tryz.func96, Tryz.ntmps96
      go_wp2_with fail
      refine HSD.out.mono ?_
      rintro e w1 ⟨rfl, rfl⟩
      go_wp2_with fail
      go_region_held (fun w' => w'.cell? ⟨p, 4, none⟩ = some (.slice ao n cap)) (go_keep)
        ((go_at_call 124; refine (HFA.out 1 _).mono ?_; rintro e w2 ⟨rfl, hw2⟩; have hx4 : w2.cell? ⟨p, 4, none⟩ = some (.slice ao n cap) := (by rw [hw2]; exact HC4.out _ _); have HW2 := hide hw2; clear hw2))
      all_goals
        have HS3 : Hid (Calls Tryz.prog 123 #[.pointer (some ⟨p, 0, none⟩)] w2 fun e w' => e = .returned (.bool false) ∧ w' = w2) := by rw [HW2.out]; exact HS2.out _ _ HY.out
        have HRS : Hid (WrS base w2 p (s.put F y) ∧ Tch 4 w1 w2 p) := by
          have h := HFF.out 1 y
          rw [← HW2.out] at h
          rw [HPT.out]
          exact ⟨h.1, Tch.row h.2 (hx4.trans c4.symm)⟩
        clear HW2 HFF HC4 HS2 HFA HSD
        go_wp2_with fail
        refine HS3.out.mono ?_
        rintro e w3 ⟨rfl, rfl⟩
        go_wp2
        go_ret
        exact ⟨rfl, HRS.out⟩
  · have HPN : Hid (s.put F y = s) := WS.put_not hs F y
    have HB : Hid ((s.made && (s.why == 0)) = false) := by
      show _ = _
      unfold WS.sound at hs
      cases hmd : s.made with
      | false => rfl
      | true => rw [hmd] at hs; simp at hs ⊢; exact hs
    rw [HB.out] at HSD
    clear hs hno hsz hm c1 c3 c4 f1 f2
    go_enter Tryz.func96, Tryz.ntmps96
    go_wp2_with fail
    refine HSD.out.mono ?_
    rintro e w1 ⟨rfl, rfl⟩
    go_wp2
    go_ret
    refine ⟨rfl, ?_, Tch.refl _ _ _⟩
    rw [HPN.out]
    exact HW.out
end Go.Proofs.YtiijbboigebhcaaGreatDoor
