import Derived.Test.YthbpacilceemlaaM1
import Derived.Test.YthbpacilceemlaaM0
namespace Go.Proofs.Ythbpacilceemlaa
open Go.RowKit Crc

set_option maxRecDepth 10000 in
set_option maxHeartbeats 400000 in
theorem numSize_any (v : Nat) (vi : Int) (w : World) (hvi : vi = (v : Int)) (hv : v < 18446744073709551616) :
    Calls Try.prog 90 #[.int .u64 vi] w fun e w' => e = .returned (.int .i64 ((numB v).length : Nat)) ∧ w' = w := by
  subst hvi
  go_enter Try.func90, Try.ntmps90
  go_wp2
  go_loop [0, 3] (fun a b => ∃ x k : Nat, x < 18446744073709551616 ∧ k ≤ 20 ∧ a = .int .u64 x ∧ b = .int .i64 k ∧ Hid (k + (numB x).length = (numB v).length + 1)) (fun a _ => (intOf a).toNat)
  case atStart => exact ⟨v, 1, hv, by omega, rfl, rfl, by show _ = _; omega⟩
  case round =>
    obtain ⟨x, k, hx, hk, rfl, rfl, HR⟩ := hrel
    by_cases hlt : x < 128
    · have HF : Hid (k = (numB v).length) := by have h := HR.out; rw [numB_small x hlt] at h; simp at h; exact h
      go_wp2
      go_ret
      exact ⟨by rw [← HF.out]; rfl, rfl⟩
    · have HF : Hid (k + 1 + (numB (x / 128)).length = (numB v).length + 1) := by have h := HR.out; rw [numB_big x hlt hx] at h; simp at h; show _ = _; omega
      have hb : k + 1 ≤ 20 := by have h1 := HF.out; have h2 := numTo_len 9 v; have h3 := numTo_pos 9 (x / 128); unfold numB at h1; omega
      clear HR
      go_wp2
      go_round
      case rel => exact ⟨x / 128, k + 1, by omega, hb, by go_num, by go_num, HF⟩
      case measure => simp [intOf]; omega

theorem or128 (x : Nat) : bits .or .u8 ((x : Int) % (256 : Int)) (128 : Int) = ((x % 128 + 128 : Nat) : Int) := by
  have e : (x : Int) % (256 : Int) = ((x % 256 : Nat) : Int) := by omega
  rw [e, show (128 : Int) = ((128 : Nat) : Int) from rfl, u8_or_nat _ _ (by omega) (by omega)]
  congr 1
  have h1 := or_add (x % 128) 1 7 (by omega)
  simp only [Nat.one_mul] at h1
  by_cases hb : x % 256 < 128
  · rw [show x % 256 = x % 128 by omega]; exact h1
  · rw [show x % 256 = x % 128 + 2 ^ 7 by omega, ← h1, Nat.or_assoc]
    exact congrArg _ (by decide)

set_option maxRecDepth 10000 in
set_option maxHeartbeats 800000 in
theorem appendNum_any (base : Nat) (v : Value) (L : List Nat) (x0 : Nat) (xi : Int) (w : World) (hxi : xi = (x0 : Int)) (hx0 : x0 < 18446744073709551616) (hO : Owns base w v L) (hl : L.length + 10 ≤ 140737488355328) (hbase : base ≤ w.heap.size) :
    Calls Try.prog 91 #[v, .int .u64 xi] w fun e w' => ∃ v', e = .returned v' ∧ Owns base w' v' (L ++ numB x0) ∧ Ext w w' v v' := by
  obtain ⟨i0, hi, hz0, hz1, hz2⟩ := info_parts Try.info5
  subst hxi
  have HO0 : Hid (Owns base w v L) := hO
  have HLN : Hid ((numB x0).length ≤ 10) := numTo_len 9 x0
  clear hO
  go_enter Try.func91, Try.ntmps91
  go_wp2
  go_loopw [0, 1] (fun a b wr => ∃ x : Nat, x < 18446744073709551616 ∧ b = .int .u64 x ∧ Hid (∃ pre, Owns base wr a (L ++ pre) ∧ pre ++ numB x = numB x0 ∧ Ext w wr v a)) (fun _ b _ => (intOf b).toNat)
  case atStart => exact ⟨x0, hx0, rfl, [], by rw [List.append_nil]; exact HO0.out, rfl, Ext.refl _ _⟩
  case round =>
    obtain ⟨x, hx, rfl, HR⟩ := hrel
    obtain ⟨pre, ho, he, hext⟩ := HR.out
    clear HR HO0
    have hlp : pre.length + (numB x).length ≤ 10 := by have := HLN.out; rw [← he, List.length_append] at this; exact this
    have hpos := numTo_pos 9 x
    have hlen : (L ++ pre).length + 1 ≤ 140737488355328 := by rw [List.length_append]; unfold numB at hlp; omega
    have HO : Hid (Owns base wr u0 (L ++ pre)) := ho
    have HE : Hid (pre ++ numB x = numB x0) := he
    have HX : Hid (Ext w wr v u0) := hext
    have hbs : base ≤ wr.heap.size := by have := hext.1.size; omega
    have HLEN : Hid ((L ++ pre).length + 1 ≤ 140737488355328) := hlen
    have HBS : Hid (base ≤ wr.heap.size) := hbs
    clear ho he hext hlp hpos hlen hbs
    by_cases hlt : x < 128
    · have hmod : (x : Int) % 256 = (x : Int) := by omega
      go_wp2_with (first
        | (at_builtin; refine wpList_append_ext _ rfl (.tmp 15) (.tmp 18) 29 rfl base 5 i0 (.int .u8 0) Try.underlying29 hi hz0 hz1 hz2 rfl u0 (L ++ pre).length (vals (L ++ pre)) rfl (HO.out.1.alloc _) ⟨wr.heap.size, 0, none⟩ 1 1 [.int .u8 (x : Int)] rfl rfl (cell_one_new _ _ _) (Shade.one _ rfl) (by omega) HLEN.out (by have := HBS.out; simp; omega) ?_; intro v' w1 hown1 hext1))
      go_ret
      refine ⟨v', rfl, ?_, (HX.out.alloc _).trans hext1⟩
      rw [← HE.out, numB_small x hlt, ← List.append_assoc]
      exact HO.out.snoc (by omega) HLEN.out hown1
    · have hor := or128 x
      have HNB := numB_big x hlt hx
      have HNB' : Hid (numB x = (x % 128 + 128) :: numB (x / 128)) := HNB
      clear HNB
      go_wp2_with (first
        | (at_builtin; refine wpList_append_ext _ rfl (.tmp 7) (.tmp 11) 29 rfl base 5 i0 (.int .u8 0) Try.underlying29 hi hz0 hz1 hz2 rfl u0 (L ++ pre).length (vals (L ++ pre)) rfl (HO.out.1.alloc _) ⟨wr.heap.size, 0, none⟩ 1 1 [.int .u8 ((x % 128 + 128 : Nat) : Int)] rfl rfl (cell_one_new _ _ _) (Shade.one _ rfl) (by omega) HLEN.out (by have := HBS.out; simp; omega) ?_; intro v' w1 hown1 hext1))
      go_goals
      go_roundw
      case rel =>
        refine ⟨x / 128, by omega, by go_num, pre ++ [x % 128 + 128], ?_, ?_, (HX.out.alloc _).trans hext1⟩
        · rw [← List.append_assoc]; exact HO.out.snoc (by omega) HLEN.out hown1
        · rw [← HE.out, HNB'.out, List.append_assoc]; rfl
      case measure => simp [intOf]; omega
end Go.Proofs.Ythbpacilceemlaa
namespace Go.Proofs.Ythbpacilceemlaa
open Go.RowKit Crc

/-- A writer as it lies: the block p; what is laid down is its own. -/
def Wr (base : Nat) (w : World) (p : Nat) (made : Bool) (place why most : Int) (L : List Nat) : Prop :=
  ∃ v, w.heap[p]? = some (.cells #[.bool made, .int .i64 place, .int .i64 why, .int .i64 most, v] 81 (0, 0)) ∧ Owns base w v L ∧ v.ownBlock ≠ some p

theorem block_cell {w : World} {p : Nat} {cs : Array Value} {t : TypeId} (h : w.heap[p]? = some (.cells cs t (0, 0))) (j : Nat) : w.cell? ⟨p, j, none⟩ = cs[j]? := cell_of_row w p j cs t (0, 0) h
theorem block_free {w : World} {p : Nat} {cs : Array Value} {t : TypeId} (h : w.heap[p]? = some (.cells cs t (0, 0))) (j : Nat) : w.frozen? ⟨p, j, none⟩ = false := frozen_of_row w p j cs t h
theorem block_lt {w : World} {p : Nat} {o : Obj} (h : w.heap[p]? = some o) : p < w.heap.size := (Array.getElem?_eq_some_iff.1 h).1

set_option maxRecDepth 10000 in
set_option maxHeartbeats 400000 in
theorem sound_any (p : Nat) (made : Bool) (why : Int) (w : World) (h0 : w.cell? ⟨p, 0, none⟩ = some (.bool made)) (h2 : w.cell? ⟨p, 2, none⟩ = some (.int .i64 why)) :
    Calls Try.prog 112 #[.pointer (some ⟨p, 0, none⟩)] w fun e w' => e = .returned (.bool (made && (why == 0))) ∧ w' = w := by
  cases made
  · go_enter Try.func112, Try.ntmps112
    go_wp2
    go_ret
    exact ⟨rfl, rfl⟩
  · go_enter Try.func112, Try.ntmps112
    go_wp2
    go_ret
    exact ⟨rfl, rfl⟩

set_option maxRecDepth 10000 in
set_option maxHeartbeats 400000 in
theorem takes_good (p : Nat) (most : Int) (ao : Option Addr) (n cap : Nat) (sz : Int) (w : World) (h0 : w.cell? ⟨p, 0, none⟩ = some (.bool true)) (h2 : w.cell? ⟨p, 2, none⟩ = some (.int .i64 0)) (h3 : w.cell? ⟨p, 3, none⟩ = some (.int .i64 most)) (h4 : w.cell? ⟨p, 4, none⟩ = some (.slice ao n cap))
  (hm1 : most ≤ 65507) (hm2 : (n : Int) ≤ most) (hfit : sz ≤ most - (n : Int)) :
    Calls Try.prog 89 #[.pointer (some ⟨p, 0, none⟩), .int .i64 sz, .int .i64 0] w fun e w' => e = .returned (.bool true) ∧ ∃ q, w' = w.drewN q := by
  have hd : decide (most - (n : Int) < sz) = false := by simp; omega
  go_enter Try.func89, Try.ntmps89
  go_wp2_with fail
  refine (sound_any p true 0 _ h0 h2).mono ?_
  rintro e w1 ⟨rfl, rfl⟩
  go_wp2_with fail
  go_quiet (fail)
  go_wp2_with fail
  refine (sound_any p true 0 (w1.drewN nq) h0 h2).mono ?_
  rintro e w2 ⟨rfl, rfl⟩
  go_wp2
  go_ret
  exact ⟨rfl, _, rfl⟩

/-- What is laid down has grown, and is put back into the writer. -/
theorem wr_after {base lim : Nat} {w w2 : World} {p : Nat} {made : Bool} {place why most : Int} {v v' : Value} {L : List Nat} (hb : w.heap[p]? = some (.cells #[.bool made, .int .i64 place, .int .i64 why, .int .i64 most, v] 81 (0, 0)))
    (hne : v.ownBlock ≠ some p) (hO0 : ∀ g, v.ownBlock = some g → base ≤ g) (hE : Ext w w2 v v') (hO : Owns base w2 v' L) (hl1 : lim ≤ base) (hl2 : lim ≤ p) :
    Wr base (w2.setCell ⟨p, 4, none⟩ v') p made place why most L ∧ Below lim w (w2.setCell ⟨p, 4, none⟩ v') := by
  have hp := block_lt hb
  have hb2 : w2.heap[p]? = some (.cells #[.bool made, .int .i64 place, .int .i64 why, .int .i64 most, v] 81 (0, 0)) := (hE.1.block p hp (fun e => hne e.symm)).trans hb
  have hne' : v'.ownBlock ≠ some p := by
    intro e
    rcases hE.2 p e with h | h
    · exact hne h
    · omega
  refine ⟨⟨v', ?_, hO.kept (grown_set _ _ _ _) (.inr hne'), hne'⟩, ?_⟩
  · rw [heap_setCell_same w2 p 4 _ _ v' hb2]; rfl
  · refine Below.setCell ?_ hl2 _
    exact ⟨hE.1.os, hE.1.tape, hE.1.output, hE.1.size, fun k hk => hE.1.block k (by omega) (fun e => by have := hO0 k e.symm; omega)⟩
theorem wr_cell {w w2 : World} {p : Nat} {made : Bool} {place why most : Int} {v v' : Value} (hb : w.heap[p]? = some (.cells #[.bool made, .int .i64 place, .int .i64 why, .int .i64 most, v] 81 (0, 0)))
    (hne : v.ownBlock ≠ some p) (hE : Ext w w2 v v') : w2.cell? ⟨p, 4, none⟩ = some v ∧ w2.frozen? ⟨p, 4, none⟩ = false := by
  have hb2 : w2.heap[p]? = some (.cells #[.bool made, .int .i64 place, .int .i64 why, .int .i64 most, v] 81 (0, 0)) := (hE.1.block p (block_lt hb) (fun e => hne e.symm)).trans hb
  exact ⟨block_cell hb2 4, block_free hb2 4⟩

set_option maxRecDepth 10000 in
set_option maxHeartbeats 800000 in
theorem fixed_good (base lim p v s : Nat) (vi si place most : Int) (L : List Nat) (w : World) (hvi : vi = (v : Int)) (hsi : si = (s : Int)) (hs : s ≤ 8) (hW : Wr base w p true place 0 most L) (hm : most ≤ 65507) (hfit : ((L.length + s : Nat) : Int) ≤ most) (hbs : base ≤ w.heap.size) (hl1 : lim ≤ base) (hl2 : lim ≤ p) :
    Calls Try.prog 86 #[.pointer (some ⟨p, 0, none⟩), .int .u64 vi, .int .i64 si] w fun e w' => e = .returned (.tuple #[]) ∧ Wr base w' p true place 0 most (L ++ big v s) ∧ Below lim w w' := by
  obtain ⟨u, hb, hO, hne⟩ := hW
  obtain ⟨ao, cap, rfl, hS, _⟩ := hO.form
  have c0 := block_cell hb 0
  have c2 := block_cell hb 2
  have c3 := block_cell hb 3
  have c4 := block_cell hb 4
  simp at c0 c2 c3 c4
  have HTK : Hid (Calls Try.prog 89 #[.pointer (some ⟨p, 0, none⟩), .int .i64 si, .int .i64 0] w fun e w' => e = .returned (.bool true) ∧ ∃ q, w' = w.drewN q) := takes_good p most ao L.length cap si w c0 c2 c3 c4 hm (by omega) (by omega)
  have HAP : Hid (∀ q, Calls Try.prog 111 #[.slice ao L.length cap, .int .u64 vi, .int .i64 si] (w.drewN q) fun e w' => ∃ v', e = .returned v' ∧ Owns base w' v' (L ++ big v s) ∧ Ext (w.drewN q) w' (.slice ao L.length cap) v') :=
    fun q => appendHigh_any base v s _ vi si L (w.drewN q) hvi hsi hs (hO.drew q) (by omega) hbs
  have HFIN : Hid (∀ (q : Nat) (w2 : World) (v' : Value), Owns base w2 v' (L ++ big v s) → Ext (w.drewN q) w2 (.slice ao L.length cap) v' → Wr base (w2.setCell ⟨p, 4, none⟩ v') p true place 0 most (L ++ big v s) ∧ Below lim w (w2.setCell ⟨p, 4, none⟩ v')) := by
    intro q w2 v' ho he
    have he' : Ext w w2 (.slice ao L.length cap) v' := ⟨⟨he.1.os, he.1.tape, he.1.output, he.1.size, he.1.block⟩, he.2⟩
    exact wr_after hb hne (fun g hg => (hO.1.lt g hg).1) he' ho hl1 hl2
  have HCL : Hid (∀ (q : Nat) (w2 : World) (v' : Value), Ext (w.drewN q) w2 (.slice ao L.length cap) v' → w2.cell? ⟨p, 4, none⟩ = some (.slice ao L.length cap) ∧ w2.frozen? ⟨p, 4, none⟩ = false) := by
    intro q w2 v' he
    exact wr_cell hb hne (show Ext w w2 (.slice ao L.length cap) v' from ⟨⟨he.1.os, he.1.tape, he.1.output, he.1.size, he.1.block⟩, he.2⟩)
  clear hb hO hne hS c0 c2 c3 hvi hsi
  go_enter Try.func86, Try.ntmps86
  go_wp2_with fail
  refine HTK.out.mono ?_
  rintro e w1 ⟨rfl, q, rfl⟩
  go_wp2_with fail
  refine (HAP.out q).mono ?_
  rintro e w2 ⟨v', rfl, ho, he⟩
  obtain ⟨k4, f4⟩ := HCL.out q w2 v' he
  have HF2 := HFIN.out q w2 v' ho he
  obtain ⟨a', c', rfl, _, _⟩ := ho.form
  have HF2' : Hid (Wr base (w2.setCell ⟨p, 4, none⟩ (.slice a' (L ++ big v s).length c')) p true place 0 most (L ++ big v s) ∧ Below lim w (w2.setCell ⟨p, 4, none⟩ (.slice a' (L ++ big v s).length c'))) := HF2
  clear HF2 ho he HFIN HCL HAP HTK c4
  generalize (L ++ big v s).length = m at *
  go_wp2
  go_end0
  exact ⟨rfl, HF2'.out⟩
end Go.Proofs.Ythbpacilceemlaa
namespace Go.Proofs.Ythbpacilceemlaa
open Go.RowKit Crc

set_option maxRecDepth 10000 in
set_option maxHeartbeats 800000 in
theorem copied_any (b off : Nat) (ao : Option Addr) (B : List Nat) (n cap : Nat) (w : World) (hao : 0 < n → ao = some ⟨b, off, none⟩) (hn : n = B.length) (hl : n ≤ 140737488355328)
  (hbw : 0 < n → b < w.heap.size) (hc : ∀ i, i < n → w.cell? ⟨b, off + i, none⟩ = some (.int .u8 ((B.getD i 0 : Nat) : Int))) :
    Calls Try.prog 53 #[.slice ao n cap] w fun e w' => ∃ v, e = .returned v ∧ (v = .slice none 0 0 ∨ v = .slice (some ⟨w.heap.size, 0, none⟩) n n) ∧ (0 < n → v ≠ .slice none 0 0) ∧ Fresh w w' v B := by
  obtain ⟨i0, hi, hz0, hz1, hz2⟩ := info_parts Try.info5
  by_cases h0 : n = 0
  · subst h0
    have hB : B = [] := List.eq_nil_of_length_eq_zero hn.symm
    clear hn hc hao hbw
    go_enter Try.func53, Try.ntmps53
    go_wp2
    go_ret
    subst hB
    exact ⟨_, rfl, .inl rfl, fun h => by omega, World.ownsRow_nil _ _ _ _, Below.refl _ _⟩
  · obtain rfl := hao (by omega)
    have hbw' := hbw (by omega)
    have hne : ((n : Int) == 0) = false := by simp; omega
    have HN : Hid (n = B.length) := hn
    have HC : Hid (∀ i, i < n → w.cell? ⟨b, off + i, none⟩ = some (.int .u8 ((B.getD i 0 : Nat) : Int))) := hc
    clear hn hc hao hbw
    go_enter Try.func53, Try.ntmps53
    have HS : Hid (∀ w0 : World, w.grownBy w0 none → ∀ j v, (vals B)[j]? = some v → w0.cell? ((⟨b, off, none⟩ : Addr).add j) = some v) := by
      intro w0 hg j v hj
      exact hg.cell (vals_cell (fun i hi => HC.out i (by have := HN.out; omega)) j v hj) (by simp)
    have hlen : (vals B).length = Nat.min n n := by rw [vals_len]; exact HN.out.symm.trans (Nat.min_self n).symm
    have hlB : (vals B).length = n := by rw [vals_len]; exact HN.out.symm
    go_wp2_with (first
      | (at_make; refine wpList_make_full _ rfl _ _ 29 rfl w.heap.size 5 i0 (.int .u8 0) 1 Try.underlying29 hi hz0 hz1 .i64 .i64 _ _ n rfl rfl rfl rfl (by rw [hz2]; omega) (by unfold maxLen; omega) (Nat.le_refl _) ?_; intro w0 hown0 hgrow0; obtain ⟨cur, hg0, hcs, _, _⟩ := own_block hown0)
      | (refine wpList_copy_own rfl (.tmp 10) (.tmp 11) 29 29 rfl 5 Try.underlying29 size5 w.heap.size 0 n n ⟨b, off, none⟩ n cap rfl rfl cur 5 hg0 (vals B) hlen (HS.out w0 hgrow0) (by rw [hlB]; omega) (vals_one' B) ?_))
    go_ret
    refine ⟨_, rfl, .inr rfl, fun _ => by simp, ?_, below_setRow ((Below.refl _ _).grown hgrow0 (Nat.le_refl _) (fun k h => by cases h)) (Nat.le_refl _) _⟩
    rw [← HN.out]
    refine owns_of (Nat.le_refl _) (setRow_heap w0 w.heap.size _ _ 5 _ hg0) ?_ (by unfold maxLen; omega) (Nat.le_refl _) ?_
    · simp; omega
    · have : cur.toList.drop n = [] := List.drop_eq_nil_of_le (by simp; omega)
      simp [this]
      exact List.take_of_length_le (by omega)
end Go.Proofs.Ythbpacilceemlaa
namespace Go.Proofs.Ythbpacilceemlaa
open Go.RowKit Crc

set_option maxRecDepth 10000 in
set_option maxHeartbeats 400000 in
theorem wU8_good (base lim p v : Nat) (vi place most : Int) (L : List Nat) (w : World) (hvi : vi = (v : Int)) (hv : v < 256) (hW : Wr base w p true place 0 most L) (hm : most ≤ 65507) (hfit : ((L.length + 1 : Nat) : Int) ≤ most) (hbs : base ≤ w.heap.size) (hl1 : lim ≤ base) (hl2 : lim ≤ p) :
    Calls Try.prog 36 #[.pointer (some ⟨p, 0, none⟩), .int .u8 vi] w fun e w' => e = .returned (.tuple #[]) ∧ Wr base w' p true place 0 most (L ++ big v 1) ∧ Below lim w w' := by
  have HF : Hid (Calls Try.prog 86 #[.pointer (some ⟨p, 0, none⟩), .int .u64 vi, .int .i64 1] w fun e w' => e = .returned (.tuple #[]) ∧ Wr base w' p true place 0 most (L ++ big v 1) ∧ Below lim w w') := fixed_good base lim p v 1 vi 1 place most L w hvi rfl (by omega) hW hm hfit hbs hl1 hl2
  have h0 : 0 ≤ vi := by omega
  have h1 : vi < 256 := by omega
  clear hW hvi
  go_enter Try.func36, Try.ntmps36
  go_wp2_with fail
  refine HF.out.mono ?_
  rintro e w1 ⟨rfl, hr⟩
  have HR : Hid (Wr base w1 p true place 0 most (L ++ big v 1) ∧ Below lim w w1) := hr
  clear hr
  go_wp2
  go_end0
  exact ⟨rfl, HR.out⟩

set_option maxRecDepth 10000 in
set_option maxHeartbeats 400000 in
theorem wU16_good (base lim p v : Nat) (vi place most : Int) (L : List Nat) (w : World) (hvi : vi = (v : Int)) (hv : v < 65536) (hW : Wr base w p true place 0 most L) (hm : most ≤ 65507) (hfit : ((L.length + 2 : Nat) : Int) ≤ most) (hbs : base ≤ w.heap.size) (hl1 : lim ≤ base) (hl2 : lim ≤ p) :
    Calls Try.prog 38 #[.pointer (some ⟨p, 0, none⟩), .int .u16 vi] w fun e w' => e = .returned (.tuple #[]) ∧ Wr base w' p true place 0 most (L ++ big v 2) ∧ Below lim w w' := by
  have HF : Hid (Calls Try.prog 86 #[.pointer (some ⟨p, 0, none⟩), .int .u64 vi, .int .i64 2] w fun e w' => e = .returned (.tuple #[]) ∧ Wr base w' p true place 0 most (L ++ big v 2) ∧ Below lim w w') := fixed_good base lim p v 2 vi 2 place most L w hvi rfl (by omega) hW hm hfit hbs hl1 hl2
  have h0 : 0 ≤ vi := by omega
  have h1 : vi < 65536 := by omega
  clear hW hvi
  go_enter Try.func38, Try.ntmps38
  go_wp2_with fail
  refine HF.out.mono ?_
  rintro e w1 ⟨rfl, hr⟩
  have HR : Hid (Wr base w1 p true place 0 most (L ++ big v 2) ∧ Below lim w w1) := hr
  clear hr
  go_wp2
  go_end0
  exact ⟨rfl, HR.out⟩

set_option maxRecDepth 10000 in
set_option maxHeartbeats 400000 in
theorem wU32_good (base lim p v : Nat) (vi place most : Int) (L : List Nat) (w : World) (hvi : vi = (v : Int)) (hv : v < 4294967296) (hW : Wr base w p true place 0 most L) (hm : most ≤ 65507) (hfit : ((L.length + 4 : Nat) : Int) ≤ most) (hbs : base ≤ w.heap.size) (hl1 : lim ≤ base) (hl2 : lim ≤ p) :
    Calls Try.prog 39 #[.pointer (some ⟨p, 0, none⟩), .int .u32 vi] w fun e w' => e = .returned (.tuple #[]) ∧ Wr base w' p true place 0 most (L ++ big v 4) ∧ Below lim w w' := by
  have HF : Hid (Calls Try.prog 86 #[.pointer (some ⟨p, 0, none⟩), .int .u64 vi, .int .i64 4] w fun e w' => e = .returned (.tuple #[]) ∧ Wr base w' p true place 0 most (L ++ big v 4) ∧ Below lim w w') := fixed_good base lim p v 4 vi 4 place most L w hvi rfl (by omega) hW hm hfit hbs hl1 hl2
  have h0 : 0 ≤ vi := by omega
  have h1 : vi < 4294967296 := by omega
  clear hW hvi
  go_enter Try.func39, Try.ntmps39
  go_wp2_with fail
  refine HF.out.mono ?_
  rintro e w1 ⟨rfl, hr⟩
  have HR : Hid (Wr base w1 p true place 0 most (L ++ big v 4) ∧ Below lim w w1) := hr
  clear hr
  go_wp2
  go_end0
  exact ⟨rfl, HR.out⟩

set_option maxRecDepth 10000 in
set_option maxHeartbeats 400000 in
theorem wU64_good (base lim p v : Nat) (vi place most : Int) (L : List Nat) (w : World) (hvi : vi = (v : Int)) (hW : Wr base w p true place 0 most L) (hm : most ≤ 65507) (hfit : ((L.length + 8 : Nat) : Int) ≤ most) (hbs : base ≤ w.heap.size) (hl1 : lim ≤ base) (hl2 : lim ≤ p) :
    Calls Try.prog 40 #[.pointer (some ⟨p, 0, none⟩), .int .u64 vi] w fun e w' => e = .returned (.tuple #[]) ∧ Wr base w' p true place 0 most (L ++ big v 8) ∧ Below lim w w' := by
  have HF : Hid (Calls Try.prog 86 #[.pointer (some ⟨p, 0, none⟩), .int .u64 vi, .int .i64 8] w fun e w' => e = .returned (.tuple #[]) ∧ Wr base w' p true place 0 most (L ++ big v 8) ∧ Below lim w w') := fixed_good base lim p v 8 vi 8 place most L w hvi rfl (by omega) hW hm hfit hbs hl1 hl2
  clear hW hvi
  go_enter Try.func40, Try.ntmps40
  go_wp2_with fail
  refine HF.out.mono ?_
  rintro e w1 ⟨rfl, hr⟩
  have HR : Hid (Wr base w1 p true place 0 most (L ++ big v 8) ∧ Below lim w w1) := hr
  clear hr
  go_wp2
  go_end0
  exact ⟨rfl, HR.out⟩

set_option maxRecDepth 10000 in
set_option maxHeartbeats 400000 in
theorem wFlag_good (base lim p : Nat) (b : Bool) (place most : Int) (L : List Nat) (w : World) (hW : Wr base w p true place 0 most L) (hm : most ≤ 65507) (hfit : ((L.length + 1 : Nat) : Int) ≤ most) (hbs : base ≤ w.heap.size) (hl1 : lim ≤ base) (hl2 : lim ≤ p) :
    Calls Try.prog 43 #[.pointer (some ⟨p, 0, none⟩), .bool b] w fun e w' => e = .returned (.tuple #[]) ∧ Wr base w' p true place 0 most (L ++ big (if b then 1 else 0) 1) ∧ Below lim w w' := by
  cases b
  · have HF : Hid (Calls Try.prog 36 #[.pointer (some ⟨p, 0, none⟩), .int .u8 0] w fun e w' => e = .returned (.tuple #[]) ∧ Wr base w' p true place 0 most (L ++ big 0 1) ∧ Below lim w w') := wU8_good base lim p 0 0 place most L w rfl (by omega) hW hm hfit hbs hl1 hl2
    clear hW
    go_enter Try.func43, Try.ntmps43
    go_wp2_with fail
    refine HF.out.mono ?_
    rintro e w1 ⟨rfl, hr⟩
    have HR : Hid (Wr base w1 p true place 0 most (L ++ big 0 1) ∧ Below lim w w1) := hr
    clear hr
    go_wp2
    go_end0
    exact ⟨rfl, HR.out⟩
  · have HF : Hid (Calls Try.prog 36 #[.pointer (some ⟨p, 0, none⟩), .int .u8 1] w fun e w' => e = .returned (.tuple #[]) ∧ Wr base w' p true place 0 most (L ++ big 1 1) ∧ Below lim w w') := wU8_good base lim p 1 1 place most L w rfl (by omega) hW hm hfit hbs hl1 hl2
    clear hW
    go_enter Try.func43, Try.ntmps43
    go_wp2_with fail
    refine HF.out.mono ?_
    rintro e w1 ⟨rfl, hr⟩
    have HR : Hid (Wr base w1 p true place 0 most (L ++ big 1 1) ∧ Below lim w w1) := hr
    clear hr
    go_wp2
    go_end0
    exact ⟨rfl, HR.out⟩

/-- All that a method of the writer's needs behind 'takes': the laid list, its growth, its store. -/
theorem wr_open {base lim p : Nat} {w : World} {place most : Int} {L : List Nat} (hW : Wr base w p true place 0 most L) (hm : most ≤ 65507) (hlen : (L.length : Int) ≤ most) (hl1 : lim ≤ base) (hl2 : lim ≤ p) :
    ∃ (ao : Option Addr) (cap : Nat), w.cell? ⟨p, 4, none⟩ = some (.slice ao L.length cap) ∧ Owns base w (.slice ao L.length cap) L ∧
      (∀ sz : Int, sz ≤ most - (L.length : Int) → Calls Try.prog 89 #[.pointer (some ⟨p, 0, none⟩), .int .i64 sz, .int .i64 0] w fun e w' => e = .returned (.bool true) ∧ ∃ q, w' = w.drewN q) ∧
      (∀ (w2 : World) (v' : Value) (L' : List Nat), Owns base w2 v' L' → Ext w w2 (.slice ao L.length cap) v' → w2.cell? ⟨p, 4, none⟩ = some (.slice ao L.length cap) ∧ w2.frozen? ⟨p, 4, none⟩ = false ∧ Wr base (w2.setCell ⟨p, 4, none⟩ v') p true place 0 most L' ∧ Below lim w (w2.setCell ⟨p, 4, none⟩ v')) := by
  obtain ⟨u, hb, hO, hne⟩ := hW
  obtain ⟨ao, cap, rfl, hS, _⟩ := hO.form
  have c0 := block_cell hb 0
  have c2 := block_cell hb 2
  have c3 := block_cell hb 3
  have c4 := block_cell hb 4
  simp at c0 c2 c3 c4
  refine ⟨ao, cap, c4, hO, fun sz hsz => takes_good p most ao L.length cap sz w c0 c2 c3 c4 hm hlen hsz, fun w2 v' L' ho he => ?_⟩
  obtain ⟨k4, f4⟩ := wr_cell hb hne he
  exact ⟨k4, f4, wr_after hb hne (fun g hg => (hO.1.lt g hg).1) he ho hl1 hl2⟩
theorem ext_drew {w w2 : World} {v v' : Value} {q : Nat} (he : Ext (w.drewN q) w2 v v') : Ext w w2 v v' := ⟨⟨he.1.os, he.1.tape, he.1.output, he.1.size, he.1.block⟩, he.2⟩

set_option maxRecDepth 10000 in
set_option maxHeartbeats 800000 in
theorem wNum_good (base lim p v : Nat) (vi place most : Int) (L : List Nat) (w : World) (hvi : vi = (v : Int)) (hv : v < 18446744073709551616) (hW : Wr base w p true place 0 most L) (hm : most ≤ 65507) (hfit : ((L.length + (numB v).length : Nat) : Int) ≤ most) (hbs : base ≤ w.heap.size) (hl1 : lim ≤ base) (hl2 : lim ≤ p) :
    Calls Try.prog 41 #[.pointer (some ⟨p, 0, none⟩), .int .u64 vi] w fun e w' => e = .returned (.tuple #[]) ∧ Wr base w' p true place 0 most (L ++ numB v) ∧ Below lim w w' := by
  obtain ⟨ao, cap, c4, hO, htk, hfin⟩ := wr_open hW hm (by omega) hl1 hl2
  have HNS : Hid (Calls Try.prog 90 #[.int .u64 vi] w fun e w' => e = .returned (.int .i64 ((numB v).length : Nat)) ∧ w' = w) := numSize_any v vi w hvi hv
  have HTK : Hid (Calls Try.prog 89 #[.pointer (some ⟨p, 0, none⟩), .int .i64 ((numB v).length : Nat), .int .i64 0] w fun e w' => e = .returned (.bool true) ∧ ∃ q, w' = w.drewN q) := htk _ (by omega)
  have HAP : Hid (∀ q, Calls Try.prog 91 #[.slice ao L.length cap, .int .u64 vi] (w.drewN q) fun e w' => ∃ v', e = .returned v' ∧ Owns base w' v' (L ++ numB v) ∧ Ext (w.drewN q) w' (.slice ao L.length cap) v') :=
    fun q => appendNum_any base _ L v vi (w.drewN q) hvi hv (hO.drew q) (by omega) hbs
  have HFIN := hide hfin
  clear hfin htk hO hW hvi
  generalize (numB v).length = ns at *
  go_enter Try.func41, Try.ntmps41
  go_wp2_with fail
  refine HNS.out.mono ?_
  rintro e w0 ⟨rfl, rfl⟩
  go_wp2_with fail
  refine HTK.out.mono ?_
  rintro e w1 ⟨rfl, q, rfl⟩
  go_wp2_with fail
  refine (HAP.out q).mono ?_
  rintro e w2 ⟨v', rfl, ho, he⟩
  obtain ⟨k4, f4, hr⟩ := HFIN.out w2 v' _ ho (ext_drew he)
  obtain ⟨a', c', rfl, _, _⟩ := ho.form
  have HR := hide hr
  clear hr ho he HFIN HAP HTK HNS c4
  generalize (L ++ numB v).length = m at *
  go_wp2
  go_end0
  exact ⟨rfl, HR.out⟩
end Go.Proofs.Ythbpacilceemlaa
