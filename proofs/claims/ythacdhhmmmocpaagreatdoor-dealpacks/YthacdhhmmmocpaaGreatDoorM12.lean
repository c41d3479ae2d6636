import Derived.Test.YthacdhhmmmocpaaGreatDoorM1
import Derived.Test.YthacdhhmmmocpaaGreatDoorM3
namespace Go.Proofs.YthacdhhmmmocpaaGreatDoor
open Go.RowKit Crc

set_option maxRecDepth 10000 in
set_option maxHeartbeats 800000 in
theorem copied_any (b off : Nat) (ao : Option Addr) (B : List Nat) (n cap : Nat) (w : World) (hao : 0 < n → ao = some ⟨b, off, none⟩) (hn : n = B.length) (hl : n ≤ 140737488355328)
  (hbw : 0 < n → b < w.heap.size) (hc : ∀ i, i < n → w.cell? ⟨b, off + i, none⟩ = some (.int .u8 ((B.getD i 0 : Nat) : Int))) :
    Calls Tryz.prog 54 #[.slice ao n cap] w fun e w' => ∃ v, e = .returned v ∧ (v = .slice none 0 0 ∨ v = .slice (some ⟨w.heap.size, 0, none⟩) n n) ∧ (0 < n → v ≠ .slice none 0 0) ∧ Fresh w w' v B := by
  obtain ⟨i0, hi, hz0, hz1, hz2⟩ := info_parts Tryz.info5
  by_cases h0 : n = 0
  · subst h0
    have hB : B = [] := List.eq_nil_of_length_eq_zero hn.symm
    clear hn hc hao hbw
    go_enter Tryz.func54, Tryz.ntmps54
    go_wp2
    go_ret
    subst hB
    exact ⟨_, rfl, .inl rfl, fun h => by omega, World.ownsRow_nil _ _ _ _, Below.refl _ _⟩
  · obtain rfl := hao (by omega)
    have hbw' := hbw (by omega)
    have hne : ((n : Int) == 0) = false := by simp; omega
    have HN : Hid (n = B.length) := hn
    have HC : Hid (∀ i, i < n → w.cell? ⟨b, off + i, none⟩ = some (.int .u8 ((B.getD i 0 : Nat) : Int))) := hc
    clear hn hc hao hbw
    go_enter Tryz.func54, Tryz.ntmps54
    have HS : Hid (∀ w0 : World, w.grownBy w0 none → ∀ j v, (vals B)[j]? = some v → w0.cell? ((⟨b, off, none⟩ : Addr).add j) = some v) := by
      intro w0 hg j v hj
      exact hg.cell (vals_cell (fun i hi => HC.out i (by have := HN.out; omega)) j v hj) (by simp)
    have hlen : (vals B).length = Nat.min n n := by rw [vals_len]; exact HN.out.symm.trans (Nat.min_self n).symm
    have hlB : (vals B).length = n := by rw [vals_len]; exact HN.out.symm
    go_wp2_with (first
      | (at_make; refine wpList_make_full _ rfl _ _ 26 rfl w.heap.size 5 i0 (.int .u8 0) 1 Tryz.underlying26 hi hz0 hz1 .i64 .i64 _ _ n rfl rfl rfl rfl (by rw [hz2]; omega) (by unfold maxLen; omega) (Nat.le_refl _) ?_; intro w0 hown0 hgrow0; obtain ⟨cur, hg0, hcs, _, _⟩ := own_block hown0)
      | (refine wpList_copy_own rfl (.tmp 10) (.tmp 11) 26 26 rfl 5 Tryz.underlying26 size5 w.heap.size 0 n n ⟨b, off, none⟩ n cap rfl rfl cur 5 hg0 (vals B) hlen (HS.out w0 hgrow0) (by rw [hlB]; omega) (vals_one' B) ?_))
    go_ret
    refine ⟨_, rfl, .inr rfl, fun _ => by simp, ?_, below_setRow ((Below.refl _ _).grown hgrow0 (Nat.le_refl _) (fun k h => by cases h)) (Nat.le_refl _) _⟩
    rw [← HN.out]
    refine owns_of (Nat.le_refl _) (setRow_heap w0 w.heap.size _ _ 5 _ hg0) ?_ (by unfold maxLen; omega) (Nat.le_refl _) ?_
    · simp; omega
    · have : cur.toList.drop n = [] := List.drop_eq_nil_of_le (by simp; omega)
      simp [this]
      exact List.take_of_length_le (by omega)
end Go.Proofs.YthacdhhmmmocpaaGreatDoor
namespace Go.Proofs.YthacdhhmmmocpaaGreatDoor
open Go.RowKit Crc
variable {K : Kd}

set_option maxRecDepth 10000 in
set_option maxHeartbeats 400000 in
theorem wU8_good (base lim p v : Nat) (vi place most : Int) (L : List Nat) (w : World) (hvi : vi = (v : Int)) (hv : v < 256) (hW : Wr K base w p true place 0 most L) (hm : most ≤ 65507) (hfit : ((L.length + 1 : Nat) : Int) ≤ most) (hbs : base ≤ w.heap.size) (hl1 : lim ≤ base) (hl2 : lim ≤ p) :
    Calls Tryz.prog 18 #[.pointer (some ⟨p, 0, none⟩), .int .u8 vi] w fun e w' => e = .returned (.tuple #[]) ∧ Wr K base w' p true place 0 most (L ++ big v 1) ∧ Below lim w w' := by
  have HF : Hid (Calls Tryz.prog 47 #[.pointer (some ⟨p, 0, none⟩), .int .u64 vi, .int .i64 1] w fun e w' => e = .returned (.tuple #[]) ∧ Wr K base w' p true place 0 most (L ++ big v 1) ∧ Below lim w w') := fixed_good base lim p v 1 vi 1 place most L w hvi rfl (by omega) hW hm hfit hbs hl1 hl2
  have h0 : 0 ≤ vi := by omega
  have h1 : vi < 256 := by omega
  clear hW hvi
  go_enter Tryz.func18, Tryz.ntmps18
  go_wp2_with fail
  refine HF.out.mono ?_
  rintro e w1 ⟨rfl, hr⟩
  have HR : Hid (Wr K base w1 p true place 0 most (L ++ big v 1) ∧ Below lim w w1) := hr
  clear hr
  go_wp2
  go_end0
  exact ⟨rfl, HR.out⟩

/-- All that a method of the writer's needs behind 'takes': the laid list, its growth, its store. -/
theorem wr_open {base lim p : Nat} {w : World} {place most : Int} {L : List Nat} (hW : Wr K base w p true place 0 most L) (hm : most ≤ 65507) (hlen : (L.length : Int) ≤ most) (hl1 : lim ≤ base) (hl2 : lim ≤ p) :
    ∃ (ao : Option Addr) (cap : Nat), w.cell? ⟨p, 4, none⟩ = some (.slice ao L.length cap) ∧ Owns base w (.slice ao L.length cap) L ∧
      (∀ sz : Int, sz ≤ most - (L.length : Int) → Calls Tryz.prog 48 #[.pointer (some ⟨p, 0, none⟩), .int .i64 sz, .int .i64 0] w fun e w' => e = .returned (.bool true) ∧ ∃ q, w' = w.drewN q) ∧
      (∀ (w2 : World) (v' : Value) (L' : List Nat), Owns base w2 v' L' → Ext w w2 (.slice ao L.length cap) v' → w2.cell? ⟨p, 4, none⟩ = some (.slice ao L.length cap) ∧ w2.frozen? ⟨p, 4, none⟩ = false ∧ Wr K base (w2.setCell ⟨p, 4, none⟩ v') p true place 0 most L' ∧ Below lim w (w2.setCell ⟨p, 4, none⟩ v')) := by
  obtain ⟨u, hb, hO, hne⟩ := hW
  obtain ⟨ao, cap, rfl, hS, _⟩ := hO.form
  have c0 := block_cell hb 0
  have c2 := block_cell hb 2
  have c3 := block_cell hb 3
  have c4 := block_cell hb 4
  simp at c0 c2 c3 c4
  refine ⟨ao, cap, c4, hO, fun sz hsz => takes_good p most ao L.length cap sz w c0 c2 c3 c4 hm hlen hsz, fun w2 v' L' ho he => ?_⟩
  obtain ⟨k4, f4⟩ := wr_cell hb hne he
  exact ⟨k4, f4, wr_after hb hne (fun g hg => (hO.1.lt g hg).1) he ho hl1 hl2⟩
theorem ext_drew {w w2 : World} {v v' : Value} {q : Nat} (he : Ext (w.drewN q) w2 v v') : Ext w w2 v v' := ⟨⟨he.1.os, he.1.tape, he.1.output, he.1.size, he.1.block⟩, he.2⟩

set_option maxRecDepth 10000 in
set_option maxHeartbeats 800000 in
theorem wNum_good (base lim p v : Nat) (vi place most : Int) (L : List Nat) (w : World) (hvi : vi = (v : Int)) (hv : v < 18446744073709551616) (hW : Wr K base w p true place 0 most L) (hm : most ≤ 65507) (hfit : ((L.length + (numB v).length : Nat) : Int) ≤ most) (hbs : base ≤ w.heap.size) (hl1 : lim ≤ base) (hl2 : lim ≤ p) :
    Calls Tryz.prog 21 #[.pointer (some ⟨p, 0, none⟩), .int .u64 vi] w fun e w' => e = .returned (.tuple #[]) ∧ Wr K base w' p true place 0 most (L ++ numB v) ∧ Below lim w w' := by
  obtain ⟨ao, cap, c4, hO, htk, hfin⟩ := wr_open hW hm (by omega) hl1 hl2
  have HNS : Hid (Calls Tryz.prog 49 #[.int .u64 vi] w fun e w' => e = .returned (.int .i64 ((numB v).length : Nat)) ∧ w' = w) := numSize_any v vi w hvi hv
  have HTK : Hid (Calls Tryz.prog 48 #[.pointer (some ⟨p, 0, none⟩), .int .i64 ((numB v).length : Nat), .int .i64 0] w fun e w' => e = .returned (.bool true) ∧ ∃ q, w' = w.drewN q) := htk _ (by omega)
  have HAP : Hid (∀ q, Calls Tryz.prog 51 #[.slice ao L.length cap, .int .u64 vi] (w.drewN q) fun e w' => ∃ v', e = .returned v' ∧ Owns base w' v' (L ++ numB v) ∧ Ext (w.drewN q) w' (.slice ao L.length cap) v') :=
    fun q => appendNum_any base _ L v vi (w.drewN q) hvi hv (hO.drew q) (by omega) hbs
  have HFIN := hide hfin
  clear hfin htk hO hW hvi
  generalize (numB v).length = ns at *
  go_enter Tryz.func21, Tryz.ntmps21
  go_wp2_with fail
  refine HNS.out.mono ?_
  rintro e w0 ⟨rfl, rfl⟩
  go_wp2_with fail
  refine HTK.out.mono ?_
  rintro e w1 ⟨rfl, q, rfl⟩
  go_wp2_with fail
  refine (HAP.out q).mono ?_
  rintro e w2 ⟨v', rfl, ho, he⟩
  obtain ⟨k4, f4, hr⟩ := HFIN.out w2 v' _ ho (ext_drew he)
  obtain ⟨a', c', rfl, _, _⟩ := ho.form
  have HR := hide hr
  clear hr ho he HFIN HAP HTK HNS c4
  generalize (L ++ numB v).length = m at *
  go_wp2
  go_end0
  exact ⟨rfl, HR.out⟩
end Go.Proofs.YthacdhhmmmocpaaGreatDoor
