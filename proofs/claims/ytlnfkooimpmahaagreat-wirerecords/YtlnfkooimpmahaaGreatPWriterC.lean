import Derived.Test.YtlnfkooimpmahaaGreatM1
namespace Go.Proofs.YtlnfkooimpmahaaGreat
open Go.RowKit Crc
variable {K : Kd}

set_option maxRecDepth 10000 in
set_option maxHeartbeats 400000 in
theorem countFault_good (n most : Int) (w : World) (h0 : 0 ≤ n) (h1 : n ≤ most) :
    Calls Tryz.prog 103 #[.int .i64 n, .int .i64 most] w fun e w' => e = .returned (.int .i64 0) ∧ w' = w := by
  have d0 : decide (n < 0) = false := by simp; omega
  have d1 : decide (most < n) = false := by simp; omega
  go_enter Tryz.func103, Tryz.ntmps103
  go_wp2
  go_ret
  exact ⟨rfl, rfl⟩

set_option maxRecDepth 10000 in
set_option maxHeartbeats 800000 in
theorem wCount_good (base lim p v : Nat) (vi cm place most : Int) (L : List Nat) (w : World) (hvi : vi = (v : Int)) (hv : v < 9223372036854775808) (hcm : vi ≤ cm) (hW : Wr K base w p true place 0 most L) (hm : most ≤ 65507) (hfit : ((L.length + (numB v).length : Nat) : Int) ≤ most) (hbs : base ≤ w.heap.size) (hl1 : lim ≤ base) (hl2 : lim ≤ p) :
    Calls Tryz.prog 112 #[.pointer (some ⟨p, 0, none⟩), .int .i64 vi, .int .i64 cm] w fun e w' => e = .returned (.tuple #[]) ∧ Wr K base w' p true place 0 most (L ++ numB v) ∧ Below lim w w' := by
  obtain ⟨ao, cap, c4, hO, htk, hfin⟩ := wr_open hW hm (by omega) hl1 hl2
  have HNS : Hid (Calls Tryz.prog 113 #[.int .u64 vi] w fun e w' => e = .returned (.int .i64 ((numB v).length : Nat)) ∧ w' = w) := numSize_any v vi w hvi (by omega)
  have HCF : Hid (Calls Tryz.prog 103 #[.int .i64 vi, .int .i64 cm] w fun e w' => e = .returned (.int .i64 0) ∧ w' = w) := countFault_good vi cm w (by omega) hcm
  have HTK : Hid (Calls Tryz.prog 60 #[.pointer (some ⟨p, 0, none⟩), .int .i64 ((numB v).length : Nat), .int .i64 0] w fun e w' => e = .returned (.bool true) ∧ ∃ q, w' = w.drewN q) := htk _ (by omega)
  have HAP : Hid (∀ q, Calls Tryz.prog 114 #[.slice ao L.length cap, .int .u64 vi] (w.drewN q) fun e w' => ∃ v', e = .returned v' ∧ Owns base w' v' (L ++ numB v) ∧ Ext (w.drewN q) w' (.slice ao L.length cap) v') :=
    fun q => appendNum_any base _ L v vi (w.drewN q) hvi (by omega) (hO.drew q) (by omega) hbs
  have HFIN := hide hfin
  have h0 : 0 ≤ vi := by omega
  have h1 : vi ≤ 9223372036854775807 := by omega
  clear hfin htk hO hW hvi
  generalize (numB v).length = ns at *
  go_enter Tryz.func112, Tryz.ntmps112
  go_wp2_with fail
  refine HNS.out.mono ?_
  rintro e w0 ⟨rfl, rfl⟩
  go_wp2_with fail
  refine HCF.out.mono ?_
  rintro e w0 ⟨rfl, rfl⟩
  go_wp2_with fail
  refine HTK.out.mono ?_
  rintro e w1 ⟨rfl, q, rfl⟩
  go_wp2_with fail
  refine (HAP.out q).mono ?_
  rintro e w2 ⟨v', rfl, ho, he⟩
  obtain ⟨k4, f4, hr⟩ := HFIN.out w2 v' _ ho (ext_drew he)
  obtain ⟨a', c', rfl, _, _⟩ := ho.form
  have HR := hide hr
  clear hr ho he HFIN HAP HTK HNS HCF c4
  generalize (L ++ numB v).length = m at *
  go_wp2
  go_end0
  exact ⟨rfl, HR.out⟩

theorem owns_join {base : Nat} {w w' : World} {v v' : Value} {A B : List Nat} (h : Owns base w v A) (hB : ∀ x ∈ B, x < 256) (hl : A.length + B.length ≤ 140737488355328) (ho : w'.ownsRow base 5 1 v' (A.length + B.length) (vals A ++ vals B)) : Owns base w' v' (A ++ B) := by
  refine ⟨?_, ?_, by rw [List.length_append]; exact hl⟩
  · rw [vals_append, List.length_append]; exact ho
  · intro x hx
    rcases List.mem_append.1 hx with hx | hx
    · exact h.2.1 x hx
    · exact hB x hx
theorem append_none_run (a b : Option Addr) (n c m : Nat) (hn : n ≤ c) (w : World) : (Builtin.append_ #[29, 29] 29 #[.slice a n c, .slice b 0 m]).run Tryz.prog w = .ok (.slice a n c) w := by
  obtain ⟨i0, hi, hz0, hz1, hz2⟩ := info_parts Tryz.info5
  cases a <;> cases b <;> simp [Builtin.append_, run_underlying Tryz.underlying29, sizeOf, typeInfo, hi, storeCells, go_sem, hn]

set_option maxRecDepth 10000 in
set_option maxHeartbeats 1600000 in
theorem wBlob_gen (base lim p : Nat) (bo : Option Addr) (n bcap blim : Nat) (B : List Nat) (cm place most : Int) (L : List Nat) (w : World) (hS : Shows blim w bo n bcap B) (hKP : ∀ (u v' : Value) (w2 : World), w.cell? ⟨p, 4, none⟩ = some u → Ext w w2 u v' → Shows blim w2 bo n bcap B) (hcm : (n : Int) ≤ cm) (hW : Wr K base w p true place 0 most L) (hm : most ≤ 65507) (hfit : ((L.length + (numB n).length + n : Nat) : Int) ≤ most) (hbs : base ≤ w.heap.size) (hl1 : lim ≤ base) (hl2 : lim ≤ p) :
    Calls Tryz.prog 111 #[.pointer (some ⟨p, 0, none⟩), .slice bo n bcap, .int .i64 cm] w fun e w' => e = .returned (.tuple #[]) ∧ Wr K base w' p true place 0 most (L ++ numB n ++ B) ∧ Below lim w w' := by
  obtain ⟨i0, hi, hz0, hz1, hz2⟩ := info_parts Tryz.info5
  obtain ⟨ao, cap, c4, hO, htk, hfin⟩ := wr_open hW hm (by omega) hl1 hl2
  have hn47 := hS.2.2.1
  have HNS : Hid (Calls Tryz.prog 113 #[.int .u64 (n : Int)] w fun e w' => e = .returned (.int .i64 ((numB n).length : Nat)) ∧ w' = w) := numSize_any n _ w rfl (by omega)
  have HCF : Hid (Calls Tryz.prog 103 #[.int .i64 (n : Int), .int .i64 cm] w fun e w' => e = .returned (.int .i64 0) ∧ w' = w) := countFault_good n cm w (by omega) hcm
  have HTK : Hid (Calls Tryz.prog 60 #[.pointer (some ⟨p, 0, none⟩), .int .i64 (((numB n).length : Nat) + (n : Int)), .int .i64 0] w fun e w' => e = .returned (.bool true) ∧ ∃ q, w' = w.drewN q) := htk _ (by omega)
  have HAP : Hid (∀ q, Calls Tryz.prog 114 #[.slice ao L.length cap, .int .u64 (n : Int)] (w.drewN q) fun e w' => ∃ v', e = .returned v' ∧ Owns base w' v' (L ++ numB n) ∧ Ext (w.drewN q) w' (.slice ao L.length cap) v') :=
    fun q => appendNum_any base _ L n _ (w.drewN q) rfl (by omega) (hO.drew q) (by omega) hbs
  have HKP : Hid (∀ (w2 : World) (v' : Value), Ext w w2 (.slice ao L.length cap) v' → Shows blim w2 bo n bcap B) := fun w2 v' he => hKP _ v' w2 c4 he
  have HFIN := hide hfin
  have HNB : Hid (n = B.length) := hS.1
  have hnl : (numB n).length ≤ 10 := numTo_len 9 n
  have HBS : Hid (∀ (w2 : World) (v' : Value), Ext w w2 (.slice ao L.length cap) v' → base ≤ w2.heap.size) := fun w2 v' he => Nat.le_trans hbs he.1.size
  clear hfin htk hO hW hS hKP
  generalize hns : (numB n).length = ns at *
  have HNS2 := hide hns
  clear hns
  go_enter Tryz.func111, Tryz.ntmps111
  go_wp2_with fail
  refine HNS.out.mono ?_
  rintro e w0 ⟨rfl, rfl⟩
  go_wp2_with fail
  refine HCF.out.mono ?_
  rintro e w0 ⟨rfl, rfl⟩
  go_wp2_with fail
  refine HTK.out.mono ?_
  rintro e w1 ⟨rfl, q, rfl⟩
  go_wp2_with fail
  refine (HAP.out q).mono ?_
  rintro e w2 ⟨v', rfl, ho, he⟩
  have HE := hide (ext_drew he)
  have HO := hide ho
  obtain ⟨a', c', rfl, hs', _⟩ := ho.form
  have hcap' : (L ++ numB n).length ≤ c' := hs'.2.1
  have HSB := hide (HKP.out w2 _ HE.out)
  have hll : (L ++ numB n).length = L.length + ns := by rw [List.length_append, HNS2.out]
  have HLL := hide hll
  have hbd : (L ++ numB n).length ≤ 100000 := by omega
  clear ho he hs' HAP HTK HNS HCF HKP hll
  generalize hm' : (L ++ numB n).length = m at *
  by_cases hn0 : n = 0
  · obtain rfl : n = 0 := hn0
    have HB0 : Hid (B = []) := List.eq_nil_of_length_eq_zero HNB.out.symm
    obtain ⟨k4, f4, hr⟩ := HFIN.out w2 _ _ HO.out HE.out
    have HR := hide hr
    have HAN := hide (fun wx => append_none_run a' bo m c' bcap hcap' wx)
    clear hr HFIN c4 hm'
    go_wp2_with (first
      | (at_builtin; refine wpList_append_nothing rfl (.tmp 27) (.tmp 28) 29 rfl _ _ rfl rfl (HAN.out _) ?_))
    go_end0
    refine ⟨rfl, ?_⟩
    rw [HB0.out, List.append_nil]
    exact HR.out
  · obtain ⟨hq1, _, _, hBlt, bb, oo, q5, q6, q7⟩ := HSB.out
    clear hq1
    obtain rfl := q5 (by omega)
    have HSRC := hide (vals_cell (B := B) (w := w2) (b := bb) (off := oo) (fun i hi => q7 i (by have := HNB.out; omega)))
    have HBLT := hide hBlt
    have HOW : Hid (w2.ownsRow base 5 1 (.slice a' m c') m (vals (L ++ numB n))) := by
      have h := HO.out.1
      rw [hm'] at h
      exact h
    have HMM := hide hm'
    clear q5 q6 q7 hBlt hm'
    go_wp2_with (first
      | (at_builtin; refine wpList_append_ext _ rfl (.tmp 27) (.tmp 28) 29 rfl base 5 i0 (.int .u8 0) Tryz.underlying29 hi hz0 hz1 hz2 rfl _ m (vals (L ++ numB n)) rfl HOW.out ⟨bb, oo, none⟩ n bcap (vals B) rfl (by rw [vals_len]; exact HNB.out.symm) HSRC.out (vals_one' B) (by omega) (by omega) (HBS.out w2 _ HE.out) ?_; intro v' w3 hown3 hext3; have HO3 : Hid (Owns base w3 v' (L ++ numB n ++ B)) := owns_join HO.out HBLT.out (by rw [HMM.out, ← HNB.out]; omega) (by rw [HMM.out, ← HNB.out]; exact hown3); obtain ⟨k4, f4, hr⟩ := HFIN.out w3 v' _ HO3.out (HE.out.trans hext3); obtain ⟨a3, c3, rfl, _, _⟩ := HO3.out.form; have HR := hide hr; clear hr hown3 hext3))
    go_end0
    refine ⟨rfl, ?_⟩
    rw [show L.length + ((numB n).length + B.length) = (L ++ numB n ++ B).length by simp]
    exact HR.out
/-- The writer's list has its block from base on. -/
theorem Wr.own_lt {base : Nat} {w : World} {p : Nat} {made : Bool} {place why most : Int} {L : List Nat} (h : Wr K base w p made place why most L) {u : Value} {g : Nat} (hu : w.cell? ⟨p, 4, none⟩ = some u) (hg : u.ownBlock = some g) : base ≤ g ∧ g < w.heap.size := by
  obtain ⟨v, hb, hO, _⟩ := h
  have c4 := block_cell hb 4
  rw [hu] at c4
  simp at c4
  subst c4
  exact hO.1.lt g hg
theorem wBlob_good (base lim p : Nat) (bo : Option Addr) (n bcap blim : Nat) (B : List Nat) (cm place most : Int) (L : List Nat) (w : World) (hS : Shows blim w bo n bcap B) (hbl : blim ≤ lim) (hcm : (n : Int) ≤ cm) (hW : Wr K base w p true place 0 most L) (hm : most ≤ 65507) (hfit : ((L.length + (numB n).length + n : Nat) : Int) ≤ most) (hbs : base ≤ w.heap.size) (hl1 : lim ≤ base) (hl2 : lim ≤ p) :
    Calls Tryz.prog 111 #[.pointer (some ⟨p, 0, none⟩), .slice bo n bcap, .int .i64 cm] w fun e w' => e = .returned (.tuple #[]) ∧ Wr K base w' p true place 0 most (L ++ numB n ++ B) ∧ Below lim w w' :=
  wBlob_gen base lim p bo n bcap blim B cm place most L w hS (fun u v' w2 hu he => hS.kept he.1 (fun g hg => by have := (hW.own_lt hu hg).1; omega)) hcm hW hm hfit hbs hl1 hl2
end Go.Proofs.YtlnfkooimpmahaaGreat
