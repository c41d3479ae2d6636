import Derived.Test.YtiijbboigebhcaaGreatDoorPRefNum
import Derived.Test.YtiijbboigebhcaaGreatDoorM0
import Derived.Test.YtiijbboigebhcaaGreatDoorM2
import Derived.Lib.AppendStr
import Derived.Laws.RangeAny
import Derived.Laws.BytesString
namespace Go.Proofs.YtiijbboigebhcaaGreatDoor
open Go.RowKit Crc

theorem RS.step_not {s : RS} (hs : ¬ s.sound) (z : Nat) (y : Int) : s.step z y = s := by unfold RS.step; rw [if_neg hs]
theorem RS.rest_not {s : RS} (hs : ¬ s.sound) : s.rest = [] := restB_sound hs
theorem RS.sound_ok {s : RS} (hs : s.sound) (z : Nat) : (s.step z 0).sound := by rw [RS.step_ok hs]; exact hs
theorem RS.unsound {s : RS} (z : Nat) {y : Int} (hy : y ≠ 0) : ¬ (s.step z y).sound := by
  by_cases hs : s.sound
  · rw [RS.step_fail hs z hy]; exact fun h => hy h.2
  · rw [RS.step_not hs]; exact hs
/-- Gone back to the field's beginning, and refused. -/
theorem RS.step_back {s : RS} (hs : s.sound) (z z' : Nat) {y : Int} (hy : y ≠ 0) : { s.step z 0 with why := y, place := (s.pos : Int), pos := s.pos } = s.step z' y := by rw [RS.step_ok hs, RS.step_fail hs z' hy]
theorem RS.step_B (s : RS) (z : Nat) (y : Int) : (s.step z y).B = s.B := by unfold RS.step; split <;> (try split) <;> rfl

set_option maxRecDepth 10000 in
set_option maxHeartbeats 1600000 in
theorem refCount_any (d p : Nat) (s : RS) (most : Int) (w : World) (hR : RefS d w p s) (hm1 : -9223372036854775808 ≤ most) (hm2 : most < 9223372036854775808) :
    Calls Tryz.prog 44 #[.pointer (some ⟨p, 0, none⟩), .int .i64 most] w fun e w' => e = .returned (.int .i64 ((countAt s.rest most).1 : Nat)) ∧ RefS d w' p (s.step (countAt s.rest most).2.1 (countAt s.rest most).2.2) ∧ w.grownBy w' (some p) := by
  have HNM := hide (refNum_any d p s w hR)
  have hpl := hR.posle
  obtain ⟨ao, cap, hb, -⟩ := id hR
  have c2 := block_cell hb 2
  simp at c2
  clear hb hR
  have hok := numAt_ok s.rest
  have HCA : Hid (countAt s.rest most = if (numAt s.rest).2.2 ≠ 0 then (0, 0, (numAt s.rest).2.2) else if most < ((numAt s.rest).1 : Int) then (0, 0, 21) else ((numAt s.rest).1, (numAt s.rest).2.1, 0)) := rfl
  have HEM : Hid ((numAt s.rest).2.2 = 0 → s.sound) := by
    intro h
    by_cases hs : s.sound
    · exact hs
    · rw [RS.rest_not hs] at h; cases h
  obtain ⟨⟨v, z, y⟩, ht⟩ : ∃ t, t = numAt s.rest := ⟨_, rfl⟩
  rw [← ht] at HNM hok HCA HEM
  simp only at HNM hok HCA HEM
  obtain ⟨ct, hct⟩ : ∃ t, t = countAt s.rest most := ⟨_, rfl⟩
  rw [← hct] at HCA ⊢
  clear ht hct
  by_cases hy : y = 0
  · have hs : s.sound := HEM.out hy
    subst hy
    have HS := hide (RS.sound_ok hs z)
    have HBK := hide (RS.step_back hs z 0 (y := 21) (by decide))
    have HPB := hide (show s.pos ≤ (s.step z 0).B.length by rw [RS.step_B]; exact hpl)
    have hvl := hok.1
    clear hok hs hpl HEM
    by_cases hmv : most < (v : Int)
    · have HCT : Hid (ct = (0, 0, 21)) := by
        have := HCA.out
        rw [if_neg (by simp), if_pos hmv] at this
        exact this
      clear HCA
      have HO : Hid (decide (most < 0) = true ∨ decide (most < 0) = false ∧ 0 ≤ most) := by
        show _ ∨ _
        by_cases h : most < 0
        · exact .inl (by simp [h])
        · exact .inr ⟨by simp; omega, by omega⟩
      rcases HO.out with h0 | ⟨h0, h0'⟩
      · clear hmv
        go_enter Tryz.func44, Tryz.ntmps44
        go_wp2_with fail
        refine HNM.out.mono ?_
        rintro e w1 ⟨rfl, h1, h2⟩
        have HDD := hide (dead_sound d p _ w1 h1 HS.out)
        have HFA := hide (refFail_any d p _ 21 s.pos w1 h1 HPB.out)
        have H2 := hide h2
        clear h1 h2
        go_wp2_with fail
        refine HDD.out.mono ?_
        rintro e w2 ⟨rfl, rfl⟩
        go_wp2_with fail
        refine HFA.out.mono ?_
        rintro e w3 ⟨rfl, h3, h4⟩
        go_wp2
        go_ret
        refine ⟨by rw [HCT.out]; rfl, ?_, grown_trans (row := some p) H2.out h4⟩
        rw [HCT.out, ← HBK.out]
        exact h3
      · obtain ⟨M, rfl⟩ : ∃ M : Nat, most = (M : Int) := ⟨most.toNat, by omega⟩
        have hcv : IntKind.u64.wrap (M : Int) = (M : Int) := wrapu64_nat (by omega)
        have dM : decide ((M : Int) < (v : Int)) = true := by simp; omega
        have dM' : decide (M < v) = true := by simp; omega
        clear hmv h0'
        go_enter Tryz.func44, Tryz.ntmps44
        go_wp2_with fail
        refine HNM.out.mono ?_
        rintro e w1 ⟨rfl, h1, h2⟩
        have HDD := hide (dead_sound d p _ w1 h1 HS.out)
        have HFA := hide (refFail_any d p _ 21 s.pos w1 h1 HPB.out)
        have H2 := hide h2
        clear h1 h2
        go_wp2_with fail
        refine HDD.out.mono ?_
        rintro e w2 ⟨rfl, rfl⟩
        go_wp2_with fail
        refine HFA.out.mono ?_
        rintro e w3 ⟨rfl, h3, h4⟩
        go_wp2
        go_ret
        refine ⟨by rw [HCT.out]; rfl, ?_, grown_trans (row := some p) H2.out h4⟩
        rw [HCT.out, ← HBK.out]
        exact h3
    · have HCT : Hid (ct = (v, z, 0)) := by
        have := HCA.out
        rw [if_neg (by simp), if_neg hmv] at this
        exact this
      obtain ⟨M, rfl⟩ : ∃ M : Nat, most = (M : Int) := ⟨most.toNat, by omega⟩
      have hcv : IntKind.u64.wrap (M : Int) = (M : Int) := wrapu64_nat (by omega)
      have h0 : decide ((M : Int) < 0) = false := by simp
      have dM : decide ((M : Int) < (v : Int)) = false := by simp; omega
      have dM' : decide (M < v) = false := by simp; omega
      have hv63 : (v : Int) < 9223372036854775808 := by omega
      have hvw : IntKind.i64.wrap (v : Int) = (v : Int) := wrap64_nat (by omega)
      clear HCA hmv
      go_enter Tryz.func44, Tryz.ntmps44
      go_wp2_with fail
      refine HNM.out.mono ?_
      rintro e w1 ⟨rfl, h1, h2⟩
      have HDD := hide (dead_sound d p _ w1 h1 HS.out)
      have H1 := hide h1
      have H2 := hide h2
      clear h1 h2
      go_wp2_with fail
      refine HDD.out.mono ?_
      rintro e w2 ⟨rfl, rfl⟩
      go_wp2
      go_ret
      refine ⟨by rw [HCT.out]; rfl, ?_, H2.out⟩
      rw [HCT.out]
      exact H1.out
  · have HCT : Hid (ct = (0, 0, y)) := by
      have := HCA.out
      rw [if_pos hy] at this
      exact this
    obtain ⟨rfl, rfl⟩ := hok.2.2.2 hy
    have HN := hide (RS.unsound (s := s) 0 hy)
    clear HCA hok HEM hpl hy
    go_enter Tryz.func44, Tryz.ntmps44
    go_wp2_with fail
    refine HNM.out.mono ?_
    rintro e w1 ⟨rfl, h1, h2⟩
    have HDD := hide (dead_not d p _ w1 h1 HN.out)
    have H1 := hide h1
    have H2 := hide h2
    clear h1 h2
    go_wp2_with fail
    refine HDD.out.mono ?_
    rintro e w2 ⟨rfl, rfl⟩
    go_wp2
    go_ret
    refine ⟨by rw [HCT.out]; rfl, ?_, H2.out⟩
    rw [HCT.out]
    exact H1.out
end Go.Proofs.YtiijbboigebhcaaGreatDoor
namespace Go.Proofs.YtiijbboigebhcaaGreatDoor
open Go.RowKit Crc
variable {K : Kd}

set_option maxRecDepth 10000 in
set_option maxHeartbeats 400000 in
theorem wU8_good (base lim p v : Nat) (vi place most : Int) (L : List Nat) (w : World) (hvi : vi = (v : Int)) (hv : v < 256) (hW : Wr K base w p true place 0 most L) (hm : most ≤ 65507) (hfit : ((L.length + 1 : Nat) : Int) ≤ most) (hbs : base ≤ w.heap.size) (hl1 : lim ≤ base) (hl2 : lim ≤ p) :
    Calls Tryz.prog 22 #[.pointer (some ⟨p, 0, none⟩), .int .u8 vi] w fun e w' => e = .returned (.tuple #[]) ∧ Wr K base w' p true place 0 most (L ++ big v 1) ∧ Below lim w w' := by
  have HF : Hid (Calls Tryz.prog 56 #[.pointer (some ⟨p, 0, none⟩), .int .u64 vi, .int .i64 1] w fun e w' => e = .returned (.tuple #[]) ∧ Wr K base w' p true place 0 most (L ++ big v 1) ∧ Below lim w w') := fixed_good base lim p v 1 vi 1 place most L w hvi rfl (by omega) hW hm hfit hbs hl1 hl2
  have h0 : 0 ≤ vi := by omega
  have h1 : vi < 256 := by omega
  clear hW hvi
  go_enter Tryz.func22, Tryz.ntmps22
  go_wp2_with fail
  refine HF.out.mono ?_
  rintro e w1 ⟨rfl, hr⟩
  have HR : Hid (Wr K base w1 p true place 0 most (L ++ big v 1) ∧ Below lim w w1) := hr
  clear hr
  go_wp2
  go_end0
  exact ⟨rfl, HR.out⟩

set_option maxRecDepth 10000 in
set_option maxHeartbeats 400000 in
theorem wU32_good (base lim p v : Nat) (vi place most : Int) (L : List Nat) (w : World) (hvi : vi = (v : Int)) (hv : v < 4294967296) (hW : Wr K base w p true place 0 most L) (hm : most ≤ 65507) (hfit : ((L.length + 4 : Nat) : Int) ≤ most) (hbs : base ≤ w.heap.size) (hl1 : lim ≤ base) (hl2 : lim ≤ p) :
    Calls Tryz.prog 21 #[.pointer (some ⟨p, 0, none⟩), .int .u32 vi] w fun e w' => e = .returned (.tuple #[]) ∧ Wr K base w' p true place 0 most (L ++ big v 4) ∧ Below lim w w' := by
  have HF : Hid (Calls Tryz.prog 56 #[.pointer (some ⟨p, 0, none⟩), .int .u64 vi, .int .i64 4] w fun e w' => e = .returned (.tuple #[]) ∧ Wr K base w' p true place 0 most (L ++ big v 4) ∧ Below lim w w') := fixed_good base lim p v 4 vi 4 place most L w hvi rfl (by omega) hW hm hfit hbs hl1 hl2
  have h0 : 0 ≤ vi := by omega
  have h1 : vi < 4294967296 := by omega
  clear hW hvi
  go_enter Tryz.func21, Tryz.ntmps21
  go_wp2_with fail
  refine HF.out.mono ?_
  rintro e w1 ⟨rfl, hr⟩
  have HR : Hid (Wr K base w1 p true place 0 most (L ++ big v 4) ∧ Below lim w w1) := hr
  clear hr
  go_wp2
  go_end0
  exact ⟨rfl, HR.out⟩

/-- All that a method of the writer's needs behind 'takes': the laid list, its growth, its store. -/
theorem wr_open {base lim p : Nat} {w : World} {place most : Int} {L : List Nat} (hW : Wr K base w p true place 0 most L) (hm : most ≤ 65507) (hlen : (L.length : Int) ≤ most) (hl1 : lim ≤ base) (hl2 : lim ≤ p) :
    ∃ (ao : Option Addr) (cap : Nat), w.cell? ⟨p, 4, none⟩ = some (.slice ao L.length cap) ∧ Owns base w (.slice ao L.length cap) L ∧
      (∀ sz : Int, sz ≤ most - (L.length : Int) → Calls Tryz.prog 96 #[.pointer (some ⟨p, 0, none⟩), .int .i64 sz, .int .i64 0] w fun e w' => e = .returned (.bool true) ∧ ∃ q, w' = w.drewN q) ∧
      (∀ (w2 : World) (v' : Value) (L' : List Nat), Owns base w2 v' L' → Ext w w2 (.slice ao L.length cap) v' → w2.cell? ⟨p, 4, none⟩ = some (.slice ao L.length cap) ∧ w2.frozen? ⟨p, 4, none⟩ = false ∧ Wr K base (w2.setCell ⟨p, 4, none⟩ v') p true place 0 most L' ∧ Below lim w (w2.setCell ⟨p, 4, none⟩ v')) := by
  obtain ⟨u, hb, hO, hne⟩ := hW
  obtain ⟨ao, cap, rfl, hS, _⟩ := hO.form
  have c0 := block_cell hb 0
  have c2 := block_cell hb 2
  have c3 := block_cell hb 3
  have c4 := block_cell hb 4
  simp at c0 c2 c3 c4
  refine ⟨ao, cap, c4, hO, fun sz hsz => takes_good p most ao L.length cap sz w c0 c2 c3 c4 hm hlen hsz, fun w2 v' L' ho he => ?_⟩
  obtain ⟨k4, f4⟩ := wr_cell hb hne he
  exact ⟨k4, f4, wr_after hb hne (fun g hg => (hO.1.lt g hg).1) he ho hl1 hl2⟩
theorem ext_drew {w w2 : World} {v v' : Value} {q : Nat} (he : Ext (w.drewN q) w2 v v') : Ext w w2 v v' := ⟨⟨he.1.os, he.1.tape, he.1.output, he.1.size, he.1.block⟩, he.2⟩

set_option maxRecDepth 10000 in
set_option maxHeartbeats 800000 in
theorem wNum_good (base lim p v : Nat) (vi place most : Int) (L : List Nat) (w : World) (hvi : vi = (v : Int)) (hv : v < 18446744073709551616) (hW : Wr K base w p true place 0 most L) (hm : most ≤ 65507) (hfit : ((L.length + (numB v).length : Nat) : Int) ≤ most) (hbs : base ≤ w.heap.size) (hl1 : lim ≤ base) (hl2 : lim ≤ p) :
    Calls Tryz.prog 98 #[.pointer (some ⟨p, 0, none⟩), .int .u64 vi] w fun e w' => e = .returned (.tuple #[]) ∧ Wr K base w' p true place 0 most (L ++ numB v) ∧ Below lim w w' := by
  obtain ⟨ao, cap, c4, hO, htk, hfin⟩ := wr_open hW hm (by omega) hl1 hl2
  have HNS : Hid (Calls Tryz.prog 125 #[.int .u64 vi] w fun e w' => e = .returned (.int .i64 ((numB v).length : Nat)) ∧ w' = w) := numSize_any v vi w hvi hv
  have HTK : Hid (Calls Tryz.prog 96 #[.pointer (some ⟨p, 0, none⟩), .int .i64 ((numB v).length : Nat), .int .i64 0] w fun e w' => e = .returned (.bool true) ∧ ∃ q, w' = w.drewN q) := htk _ (by omega)
  have HAP : Hid (∀ q, Calls Tryz.prog 126 #[.slice ao L.length cap, .int .u64 vi] (w.drewN q) fun e w' => ∃ v', e = .returned v' ∧ Owns base w' v' (L ++ numB v) ∧ Ext (w.drewN q) w' (.slice ao L.length cap) v') :=
    fun q => appendNum_any base _ L v vi (w.drewN q) hvi hv (hO.drew q) (by omega) hbs
  have HFIN := hide hfin
  clear hfin htk hO hW hvi
  generalize (numB v).length = ns at *
  go_enter Tryz.func98, Tryz.ntmps98
  go_wp2_with fail
  refine HNS.out.mono ?_
  rintro e w0 ⟨rfl, rfl⟩
  go_wp2_with fail
  refine HTK.out.mono ?_
  rintro e w1 ⟨rfl, q, rfl⟩
  go_wp2_with fail
  refine (HAP.out q).mono ?_
  rintro e w2 ⟨v', rfl, ho, he⟩
  obtain ⟨k4, f4, hr⟩ := HFIN.out w2 v' _ ho (ext_drew he)
  obtain ⟨a', c', rfl, _, _⟩ := ho.form
  have HR := hide hr
  clear hr ho he HFIN HAP HTK HNS c4
  generalize (L ++ numB v).length = m at *
  go_wp2
  go_end0
  exact ⟨rfl, HR.out⟩
end Go.Proofs.YtiijbboigebhcaaGreatDoor
namespace Go.Proofs.YtiijbboigebhcaaGreatDoor
open Go.RowKit Crc
variable {K : Kd}

set_option maxRecDepth 10000 in
set_option maxHeartbeats 400000 in
theorem countFault_good (n most : Int) (w : World) (h0 : 0 ≤ n) (h1 : n ≤ most) :
    Calls Tryz.prog 127 #[.int .i64 n, .int .i64 most] w fun e w' => e = .returned (.int .i64 0) ∧ w' = w := by
  have d0 : decide (n < 0) = false := by simp; omega
  have d1 : decide (most < n) = false := by simp; omega
  go_enter Tryz.func127, Tryz.ntmps127
  go_wp2
  go_ret
  exact ⟨rfl, rfl⟩

set_option maxRecDepth 10000 in
set_option maxHeartbeats 800000 in
theorem wCount_good (base lim p v : Nat) (vi cm place most : Int) (L : List Nat) (w : World) (hvi : vi = (v : Int)) (hv : v < 9223372036854775808) (hcm : vi ≤ cm) (hW : Wr K base w p true place 0 most L) (hm : most ≤ 65507) (hfit : ((L.length + (numB v).length : Nat) : Int) ≤ most) (hbs : base ≤ w.heap.size) (hl1 : lim ≤ base) (hl2 : lim ≤ p) :
    Calls Tryz.prog 105 #[.pointer (some ⟨p, 0, none⟩), .int .i64 vi, .int .i64 cm] w fun e w' => e = .returned (.tuple #[]) ∧ Wr K base w' p true place 0 most (L ++ numB v) ∧ Below lim w w' := by
  obtain ⟨ao, cap, c4, hO, htk, hfin⟩ := wr_open hW hm (by omega) hl1 hl2
  have HNS : Hid (Calls Tryz.prog 125 #[.int .u64 vi] w fun e w' => e = .returned (.int .i64 ((numB v).length : Nat)) ∧ w' = w) := numSize_any v vi w hvi (by omega)
  have HCF : Hid (Calls Tryz.prog 127 #[.int .i64 vi, .int .i64 cm] w fun e w' => e = .returned (.int .i64 0) ∧ w' = w) := countFault_good vi cm w (by omega) hcm
  have HTK : Hid (Calls Tryz.prog 96 #[.pointer (some ⟨p, 0, none⟩), .int .i64 ((numB v).length : Nat), .int .i64 0] w fun e w' => e = .returned (.bool true) ∧ ∃ q, w' = w.drewN q) := htk _ (by omega)
  have HAP : Hid (∀ q, Calls Tryz.prog 126 #[.slice ao L.length cap, .int .u64 vi] (w.drewN q) fun e w' => ∃ v', e = .returned v' ∧ Owns base w' v' (L ++ numB v) ∧ Ext (w.drewN q) w' (.slice ao L.length cap) v') :=
    fun q => appendNum_any base _ L v vi (w.drewN q) hvi (by omega) (hO.drew q) (by omega) hbs
  have HFIN := hide hfin
  have h0 : 0 ≤ vi := by omega
  have h1 : vi ≤ 9223372036854775807 := by omega
  clear hfin htk hO hW hvi
  generalize (numB v).length = ns at *
  go_enter Tryz.func105, Tryz.ntmps105
  go_wp2_with fail
  refine HNS.out.mono ?_
  rintro e w0 ⟨rfl, rfl⟩
  go_wp2_with fail
  refine HCF.out.mono ?_
  rintro e w0 ⟨rfl, rfl⟩
  go_wp2_with fail
  refine HTK.out.mono ?_
  rintro e w1 ⟨rfl, q, rfl⟩
  go_wp2_with fail
  refine (HAP.out q).mono ?_
  rintro e w2 ⟨v', rfl, ho, he⟩
  obtain ⟨k4, f4, hr⟩ := HFIN.out w2 v' _ ho (ext_drew he)
  obtain ⟨a', c', rfl, _, _⟩ := ho.form
  have HR := hide hr
  clear hr ho he HFIN HAP HTK HNS HCF c4
  generalize (L ++ numB v).length = m at *
  go_wp2
  go_end0
  exact ⟨rfl, HR.out⟩

theorem owns_join {base : Nat} {w w' : World} {v v' : Value} {A B : List Nat} (h : Owns base w v A) (hB : ∀ x ∈ B, x < 256) (hl : A.length + B.length ≤ 140737488355328) (ho : w'.ownsRow base 5 1 v' (A.length + B.length) (vals A ++ vals B)) : Owns base w' v' (A ++ B) := by
  refine ⟨?_, ?_, by rw [List.length_append]; exact hl⟩
  · rw [vals_append, List.length_append]; exact ho
  · intro x hx
    rcases List.mem_append.1 hx with hx | hx
    · exact h.2.1 x hx
    · exact hB x hx
theorem append_none_run (a b : Option Addr) (n c m : Nat) (hn : n ≤ c) (w : World) : (Builtin.append_ #[36, 36] 36 #[.slice a n c, .slice b 0 m]).run Tryz.prog w = .ok (.slice a n c) w := by
  obtain ⟨i0, hi, hz0, hz1, hz2⟩ := info_parts Tryz.info5
  cases a <;> cases b <;> simp [Builtin.append_, run_underlying Tryz.underlying36, sizeOf, typeInfo, hi, storeCells, go_sem, hn]

set_option maxRecDepth 10000 in
set_option maxHeartbeats 1600000 in
theorem wBlob_gen (base lim p : Nat) (bo : Option Addr) (n bcap blim : Nat) (B : List Nat) (cm place most : Int) (L : List Nat) (w : World) (hS : Shows blim w bo n bcap B) (hKP : ∀ (u v' : Value) (w2 : World), w.cell? ⟨p, 4, none⟩ = some u → Ext w w2 u v' → Shows blim w2 bo n bcap B) (hcm : (n : Int) ≤ cm) (hW : Wr K base w p true place 0 most L) (hm : most ≤ 65507) (hfit : ((L.length + (numB n).length + n : Nat) : Int) ≤ most) (hbs : base ≤ w.heap.size) (hl1 : lim ≤ base) (hl2 : lim ≤ p) :
    Calls Tryz.prog 106 #[.pointer (some ⟨p, 0, none⟩), .slice bo n bcap, .int .i64 cm] w fun e w' => e = .returned (.tuple #[]) ∧ Wr K base w' p true place 0 most (L ++ numB n ++ B) ∧ Below lim w w' := by
  obtain ⟨i0, hi, hz0, hz1, hz2⟩ := info_parts Tryz.info5
  obtain ⟨ao, cap, c4, hO, htk, hfin⟩ := wr_open hW hm (by omega) hl1 hl2
  have hn47 := hS.2.2.1
  have HNS : Hid (Calls Tryz.prog 125 #[.int .u64 (n : Int)] w fun e w' => e = .returned (.int .i64 ((numB n).length : Nat)) ∧ w' = w) := numSize_any n _ w rfl (by omega)
  have HCF : Hid (Calls Tryz.prog 127 #[.int .i64 (n : Int), .int .i64 cm] w fun e w' => e = .returned (.int .i64 0) ∧ w' = w) := countFault_good n cm w (by omega) hcm
  have HTK : Hid (Calls Tryz.prog 96 #[.pointer (some ⟨p, 0, none⟩), .int .i64 (((numB n).length : Nat) + (n : Int)), .int .i64 0] w fun e w' => e = .returned (.bool true) ∧ ∃ q, w' = w.drewN q) := htk _ (by omega)
  have HAP : Hid (∀ q, Calls Tryz.prog 126 #[.slice ao L.length cap, .int .u64 (n : Int)] (w.drewN q) fun e w' => ∃ v', e = .returned v' ∧ Owns base w' v' (L ++ numB n) ∧ Ext (w.drewN q) w' (.slice ao L.length cap) v') :=
    fun q => appendNum_any base _ L n _ (w.drewN q) rfl (by omega) (hO.drew q) (by omega) hbs
  have HKP : Hid (∀ (w2 : World) (v' : Value), Ext w w2 (.slice ao L.length cap) v' → Shows blim w2 bo n bcap B) := fun w2 v' he => hKP _ v' w2 c4 he
  have HFIN := hide hfin
  have HNB : Hid (n = B.length) := hS.1
  have hnl : (numB n).length ≤ 10 := numTo_len 9 n
  have HBS : Hid (∀ (w2 : World) (v' : Value), Ext w w2 (.slice ao L.length cap) v' → base ≤ w2.heap.size) := fun w2 v' he => Nat.le_trans hbs he.1.size
  clear hfin htk hO hW hS hKP
  generalize hns : (numB n).length = ns at *
  have HNS2 := hide hns
  clear hns
  go_enter Tryz.func106, Tryz.ntmps106
  go_wp2_with fail
  refine HNS.out.mono ?_
  rintro e w0 ⟨rfl, rfl⟩
  go_wp2_with fail
  refine HCF.out.mono ?_
  rintro e w0 ⟨rfl, rfl⟩
  go_wp2_with fail
  refine HTK.out.mono ?_
  rintro e w1 ⟨rfl, q, rfl⟩
  go_wp2_with fail
  refine (HAP.out q).mono ?_
  rintro e w2 ⟨v', rfl, ho, he⟩
  have HE := hide (ext_drew he)
  have HO := hide ho
  obtain ⟨a', c', rfl, hs', _⟩ := ho.form
  have hcap' : (L ++ numB n).length ≤ c' := hs'.2.1
  have HSB := hide (HKP.out w2 _ HE.out)
  have hll : (L ++ numB n).length = L.length + ns := by rw [List.length_append, HNS2.out]
  have HLL := hide hll
  have hbd : (L ++ numB n).length ≤ 100000 := by omega
  clear ho he hs' HAP HTK HNS HCF HKP hll
  generalize hm' : (L ++ numB n).length = m at *
  by_cases hn0 : n = 0
  · obtain rfl : n = 0 := hn0
    have HB0 : Hid (B = []) := List.eq_nil_of_length_eq_zero HNB.out.symm
    obtain ⟨k4, f4, hr⟩ := HFIN.out w2 _ _ HO.out HE.out
    have HR := hide hr
    have HAN := hide (fun wx => append_none_run a' bo m c' bcap hcap' wx)
    clear hr HFIN c4 hm'
    go_wp2_with (first
      | (at_builtin; refine wpList_append_nothing rfl (.tmp 27) (.tmp 28) 36 rfl _ _ rfl rfl (HAN.out _) ?_))
    go_end0
    refine ⟨rfl, ?_⟩
    rw [HB0.out, List.append_nil]
    exact HR.out
  · obtain ⟨hq1, _, _, hBlt, bb, oo, q5, q6, q7⟩ := HSB.out
    clear hq1
    obtain rfl := q5 (by omega)
    have HSRC := hide (vals_cell (B := B) (w := w2) (b := bb) (off := oo) (fun i hi => q7 i (by have := HNB.out; omega)))
    have HBLT := hide hBlt
    have HOW : Hid (w2.ownsRow base 5 1 (.slice a' m c') m (vals (L ++ numB n))) := by
      have h := HO.out.1
      rw [hm'] at h
      exact h
    have HMM := hide hm'
    clear q5 q6 q7 hBlt hm'
    go_wp2_with (first
      | (at_builtin; refine wpList_append_ext _ rfl (.tmp 27) (.tmp 28) 36 rfl base 5 i0 (.int .u8 0) Tryz.underlying36 hi hz0 hz1 hz2 rfl _ m (vals (L ++ numB n)) rfl HOW.out ⟨bb, oo, none⟩ n bcap (vals B) rfl (by rw [vals_len]; exact HNB.out.symm) HSRC.out (vals_one' B) (by omega) (by omega) (HBS.out w2 _ HE.out) ?_; intro v' w3 hown3 hext3; have HO3 : Hid (Owns base w3 v' (L ++ numB n ++ B)) := owns_join HO.out HBLT.out (by rw [HMM.out, ← HNB.out]; omega) (by rw [HMM.out, ← HNB.out]; exact hown3); obtain ⟨k4, f4, hr⟩ := HFIN.out w3 v' _ HO3.out (HE.out.trans hext3); obtain ⟨a3, c3, rfl, _, _⟩ := HO3.out.form; have HR := hide hr; clear hr hown3 hext3))
    go_end0
    refine ⟨rfl, ?_⟩
    rw [show L.length + ((numB n).length + B.length) = (L ++ numB n ++ B).length by simp]
    exact HR.out
/-- The writer's list has its block from base on. -/
theorem Wr.own_lt {base : Nat} {w : World} {p : Nat} {made : Bool} {place why most : Int} {L : List Nat} (h : Wr K base w p made place why most L) {u : Value} {g : Nat} (hu : w.cell? ⟨p, 4, none⟩ = some u) (hg : u.ownBlock = some g) : base ≤ g ∧ g < w.heap.size := by
  obtain ⟨v, hb, hO, _⟩ := h
  have c4 := block_cell hb 4
  rw [hu] at c4
  simp at c4
  subst c4
  exact hO.1.lt g hg
theorem wBlob_good (base lim p : Nat) (bo : Option Addr) (n bcap blim : Nat) (B : List Nat) (cm place most : Int) (L : List Nat) (w : World) (hS : Shows blim w bo n bcap B) (hbl : blim ≤ lim) (hcm : (n : Int) ≤ cm) (hW : Wr K base w p true place 0 most L) (hm : most ≤ 65507) (hfit : ((L.length + (numB n).length + n : Nat) : Int) ≤ most) (hbs : base ≤ w.heap.size) (hl1 : lim ≤ base) (hl2 : lim ≤ p) :
    Calls Tryz.prog 106 #[.pointer (some ⟨p, 0, none⟩), .slice bo n bcap, .int .i64 cm] w fun e w' => e = .returned (.tuple #[]) ∧ Wr K base w' p true place 0 most (L ++ numB n ++ B) ∧ Below lim w w' :=
  wBlob_gen base lim p bo n bcap blim B cm place most L w hS (fun u v' w2 hu he => hS.kept he.1 (fun g hg => by have := (hW.own_lt hu hg).1; omega)) hcm hW hm hfit hbs hl1 hl2
end Go.Proofs.YtiijbboigebhcaaGreatDoor
namespace Go.Proofs.YtiijbboigebhcaaGreatDoor
open Go.RowKit Crc

/-- A text's bytes. -/
def strB (s : ByteArray) : List Nat := s.data.toList.map (·.toNat)
theorem strB_len (s : ByteArray) : (strB s).length = s.size := by simp [strB]
theorem strB_lt (s : ByteArray) : ∀ x ∈ strB s, x < 256 := by
  intro x hx
  simp only [strB, List.mem_map] at hx
  obtain ⟨b, _, rfl⟩ := hx
  exact b.toNat_lt
theorem strB_vals (s : ByteArray) : vals (strB s) = Go.Lib.strCells s := by
  simp [vals, strB, Go.Lib.strCells]

theorem run_append_string_ext {P : Program} {w : World} (base : Nat) (t u ty e : TypeId) (i : TypeInfo) (ht : P.underlying t = some (.slice e)) (hu : P.underlying u = some .string) (hi : P.info? e = some i) (hz : i.zero = some (.int .u8 0))
    (hsize : i.size = 1) (hby : i.bytes = 1)
    (v : Value) (n : Nat) (xs : List Value) (hown : w.ownsRow base e 1 v n xs) (s : ByteArray) (hbytes : n + s.size ≤ 140737488355328) (hbase : base ≤ w.heap.size) :
    ∃ v' w', (Builtin.append_ #[t, u] ty #[v, .string s]).run P w = .ok v' w' ∧ w'.ownsRow base e 1 v' (n + s.size) (xs ++ Go.Lib.strCells s) ∧ Ext w w' v v' := by
  have h63 : n + s.size ≤ maxLen := by unfold maxLen; omega
  obtain ⟨v', w', hr, ho, hg, _⟩ := Go.Lib.run_append_own_string (P := P) w base t u ty e i ht hu hi hz hsize hby v n xs hown s h63 hbytes hbase
  refine ⟨v', w', hr, ho, hg, ?_⟩
  have hxl : xs.length = n := by simpa using hown.1
  rcases hown.2 with ⟨rfl, rfl⟩ | ⟨g, cap, cur, rfl, hbg, hgg, hnc, hcm, hcs, htake⟩
  · have hx : xs = [] := List.eq_nil_of_length_eq_zero hxl
    subst hx
    obtain ⟨v2, w2, hr2, ho2, _, _⟩ := Go.Lib.run_append_own_string (P := P) w w.heap.size t u ty e i ht hu hi hz hsize hby (.slice none 0 0) 0 [] (World.ownsRow_nil w _ _ _) s h63 hbytes (Nat.le_refl _)
    rw [hr] at hr2
    cases hr2
    exact fun g hg => .inr (ho2.lt g hg).1
  · by_cases hroom : n + s.size ≤ cap
    · have hr2 := Go.Lib.run_append_room_string (P := P) w t u ty e i ht hu hi hsize g n cap cur hgg s hroom (by omega)
      rw [hr] at hr2
      cases hr2
      exact fun g' hg' => .inl hg'
    · have holds : ∀ j u, xs[j]? = some u → w.cell? ((⟨g, 0, none⟩ : Addr).add j) = some u := hown.cells (g := g) rfl
      have hr2 := Go.Lib.run_append_grow_string (P := P) w t u ty e i (.int .u8 0) ht hu hi hz ⟨g, 0, none⟩ n cap xs (by rw [hsize]; simpa using hxl) holds s (by omega) (by unfold maxLen at h63; omega) (by rw [hby]; exact growslice_fits (by omega) (by omega))
      rw [hr] at hr2
      cases hr2
      intro g' hg'
      simp [Value.ownBlock] at hg'
      exact .inr (by omega)

theorem wpList_append_string_ext {P : Program} (w : World) {ops : Array Oper} {rest : List Oper} {o : Oper} {a : Act} {Q : Exit → Act → World → Prop} (hgd : o.guard = none) (sl x : Operand) (t u : TypeId)
    (ho : o.op = .call { callee := .builtin .append, args := #[sl, x], argTypes := #[t, u] })
    (base : Nat) (e : TypeId) (i : TypeInfo) (ht : P.underlying t = some (.slice e)) (hu : P.underlying u = some .string) (hi : P.info? e = some i) (hz : i.zero = some (.int .u8 0))
    (hsize : i.size = 1) (hby : i.bytes = 1)
    (v : Value) (n : Nat) (xs : List Value) (hs : a.eval sl = v) (hown : w.ownsRow base e 1 v n xs) (s : ByteArray) (hx : a.eval x = .string s)
    (hbytes : n + s.size ≤ 140737488355328) (hbase : base ≤ w.heap.size)
    (h : ∀ v' w', w'.ownsRow base e 1 v' (n + s.size) (xs ++ Go.Lib.strCells s) → Ext w w' v v' → wpList P ops Q rest (a.put o.dst v') w') : wpList P ops Q (o :: rest) a w := by
  refine wpList_plain hgd fun K hK => ?_
  obtain ⟨v', w', hr, h2, h3⟩ := run_append_string_ext (P := P) (w := w) base t u o.type e i ht hu hi hz hsize hby v n xs hown s hbytes hbase
  unfold Oper.wp execOp
  simp only [ho, resolve, invoke, builtin, Sem.run_bind, Sem.run_pure, Result.andThen_ok, List.map_toArray, List.map_cons, List.map_nil, hs, hx, hr]
  exact hK _ _ (h v' w' h2 h3)

def Ascii (s : ByteArray) : Prop := ∀ i (h : i < s.size), (s[i]'h).toNat < 128

end Go.Proofs.YtiijbboigebhcaaGreatDoor
namespace Go.Proofs.YtiijbboigebhcaaGreatDoor
open Go.RowKit Crc
variable {K : Kd}

theorem Wr.alloc {base : Nat} {w : World} {p : Nat} {made : Bool} {place why most : Int} {L : List Nat} (h : Wr K base w p made place why most L) (o : Obj) : Wr K base (w.alloc o) p made place why most L := by
  obtain ⟨v, hb, hO, hne⟩ := h
  exact ⟨v, (Below.heap_alloc w o p (block_lt hb)).trans hb, hO.quiet (World.grownBy_alloc w o none), hne⟩

end Go.Proofs.YtiijbboigebhcaaGreatDoor
namespace Go.Proofs.YtiijbboigebhcaaGreatDoor
open Go.RowKit Crc

/-- The text of bytes. -/
def strOf (L : List Nat) : ByteArray := (L.map (fun (x : Nat) => (x : Int))).foldl (fun r n => r.push (UInt8.ofNat n.toNat)) ByteArray.empty
theorem foldl_push (L : List Int) : ∀ acc : ByteArray, (L.foldl (fun r n => r.push (UInt8.ofNat n.toNat)) acc).data.toList = acc.data.toList ++ L.map (fun n => UInt8.ofNat n.toNat) := by
  induction L with
  | nil => intro acc; simp
  | cons n r ih => intro acc; rw [List.foldl_cons, ih]; simp [ByteArray.push]
theorem strOf_strB (s : ByteArray) : strOf (strB s) = s := by
  have h := foldl_push ((strB s).map (fun (x : Nat) => (x : Int))) ByteArray.empty
  have h2 : (strOf (strB s)).data.toList = s.data.toList := by
    unfold strOf
    rw [h]
    simp [strB, Function.comp_def]
  have h3 : (strOf (strB s)).data = s.data := Array.ext' h2
  cases hs : strOf (strB s) with
  | mk d => cases s with | mk d' => rw [hs] at h3; simp at h3; rw [h3]

theorem run_str {lim : Nat} {w : World} {ao : Option Addr} {n cap : Nat} {B : List Nat} (h : Shows lim w ao n cap B) :
    (convert 36 9 (.slice ao n cap)).run Tryz.prog w = .ok (.string (strOf B)) w := by
  rw [run_convert_bytes_string w 36 9 5 ao n cap Tryz.underlying36 Tryz.underlying5 Tryz.underlying9]
  obtain ⟨h1, h2, h3, h4, b, off, h5, h6, h7⟩ := h
  cases ao with
  | none =>
    have hn : n = 0 := by
      rcases Nat.eq_zero_or_pos n with h | h
      · exact h
      · have := h5 h; cases this
    obtain rfl : B = [] := List.eq_nil_of_length_eq_zero (by omega)
    simp [Conv.bytesToString, strOf, Sem.run_pure]
  | some ad =>
    have hl := run_loadCells_list (P := Tryz.prog) (w := w) ad (vals B) (by
      intro j v hj
      have hj2 := (vals_get B j v hj).1
      have := h5 (by omega)
      cases this
      exact vals_cell (fun i hi => h7 i (by omega)) j v hj)
    rw [vals_len, ← h1] at hl
    have e : vals B = (B.map (fun (x : Nat) => (x : Int))).map (Value.int .u8) := by simp [vals]
    rw [e] at hl
    exact run_bytesToString w ad n cap _ hl

def textAt (B : List Nat) (most : Int) (ok : Bool) : ByteArray × Nat × Int :=
  if (blobAt B most).2.2 ≠ 0 then (ByteArray.empty, 0, (blobAt B most).2.2) else if ok then (strOf (blobAt B most).1, (blobAt B most).2.1, 0) else (ByteArray.empty, 0, 27)

theorem textAt_ok (B : List Nat) (most : Int) (ok : Bool) : (textAt B most ok).2.1 ≤ B.length := by
  unfold textAt
  split
  · simp
  · split
    · exact blobAt_ok B most
    · simp

end Go.Proofs.YtiijbboigebhcaaGreatDoor
namespace Go.Proofs.YtiijbboigebhcaaGreatDoor
open Go.RowKit Crc

set_option maxRecDepth 10000 in
set_option maxHeartbeats 400000 in
theorem newWriter_full (w : World) :
    Calls Tryz.prog 20 #[.int .i64 65507] w fun e w' => e = .returned (.pointer (some ⟨w.heap.size, 0, none⟩)) ∧ Wr KW w.heap.size w' w.heap.size true 0 0 65507 [] ∧ Below w.heap.size w w' := by
  go_enter Tryz.func20, Tryz.ntmps20
  go_wp2
  go_ret
  refine ⟨rfl, ⟨.slice none 0 0, ?_, Owns.nil _ _, by simp [Value.ownBlock]⟩, (Below.refl _ w).alloc (Nat.le_refl _) _⟩
  exact heap_alloc_new w _

set_option maxRecDepth 10000 in
set_option maxHeartbeats 400000 in
theorem told_sound (p : Nat) (w : World) (h0 : w.cell? ⟨p, 0, none⟩ = some (.bool true)) (h2 : w.cell? ⟨p, 2, none⟩ = some (.int .i64 0)) :
    Calls Tryz.prog 64 #[.pointer (some ⟨p, 0, none⟩)] w fun e w' => e = .returned .nilIface ∧ w' = w := by
  go_enter Tryz.func64, Tryz.ntmps64
  go_wp2
  go_ret
  exact ⟨rfl, rfl⟩

set_option maxRecDepth 10000 in
set_option maxHeartbeats 400000 in
theorem wBytes_good {K : Kd} (base p : Nat) (place most : Int) (L : List Nat) (w : World) (hW : Wr K base w p true place 0 most L) :
    Calls Tryz.prog 24 #[.pointer (some ⟨p, 0, none⟩)] w fun e w' => ∃ v, e = .returned (.tuple #[v, .nilIface]) ∧ Owns w.heap.size w' v L ∧ Below w.heap.size w w' := by
  obtain ⟨u, hb, hO, hne⟩ := hW
  obtain ⟨ao, cap, rfl, hS, _⟩ := hO.form
  have c0 := block_cell hb 0
  have c2 := block_cell hb 2
  have c4 := block_cell hb 4
  simp at c0 c2 c4
  have HTS := hide (told_sound p w c0 c2)
  have HCP := hide (copied_sh hS (Nat.le_refl _))
  have HOO := hide hO.2
  clear hb hO hne hS c0 c2
  generalize L.length = n at c4 HCP
  go_enter Tryz.func24, Tryz.ntmps24
  go_wp2_with fail
  refine HTS.out.mono ?_
  rintro e w1 ⟨rfl, rfl⟩
  go_wp2_with fail
  refine HCP.out.mono ?_
  rintro e w2 ⟨v, rfl, _, _, hfr⟩
  go_wp2
  go_ret2
  exact ⟨v, rfl, ⟨hfr.1, HOO.out⟩, hfr.2⟩

set_option maxRecDepth 10000 in
set_option maxHeartbeats 400000 in
theorem readerAt_any (ao : Option Addr) (n cap pos : Nat) (w : World) :
    Calls Tryz.prog 71 #[.slice ao n cap, .int .i64 (pos : Int)] w fun e w' => e = .returned (.agg #[.bool true, .int .i64 0, .int .i64 0, .slice ao n cap, .int .i64 (pos : Int)]) ∧ Below w.heap.size w w' := by
  go_enter Tryz.func71, Tryz.ntmps71
  go_wp2
  refine bodyPost_ret (v := .agg #[.bool true, .int .i64 0, .int .i64 0, .slice ao n cap, .int .i64 (pos : Int)]) (by simp [results, Tryz.results71, go_sem]) rfl ⟨rfl, (Below.refl _ w).alloc (Nat.le_refl _) _⟩

set_option maxRecDepth 10000 in
set_option maxHeartbeats 400000 in
theorem newReader_any {lim : Nat} {w : World} {ao : Option Addr} {n cap : Nat} {B : List Nat} (h : Shows lim w ao n cap B) (hlw : lim ≤ w.heap.size) :
    Calls Tryz.prog 35 #[.slice ao n cap] w fun e w' => ∃ p lim', e = .returned (.pointer (some ⟨p, 0, none⟩)) ∧ w.heap.size ≤ p ∧ w.heap.size ≤ lim' ∧ RdS lim' w' p ⟨true, 0, 0, B, 0, KR⟩ ∧ Below w.heap.size w w' := by
  have HCP := hide (copied_sh h hlw)
  have HB := hide h.2.2.2.1
  have HN := hide h.1
  have HN2 := hide h.2.2.1
  clear h
  go_enter Tryz.func35, Tryz.ntmps35
  go_wp2_with fail
  refine HCP.out.mono ?_
  rintro e w1 ⟨v, rfl, _, _, hfr⟩
  have HO1 : Hid (Owns w.heap.size w1 v B) := ⟨hfr.1, HB.out, by rw [← HN.out]; exact HN2.out⟩
  have HB1 := hide hfr.2
  clear hfr
  obtain ⟨a1, c1, rfl, hs1, _⟩ := HO1.out.form
  have HS1 := hide hs1
  have HBL : Hid (B.length = n) := HN.out.symm
  clear hs1
  generalize hbl : B.length = m at *
  go_wp2_with fail
  refine (readerAt_any a1 m c1 0 w1).mono ?_
  rintro e w2 ⟨rfl, hb2⟩
  have HB2 := hide hb2
  clear hb2
  go_wp2
  go_ret
  refine ⟨w2.heap.size, w1.heap.size, rfl, Nat.le_trans HB1.out.size HB2.out.size, HB1.out.size, ⟨a1, c1, ?_, ?_, Nat.zero_le _, HB2.out.size⟩, ?_⟩
  · rw [hbl]
    exact heap_alloc_new w2 _
  · rw [hbl]
    exact (HS1.out.kept (below_none HB2.out) (fun g hg => by cases hg)).kept (World.grownBy_alloc w2 _ none) (fun g hg => by cases hg)
  · exact (HB1.out.trans (HB2.out.mono HB1.out.size)).alloc (Nat.le_trans HB1.out.size HB2.out.size) _

set_option maxRecDepth 10000 in
set_option maxHeartbeats 400000 in
theorem rLeft_any (lim p : Nat) (s : RS) (w : World) (hR : RdS lim w p s) :
    Calls Tryz.prog 81 #[.pointer (some ⟨p, 0, none⟩)] w fun e w' => e = .returned (.int .i64 ((s.B.length - s.pos : Nat) : Int)) ∧ ∃ q, w' = w.drewN q := by
  obtain ⟨ao, cap, hb, hS, hp, hl⟩ := hR
  have c3 := block_cell hb 3
  have c4 := block_cell hb 4
  simp at c3 c4
  have hn := hS.2.2.1
  clear hb hS hl
  have HE : Hid ((s.B.length : Int) - (s.pos : Int) = ((s.B.length - s.pos : Nat) : Int)) := by show _ = _; omega
  generalize s.B.length = n at *
  generalize s.pos = pos at *
  have h0 : (pos : Int) ≤ (n : Int) := by omega
  go_enter Tryz.func81, Tryz.ntmps81
  go_wp2_with fail
  go_quiet (fail)
  go_wp2
  go_ret
  exact ⟨by rw [← HE.out]; rfl, _, rfl⟩

set_option maxRecDepth 10000 in
set_option maxHeartbeats 400000 in
theorem rErr_sound (lim p : Nat) (s : RS) (w : World) (hR : RdS lim w p s) (hs : s.sound) :
    Calls Tryz.prog 73 #[.pointer (some ⟨p, 0, none⟩)] w fun e w' => e = .returned .nilIface ∧ w' = w := by
  obtain ⟨ao, cap, hb, hS, hp, hl⟩ := hR
  have c0 := block_cell hb 0
  have c2 := block_cell hb 2
  simp at c0 c2
  rw [hs.1] at c0
  rw [hs.2] at c2
  have HTS := hide (told_sound p w c0 c2)
  clear hb hS hp hl hs c0 c2
  go_enter Tryz.func73, Tryz.ntmps73
  go_wp2_with fail
  refine HTS.out.mono ?_
  rintro e w1 ⟨rfl, rfl⟩
  go_wp2
  go_ret
  exact ⟨rfl, rfl⟩

set_option maxRecDepth 10000 in
set_option maxHeartbeats 400000 in
theorem rEnd_sound (lim p : Nat) (s : RS) (w : World) (hR : RdS lim w p s) (hs : s.sound) (he : s.pos = s.B.length) :
    Calls Tryz.prog 38 #[.pointer (some ⟨p, 0, none⟩)] w fun e w' => e = .returned .nilIface ∧ ∃ q, w' = w.drewN q := by
  have HER := hide (rErr_sound lim p s w hR hs)
  have HLF : Hid (Calls Tryz.prog 81 #[.pointer (some ⟨p, 0, none⟩)] w fun e w' => e = .returned (.int .i64 0) ∧ ∃ q, w' = w.drewN q) := by
    have h := rLeft_any lim p s w hR
    rw [he, Nat.sub_self] at h
    exact h
  clear hR hs he
  go_enter Tryz.func38, Tryz.ntmps38
  go_wp2_with fail
  refine HER.out.mono ?_
  rintro e w1 ⟨rfl, rfl⟩
  go_wp2_with fail
  refine HLF.out.mono ?_
  rintro e w2 ⟨rfl, q, rfl⟩
  go_wp2
  go_ret
  exact ⟨rfl, q, rfl⟩
end Go.Proofs.YtiijbboigebhcaaGreatDoor
