import Derived.Test.YtppoloellajfhabBRa
import Derived.Test.YtppoloellajfhabBAu
namespace Go.Proofs.Ytppoloellajfhab
open Go.RowKit

/-- A ballot and a fault are laid into their boxes. -/
theorem both_set {w V : World} {pr pf : Nat} {x0 y0 v0 v1 : Value} {tB tF : TypeId} {fo : Option Addr} {L : List Lk} (hb : Below w.heap.size w V) (hp : w.heap.size ≤ pr) (hq : w.heap.size ≤ pf) (hne : pr ≠ pf)
    (r1 : V.heap[pr]? = some (.cells #[x0, y0] tB (0, 0))) (r2 : V.heap[pf]? = some (.cells #[v0, v1] tF (0, 0))) (n1 : NoStr x0 y0) (n2 : NoStr v0 v1) (hf : ∃ b off, FV V.heap.size V fo L b off) (x y u0 u1 : Value) :
    (∃ b off, FV ((((V.setCell ⟨pr, 0, none⟩ x).setCell ⟨pr, 1, none⟩ y).setCell ⟨pf, 0, none⟩ u0).setCell ⟨pf, 1, none⟩ u1).heap.size ((((V.setCell ⟨pr, 0, none⟩ x).setCell ⟨pr, 1, none⟩ y).setCell ⟨pf, 0, none⟩ u0).setCell ⟨pf, 1, none⟩ u1) fo L b off) ∧
    Below w.heap.size w ((((V.setCell ⟨pr, 0, none⟩ x).setCell ⟨pr, 1, none⟩ y).setCell ⟨pf, 0, none⟩ u0).setCell ⟨pf, 1, none⟩ u1) ∧
    ((((V.setCell ⟨pr, 0, none⟩ x).setCell ⟨pr, 1, none⟩ y).setCell ⟨pf, 0, none⟩ u0).setCell ⟨pf, 1, none⟩ u1).heap[pf]? = some (.cells #[u0, u1] tF (0, 0)) ∧
    ((((V.setCell ⟨pr, 0, none⟩ x).setCell ⟨pr, 1, none⟩ y).setCell ⟨pf, 0, none⟩ u0).setCell ⟨pf, 1, none⟩ u1).heap[pr]? = some (.cells #[x, y] tB (0, 0)) := by
  have r2' := ((set2_grown V pr x y).block pf (block_lt r2) (fun e => hne (by cases e; rfl))).trans r2
  have r1' := set2_blk r1 x y
  exact ⟨fv_set2 (fv_set2 hf r1 n1 x y) r2' n2 u0 u1, two_below (two_below hb hp x y) hq u0 u1, set2_blk r2' u0 u1, ((set2_grown _ pf u0 u1).block pr (block_lt r1') (fun e => hne (by cases e; rfl))).trans r1'⟩
set_option maxRecDepth 10000 in
set_option maxHeartbeats 800000 in
/-- The reference's Rank. -/
theorem refRank_yes {w : World} {p : Nat} {c : Cf} (n : Nat) (m : Int) (hp : p < w.heap.size) (h : RefG w p c) (hv : c.valid n m = true) :
    Calls Try.prog 37 #[.pointer (some ⟨p, 0, none⟩), .agg #[.int .u64 (n : Nat), .int .i64 m]] w (RNewP w (.int .u64 (c.rank n m)) [] 0) := by
  unfold RNewP
  obtain ⟨W1, hW1⟩ : ∃ W1, (w.alloc (.cells #[.int .u64 (n : Nat), .int .i64 m] 47)).alloc (.cells #[.slice none 0 0, .int .i64 0] 63) = W1 := ⟨_, rfl⟩
  have B1 : Hid (Below w.heap.size w W1) := by rw [← hW1]; exact ((Below.refl _ w).alloc (Nat.le_refl _) _).alloc (by simp) _
  obtain ⟨t1, t2⟩ := two_box w (.cells #[.int .u64 (n : Nat), .int .i64 m] 47) (.cells #[.slice none 0 0, .int .i64 0] 63)
  obtain ⟨pb, hpb⟩ : ∃ p, w.heap.size = p := ⟨_, rfl⟩
  obtain ⟨pf, hpf⟩ : ∃ p, w.heap.size + 1 = p := ⟨_, rfl⟩
  rw [hW1, hpb] at t1
  rw [hW1, hpf] at t2
  have q0 := block_cell t1 0
  have q1 := block_cell t1 1
  have HPF : Hid (w.heap.size ≤ pf ∧ pb ≠ pf) := by show _ ∧ _; omega
  have HV := hide (refValid n m (Nat.lt_of_lt_of_le hp B1.out.size) (h.below B1.out hp))
  rw [hv] at HV
  have KR : Hid (∀ V, Below w.heap.size w V → RefG V p c) := fun V hb => h.below hb hp
  have HT1 := hide t1
  have HT2 := hide t2
  have HN : Hid (∀ V, Below w.heap.size w V → Calls Try.prog 26 #[.pointer (some ⟨p, 0, none⟩)] V fun e V' => e = .returned (.int .i64 (2 * c.f + 1)) ∧ V' = V) := fun V hb => refNodes (KR.out V hb)
  have HVB : Hid (((n : Int) = 0 ∧ m = 0) ∨ (1 ≤ (n : Int) ∧ (n : Int) ≤ 1099511627776 ∧ 0 ≤ m ∧ m ≤ 2 * c.f)) := by
    show _ ∨ _
    have := h.ok.mn2
    rcases (c.valid_iff n m).1 hv with h | h
    · exact .inl h
    · exact .inr (by omega)
  have f1 := h.ok.f1
  have f3 := h.ok.f3
  have HNO := hide none0x
  have HW1 := hide hW1
  have HPB := hide hpb
  have HPFE := hide hpf
  clear hW1 hpb hpf t1 t2 h hv KR
  have HRK : Hid (c.rank n m = if (n : Int) = 0 then 0 else ((n : Int) - 1) * (2 * c.f + 1) + m + 1) := rfl
  generalize c.rank n m = rk at *
  generalize (n : Int) = n at *
  generalize c.f = f at *
  rcases HVB.out with ⟨h0, hm⟩ | ⟨h1, h2, hm1, hm2⟩
  · subst h0 hm
    go_enter Try.func37, Try.ntmps37
    go_upto_region 1 with fail
    rw [HW1.out, HPFE.out, HPB.out]
    go_wp2_with fail
    refine HV.out.mono ?_
    rintro e w2 ⟨rfl, b2⟩
    have B2 := hide (B1.out.trans (b2.mono B1.out.size))
    have T2 := hide ((b2.block _ (block_lt HT2.out)).trans HT2.out)
    have T1 := hide ((b2.block _ (block_lt HT1.out)).trans HT1.out)
    clear b2 q0 q1 B1 HV
    have q0 := block_cell T1.out 0
    have q1 := block_cell T1.out 1
    go_wp2_with fail
    refine (HNO.out w2).mono ?_
    rintro e w3 ⟨rfl, hw3⟩
    have B3 : Hid (Below w2.heap.size w2 w3) := by rw [hw3]; exact (Below.refl _ _).alloc (Nat.le_refl _) _
    clear hw3
    have r3 := (B3.out.block _ (block_lt T2.out)).trans T2.out
    have FIN := hide (And.intro (two_below (B2.out.trans (B3.out.mono B2.out.size)) HPF.out.1 (.slice none 0 0) (.int .i64 0)) (set2_blk r3 (.slice none 0 0) (.int .i64 0)))
    have y0 := block_cell r3 0
    have y1 := block_cell r3 1
    have g0 := block_free r3 0
    have g1 := block_free r3 1
    clear r3 q0 q1 T1 T2
    go_wp2
    have z0 := block_cell FIN.out.2 0
    have z1 := block_cell FIN.out.2 1
    exact bodyPost_ret (v := .tuple #[.int .u64 0, .agg #[.slice none 0 0, .int .i64 0]]) (by simp [results, Try.results37, go_sem, z0, z1]) rfl ⟨none, 0, by rw [HRK.out]; rfl, ⟨0, 0, FV.nil _ _ _ _ _⟩, FIN.out.1⟩
  · have h0 : ¬ n = 0 := by omega
    obtain ⟨nn, hnn⟩ : ∃ nn, 2 * f + 1 = nn := ⟨_, rfl⟩
    obtain ⟨q, hq⟩ : ∃ q, (n - 1) * nn = q := ⟨_, rfl⟩
    have HQB : Hid (0 ≤ q ∧ q ≤ 7696581394432) := by
      show _ ∧ _
      rw [← hq]
      have a1 : 0 ≤ (n - 1) * nn := Int.mul_nonneg (by omega) (by omega)
      have a2 : (n - 1) * nn ≤ 1099511627776 * 7 := Int.mul_le_mul (by omega) (by omega) (by omega) (by omega)
      omega
    have hqa := HQB.out.1
    have hqb := HQB.out.2
    have hn1 : 3 ≤ nn := by omega
    have hn7 : nn ≤ 7 := by omega
    have e0 : IntKind.u64.wrap nn = nn := wrap_u nn (by omega) (by omega)
    have e1 : IntKind.u64.wrap (n - 1) = n - 1 := wrap_u _ (by omega) (by omega)
    have e2 : IntKind.u64.wrap ((n - 1) * nn) = q := by rw [hq]; exact wrap_u _ (by omega) (by omega)
    have e3 : IntKind.u64.wrap m = m := wrap_u _ (by omega) (by omega)
    have e4 : IntKind.u64.wrap (q + m) = q + m := wrap_u _ (by omega) (by omega)
    have e5 : IntKind.u64.wrap (q + m + 1) = q + m + 1 := wrap_u _ (by omega) (by omega)
    have HQ := hide hq
    have HNN := hide hnn
    rw [hnn] at HN
    clear hq hnn
    go_enter Try.func37, Try.ntmps37
    go_upto_region 1 with fail
    rw [HW1.out, HPFE.out, HPB.out]
    go_wp2_with fail
    refine HV.out.mono ?_
    rintro e w2 ⟨rfl, b2⟩
    have HS2 : Hid (Below w.heap.size w w2 ∧ w2.heap[pb]? = some (.cells #[.int .u64 n, .int .i64 m] 47 (0, 0)) ∧ w2.heap[pf]? = some (.cells #[.slice none 0 0, .int .i64 0] 63 (0, 0))) := ⟨B1.out.trans (b2.mono B1.out.size), (b2.block _ (block_lt HT1.out)).trans HT1.out, (b2.block _ (block_lt HT2.out)).trans HT2.out⟩
    have q0 := block_cell HS2.out.2.1 0
    have q1 := block_cell HS2.out.2.1 1
    clear b2 B1 HV
    go_upto_region 5 with fail
    rw [show (n == 0) = false by simpa using h0]
    refine region_assign (fun V => Hid (Below w.heap.size w V ∧ V.heap[pb]? = some (.cells #[.int .u64 n, .int .i64 m] 47 (0, 0)) ∧ V.heap[pf]? = some (.cells #[.slice none 0 0, .int .i64 0] 63 (0, 0)))) [(15, .pointer (some ⟨pb, 0, none⟩)), (16, .int .u64 n), (17, .int .u64 (n - 1)), (18, .pointer (some ⟨p, 0, none⟩)), (19, .int .i64 nn), (20, .int .u64 nn), (21, .int .u64 q), (22, .pointer (some ⟨pb, 1, none⟩)), (23, .int .i64 m), (24, .int .u64 m), (25, .int .u64 (q + m)), (26, .int .u64 (q + m + 1)), (27, .agg #[.slice none 0 0, .int .i64 0]), (4, .int .u64 (q + m + 1))] _ (by kernel_rfl) (by kernel_rfl) (by kernel_rfl) (by kernel_rfl) rfl (show Hid _ from ⟨HS2.out.1.drew, HS2.out.2.1, HS2.out.2.2⟩) ?_ (fun V1 HV1 => ?_)
    · simp only [putAll, Act.put, List.setIfInBounds_toArray, List.set_cons_zero, List.set_cons_succ]
      repeat' (first | exact AllTo.nil | refine AllTo.cons ?_ ?_)
      all_goals first
        | exact stepTo_no (by rfl) rfl
        | (refine stepTo_yes (by rfl) (fun V hV K hK => ?_)
           have r0 := block_cell hV.out.2.1 0
           have r1 := block_cell hV.out.2.1 1
           have y0 := block_cell hV.out.2.2 0
           have y1 := block_cell hV.out.2.2 1
           have y2 := block_free hV.out.2.2 0
           have y3 := block_free hV.out.2.2 1
           have FIN : Hid (Below w.heap.size w ((V.setCell ⟨pf, 0, none⟩ (.slice none 0 0)).setCell ⟨pf, 1, none⟩ (.int .i64 0)) ∧ ((V.setCell ⟨pf, 0, none⟩ (.slice none 0 0)).setCell ⟨pf, 1, none⟩ (.int .i64 0)).heap[pb]? = some (.cells #[.int .u64 n, .int .i64 m] 47 (0, 0)) ∧ ((V.setCell ⟨pf, 0, none⟩ (.slice none 0 0)).setCell ⟨pf, 1, none⟩ (.int .i64 0)).heap[pf]? = some (.cells #[.slice none 0 0, .int .i64 0] 63 (0, 0))) :=
             ⟨two_below hV.out.1 HPF.out.1 _ _, ((set2_grown V pf _ _).block pb (block_lt hV.out.2.1) (fun e => HPF.out.2 (by cases e; rfl))).trans hV.out.2.1, set2_blk hV.out.2.2 _ _⟩
           go_simp
           first
             | exact hK.out _ hV
             | exact hK.out _ FIN
             | (go_at_call 26; refine (HN.out _ hV.out.1).mono ?_; rintro e V' ⟨rfl, rfl⟩; exact hK.out _ hV)
             | (go_at_call 52
                refine (HNO.out V).mono ?_
                rintro e V' ⟨rfl, hw3⟩
                have B3 : Below V.heap.size V V' := by rw [hw3]; exact (Below.refl _ _).alloc (Nat.le_refl _) _
                exact hK.out _ ⟨hV.out.1.trans (B3.mono hV.out.1.size), (B3.block _ (block_lt hV.out.2.1)).trans hV.out.2.1, (B3.block _ (block_lt hV.out.2.2)).trans hV.out.2.2⟩))
    simp only [putAll, Act.put, List.setIfInBounds_toArray, List.set_cons_zero, List.set_cons_succ]
    go_wp2
    have z0 := block_cell HV1.out.2.2 0
    have z1 := block_cell HV1.out.2.2 1
    refine bodyPost_ret (v := .tuple #[.int .u64 (q + m + 1), .agg #[.slice none 0 0, .int .i64 0]]) (by simp [results, Try.results37, go_sem, z0, z1]) rfl ⟨none, 0, ?_, ⟨0, 0, FV.nil _ _ _ _ _⟩, HV1.out.1⟩
    rw [HRK.out, if_neg h0, HNN.out, HQ.out]
set_option maxRecDepth 10000 in
set_option maxHeartbeats 800000 in
theorem refRanked_over {w : World} {p : Nat} {c : Cf} (k : Nat) (hp : p < w.heap.size) (h : RefG w p c) (ht : (k : Int) > (c.mn : Int) * (2 * c.f + 1)) :
    Calls Try.prog 38 #[.pointer (some ⟨p, 0, none⟩), .int .u64 (k : Nat)] w (RNewP w (.agg #[.int .u64 0, .int .i64 0]) [⟨ballotN, 0⟩] 184) := by
  unfold RNewP
  obtain ⟨W1, hW1⟩ : ∃ W1, (w.alloc (.cells #[.int .u64 0, .int .i64 0] 47)).alloc (.cells #[.slice none 0 0, .int .i64 0] 63) = W1 := ⟨_, rfl⟩
  have B1 : Hid (Below w.heap.size w W1) := by rw [← hW1]; exact ((Below.refl _ w).alloc (Nat.le_refl _) _).alloc (by simp) _
  obtain ⟨t1, t2⟩ := two_box w (.cells #[.int .u64 0, .int .i64 0] 47) (.cells #[.slice none 0 0, .int .i64 0] 63)
  obtain ⟨pr, hpr⟩ : ∃ p, w.heap.size = p := ⟨_, rfl⟩
  obtain ⟨pf, hpf⟩ : ∃ p, w.heap.size + 1 = p := ⟨_, rfl⟩
  rw [hW1, hpr] at t1
  rw [hW1, hpf] at t2
  have HPF : Hid (w.heap.size ≤ pr ∧ w.heap.size ≤ pf ∧ pr ≠ pf) := by show _ ∧ _ ∧ _; omega
  have HT1 := hide t1
  have HT2 := hide t2
  have hR1 := h.below B1.out hp
  have HN := hide (refNodes hR1)
  have f1 := h.ok.f1
  have f3 := h.ok.f3
  have HMN : Hid (1 ≤ (c.mn : Int) ∧ (c.mn : Int) ≤ 1099511627776) := by have := h.ok.mn1; have := h.ok.mn2; show _ ∧ _; omega
  have q8 := hR1.cn
  have HNO := hide none0x
  have HW1 := hide hW1
  have HPRE := hide hpr
  have HPFE := hide hpf
  clear hW1 hpr hpf t1 t2 h hR1
  obtain ⟨nn, hnn⟩ : ∃ nn, 2 * c.f + 1 = nn := ⟨_, rfl⟩
  have hn1 : 3 ≤ nn := by omega
  have hn7 : nn ≤ 7 := by omega
  rw [hnn] at HN ht
  obtain ⟨tt, htt⟩ : ∃ q, (c.mn : Int) * nn = q := ⟨_, rfl⟩
  have HTB : Hid (0 ≤ tt ∧ tt ≤ 7696581394432) := by
    show _ ∧ _
    rw [← htt]
    have a1 : 0 ≤ (c.mn : Int) * nn := Int.mul_nonneg (by omega) (by omega)
    have a2 : (c.mn : Int) * nn ≤ 1099511627776 * 7 := Int.mul_le_mul HMN.out.2 (by omega) (by omega) (by omega)
    omega
  rw [htt] at ht
  have e0 : IntKind.u64.wrap nn = nn := wrap_u nn (by omega) (by omega)
  have e2 : IntKind.u64.wrap ((c.mn : Int) * nn) = tt := by have := HTB.out; rw [htt]; exact wrap_u _ (by omega) (by omega)
  have HNW : Hid (∀ W, Calls Try.prog 51 #[.string ballotN, .int .i64 0, .int .i64 184] W (FvP W [⟨ballotN, 0⟩] 184)) := fun W => new0 ballotN 0 184 W
  unfold FvP at HNW
  unfold ballotN at *
  have hd : decide ((k : Int) > tt) = true := decide_eq_true ht
  clear ht hnn htt
  generalize (k : Int) = k at *
  generalize (c.mn : Int) = mn at *
  go_enter Try.func38, Try.ntmps38
  go_upto_region 1 with fail
  rw [HW1.out, HPFE.out, HPRE.out]
  go_wp2_with fail
  refine HN.out.mono ?_
  rintro e w1 ⟨rfl, rfl⟩
  go_wp2_with fail
  refine (HNW.out _).mono ?_
  rintro e w3 ⟨fo, fc, rfl, G3⟩
  obtain ⟨b, off, hf, hb3⟩ := G3.out
  have r1 := (hb3.block _ (block_lt HT1.out)).trans HT1.out
  have r2 := (hb3.block _ (block_lt HT2.out)).trans HT2.out
  have hfv := fv_set2 ⟨b, off, hf⟩ r1 (nostr_int _ _ _ _) (.int .u64 0) (.int .i64 0)
  have hbb := two_below (B1.out.trans (hb3.mono B1.out.size)) HPF.out.1 (.int .u64 0) (.int .i64 0)
  have r2' := ((set2_grown w3 pr (.int .u64 0) (.int .i64 0)).block pf (block_lt r2) (fun e => HPF.out.2.2 (by cases e; rfl))).trans r2
  have r1' := set2_blk r1 (.int .u64 0) (.int .i64 0)
  have FIN := hide (And.intro (fv_set2 hfv r2' (nostr_fault _ _ _ _ _) (.slice fo 1 fc) (.int .i64 184)) (And.intro (two_below hbb HPF.out.2.1 (.slice fo 1 fc) (.int .i64 184)) (And.intro (set2_blk r2' (.slice fo 1 fc) (.int .i64 184)) (((set2_grown _ pf (.slice fo 1 fc) (.int .i64 184)).block pr (block_lt r1') (fun e => HPF.out.2.2 (by cases e; rfl))).trans r1'))))
  have y0 := block_cell r1 0
  have y1 := block_cell r1 1
  have y2 := block_free r1 0
  have y3 := block_free r1 1
  have y4 := block_cell r2 0
  have y5 := block_cell r2 1
  have y6 := block_free r2 0
  have y7 := block_free r2 1
  clear r1 r2 r1' r2' hf hb3 hfv hbb G3 HNW q8
  have hne1 : ¬ pr = pf := HPF.out.2.2
  have hne2 : ¬ pf = pr := fun e => HPF.out.2.2 e.symm
  go_wp2
  have z0 := block_cell FIN.out.2.2.1 0
  have z1 := block_cell FIN.out.2.2.1 1
  have z2 := block_cell FIN.out.2.2.2 0
  have z3 := block_cell FIN.out.2.2.2 1
  exact bodyPost_ret (v := .tuple #[.agg #[.int .u64 0, .int .i64 0], .agg #[.slice fo 1 fc, .int .i64 184]]) (by simp [results, Try.results38, go_sem, z0, z1, z2, z3]) rfl ⟨fo, fc, rfl, FIN.out.1, FIN.out.2.1⟩
set_option maxRecDepth 10000 in
set_option maxHeartbeats 800000 in
theorem refRanked_zero {w : World} {p : Nat} {c : Cf} (hp : p < w.heap.size) (h : RefG w p c) :
    Calls Try.prog 38 #[.pointer (some ⟨p, 0, none⟩), .int .u64 0] w (RNewP w (.agg #[.int .u64 0, .int .i64 0]) [] 0) := by
  have ht := True.intro
  unfold RNewP
  obtain ⟨W1, hW1⟩ : ∃ W1, (w.alloc (.cells #[.int .u64 0, .int .i64 0] 47)).alloc (.cells #[.slice none 0 0, .int .i64 0] 63) = W1 := ⟨_, rfl⟩
  have B1 : Hid (Below w.heap.size w W1) := by rw [← hW1]; exact ((Below.refl _ w).alloc (Nat.le_refl _) _).alloc (by simp) _
  obtain ⟨t1, t2⟩ := two_box w (.cells #[.int .u64 0, .int .i64 0] 47) (.cells #[.slice none 0 0, .int .i64 0] 63)
  obtain ⟨pr, hpr⟩ : ∃ p, w.heap.size = p := ⟨_, rfl⟩
  obtain ⟨pf, hpf⟩ : ∃ p, w.heap.size + 1 = p := ⟨_, rfl⟩
  rw [hW1, hpr] at t1
  rw [hW1, hpf] at t2
  have HPF : Hid (w.heap.size ≤ pr ∧ w.heap.size ≤ pf ∧ pr ≠ pf) := by show _ ∧ _ ∧ _; omega
  have HT1 := hide t1
  have HT2 := hide t2
  have hR1 := h.below B1.out hp
  have HN := hide (refNodes hR1)
  have f1 := h.ok.f1
  have f3 := h.ok.f3
  have HMN : Hid (1 ≤ (c.mn : Int) ∧ (c.mn : Int) ≤ 1099511627776) := by have := h.ok.mn1; have := h.ok.mn2; show _ ∧ _; omega
  have q8 := hR1.cn
  have HNO := hide none0x
  have HW1 := hide hW1
  have HPRE := hide hpr
  have HPFE := hide hpf
  clear hW1 hpr hpf t1 t2 h hR1
  obtain ⟨nn, hnn⟩ : ∃ nn, 2 * c.f + 1 = nn := ⟨_, rfl⟩
  have hn1 : 3 ≤ nn := by omega
  have hn7 : nn ≤ 7 := by omega
  rw [hnn] at HN
  obtain ⟨tt, htt⟩ : ∃ q, (c.mn : Int) * nn = q := ⟨_, rfl⟩
  have HTB : Hid (0 ≤ tt ∧ tt ≤ 7696581394432) := by
    show _ ∧ _
    rw [← htt]
    have a1 : 0 ≤ (c.mn : Int) * nn := Int.mul_nonneg (by omega) (by omega)
    have a2 : (c.mn : Int) * nn ≤ 1099511627776 * 7 := Int.mul_le_mul HMN.out.2 (by omega) (by omega) (by omega)
    omega
  have e0 : IntKind.u64.wrap nn = nn := wrap_u nn (by omega) (by omega)
  have e2 : IntKind.u64.wrap ((c.mn : Int) * nn) = tt := by have := HTB.out; rw [htt]; exact wrap_u _ (by omega) (by omega)
  have hd : decide ((0 : Int) > tt) = false := decide_eq_false (by have := HTB.out; omega)
  clear ht hnn htt
  generalize (c.mn : Int) = mn at *
  go_enter Try.func38, Try.ntmps38
  go_upto_region 1 with fail
  rw [HW1.out, HPFE.out, HPRE.out]
  go_wp2_with fail
  refine HN.out.mono ?_
  rintro e w1 ⟨rfl, rfl⟩
  go_wp2_with fail
  refine (HNO.out _).mono ?_
  rintro e w3 ⟨rfl, hw3⟩
  have hb3 : Below w1.heap.size w1 w3 := by rw [hw3]; exact (Below.refl _ _).alloc (Nat.le_refl _) _
  have r1 := (hb3.block _ (block_lt HT1.out)).trans HT1.out
  have r2 := (hb3.block _ (block_lt HT2.out)).trans HT2.out
  have FIN := hide (both_set (fo := none) (L := []) (B1.out.trans (hb3.mono B1.out.size)) HPF.out.1 HPF.out.2.1 HPF.out.2.2 r1 r2 (nostr_int _ _ _ _) (nostr_fault _ _ _ _ _) ⟨0, 0, FV.nil _ _ _ _ _⟩ (.int .u64 0) (.int .i64 0) (.slice none 0 0) (.int .i64 0))
  have y0 := block_cell r1 0
  have y1 := block_cell r1 1
  have y2 := block_free r1 0
  have y3 := block_free r1 1
  have y4 := block_cell r2 0
  have y5 := block_cell r2 1
  have y6 := block_free r2 0
  have y7 := block_free r2 1
  have hne1 : ¬ pr = pf := HPF.out.2.2
  have hne2 : ¬ pf = pr := fun e => HPF.out.2.2 e.symm
  clear r1 r2 hb3 hw3 q8
  go_wp2
  have z0 := block_cell FIN.out.2.2.1 0
  have z1 := block_cell FIN.out.2.2.1 1
  have z2 := block_cell FIN.out.2.2.2 0
  have z3 := block_cell FIN.out.2.2.2 1
  exact bodyPost_ret (v := .tuple #[.agg #[.int .u64 0, .int .i64 0], .agg #[.slice none 0 0, .int .i64 0]]) (by simp [results, Try.results38, go_sem, z0, z1, z2, z3]) rfl ⟨none, 0, rfl, FIN.out.1, FIN.out.2.1⟩
set_option maxRecDepth 10000 in
set_option maxHeartbeats 800000 in
theorem refRanked_yes {w : World} {p : Nat} {c : Cf} (k : Nat) (hk0 : 0 < k) (hp : p < w.heap.size) (h : RefG w p c) (ht : ¬ (k : Int) > (c.mn : Int) * (2 * c.f + 1)) :
    Calls Try.prog 38 #[.pointer (some ⟨p, 0, none⟩), .int .u64 (k : Nat)] w (RNewP w (.agg #[.int .u64 (((k : Int) - 1) / (2 * c.f + 1) + 1), .int .i64 (((k : Int) - 1) % (2 * c.f + 1))]) [] 0) := by
  obtain ⟨W1, hW1⟩ : ∃ W1, (w.alloc (.cells #[.int .u64 0, .int .i64 0] 47)).alloc (.cells #[.slice none 0 0, .int .i64 0] 63) = W1 := ⟨_, rfl⟩
  have B1 : Hid (Below w.heap.size w W1) := by rw [← hW1]; exact ((Below.refl _ w).alloc (Nat.le_refl _) _).alloc (by simp) _
  obtain ⟨t1, t2⟩ := two_box w (.cells #[.int .u64 0, .int .i64 0] 47) (.cells #[.slice none 0 0, .int .i64 0] 63)
  obtain ⟨pr, hpr⟩ : ∃ p, w.heap.size = p := ⟨_, rfl⟩
  obtain ⟨pf, hpf⟩ : ∃ p, w.heap.size + 1 = p := ⟨_, rfl⟩
  rw [hW1, hpr] at t1
  rw [hW1, hpf] at t2
  have HPF : Hid (w.heap.size ≤ pr ∧ w.heap.size ≤ pf ∧ pr ≠ pf) := by show _ ∧ _ ∧ _; omega
  have HT1 := hide t1
  have HT2 := hide t2
  have hR1 := h.below B1.out hp
  have HN := hide (refNodes hR1)
  have f1 := h.ok.f1
  have f3 := h.ok.f3
  have HMN : Hid (1 ≤ (c.mn : Int) ∧ (c.mn : Int) ≤ 1099511627776) := by have := h.ok.mn1; have := h.ok.mn2; show _ ∧ _; omega
  have q8 := hR1.cn
  have HNO := hide none0x
  have HW1 := hide hW1
  have HPRE := hide hpr
  have HPFE := hide hpf
  clear hW1 hpr hpf t1 t2 h hR1
  obtain ⟨nn, hnn⟩ : ∃ nn, 2 * c.f + 1 = nn := ⟨_, rfl⟩
  have hn1 : 3 ≤ nn := by omega
  have hn7 : nn ≤ 7 := by omega
  rw [hnn] at HN ht
  obtain ⟨tt, htt⟩ : ∃ q, (c.mn : Int) * nn = q := ⟨_, rfl⟩
  have HTB : Hid (0 ≤ tt ∧ tt ≤ 7696581394432) := by
    show _ ∧ _
    rw [← htt]
    have a1 : 0 ≤ (c.mn : Int) * nn := Int.mul_nonneg (by omega) (by omega)
    have a2 : (c.mn : Int) * nn ≤ 1099511627776 * 7 := Int.mul_le_mul HMN.out.2 (by omega) (by omega) (by omega)
    omega
  rw [htt] at ht
  have e0 : IntKind.u64.wrap nn = nn := wrap_u nn (by omega) (by omega)
  have e2 : IntKind.u64.wrap ((c.mn : Int) * nn) = tt := by have := HTB.out; rw [htt]; exact wrap_u _ (by omega) (by omega)
  have hd : decide ((k : Int) > tt) = false := decide_eq_false ht
  have hkz : ¬ (k : Int) = 0 := by omega
  obtain ⟨ab, hab⟩ : ∃ ab, (k : Int) - 1 = ab := ⟨_, rfl⟩
  have hab0 : 0 ≤ ab := by omega
  have habt : ab ≤ 7696581394432 := by have := HTB.out; omega
  have hn0 : 0 < nn := by omega
  have hnz : ¬ nn = 0 := by omega
  rw [hnn, hab]
  obtain ⟨qd, hqd⟩ : ∃ q, ab / nn = q := ⟨_, rfl⟩
  obtain ⟨rm, hrm⟩ : ∃ q, ab % nn = q := ⟨_, rfl⟩
  have hq0 : 0 ≤ qd := by rw [← hqd]; exact Int.ediv_nonneg hab0 (by omega)
  have hq1 : qd ≤ 7696581394432 := by rw [← hqd]; exact Int.le_trans (Int.ediv_le_self _ hab0) habt
  have hr0 : 0 ≤ rm := by rw [← hrm]; exact Int.emod_nonneg _ hnz
  have hr1 : rm ≤ 6 := by rw [← hrm]; have := Int.emod_lt_of_pos ab hn0; omega
  have t1 : Int.tdiv ab nn = qd := by rw [← hqd]; exact Int.tdiv_eq_ediv_of_nonneg hab0
  have t2 : Int.tmod ab nn = rm := by rw [← hrm]; exact Int.tmod_eq_emod_of_nonneg hab0
  have u0 : IntKind.u64.wrap qd = qd := wrap_u _ (by omega) (by omega)
  have u1 : IntKind.u64.wrap rm = rm := wrap_u _ (by omega) (by omega)
  have u2 : IntKind.u64.wrap (qd + 1) = qd + 1 := wrap_u _ (by omega) (by omega)
  have u3 : IntKind.i64.wrap rm = rm := by simp [IntKind.wrap, IntKind.bits, IntKind.signed]; omega
  rw [hqd, hrm]
  have HKP : Hid ((k : Int) ≤ 7696581394432) := by have := HTB.out; show _ ≤ _; omega
  have u4 : IntKind.u64.wrap ((k : Int) - 1) = ab := by have := HKP.out; rw [hab]; exact wrap_u _ (by omega) (by omega)
  clear ht hnn htt hab hqd hrm
  generalize (k : Int) = k at *
  generalize (c.mn : Int) = mn at *
  go_enter Try.func38, Try.ntmps38
  go_upto_region 1 with fail
  rw [HW1.out, HPFE.out, HPRE.out]
  go_wp2_with fail
  refine HN.out.mono ?_
  rintro e w1 ⟨rfl, rfl⟩
  have HS2 : Hid (Below w.heap.size w w1 ∧ w1.heap[pr]? = some (.cells #[.int .u64 0, .int .i64 0] 47 (0, 0)) ∧ w1.heap[pf]? = some (.cells #[.slice none 0 0, .int .i64 0] 63 (0, 0))) := ⟨B1.out, HT1.out, HT2.out⟩
  go_upto_region 6 with fail
  rw [show (k == 0) = false by simpa using hkz]
  refine region_assign1 (fun b V => Hid (Below w.heap.size w V ∧ V.heap[pr]? = some (.cells (if b = true then #[.int .u64 (qd + 1), .int .i64 rm] else #[.int .u64 0, .int .i64 0]) 47 (0, 0)) ∧ V.heap[pf]? = some (.cells #[.slice none 0 0, .int .i64 0] 63 (0, 0)))) 12 [(25, .int .u64 k), (26, .int .u64 ab), (27, .int .u64 nn), (28, .int .u64 qd), (29, .int .u64 (qd + 1)), (30, .int .u64 k), (31, .int .u64 ab), (32, .int .u64 nn), (33, .int .u64 rm), (34, .int .i64 rm), (35, .agg #[.int .u64 (qd + 1), .int .i64 rm]), (36, .agg #[.slice none 0 0, .int .i64 0])] _ (by kernel_rfl) (by decide) (by kernel_rfl) (by kernel_rfl) (by kernel_rfl) rfl (show Hid _ from ⟨HS2.out.1.drew, HS2.out.2.1, HS2.out.2.2⟩) ?_ (fun V2 HV2 => ?_)
  · simp only [putAll, Act.put, List.setIfInBounds_toArray, List.set_cons_zero, List.set_cons_succ]
    repeat' (first | exact AllFro.nil | refine AllFro.off (by decide) (fun b => ?_) ?_ | refine AllFro.at_ (by decide) ?_ ?_)
    all_goals first
      | (refine stepTo_yes (by rfl) (fun V hV K hK => ?_)
         have y0 := block_cell hV.out.2.2 0
         have y1 := block_cell hV.out.2.2 1
         have y2 := block_free hV.out.2.2 0
         have y3 := block_free hV.out.2.2 1
         have FIN := hide (And.intro (two_below hV.out.1 HPF.out.2.1 (.slice none 0 0) (.int .i64 0)) (And.intro (((set2_grown V pf (.slice none 0 0) (.int .i64 0)).block pr (block_lt hV.out.2.1) (fun e => HPF.out.2.2 (by cases e; rfl))).trans hV.out.2.1) (set2_blk hV.out.2.2 (.slice none 0 0) (.int .i64 0))))
         go_simp
         first
           | exact hK.out _ hV
           | exact hK.out _ FIN
           | (go_at_call 52
              refine (HNO.out V).mono ?_
              rintro e V' ⟨rfl, hw3⟩
              have B3 : Below V.heap.size V V' := by rw [hw3]; exact (Below.refl _ _).alloc (Nat.le_refl _) _
              exact hK.out _ ⟨hV.out.1.trans (B3.mono hV.out.1.size), (B3.block _ (block_lt hV.out.2.1)).trans hV.out.2.1, (B3.block _ (block_lt hV.out.2.2)).trans hV.out.2.2⟩))
      | (refine ⟨by rfl, fun V hV K hK => ?_⟩
         have hr : V.heap[pr]? = some (.cells #[.int .u64 0, .int .i64 0] 47 (0, 0)) := hV.out.2.1
         have y0 := block_cell hr 0
         have y1 := block_cell hr 1
         have y2 := block_free hr 0
         have y3 := block_free hr 1
         have FIN := hide (And.intro (two_below hV.out.1 HPF.out.1 (.int .u64 (qd + 1)) (.int .i64 rm)) (And.intro (set2_blk hr (.int .u64 (qd + 1)) (.int .i64 rm)) (((set2_grown V pr (.int .u64 (qd + 1)) (.int .i64 rm)).block pf (block_lt hV.out.2.2) (fun e => HPF.out.2.2 (by cases e; rfl))).trans hV.out.2.2)))
         clear hr
         go_simp
         exact hK.out _ FIN)
  simp only [putAll, Act.put, List.setIfInBounds_toArray, List.set_cons_zero, List.set_cons_succ]
  have hr : V2.heap[pr]? = some (.cells #[.int .u64 (qd + 1), .int .i64 rm] 47 (0, 0)) := HV2.out.2.1
  go_wp2
  have z0 := block_cell hr 0
  have z1 := block_cell hr 1
  have z2 := block_cell HV2.out.2.2 0
  have z3 := block_cell HV2.out.2.2 1
  exact bodyPost_ret (v := .tuple #[.agg #[.int .u64 (qd + 1), .int .i64 rm], .agg #[.slice none 0 0, .int .i64 0]]) (by simp [results, Try.results38, go_sem, z0, z1, z2, z3]) rfl (by unfold RNewP; exact ⟨none, 0, rfl, ⟨0, 0, FV.nil _ _ _ _ _⟩, HV2.out.1⟩)
end Go.Proofs.Ytppoloellajfhab
