import Derived.Test.YtppoloellajfhabBRe
namespace Go.Proofs.Ytppoloellajfhab
open Go.RowKit

/-- What Own's loop holds: the ballot of the last Next, and what becomes of it. -/
def OwI (c : Cf) (nd : Int) (T : Int × Int × List Lk × Int) (yn ym : Int) (L : List Lk) (k : Int) : Prop :=
  (k = 183 ∧ T = (yn, ym, L, k)) ∨ (k = 0 ∧ L = [] ∧ ∃ xn : Nat, yn = (xn : Int) ∧ c.valid xn ym = true ∧ (ym = nd → T = (yn, ym, L, k)) ∧ (ym ≠ nd → c.own xn ym nd = T))
def mleft (c : Cf) (yn ym k : Int) : Nat := if k = 0 then ((c.mn : Int) * (2 * c.f + 1) + 1 - c.rank yn ym).toNat else 0
def mW (c : Cf) (p8 p9 : Nat) (V : World) : Nat := mleft c (intOf ((V.cell? ⟨p8, 0, none⟩).getD (.bool false))) (intOf ((V.cell? ⟨p8, 1, none⟩).getD (.bool false))) (intOf ((V.cell? ⟨p9, 1, none⟩).getD (.bool false)))
theorem mW_at {c : Cf} {p8 p9 : Nat} {V : World} {yn ym k : Int} {t t' : TypeId} {fo : Option Addr} {l fc : Nat} (h8 : V.heap[p8]? = some (.cells #[.int .u64 yn, .int .i64 ym] t (0, 0))) (h9 : V.heap[p9]? = some (.cells #[.slice fo l fc, .int .i64 k] t' (0, 0))) : mW c p8 p9 V = mleft c yn ym k := by
  unfold mW
  rw [block_cell h8 0, block_cell h8 1, block_cell h9 1]
  rfl
theorem own_inv {c : Cf} (hk : c.Ok) {n : Nat} {m nd : Int} (hv : c.valid n m = true) (hnd : c.node nd = true) :
    ∃ yn ym L k, c.next n m true = (yn, ym, L, k) ∧ OwI c nd (c.own n m nd) yn ym L k ∧ mleft c yn ym k < mleft c n m 0 := by
  have hb := rank_bound hk hv
  rcases next_step hk hv hnd with ⟨_, e1, e, ho⟩ | ⟨xn, xm, e, hx, hr, _, _, h1, h2⟩
  · refine ⟨_, _, _, _, e, .inl ⟨rfl, by rw [e1, e]⟩, ?_⟩
    unfold mleft
    rw [if_neg (by decide), if_pos rfl]
    omega
  · refine ⟨_, _, _, _, e, .inr ⟨rfl, rfl, xn, rfl, hx, fun h => by rw [h1 h, h], h2⟩, ?_⟩
    have hb2 := rank_bound hk hx
    unfold mleft
    rw [if_pos rfl, if_pos rfl]
    omega
/-- Two boxes are written: a third is kept. -/
theorem both_keep {V : World} {p q r : Nat} {o : Obj} (h : V.heap[r]? = some o) (h1 : p ≠ r) (h2 : q ≠ r) (x y u v : Value) : ((((V.setCell ⟨p, 0, none⟩ x).setCell ⟨p, 1, none⟩ y).setCell ⟨q, 0, none⟩ u).setCell ⟨q, 1, none⟩ v).heap[r]? = some o := by
  have a := ((set2_grown V p x y).block r (block_lt h) (fun e => h1 (by cases e; rfl))).trans h
  exact ((set2_grown _ q u v).block r (block_lt a) (fun e => h2 (by cases e; rfl))).trans a
def OwW (w : World) (c : Cf) (nd : Int) (T : Int × Int × List Lk × Int) (pr pf p8 p9 : Nat) (yn ym : Int) (L : List Lk) (k : Int) (fo : Option Addr) (fc : Nat) (V : World) : Prop :=
  Below w.heap.size w V ∧ V.heap[pr]? = some (.cells #[.int .u64 0, .int .i64 0] 47 (0, 0)) ∧ V.heap[pf]? = some (.cells #[.slice none 0 0, .int .i64 0] 63 (0, 0)) ∧
  V.heap[p8]? = some (.cells #[.int .u64 yn, .int .i64 ym] 47 (0, 0)) ∧ V.heap[p9]? = some (.cells #[.slice fo L.length fc, .int .i64 k] 63 (0, 0)) ∧ (∃ b off, FV V.heap.size V fo L b off) ∧ OwI c nd T yn ym L k
set_option maxRecDepth 10000 in
set_option maxHeartbeats 800000 in
theorem refOwn_no {w : World} {p : Nat} {c : Cf} (n : Nat) (m nd : Int) (hp : p < w.heap.size) (h : RefG w p c) (hv : c.valid n m = false) :
    Calls Try.prog 36 #[.pointer (some ⟨p, 0, none⟩), .agg #[.int .u64 (n : Nat), .int .i64 m], .int .i64 nd] w (RNewP w (.agg #[.int .u64 0, .int .i64 0]) [⟨ballotN, 0⟩] 181) := by
  obtain ⟨W1, hW1⟩ : ∃ W1, ((w.alloc (.cells #[.int .u64 (n : Nat), .int .i64 m] 47)).alloc (.cells #[.int .u64 0, .int .i64 0] 47)).alloc (.cells #[.slice none 0 0, .int .i64 0] 63) = W1 := ⟨_, rfl⟩
  have B1 : Hid (Below w.heap.size w W1) := by rw [← hW1]; exact (((Below.refl _ w).alloc (Nat.le_refl _) _).alloc (by simp) _).alloc (by simp; omega) _
  obtain ⟨pb, hpb⟩ : ∃ p, w.heap.size = p := ⟨_, rfl⟩
  obtain ⟨pr, hpr⟩ : ∃ p, w.heap.size + 1 = p := ⟨_, rfl⟩
  obtain ⟨pf, hpf⟩ : ∃ p, w.heap.size + 1 + 1 = p := ⟨_, rfl⟩
  obtain ⟨t1, t2, t3⟩ := three w (.cells #[.int .u64 (n : Nat), .int .i64 m] 47) (.cells #[.int .u64 0, .int .i64 0] 47) (.cells #[.slice none 0 0, .int .i64 0] 63)
  rw [hW1, hpb] at t1
  rw [hW1, hpr] at t2
  rw [hW1, hpf] at t3
  have q0 := block_cell t1 0
  have q1 := block_cell t1 1
  have HPF : Hid (w.heap.size ≤ pr ∧ w.heap.size ≤ pf ∧ pr ≠ pf) := by show _ ∧ _ ∧ _; omega
  have HT1 := hide t1
  have HT2 := hide t2
  have HT3 := hide t3
  have HV := hide (refValid n m (Nat.lt_of_lt_of_le hp B1.out.size) (h.below B1.out hp))
  rw [hv] at HV
  have _HND : Hid (∀ V, Below w.heap.size w V → Calls Try.prog 28 #[.pointer (some ⟨p, 0, none⟩), .int .i64 nd] V fun e w' => e = .returned (.bool (c.node nd)) ∧ w' = V) := fun V hb => refNode nd (h.below hb hp)
  have HW1 := hide hW1
  have HPB := hide hpb
  have HPRE := hide hpr
  have HPFE := hide hpf
  clear hW1 hpb hpr hpf t1 t2 t3
  go_enter Try.func36, Try.ntmps36
  go_upto_region 1 with fail
  rw [HW1.out, HPFE.out, HPRE.out, HPB.out]
  go_wp2_with fail
  refine HV.out.mono ?_
  rintro e w2 ⟨rfl, b2⟩
  have B2 := hide (B1.out.trans (b2.mono B1.out.size))
  have T1 := hide ((b2.block _ (block_lt HT1.out)).trans HT1.out)
  have T2 := hide ((b2.block _ (block_lt HT2.out)).trans HT2.out)
  have T3 := hide ((b2.block _ (block_lt HT3.out)).trans HT3.out)
  clear b2 q0 q1 B1 HV HT1 HT2 HT3 HW1 HPFE HPRE HPB
  have HNW : Hid (∀ W, Calls Try.prog 51 #[.string ballotN, .int .i64 0, .int .i64 181] W (FvP W [⟨ballotN, 0⟩] 181)) := fun W => new0 ballotN 0 181 W
  unfold FvP at HNW
  unfold ballotN at *
  go_wp2_with fail
  refine (HNW.out _).mono ?_
  rintro e w7 ⟨gi, gc, rfl, G7⟩
  obtain ⟨b, off, hf, hb3⟩ := G7.out
  have r1 := (hb3.block _ (block_lt T2.out)).trans T2.out
  have r2 := (hb3.block _ (block_lt T3.out)).trans T3.out
  have FIN := hide (both_set (B2.out.trans (hb3.mono B2.out.size)) HPF.out.1 HPF.out.2.1 HPF.out.2.2 r1 r2 (nostr_int _ _ _ _) (nostr_fault _ _ _ _ _) ⟨b, off, hf⟩ (.int .u64 0) (.int .i64 0) (.slice gi 1 gc) (.int .i64 181))
  have y0 := block_cell r1 0
  have y1 := block_cell r1 1
  have y2 := block_free r1 0
  have y3 := block_free r1 1
  have y4 := block_cell r2 0
  have y5 := block_cell r2 1
  have y6 := block_free r2 0
  have y7 := block_free r2 1
  have hne1 : ¬ pr = pf := HPF.out.2.2
  have hne2 : ¬ pf = pr := fun e => HPF.out.2.2 e.symm
  clear r1 r2 hb3 G7 hf HNW
  go_wp2
  have z0 := block_cell FIN.out.2.2.1 0
  have z1 := block_cell FIN.out.2.2.1 1
  have z2 := block_cell FIN.out.2.2.2 0
  have z3 := block_cell FIN.out.2.2.2 1
  exact bodyPost_ret (v := .tuple #[.agg #[.int .u64 0, .int .i64 0], .agg #[.slice gi 1 gc, .int .i64 181]]) (by simp [results, Try.results36, go_sem, z0, z1, z2, z3]) rfl (by unfold RNewP; exact ⟨gi, gc, rfl, FIN.out.1, FIN.out.2.1⟩)
set_option maxRecDepth 10000 in
set_option maxHeartbeats 800000 in
theorem refOwn_node {w : World} {p : Nat} {c : Cf} (n : Nat) (m nd : Int) (hp : p < w.heap.size) (h : RefG w p c) (hv : c.valid n m = true) (hnd : c.node nd = false) :
    Calls Try.prog 36 #[.pointer (some ⟨p, 0, none⟩), .agg #[.int .u64 (n : Nat), .int .i64 m], .int .i64 nd] w (RNewP w (.agg #[.int .u64 0, .int .i64 0]) [⟨ballotN, 1⟩] 182) := by
  obtain ⟨W1, hW1⟩ : ∃ W1, ((w.alloc (.cells #[.int .u64 (n : Nat), .int .i64 m] 47)).alloc (.cells #[.int .u64 0, .int .i64 0] 47)).alloc (.cells #[.slice none 0 0, .int .i64 0] 63) = W1 := ⟨_, rfl⟩
  have B1 : Hid (Below w.heap.size w W1) := by rw [← hW1]; exact (((Below.refl _ w).alloc (Nat.le_refl _) _).alloc (by simp) _).alloc (by simp; omega) _
  obtain ⟨pb, hpb⟩ : ∃ p, w.heap.size = p := ⟨_, rfl⟩
  obtain ⟨pr, hpr⟩ : ∃ p, w.heap.size + 1 = p := ⟨_, rfl⟩
  obtain ⟨pf, hpf⟩ : ∃ p, w.heap.size + 1 + 1 = p := ⟨_, rfl⟩
  obtain ⟨t1, t2, t3⟩ := three w (.cells #[.int .u64 (n : Nat), .int .i64 m] 47) (.cells #[.int .u64 0, .int .i64 0] 47) (.cells #[.slice none 0 0, .int .i64 0] 63)
  rw [hW1, hpb] at t1
  rw [hW1, hpr] at t2
  rw [hW1, hpf] at t3
  have q0 := block_cell t1 0
  have q1 := block_cell t1 1
  have HPF : Hid (w.heap.size ≤ pr ∧ w.heap.size ≤ pf ∧ pr ≠ pf) := by show _ ∧ _ ∧ _; omega
  have HT1 := hide t1
  have HT2 := hide t2
  have HT3 := hide t3
  have HV := hide (refValid n m (Nat.lt_of_lt_of_le hp B1.out.size) (h.below B1.out hp))
  rw [hv] at HV
  have HND : Hid (∀ V, Below w.heap.size w V → Calls Try.prog 28 #[.pointer (some ⟨p, 0, none⟩), .int .i64 nd] V fun e w' => e = .returned (.bool (c.node nd)) ∧ w' = V) := fun V hb => refNode nd (h.below hb hp)
  have HW1 := hide hW1
  have HPB := hide hpb
  have HPRE := hide hpr
  have HPFE := hide hpf
  clear hW1 hpb hpr hpf t1 t2 t3
  go_enter Try.func36, Try.ntmps36
  go_upto_region 1 with fail
  rw [HW1.out, HPFE.out, HPRE.out, HPB.out]
  go_wp2_with fail
  refine HV.out.mono ?_
  rintro e w2 ⟨rfl, b2⟩
  have B2 := hide (B1.out.trans (b2.mono B1.out.size))
  have T1 := hide ((b2.block _ (block_lt HT1.out)).trans HT1.out)
  have T2 := hide ((b2.block _ (block_lt HT2.out)).trans HT2.out)
  have T3 := hide ((b2.block _ (block_lt HT3.out)).trans HT3.out)
  clear b2 q0 q1 B1 HV HT1 HT2 HT3 HW1 HPFE HPRE HPB
  have HN1 := hide (HND.out w2 B2.out)
  rw [hnd] at HN1
  go_wp2_with fail
  refine HN1.out.mono ?_
  rintro e w3 ⟨rfl, rfl⟩
  clear HN1 HND
  have HNW : Hid (∀ W, Calls Try.prog 51 #[.string ballotN, .int .i64 1, .int .i64 182] W (FvP W [⟨ballotN, 1⟩] 182)) := fun W => new0 ballotN 1 182 W
  unfold FvP at HNW
  unfold ballotN at *
  go_wp2_with fail
  refine (HNW.out _).mono ?_
  rintro e w7 ⟨gi, gc, rfl, G7⟩
  obtain ⟨b, off, hf, hb3⟩ := G7.out
  have r1 := (hb3.block _ (block_lt T2.out)).trans T2.out
  have r2 := (hb3.block _ (block_lt T3.out)).trans T3.out
  have FIN := hide (both_set (B2.out.trans (hb3.mono B2.out.size)) HPF.out.1 HPF.out.2.1 HPF.out.2.2 r1 r2 (nostr_int _ _ _ _) (nostr_fault _ _ _ _ _) ⟨b, off, hf⟩ (.int .u64 0) (.int .i64 0) (.slice gi 1 gc) (.int .i64 182))
  have y0 := block_cell r1 0
  have y1 := block_cell r1 1
  have y2 := block_free r1 0
  have y3 := block_free r1 1
  have y4 := block_cell r2 0
  have y5 := block_cell r2 1
  have y6 := block_free r2 0
  have y7 := block_free r2 1
  have hne1 : ¬ pr = pf := HPF.out.2.2
  have hne2 : ¬ pf = pr := fun e => HPF.out.2.2 e.symm
  clear r1 r2 hb3 G7 hf HNW
  go_wp2
  have z0 := block_cell FIN.out.2.2.1 0
  have z1 := block_cell FIN.out.2.2.1 1
  have z2 := block_cell FIN.out.2.2.2 0
  have z3 := block_cell FIN.out.2.2.2 1
  exact bodyPost_ret (v := .tuple #[.agg #[.int .u64 0, .int .i64 0], .agg #[.slice gi 1 gc, .int .i64 182]]) (by simp [results, Try.results36, go_sem, z0, z1, z2, z3]) rfl (by unfold RNewP; exact ⟨gi, gc, rfl, FIN.out.1, FIN.out.2.1⟩)
set_option maxRecDepth 10000 in
set_option maxHeartbeats 800000 in
theorem refOwn_ok {w : World} {p : Nat} {c : Cf} (n : Nat) (m nd : Int) (hp : p < w.heap.size) (h : RefG w p c) (hv : c.valid n m = true) (hnd : c.node nd = true) :
    Calls Try.prog 36 #[.pointer (some ⟨p, 0, none⟩), .agg #[.int .u64 (n : Nat), .int .i64 m], .int .i64 nd] w (RNewP w (.agg #[.int .u64 (c.own n m nd).1, .int .i64 (c.own n m nd).2.1]) (c.own n m nd).2.2.1 (c.own n m nd).2.2.2) := by
  obtain ⟨W1, hW1⟩ : ∃ W1, ((w.alloc (.cells #[.int .u64 (n : Nat), .int .i64 m] 47)).alloc (.cells #[.int .u64 0, .int .i64 0] 47)).alloc (.cells #[.slice none 0 0, .int .i64 0] 63) = W1 := ⟨_, rfl⟩
  have B1 : Hid (Below w.heap.size w W1) := by rw [← hW1]; exact (((Below.refl _ w).alloc (Nat.le_refl _) _).alloc (by simp) _).alloc (by simp; omega) _
  obtain ⟨pb, hpb⟩ : ∃ p, w.heap.size = p := ⟨_, rfl⟩
  obtain ⟨pr, hpr⟩ : ∃ p, w.heap.size + 1 = p := ⟨_, rfl⟩
  obtain ⟨pf, hpf⟩ : ∃ p, w.heap.size + 1 + 1 = p := ⟨_, rfl⟩
  obtain ⟨t1, t2, t3⟩ := three w (.cells #[.int .u64 (n : Nat), .int .i64 m] 47) (.cells #[.int .u64 0, .int .i64 0] 47) (.cells #[.slice none 0 0, .int .i64 0] 63)
  rw [hW1, hpb] at t1
  rw [hW1, hpr] at t2
  rw [hW1, hpf] at t3
  have q0 := block_cell t1 0
  have q1 := block_cell t1 1
  have HPF : Hid (w.heap.size ≤ pr ∧ w.heap.size ≤ pf ∧ pr ≠ pf) := by show _ ∧ _ ∧ _; omega
  have HT1 := hide t1
  have HT2 := hide t2
  have HT3 := hide t3
  have HV := hide (refValid n m (Nat.lt_of_lt_of_le hp B1.out.size) (h.below B1.out hp))
  rw [hv] at HV
  have HND : Hid (∀ V, Below w.heap.size w V → Calls Try.prog 28 #[.pointer (some ⟨p, 0, none⟩), .int .i64 nd] V fun e w' => e = .returned (.bool (c.node nd)) ∧ w' = V) := fun V hb => refNode nd (h.below hb hp)
  have HW1 := hide hW1
  have HPB := hide hpb
  have HPRE := hide hpr
  have HPFE := hide hpf
  clear hW1 hpb hpr hpf t1 t2 t3
  obtain ⟨T, hTe⟩ : ∃ T, c.own n m nd = T := ⟨_, rfl⟩
  have HNX : Hid (∀ (xn : Nat) (xm : Int) V, Below w.heap.size w V → c.valid xn xm = true → Calls Try.prog 35 #[.pointer (some ⟨p, 0, none⟩), .agg #[.int .u64 (xn : Nat), .int .i64 xm]] V (RNewP V (.agg #[.int .u64 (c.next xn xm true).1, .int .i64 (c.next xn xm true).2.1]) (c.next xn xm true).2.2.1 (c.next xn xm true).2.2.2)) := fun xn xm V hb hx => refNext_ok xn xm (Nat.lt_of_lt_of_le hp hb.size) (h.below hb hp) hx
  have HINV : Hid (∀ (xn : Nat) (xm : Int), c.valid xn xm = true → ∃ yn ym L k, c.next xn xm true = (yn, ym, L, k) ∧ OwI c nd (c.own xn xm nd) yn ym L k ∧ mleft c yn ym k < mleft c xn xm 0) := fun xn xm hx => own_inv h.ok hx hnd
  rw [hTe]
  clear h
  go_enter Try.func36, Try.ntmps36
  go_upto_region 1 with fail
  rw [HW1.out, HPFE.out, HPRE.out, HPB.out]
  go_wp2_with fail
  refine HV.out.mono ?_
  rintro e w2 ⟨rfl, b2⟩
  have B2 := hide (B1.out.trans (b2.mono B1.out.size))
  have T1 := hide ((b2.block _ (block_lt HT1.out)).trans HT1.out)
  have T2 := hide ((b2.block _ (block_lt HT2.out)).trans HT2.out)
  have T3 := hide ((b2.block _ (block_lt HT3.out)).trans HT3.out)
  clear b2 q0 q1 B1 HV HT1 HT2 HT3 HW1 HPFE HPRE HPB
  have HN1 := hide (HND.out w2 B2.out)
  rw [hnd] at HN1
  go_wp2_with fail
  refine HN1.out.mono ?_
  rintro e w3 ⟨rfl, rfl⟩
  clear HN1 HND
  obtain ⟨yn, ym, L, k, hE, hI, _⟩ := HINV.out n m hv
  rw [hTe] at hI
  have HC1 := hide (HNX.out n m w3 B2.out hv)
  rw [hE] at HC1
  unfold RNewP at HC1
  have HI := hide hI
  have q0 := block_cell T1.out 0
  have q1 := block_cell T1.out 1
  clear hI hE hv hTe
  go_wp2_with fail
  refine HC1.out.mono ?_
  rintro e w4 ⟨fo, fc, rfl, G4⟩
  obtain ⟨hf4, b4⟩ := G4.out
  have U2 := (b4.block _ (block_lt T2.out)).trans T2.out
  have U3 := (b4.block _ (block_lt T3.out)).trans T3.out
  have B4 := B2.out.trans (b4.mono B2.out.size)
  clear HC1 G4 q0 q1 T1 T2 T3
  go_wp2
  obtain ⟨W5, hW5⟩ : ∃ V8, (w4.alloc (.cells #[.int .u64 yn, .int .i64 ym] 47)).alloc (.cells #[.slice fo L.length fc, .int .i64 k] 63) = V8 := ⟨_, rfl⟩
  obtain ⟨u1, u2⟩ := two_box w4 (.cells #[.int .u64 yn, .int .i64 ym] 47) (.cells #[.slice fo L.length fc, .int .i64 k] 63)
  have b5 : Below w4.heap.size w4 W5 := by rw [← hW5]; exact ((Below.refl _ w4).alloc (Nat.le_refl _) _).alloc (by simp) _
  rw [hW5] at u1 u2
  rw [hW5]
  have N8 : Hid (pr ≠ w4.heap.size ∧ pf ≠ w4.heap.size ∧ pr ≠ w4.heap.size + 1 ∧ pf ≠ w4.heap.size + 1 ∧ w.heap.size ≤ w4.heap.size ∧ w.heap.size ≤ w4.heap.size + 1 ∧ w4.heap.size ≠ w4.heap.size + 1) := by
    have a1 := block_lt U2
    have a2 := block_lt U3
    have a3 := B4.size
    show _ ∧ _
    omega
  have HS5 : Hid (OwW w c nd T pr pf w4.heap.size (w4.heap.size + 1) yn ym L k fo fc W5) :=
    ⟨B4.trans (b5.mono B4.size), (b5.block _ (block_lt U2)).trans U2, (b5.block _ (block_lt U3)).trans U3, u1, u2, fv_below hf4 b5, HI.out⟩
  clear u1 u2 b5 hW5 U2 U3 B4 b4 hf4 HI
  generalize w4.heap.size + 1 = p9 at *
  generalize w4.heap.size = p8 at *
  go_loopw [36] (fun _ wr => ∃ yn ym L k fo fc, Hid (OwW w c nd T pr pf p8 p9 yn ym L k fo fc wr)) (fun _ wr => mW c p8 p9 wr)
  case atStart => exact ⟨yn, ym, L, k, fo, fc, HS5.out⟩
  case round =>
  clear HS5
  obtain ⟨yn, ym, L, k, fo, fc, HW⟩ := hrel
  unfold OwW at HW
  rcases HW.out.2.2.2.2.2.2 with ⟨hk, hT⟩ | ⟨hk, hL, xn, hx, hxv, hT1, hT2⟩
  · have HTT := hide hT
    clear hT
    subst hk
    have z8 := block_cell HW.out.2.2.2.1 1
    have z9 := block_cell HW.out.2.2.2.2.1 1
    go_upto_region 8 with fail
    clear z8 z9
    refine region_assign2 (fun b b2 V => Hid (Below w.heap.size w V ∧ V.heap[pr]? = some (.cells (if b = true then #[.int .u64 yn, .int .i64 ym] else #[.int .u64 0, .int .i64 0]) 47 (0, 0)) ∧ V.heap[pf]? = some (.cells (if b2 = true then #[.slice fo L.length fc, .int .i64 183] else #[.slice none 0 0, .int .i64 0]) 63 (0, 0)) ∧ V.heap[p8]? = some (.cells #[.int .u64 yn, .int .i64 ym] 47 (0, 0)) ∧ V.heap[p9]? = some (.cells #[.slice fo L.length fc, .int .i64 183] 63 (0, 0)) ∧ ∃ b off, FV V.heap.size V fo L b off)) 2 3 [(43, .agg #[.int .u64 yn, .int .i64 ym]), (44, .agg #[.slice fo L.length fc, .int .i64 183])] _ (by kernel_rfl) (by decide) (by decide) (by decide) (by kernel_rfl) (by kernel_rfl) (by kernel_rfl) rfl (show Hid _ from ⟨HW.out.1.drew, HW.out.2.1, HW.out.2.2.1, HW.out.2.2.2.1, HW.out.2.2.2.2.1, fv_below HW.out.2.2.2.2.2.1 (Below.refl _ wr).drew⟩) ?_ (fun V2 HV2 => ?_)
    · simp only [putAll, Act.put, List.setIfInBounds_toArray, List.set_cons_zero, List.set_cons_succ]
      repeat' (first | exact AllFro2.nil | refine AllFro2.off (by decide) (by decide) (fun b b2 => ?_) ?_ | refine AllFro2.at1 (by decide) (fun b => ?_) ?_ | refine AllFro2.at2 (by decide) (by decide) (fun b => ?_) ?_)
      all_goals first
        | (refine stepTo_yes (by rfl) (fun V hV K hK => ?_)
           have y0 := block_cell hV.out.2.2.2.1 0
           have y1 := block_cell hV.out.2.2.2.1 1
           have y4 := block_cell hV.out.2.2.2.2.1 0
           have y5 := block_cell hV.out.2.2.2.2.1 1
           go_simp
           exact hK.out _ hV)
        | (refine ⟨by rfl, fun V hV K hK => ?_⟩
           have hr : V.heap[pr]? = some (.cells #[.int .u64 0, .int .i64 0] 47 (0, 0)) := hV.out.2.1
           have y0 := block_cell hr 0
           have y1 := block_cell hr 1
           have y2 := block_free hr 0
           have y3 := block_free hr 1
           have FIN := hide (And.intro (two_below hV.out.1 HPF.out.1 (.int .u64 yn) (.int .i64 ym)) (And.intro (set2_blk hr (.int .u64 yn) (.int .i64 ym)) (And.intro (((set2_grown V pr (.int .u64 yn) (.int .i64 ym)).block pf (block_lt hV.out.2.2.1) (fun e => HPF.out.2.2 (by cases e; rfl))).trans hV.out.2.2.1) (And.intro (((set2_grown V pr (.int .u64 yn) (.int .i64 ym)).block p8 (block_lt hV.out.2.2.2.1) (fun e => N8.out.1 (by cases e; rfl))).trans hV.out.2.2.2.1) (And.intro (((set2_grown V pr (.int .u64 yn) (.int .i64 ym)).block p9 (block_lt hV.out.2.2.2.2.1) (fun e => N8.out.2.2.1 (by cases e; rfl))).trans hV.out.2.2.2.2.1) (fv_set2 hV.out.2.2.2.2.2 hr (nostr_int _ _ _ _) (.int .u64 yn) (.int .i64 ym)))))))
           clear hr
           go_simp
           exact hK.out _ FIN)
        | (refine ⟨by rfl, fun V hV K hK => ?_⟩
           have hr : V.heap[pf]? = some (.cells #[.slice none 0 0, .int .i64 0] 63 (0, 0)) := hV.out.2.2.1
           have y0 := block_cell hr 0
           have y1 := block_cell hr 1
           have y2 := block_free hr 0
           have y3 := block_free hr 1
           have FIN := hide (And.intro (two_below hV.out.1 HPF.out.2.1 (.slice fo L.length fc) (.int .i64 183)) (And.intro (((set2_grown V pf (.slice fo L.length fc) (.int .i64 183)).block pr (block_lt hV.out.2.1) (fun e => HPF.out.2.2.symm (by cases e; rfl))).trans hV.out.2.1) (And.intro (set2_blk hr (.slice fo L.length fc) (.int .i64 183)) (And.intro (((set2_grown V pf (.slice fo L.length fc) (.int .i64 183)).block p8 (block_lt hV.out.2.2.2.1) (fun e => N8.out.2.1 (by cases e; rfl))).trans hV.out.2.2.2.1) (And.intro (((set2_grown V pf (.slice fo L.length fc) (.int .i64 183)).block p9 (block_lt hV.out.2.2.2.2.1) (fun e => N8.out.2.2.2.1 (by cases e; rfl))).trans hV.out.2.2.2.2.1) (fv_set2 hV.out.2.2.2.2.2 hr (nostr_fault _ _ _ _ _) (.slice fo L.length fc) (.int .i64 183)))))))
           clear hr
           go_simp
           exact hK.out _ FIN)
    simp only [putAll, Act.put, List.setIfInBounds_toArray, List.set_cons_zero, List.set_cons_succ]
    have r1 : V2.heap[pr]? = some (.cells #[.int .u64 yn, .int .i64 ym] 47 (0, 0)) := HV2.out.2.1
    have r2 : V2.heap[pf]? = some (.cells #[.slice fo L.length fc, .int .i64 183] 63 (0, 0)) := HV2.out.2.2.1
    go_wp2
    have z0 := block_cell r1 0
    have z1 := block_cell r1 1
    have z2 := block_cell r2 0
    have z3 := block_cell r2 1
    refine bodyPost_ret (v := .tuple #[.agg #[.int .u64 yn, .int .i64 ym], .agg #[.slice fo L.length fc, .int .i64 183]]) (by simp [results, Try.results36, go_sem, z0, z1, z2, z3]) rfl ?_
    rw [HTT.out]
    unfold RNewP
    exact ⟨fo, fc, rfl, HV2.out.2.2.2.2.2, HV2.out.1⟩
  · subst hk hL
    by_cases hmn : ym = nd
    · have HTT := hide (hT1 hmn)
      clear hT1 hT2 hx hxv
      subst hmn
      have z8 := block_cell HW.out.2.2.2.1 1
      have z9 := block_cell HW.out.2.2.2.2.1 1
      go_upto_region 8 with fail
      clear z8 z9
      refine region_assign2 (fun b b2 V => Hid (Below w.heap.size w V ∧ V.heap[pr]? = some (.cells (if b = true then #[.int .u64 yn, .int .i64 ym] else #[.int .u64 0, .int .i64 0]) 47 (0, 0)) ∧ V.heap[pf]? = some (.cells (if b2 = true then #[.slice fo 0 fc, .int .i64 0] else #[.slice none 0 0, .int .i64 0]) 63 (0, 0)) ∧ V.heap[p8]? = some (.cells #[.int .u64 yn, .int .i64 ym] 47 (0, 0)) ∧ V.heap[p9]? = some (.cells #[.slice fo 0 fc, .int .i64 0] 63 (0, 0)) ∧ ∃ b off, FV V.heap.size V fo [] b off)) 2 3 [(43, .agg #[.int .u64 yn, .int .i64 ym]), (44, .agg #[.slice fo 0 fc, .int .i64 0])] _ (by kernel_rfl) (by decide) (by decide) (by decide) (by kernel_rfl) (by kernel_rfl) (by kernel_rfl) rfl (show Hid _ from ⟨HW.out.1.drew, HW.out.2.1, HW.out.2.2.1, HW.out.2.2.2.1, HW.out.2.2.2.2.1, fv_below HW.out.2.2.2.2.2.1 (Below.refl _ wr).drew⟩) ?_ (fun V2 HV2 => ?_)
      · simp only [putAll, Act.put, List.setIfInBounds_toArray, List.set_cons_zero, List.set_cons_succ]
        repeat' (first | exact AllFro2.nil | refine AllFro2.off (by decide) (by decide) (fun b b2 => ?_) ?_ | refine AllFro2.at1 (by decide) (fun b => ?_) ?_ | refine AllFro2.at2 (by decide) (by decide) (fun b => ?_) ?_)
        all_goals first
          | (refine stepTo_yes (by rfl) (fun V hV K hK => ?_)
             have y0 := block_cell hV.out.2.2.2.1 0
             have y1 := block_cell hV.out.2.2.2.1 1
             have y4 := block_cell hV.out.2.2.2.2.1 0
             have y5 := block_cell hV.out.2.2.2.2.1 1
             go_simp
             exact hK.out _ hV)
          | (refine ⟨by rfl, fun V hV K hK => ?_⟩
             have hr : V.heap[pr]? = some (.cells #[.int .u64 0, .int .i64 0] 47 (0, 0)) := hV.out.2.1
             have y0 := block_cell hr 0
             have y1 := block_cell hr 1
             have y2 := block_free hr 0
             have y3 := block_free hr 1
             have FIN := hide (And.intro (two_below hV.out.1 HPF.out.1 (.int .u64 yn) (.int .i64 ym)) (And.intro (set2_blk hr (.int .u64 yn) (.int .i64 ym)) (And.intro (((set2_grown V pr (.int .u64 yn) (.int .i64 ym)).block pf (block_lt hV.out.2.2.1) (fun e => HPF.out.2.2 (by cases e; rfl))).trans hV.out.2.2.1) (And.intro (((set2_grown V pr (.int .u64 yn) (.int .i64 ym)).block p8 (block_lt hV.out.2.2.2.1) (fun e => N8.out.1 (by cases e; rfl))).trans hV.out.2.2.2.1) (And.intro (((set2_grown V pr (.int .u64 yn) (.int .i64 ym)).block p9 (block_lt hV.out.2.2.2.2.1) (fun e => N8.out.2.2.1 (by cases e; rfl))).trans hV.out.2.2.2.2.1) (fv_set2 hV.out.2.2.2.2.2 hr (nostr_int _ _ _ _) (.int .u64 yn) (.int .i64 ym)))))))
             clear hr
             go_simp
             exact hK.out _ FIN)
          | (refine ⟨by rfl, fun V hV K hK => ?_⟩
             have hr : V.heap[pf]? = some (.cells #[.slice none 0 0, .int .i64 0] 63 (0, 0)) := hV.out.2.2.1
             have y0 := block_cell hr 0
             have y1 := block_cell hr 1
             have y2 := block_free hr 0
             have y3 := block_free hr 1
             have FIN := hide (And.intro (two_below hV.out.1 HPF.out.2.1 (.slice fo 0 fc) (.int .i64 0)) (And.intro (((set2_grown V pf (.slice fo 0 fc) (.int .i64 0)).block pr (block_lt hV.out.2.1) (fun e => HPF.out.2.2.symm (by cases e; rfl))).trans hV.out.2.1) (And.intro (set2_blk hr (.slice fo 0 fc) (.int .i64 0)) (And.intro (((set2_grown V pf (.slice fo 0 fc) (.int .i64 0)).block p8 (block_lt hV.out.2.2.2.1) (fun e => N8.out.2.1 (by cases e; rfl))).trans hV.out.2.2.2.1) (And.intro (((set2_grown V pf (.slice fo 0 fc) (.int .i64 0)).block p9 (block_lt hV.out.2.2.2.2.1) (fun e => N8.out.2.2.2.1 (by cases e; rfl))).trans hV.out.2.2.2.2.1) (fv_set2 hV.out.2.2.2.2.2 hr (nostr_fault _ _ _ _ _) (.slice fo 0 fc) (.int .i64 0)))))))
             clear hr
             go_simp
             exact hK.out _ FIN)
      simp only [putAll, Act.put, List.setIfInBounds_toArray, List.set_cons_zero, List.set_cons_succ]
      have r1 : V2.heap[pr]? = some (.cells #[.int .u64 yn, .int .i64 ym] 47 (0, 0)) := HV2.out.2.1
      have r2 : V2.heap[pf]? = some (.cells #[.slice fo 0 fc, .int .i64 0] 63 (0, 0)) := HV2.out.2.2.1
      go_wp2
      have z0 := block_cell r1 0
      have z1 := block_cell r1 1
      have z2 := block_cell r2 0
      have z3 := block_cell r2 1
      refine bodyPost_ret (v := .tuple #[.agg #[.int .u64 yn, .int .i64 ym], .agg #[.slice fo 0 fc, .int .i64 0]]) (by simp [results, Try.results36, go_sem, z0, z1, z2, z3]) rfl ?_
      rw [HTT.out]
      unfold RNewP
      exact ⟨fo, fc, rfl, HV2.out.2.2.2.2.2, HV2.out.1⟩
    · have HT2 := hide (hT2 hmn)
      subst hx
      clear hT1 hT2
      obtain ⟨yn', ym', L', k', hE', hI', hlt⟩ := HINV.out xn ym hxv
      rw [HT2.out] at hI'
      have HC := hide (HNX.out xn ym wr HW.out.1 hxv)
      rw [hE'] at HC
      unfold RNewP at HC
      have z0 := block_cell HW.out.2.2.2.1 0
      have z1 := block_cell HW.out.2.2.2.1 1
      have z9 := block_cell HW.out.2.2.2.2.1 1
      have HI := hide hI'
      have HLT := hide hlt
      have h1 : (ym == nd) = false := by simpa using hmn
      have h2 : (ym != nd) = true := by simpa using hmn
      clear hI' hlt hE' HT2
      go_wp2_with fail
      refine HC.out.mono ?_
      rintro e w4 ⟨fo4, fc4, rfl, G4⟩
      obtain ⟨hf4, b4⟩ := G4.out
      have r1 := (b4.block _ (block_lt HW.out.2.2.2.1)).trans HW.out.2.2.2.1
      have r2 := (b4.block _ (block_lt HW.out.2.2.2.2.1)).trans HW.out.2.2.2.2.1
      have r3 := (b4.block _ (block_lt HW.out.2.1)).trans HW.out.2.1
      have r4 := (b4.block _ (block_lt HW.out.2.2.1)).trans HW.out.2.2.1
      have FIN := hide (both_set (HW.out.1.trans (b4.mono HW.out.1.size)) N8.out.2.2.2.2.1 N8.out.2.2.2.2.2.1 N8.out.2.2.2.2.2.2 r1 r2 (nostr_int _ _ _ _) (nostr_fault _ _ _ _ _) hf4 (.int .u64 yn') (.int .i64 ym') (.slice fo4 L'.length fc4) (.int .i64 k'))
      have K3 := hide (both_keep r3 N8.out.1.symm N8.out.2.2.1.symm (.int .u64 yn') (.int .i64 ym') (.slice fo4 L'.length fc4) (.int .i64 k'))
      have K4 := hide (both_keep r4 N8.out.2.1.symm N8.out.2.2.2.1.symm (.int .u64 yn') (.int .i64 ym') (.slice fo4 L'.length fc4) (.int .i64 k'))
      have y0 := block_cell r1 0
      have y1 := block_cell r1 1
      have y2 := block_free r1 0
      have y3 := block_free r1 1
      have y4 := block_cell r2 0
      have y5 := block_cell r2 1
      have y6 := block_free r2 0
      have y7 := block_free r2 1
      have hne1 : ¬ p8 = p9 := N8.out.2.2.2.2.2.2
      have hne2 : ¬ p9 = p8 := fun e => N8.out.2.2.2.2.2.2 e.symm
      clear r1 r2 r3 r4 b4 hf4 G4 HC z0 z1 z9 h1 h2
      go_wp2
      go_roundw
      case rel => exact ⟨yn', ym', L', k', fo4, fc4, FIN.out.2.1, K3.out, K4.out, FIN.out.2.2.2, FIN.out.2.2.1, FIN.out.1, HI.out⟩
      case measure =>
        rw [mW_at FIN.out.2.2.2 FIN.out.2.2.1, mW_at HW.out.2.2.2.1 HW.out.2.2.2.2.1]
        exact HLT.out
end Go.Proofs.Ytppoloellajfhab
