import Derived.Test.YthbpacilceemlaaPReadsC
import Derived.Test.YthbpacilceemlaaM27
import Derived.Test.YthbpacilceemlaaM20
import Derived.Test.YthbpacilceemlaaPKept
namespace Go.Proofs.Ythbpacilceemlaa
open Go.RowKit Crc

/-- A new block's cells, behind the program's step and the reference's. -/
theorem Pair.cellP {base limr d pv : Nat} {po : Option Addr} {w wx w1 : World} {s : RS} (h : Pair base limr d pv po w s) {b j : Nat} {v : Value} (hb : w.heap.size ≤ b) (hc : wx.cell? ⟨b, j, none⟩ = some v) (hg : wx.grownBy w1 (rowP po)) : w1.cell? ⟨b, j, none⟩ = some v :=
  hg.cell hc (fun e => by have := (h.bpo b e.symm).2; omega)
theorem Pair.cellR {base limr d pv : Nat} {po : Option Addr} {w wx w1 : World} {s : RS} (h : Pair base limr d pv po w s) {b j : Nat} {v : Value} (hb : w.heap.size ≤ b) (hc : wx.cell? ⟨b, j, none⟩ = some v) (hg : wx.grownBy w1 (some pv)) : w1.cell? ⟨b, j, none⟩ = some v :=
  hg.cell hc (fun e => by have h1 := h.pvlt; have h2 : b = pv := (by simpa using e); omega)

set_option maxRecDepth 10000 in
set_option maxHeartbeats 1600000 in
theorem read_7 {base limr d pv : Nat} {po : Option Addr} {w : World} {s : RS} (N I M : Int) (bo : Option Addr) (bn bc : Nat) (S : ByteArray) (hP : Pair base limr d pv po w s) (hm1 : -9223372036854775808 ≤ M) (hm2 : M < 9223372036854775808) :
    Calls Try.prog 16 #[.pointer po, .pointer (some ⟨pv, 0, none⟩), .agg #[.int .i64 7, .int .u64 N, .int .i64 I, .slice bo bn bc, .string S, .int .i64 M]] w fun e w' => e = .returned (.bool true) ∧ Res base limr d pv po w w' := by
  have HD : Hid (∀ o, Pair base limr d pv po (w.alloc o).drew s ∧ Keep base w (w.alloc o).drew) := fun o => ⟨((hP.alloc o).1.drew).1, (hP.alloc o).2.trans ((hP.alloc o).1.drew).2⟩
  obtain ⟨x, hx⟩ : ∃ x, x = (countAt s.rest M).1 := ⟨_, rfl⟩
  have HPR : Hid (∀ o, (w.alloc o).cell? ⟨w.heap.size, 5, none⟩ = some (.int .i64 M) → Calls Try.prog 60 #[.pointer po, .int .i64 M] (w.alloc o).drew fun e w1 => e = .returned (.int .i64 (x : Nat)) ∧ w1.cell? ⟨w.heap.size, 5, none⟩ = some (.int .i64 M) ∧ Hid (RdP limr w1 po (s.step (countAt s.rest M).2.1 (countAt s.rest M).2.2) ∧ (w.alloc o).drew.grownBy w1 (rowP po))) := by
    intro o ho
    refine (rCountP (HD.out o).1.prog M hm1 hm2).mono ?_
    rintro e w1 ⟨rfl, h1, h2⟩
    exact ⟨by rw [hx], hP.cellP (Nat.le_refl _) (show (w.alloc o).drew.cell? _ = _ from ho) h2, h1, h2⟩
  have HRF : Hid (∀ o w1, w1.cell? ⟨w.heap.size, 5, none⟩ = some (.int .i64 M) → RdP limr w1 po (s.step (countAt s.rest M).2.1 (countAt s.rest M).2.2) ∧ (w.alloc o).drew.grownBy w1 (rowP po) → Calls Try.prog 61 #[.pointer (some ⟨pv, 0, none⟩), .int .i64 M] w1 fun e w2 => e = .returned (.int .i64 (x : Nat)) ∧ w2.cell? ⟨w.heap.size, 5, none⟩ = some (.int .i64 M) ∧ Hid (Res base limr d pv po w w2)) := by
    intro o w1 hc h1
    refine (refCount_any d pv s M w1 ((HD.out o).1.refAt h1.2) hm1 hm2).mono ?_
    rintro e w2 ⟨rfl, h3, h4⟩
    exact ⟨by rw [hx], hP.cellR (Nat.le_refl _) hc h4, Res.from (HD.out o).2 ((HD.out o).1.next h1.1 h1.2 h3 h4)⟩
  clear hx hP
  go_enter Try.func16, Try.ntmps16
  go_wp2_with fail
  go_region_held (fun w' => w'.cell? ⟨w.heap.size, 5, none⟩ = some (.int .i64 M)) (go_keep)
    (first
      | (go_at_call 60; refine (HPR.out _ (by simp)).mono ?_; rintro e w1 ⟨rfl, hc1, H1⟩)
      | (go_at_call 61; refine (HRF.out _ _ hc1 H1.out).mono ?_; rintro e w2 ⟨rfl, hc2, H2⟩))
  all_goals go_wp2
  all_goals go_ret
  all_goals exact ⟨rfl, H2.out⟩

set_option maxRecDepth 10000 in
set_option maxHeartbeats 1600000 in
theorem read_9 {base limr d pv : Nat} {po : Option Addr} {w : World} {s : RS} (N I M : Int) (bo : Option Addr) (bn bc : Nat) (S : ByteArray) (hP : Pair base limr d pv po w s) (hm1 : -9223372036854775808 ≤ M) (hm2 : M < 9223372036854775808) :
    Calls Try.prog 16 #[.pointer po, .pointer (some ⟨pv, 0, none⟩), .agg #[.int .i64 9, .int .u64 N, .int .i64 I, .slice bo bn bc, .string S, .int .i64 M]] w fun e w' => e = .returned (.bool true) ∧ Res base limr d pv po w w' := by
  have HD : Hid (∀ o, Pair base limr d pv po (w.alloc o).drew s ∧ Keep base w (w.alloc o).drew) := fun o => ⟨((hP.alloc o).1.drew).1, (hP.alloc o).2.trans ((hP.alloc o).1.drew).2⟩
  obtain ⟨ok, hok⟩ : ∃ ok, ok = utf8Ok (strOf (blobAt s.rest M).1) := ⟨_, rfl⟩
  have HOK := hide hok
  have HTX : Hid (∀ wx : World, Calls Try.prog 114 #[.string (strOf (blobAt s.rest M).1)] wx fun e w' => e = .returned (.bool ok) ∧ ∃ pos, w' = wx.iter (strOf (blobAt s.rest M).1) pos) := by
    intro wx
    rw [HOK.out]
    exact isText_any _ wx
  clear hok
  obtain ⟨x, hx⟩ : ∃ x, x = (textAt s.rest M ok).1 := ⟨_, rfl⟩
  have HPR : Hid (∀ o, (w.alloc o).cell? ⟨w.heap.size, 5, none⟩ = some (.int .i64 M) → Calls Try.prog 64 #[.pointer po, .int .i64 M] (w.alloc o).drew fun e w1 => e = .returned (.string x) ∧ w1.cell? ⟨w.heap.size, 5, none⟩ = some (.int .i64 M) ∧ Hid (RdP limr w1 po (s.step (textAt s.rest M ok).2.1 (textAt s.rest M ok).2.2) ∧ (w.alloc o).drew.grownBy w1 (rowP po))) := by
    intro o ho
    refine (rTextP (HD.out o).1.prog M hm1 hm2 ok HTX.out).mono ?_
    rintro e w1 ⟨rfl, h1, h2⟩
    exact ⟨by rw [hx], hP.cellP (Nat.le_refl _) (show (w.alloc o).drew.cell? _ = _ from ho) h2, h1, h2⟩
  have HRF : Hid (∀ o w1, w1.cell? ⟨w.heap.size, 5, none⟩ = some (.int .i64 M) → RdP limr w1 po (s.step (textAt s.rest M ok).2.1 (textAt s.rest M ok).2.2) ∧ (w.alloc o).drew.grownBy w1 (rowP po) → Calls Try.prog 65 #[.pointer (some ⟨pv, 0, none⟩), .int .i64 M] w1 fun e w2 => e = .returned (.string x) ∧ w2.cell? ⟨w.heap.size, 5, none⟩ = some (.int .i64 M) ∧ Hid (Res base limr d pv po w w2)) := by
    intro o w1 hc h1
    refine (refText_any d pv s M w1 ((HD.out o).1.refAt h1.2) hm1 hm2 ok HOK.out).mono ?_
    rintro e w2 ⟨rfl, h3, h4⟩
    exact ⟨by rw [hx], hP.cellR (Nat.le_refl _) hc h4, Res.from (HD.out o).2 ((HD.out o).1.next h1.1 h1.2 h3 h4)⟩
  clear hx hP
  go_enter Try.func16, Try.ntmps16
  go_wp2_with fail
  go_region_held (fun w' => w'.cell? ⟨w.heap.size, 5, none⟩ = some (.int .i64 M)) (go_keep)
    (first
      | (go_at_call 64; refine (HPR.out _ (by simp)).mono ?_; rintro e w1 ⟨rfl, hc1, H1⟩)
      | (go_at_call 65; refine (HRF.out _ _ hc1 H1.out).mono ?_; rintro e w2 ⟨rfl, hc2, H2⟩))
  all_goals go_wp2
  all_goals go_ret
  all_goals exact ⟨rfl, H2.out⟩

theorem blobAt_len (B : List Nat) (most : Int) : (blobAt B most).1.length ≤ B.length := by
  unfold blobAt
  split
  · simp
  · split
    · simp
    · simp only [List.length_take, List.length_drop]; omega
theorem rest_le (s : RS) : s.rest.length ≤ s.B.length := by
  unfold RS.rest restB
  split
  · rw [List.length_drop]; omega
  · simp
theorem own_far {base : Nat} {w : World} {v : Value} {B : List Nat} (h : Owns base w v B) : ∀ g, v.ownBlock = some g → base ≤ g := by
  intro g hg
  obtain ⟨a0, c0, rfl, _, (⟨rfl, _⟩ | ⟨g', rfl, hb, _⟩)⟩ := h.form
  · cases hg
  · have : g' = g := by simpa [Value.ownBlock] using hg
    omega

set_option maxRecDepth 10000 in
set_option maxHeartbeats 1600000 in
theorem read_8 {base limr d pv : Nat} {po : Option Addr} {w : World} {s : RS} (N I M : Int) (bo : Option Addr) (bn bc : Nat) (S : ByteArray) (hP : Pair base limr d pv po w s) (hm1 : -9223372036854775808 ≤ M) (hm2 : M < 9223372036854775808) :
    Calls Try.prog 16 #[.pointer po, .pointer (some ⟨pv, 0, none⟩), .agg #[.int .i64 8, .int .u64 N, .int .i64 I, .slice bo bn bc, .string S, .int .i64 M]] w fun e w' => e = .returned (.bool true) ∧ Res base limr d pv po w w' := by
  have hlen : (blobAt s.rest M).1.length ≤ 140737488351232 := by
    have h1 := blobAt_len s.rest M
    have h2 := rest_le s
    have h3 := hP.len
    omega
  have HA := hide (fun o => hP.alloc o)
  have HP := hide hP
  have HPR : Hid (∀ o, (w.alloc o).cell? ⟨w.heap.size, 5, none⟩ = some (.int .i64 M) → Calls Try.prog 62 #[.pointer po, .int .i64 M] (w.alloc o) fun e w1 => ∃ v, e = .returned v ∧ w1.cell? ⟨w.heap.size, 5, none⟩ = some (.int .i64 M) ∧ Hid (Owns (w.heap.size + 1) w1 v (blobAt s.rest M).1 ∧ RdP limr w1 po (s.step (blobAt s.rest M).2.1 (blobAt s.rest M).2.2) ∧ (w.alloc o).grownBy w1 (rowP po))) := by
    intro o ho
    refine (rBlobP (HA.out o).1.prog M hm1 hm2).mono ?_
    rintro e w1 ⟨v, rfl, h0, h1, h2⟩
    exact ⟨v, rfl, HP.out.cellP (Nat.le_refl _) ho h2, h0.lower (by simp), h1, h2⟩
  have HRF : Hid (∀ o w1, RdP limr w1 po (s.step (blobAt s.rest M).2.1 (blobAt s.rest M).2.2) ∧ (w.alloc o).grownBy w1 (rowP po) → Calls Try.prog 63 #[.pointer (some ⟨pv, 0, none⟩), .int .i64 M] w1 fun e w2 => ∃ v, e = .returned v ∧ Hid (Owns w1.heap.size w2 v (blobAt s.rest M).1 ∧ w1.grownBy w2 (some pv) ∧ Res base limr d pv po w w2)) := by
    intro o w1 h1
    refine (refBlob_any d pv s M w1 ((HA.out o).1.refAt h1.2) hm1 hm2).mono ?_
    rintro e w2 ⟨v, rfl, h0, h3, h4⟩
    exact ⟨v, rfl, h0, h4, Res.from (HA.out o).2 ((HA.out o).1.next h1.1 h1.2 h3 h4)⟩
  generalize (blobAt s.rest M).1 = L at *
  clear hP
  go_enter Try.func16, Try.ntmps16
  go_wp2_with fail
  refine (HPR.out _ (by simp)).mono ?_
  rintro e w1 ⟨v, rfl, hc1, H1⟩
  obtain ⟨a1, k1, rfl, _, _⟩ := H1.out.1.form
  go_wp2_with fail
  refine (HRF.out _ w1 H1.out.2).mono ?_
  rintro e w2 ⟨v2, rfl, H2⟩
  obtain ⟨a2, k2, rfl, hs2, _⟩ := H2.out.1.form
  have HO1 : Hid (Owns (w.heap.size + 1) w2 (.slice a1 L.length k1) L) := by
    refine H1.out.1.kept H2.out.2.1 ?_
    rcases ho : (Value.slice a1 L.length k1).ownBlock with _ | g
    · exact .inl rfl
    · refine .inr (fun e => ?_)
      have h1 := own_far H1.out.1 g ho
      have h2 := HP.out.pvlt
      have h3 : g = pv := by simpa using e
      omega
  obtain ⟨b1, k1', hv1, hs1, _⟩ := HO1.out.form
  simp only [Value.slice.injEq, true_and] at hv1
  obtain ⟨rfl, rfl⟩ := hv1
  have HSM := hide (same_any hs1 hs2)
  have HSP := hide (fun q => spoil_any (HO1.out.drew q) hlen 5 5 rfl (by omega))
  have HFAR := hide (own_far HO1.out)
  clear hs1 hs2 HO1
  go_wp2_with fail
  refine HSM.out.mono ?_
  rintro e w3 ⟨rfl, q, rfl⟩
  go_wp2_with fail
  refine (HSP.out q).mono ?_
  rintro e w4 ⟨rfl, h4⟩
  have H4 := hide h4
  clear h4
  go_wp2
  go_ret
  refine ⟨rfl, ?_⟩
  obtain ⟨⟨s', hs'⟩, hk⟩ := H2.out.2.2
  have g1 := hs'.drewN q
  have g2 := Pair.wrote HP.out g1.1 H4.out (fun g hg => by have := HFAR.out g hg; omega)
  exact ⟨⟨s', g2.1⟩, (hk.trans g1.2).trans g2.2⟩

set_option maxRecDepth 10000 in
set_option maxHeartbeats 1600000 in
theorem read_10 {base limr d pv : Nat} {po : Option Addr} {w : World} {s : RS} (N I M : Int) (bo : Option Addr) (bn bc : Nat) (S : ByteArray) (hP : Pair base limr d pv po w s) :
    Calls Try.prog 16 #[.pointer po, .pointer (some ⟨pv, 0, none⟩), .agg #[.int .i64 10, .int .u64 N, .int .i64 I, .slice bo bn bc, .string S, .int .i64 M]] w fun e w' => e = .returned (.bool true) ∧ Res base limr d pv po w w' := by
  have HA := hide (fun o => hP.alloc o)
  have HEP : Hid (∀ wx, Pair base limr d pv po wx s → Calls Try.prog 19 #[.pointer po] wx fun e w' => ∃ v, e = .returned v ∧ ErrV w' v s.errC s.errA ∧ Below wx.heap.size wx w') := fun wx h => rErrP h.prog h.place
  have HE : Hid (∀ o, Calls Try.prog 17 #[.pointer (some ⟨pv, 0, none⟩)] (w.alloc o) fun e w' => e = .returned (.agg #[.int .i64 s.errC, .int .i64 s.errA]) ∧ Below (w.alloc o).heap.size (w.alloc o) w') := fun o => refErr_any d pv s (w.alloc o) (HA.out o).1.ref
  generalize s.errC = ec at *
  generalize s.errA = ea at *
  clear hP
  go_enter Try.func16, Try.ntmps16
  go_wp2_with fail
  refine (HE.out _).mono ?_
  rintro e w1 ⟨rfl, hb1⟩
  have HP1 : Hid (Pair base limr d pv po w1 s ∧ Keep base w w1) := by
    have h2 := (HA.out _).1.below hb1
    exact ⟨h2.1, (HA.out _).2.trans h2.2⟩
  clear hb1
  go_wp2_with fail
  refine (HEP.out _ (HP1.out.1.alloc _).1).mono ?_
  rintro e w3 ⟨v, rfl, hv, hb3⟩
  have HP3 : Hid (Pair base limr d pv po w3 s ∧ Keep base w w3) := by
    have h1 := (HP1.out.1.alloc (.cells #[.int .i64 ec, .int .i64 ea] 34 (0, 0)))
    have h2 := h1.1.below hb3
    exact ⟨h2.1, (HP1.out.2.trans h1.2).trans h2.2⟩
  have a0 : w3.cell? ⟨w1.heap.size, 0, none⟩ = some (.int .i64 ec) := by
    have h := hb3.cell (p := ⟨w1.heap.size, 0, none⟩) (by simp)
    rw [h]
    simp
  have a1 : w3.cell? ⟨w1.heap.size, 1, none⟩ = some (.int .i64 ea) := by
    have h := hb3.cell (p := ⟨w1.heap.size, 1, none⟩) (by simp)
    rw [h]
    simp
  have HV := hide hv
  clear hv hb3 HP1 HE
  go_wp2_with fail
  refine (told_any HV.out).mono ?_
  rintro e w4 ⟨rfl, q, rfl⟩
  have HD := hide (HP3.out.1.drewN q)
  go_wp2
  go_ret
  exact ⟨rfl, ⟨s, HD.out.1⟩, HP3.out.2.trans HD.out.2⟩

set_option maxRecDepth 10000 in
set_option maxHeartbeats 1600000 in
theorem read_else (K : Int) {base limr d pv : Nat} {po : Option Addr} {w : World} {s : RS} (N I M : Int) (bo : Option Addr) (bn bc : Nat) (S : ByteArray) (hP : Pair base limr d pv po w s) (hK : K < 1 ∨ 11 < K) :
    Calls Try.prog 16 #[.pointer po, .pointer (some ⟨pv, 0, none⟩), .agg #[.int .i64 K, .int .u64 N, .int .i64 I, .slice bo bn bc, .string S, .int .i64 M]] w fun e w' => e = .returned (.bool true) ∧ Res base limr d pv po w w' := by
  have HA := hide (fun o => Res.keep (hP.alloc o))
  have e1 : (K == 1) = false := by simp; omega
  have e2 : (K == 2) = false := by simp; omega
  have e3 : (K == 3) = false := by simp; omega
  have e4 : (K == 4) = false := by simp; omega
  have e5 : (K == 5) = false := by simp; omega
  have e6 : (K == 6) = false := by simp; omega
  have e7 : (K == 7) = false := by simp; omega
  have e8 : (K == 8) = false := by simp; omega
  have e9 : (K == 9) = false := by simp; omega
  have e10 : (K == 10) = false := by simp; omega
  have e11 : (K == 11) = false := by simp; omega
  clear hP hK
  go_enter Try.func16, Try.ntmps16
  go_wp2
  go_ret
  exact ⟨rfl, HA.out _⟩

theorem read_any (f : Fl) {base limr d pv : Nat} {po : Option Addr} {w : World} {s : RS} (hP : Pair base limr d pv po w s) (hm1 : -9223372036854775808 ≤ f.M) (hm2 : f.M < 9223372036854775808) :
    Calls Try.prog 16 #[.pointer po, .pointer (some ⟨pv, 0, none⟩), .agg #[.int .i64 f.K, .int .u64 (f.N : Int), .int .i64 f.I, .slice f.bo f.bn f.bc, .string f.S, .int .i64 f.M]] w fun e w' => e = .returned (.bool true) ∧ Res base limr d pv po w w' := by
  obtain ⟨K, N, I, bo, bn, bc, B, S, M⟩ := f
  simp only at hm1 hm2 ⊢
  by_cases h : K < 1 ∨ 11 < K
  · exact read_else K N I M bo bn bc S hP h
  · have hK : K = 1 ∨ K = 2 ∨ K = 3 ∨ K = 4 ∨ K = 5 ∨ K = 6 ∨ K = 7 ∨ K = 8 ∨ K = 9 ∨ K = 10 ∨ K = 11 := by omega
    rcases hK with rfl | rfl | rfl | rfl | rfl | rfl | rfl | rfl | rfl | rfl | rfl
    · exact read_1 N I M bo bn bc S hP
    · exact read_2 N I M bo bn bc S hP
    · exact read_3 N I M bo bn bc S hP
    · exact read_4 N I M bo bn bc S hP
    · exact read_5 N I M bo bn bc S hP
    · exact read_6 N I M bo bn bc S hP
    · exact read_7 N I M bo bn bc S hP hm1 hm2
    · exact read_8 N I M bo bn bc S hP hm1 hm2
    · exact read_9 N I M bo bn bc S hP hm1 hm2
    · exact read_10 N I M bo bn bc S hP
    · exact read_11 N I M bo bn bc S hP
end Go.Proofs.Ythbpacilceemlaa
