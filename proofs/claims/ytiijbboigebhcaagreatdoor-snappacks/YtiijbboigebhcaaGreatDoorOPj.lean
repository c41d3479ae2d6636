import Derived.Test.YtiijbboigebhcaaGreatDoorM47
namespace Go.Proofs.YtiijbboigebhcaaGreatDoor
open Go.RowKit Crc

theorem eNs_pair (x y : Nat) : eNs [x, y] = eNs [x] ++ numB y := by simp [eNs]
theorem pen_head {base p : Nat} {w0 V : World} (hv : Pa base p w0 [] V) : Calls Tryz.prog 28 #[.pointer (some ⟨p, 0, none⟩), .slice (some ⟨V.heap.size, 0, none⟩) 5 5] (V.alloc (.cells #[.int .u8 81, .int .u8 83, .int .u8 78, .int .u8 80, .int .u8 1] 5)) fun e W' => e = .returned (.tuple #[]) ∧ Hid (Pa base p w0 [81, 83, 78, 80, 1] W') :=
  pbytes_new hv [81, 83, 78, 80, 1] (by intro x hx; simp only [List.mem_cons, List.not_mem_nil, or_false] at hx; omega) rfl (by simp) (by simp [vals]) rfl (by simp)
theorem big1 (v : Nat) (h : v < 256) : big v 1 = [v] := by simp [big, bigTo]; omega
set_option maxRecDepth 10000 in
set_option maxHeartbeats 3200000 in
theorem rpack_ok (m : Mi) {w : World} (hb : m.small) (h : m.Vw w) (hr : m.Rn) (hp : m.part < 0) : Calls Tryz.prog 8 #[.agg #[.int .u64 (m.slot : Int), .int .u64 (m.now : Int), .int .u64 (m.tot : Int), .int .u64 (m.nx : Int), .slice m.ao m.an m.ac, .slice m.ho m.hn m.hc, .slice m.jo m.jn m.jc, .slice m.dO m.dn m.dc, .int .u64 (m.ends : Int), .slice m.so m.sn m.sc]] w (RPackQ m w) := by
  have e1 : m.pkB = big 1364414032 4 ++ big 1 1 ++ m.enc := by unfold Mi.pkB; rw [if_pos hp]
  have e2 : m.pkL = [] := by unfold Mi.pkL; rw [if_pos hp]
  have e3 : m.pkC = 0 := by unfold Mi.pkC; rw [if_pos hp]
  unfold RPackQ
  rw [e1, e2, e3, head5]
  obtain ⟨fit, gd⟩ := part_fine hp hr
  have hEL := enc_le m fit
  obtain ⟨W1, hW1⟩ : ∃ W1, (w.alloc (.cells #[.int .u64 (m.slot : Int), .int .u64 (m.now : Int), .int .u64 (m.tot : Int), .int .u64 (m.nx : Int), .slice m.ao m.an m.ac, .slice m.ho m.hn m.hc, .slice m.jo m.jn m.jc, .slice m.dO m.dn m.dc, .int .u64 (m.ends : Int), .slice m.so m.sn m.sc] 33)).alloc (.cells #[.slice none 0 0, .int .i64 0] 43) = W1 := ⟨_, rfl⟩
  have s0 : (w.alloc (.cells #[.int .u64 (m.slot : Int), .int .u64 (m.now : Int), .int .u64 (m.tot : Int), .int .u64 (m.nx : Int), .slice m.ao m.an m.ac, .slice m.ho m.hn m.hc, .slice m.jo m.jn m.jc, .slice m.dO m.dn m.dc, .int .u64 (m.ends : Int), .slice m.so m.sn m.sc] 33)).heap.size = w.heap.size + 1 := by simp
  have b1 : Below w.heap.size w W1 := by rw [← hW1]; exact ((Below.refl _ w).alloc (Nat.le_refl _) _).alloc (by simp) _
  have q1 : W1.heap[w.heap.size]? = some (.cells #[.int .u64 (m.slot : Int), .int .u64 (m.now : Int), .int .u64 (m.tot : Int), .int .u64 (m.nx : Int), .slice m.ao m.an m.ac, .slice m.ho m.hn m.hc, .slice m.jo m.jn m.jc, .slice m.dO m.dn m.dc, .int .u64 (m.ends : Int), .slice m.so m.sn m.sc] 33 (0, 0)) := by rw [← hW1]; exact ((World.grownBy_alloc _ _ none).block _ (by rw [s0]; omega) (by simp)).trans (alloc_atN _ _)
  have q2 : W1.heap[w.heap.size + 1]? = some (.cells #[.slice none 0 0, .int .i64 0] 43 (0, 0)) := by rw [← hW1, ← s0]; exact alloc_atN _ _
  have RP := hide (refPart_v m hb (h.below b1))
  have B1 := hide b1
  have Q1 := hide q1
  have Q2 := hide q2
  have HW1 := hide hW1
  have VW := hide (h.below b1)
  have HSM := hide hb
  have hpd : decide (0 ≤ m.part) = false := by simp; omega
  have hdn := hb.2.2.2.1
  have hsn := hb.2.2.2.2
  have HLD := hide h.d.len
  have HLS := hide h.s.row.len
  obtain ⟨S0, hS0⟩ : ∃ S0, S0 = [81, 83, 78, 80, 1] := ⟨_, rfl⟩
  obtain ⟨S1, hS1⟩ : ∃ S1, S0 ++ eNs [m.slot, m.now] = S1 := ⟨_, rfl⟩
  obtain ⟨S2, hS2⟩ : ∃ S2, S1 ++ eBk m.tot m.nx m.A m.H m.J = S2 := ⟨_, rfl⟩
  obtain ⟨S3, hS3⟩ : ∃ S3, S2 ++ eNs [m.ends, m.dn] = S3 := ⟨_, rfl⟩
  obtain ⟨S4, hS4⟩ : ∃ S4, S3 ++ m.D.flatMap eDe = S4 := ⟨_, rfl⟩
  obtain ⟨S5, hS5⟩ : ∃ S5, S4 ++ eNs [m.sn] = S5 := ⟨_, rfl⟩
  have hFE : S5 ++ m.S.flatMap eSn = [81, 83, 78, 80, 1] ++ m.enc := by
    rw [← hS5, ← hS4, ← hS3, ← hS2, ← hS1, hS0, eNs_pair m.ends, eNs_one m.sn, ← h.d.len, ← h.s.row.len]
    simp only [Mi.enc, eLs, List.append_assoc]
  have hm : (S5 ++ m.S.flatMap eSn).length ≤ 1000000 := by rw [hFE]; simp only [List.length_append, List.length_cons, List.length_nil]; omega
  have z0 := congrArg List.length hS0
  have z1 := congrArg List.length hS1
  have z2 := congrArg List.length hS2
  have z3 := congrArg List.length hS3
  have z4 := congrArg List.length hS4
  have z5 := congrArg List.length hS5
  simp only [List.length_append, List.length_cons, List.length_nil] at z0 z1 z2 z3 z4 z5 hm
  have NB : Hid (∀ base p w0 V, Pa base p w0 [] V → Calls Tryz.prog 28 #[.pointer (some ⟨p, 0, none⟩), .slice (some ⟨V.heap.size, 0, none⟩) 5 5] (V.alloc (.cells #[.int .u8 81, .int .u8 83, .int .u8 78, .int .u8 80, .int .u8 1] 5)) fun e W' => e = .returned (.tuple #[]) ∧ Hid (Pa base p w0 S0 W')) := fun base p w0 V hv => by
    have q := pen_head hv
    rw [← hS0] at q
    exact q
  have N0 : Hid (∀ base p w0 V, Pa base p w0 S0 V → Calls Tryz.prog 29 #[.pointer (some ⟨p, 0, none⟩), .slice (some ⟨V.heap.size, 0, none⟩) 2 2] (V.alloc (.cells #[.int .u64 (m.slot : Int), .int .u64 (m.now : Int)] 22)) fun e W' => e = .returned (.tuple #[]) ∧ Hid (Pa base p w0 S1 W')) := fun base p w0 V hv => by
    rw [← hS1]
    exact pnums_new hv [m.slot, m.now] gd.n rfl (by simp) rfl rfl (by simp only [List.length_append]; omega)
  have N1 : Hid (∀ base p w0 V, Pa base p w0 S1 V → m.Lr p V → Calls Tryz.prog 30 #[.pointer (some ⟨p, 0, none⟩), .agg #[.int .u64 (m.tot : Int), .int .u64 (m.nx : Int), .slice m.ao m.an m.ac, .slice m.ho m.hn m.hc, .slice m.jo m.jn m.jc]] V fun e W' => e = .returned (.tuple #[]) ∧ Hid (Pa base p w0 S2 W')) := fun base p w0 V hv hl => by
    rw [← hS2]
    exact penBook_any hv m hl gd (by simp only [List.length_append]; omega)
  have N2 : Hid (∀ base p w0 V, Pa base p w0 S2 V → Calls Tryz.prog 29 #[.pointer (some ⟨p, 0, none⟩), .slice (some ⟨V.heap.size, 0, none⟩) 2 2] (V.alloc (.cells #[.int .u64 (m.ends : Int), .int .u64 (m.dn : Int)] 22)) fun e W' => e = .returned (.tuple #[]) ∧ Hid (Pa base p w0 S3 W')) := fun base p w0 V hv => by
    rw [← hS3]
    exact pnums_new hv [m.ends, m.dn] (by intro v hv; simp only [List.mem_cons, List.not_mem_nil, or_false] at hv; rcases hv with rfl | rfl <;> first | exact gd.e _ (List.mem_cons_self ..) | (unfold u64; omega)) rfl (by simp) rfl rfl (by simp only [List.length_append]; omega)
  have N3 : Hid (∀ base p w0 V, Pa base p w0 S4 V → Calls Tryz.prog 29 #[.pointer (some ⟨p, 0, none⟩), .slice (some ⟨V.heap.size, 0, none⟩) 1 1] (V.alloc (.cells #[.int .u64 (m.sn : Int)] 22)) fun e W' => e = .returned (.tuple #[]) ∧ Hid (Pa base p w0 S5 W')) := fun base p w0 V hv => by
    rw [← hS5]
    exact pnums_new hv [m.sn] (by intro v hv; simp only [List.mem_cons, List.not_mem_nil, or_false] at hv; subst hv; unfold u64; omega) rfl (by simp) rfl rfl (by simp only [List.length_append]; omega)
  have E0 : Hid (∀ base p (W2 : World) k x, m.D[k]? = some x → ∀ V, Pa base p W2 (S3 ++ (m.D.take k).flatMap eDe) V → Calls Tryz.prog 29 #[.pointer (some ⟨p, 0, none⟩), .slice (some ⟨V.heap.size, 0, none⟩) 7 7] (V.alloc (.cells #[.int .u64 (x.a : Int), .int .u64 (x.b : Int), .int .u64 (x.c : Int), .int .u64 (x.d : Int), .int .u64 (x.e : Int), .int .u64 (x.f : Int), .int .u64 (x.g : Int)] 22)) fun e W' => e = .returned (.tuple #[]) ∧ Hid (Pa base p W2 (S3 ++ (m.D.take k).flatMap eDe ++ eNs [x.a, x.b, x.c, x.d, x.e, x.f, x.g]) W')) := fun base p W2 k x hx V hv => by
    have t := flatMap_take_le eDe m.D (k + 1)
    rw [← fm_snoc eDe m.D k x hx, List.length_append] at t
    have te := congrArg List.length (show eDe x = eNs [x.a, x.b, x.c, x.d, x.e, x.f, x.g] ++ big x.ph.toNat 1 ++ eNs [x.p, x.q, x.r, x.z] ++ (numB x.t.size ++ strB x.t) from rfl)
    simp only [List.length_append] at te
    exact pnums_new hv [x.a, x.b, x.c, x.d, x.e, x.f, x.g] (gd.d x (List.mem_of_getElem? hx)).a rfl (by simp) rfl rfl (by simp only [List.length_append]; omega)
  have E1 : Hid (∀ base p (W2 : World) k x, m.D[k]? = some x → ∀ V, Pa base p W2 (S3 ++ (m.D.take k).flatMap eDe ++ eNs [x.a, x.b, x.c, x.d, x.e, x.f, x.g]) V → Calls Tryz.prog 28 #[.pointer (some ⟨p, 0, none⟩), .slice (some ⟨V.heap.size, 0, none⟩) 1 1] (V.alloc (.cells #[.int .u8 x.ph] 5)) fun e W' => e = .returned (.tuple #[]) ∧ Hid (Pa base p W2 (S3 ++ (m.D.take k).flatMap eDe ++ eNs [x.a, x.b, x.c, x.d, x.e, x.f, x.g] ++ big x.ph.toNat 1) W')) := fun base p W2 k x hx V hv => by
    have t := flatMap_take_le eDe m.D (k + 1)
    rw [← fm_snoc eDe m.D k x hx, List.length_append] at t
    have te := congrArg List.length (show eDe x = eNs [x.a, x.b, x.c, x.d, x.e, x.f, x.g] ++ big x.ph.toNat 1 ++ eNs [x.p, x.q, x.r, x.z] ++ (numB x.t.size ++ strB x.t) from rfl)
    simp only [List.length_append] at te
    have hk := (gd.d x (List.mem_of_getElem? hx)).k
    have e1 := big1 x.ph.toNat (by omega)
    rw [e1]
    rw [e1] at te
    exact pbytes_new hv [x.ph.toNat] (by intro v hv; simp only [List.mem_cons, List.not_mem_nil, or_false] at hv; subst hv; omega) rfl (by simp) (by simp [vals]; omega) rfl (by simp only [List.length_append, List.length_cons, List.length_nil] at te ⊢; omega)
  have E2 : Hid (∀ base p (W2 : World) k x, m.D[k]? = some x → ∀ V, Pa base p W2 (S3 ++ (m.D.take k).flatMap eDe ++ eNs [x.a, x.b, x.c, x.d, x.e, x.f, x.g] ++ big x.ph.toNat 1) V → Calls Tryz.prog 29 #[.pointer (some ⟨p, 0, none⟩), .slice (some ⟨V.heap.size, 0, none⟩) 4 4] (V.alloc (.cells #[.int .u64 (x.p : Int), .int .u64 (x.q : Int), .int .u64 (x.r : Int), .int .u64 (x.z : Int)] 22)) fun e W' => e = .returned (.tuple #[]) ∧ Hid (Pa base p W2 (S3 ++ (m.D.take k).flatMap eDe ++ eNs [x.a, x.b, x.c, x.d, x.e, x.f, x.g] ++ big x.ph.toNat 1 ++ eNs [x.p, x.q, x.r, x.z]) W')) := fun base p W2 k x hx V hv => by
    have t := flatMap_take_le eDe m.D (k + 1)
    rw [← fm_snoc eDe m.D k x hx, List.length_append] at t
    have te := congrArg List.length (show eDe x = eNs [x.a, x.b, x.c, x.d, x.e, x.f, x.g] ++ big x.ph.toNat 1 ++ eNs [x.p, x.q, x.r, x.z] ++ (numB x.t.size ++ strB x.t) from rfl)
    simp only [List.length_append] at te
    exact pnums_new hv [x.p, x.q, x.r, x.z] (gd.d x (List.mem_of_getElem? hx)).p rfl (by simp) rfl rfl (by simp only [List.length_append]; omega)
  have E3 : Hid (∀ base p (W2 : World) k x, m.D[k]? = some x → ∀ V, Pa base p W2 (S3 ++ (m.D.take k).flatMap eDe ++ eNs [x.a, x.b, x.c, x.d, x.e, x.f, x.g] ++ big x.ph.toNat 1 ++ eNs [x.p, x.q, x.r, x.z]) V → Calls Tryz.prog 31 #[.pointer (some ⟨p, 0, none⟩), .slice (some ⟨V.heap.size, 0, none⟩) x.t.size (grownCap V x.t.size 0 5)] (Go.Lib.bytesWorld V 5 x.t) fun e W' => e = .returned (.tuple #[]) ∧ Hid (Pa base p W2 (S3 ++ (m.D.take (k + 1)).flatMap eDe) W')) := fun base p W2 k x hx V hv => by
    have t := flatMap_take_le eDe m.D (k + 1)
    rw [← fm_snoc eDe m.D k x hx, List.length_append] at t
    have te := congrArg List.length (show eDe x = eNs [x.a, x.b, x.c, x.d, x.e, x.f, x.g] ++ big x.ph.toNat 1 ++ eNs [x.p, x.q, x.r, x.z] ++ (numB x.t.size ++ strB x.t) from rfl)
    simp only [List.length_append] at te
    have e : S3 ++ (m.D.take (k + 1)).flatMap eDe = S3 ++ (m.D.take k).flatMap eDe ++ eNs [x.a, x.b, x.c, x.d, x.e, x.f, x.g] ++ big x.ph.toNat 1 ++ eNs [x.p, x.q, x.r, x.z] ++ (numB x.t.size ++ strB x.t) := by
      rw [← fm_snoc eDe m.D k x hx]
      unfold eDe
      simp only [List.append_assoc]
    rw [e]
    refine penBlob_any (hv.quiet (bytesW_below V 5 x.t)) _ (strB x.t) (bytesW_shows V x.t (by have := (gd.d x (List.mem_of_getElem? hx)).t; omega)) (fun b off h0 e => ?_) (by simp only [List.length_append]; omega)
    cases e
    refine ⟨by rw [Go.Lib.bytesWorld_size]; omega, fun hf => ?_⟩
    have := (hv.k.foot ((Foot.old (bytesW_below V 5 x.t) hv.k.lt).1 hf)).2
    omega
  have E4 : Hid (∀ base p (W2 : World) k x, m.S[k]? = some x → ∀ V, Pa base p W2 (S5 ++ (m.S.take k).flatMap eSn) V → Calls Tryz.prog 29 #[.pointer (some ⟨p, 0, none⟩), .slice (some ⟨V.heap.size, 0, none⟩) 4 4] (V.alloc (.cells #[.int .u64 (x.cl : Int), .int .u64 (x.sq : Int), .int .u64 (x.st : Int), .int .u64 x.cd] 22)) fun e W' => e = .returned (.tuple #[]) ∧ Hid (Pa base p W2 (S5 ++ (m.S.take k).flatMap eSn ++ eNs [x.cl, x.sq, x.st, x.cd.toNat]) W')) := fun base p W2 k x hx V hv => by
    have t := flatMap_take_le eSn m.S (k + 1)
    rw [← fm_snoc eSn m.S k x hx, List.length_append] at t
    have te := congrArg List.length (show eSn x = eNs [x.cl, x.sq, x.st, x.cd.toNat] ++ (numB x.D.length ++ x.D) from rfl)
    simp only [List.length_append] at te
    have hcd : ((x.cd.toNat : Nat) : Int) = x.cd := by have := (gd.s x (List.mem_of_getElem? hx)).k; omega
    exact pnums_new hv [x.cl, x.sq, x.st, x.cd.toNat] (gd.s x (List.mem_of_getElem? hx)).a rfl (by simp) (by simp only [nvs, List.map_cons, List.map_nil, hcd]) rfl (by simp only [List.length_append]; omega)
  have E5 : Hid (∀ base p (W2 : World) k x, m.S[k]? = some x → ∀ V, Pa base p W2 (S5 ++ (m.S.take k).flatMap eSn ++ eNs [x.cl, x.sq, x.st, x.cd.toNat]) V → m.Lr p V → Calls Tryz.prog 31 #[.pointer (some ⟨p, 0, none⟩), .slice x.co x.cn x.cc] V fun e W' => e = .returned (.tuple #[]) ∧ Hid (Pa base p W2 (S5 ++ (m.S.take (k + 1)).flatMap eSn) W')) := fun base p W2 k x hx V hv hl => by
    have t := flatMap_take_le eSn m.S (k + 1)
    rw [← fm_snoc eSn m.S k x hx, List.length_append] at t
    have te := congrArg List.length (show eSn x = eNs [x.cl, x.sq, x.st, x.cd.toNat] ++ (numB x.D.length ++ x.D) from rfl)
    simp only [List.length_append] at te
    have hcn := hr.c x (List.mem_of_getElem? hx)
    have e : S5 ++ (m.S.take (k + 1)).flatMap eSn = S5 ++ (m.S.take k).flatMap eSn ++ eNs [x.cl, x.sq, x.st, x.cd.toNat] ++ (numB x.cn ++ x.D) := by
      rw [← fm_snoc eSn m.S k x hx, hcn]
      unfold eSn
      simp only [List.append_assoc]
    rw [e]
    refine penBlob_any hv _ x.D (hl.n x (List.mem_of_getElem? hx)) (fun b off h0 e => ?_) (by rw [hcn]; simp only [List.length_append]; omega)
    obtain ⟨-, -, -, -, b', off', h5, h6, -⟩ := hl.n x (List.mem_of_getElem? hx)
    have e5 := h5 h0
    rw [e] at e5
    cases e5
    refine ⟨Nat.lt_trans (h6 h0) hv.k.lt, fun hf => ?_⟩
    have := (hv.k.foot hf).1
    have := h6 h0
    omega
  have T0 : Hid (∀ base p w0 V, Pa base p w0 S3 V → Pa base p w0 (S3 ++ (m.D.take 0).flatMap eDe) V) := fun base p w0 V hv => by simpa using hv
  have T1 : Hid (∀ base p w0 V, Pa base p w0 (S3 ++ (m.D.take m.dn).flatMap eDe) V → Pa base p w0 S4 V) := fun base p w0 V hv => by
    rw [List.take_of_length_le (by have := h.d.len; omega), hS4] at hv
    exact hv
  have T2 : Hid (∀ base p w0 V, Pa base p w0 S5 V → Pa base p w0 (S5 ++ (m.S.take 0).flatMap eSn) V) := fun base p w0 V hv => by simpa using hv
  have T3 : Hid (∀ base p w0 V, Pa base p w0 (S5 ++ (m.S.take m.sn).flatMap eSn) V → Pa base p w0 ([81, 83, 78, 80, 1] ++ m.enc) V) := fun base p w0 V hv => by
    rw [List.take_of_length_le (by have := h.s.row.len; omega), hFE] at hv
    exact hv
  have EK : Hid (∀ x ∈ m.D, IntKind.u8.wrap x.ph = x.ph) := fun x hx => by have := (gd.d x hx).k; rw [IntKind.wrap_u8]; omega
  have ES : Hid (∀ x ∈ m.S, IntKind.u64.wrap x.cd = x.cd) := fun x hx => by have := (gd.s x hx).k; simp [IntKind.wrap, IntKind.bits, IntKind.signed]; omega
  have HCV : Hid (∀ (x : De) V, (convert 9 36 (.string x.t)).run Tryz.prog V = .ok (.slice (some ⟨V.heap.size, 0, none⟩) x.t.size (grownCap V x.t.size 0 5)) (Go.Lib.bytesWorld V 5 x.t)) := fun x V => Go.Lib.run_convert_string_bytes (P := Tryz.prog) V 9 36 5 x.t (u := .string) Tryz.underlying9 Tryz.underlying36 Tryz.underlying5
  have hcd : IntKind.u64.wrap (m.dn : Int) = (m.dn : Int) := by simp [IntKind.wrap, IntKind.bits, IntKind.signed]; omega
  have hcs : IntKind.u64.wrap (m.sn : Int) = (m.sn : Int) := by simp [IntKind.wrap, IntKind.bits, IntKind.signed]; omega
  clear e1 e2 e3 s0 b1 q1 q2 hW1 h hb hp hr fit gd hEL hS0 hS1 hS2 hS3 hS4 hS5 hFE hm z0 z1 z2 z3 z4 z5
  generalize m.part = pt at *
  generalize [81, 83, 78, 80, 1] ++ m.enc = BY at *
  go_enter Tryz.func8, Tryz.ntmps8
  go_upto_region 1 with fail
  rw [HW1.out]
  have x0 := block_cell Q1.out 0
  have x1 := block_cell Q1.out 1
  have x2 := block_cell Q1.out 2
  have x3 := block_cell Q1.out 3
  have x4 := block_cell Q1.out 4
  have x5 := block_cell Q1.out 5
  have x6 := block_cell Q1.out 6
  have x7 := block_cell Q1.out 7
  have x8 := block_cell Q1.out 8
  have x9 := block_cell Q1.out 9
  simp at x0 x1 x2 x3 x4 x5 x6 x7 x8 x9
  have hlt := block_lt Q1.out
  go_wp2_with fail
  refine RP.out.mono ?_
  rintro e W2 ⟨rfl, G2⟩
  clear hlt x0 x1 x2 x3 x4 x5 x6 x7 x8 x9
  have B2 := hide (below_trans1 B1.out G2.out)
  have LR2 := hide (vw_lr HSM.out (VW.out.below G2.out))
  have I2 := hide ((G2.out.block _ (block_lt Q1.out)).trans Q1.out)
  have R2 := hide ((G2.out.block _ (block_lt Q2.out)).trans Q2.out)
  obtain ⟨p, hp⟩ : ∃ p, p = W2.heap.size := ⟨_, rfl⟩
  obtain ⟨W3, hW3⟩ : ∃ W3, W2.alloc (.cells #[.slice none 0 0] 81) = W3 := ⟨_, rfl⟩
  have PE := hide (pe_new W2)
  rw [hW3, ← hp] at PE
  have B23 : Hid (Below p W2 W3) := by rw [← hW3, hp]; exact (Below.refl _ _).alloc (Nat.le_refl _) _
  have A3 := hide (Pa.start PE.out)
  have BP : Hid (∀ L' V, Pa (p + 1) p W3 L' V → Below p W2 V) := fun L' V hv => B23.out.trans (Pa.below PE.out hv)
  have HP := hide hp
  have HBP : Hid (w.heap.size + 1 < p) := by have := block_lt R2.out; rw [← hp] at this; exact this
  have FR : Hid (∀ L' V, Pa (p + 1) p W3 L' V → V.heap[w.heap.size]? = some (.cells #[.int .u64 (m.slot : Int), .int .u64 (m.now : Int), .int .u64 (m.tot : Int), .int .u64 (m.nx : Int), .slice m.ao m.an m.ac, .slice m.ho m.hn m.hc, .slice m.jo m.jn m.jc, .slice m.dO m.dn m.dc, .int .u64 (m.ends : Int), .slice m.so m.sn m.sc] 33 (0, 0))) := fun L' V hv => ((BP.out L' V hv).block _ (by have := HBP.out; omega)).trans I2.out
  have LW : Hid (∀ L' V, Pa (p + 1) p W3 L' V → m.Lr p V) := fun L' V hv => by
    have q := LR2.out
    rw [← HP.out] at q
    exact q.deep (BP.out L' V hv)
  have PL : Hid (∀ V L', Pa (p + 1) p W3 L' V → p < V.heap.size) := fun V L' hv => hv.k.lt
  have HW3 := hide hW3
  clear RP Q1 HW1 Q2 VW HSM B1 hW3
  go_upto_region 5 with fail
  rw [HW3.out]
  rw [← hp]
  clear hp
  go_wp2_with fail
  refine (NB.out _ _ _ _ A3.out).mono ?_
  rintro e v0 ⟨rfl, H0⟩
  have q := FR.out _ _ H0.out
  have x0 := block_cell q 0
  have x1 := block_cell q 1
  simp at x0 x1
  have hlt := block_lt q
  clear q
  go_wp2_with fail
  refine (N0.out _ _ _ _ H0.out).mono ?_
  rintro e v1 ⟨rfl, H1⟩
  clear hlt x0 x1
  have q := FR.out _ _ H1.out
  have x2 := block_cell q 2
  have x3 := block_cell q 3
  have x4 := block_cell q 4
  have x5 := block_cell q 5
  have x6 := block_cell q 6
  simp at x2 x3 x4 x5 x6
  have hlt := block_lt q
  clear q
  go_wp2_with fail
  refine (N1.out _ _ _ _ H1.out (LW.out _ _ H1.out)).mono ?_
  rintro e v2 ⟨rfl, H2⟩
  clear hlt x2 x3 x4 x5 x6
  have q := FR.out _ _ H2.out
  have x7 := block_cell q 7
  have x8 := block_cell q 8
  simp at x7 x8
  have hlt := block_lt q
  clear q
  go_wp2_with fail
  refine (N2.out _ _ _ _ H2.out).mono ?_
  rintro e v3 ⟨rfl, H3⟩
  clear hlt x7 x8
  have ST0 := hide (T0.out _ _ _ _ H3.out)
  have q := FR.out _ _ ST0.out
  have x7 := block_cell q 7
  simp at x7
  have hlt := block_lt q
  clear q
  go_wp2
  clear hlt x7
  go_loopw [6] (fun i wr => ∃ k : Nat, k ≤ m.dn ∧ i = .int .i64 k ∧ Hid (Pa (p + 1) p W3 (S3 ++ (m.D.take k).flatMap eDe) wr)) (fun i _ => m.dn - (intOf i).toNat)
  case atStart => exact ⟨0, by omega, rfl, ST0.out⟩
  case round =>
    obtain ⟨k, hk, rfl, HS⟩ := hrel
    clear ST0
    have q := FR.out _ _ HS.out
    have x7 := block_cell q 7
    simp at x7
    have hlt := block_lt q
    clear q
    by_cases hlk : k < m.dn
    · obtain ⟨x, hx⟩ : ∃ x, m.D[k]? = some x := ⟨_, List.getElem?_eq_getElem (by rw [HLD.out]; exact hlk)⟩
      obtain ⟨b, off, hao, hbp, hc⟩ := (LW.out _ _ HS.out).d.look hx
      have c0 := hc 0 _ rfl
      have c1 := hc 1 _ rfl
      have c2 := hc 2 _ rfl
      have c3 := hc 3 _ rfl
      have c4 := hc 4 _ rfl
      have c5 := hc 5 _ rfl
      have c6 := hc 6 _ rfl
      have c7 := hc 7 _ rfl
      have c8 := hc 8 _ rfl
      have c9 := hc 9 _ rfl
      have c10 := hc 10 _ rfl
      have c11 := hc 11 _ rfl
      have c12 := hc 12 _ rfl
      simp only [Nat.add_zero] at c0
      rw [hao] at x7
      clear hao
      have hbw : b < wr.heap.size := Nat.lt_trans hbp (PL.out _ _ HS.out)
      obtain ⟨V2, hV2⟩ : ∃ V2, wr.alloc (.cells #[.int .u64 (x.a : Int), .int .u64 (x.b : Int), .int .u64 (x.c : Int), .int .u64 (x.d : Int), .int .u64 (x.e : Int), .int .u64 (x.f : Int), .int .u64 (x.g : Int), .int .i64 x.ph, .int .u64 (x.p : Int), .int .u64 (x.q : Int), .int .u64 (x.r : Int), .int .u64 (x.z : Int), .string x.t] 58) = V2 := ⟨_, rfl⟩
      have K2 : Hid (Pa (p + 1) p V2 (S3 ++ (m.D.take k).flatMap eDe) V2) := by rw [← hV2]; exact Pa.start (HS.out.k.quiet ((Below.refl _ wr).alloc (Nat.le_refl _) _))
      have FE : Hid (∀ L' V, Pa (p + 1) p V2 L' V → V.heap[wr.heap.size]? = some (.cells #[.int .u64 (x.a : Int), .int .u64 (x.b : Int), .int .u64 (x.c : Int), .int .u64 (x.d : Int), .int .u64 (x.e : Int), .int .u64 (x.f : Int), .int .u64 (x.g : Int), .int .i64 x.ph, .int .u64 (x.p : Int), .int .u64 (x.q : Int), .int .u64 (x.r : Int), .int .u64 (x.z : Int), .string x.t] 58 (0, 0)) ∧ Pa (p + 1) p W3 L' V) := fun L' V hv => ⟨HS.out.k.box (by rw [hV2]; exact hv), HS.out.trans (HS.out.k.from_ (by rw [hV2]; exact hv))⟩
      have HV2 := hide hV2
      have C0 := hide (E0.out (p + 1) p V2 k x hx)
      have C1 := hide (E1.out (p + 1) p V2 k x hx)
      have C2 := hide (E2.out (p + 1) p V2 k x hx)
      have C3 := hide (E3.out (p + 1) p V2 k x hx)
      have hw8 := EK.out x (List.mem_of_getElem? hx)
      clear hV2 hc hx
      go_upto_region 13 with fail
      rw [HV2.out]
      clear hbw hlt x7 c0 c1 c2 c3 c4 c5 c6 c7 c8 c9 c10 c11 c12
      have q := (FE.out _ _ K2.out).1
      have y0 := block_cell q 0
      have y1 := block_cell q 1
      have y2 := block_cell q 2
      have y3 := block_cell q 3
      have y4 := block_cell q 4
      have y5 := block_cell q 5
      have y6 := block_cell q 6
      simp at y0 y1 y2 y3 y4 y5 y6
      have hly := block_lt q
      clear q
      go_wp2_with fail
      refine (C0.out _ K2.out).mono ?_
      rintro e u0 ⟨rfl, D0⟩
      clear hly y0 y1 y2 y3 y4 y5 y6
      have q := (FE.out _ _ D0.out).1
      have y7 := block_cell q 7
      simp at y7
      have hly := block_lt q
      clear q
      go_wp2_with fail
      refine (C1.out _ D0.out).mono ?_
      rintro e u1 ⟨rfl, D1⟩
      clear hly y7
      have q := (FE.out _ _ D1.out).1
      have y8 := block_cell q 8
      have y9 := block_cell q 9
      have y10 := block_cell q 10
      have y11 := block_cell q 11
      simp at y8 y9 y10 y11
      have hly := block_lt q
      clear q
      go_wp2_with fail
      refine (C2.out _ D1.out).mono ?_
      rintro e u2 ⟨rfl, D2⟩
      clear hly y8 y9 y10 y11
      have q := (FE.out _ _ D2.out).1
      have y12 := block_cell q 12
      simp at y12
      have hly := block_lt q
      clear q
      have hcv := HCV.out x u2
      go_wp2_with fail
      refine (C3.out _ D2.out).mono ?_
      rintro e u3 ⟨rfl, D3⟩
      clear hcv
      go_wp2
      go_roundw
      case rel => exact ⟨k + 1, by omega, by go_num, (FE.out _ _ D3.out).2⟩
      case measure => simp [intOf]; omega
    · obtain rfl : k = m.dn := by omega
      have SN0 := hide (T1.out _ _ _ _ HS.out)
      clear hlt x7
      have q := FR.out _ _ SN0.out
      have x7 := block_cell q 7
      have x9 := block_cell q 9
      simp at x7 x9
      have hlt := block_lt q
      clear q
      clear HS
      go_wp2_with fail
      refine (N3.out _ _ _ _ SN0.out).mono ?_
      rintro e v4 ⟨rfl, H4⟩
      clear hlt x7 x9
      have ST1 := hide (T2.out _ _ _ _ H4.out)
      have q := FR.out _ _ ST1.out
      have x9 := block_cell q 9
      simp at x9
      have hlt := block_lt q
      clear q
      go_wp2
      clear hlt x9
      go_loopw [8] (fun i wr => ∃ k : Nat, k ≤ m.sn ∧ i = .int .i64 k ∧ Hid (Pa (p + 1) p W3 (S5 ++ (m.S.take k).flatMap eSn) wr)) (fun i _ => m.sn - (intOf i).toNat)
      case atStart => exact ⟨0, by omega, rfl, ST1.out⟩
      case round =>
        obtain ⟨k, hk, rfl, HS⟩ := hrel
        clear ST1
        have q := FR.out _ _ HS.out
        have x9 := block_cell q 9
        simp at x9
        have hlt := block_lt q
        clear q
        by_cases hlk : k < m.sn
        · obtain ⟨x, hx⟩ : ∃ x, m.S[k]? = some x := ⟨_, List.getElem?_eq_getElem (by rw [HLS.out]; exact hlk)⟩
          obtain ⟨b, off, hao, hbp, hc⟩ := (LW.out _ _ HS.out).s.look hx
          have c0 := hc 0 _ rfl
          have c1 := hc 1 _ rfl
          have c2 := hc 2 _ rfl
          have c3 := hc 3 _ rfl
          have c4 := hc 4 _ rfl
          simp only [Nat.add_zero] at c0
          rw [hao] at x9
          clear hao
          have hbw : b < wr.heap.size := Nat.lt_trans hbp (PL.out _ _ HS.out)
          obtain ⟨V2, hV2⟩ : ∃ V2, wr.alloc (.cells #[.int .u64 (x.cl : Int), .int .u64 (x.sq : Int), .int .u64 (x.st : Int), .int .i64 x.cd, .slice x.co x.cn x.cc] 61) = V2 := ⟨_, rfl⟩
          have K2 : Hid (Pa (p + 1) p V2 (S5 ++ (m.S.take k).flatMap eSn) V2) := by rw [← hV2]; exact Pa.start (HS.out.k.quiet ((Below.refl _ wr).alloc (Nat.le_refl _) _))
          have FE : Hid (∀ L' V, Pa (p + 1) p V2 L' V → V.heap[wr.heap.size]? = some (.cells #[.int .u64 (x.cl : Int), .int .u64 (x.sq : Int), .int .u64 (x.st : Int), .int .i64 x.cd, .slice x.co x.cn x.cc] 61 (0, 0)) ∧ Pa (p + 1) p W3 L' V) := fun L' V hv => ⟨HS.out.k.box (by rw [hV2]; exact hv), HS.out.trans (HS.out.k.from_ (by rw [hV2]; exact hv))⟩
          have HV2 := hide hV2
          have C0 := hide (E4.out (p + 1) p V2 k x hx)
          have C1 := hide (E5.out (p + 1) p V2 k x hx)
          have hw64 := ES.out x (List.mem_of_getElem? hx)
          clear hV2 hc hx
          go_upto_region 22 with fail
          rw [HV2.out]
          clear hbw hlt x9 c0 c1 c2 c3 c4
          have q := (FE.out _ _ K2.out).1
          have y0 := block_cell q 0
          have y1 := block_cell q 1
          have y2 := block_cell q 2
          have y3 := block_cell q 3
          simp at y0 y1 y2 y3
          have hly := block_lt q
          clear q
          go_wp2_with fail
          refine (C0.out _ K2.out).mono ?_
          rintro e u0 ⟨rfl, D0⟩
          clear hly y0 y1 y2 y3
          have q := (FE.out _ _ D0.out).1
          have y4 := block_cell q 4
          simp at y4
          have hly := block_lt q
          clear q
          go_wp2_with fail
          refine (C1.out _ D0.out (LW.out _ _ (FE.out _ _ D0.out).2)).mono ?_
          rintro e u1 ⟨rfl, D1⟩
          go_wp2
          go_roundw
          case rel => exact ⟨k + 1, by omega, by go_num, (FE.out _ _ D1.out).2⟩
          case measure => simp [intOf]; omega
        · obtain rfl : k = m.sn := by omega
          have SN1 := hide (T3.out _ _ _ _ HS.out)
          clear hlt x9
          obtain ⟨vv, hb, hO, hne⟩ := SN1.out.k.wr
          obtain ⟨ro, rc, rfl, -, -⟩ := hO.form
          have cp := block_cell hb 0
          simp at cp
          have hpw := block_lt hb
          have BW := hide (B2.out.trans ((BP.out _ _ SN1.out).mono (by have := HP.out; have := B2.out.size; omega)))
          have RB := hide (((BP.out _ _ SN1.out).block _ HBP.out).trans R2.out)
          have OO := hide (And.intro hO hb)
          have q := FR.out _ _ SN1.out
          have x9 := block_cell q 9
          simp at x9
          have hlt := block_lt q
          have HNN : Hid (∀ W, Calls Tryz.prog 32 #[] W (FvP W [] 0)) := fun W => none0 W
          unfold FvP at HNN
          have SBC : Hid (∀ V, Below wr.heap.size wr V → V.cell? ⟨p, 0, none⟩ = some (.slice ro BY.length rc)) := fun V hv => (hv.cell (p := ⟨p, 0, none⟩) hpw).trans cp
          have SDR : Hid ((fun V : World => V.cell? ⟨p, 0, none⟩ = some (.slice ro BY.length rc)) wr.drew) := SBC.out _ (Go.below_drewN (Below.refl _ _) 1)
          have hn1 : w.heap.size + 1 ≠ p := by have := HBP.out; omega
          have SK : Hid (∀ (V : World) (j : Nat) (u : Value), (fun V : World => V.cell? ⟨p, 0, none⟩ = some (.slice ro BY.length rc)) V → (fun V : World => V.cell? ⟨p, 0, none⟩ = some (.slice ro BY.length rc)) (V.setCell ⟨w.heap.size + 1, j, none⟩ u)) := fun V j u hV => (World.cell?_setCell_far V ⟨w.heap.size + 1, j, none⟩ ⟨p, 0, none⟩ u (by simpa using hn1)).trans hV
          have FINX : Hid (∀ (V : World), Below wr.heap.size wr V → ∀ u0 u1 fo, Owns w.heap.size ((V.setCell ⟨w.heap.size + 1, 0, none⟩ u0).setCell ⟨w.heap.size + 1, 1, none⟩ u1) (.slice ro BY.length rc) BY ∧ (∃ b off, FV ((V.setCell ⟨w.heap.size + 1, 0, none⟩ u0).setCell ⟨w.heap.size + 1, 1, none⟩ u1).heap.size ((V.setCell ⟨w.heap.size + 1, 0, none⟩ u0).setCell ⟨w.heap.size + 1, 1, none⟩ u1) fo [] b off) ∧ Below w.heap.size w ((V.setCell ⟨w.heap.size + 1, 0, none⟩ u0).setCell ⟨w.heap.size + 1, 1, none⟩ u1)) := fun V hv u0 u1 fo => by
            have hne1 : (Value.slice ro BY.length rc).ownBlock ≠ some (w.heap.size + 1) := fun e => by have := (hO.1.lt _ e).1; have := HBP.out; omega
            have o1 : Owns (p + 1) V (.slice ro BY.length rc) BY := ⟨hO.1.kept (below_none hv) (by cases (Value.slice ro BY.length rc).ownBlock <;> simp), hO.2⟩
            have o2 : Owns (p + 1) ((V.setCell ⟨w.heap.size + 1, 0, none⟩ u0).setCell ⟨w.heap.size + 1, 1, none⟩ u1) (.slice ro BY.length rc) BY := ⟨(o1.1.kept (grown_set V _ 0 u0) (.inr hne1)).kept (grown_set _ _ 1 u1) (.inr hne1), hO.2⟩
            exact ⟨o2.lower (by have := HBP.out; omega), ⟨0, 0, FV.nil _ _ _ _ _⟩, ((BW.out.trans (hv.mono BW.out.size)).setCell (p := ⟨w.heap.size + 1, 0, none⟩) (Nat.le_succ _) _).setCell (p := ⟨w.heap.size + 1, 1, none⟩) (Nat.le_succ _) _⟩
          clear hb hO hne q SN1 HS LW FR BP PL OO BW
          generalize BY.length = bn at *
          go_upto_region 24 with fail
          clear x9 hlt
          go_region_held (fun V : World => V.cell? ⟨p, 0, none⟩ = some (.slice ro bn rc)) (first | with_reducible exact SDR.out | with_reducible exact SBC.out _ HB8.out | (repeat (first | with_reducible assumption | with_reducible refine SK.out _ _ _ ?_)))
            (first
              | (go_at_call 32; refine (HNN.out _).mono ?_; rintro e w8 ⟨ao4, cap4, rfl, G⟩; obtain ⟨bb, off, hf, hb⟩ := G.out; have HB8 : Hid (Below wr.heap.size wr w8) := ⟨hb.os, hb.tape, hb.output, hb.size, hb.block⟩; have r8 := (HB8.out.block _ (block_lt RB.out)).trans RB.out; have y0 := block_cell r8 0; have y1 := block_cell r8 1; have g0 := block_free r8 0; have g1 := block_free r8 1; have hl8 := block_lt r8; simp at y0 y1; clear r8 G hb hf))
          all_goals go_wp2
          all_goals refine bodyPost_ret (v := .tuple #[.slice ro bn rc, .agg #[.slice ao4 0 cap4, .int .i64 0]]) (by simp [results, Tryz.results8, go_sem, y0, y1]) rfl ?_
          all_goals exact ⟨ro, bn, rc, ao4, cap4, rfl, FINX.out _ HB8.out _ _ _⟩
end Go.Proofs.YtiijbboigebhcaaGreatDoor
