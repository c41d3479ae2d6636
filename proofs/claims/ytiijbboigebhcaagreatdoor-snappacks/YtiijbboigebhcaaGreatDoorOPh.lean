import Derived.Deep.DeepCutAuto
import Derived.Test.YtiijbboigebhcaaGreatDoorM40
import Derived.Test.YtiijbboigebhcaaGreatDoorOPk
namespace Go.Proofs.YtiijbboigebhcaaGreatDoor
open Go.RowKit Crc

theorem fm_snoc {α : Type} (e : α → List Nat) (L : List α) (k : Nat) (x : α) (h : L[k]? = some x) : (L.take k).flatMap e ++ e x = (L.take (k + 1)).flatMap e := by
  rw [List.take_add_one, h]
  simp
/-- A row's element as it lies, in any later world. -/
theorem Rs.look {α : Type} {lim : Nat} {w : World} {z : Nat} {f : α → List Value} {ao : Option Addr} {n : Nat} {L : List α} (h : Rs lim w z f ao n L) {i : Nat} {x : α} (hx : L[i]? = some x) : ∃ b off, ao = some ⟨b, off, none⟩ ∧ b < lim ∧ ∀ j u, (f x)[j]? = some u → w.cell? ⟨b, off + i * z + j, none⟩ = some u := by
  obtain ⟨b, off, h1, h2⟩ := h.at_
  have hi := (List.getElem?_eq_some_iff.1 hx).1
  have h3 := h1 (by have := h.len; omega)
  exact ⟨b, off, h3.1, h3.2, h2 i x hx⟩
/-- An image whose lists lie below the pen, wherever. -/
structure Mi.Lr (p : Nat) (W : World) (m : Mi) : Prop where
  a : Rs p W 4 Ac.cells m.ao m.an m.A
  h : Rs p W 3 Ho.cells m.ho m.hn m.H
  j : Rs p W 5 En.cells m.jo m.jn m.J
  d : Rs p W 13 De.cells m.dO m.dn m.D
  s : Rs p W 5 Sn.cells m.so m.sn m.S
  n : ∀ x ∈ m.S, Shows p W x.co x.cn x.cc x.D
theorem Mi.Lr.deep {p : Nat} {W W' : World} {m : Mi} (h : m.Lr p W) (hb : Below p W W') : m.Lr p W' := ⟨h.a.deep hb, h.h.deep hb, h.j.deep hb, h.d.deep hb, h.s.deep hb, fun x hx => (h.n x hx).deep hb⟩
theorem eNs_two (x y z : Nat) : eNs [x, y, z] = eNs [x, y] ++ numB z := by simp [eNs]
theorem eNs_one (x : Nat) : eNs [x] = numB x := by simp [eNs]
set_option maxRecDepth 10000 in
set_option maxHeartbeats 3200000 in
theorem penBook_any {base p : Nat} {w W : World} {L : List Nat} (h : Pa base p w L W) (m : Mi) (hl : m.Lr p W) (hok : m.Gd) (hm : (L ++ eBk m.tot m.nx m.A m.H m.J).length ≤ 1000000) : Calls Tryz.prog 30 #[.pointer (some ⟨p, 0, none⟩), .agg #[.int .u64 (m.tot : Int), .int .u64 (m.nx : Int), .slice m.ao m.an m.ac, .slice m.ho m.hn m.hc, .slice m.jo m.jn m.jc]] W fun e W' => e = .returned (.tuple #[]) ∧ Hid (Pa base p w (L ++ eBk m.tot m.nx m.A m.H m.J) W') := by
  obtain ⟨W1, hW1⟩ : ∃ W1, W.alloc (.cells #[.int .u64 (m.tot : Int), .int .u64 (m.nx : Int), .slice m.ao m.an m.ac, .slice m.ho m.hn m.hc, .slice m.jo m.jn m.jc] 27) = W1 := ⟨_, rfl⟩
  have b1 : Below W.heap.size W W1 := by rw [← hW1]; exact (Below.refl _ W).alloc (Nat.le_refl _) _
  have k1 : Pe base p L W1 := h.k.quiet b1
  have A1 := hide (Pa.start k1)
  have LW : Hid (∀ L' V, Pa base p W1 L' V → m.Lr p V) := fun L' V hv => (hl.deep (b1.mono (Nat.le_of_lt h.k.lt))).deep (Pa.below k1 hv)
  have FR : Hid (∀ L' V, Pa base p W1 L' V → V.heap[W.heap.size]? = some (.cells #[.int .u64 (m.tot : Int), .int .u64 (m.nx : Int), .slice m.ao m.an m.ac, .slice m.ho m.hn m.hc, .slice m.jo m.jn m.jc] 27 (0, 0)) ∧ Pa base p w L' V) := fun L' V hv => ⟨h.k.box (by rw [hW1]; exact hv), h.trans (h.k.from_ (by rw [hW1]; exact hv))⟩
  have ha := hl.a.le
  have hh := hl.h.le
  have hj := hl.j.le
  have HLA := hide hl.a.len
  have HLH := hide hl.h.len
  have HLJ := hide hl.j.len
  have PL : Hid (∀ V L', Pa base p W1 L' V → p < V.heap.size) := fun V L' hv => hv.k.lt
  obtain ⟨S1, hS1⟩ : ∃ S1, L ++ eNs [m.tot, m.nx, m.an] = S1 := ⟨_, rfl⟩
  obtain ⟨S2, hS2⟩ : ∃ S2, S1 ++ m.A.flatMap eAc = S2 := ⟨_, rfl⟩
  obtain ⟨S3, hS3⟩ : ∃ S3, S2 ++ eNs [m.hn] = S3 := ⟨_, rfl⟩
  obtain ⟨S4, hS4⟩ : ∃ S4, S3 ++ m.H.flatMap eHo = S4 := ⟨_, rfl⟩
  obtain ⟨S5, hS5⟩ : ∃ S5, S4 ++ eNs [m.jn] = S5 := ⟨_, rfl⟩
  have hFE : S5 ++ m.J.flatMap eEn = L ++ eBk m.tot m.nx m.A m.H m.J := by
    rw [← hS5, ← hS4, ← hS3, ← hS2, ← hS1, eNs_two, eNs_one, eNs_one, ← hl.a.len, ← hl.h.len, ← hl.j.len]
    simp only [eBk, eLs, List.append_assoc]
  rw [← hFE] at hm
  have z1 := congrArg List.length hS1
  have z2 := congrArg List.length hS2
  have z3 := congrArg List.length hS3
  have z4 := congrArg List.length hS4
  have z5 := congrArg List.length hS5
  simp only [List.length_append] at z1 z2 z3 z4 z5 hm
  have N0 : Hid (∀ V, Pa base p W1 L V → Calls Tryz.prog 29 #[.pointer (some ⟨p, 0, none⟩), .slice (some ⟨V.heap.size, 0, none⟩) 3 3] (V.alloc (.cells #[.int .u64 (m.tot : Int), .int .u64 (m.nx : Int), .int .u64 (m.an : Int)] 22)) fun e W' => e = .returned (.tuple #[]) ∧ Hid (Pa base p W1 S1 W')) := fun V hv => by
    rw [← hS1]
    exact pnums_new hv [m.tot, m.nx, m.an] (by intro v hv; simp only [List.mem_cons, List.not_mem_nil, or_false] at hv; rcases hv with rfl | rfl | rfl <;> first | exact hok.b _ (List.mem_cons_self ..) | exact hok.b _ (List.mem_cons_of_mem _ (List.mem_cons_self ..)) | (unfold u64; omega)) rfl (by simp) rfl rfl (by simp only [List.length_append]; omega)
  have N1 : Hid (∀ V, Pa base p W1 S2 V → Calls Tryz.prog 29 #[.pointer (some ⟨p, 0, none⟩), .slice (some ⟨V.heap.size, 0, none⟩) 1 1] (V.alloc (.cells #[.int .u64 (m.hn : Int)] 22)) fun e W' => e = .returned (.tuple #[]) ∧ Hid (Pa base p W1 S3 W')) := fun V hv => by
    rw [← hS3]
    exact pnums_new hv [m.hn] (by intro v hv; simp only [List.mem_cons, List.not_mem_nil, or_false] at hv; subst hv; unfold u64; omega) rfl (by simp) rfl rfl (by simp only [List.length_append]; omega)
  have N2 : Hid (∀ V, Pa base p W1 S4 V → Calls Tryz.prog 29 #[.pointer (some ⟨p, 0, none⟩), .slice (some ⟨V.heap.size, 0, none⟩) 1 1] (V.alloc (.cells #[.int .u64 (m.jn : Int)] 22)) fun e W' => e = .returned (.tuple #[]) ∧ Hid (Pa base p W1 S5 W')) := fun V hv => by
    rw [← hS5]
    exact pnums_new hv [m.jn] (by intro v hv; simp only [List.mem_cons, List.not_mem_nil, or_false] at hv; subst hv; unfold u64; omega) rfl (by simp) rfl rfl (by simp only [List.length_append]; omega)
  have E0 : Hid (∀ (W2 : World) k x, m.A[k]? = some x → ∀ V, Pa base p W2 (S1 ++ (m.A.take k).flatMap eAc) V → Calls Tryz.prog 29 #[.pointer (some ⟨p, 0, none⟩), .slice (some ⟨V.heap.size, 0, none⟩) 4 4] (V.alloc (.cells #[.int .u64 (x.a : Int), .int .u64 (x.b : Int), .int .u64 (x.c : Int), .int .u64 (x.d : Int)] 22)) fun e W' => e = .returned (.tuple #[]) ∧ Hid (Pa base p W2 (S1 ++ (m.A.take (k + 1)).flatMap eAc) W')) := fun W2 k x hx V hv => by
    have t := flatMap_take_le eAc m.A (k + 1)
    rw [← fm_snoc eAc m.A k x hx, List.length_append] at t
    rw [← fm_snoc eAc m.A k x hx, ← List.append_assoc]
    exact pnums_new hv [x.a, x.b, x.c, x.d] (hok.a x (List.mem_of_getElem? hx)) rfl (by simp) rfl rfl (by rw [List.length_append, List.length_append]; have te : (eAc x).length = (eNs [x.a, x.b, x.c, x.d]).length := rfl; omega)
  have E1 : Hid (∀ (W2 : World) k x, m.H[k]? = some x → ∀ V, Pa base p W2 (S3 ++ (m.H.take k).flatMap eHo) V → Calls Tryz.prog 29 #[.pointer (some ⟨p, 0, none⟩), .slice (some ⟨V.heap.size, 0, none⟩) 3 3] (V.alloc (.cells #[.int .u64 (x.a : Int), .int .u64 (x.b : Int), .int .u64 (x.c : Int)] 22)) fun e W' => e = .returned (.tuple #[]) ∧ Hid (Pa base p W2 (S3 ++ (m.H.take (k + 1)).flatMap eHo) W')) := fun W2 k x hx V hv => by
    have t := flatMap_take_le eHo m.H (k + 1)
    rw [← fm_snoc eHo m.H k x hx, List.length_append] at t
    rw [← fm_snoc eHo m.H k x hx, ← List.append_assoc]
    exact pnums_new hv [x.a, x.b, x.c] (hok.h x (List.mem_of_getElem? hx)) rfl (by simp) rfl rfl (by rw [List.length_append, List.length_append]; have te : (eHo x).length = (eNs [x.a, x.b, x.c]).length := rfl; omega)
  have E2 : Hid (∀ (W2 : World) k x, m.J[k]? = some x → ∀ V, Pa base p W2 (S5 ++ (m.J.take k).flatMap eEn) V → Calls Tryz.prog 29 #[.pointer (some ⟨p, 0, none⟩), .slice (some ⟨V.heap.size, 0, none⟩) 1 1] (V.alloc (.cells #[.int .u64 (x.a : Int)] 22)) fun e W' => e = .returned (.tuple #[]) ∧ Hid (Pa base p W2 (S5 ++ (m.J.take k).flatMap eEn ++ numB x.a) W')) := fun W2 k x hx V hv => by
    have t := flatMap_take_le eEn m.J (k + 1)
    rw [← fm_snoc eEn m.J k x hx, List.length_append] at t
    have te := congrArg List.length (show eEn x = numB x.a ++ big x.k.toNat 1 ++ eNs [x.b, x.c, x.d] from rfl)
    simp only [List.length_append] at te
    have q := pnums_new hv [x.a] (by intro v hv; simp only [List.mem_cons, List.not_mem_nil, or_false] at hv; subst hv; exact (hok.j x (List.mem_of_getElem? hx)).a) rfl (by simp) (o := #[.int .u64 (x.a : Int)]) rfl rfl (by rw [eNs_one]; simp only [List.length_append]; omega)
    rw [eNs_one] at q
    exact q
  have E3 : Hid (∀ (W2 : World) k x, m.J[k]? = some x → ∀ V, Pa base p W2 (S5 ++ (m.J.take k).flatMap eEn ++ numB x.a) V → Calls Tryz.prog 28 #[.pointer (some ⟨p, 0, none⟩), .slice (some ⟨V.heap.size, 0, none⟩) 1 1] (V.alloc (.cells #[.int .u8 x.k] 5)) fun e W' => e = .returned (.tuple #[]) ∧ Hid (Pa base p W2 (S5 ++ (m.J.take k).flatMap eEn ++ numB x.a ++ big x.k.toNat 1) W')) := fun W2 k x hx V hv => by
    have t := flatMap_take_le eEn m.J (k + 1)
    rw [← fm_snoc eEn m.J k x hx, List.length_append] at t
    have te := congrArg List.length (show eEn x = numB x.a ++ big x.k.toNat 1 ++ eNs [x.b, x.c, x.d] from rfl)
    simp only [List.length_append] at te
    have hk := (hok.j x (List.mem_of_getElem? hx)).k
    have e1 : big x.k.toNat 1 = [x.k.toNat] := by simp [big, bigTo]; omega
    rw [e1]
    rw [e1] at te
    exact pbytes_new hv [x.k.toNat] (by intro v hv; simp only [List.mem_cons, List.not_mem_nil, or_false] at hv; subst hv; omega) rfl (by simp) (by simp [vals]; omega) rfl (by simp only [List.length_append, List.length_cons, List.length_nil] at te ⊢; omega)
  have E4 : Hid (∀ (W2 : World) k x, m.J[k]? = some x → ∀ V, Pa base p W2 (S5 ++ (m.J.take k).flatMap eEn ++ numB x.a ++ big x.k.toNat 1) V → Calls Tryz.prog 29 #[.pointer (some ⟨p, 0, none⟩), .slice (some ⟨V.heap.size, 0, none⟩) 3 3] (V.alloc (.cells #[.int .u64 (x.b : Int), .int .u64 (x.c : Int), .int .u64 (x.d : Int)] 22)) fun e W' => e = .returned (.tuple #[]) ∧ Hid (Pa base p W2 (S5 ++ (m.J.take (k + 1)).flatMap eEn) W')) := fun W2 k x hx V hv => by
    have t := flatMap_take_le eEn m.J (k + 1)
    rw [← fm_snoc eEn m.J k x hx, List.length_append] at t
    have e : S5 ++ (m.J.take (k + 1)).flatMap eEn = S5 ++ (m.J.take k).flatMap eEn ++ numB x.a ++ big x.k.toNat 1 ++ eNs [x.b, x.c, x.d] := by
      rw [← fm_snoc eEn m.J k x hx]
      unfold eEn
      simp only [List.append_assoc]
    have t2 := congrArg List.length e
    rw [← fm_snoc eEn m.J k x hx, List.length_append, List.length_append] at t2
    rw [e]
    exact pnums_new hv [x.b, x.c, x.d] (hok.j x (List.mem_of_getElem? hx)).b rfl (by simp) rfl rfl (by rw [← t2]; omega)
  have HFI : Hid (∀ V, Pa base p W1 (S5 ++ (m.J.take m.jn).flatMap eEn) V → Pa base p w (L ++ eBk m.tot m.nx m.A m.H m.J) V) := fun V hv => by
    rw [List.take_of_length_le (by have := hl.j.len; omega), hFE] at hv
    exact (FR.out _ _ hv).2
  have T0 : Hid (∀ V, Pa base p W1 S1 V → Pa base p W1 (S1 ++ (m.A.take 0).flatMap eAc) V) := fun V hv => by simpa using hv
  have T1 : Hid (∀ V, Pa base p W1 (S1 ++ (m.A.take m.an).flatMap eAc) V → Pa base p W1 S2 V) := fun V hv => by
    rw [List.take_of_length_le (by have := hl.a.len; omega), hS2] at hv
    exact hv
  have T2 : Hid (∀ V, Pa base p W1 S3 V → Pa base p W1 (S3 ++ (m.H.take 0).flatMap eHo) V) := fun V hv => by simpa using hv
  have T3 : Hid (∀ V, Pa base p W1 (S3 ++ (m.H.take m.hn).flatMap eHo) V → Pa base p W1 S4 V) := fun V hv => by
    rw [List.take_of_length_le (by have := hl.h.len; omega), hS4] at hv
    exact hv
  have T4 : Hid (∀ V, Pa base p W1 S5 V → Pa base p W1 (S5 ++ (m.J.take 0).flatMap eEn) V) := fun V hv => by simpa using hv
  have EK : Hid (∀ x ∈ m.J, IntKind.u8.wrap x.k = x.k) := fun x hx => by have := (hok.j x hx).k; rw [IntKind.wrap_u8]; omega
  have HW1 := hide hW1
  have hca : IntKind.u64.wrap (m.an : Int) = (m.an : Int) := by simp [IntKind.wrap, IntKind.bits, IntKind.signed]; omega
  have hch : IntKind.u64.wrap (m.hn : Int) = (m.hn : Int) := by simp [IntKind.wrap, IntKind.bits, IntKind.signed]; omega
  have hcj : IntKind.u64.wrap (m.jn : Int) = (m.jn : Int) := by simp [IntKind.wrap, IntKind.bits, IntKind.signed]; omega
  clear h hW1 k1 b1 hl hok hS1 hS2 hS3 hS4 hS5 z1 z2 z3 z4 z5 hm hFE
  go_enter Tryz.func30, Tryz.ntmps30
  go_upto_region 1 with fail
  rw [HW1.out]
  have q := (FR.out _ _ A1.out).1
  have x0 := block_cell q 0
  have x1 := block_cell q 1
  have x2 := block_cell q 2
  simp at x0 x1 x2
  have hlt := block_lt q
  clear q
  go_wp2_with fail
  refine (N0.out _ A1.out).mono ?_
  rintro e w2 ⟨rfl, G0⟩
  clear hlt x0 x1 x2
  have ST0 := hide (T0.out _ G0.out)
  have q := (FR.out _ _ ST0.out).1
  have x2 := block_cell q 2
  simp at x2
  have hlt := block_lt q
  clear q
  go_wp2
  clear hlt x2
  go_loopw [4] (fun i wr => ∃ k : Nat, k ≤ m.an ∧ i = .int .i64 k ∧ Hid (Pa base p W1 (S1 ++ (m.A.take k).flatMap eAc) wr)) (fun i _ => m.an - (intOf i).toNat)
  case atStart => exact ⟨0, by omega, rfl, ST0.out⟩
  case round =>
    obtain ⟨k, hk, rfl, HS⟩ := hrel
    clear ST0
    have q := (FR.out _ _ HS.out).1
    have x2 := block_cell q 2
    simp at x2
    have hlt := block_lt q
    clear q
    by_cases hlk : k < m.an
    · obtain ⟨x, hx⟩ : ∃ x, m.A[k]? = some x := ⟨_, List.getElem?_eq_getElem (by rw [HLA.out]; exact hlk)⟩
      obtain ⟨b, off, hao, hbp, hc⟩ := (LW.out _ _ HS.out).a.look hx
      have c0 := hc 0 _ rfl
      have c1 := hc 1 _ rfl
      have c2 := hc 2 _ rfl
      have c3 := hc 3 _ rfl
      simp only [Nat.add_zero] at c0
      rw [hao] at x2
      clear hao
      have hbw : b < wr.heap.size := Nat.lt_trans hbp (PL.out _ _ HS.out)
      obtain ⟨W2, hW2⟩ : ∃ W2, wr.alloc (.cells #[.int .u64 (x.a : Int), .int .u64 (x.b : Int), .int .u64 (x.c : Int), .int .u64 (x.d : Int)] 63) = W2 := ⟨_, rfl⟩
      have K2 : Hid (Pa base p W2 (S1 ++ (m.A.take k).flatMap eAc) W2) := by rw [← hW2]; exact Pa.start (HS.out.k.quiet ((Below.refl _ wr).alloc (Nat.le_refl _) _))
      have FE : Hid (∀ L' V, Pa base p W2 L' V → V.heap[wr.heap.size]? = some (.cells #[.int .u64 (x.a : Int), .int .u64 (x.b : Int), .int .u64 (x.c : Int), .int .u64 (x.d : Int)] 63 (0, 0)) ∧ Pa base p W1 L' V) := fun L' V hv => ⟨HS.out.k.box (by rw [hW2]; exact hv), HS.out.trans (HS.out.k.from_ (by rw [hW2]; exact hv))⟩
      have HW2 := hide hW2
      have C2 := hide (E0.out W2 k x hx)
      clear hW2 hc hx
      go_upto_region 6 with fail
      rw [HW2.out]
      clear hbw hlt x2 c0 c1 c2 c3
      have q := (FE.out _ _ K2.out).1
      have y0 := block_cell q 0
      have y1 := block_cell q 1
      have y2 := block_cell q 2
      have y3 := block_cell q 3
      simp at y0 y1 y2 y3
      have hly := block_lt q
      clear q
      go_wp2_with fail
      refine (C2.out _ K2.out).mono ?_
      rintro e w3 ⟨rfl, H2⟩
      go_wp2
      go_roundw
      case rel => exact ⟨k + 1, by omega, by go_num, (FE.out _ _ H2.out).2⟩
      case measure => simp [intOf]; omega
    · obtain rfl : k = m.an := by omega
      have SN0 := hide (T1.out _ HS.out)
      clear hlt x2
      have q := (FR.out _ _ SN0.out).1
      have x2 := block_cell q 2
      have x3 := block_cell q 3
      simp at x2 x3
      have hlt := block_lt q
      clear q
      clear HS
      go_wp2_with fail
      refine (N1.out _ SN0.out).mono ?_
      rintro e v0 ⟨rfl, G2⟩
      clear hlt x2 x3
      have ST1 := hide (T2.out _ G2.out)
      have q := (FR.out _ _ ST1.out).1
      have x3 := block_cell q 3
      simp at x3
      have hlt := block_lt q
      clear q
      go_wp2
      clear hlt x3
      go_loopw [6] (fun i wr => ∃ k : Nat, k ≤ m.hn ∧ i = .int .i64 k ∧ Hid (Pa base p W1 (S3 ++ (m.H.take k).flatMap eHo) wr)) (fun i _ => m.hn - (intOf i).toNat)
      case atStart => exact ⟨0, by omega, rfl, ST1.out⟩
      case round =>
        obtain ⟨k, hk, rfl, HS⟩ := hrel
        clear ST1
        have q := (FR.out _ _ HS.out).1
        have x3 := block_cell q 3
        simp at x3
        have hlt := block_lt q
        clear q
        by_cases hlk : k < m.hn
        · obtain ⟨x, hx⟩ : ∃ x, m.H[k]? = some x := ⟨_, List.getElem?_eq_getElem (by rw [HLH.out]; exact hlk)⟩
          obtain ⟨b, off, hao, hbp, hc⟩ := (LW.out _ _ HS.out).h.look hx
          have c0 := hc 0 _ rfl
          have c1 := hc 1 _ rfl
          have c2 := hc 2 _ rfl
          simp only [Nat.add_zero] at c0
          rw [hao] at x3
          clear hao
          have hbw : b < wr.heap.size := Nat.lt_trans hbp (PL.out _ _ HS.out)
          obtain ⟨W2, hW2⟩ : ∃ W2, wr.alloc (.cells #[.int .u64 (x.a : Int), .int .u64 (x.b : Int), .int .u64 (x.c : Int)] 65) = W2 := ⟨_, rfl⟩
          have K2 : Hid (Pa base p W2 (S3 ++ (m.H.take k).flatMap eHo) W2) := by rw [← hW2]; exact Pa.start (HS.out.k.quiet ((Below.refl _ wr).alloc (Nat.le_refl _) _))
          have FE : Hid (∀ L' V, Pa base p W2 L' V → V.heap[wr.heap.size]? = some (.cells #[.int .u64 (x.a : Int), .int .u64 (x.b : Int), .int .u64 (x.c : Int)] 65 (0, 0)) ∧ Pa base p W1 L' V) := fun L' V hv => ⟨HS.out.k.box (by rw [hW2]; exact hv), HS.out.trans (HS.out.k.from_ (by rw [hW2]; exact hv))⟩
          have HW2 := hide hW2
          have C2 := hide (E1.out W2 k x hx)
          clear hW2 hc hx
          go_upto_region 12 with fail
          rw [HW2.out]
          clear hbw hlt x3 c0 c1 c2
          have q := (FE.out _ _ K2.out).1
          have y0 := block_cell q 0
          have y1 := block_cell q 1
          have y2 := block_cell q 2
          simp at y0 y1 y2
          have hly := block_lt q
          clear q
          go_wp2_with fail
          refine (C2.out _ K2.out).mono ?_
          rintro e w3 ⟨rfl, H2⟩
          go_wp2
          go_roundw
          case rel => exact ⟨k + 1, by omega, by go_num, (FE.out _ _ H2.out).2⟩
          case measure => simp [intOf]; omega
        · obtain rfl : k = m.hn := by omega
          have SN1 := hide (T3.out _ HS.out)
          clear hlt x3
          have q := (FR.out _ _ SN1.out).1
          have x3 := block_cell q 3
          have x4 := block_cell q 4
          simp at x3 x4
          have hlt := block_lt q
          clear q
          clear HS
          go_wp2_with fail
          refine (N2.out _ SN1.out).mono ?_
          rintro e v1 ⟨rfl, G4⟩
          clear hlt x3 x4
          have ST2 := hide (T4.out _ G4.out)
          have q := (FR.out _ _ ST2.out).1
          have x4 := block_cell q 4
          simp at x4
          have hlt := block_lt q
          clear q
          go_wp2
          clear hlt x4
          go_loopw [8] (fun i wr => ∃ k : Nat, k ≤ m.jn ∧ i = .int .i64 k ∧ Hid (Pa base p W1 (S5 ++ (m.J.take k).flatMap eEn) wr)) (fun i _ => m.jn - (intOf i).toNat)
          case atStart => exact ⟨0, by omega, rfl, ST2.out⟩
          case round =>
            obtain ⟨k, hk, rfl, HS⟩ := hrel
            clear ST2
            have q := (FR.out _ _ HS.out).1
            have x4 := block_cell q 4
            simp at x4
            have hlt := block_lt q
            clear q
            by_cases hlk : k < m.jn
            · obtain ⟨x, hx⟩ : ∃ x, m.J[k]? = some x := ⟨_, List.getElem?_eq_getElem (by rw [HLJ.out]; exact hlk)⟩
              obtain ⟨b, off, hao, hbp, hc⟩ := (LW.out _ _ HS.out).j.look hx
              have c0 := hc 0 _ rfl
              have c1 := hc 1 _ rfl
              have c2 := hc 2 _ rfl
              have c3 := hc 3 _ rfl
              have c4 := hc 4 _ rfl
              simp only [Nat.add_zero] at c0
              rw [hao] at x4
              clear hao
              have hbw : b < wr.heap.size := Nat.lt_trans hbp (PL.out _ _ HS.out)
              obtain ⟨W2, hW2⟩ : ∃ W2, wr.alloc (.cells #[.int .u64 (x.a : Int), .int .i64 x.k, .int .u64 (x.b : Int), .int .u64 (x.c : Int), .int .u64 (x.d : Int)] 67) = W2 := ⟨_, rfl⟩
              have K2 : Hid (Pa base p W2 (S5 ++ (m.J.take k).flatMap eEn) W2) := by rw [← hW2]; exact Pa.start (HS.out.k.quiet ((Below.refl _ wr).alloc (Nat.le_refl _) _))
              have FE : Hid (∀ L' V, Pa base p W2 L' V → V.heap[wr.heap.size]? = some (.cells #[.int .u64 (x.a : Int), .int .i64 x.k, .int .u64 (x.b : Int), .int .u64 (x.c : Int), .int .u64 (x.d : Int)] 67 (0, 0)) ∧ Pa base p W1 L' V) := fun L' V hv => ⟨HS.out.k.box (by rw [hW2]; exact hv), HS.out.trans (HS.out.k.from_ (by rw [hW2]; exact hv))⟩
              have HW2 := hide hW2
              have C2 := hide (E2.out W2 k x hx)
              have C3 := hide (E3.out W2 k x hx)
              have C4 := hide (E4.out W2 k x hx)
              have hw8 := EK.out x (List.mem_of_getElem? hx)
              clear hW2 hc hx
              go_upto_region 18 with fail
              rw [HW2.out]
              clear hbw hlt x4 c0 c1 c2 c3 c4
              have q := (FE.out _ _ K2.out).1
              have y0 := block_cell q 0
              simp at y0
              have hly := block_lt q
              clear q
              go_wp2_with fail
              refine (C2.out _ K2.out).mono ?_
              rintro e w3 ⟨rfl, H2⟩
              clear hly y0
              have q := (FE.out _ _ H2.out).1
              have y1 := block_cell q 1
              simp at y1
              have hly := block_lt q
              clear q
              go_wp2_with fail
              refine (C3.out _ H2.out).mono ?_
              rintro e w4 ⟨rfl, H3⟩
              clear hly y1
              have q := (FE.out _ _ H3.out).1
              have y2 := block_cell q 2
              have y3 := block_cell q 3
              have y4 := block_cell q 4
              simp at y2 y3 y4
              have hly := block_lt q
              clear q
              go_wp2_with fail
              refine (C4.out _ H3.out).mono ?_
              rintro e w5 ⟨rfl, H4⟩
              go_wp2
              go_roundw
              case rel => exact ⟨k + 1, by omega, by go_num, (FE.out _ _ H4.out).2⟩
              case measure => simp [intOf]; omega
            · obtain rfl : k = m.jn := by omega
              go_wp2
              go_end0
              exact ⟨rfl, HFI.out _ HS.out⟩
end Go.Proofs.YtiijbboigebhcaaGreatDoor
