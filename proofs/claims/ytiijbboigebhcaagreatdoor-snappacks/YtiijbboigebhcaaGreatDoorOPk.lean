import Derived.Deep.DeepCutAuto
import Derived.Test.YtiijbboigebhcaaGreatDoorOLl
namespace Go.Proofs.YtiijbboigebhcaaGreatDoor
open Go.RowKit Crc

/-- An image whose lists lie below the writer. -/
structure Mi.Low (p : Nat) (W : World) (m : Mi) : Prop where
  a : Rs p W 4 Ac.cells m.ao m.an m.A
  h : Rs p W 3 Ho.cells m.ho m.hn m.H
  j : Rs p W 5 En.cells m.jo m.jn m.J
  d : Rs p W 13 De.cells m.dO m.dn m.D
  s : Rs p W 5 Sn.cells m.so m.sn m.S
  n : ∀ x ∈ m.S, x.dn p W
theorem Mi.Low.deep {p : Nat} {W W' : World} {m : Mi} (h : m.Low p W) (hb : Below p W W') : m.Low p W' := ⟨h.a.deep hb, h.h.deep hb, h.j.deep hb, h.d.deep hb, h.s.deep hb, fun x hx => ⟨(h.n x hx).sh.deep hb, (h.n x hx).lt⟩⟩
/-- Its values can be laid down. -/
structure Mi.Gd (m : Mi) : Prop where
  n : ∀ v ∈ [m.slot, m.now], v < u64
  b : ∀ v ∈ [m.tot, m.nx], v < u64
  e : ∀ v ∈ [m.ends], v < u64
  a : ∀ x ∈ m.A, x.ok
  h : ∀ x ∈ m.H, x.ok
  j : ∀ x ∈ m.J, x.ok
  d : ∀ x ∈ m.D, x.ok
  s : ∀ x ∈ m.S, x.ok
set_option maxRecDepth 10000 in
set_option maxHeartbeats 800000 in
theorem layBook_any {base p : Nat} {w W : World} {s : WS} (h : Wa base p w s W) (m : Mi) (hl : m.Low p W) (hok : m.Gd) : Calls Tryz.prog 58 #[.pointer (some ⟨p, 0, none⟩), .agg #[.int .u64 (m.tot : Int), .int .u64 (m.nx : Int), .slice m.ao m.an m.ac, .slice m.ho m.hn m.hc, .slice m.jo m.jn m.jc]] W fun e W' => e = .returned (.tuple #[]) ∧ Hid (Wa base p w (lBk s m.tot m.nx m.A m.H m.J) W') := by
  obtain ⟨W1, hW1⟩ : ∃ W1, W.alloc (.cells #[.int .u64 (m.tot : Int), .int .u64 (m.nx : Int), .slice m.ao m.an m.ac, .slice m.ho m.hn m.hc, .slice m.jo m.jn m.jc] 27) = W1 := ⟨_, rfl⟩
  have b1 : Below W.heap.size W W1 := by rw [← hW1]; exact (Below.refl _ W).alloc (Nat.le_refl _) _
  have k1 : Wk base p s W1 := h.k.quiet b1
  have A1 := hide (Wa.start k1)
  have LW : Hid (∀ V, Below p W1 V → m.Low p V) := fun V hv => (hl.deep (b1.mono (Nat.le_of_lt h.k.lt))).deep hv
  have FR : Hid (∀ s' V, Wa base p W1 s' V → V.heap[W.heap.size]? = some (.cells #[.int .u64 (m.tot : Int), .int .u64 (m.nx : Int), .slice m.ao m.an m.ac, .slice m.ho m.hn m.hc, .slice m.jo m.jn m.jc] 27 (0, 0)) ∧ Wa base p w s' V) := fun s' V hv => ⟨h.k.box (by rw [hW1]; exact hv), h.trans (h.k.from_ (by rw [hW1]; exact hv))⟩
  have N0 : Hid (∀ V, Wa base p W1 (s) V → Calls Tryz.prog 57 #[.pointer (some ⟨p, 0, none⟩), .slice (some ⟨V.heap.size, 0, none⟩) 2 2] (V.alloc (.cells #[.int .u64 (m.tot : Int), .int .u64 (m.nx : Int)] 22)) fun e W' => e = .returned (.tuple #[]) ∧ Hid (Wa base p W1 (lNs s [m.tot, m.nx]) W')) := fun V hv => nums_new hv [m.tot, m.nx] hok.b rfl (by simp) rfl rfl
  have N1 : Hid (∀ V, Wa base p W1 (lNs s [m.tot, m.nx]) V → Calls Tryz.prog 99 #[.pointer (some ⟨p, 0, none⟩), .slice m.ao m.an m.ac, .int .i64 64, .func (.func 100) #[] #[]] V fun e W' => e = .returned (.tuple #[]) ∧ Hid (Wa base p W1 (lLs lAc 64 (lNs s [m.tot, m.nx]) m.A) W')) := fun V hv => layList_Ac hv ((LW.out V (Wa.below k1 hv)).a) (hok.a)
  have N2 : Hid (∀ V, Wa base p W1 (lLs lAc 64 (lNs s [m.tot, m.nx]) m.A) V → Calls Tryz.prog 101 #[.pointer (some ⟨p, 0, none⟩), .slice m.ho m.hn m.hc, .int .i64 64, .func (.func 102) #[] #[]] V fun e W' => e = .returned (.tuple #[]) ∧ Hid (Wa base p W1 (lLs lHo 64 (lLs lAc 64 (lNs s [m.tot, m.nx]) m.A) m.H) W')) := fun V hv => layList_Ho hv ((LW.out V (Wa.below k1 hv)).h) (hok.h)
  have N3 : Hid (∀ V, Wa base p W1 (lLs lHo 64 (lLs lAc 64 (lNs s [m.tot, m.nx]) m.A) m.H) V → Calls Tryz.prog 103 #[.pointer (some ⟨p, 0, none⟩), .slice m.jo m.jn m.jc, .int .i64 64, .func (.func 104) #[] #[]] V fun e W' => e = .returned (.tuple #[]) ∧ Hid (Wa base p W1 (lBk s m.tot m.nx m.A m.H m.J) W')) := fun V hv => layList_En hv ((LW.out V (Wa.below k1 hv)).j) (hok.j)
  have HW1 := hide hW1
  clear h hW1 k1 b1 hl hok
  go_enter Tryz.func58, Tryz.ntmps58
  go_upto_region 1 with fail
  rw [HW1.out]
  have q := (FR.out _ _ A1.out).1
  have x0 := block_cell q 0
  have x1 := block_cell q 1
  simp at x0 x1
  have hlt := block_lt q
  clear q
  go_wp2_with fail
  refine (N0.out _ A1.out).mono ?_
  rintro e w2 ⟨rfl, G0⟩
  clear hlt x0 x1
  have q := (FR.out _ _ G0.out).1
  have x2 := block_cell q 2
  simp at x2
  have hlt := block_lt q
  clear q
  go_wp2_with fail
  refine (N1.out _ G0.out).mono ?_
  rintro e w3 ⟨rfl, G1⟩
  clear hlt x2
  have q := (FR.out _ _ G1.out).1
  have x3 := block_cell q 3
  simp at x3
  have hlt := block_lt q
  clear q
  go_wp2_with fail
  refine (N2.out _ G1.out).mono ?_
  rintro e w4 ⟨rfl, G2⟩
  clear hlt x3
  have q := (FR.out _ _ G2.out).1
  have x4 := block_cell q 4
  simp at x4
  have hlt := block_lt q
  clear q
  go_wp2_with fail
  refine (N3.out _ G2.out).mono ?_
  rintro e w5 ⟨rfl, G3⟩
  go_wp2
  go_end0
  exact ⟨rfl, (FR.out _ _ G3.out).2⟩
set_option maxRecDepth 10000 in
set_option maxHeartbeats 800000 in
theorem layState_any {base p : Nat} {w W : World} {s : WS} (h : Wa base p w s W) (m : Mi) (hl : m.Low p W) (hok : m.Gd) : Calls Tryz.prog 23 #[.pointer (some ⟨p, 0, none⟩), .agg #[.int .u64 (m.slot : Int), .int .u64 (m.now : Int), .int .u64 (m.tot : Int), .int .u64 (m.nx : Int), .slice m.ao m.an m.ac, .slice m.ho m.hn m.hc, .slice m.jo m.jn m.jc, .slice m.dO m.dn m.dc, .int .u64 (m.ends : Int), .slice m.so m.sn m.sc]] W fun e W' => e = .returned (.tuple #[]) ∧ Hid (Wa base p w (m.lay s) W') := by
  obtain ⟨W1, hW1⟩ : ∃ W1, W.alloc (.cells #[.int .u64 (m.slot : Int), .int .u64 (m.now : Int), .int .u64 (m.tot : Int), .int .u64 (m.nx : Int), .slice m.ao m.an m.ac, .slice m.ho m.hn m.hc, .slice m.jo m.jn m.jc, .slice m.dO m.dn m.dc, .int .u64 (m.ends : Int), .slice m.so m.sn m.sc] 33) = W1 := ⟨_, rfl⟩
  have b1 : Below W.heap.size W W1 := by rw [← hW1]; exact (Below.refl _ W).alloc (Nat.le_refl _) _
  have k1 : Wk base p s W1 := h.k.quiet b1
  have A1 := hide (Wa.start k1)
  have LW : Hid (∀ V, Below p W1 V → m.Low p V) := fun V hv => (hl.deep (b1.mono (Nat.le_of_lt h.k.lt))).deep hv
  have FR : Hid (∀ s' V, Wa base p W1 s' V → V.heap[W.heap.size]? = some (.cells #[.int .u64 (m.slot : Int), .int .u64 (m.now : Int), .int .u64 (m.tot : Int), .int .u64 (m.nx : Int), .slice m.ao m.an m.ac, .slice m.ho m.hn m.hc, .slice m.jo m.jn m.jc, .slice m.dO m.dn m.dc, .int .u64 (m.ends : Int), .slice m.so m.sn m.sc] 33 (0, 0)) ∧ Wa base p w s' V) := fun s' V hv => ⟨h.k.box (by rw [hW1]; exact hv), h.trans (h.k.from_ (by rw [hW1]; exact hv))⟩
  have N0 : Hid (∀ V, Wa base p W1 (s) V → Calls Tryz.prog 57 #[.pointer (some ⟨p, 0, none⟩), .slice (some ⟨V.heap.size, 0, none⟩) 2 2] (V.alloc (.cells #[.int .u64 (m.slot : Int), .int .u64 (m.now : Int)] 22)) fun e W' => e = .returned (.tuple #[]) ∧ Hid (Wa base p W1 (lNs s [m.slot, m.now]) W')) := fun V hv => nums_new hv [m.slot, m.now] hok.n rfl (by simp) rfl rfl
  have N1 : Hid (∀ V, Wa base p W1 (lNs s [m.slot, m.now]) V → Calls Tryz.prog 58 #[.pointer (some ⟨p, 0, none⟩), .agg #[.int .u64 (m.tot : Int), .int .u64 (m.nx : Int), .slice m.ao m.an m.ac, .slice m.ho m.hn m.hc, .slice m.jo m.jn m.jc]] V fun e W' => e = .returned (.tuple #[]) ∧ Hid (Wa base p W1 (lBk (lNs s [m.slot, m.now]) m.tot m.nx m.A m.H m.J) W')) := fun V hv => layBook_any hv m (LW.out V (Wa.below k1 hv)) hok
  have N2 : Hid (∀ V, Wa base p W1 (lBk (lNs s [m.slot, m.now]) m.tot m.nx m.A m.H m.J) V → Calls Tryz.prog 57 #[.pointer (some ⟨p, 0, none⟩), .slice (some ⟨V.heap.size, 0, none⟩) 1 1] (V.alloc (.cells #[.int .u64 (m.ends : Int)] 22)) fun e W' => e = .returned (.tuple #[]) ∧ Hid (Wa base p W1 (lNs (lBk (lNs s [m.slot, m.now]) m.tot m.nx m.A m.H m.J) [m.ends]) W')) := fun V hv => nums_new hv [m.ends] hok.e rfl (by simp) rfl rfl
  have N3 : Hid (∀ V, Wa base p W1 (lNs (lBk (lNs s [m.slot, m.now]) m.tot m.nx m.A m.H m.J) [m.ends]) V → Calls Tryz.prog 59 #[.pointer (some ⟨p, 0, none⟩), .slice m.dO m.dn m.dc, .int .i64 32, .func (.func 60) #[] #[]] V fun e W' => e = .returned (.tuple #[]) ∧ Hid (Wa base p W1 (lLs lDe 32 (lNs (lBk (lNs s [m.slot, m.now]) m.tot m.nx m.A m.H m.J) [m.ends]) m.D) W')) := fun V hv => layList_De hv ((LW.out V (Wa.below k1 hv)).d) (hok.d)
  have N4 : Hid (∀ V, Wa base p W1 (lLs lDe 32 (lNs (lBk (lNs s [m.slot, m.now]) m.tot m.nx m.A m.H m.J) [m.ends]) m.D) V → Calls Tryz.prog 61 #[.pointer (some ⟨p, 0, none⟩), .slice m.so m.sn m.sc, .int .i64 16, .func (.func 62) #[] #[]] V fun e W' => e = .returned (.tuple #[]) ∧ Hid (Wa base p W1 (m.lay s) W')) := fun V hv => layList_Sn hv ((LW.out V (Wa.below k1 hv)).s) (hok.s) ((LW.out V (Wa.below k1 hv)).n)
  have HW1 := hide hW1
  clear h hW1 k1 b1 hl hok
  go_enter Tryz.func23, Tryz.ntmps23
  go_upto_region 1 with fail
  rw [HW1.out]
  have q := (FR.out _ _ A1.out).1
  have x0 := block_cell q 0
  have x1 := block_cell q 1
  simp at x0 x1
  have hlt := block_lt q
  clear q
  go_wp2_with fail
  refine (N0.out _ A1.out).mono ?_
  rintro e w2 ⟨rfl, G0⟩
  clear hlt x0 x1
  have q := (FR.out _ _ G0.out).1
  have x2 := block_cell q 2
  have x3 := block_cell q 3
  have x4 := block_cell q 4
  have x5 := block_cell q 5
  have x6 := block_cell q 6
  simp at x2 x3 x4 x5 x6
  have hlt := block_lt q
  clear q
  go_wp2_with fail
  refine (N1.out _ G0.out).mono ?_
  rintro e w3 ⟨rfl, G1⟩
  clear hlt x2 x3 x4 x5 x6
  have q := (FR.out _ _ G1.out).1
  have x8 := block_cell q 8
  simp at x8
  have hlt := block_lt q
  clear q
  go_wp2_with fail
  refine (N2.out _ G1.out).mono ?_
  rintro e w4 ⟨rfl, G2⟩
  clear hlt x8
  have q := (FR.out _ _ G2.out).1
  have x7 := block_cell q 7
  simp at x7
  have hlt := block_lt q
  clear q
  go_wp2_with fail
  refine (N3.out _ G2.out).mono ?_
  rintro e w5 ⟨rfl, G3⟩
  clear hlt x7
  have q := (FR.out _ _ G3.out).1
  have x9 := block_cell q 9
  simp at x9
  have hlt := block_lt q
  clear q
  go_wp2_with fail
  refine (N4.out _ G3.out).mono ?_
  rintro e w6 ⟨rfl, G4⟩
  go_wp2
  go_end0
  exact ⟨rfl, (FR.out _ _ G4.out).2⟩
end Go.Proofs.YtiijbboigebhcaaGreatDoor
