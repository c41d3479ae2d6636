import Derived.Deep.DeepCutAuto
import Derived.Test.YtiijbboigebhcaaGreatDoorM39
namespace Go.Proofs.YtiijbboigebhcaaGreatDoor
open Go.RowKit Crc

def Ac.ok (x : Ac) : Prop := ∀ v ∈ [x.a, x.b, x.c, x.d], v < u64
def Ho.ok (x : Ho) : Prop := ∀ v ∈ [x.a, x.b, x.c], v < u64
structure En.ok (x : En) : Prop where
  a : x.a < u64
  b : ∀ v ∈ [x.b, x.c, x.d], v < u64
  k : 0 ≤ x.k ∧ x.k < 256
structure De.ok (x : De) : Prop where
  a : ∀ v ∈ [x.a, x.b, x.c, x.d, x.e, x.f, x.g], v < u64
  p : ∀ v ∈ [x.p, x.q, x.r, x.z], v < u64
  k : 0 ≤ x.ph ∧ x.ph < 256
  t : x.t.size ≤ 512
structure Sn.ok (x : Sn) : Prop where
  a : ∀ v ∈ [x.cl, x.sq, x.st, x.cd.toNat], v < u64
  k : 0 ≤ x.cd ∧ x.cd < 4096
/-- A session's data lie below the writer. -/
structure Sn.dn (p : Nat) (W : World) (x : Sn) : Prop where
  sh : Shows p W x.co x.cn x.cc x.D
  lt : ∀ b off, x.co = some ⟨b, off, none⟩ → b < p
set_option maxRecDepth 10000 in
set_option maxHeartbeats 800000 in
theorem layAccount_any {base p : Nat} {w W : World} {s : WS} (h : Wa base p w s W) (x : Ac) (hx : x.ok) : Calls Tryz.prog 100 #[.pointer (some ⟨p, 0, none⟩), .agg #[.int .u64 (x.a : Int), .int .u64 (x.b : Int), .int .u64 (x.c : Int), .int .u64 (x.d : Int)]] W fun e W' => e = .returned (.tuple #[]) ∧ Hid (Wa base p w (lAc s x) W') := by
  obtain ⟨W1, hW1⟩ : ∃ W1, W.alloc (.cells #[.int .u64 (x.a : Int), .int .u64 (x.b : Int), .int .u64 (x.c : Int), .int .u64 (x.d : Int)] 63) = W1 := ⟨_, rfl⟩
  have k1 : Wk base p s W1 := by rw [← hW1]; exact h.k.quiet ((Below.refl _ W).alloc (Nat.le_refl _) _)
  have A1 := hide (Wa.start k1)
  have FR : Hid (∀ s' V, Wa base p W1 s' V → V.heap[W.heap.size]? = some (.cells #[.int .u64 (x.a : Int), .int .u64 (x.b : Int), .int .u64 (x.c : Int), .int .u64 (x.d : Int)] 63 (0, 0)) ∧ Wa base p w s' V) := fun s' V hv => ⟨h.k.box (by rw [hW1]; exact hv), h.trans (h.k.from_ (by rw [hW1]; exact hv))⟩
  have N : Hid (∀ V, Wa base p W1 (s) V → Calls Tryz.prog 57 #[.pointer (some ⟨p, 0, none⟩), .slice (some ⟨V.heap.size, 0, none⟩) 4 4] (V.alloc (.cells #[.int .u64 (x.a : Int), .int .u64 (x.b : Int), .int .u64 (x.c : Int), .int .u64 (x.d : Int)] 22)) fun e W' => e = .returned (.tuple #[]) ∧ Hid (Wa base p W1 (lAc s x) W')) := fun V hv => nums_new hv [x.a, x.b, x.c, x.d] hx rfl (by simp) rfl rfl
  have HW1 := hide hW1
  clear h hW1 k1 hx
  go_enter Tryz.func100, Tryz.ntmps100
  go_upto_region 1 with fail
  rw [HW1.out]
  have q := (FR.out _ _ A1.out).1
  have x0 := block_cell q 0
  have x1 := block_cell q 1
  have x2 := block_cell q 2
  have x3 := block_cell q 3
  simp at x0 x1 x2 x3
  have hlt := block_lt q
  clear q
  go_wp2_with fail
  refine (N.out _ A1.out).mono ?_
  rintro e w2 ⟨rfl, G⟩
  go_wp2
  go_end0
  exact ⟨rfl, (FR.out _ _ G.out).2⟩
set_option maxRecDepth 10000 in
set_option maxHeartbeats 800000 in
theorem layHold_any {base p : Nat} {w W : World} {s : WS} (h : Wa base p w s W) (x : Ho) (hx : x.ok) : Calls Tryz.prog 102 #[.pointer (some ⟨p, 0, none⟩), .agg #[.int .u64 (x.a : Int), .int .u64 (x.b : Int), .int .u64 (x.c : Int)]] W fun e W' => e = .returned (.tuple #[]) ∧ Hid (Wa base p w (lHo s x) W') := by
  obtain ⟨W1, hW1⟩ : ∃ W1, W.alloc (.cells #[.int .u64 (x.a : Int), .int .u64 (x.b : Int), .int .u64 (x.c : Int)] 65) = W1 := ⟨_, rfl⟩
  have k1 : Wk base p s W1 := by rw [← hW1]; exact h.k.quiet ((Below.refl _ W).alloc (Nat.le_refl _) _)
  have A1 := hide (Wa.start k1)
  have FR : Hid (∀ s' V, Wa base p W1 s' V → V.heap[W.heap.size]? = some (.cells #[.int .u64 (x.a : Int), .int .u64 (x.b : Int), .int .u64 (x.c : Int)] 65 (0, 0)) ∧ Wa base p w s' V) := fun s' V hv => ⟨h.k.box (by rw [hW1]; exact hv), h.trans (h.k.from_ (by rw [hW1]; exact hv))⟩
  have N : Hid (∀ V, Wa base p W1 (s) V → Calls Tryz.prog 57 #[.pointer (some ⟨p, 0, none⟩), .slice (some ⟨V.heap.size, 0, none⟩) 3 3] (V.alloc (.cells #[.int .u64 (x.a : Int), .int .u64 (x.b : Int), .int .u64 (x.c : Int)] 22)) fun e W' => e = .returned (.tuple #[]) ∧ Hid (Wa base p W1 (lHo s x) W')) := fun V hv => nums_new hv [x.a, x.b, x.c] hx rfl (by simp) rfl rfl
  have HW1 := hide hW1
  clear h hW1 k1 hx
  go_enter Tryz.func102, Tryz.ntmps102
  go_upto_region 1 with fail
  rw [HW1.out]
  have q := (FR.out _ _ A1.out).1
  have x0 := block_cell q 0
  have x1 := block_cell q 1
  have x2 := block_cell q 2
  simp at x0 x1 x2
  have hlt := block_lt q
  clear q
  go_wp2_with fail
  refine (N.out _ A1.out).mono ?_
  rintro e w2 ⟨rfl, G⟩
  go_wp2
  go_end0
  exact ⟨rfl, (FR.out _ _ G.out).2⟩
set_option maxRecDepth 10000 in
set_option maxHeartbeats 800000 in
theorem layEntry_any {base p : Nat} {w W : World} {s : WS} (h : Wa base p w s W) (x : En) (hx : x.ok) : Calls Tryz.prog 104 #[.pointer (some ⟨p, 0, none⟩), .agg #[.int .u64 (x.a : Int), .int .i64 x.k, .int .u64 (x.b : Int), .int .u64 (x.c : Int), .int .u64 (x.d : Int)]] W fun e W' => e = .returned (.tuple #[]) ∧ Hid (Wa base p w (lEn s x) W') := by
  obtain ⟨W1, hW1⟩ : ∃ W1, W.alloc (.cells #[.int .u64 (x.a : Int), .int .i64 x.k, .int .u64 (x.b : Int), .int .u64 (x.c : Int), .int .u64 (x.d : Int)] 67) = W1 := ⟨_, rfl⟩
  have k1 : Wk base p s W1 := by rw [← hW1]; exact h.k.quiet ((Below.refl _ W).alloc (Nat.le_refl _) _)
  have A1 := hide (Wa.start k1)
  have FR : Hid (∀ s' V, Wa base p W1 s' V → V.heap[W.heap.size]? = some (.cells #[.int .u64 (x.a : Int), .int .i64 x.k, .int .u64 (x.b : Int), .int .u64 (x.c : Int), .int .u64 (x.d : Int)] 67 (0, 0)) ∧ Wa base p w s' V) := fun s' V hv => ⟨h.k.box (by rw [hW1]; exact hv), h.trans (h.k.from_ (by rw [hW1]; exact hv))⟩
  have N0 : Hid (∀ V, Wa base p W1 s V → Calls Tryz.prog 98 #[.pointer (some ⟨p, 0, none⟩), .int .u64 (x.a : Int)] V fun e W' => e = .returned (.tuple #[]) ∧ Hid (Wa base p W1 (lN s x.a) W')) := fun V hv => num_w hv x.a hx.a
  have N1 : Hid (∀ V, Wa base p W1 (lN s x.a) V → Calls Tryz.prog 22 #[.pointer (some ⟨p, 0, none⟩), .int .u8 x.k] V fun e W' => e = .returned (.tuple #[]) ∧ Hid (Wa base p W1 (lO (lN s x.a) x.k.toNat) W')) := fun V hv => u8_w hv x.k.toNat x.k (by have := hx.k; omega) (by have := hx.k; omega)
  have N2 : Hid (∀ V, Wa base p W1 (lO (lN s x.a) x.k.toNat) V → Calls Tryz.prog 57 #[.pointer (some ⟨p, 0, none⟩), .slice (some ⟨V.heap.size, 0, none⟩) 3 3] (V.alloc (.cells #[.int .u64 (x.b : Int), .int .u64 (x.c : Int), .int .u64 (x.d : Int)] 22)) fun e W' => e = .returned (.tuple #[]) ∧ Hid (Wa base p W1 (lEn s x) W')) := fun V hv => nums_new hv [x.b, x.c, x.d] hx.b rfl (by simp) rfl rfl
  have hw8 : IntKind.u8.wrap x.k = x.k := by rw [IntKind.wrap_u8]; have := hx.k; omega
  have HW1 := hide hW1
  clear h hW1 k1 hx
  go_enter Tryz.func104, Tryz.ntmps104
  go_upto_region 1 with fail
  rw [HW1.out]
  have q := (FR.out _ _ A1.out).1
  have x0 := block_cell q 0
  have x1 := block_cell q 1
  have x2 := block_cell q 2
  have x3 := block_cell q 3
  have x4 := block_cell q 4
  simp at x0 x1 x2 x3 x4
  have hlt := block_lt q
  clear q
  go_wp2_with fail
  refine (N0.out _ A1.out).mono ?_
  rintro e w2 ⟨rfl, G0⟩
  clear hlt x0 x1 x2 x3 x4
  have q := (FR.out _ _ G0.out).1
  have x0 := block_cell q 0
  have x1 := block_cell q 1
  have x2 := block_cell q 2
  have x3 := block_cell q 3
  have x4 := block_cell q 4
  simp at x0 x1 x2 x3 x4
  have hlt := block_lt q
  clear q
  go_wp2_with fail
  refine (N1.out _ G0.out).mono ?_
  rintro e w3 ⟨rfl, G1⟩
  clear hlt x0 x1 x2 x3 x4
  have q := (FR.out _ _ G1.out).1
  have x0 := block_cell q 0
  have x1 := block_cell q 1
  have x2 := block_cell q 2
  have x3 := block_cell q 3
  have x4 := block_cell q 4
  simp at x0 x1 x2 x3 x4
  have hlt := block_lt q
  clear q
  go_wp2_with fail
  refine (N2.out _ G1.out).mono ?_
  rintro e w4 ⟨rfl, G2⟩
  go_wp2
  go_end0
  exact ⟨rfl, (FR.out _ _ G2.out).2⟩
set_option maxRecDepth 10000 in
set_option maxHeartbeats 800000 in
theorem layDeal_any {base p : Nat} {w W : World} {s : WS} (h : Wa base p w s W) (x : De) (hx : x.ok) : Calls Tryz.prog 60 #[.pointer (some ⟨p, 0, none⟩), .agg #[.int .u64 (x.a : Int), .int .u64 (x.b : Int), .int .u64 (x.c : Int), .int .u64 (x.d : Int), .int .u64 (x.e : Int), .int .u64 (x.f : Int), .int .u64 (x.g : Int), .int .i64 x.ph, .int .u64 (x.p : Int), .int .u64 (x.q : Int), .int .u64 (x.r : Int), .int .u64 (x.z : Int), .string x.t]] W fun e W' => e = .returned (.tuple #[]) ∧ Hid (Wa base p w (lDe s x) W') := by
  obtain ⟨W1, hW1⟩ : ∃ W1, W.alloc (.cells #[.int .u64 (x.a : Int), .int .u64 (x.b : Int), .int .u64 (x.c : Int), .int .u64 (x.d : Int), .int .u64 (x.e : Int), .int .u64 (x.f : Int), .int .u64 (x.g : Int), .int .i64 x.ph, .int .u64 (x.p : Int), .int .u64 (x.q : Int), .int .u64 (x.r : Int), .int .u64 (x.z : Int), .string x.t] 58) = W1 := ⟨_, rfl⟩
  have k1 : Wk base p s W1 := by rw [← hW1]; exact h.k.quiet ((Below.refl _ W).alloc (Nat.le_refl _) _)
  have A1 := hide (Wa.start k1)
  have FR : Hid (∀ s' V, Wa base p W1 s' V → V.heap[W.heap.size]? = some (.cells #[.int .u64 (x.a : Int), .int .u64 (x.b : Int), .int .u64 (x.c : Int), .int .u64 (x.d : Int), .int .u64 (x.e : Int), .int .u64 (x.f : Int), .int .u64 (x.g : Int), .int .i64 x.ph, .int .u64 (x.p : Int), .int .u64 (x.q : Int), .int .u64 (x.r : Int), .int .u64 (x.z : Int), .string x.t] 58 (0, 0)) ∧ Wa base p w s' V) := fun s' V hv => ⟨h.k.box (by rw [hW1]; exact hv), h.trans (h.k.from_ (by rw [hW1]; exact hv))⟩
  have N0 : Hid (∀ V, Wa base p W1 (s) V → Calls Tryz.prog 57 #[.pointer (some ⟨p, 0, none⟩), .slice (some ⟨V.heap.size, 0, none⟩) 7 7] (V.alloc (.cells #[.int .u64 (x.a : Int), .int .u64 (x.b : Int), .int .u64 (x.c : Int), .int .u64 (x.d : Int), .int .u64 (x.e : Int), .int .u64 (x.f : Int), .int .u64 (x.g : Int)] 22)) fun e W' => e = .returned (.tuple #[]) ∧ Hid (Wa base p W1 (lNs s [x.a, x.b, x.c, x.d, x.e, x.f, x.g]) W')) := fun V hv => nums_new hv [x.a, x.b, x.c, x.d, x.e, x.f, x.g] hx.a rfl (by simp) rfl rfl
  have N1 : Hid (∀ V, Wa base p W1 (lNs s [x.a, x.b, x.c, x.d, x.e, x.f, x.g]) V → Calls Tryz.prog 22 #[.pointer (some ⟨p, 0, none⟩), .int .u8 x.ph] V fun e W' => e = .returned (.tuple #[]) ∧ Hid (Wa base p W1 (lO (lNs s [x.a, x.b, x.c, x.d, x.e, x.f, x.g]) x.ph.toNat) W')) := fun V hv => u8_w hv x.ph.toNat x.ph (by have := hx.k; omega) (by have := hx.k; omega)
  have N2 : Hid (∀ V, Wa base p W1 (lO (lNs s [x.a, x.b, x.c, x.d, x.e, x.f, x.g]) x.ph.toNat) V → Calls Tryz.prog 57 #[.pointer (some ⟨p, 0, none⟩), .slice (some ⟨V.heap.size, 0, none⟩) 4 4] (V.alloc (.cells #[.int .u64 (x.p : Int), .int .u64 (x.q : Int), .int .u64 (x.r : Int), .int .u64 (x.z : Int)] 22)) fun e W' => e = .returned (.tuple #[]) ∧ Hid (Wa base p W1 (lNs (lO (lNs s [x.a, x.b, x.c, x.d, x.e, x.f, x.g]) x.ph.toNat) [x.p, x.q, x.r, x.z]) W')) := fun V hv => nums_new hv [x.p, x.q, x.r, x.z] hx.p rfl (by simp) rfl rfl
  have N3 : Hid (∀ V, Wa base p W1 (lNs (lO (lNs s [x.a, x.b, x.c, x.d, x.e, x.f, x.g]) x.ph.toNat) [x.p, x.q, x.r, x.z]) V → Calls Tryz.prog 106 #[.pointer (some ⟨p, 0, none⟩), .slice (some ⟨V.heap.size, 0, none⟩) x.t.size (grownCap V x.t.size 0 5), .int .i64 512] (Go.Lib.bytesWorld V 5 x.t) fun e W' => e = .returned (.tuple #[]) ∧ Hid (Wa base p W1 (lDe s x) W')) := fun V hv => blob_w (hv.quiet (bytesW_below V 5 x.t)) _ _ _ (strB x.t) 512 (bytesW_shows V x.t (by have := hx.t; omega)) (fun b off e hf => by
    cases e
    have := (hv.k.foot ((Foot.old (bytesW_below V 5 x.t) hv.k.lt).1 hf)).2
    omega)
  have HCV : Hid (∀ V, (convert 9 36 (.string x.t)).run Tryz.prog V = .ok (.slice (some ⟨V.heap.size, 0, none⟩) x.t.size (grownCap V x.t.size 0 5)) (Go.Lib.bytesWorld V 5 x.t)) := fun V => Go.Lib.run_convert_string_bytes (P := Tryz.prog) V 9 36 5 x.t (u := .string) Tryz.underlying9 Tryz.underlying36 Tryz.underlying5
  have hw8 : IntKind.u8.wrap x.ph = x.ph := by rw [IntKind.wrap_u8]; have := hx.k; omega
  have HW1 := hide hW1
  clear h hW1 k1 hx
  go_enter Tryz.func60, Tryz.ntmps60
  go_upto_region 1 with fail
  rw [HW1.out]
  have q := (FR.out _ _ A1.out).1
  have x0 := block_cell q 0
  have x1 := block_cell q 1
  have x2 := block_cell q 2
  have x3 := block_cell q 3
  have x4 := block_cell q 4
  have x5 := block_cell q 5
  have x6 := block_cell q 6
  simp at x0 x1 x2 x3 x4 x5 x6
  have hlt := block_lt q
  clear q
  go_wp2_with fail
  refine (N0.out _ A1.out).mono ?_
  rintro e w2 ⟨rfl, G0⟩
  clear hlt x0 x1 x2 x3 x4 x5 x6
  have q := (FR.out _ _ G0.out).1
  have x7 := block_cell q 7
  simp at x7
  have hlt := block_lt q
  clear q
  go_wp2_with fail
  refine (N1.out _ G0.out).mono ?_
  rintro e w3 ⟨rfl, G1⟩
  clear hlt x7
  have q := (FR.out _ _ G1.out).1
  have x8 := block_cell q 8
  have x9 := block_cell q 9
  have x10 := block_cell q 10
  have x11 := block_cell q 11
  simp at x8 x9 x10 x11
  have hlt := block_lt q
  clear q
  go_wp2_with fail
  refine (N2.out _ G1.out).mono ?_
  rintro e w4 ⟨rfl, G2⟩
  clear hlt x8 x9 x10 x11
  have q := (FR.out _ _ G2.out).1
  have x12 := block_cell q 12
  simp at x12
  have hlt := block_lt q
  clear q
  have hcv := HCV.out w4
  go_wp2_with fail
  refine (N3.out _ G2.out).mono ?_
  rintro e w5 ⟨rfl, G3⟩
  go_wp2
  go_end0
  exact ⟨rfl, (FR.out _ _ G3.out).2⟩
set_option maxRecDepth 10000 in
set_option maxHeartbeats 800000 in
theorem laySession_any {base p : Nat} {w W : World} {s : WS} (h : Wa base p w s W) (x : Sn) (hx : x.ok) (hd : x.dn p W) : Calls Tryz.prog 62 #[.pointer (some ⟨p, 0, none⟩), .agg #[.int .u64 (x.cl : Int), .int .u64 (x.sq : Int), .int .u64 (x.st : Int), .int .i64 x.cd, .slice x.co x.cn x.cc]] W fun e W' => e = .returned (.tuple #[]) ∧ Hid (Wa base p w (lSn s x) W') := by
  obtain ⟨W1, hW1⟩ : ∃ W1, W.alloc (.cells #[.int .u64 (x.cl : Int), .int .u64 (x.sq : Int), .int .u64 (x.st : Int), .int .i64 x.cd, .slice x.co x.cn x.cc] 61) = W1 := ⟨_, rfl⟩
  have k1 : Wk base p s W1 := by rw [← hW1]; exact h.k.quiet ((Below.refl _ W).alloc (Nat.le_refl _) _)
  have A1 := hide (Wa.start k1)
  have FR : Hid (∀ s' V, Wa base p W1 s' V → V.heap[W.heap.size]? = some (.cells #[.int .u64 (x.cl : Int), .int .u64 (x.sq : Int), .int .u64 (x.st : Int), .int .i64 x.cd, .slice x.co x.cn x.cc] 61 (0, 0)) ∧ Wa base p w s' V) := fun s' V hv => ⟨h.k.box (by rw [hW1]; exact hv), h.trans (h.k.from_ (by rw [hW1]; exact hv))⟩
  have HCD : ((x.cd.toNat : Nat) : Int) = x.cd := by have := hx.k; omega
  have N0 : Hid (∀ V, Wa base p W1 s V → Calls Tryz.prog 57 #[.pointer (some ⟨p, 0, none⟩), .slice (some ⟨V.heap.size, 0, none⟩) 4 4] (V.alloc (.cells #[.int .u64 (x.cl : Int), .int .u64 (x.sq : Int), .int .u64 (x.st : Int), .int .u64 x.cd] 22)) fun e W' => e = .returned (.tuple #[]) ∧ Hid (Wa base p W1 (lNs s [x.cl, x.sq, x.st, x.cd.toNat]) W')) := fun V hv => nums_new hv [x.cl, x.sq, x.st, x.cd.toNat] hx.a rfl (by simp) (by simp only [nvs, List.map_cons, List.map_nil, HCD]) rfl
  have b1 : Below W.heap.size W W1 := by rw [← hW1]; exact (Below.refl _ W).alloc (Nat.le_refl _) _
  have hd1 : Shows p W1 x.co x.cn x.cc x.D := hd.sh.deep (b1.mono (Nat.le_of_lt h.k.lt))
  have N1 : Hid (∀ V, Wa base p W1 (lNs s [x.cl, x.sq, x.st, x.cd.toNat]) V → Calls Tryz.prog 106 #[.pointer (some ⟨p, 0, none⟩), .slice x.co x.cn x.cc, .int .i64 256] V fun e W' => e = .returned (.tuple #[]) ∧ Hid (Wa base p W1 (lSn s x) W')) := fun V hv => blob_w hv _ _ _ x.D 256 (hd1.deep (Wa.below k1 hv)) (fun b off e hf => by
    have := (hv.k.foot hf).1
    have := hd.lt b off e
    omega)
  have hw64 : IntKind.u64.wrap x.cd = x.cd := by have := hx.k; simp [IntKind.wrap, IntKind.bits, IntKind.signed]; omega
  clear hd hd1 b1 HCD
  have HW1 := hide hW1
  clear h hW1 k1 hx
  go_enter Tryz.func62, Tryz.ntmps62
  go_upto_region 1 with fail
  rw [HW1.out]
  have q := (FR.out _ _ A1.out).1
  have x0 := block_cell q 0
  have x1 := block_cell q 1
  have x2 := block_cell q 2
  have x3 := block_cell q 3
  simp at x0 x1 x2 x3
  have hlt := block_lt q
  clear q
  go_wp2_with fail
  refine (N0.out _ A1.out).mono ?_
  rintro e w2 ⟨rfl, G0⟩
  clear hlt x0 x1 x2 x3
  have q := (FR.out _ _ G0.out).1
  have x4 := block_cell q 4
  simp at x4
  have hlt := block_lt q
  clear q
  go_wp2_with fail
  refine (N1.out _ G0.out).mono ?_
  rintro e w3 ⟨rfl, G1⟩
  go_wp2
  go_end0
  exact ⟨rfl, (FR.out _ _ G1.out).2⟩
end Go.Proofs.YtiijbboigebhcaaGreatDoor
