import Derived.Test.YtggpaljilpbmhaaGreatDoorW21
import Derived.Test.YtggpaljilpbmhaaGreatDoorW49
import Derived.BigQuiet
import Derived.Test.YtggpaljilpbmhaaGreatDoorW29
import Derived.Test.YtggpaljilpbmhaaGreatDoorW18
import Derived.Deep.DeepAppendRoom
import Derived.Deep.DeepAppendWide
namespace Go.Proofs.YtggpaljilpbmhaaGreatDoor
open Go.RowKit Go.Sort

def ndc (l : List (Int × Int)) : List Value := l.flatMap (fun x => [.int .i64 x.1, .int .u64 x.2, .string ⟨#[]⟩])
def opc (l : List (Int × Int)) : List Value := l.flatMap (fun x => [.int .i64 x.1, .int .u64 x.2])
def itc (l : List Int) : List Value := l.map (fun x => .int .i64 x)
theorem opc_len (l : List (Int × Int)) : (opc l).length = l.length * 2 := by
 induction l with
 | nil => rfl
 | cons y l ih => have e : opc (y :: l) = [.int .i64 y.1, .int .u64 y.2] ++ opc l := rfl; rw [e, List.length_append, ih]; simp; omega
/-- The four slices of a growth. -/
structure Gv where
 (aN aE aA aO : Option Addr) (cN cE cA cO : Nat)
/-- A growth as it lies. -/
structure Gr (B gb : Nat) (v : Gv) (L : List (Int × Int)) (E A : List Int) (O : List (Int × Int)) (w : World) : Prop where
 blk : w.heap[gb]? = some (.cells #[.slice v.aN L.length v.cN, .slice v.aE E.length v.cE, .slice v.aA A.length v.cA, .slice v.aO O.length v.cO] 222 (0, 0))
 n : w.ownsRow B 121 3 (.slice v.aN L.length v.cN) L.length (ndc L)
 e : w.ownsRow B 3 1 (.slice v.aE E.length v.cE) E.length (itc E)
 a : w.ownsRow B 3 1 (.slice v.aA A.length v.cA) A.length (itc A)
 o : w.ownsRow B 257 2 (.slice v.aO O.length v.cO) O.length (opc O)
 ap : ∀ x y, v.aE = some x → v.aA = some y → x.block ≠ y.block
section
variable {B gb : Nat} {v : Gv} {L : List (Int × Int)} {E A : List Int} {O : List (Int × Int)} {w w' : World}
theorem Gr.next (h : Gr B gb v L E A O w) (hb : Below w.heap.size w w') : Gr B gb v L E A O w' :=
 ⟨(hb.block _ (block_lt h.blk)).trans h.blk, own_keep h.n hb, own_keep h.e hb, own_keep h.a hb, own_keep h.o hb, h.ap⟩
/-- Where a row's cells lie. -/
theorem own_at {t : TypeId} {sz n c : Nat} {a : Option Addr} {xs : List Value} (h : w.ownsRow B t sz (.slice a n c) n xs) (hn : 0 < n) : ∃ b, a = some ⟨b, 0, none⟩ ∧ b < w.heap.size ∧ n ≤ c ∧ (∀ i u, xs[i]? = some u → w.cell? ⟨b, i, none⟩ = some u) ∧ ∀ i, w.frozen? ⟨b, i, none⟩ = false := by
 rcases h.2 with ⟨e, h0⟩ | ⟨g, cap, cur, e, hb, hc, hnc, _, hsz, htk⟩
 ·omega
 ·cases e
  refine ⟨g, rfl, block_lt hc, hnc, fun i u hi => ?_, fun i => block_free hc i⟩
  have hl := (List.getElem?_eq_some_iff.1 hi).1
  have hx := h.1
  rw [← htk, List.getElem?_take, if_pos (by omega)] at hi
  rw [block_cell hc i]
  simpa using hi
set_option maxRecDepth 10000 in
theorem endedC (h : Gr B gb v L E A O w) {b : Bool} (hb : b = (decide (0 < L.length) && decide (O.length = 0))) : Calls Tryz.prog 147 #[.pointer (some ⟨gb, 0, none⟩)] w fun e w' => e = .returned (.bool b) ∧ w' = w := by
 have c0 := block_cell h.blk 0
 have c3 := block_cell h.blk 3
 have cl := block_lt h.blk
 simp at c0 c3
 have HB := hide hb
 clear h hb
 generalize L.length = n at *
 generalize O.length = m at *
 by_cases h1 : 0 < n
 ·have d1 : decide ((n : Int) > 0) = true := by simp; omega
  have e2 : b = ((m : Int) == 0) := by rw [HB.out]; simp [h1]; rw [Bool.eq_iff_iff]; simp
  subst e2
  clear HB
  go_enter Tryz.func147, Tryz.ntmps147
  go_wp2
  go_ret
  exact ⟨rfl, rfl⟩
 ·have d1 : decide ((n : Int) > 0) = false := by simp; omega
  have e2 : b = false := by rw [HB.out]; simp [h1]
  subst e2
  clear HB
  go_enter Tryz.func147, Tryz.ntmps147
  go_wp2
  go_ret
  exact ⟨rfl, rfl⟩
set_option maxRecDepth 10000 in
theorem place0 (h : Gr B gb v L E A [] w) : Calls Tryz.prog 171 #[.pointer (some ⟨gb, 0, none⟩)] w fun e w' => e = .returned (.int .u8 116) ∧ w' = w := by
 have c3 := block_cell h.blk 3
 have cl := block_lt h.blk
 simp at c3
 clear h
 go_enter Tryz.func171, Tryz.ntmps171
 go_wp2
 go_ret
 exact ⟨rfl, rfl⟩
end
end Go.Proofs.YtggpaljilpbmhaaGreatDoor
namespace Go.Proofs.YtggpaljilpbmhaaGreatDoor
open Go.RowKit Go.Sort

section
variable {B gb : Nat} {v : Gv} {ev kk : Int} {w : World}
set_option maxRecDepth 10000 in
set_option maxHeartbeats 3200000 in
theorem place1 (h : Gr B gb v [(1, 1)] [0] [0] [(0, 0)] w) : Calls Tryz.prog 171 #[.pointer (some ⟨gb, 0, none⟩)] w fun e w' => e = .returned (.int .u8 114) ∧ Hid (Below w.heap.size w w') := by
 obtain ⟨bo, eo, lo, ko, co, _⟩ := own_at h.o (by simp)
 obtain ⟨bn, en, ln, kn, cn, _⟩ := own_at h.n (by simp)
 have c0 := block_cell h.blk 0
 have c3 := block_cell h.blk 3
 have cl := block_lt h.blk
 simp at c0 c3 ko kn
 rw [en] at c0
 rw [eo] at c3
 have d0 := co 0 _ rfl
 have d1 := co 1 _ rfl
 have n0 := cn 0 _ rfl
 have hfd := field_parts
 obtain ⟨W1, hW1⟩ : ∃ W1, (w.alloc (.cells #[.int .i64 0, .int .u64 0] 257)).drew = W1 := ⟨_, rfl⟩
 have B1 : Below w.heap.size w W1 := by rw [← hW1]; exact (below_alloc1 w _).drew
 have A1 : W1.heap[w.heap.size]? = some (.cells #[.int .i64 0, .int .u64 0] 257 (0, 0)) := by rw [← hW1]; exact alloc_atK w _
 have z0 := (B1.cell (p := ⟨gb, 0, none⟩) cl).trans c0
 have y0 := (B1.cell (p := ⟨bn, 0, none⟩) ln).trans n0
 have u0 := block_cell A1 0
 have u1 := block_cell A1 1
 have ul := block_lt A1
 simp at u0 u1
 have k0 := cell_regrown z0
 have k1 := cell_regrown y0
 have k2 := cell_regrown u0
 have HSQ : ∀ d os, Calls Tryz.prog 154 #[.int .i64 1] (grow (redrawn W1 d) os) fun e w'' => e = .returned (.agg (shA 1)) ∧ ∃ p : Regrown, w'' = grow (redrawn W1 p.d) p.os := fun d os => Calls.regrown_of ((shapeOf4 1 (by decide) _).mono fun e w' q => ⟨q.1, q.2.out⟩)
 simp [shA] at HSQ
 have HB1 := hide B1
 have HW1 := hide hW1
 clear h co cn en eo hW1 B1 A1 z0 y0
 go_enter Tryz.func171, Tryz.ntmps171
 go_upto_region 3 with fail
 go_region
 rw [HW1.out]
 clear HW1 c0 c3 d0 d1 n0
 go_upto_region 4 with fail
 refine wp_region_quiet_below (by kernel_rfl) (by kernel_rfl) ?_
 repeat (quiet_step (first | exact HSQ _ _))
 refine wpQuiet_nil ?_
 intro w8 hw'
 obtain ⟨⟨dq, osq⟩, hw''⟩ := hw'
 have B8 : Below W1.heap.size W1 w8 := by rw [hw'']; exact below_regrown W1 dq osq
 have u0' := (B8.cell (p := ⟨w.heap.size, 0, none⟩) ul).trans u0
 have u1' := (B8.cell (p := ⟨w.heap.size, 1, none⟩) ul).trans u1
 have ul' := Nat.lt_of_lt_of_le ul B8.size
 have HB8 := hide (HB1.out.trans (B8.mono HB1.out.size))
 clear hw'' k0 k1 k2 HSQ u0 u1 ul B8 hfd
 go_wp2
 go_ret
 exact ⟨rfl, HB8⟩
set_option maxRecDepth 10000 in
set_option maxHeartbeats 3200000 in
theorem place2 (h : Gr B gb v [(1, 1), (2, ev)] [0, 0] [0, 0] [(0, 0), (1, 0)] w) : Calls Tryz.prog 171 #[.pointer (some ⟨gb, 0, none⟩)] w fun e w' => e = .returned (.int .u8 98) ∧ Hid (Below w.heap.size w w') := by
 obtain ⟨bo, eo, lo, ko, co, _⟩ := own_at h.o (by simp)
 obtain ⟨bn, en, ln, kn, cn, _⟩ := own_at h.n (by simp)
 have c0 := block_cell h.blk 0
 have c3 := block_cell h.blk 3
 have cl := block_lt h.blk
 simp at c0 c3 ko kn
 rw [en] at c0
 rw [eo] at c3
 have d0 := co 2 _ rfl
 have d1 := co 3 _ rfl
 have n0 := cn 3 _ rfl
 have hfd := field_parts
 obtain ⟨W1, hW1⟩ : ∃ W1, (w.alloc (.cells #[.int .i64 1, .int .u64 0] 257)).drew = W1 := ⟨_, rfl⟩
 have B1 : Below w.heap.size w W1 := by rw [← hW1]; exact (below_alloc1 w _).drew
 have A1 : W1.heap[w.heap.size]? = some (.cells #[.int .i64 1, .int .u64 0] 257 (0, 0)) := by rw [← hW1]; exact alloc_atK w _
 have z0 := (B1.cell (p := ⟨gb, 0, none⟩) cl).trans c0
 have y0 := (B1.cell (p := ⟨bn, 3, none⟩) ln).trans n0
 have u0 := block_cell A1 0
 have u1 := block_cell A1 1
 have ul := block_lt A1
 simp at u0 u1
 have k0 := cell_regrown z0
 have k1 := cell_regrown y0
 have k2 := cell_regrown u0
 have HSQ : ∀ d os, Calls Tryz.prog 154 #[.int .i64 2] (grow (redrawn W1 d) os) fun e w'' => e = .returned (.agg (shA 2)) ∧ ∃ p : Regrown, w'' = grow (redrawn W1 p.d) p.os := fun d os => Calls.regrown_of ((shapeOf4 2 (by decide) _).mono fun e w' q => ⟨q.1, q.2.out⟩)
 simp [shA] at HSQ
 have HB1 := hide B1
 have HW1 := hide hW1
 clear h co cn en eo hW1 B1 A1 z0 y0
 go_enter Tryz.func171, Tryz.ntmps171
 go_upto_region 3 with fail
 go_region
 rw [HW1.out]
 clear HW1 c0 c3 d0 d1 n0
 go_upto_region 4 with fail
 refine wp_region_quiet_below (by kernel_rfl) (by kernel_rfl) ?_
 repeat (quiet_step (first | exact HSQ _ _))
 refine wpQuiet_nil ?_
 intro w8 hw'
 obtain ⟨⟨dq, osq⟩, hw''⟩ := hw'
 have B8 : Below W1.heap.size W1 w8 := by rw [hw'']; exact below_regrown W1 dq osq
 have u0' := (B8.cell (p := ⟨w.heap.size, 0, none⟩) ul).trans u0
 have u1' := (B8.cell (p := ⟨w.heap.size, 1, none⟩) ul).trans u1
 have ul' := Nat.lt_of_lt_of_le ul B8.size
 have HB8 := hide (HB1.out.trans (B8.mono HB1.out.size))
 clear hw'' k0 k1 k2 HSQ u0 u1 ul B8 hfd
 go_wp2
 go_ret
 exact ⟨rfl, HB8⟩
set_option maxRecDepth 10000 in
set_option maxHeartbeats 3200000 in
theorem place3 (h : Gr B gb v [(1, 1), (2, ev), (3, 1)] [0, 0, 0] [0, 0, 1] [(0, 0), (1, 0), (2, 0)] w) : Calls Tryz.prog 171 #[.pointer (some ⟨gb, 0, none⟩)] w fun e w' => e = .returned (.int .u8 115) ∧ Hid (Below w.heap.size w w') := by
 obtain ⟨bo, eo, lo, ko, co, _⟩ := own_at h.o (by simp)
 obtain ⟨bn, en, ln, kn, cn, _⟩ := own_at h.n (by simp)
 have c0 := block_cell h.blk 0
 have c3 := block_cell h.blk 3
 have cl := block_lt h.blk
 simp at c0 c3 ko kn
 rw [en] at c0
 rw [eo] at c3
 have d0 := co 4 _ rfl
 have d1 := co 5 _ rfl
 have n0 := cn 6 _ rfl
 have hfd := field_parts
 obtain ⟨W1, hW1⟩ : ∃ W1, (w.alloc (.cells #[.int .i64 2, .int .u64 0] 257)).drew = W1 := ⟨_, rfl⟩
 have B1 : Below w.heap.size w W1 := by rw [← hW1]; exact (below_alloc1 w _).drew
 have A1 : W1.heap[w.heap.size]? = some (.cells #[.int .i64 2, .int .u64 0] 257 (0, 0)) := by rw [← hW1]; exact alloc_atK w _
 have z0 := (B1.cell (p := ⟨gb, 0, none⟩) cl).trans c0
 have y0 := (B1.cell (p := ⟨bn, 6, none⟩) ln).trans n0
 have u0 := block_cell A1 0
 have u1 := block_cell A1 1
 have ul := block_lt A1
 simp at u0 u1
 have k0 := cell_regrown z0
 have k1 := cell_regrown y0
 have k2 := cell_regrown u0
 have HSQ : ∀ d os, Calls Tryz.prog 154 #[.int .i64 3] (grow (redrawn W1 d) os) fun e w'' => e = .returned (.agg (shA 3)) ∧ ∃ p : Regrown, w'' = grow (redrawn W1 p.d) p.os := fun d os => Calls.regrown_of ((shapeOf4 3 (by decide) _).mono fun e w' q => ⟨q.1, q.2.out⟩)
 simp [shA] at HSQ
 have HB1 := hide B1
 have HW1 := hide hW1
 clear h co cn en eo hW1 B1 A1 z0 y0
 go_enter Tryz.func171, Tryz.ntmps171
 go_upto_region 3 with fail
 go_region
 rw [HW1.out]
 clear HW1 c0 c3 d0 d1 n0
 go_upto_region 4 with fail
 refine wp_region_quiet_below (by kernel_rfl) (by kernel_rfl) ?_
 repeat (quiet_step (first | exact HSQ _ _))
 refine wpQuiet_nil ?_
 intro w8 hw'
 obtain ⟨⟨dq, osq⟩, hw''⟩ := hw'
 have B8 : Below W1.heap.size W1 w8 := by rw [hw'']; exact below_regrown W1 dq osq
 have u0' := (B8.cell (p := ⟨w.heap.size, 0, none⟩) ul).trans u0
 have u1' := (B8.cell (p := ⟨w.heap.size, 1, none⟩) ul).trans u1
 have ul' := Nat.lt_of_lt_of_le ul B8.size
 have HB8 := hide (HB1.out.trans (B8.mono HB1.out.size))
 clear hw'' k0 k1 k2 HSQ u0 u1 ul B8 hfd
 go_wp2
 go_ret
 exact ⟨rfl, HB8⟩
set_option maxRecDepth 10000 in
set_option maxHeartbeats 3200000 in
theorem fits0 (h : Gr B gb v [] [] [] [] w) : Calls Tryz.prog 145 #[.pointer (some ⟨gb, 0, none⟩), .agg #[.int .i64 1, .int .u64 1, .string ⟨#[]⟩]] w fun e w' => e = .returned (.bool true) ∧ Hid (Below w.heap.size w w') := by
 obtain ⟨W1, hW1⟩ : ∃ W1, w.alloc (.cells #[.int .i64 1, .int .u64 1, .string ⟨#[]⟩] 121) = W1 := ⟨_, rfl⟩
 have B1 : Below w.heap.size w W1 := by rw [← hW1]; exact below_alloc1 w _
 have A1 : W1.heap[w.heap.size]? = some (.cells #[.int .i64 1, .int .u64 1, .string ⟨#[]⟩] 121 (0, 0)) := by rw [← hW1]; exact alloc_atK _ _
 have h1' := h.next B1
 have HEN := hide (endedC h1' (b := false) (by simp))
 have c3 := block_cell h1'.blk 3
 have cl := block_lt h1'.blk
 have x0 := block_cell A1 0
 have xl := block_lt A1
 simp at c3 x0
 have HSH : Hid (∀ w, Calls Tryz.prog 154 #[.int .i64 1] w fun e w' => e = .returned (.agg (shA 1)) ∧ Hid (Below w.heap.size w w')) := fun w => shapeOf4 1 (by decide) w
 simp [shA] at HSH
 have HG1 := hide h1'
 have HA1 := hide A1
 have HB1 := hide B1
 have HW1 := hide hW1
 clear h h1' hW1 A1 B1
 go_enter Tryz.func145, Tryz.ntmps145
 go_upto_region 1 with fail
 rw [HW1.out]
 clear HW1
 go_wp2_with fail
 refine HEN.out.mono ?_
 rintro e w1 ⟨rfl, hw1⟩
 subst hw1
 clear HEN
 go_wp2_with fail
 refine (HSH.out _).mono ?_
 rintro e w2 ⟨rfl, G2⟩
 clear HSH c3 cl x0 xl
 obtain ⟨W3, hW3⟩ : ∃ W3, w2.alloc (.cells #[.int .u8 116, .string ⟨#[114]⟩, .int .u64 1, .int .u64 18446744073709551615, .int .i64 0] 229) = W3 := ⟨_, rfl⟩
 have B3 : Below w2.heap.size w2 W3 := by rw [← hW3]; exact below_alloc1 _ _
 have A3 : W3.heap[w2.heap.size]? = some (.cells #[.int .u8 116, .string ⟨#[114]⟩, .int .u64 1, .int .u64 18446744073709551615, .int .i64 0] 229 (0, 0)) := by rw [← hW3]; exact alloc_atK _ _
 have B13 := G2.out.trans (B3.mono G2.out.size)
 have hg3 := HG1.out.next B13
 have a13 := (B13.block _ (block_lt HA1.out)).trans HA1.out
 have HBW := hide (HB1.out.trans (B13.mono HB1.out.size))
 have HPL : ∀ d os, Calls Tryz.prog 171 #[.pointer (some ⟨gb, 0, none⟩)] (grow (redrawn W3 d) os) fun e w'' => e = .returned (.int .u8 116) ∧ ∃ p : Regrown, w'' = grow (redrawn W3 p.d) p.os := fun d os => by
  have hg := hg3.next (below_regrown W3 d os)
  exact Calls.regrown_of ((place0 hg).mono (fun e w2 q => ⟨q.1, by rw [q.2]; exact Below.refl _ _⟩))
 have HNM : ∀ d os, Calls Tryz.prog 172 #[.string ⟨#[]⟩, .int .i64 0] (grow (redrawn W3 d) os) fun e w'' => e = .returned (.bool true) ∧ ∃ p : Regrown, w'' = grow (redrawn W3 p.d) p.os := fun d os => Calls.regrown_of ((isNamed0 _).mono (fun e w2 q => ⟨q.1, by rw [q.2]; exact Below.refl _ _⟩))
 have s0 := cell_regrown (block_cell A3 0)
 have s2 := cell_regrown (block_cell A3 2)
 have s3 := cell_regrown (block_cell A3 3)
 have s4 := cell_regrown (block_cell A3 4)
 have n1 := cell_regrown (block_cell a13 1)
 have n2 := cell_regrown (block_cell a13 2)
 have HW3 := hide hW3
 clear hW3 B3 A3 B13 hg3 a13 HG1 HA1 HB1 G2
 go_upto_region 4 with fail
 rw [HW3.out]
 clear HW3
 generalize w2.heap.size = sb at *
 refine wp_region_quiet_below (by kernel_rfl) (by kernel_rfl) ?_
 repeat (quiet_step (first | exact HPL _ _ | exact HNM _ _))
 refine wpQuiet_nil ?_
 intro w8 hw'
 obtain ⟨⟨dq, osq⟩, hw''⟩ := hw'
 have B8 : Below W3.heap.size W3 w8 := by rw [hw'']; exact below_regrown W3 dq osq
 have HB8 := hide (HBW.out.trans (B8.mono HBW.out.size))
 clear hw'' HPL HNM s0 s2 s3 s4 n1 n2
 go_wp2
 go_ret
 exact ⟨rfl, HB8⟩
set_option maxRecDepth 10000 in
set_option maxHeartbeats 3200000 in
theorem fits1 (h : Gr B gb v [(1, 1)] [0] [0] [(0, 0)] w) (h0 : 0 ≤ ev) (h1 : ev ≤ 5) : Calls Tryz.prog 145 #[.pointer (some ⟨gb, 0, none⟩), .agg #[.int .i64 2, .int .u64 ev, .string ⟨#[]⟩]] w fun e w' => e = .returned (.bool true) ∧ Hid (Below w.heap.size w w') := by
 have q0 : decide (0 ≤ ev) = true := by simpa using h0
 have q1 : decide (ev ≤ 5) = true := by simpa using h1
 obtain ⟨W1, hW1⟩ : ∃ W1, w.alloc (.cells #[.int .i64 2, .int .u64 ev, .string ⟨#[]⟩] 121) = W1 := ⟨_, rfl⟩
 have B1 : Below w.heap.size w W1 := by rw [← hW1]; exact below_alloc1 w _
 have A1 : W1.heap[w.heap.size]? = some (.cells #[.int .i64 2, .int .u64 ev, .string ⟨#[]⟩] 121 (0, 0)) := by rw [← hW1]; exact alloc_atK _ _
 have h1' := h.next B1
 have HEN := hide (endedC h1' (b := false) (by simp))
 have c3 := block_cell h1'.blk 3
 have cl := block_lt h1'.blk
 have x0 := block_cell A1 0
 have xl := block_lt A1
 simp at c3 x0
 have HSH : Hid (∀ w, Calls Tryz.prog 154 #[.int .i64 2] w fun e w' => e = .returned (.agg (shA 2)) ∧ Hid (Below w.heap.size w w')) := fun w => shapeOf4 2 (by decide) w
 simp [shA] at HSH
 have HG1 := hide h1'
 have HA1 := hide A1
 have HB1 := hide B1
 have HW1 := hide hW1
 clear h h1' hW1 A1 B1
 go_enter Tryz.func145, Tryz.ntmps145
 go_upto_region 1 with fail
 rw [HW1.out]
 clear HW1
 go_wp2_with fail
 refine HEN.out.mono ?_
 rintro e w1 ⟨rfl, hw1⟩
 subst hw1
 clear HEN
 go_wp2_with fail
 refine (HSH.out _).mono ?_
 rintro e w2 ⟨rfl, G2⟩
 clear HSH c3 cl x0 xl
 obtain ⟨W3, hW3⟩ : ∃ W3, w2.alloc (.cells #[.int .u8 114, .string ⟨#[98]⟩, .int .u64 0, .int .u64 5, .int .i64 0] 229) = W3 := ⟨_, rfl⟩
 have B3 : Below w2.heap.size w2 W3 := by rw [← hW3]; exact below_alloc1 _ _
 have A3 : W3.heap[w2.heap.size]? = some (.cells #[.int .u8 114, .string ⟨#[98]⟩, .int .u64 0, .int .u64 5, .int .i64 0] 229 (0, 0)) := by rw [← hW3]; exact alloc_atK _ _
 have B13 := G2.out.trans (B3.mono G2.out.size)
 have hg3 := HG1.out.next B13
 have a13 := (B13.block _ (block_lt HA1.out)).trans HA1.out
 have HBW := hide (HB1.out.trans (B13.mono HB1.out.size))
 have HPL : ∀ d os, Calls Tryz.prog 171 #[.pointer (some ⟨gb, 0, none⟩)] (grow (redrawn W3 d) os) fun e w'' => e = .returned (.int .u8 114) ∧ ∃ p : Regrown, w'' = grow (redrawn W3 p.d) p.os := fun d os => by
  have hg := hg3.next (below_regrown W3 d os)
  exact Calls.regrown_of ((place1 hg).mono (fun e w2 q => ⟨q.1, q.2.out⟩))
 have HNM : ∀ d os, Calls Tryz.prog 172 #[.string ⟨#[]⟩, .int .i64 0] (grow (redrawn W3 d) os) fun e w'' => e = .returned (.bool true) ∧ ∃ p : Regrown, w'' = grow (redrawn W3 p.d) p.os := fun d os => Calls.regrown_of ((isNamed0 _).mono (fun e w2 q => ⟨q.1, by rw [q.2]; exact Below.refl _ _⟩))
 have s0 := cell_regrown (block_cell A3 0)
 have s2 := cell_regrown (block_cell A3 2)
 have s3 := cell_regrown (block_cell A3 3)
 have s4 := cell_regrown (block_cell A3 4)
 have n1 := cell_regrown (block_cell a13 1)
 have n2 := cell_regrown (block_cell a13 2)
 have HW3 := hide hW3
 clear hW3 B3 A3 B13 hg3 a13 HG1 HA1 HB1 G2
 go_upto_region 4 with fail
 rw [HW3.out]
 clear HW3
 generalize w2.heap.size = sb at *
 refine wp_region_quiet_below (by kernel_rfl) (by kernel_rfl) ?_
 repeat (quiet_step (first | exact HPL _ _ | exact HNM _ _))
 refine wpQuiet_nil ?_
 intro w8 hw'
 obtain ⟨⟨dq, osq⟩, hw''⟩ := hw'
 have B8 : Below W3.heap.size W3 w8 := by rw [hw'']; exact below_regrown W3 dq osq
 have HB8 := hide (HBW.out.trans (B8.mono HBW.out.size))
 clear hw'' HPL HNM s0 s2 s3 s4 n1 n2
 go_wp2
 go_ret
 exact ⟨rfl, HB8⟩
set_option maxRecDepth 10000 in
set_option maxHeartbeats 3200000 in
theorem fits2 (h : Gr B gb v [(1, 1), (2, ev)] [0, 0] [0, 0] [(0, 0), (1, 0)] w) : Calls Tryz.prog 145 #[.pointer (some ⟨gb, 0, none⟩), .agg #[.int .i64 3, .int .u64 1, .string ⟨#[]⟩]] w fun e w' => e = .returned (.bool true) ∧ Hid (Below w.heap.size w w') := by
 obtain ⟨W1, hW1⟩ : ∃ W1, w.alloc (.cells #[.int .i64 3, .int .u64 1, .string ⟨#[]⟩] 121) = W1 := ⟨_, rfl⟩
 have B1 : Below w.heap.size w W1 := by rw [← hW1]; exact below_alloc1 w _
 have A1 : W1.heap[w.heap.size]? = some (.cells #[.int .i64 3, .int .u64 1, .string ⟨#[]⟩] 121 (0, 0)) := by rw [← hW1]; exact alloc_atK _ _
 have h1' := h.next B1
 have HEN := hide (endedC h1' (b := false) (by simp))
 have c3 := block_cell h1'.blk 3
 have cl := block_lt h1'.blk
 have x0 := block_cell A1 0
 have xl := block_lt A1
 simp at c3 x0
 have HSH : Hid (∀ w, Calls Tryz.prog 154 #[.int .i64 3] w fun e w' => e = .returned (.agg (shA 3)) ∧ Hid (Below w.heap.size w w')) := fun w => shapeOf4 3 (by decide) w
 simp [shA] at HSH
 have HG1 := hide h1'
 have HA1 := hide A1
 have HB1 := hide B1
 have HW1 := hide hW1
 clear h h1' hW1 A1 B1
 go_enter Tryz.func145, Tryz.ntmps145
 go_upto_region 1 with fail
 rw [HW1.out]
 clear HW1
 go_wp2_with fail
 refine HEN.out.mono ?_
 rintro e w1 ⟨rfl, hw1⟩
 subst hw1
 clear HEN
 go_wp2_with fail
 refine (HSH.out _).mono ?_
 rintro e w2 ⟨rfl, G2⟩
 clear HSH c3 cl x0 xl
 obtain ⟨W3, hW3⟩ : ∃ W3, w2.alloc (.cells #[.int .u8 98, .string ⟨#[115]⟩, .int .u64 0, .int .u64 18446744073709551615, .int .i64 0] 229) = W3 := ⟨_, rfl⟩
 have B3 : Below w2.heap.size w2 W3 := by rw [← hW3]; exact below_alloc1 _ _
 have A3 : W3.heap[w2.heap.size]? = some (.cells #[.int .u8 98, .string ⟨#[115]⟩, .int .u64 0, .int .u64 18446744073709551615, .int .i64 0] 229 (0, 0)) := by rw [← hW3]; exact alloc_atK _ _
 have B13 := G2.out.trans (B3.mono G2.out.size)
 have hg3 := HG1.out.next B13
 have a13 := (B13.block _ (block_lt HA1.out)).trans HA1.out
 have HBW := hide (HB1.out.trans (B13.mono HB1.out.size))
 have HPL : ∀ d os, Calls Tryz.prog 171 #[.pointer (some ⟨gb, 0, none⟩)] (grow (redrawn W3 d) os) fun e w'' => e = .returned (.int .u8 98) ∧ ∃ p : Regrown, w'' = grow (redrawn W3 p.d) p.os := fun d os => by
  have hg := hg3.next (below_regrown W3 d os)
  exact Calls.regrown_of ((place2 hg).mono (fun e w2 q => ⟨q.1, q.2.out⟩))
 have HNM : ∀ d os, Calls Tryz.prog 172 #[.string ⟨#[]⟩, .int .i64 0] (grow (redrawn W3 d) os) fun e w'' => e = .returned (.bool true) ∧ ∃ p : Regrown, w'' = grow (redrawn W3 p.d) p.os := fun d os => Calls.regrown_of ((isNamed0 _).mono (fun e w2 q => ⟨q.1, by rw [q.2]; exact Below.refl _ _⟩))
 have s0 := cell_regrown (block_cell A3 0)
 have s2 := cell_regrown (block_cell A3 2)
 have s3 := cell_regrown (block_cell A3 3)
 have s4 := cell_regrown (block_cell A3 4)
 have n1 := cell_regrown (block_cell a13 1)
 have n2 := cell_regrown (block_cell a13 2)
 have HW3 := hide hW3
 clear hW3 B3 A3 B13 hg3 a13 HG1 HA1 HB1 G2
 go_upto_region 4 with fail
 rw [HW3.out]
 clear HW3
 generalize w2.heap.size = sb at *
 refine wp_region_quiet_below (by kernel_rfl) (by kernel_rfl) ?_
 repeat (quiet_step (first | exact HPL _ _ | exact HNM _ _))
 refine wpQuiet_nil ?_
 intro w8 hw'
 obtain ⟨⟨dq, osq⟩, hw''⟩ := hw'
 have B8 : Below W3.heap.size W3 w8 := by rw [hw'']; exact below_regrown W3 dq osq
 have HB8 := hide (HBW.out.trans (B8.mono HBW.out.size))
 clear hw'' HPL HNM s0 s2 s3 s4 n1 n2
 go_wp2
 go_ret
 exact ⟨rfl, HB8⟩
set_option maxRecDepth 10000 in
set_option maxHeartbeats 3200000 in
theorem fits3 (h : Gr B gb v [(1, 1), (2, ev), (3, 1)] [0, 0, 0] [0, 0, 1] [(0, 0), (1, 0), (2, 0)] w) (h0 : 1 ≤ kk) (h1 : kk ≤ 999) : Calls Tryz.prog 145 #[.pointer (some ⟨gb, 0, none⟩), .agg #[.int .i64 12, .int .u64 kk, .string ⟨#[]⟩]] w fun e w' => e = .returned (.bool true) ∧ Hid (Below w.heap.size w w') := by
 have q0 : decide (1 ≤ kk) = true := by simpa using h0
 have q1 : decide (kk ≤ 999) = true := by simpa using h1
 obtain ⟨W1, hW1⟩ : ∃ W1, w.alloc (.cells #[.int .i64 12, .int .u64 kk, .string ⟨#[]⟩] 121) = W1 := ⟨_, rfl⟩
 have B1 : Below w.heap.size w W1 := by rw [← hW1]; exact below_alloc1 w _
 have A1 : W1.heap[w.heap.size]? = some (.cells #[.int .i64 12, .int .u64 kk, .string ⟨#[]⟩] 121 (0, 0)) := by rw [← hW1]; exact alloc_atK _ _
 have h1' := h.next B1
 have HEN := hide (endedC h1' (b := false) (by simp))
 have c3 := block_cell h1'.blk 3
 have cl := block_lt h1'.blk
 have x0 := block_cell A1 0
 have xl := block_lt A1
 simp at c3 x0
 have HSH : Hid (∀ w, Calls Tryz.prog 154 #[.int .i64 12] w fun e w' => e = .returned (.agg (shA 12)) ∧ Hid (Below w.heap.size w w')) := fun w => shapeOf4 12 (by decide) w
 simp [shA] at HSH
 have HG1 := hide h1'
 have HA1 := hide A1
 have HB1 := hide B1
 have HW1 := hide hW1
 clear h h1' hW1 A1 B1
 go_enter Tryz.func145, Tryz.ntmps145
 go_upto_region 1 with fail
 rw [HW1.out]
 clear HW1
 go_wp2_with fail
 refine HEN.out.mono ?_
 rintro e w1 ⟨rfl, hw1⟩
 subst hw1
 clear HEN
 go_wp2_with fail
 refine (HSH.out _).mono ?_
 rintro e w2 ⟨rfl, G2⟩
 clear HSH c3 cl x0 xl
 obtain ⟨W3, hW3⟩ : ∃ W3, w2.alloc (.cells #[.int .u8 115, .string ⟨#[]⟩, .int .u64 1, .int .u64 999, .int .i64 0] 229) = W3 := ⟨_, rfl⟩
 have B3 : Below w2.heap.size w2 W3 := by rw [← hW3]; exact below_alloc1 _ _
 have A3 : W3.heap[w2.heap.size]? = some (.cells #[.int .u8 115, .string ⟨#[]⟩, .int .u64 1, .int .u64 999, .int .i64 0] 229 (0, 0)) := by rw [← hW3]; exact alloc_atK _ _
 have B13 := G2.out.trans (B3.mono G2.out.size)
 have hg3 := HG1.out.next B13
 have a13 := (B13.block _ (block_lt HA1.out)).trans HA1.out
 have HBW := hide (HB1.out.trans (B13.mono HB1.out.size))
 have HPL : ∀ d os, Calls Tryz.prog 171 #[.pointer (some ⟨gb, 0, none⟩)] (grow (redrawn W3 d) os) fun e w'' => e = .returned (.int .u8 115) ∧ ∃ p : Regrown, w'' = grow (redrawn W3 p.d) p.os := fun d os => by
  have hg := hg3.next (below_regrown W3 d os)
  exact Calls.regrown_of ((place3 hg).mono (fun e w2 q => ⟨q.1, q.2.out⟩))
 have HNM : ∀ d os, Calls Tryz.prog 172 #[.string ⟨#[]⟩, .int .i64 0] (grow (redrawn W3 d) os) fun e w'' => e = .returned (.bool true) ∧ ∃ p : Regrown, w'' = grow (redrawn W3 p.d) p.os := fun d os => Calls.regrown_of ((isNamed0 _).mono (fun e w2 q => ⟨q.1, by rw [q.2]; exact Below.refl _ _⟩))
 have s0 := cell_regrown (block_cell A3 0)
 have s2 := cell_regrown (block_cell A3 2)
 have s3 := cell_regrown (block_cell A3 3)
 have s4 := cell_regrown (block_cell A3 4)
 have n1 := cell_regrown (block_cell a13 1)
 have n2 := cell_regrown (block_cell a13 2)
 have HW3 := hide hW3
 clear hW3 B3 A3 B13 hg3 a13 HG1 HA1 HB1 G2
 go_upto_region 4 with fail
 rw [HW3.out]
 clear HW3
 generalize w2.heap.size = sb at *
 refine wp_region_quiet_below (by kernel_rfl) (by kernel_rfl) ?_
 repeat (quiet_step (first | exact HPL _ _ | exact HNM _ _))
 refine wpQuiet_nil ?_
 intro w8 hw'
 obtain ⟨⟨dq, osq⟩, hw''⟩ := hw'
 have B8 : Below W3.heap.size W3 w8 := by rw [hw'']; exact below_regrown W3 dq osq
 have HB8 := hide (HBW.out.trans (B8.mono HBW.out.size))
 clear hw'' HPL HNM s0 s2 s3 s4 n1 n2
 go_wp2
 go_ret
 exact ⟨rfl, HB8⟩
end
end Go.Proofs.YtggpaljilpbmhaaGreatDoor
namespace Go.Proofs.YtggpaljilpbmhaaGreatDoor
open Go.RowKit

theorem own_cutL {w : World} {B m cap sz : Nat} {t : TypeId} {ao : Option Addr} {h : Nat} {xs : List Value} (ho : w.ownsRow B t sz (.slice ao h cap) h xs) (hm : m ≤ h) : w.ownsRow B t sz (.slice ao m cap) m (xs.take (m * sz)) := by
 have hl : m * sz ≤ h * sz := Nat.mul_le_mul_right _ hm
 refine ⟨by rw [List.length_take, ho.1]; omega, ?_⟩
 rcases ho.2 with ⟨e, h0⟩ | ⟨g, cp, cur, e, hb, hc, hnc, hx, hsz, htk⟩
 ·cases e
  obtain rfl : m = 0 := by omega
  exact .inl ⟨rfl, rfl⟩
 ·cases e
  refine .inr ⟨g, cap, cur, rfl, hb, hc, by omega, hx, hsz, ?_⟩
  rw [← htk, List.take_take, Nat.min_eq_left hl]
section
variable {P : Program} {ops : Array Oper} {rest : List Oper} {o : Oper} {a : Act} {Q : Exit → Act → World → Prop}
/-- Appended to a list of its own: what the old list shows stays. -/
theorem wpList_append_keepL (w : World) (hgd : o.guard = none) (s x : Operand) (t : TypeId)
  (ho : o.op = .call { callee := .builtin .append, args := #[s, x], argTypes := #[t, t] })
  (base : Nat) (e : TypeId) (i : TypeInfo) (z : Value) (size bytes : Nat) (ht : P.underlying t = some (.slice e)) (hi : P.info? e = some i) (hz : i.zero = some z)
  (hsize : i.size = size) (hby : i.bytes = bytes) (hzs : z.cells.size = size) (hsz : 0 < size)
  (v : Value) (n : Nat) (xs : List Value) (hs : a.eval s = v) (hown : w.ownsRow base e size v n xs)
  (ad : Addr) (m c : Nat) (news : List Value) (hx : a.eval x = .slice (some ad) m c) (hl : news.length = m * size) (hnews : ∀ j u, news[j]? = some u → w.cell? (ad.add j) = some u) (h1 : ∀ u ∈ news, u.oneCell' = true)
  (hm : 0 < m) (h63 : n + m ≤ maxLen) (hbytes : (n + m) * bytes ≤ 140737488355328) (hbase : base ≤ w.heap.size)
  (h : ∀ v' w', w'.ownsRow base e size v' (n + m) (xs ++ news) → w.grownBy w' v.ownBlock → w'.ownsRow base e size v n xs → (∀ g, v'.ownBlock = some g → v.ownBlock = some g ∨ w.heap.size ≤ g) → wpList P ops Q rest (a.put o.dst v') w') : wpList P ops Q (o :: rest) a w := by
 rcases hown.2 with ⟨rfl, rfl⟩ | ⟨g, cap, cur, rfl, hbg, hg, hnc, hcm, hcs, htake⟩
 ·have hxs : xs = [] := List.eq_nil_of_length_eq_zero (by have := hown.1; omega)
  subst hxs
  refine wpList_append_grows w hgd s x t ho e i z size bytes ht hi hz hsize hby hzs hsz none 0 0 [] hs (fun _ => ⟨rfl, rfl⟩) (by simp) (fun b hb => by cases hb) ad m c news hx hl hnews h1 (by omega) h63 hbytes ?_
  intro v' w' hown' hgrow
  refine h v' w' ?_ ⟨hgrow.os, hgrow.tape, hgrow.output, hgrow.size, hgrow.block⟩ (World.ownsRow_nil _ _ _ _) (fun g hg => .inr (hown'.lt g hg).1)
  exact own_low hown' hbase
 ·by_cases hroom : n + m ≤ cap
  ·refine wpList_append_own_spare w hgd s x t ho base e i size ht hi hsize g n cap xs hs hown ad m c news hx hl hnews h1 hroom ?_
   intro w' hown' hgrow
   refine h _ w' hown' hgrow ?_ (fun g' hg' => .inl hg')
   have q := own_cutL hown' (m := n) (by omega)
   have e1 : (xs ++ news).take (n * size) = xs := by
    rw [← hown.1]
    simp
   rw [e1] at q
   exact q
  ·have holds : ∀ b, some (⟨g, 0, none⟩ : Addr) = some b → ∀ j u, xs[j]? = some u → w.cell? (b.add j) = some u := by
    intro b hb j u hj
    cases hb
    exact hown.cells rfl j u hj
   refine wpList_append_grows w hgd s x t ho e i z size bytes ht hi hz hsize hby hzs hsz (some ⟨g, 0, none⟩) n cap xs hs (fun h => by cases h) hown.1 holds ad m c news hx hl hnews h1 (by omega) h63 hbytes ?_
   intro v' w' hown' hgrow
   have hb : Below w.heap.size w w' := ⟨hgrow.os, hgrow.tape, hgrow.output, hgrow.size, fun k hk => hgrow.block k hk (by simp)⟩
   exact h v' w' (own_low hown' hbase) ⟨hgrow.os, hgrow.tape, hgrow.output, hgrow.size, fun k hk _ => hgrow.block k hk (by simp)⟩ (own_keep hown hb) (fun g hg => .inr (hown'.lt g hg).1)
end

theorem Tryz.infoTN : (Tryz.prog.info? 121).map (fun i => (i.zero, i.size, i.bytes)) = some (some (.agg #[.int .i64 0, .int .u64 0, .string ⟨#[]⟩]), 3, 32) := by kernel_rfl
theorem Tryz.infoUF : (Tryz.prog.info? 257).map (fun i => (i.zero, i.size, i.bytes)) = some (some (.agg #[.int .i64 0, .int .u64 0]), 2, 16) := by kernel_rfl
section
variable {w w' w1 w2 : World} {B B' n sz n' sz' : Nat} {t t' : TypeId} {v v' : Value} {xs xs' : List Value}
theorem own_offR (h : w.ownsRow B t sz v n xs) (hq : w.ownsRow B' t' sz' v' n' xs') (ht : t' ≠ t) (hg : w.grownBy w' v'.ownBlock) : w'.ownsRow B t sz v n xs := by
 cases e : v'.ownBlock with
 | none => rw [e] at hg; exact World.ownsRow.kept h hg (by cases e3 : v.ownBlock with | none => exact .inl rfl | some q => exact .inr (by simp))
 | some q =>
  obtain ⟨_, cs, hc⟩ := own_typ2 hq e
  rw [e] at hg
  exact own_offT h hc ht hg
theorem blk_offR {b : Nat} {cs : Array Value} {z : Nat × Nat} (hb : w.heap[b]? = some (.cells cs t z)) (hq : w.ownsRow B' t' sz' v' n' xs') (ht : t' ≠ t) (hg : w.grownBy w' v'.ownBlock) : w'.heap[b]? = some (.cells cs t z) := by
 refine (hg.block b (Array.getElem?_eq_some_iff.1 hb).1 (fun e => ?_)).trans hb
 obtain ⟨_, cs', hc⟩ := own_typ2 hq e.symm
 rw [hc] at hb
 cases hb
 exact ht rfl
end
section
variable {B gb : Nat} {v : Gv} {L : List (Int × Int)} {E A : List Int} {O : List (Int × Int)} {w w1 w2 : World}
theorem ndc_snoc (L : List (Int × Int)) (x : Int × Int) : ndc (L ++ [x]) = ndc L ++ [.int .i64 x.1, .int .u64 x.2, .string ⟨#[]⟩] := by simp [ndc]
theorem opc_snoc (L : List (Int × Int)) (x : Int × Int) : opc (L ++ [x]) = opc L ++ [.int .i64 x.1, .int .u64 x.2] := by simp [opc]
theorem itc_snoc (L : List Int) (x : Int) : itc (L ++ [x]) = itc L ++ [.int .i64 x] := by simp [itc]
theorem Gr.appN (h : Gr B gb v L E A O w) (hlt : gb < B) {x : Int × Int} {a : Option Addr} {c : Nat} (hb : Below w.heap.size w w1) (ho : w2.ownsRow B 121 3 (.slice a (L.length + 1) c) (L.length + 1) (ndc L ++ [.int .i64 x.1, .int .u64 x.2, .string ⟨#[]⟩])) (hg : w1.grownBy w2 (Value.slice v.aN L.length v.cN).ownBlock) :
  Gr B gb { v with aN := a, cN := c } (L ++ [x]) E A O (w2.setCell ⟨gb, 0, none⟩ (.slice a (L.length + 1) c)) ∧ w2.heap[gb]? = some (.cells #[.slice v.aN L.length v.cN, .slice v.aE E.length v.cE, .slice v.aA A.length v.cA, .slice v.aO O.length v.cO] 222 (0, 0)) ∧ Below gb w w2 := by
 have h1 := h.next hb
 have b2 := blk_offR h1.blk h1.n (by decide) hg
 have hle : gb ≤ w.heap.size := Nat.le_of_lt (block_lt h.blk)
 have bel : Below gb w w2 := (hb.mono hle).grown hg (Nat.le_trans hle hb.size) (fun q e => by have := (h1.n.lt q e).1; omega)
 have gs := grown_setT w2 gb 0 (.slice a (L.length + 1) c)
 have bs := heap_setCell_same w2 gb 0 _ _ (.slice a (L.length + 1) c) b2
 refine ⟨⟨?_, ?_, ?_, ?_, ?_, h.ap⟩, b2, bel⟩
 ·rw [bs]; simp
 ·have q := own_offT ho b2 (by decide) gs
  rw [← ndc_snoc] at q
  simpa using q
 ·exact own_offT (own_offR h1.e h1.n (by decide) hg) b2 (by decide) gs
 ·exact own_offT (own_offR h1.a h1.n (by decide) hg) b2 (by decide) gs
 ·exact own_offT (own_offR h1.o h1.n (by decide) hg) b2 (by decide) gs
theorem Gr.appO (h : Gr B gb v L E A O w) (hlt : gb < B) {x : Int × Int} {a : Option Addr} {c : Nat} (hb : Below w.heap.size w w1) (ho : w2.ownsRow B 257 2 (.slice a (O.length + 1) c) (O.length + 1) (opc O ++ [.int .i64 x.1, .int .u64 x.2])) (hg : w1.grownBy w2 (Value.slice v.aO O.length v.cO).ownBlock) :
  Gr B gb { v with aO := a, cO := c } L E A (O ++ [x]) (w2.setCell ⟨gb, 3, none⟩ (.slice a (O.length + 1) c)) ∧ w2.heap[gb]? = some (.cells #[.slice v.aN L.length v.cN, .slice v.aE E.length v.cE, .slice v.aA A.length v.cA, .slice v.aO O.length v.cO] 222 (0, 0)) ∧ Below gb w w2 := by
 have h1 := h.next hb
 have b2 := blk_offR h1.blk h1.o (by decide) hg
 have hle : gb ≤ w.heap.size := Nat.le_of_lt (block_lt h.blk)
 have bel : Below gb w w2 := (hb.mono hle).grown hg (Nat.le_trans hle hb.size) (fun q e => by have := (h1.o.lt q e).1; omega)
 have gs := grown_setT w2 gb 3 (.slice a (O.length + 1) c)
 have bs := heap_setCell_same w2 gb 3 _ _ (.slice a (O.length + 1) c) b2
 refine ⟨⟨?_, ?_, ?_, ?_, ?_, h.ap⟩, b2, bel⟩
 ·rw [bs]; simp
 ·exact own_offT (own_offR h1.n h1.o (by decide) hg) b2 (by decide) gs
 ·exact own_offT (own_offR h1.e h1.o (by decide) hg) b2 (by decide) gs
 ·exact own_offT (own_offR h1.a h1.o (by decide) hg) b2 (by decide) gs
 ·have q := own_offT ho b2 (by decide) gs
  rw [← opc_snoc] at q
  simpa using q
theorem own_blk {a : Option Addr} {n c q : Nat} (e : (Value.slice a n c).ownBlock = some q) : ∃ x, a = some x ∧ x.block = q := by
 cases a with
 | none => simp [Value.ownBlock] at e
 | some x => simp [Value.ownBlock] at e; exact ⟨x, rfl, e⟩
theorem own_offI {B' n sz n' c c' : Nat} {t : TypeId} {a a' : Option Addr} {xs : List Value} (h : w1.ownsRow B' t sz (.slice a n c) n xs) (hne : ∀ x y, a = some x → a' = some y → x.block ≠ y.block) (hg : w1.grownBy w2 (Value.slice a' n' c').ownBlock) : w2.ownsRow B' t sz (.slice a n c) n xs := by
 refine World.ownsRow.kept h hg ?_
 cases a with
 | none => exact .inl rfl
 | some x =>
  refine .inr (fun e => ?_)
  obtain ⟨y, hy, hq⟩ := own_blk e.symm
  exact hne x y rfl hy hq.symm
theorem Gr.appA (h : Gr B gb v L E A O w) (hlt : gb < B) {x : Int} {a : Option Addr} {c : Nat} (hb : Below w.heap.size w w1) (ho : w2.ownsRow B 3 1 (.slice a (A.length + 1) c) (A.length + 1) (itc A ++ [.int .i64 x])) (hg : w1.grownBy w2 (Value.slice v.aA A.length v.cA).ownBlock) (hq : ∀ q, (Value.slice a (A.length + 1) c).ownBlock = some q → (Value.slice v.aA A.length v.cA).ownBlock = some q ∨ w1.heap.size ≤ q) :
  Gr B gb { v with aA := a, cA := c } L E (A ++ [x]) O (w2.setCell ⟨gb, 2, none⟩ (.slice a (A.length + 1) c)) ∧ w2.heap[gb]? = some (.cells #[.slice v.aN L.length v.cN, .slice v.aE E.length v.cE, .slice v.aA A.length v.cA, .slice v.aO O.length v.cO] 222 (0, 0)) ∧ Below gb w w2 := by
 have h1 := h.next hb
 have b2 := blk_offR h1.blk h1.a (by decide) hg
 have hle : gb ≤ w.heap.size := Nat.le_of_lt (block_lt h.blk)
 have bel : Below gb w w2 := (hb.mono hle).grown hg (Nat.le_trans hle hb.size) (fun q e => by have := (h1.a.lt q e).1; omega)
 have gs := grown_setT w2 gb 2 (.slice a (A.length + 1) c)
 have bs := heap_setCell_same w2 gb 2 _ _ (.slice a (A.length + 1) c) b2
 refine ⟨⟨?_, ?_, ?_, ?_, ?_, fun x y e1 e2 => ?_⟩, b2, bel⟩
 ·rw [bs]; simp
 ·exact own_offT (own_offR h1.n h1.a (by decide) hg) b2 (by decide) gs
 ·exact own_offT (own_offI h1.e h.ap hg) b2 (by decide) gs
 ·have q := own_offT ho b2 (by decide) gs
  rw [← itc_snoc] at q
  simpa using q
 ·exact own_offT (own_offR h1.o h1.a (by decide) hg) b2 (by decide) gs
 ·rcases hq y.block (by have e3 : a = some y := e2; rw [e3]; rfl) with q | q
  ·obtain ⟨z, hz, hz2⟩ := own_blk q
   rw [← hz2]
   exact h.ap x z e1 hz
  ·have := (h1.e.lt x.block (by rw [e1]; rfl)).2
   omega
theorem Gr.appE (h : Gr B gb v L E A O w) (hlt : gb < B) {x : Int} {a : Option Addr} {c : Nat} (hb : Below w.heap.size w w1) (ho : w2.ownsRow B 3 1 (.slice a (E.length + 1) c) (E.length + 1) (itc E ++ [.int .i64 x])) (hg : w1.grownBy w2 (Value.slice v.aE E.length v.cE).ownBlock) (hq : ∀ q, (Value.slice a (E.length + 1) c).ownBlock = some q → (Value.slice v.aE E.length v.cE).ownBlock = some q ∨ w1.heap.size ≤ q) :
  Gr B gb { v with aE := a, cE := c } L (E ++ [x]) A O (w2.setCell ⟨gb, 1, none⟩ (.slice a (E.length + 1) c)) ∧ w2.heap[gb]? = some (.cells #[.slice v.aN L.length v.cN, .slice v.aE E.length v.cE, .slice v.aA A.length v.cA, .slice v.aO O.length v.cO] 222 (0, 0)) ∧ Below gb w w2 := by
 have h1 := h.next hb
 have b2 := blk_offR h1.blk h1.e (by decide) hg
 have hle : gb ≤ w.heap.size := Nat.le_of_lt (block_lt h.blk)
 have bel : Below gb w w2 := (hb.mono hle).grown hg (Nat.le_trans hle hb.size) (fun q e => by have := (h1.e.lt q e).1; omega)
 have gs := grown_setT w2 gb 1 (.slice a (E.length + 1) c)
 have bs := heap_setCell_same w2 gb 1 _ _ (.slice a (E.length + 1) c) b2
 refine ⟨⟨?_, ?_, ?_, ?_, ?_, fun x y e1 e2 => ?_⟩, b2, bel⟩
 ·rw [bs]; simp
 ·exact own_offT (own_offR h1.n h1.e (by decide) hg) b2 (by decide) gs
 ·have q := own_offT ho b2 (by decide) gs
  rw [← itc_snoc] at q
  simpa using q
 ·exact own_offT (own_offI h1.a (fun x y e1 e2 => (h.ap y x e2 e1).symm) hg) b2 (by decide) gs
 ·exact own_offT (own_offR h1.o h1.e (by decide) hg) b2 (by decide) gs
 ·rcases hq x.block (by have e3 : a = some x := e1; rw [e3]; rfl) with q | q
  ·obtain ⟨z, hz, hz2⟩ := own_blk q
   rw [← hz2]
   exact h.ap z y hz e2
  ·have := (h1.a.lt y.block (by rw [e2]; rfl)).2
   omega
/-- A number of the ends is written. -/
theorem Gr.setE (h : Gr B gb v L E A O w) (hlt : gb < B) {i b : Nat} (he : v.aE = some ⟨b, 0, none⟩) (_hi : i < E.length) (x : Int) : Gr B gb v L (E.set i x) A O (w.setCell ⟨b, i, none⟩ (.int .i64 x)) ∧ Below gb w (w.setCell ⟨b, i, none⟩ (.int .i64 x)) := by
 have gs := grown_setT w b i (.int .i64 x)
 obtain ⟨hB, cs, hc⟩ := own_typ2 h.e (b := b) (by rw [he]; rfl)
 have hle : gb ≤ w.heap.size := Nat.le_of_lt (block_lt h.blk)
 have bel : Below gb w (w.setCell ⟨b, i, none⟩ (.int .i64 x)) := (Below.refl _ w).grown gs hle (fun q e => by cases e; omega)
 refine ⟨⟨?_, own_offT h.n hc (by decide) gs, ?_, ?_, own_offT h.o hc (by decide) gs, h.ap⟩, bel⟩
 ·rw [List.length_set]; exact (gs.block _ (block_lt h.blk) (by simp; omega)).trans h.blk
 ·have q := h.e
  rw [he] at q ⊢
  rcases q.2 with ⟨e, _⟩ | ⟨g', cap', cur, e, hb, hc', hnc, hm, hsz, htk⟩
  ·cases e
  ·cases e
   refine ⟨by simp [itc], .inr ⟨b, _, cur.setIfInBounds i (.int .i64 x), by simp, hb, ?_, by simpa using hnc, hm, by simpa using hsz, ?_⟩⟩
   ·simp [World.setCell, Array.getElem?_modify, hc']
   ·have e2 : itc (E.set i x) = (itc E).set i (.int .i64 x) := by simp [itc, List.map_set]
    rw [e2, ← htk, Array.toList_setIfInBounds, List.length_set, List.take_set]
 ·exact own_offI (n' := 0) (c' := 0) (a' := some ⟨b, 0, none⟩) h.a (fun x y e1 e2 => by rw [← he] at e2; exact (h.ap y x e2 e1).symm) gs
end
end Go.Proofs.YtggpaljilpbmhaaGreatDoor
