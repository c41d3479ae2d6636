import Derived.Test.YthbpacilceemlaaM29
namespace Go.Proofs.Ythbpacilceemlaa
open Go.RowKit Crc

theorem PairW.fresh {base pv : Nat} {po : Option Addr} {w w' : World} {s : WS} (h : PairW base pv po w s) (hg : w.grownBy w' none) {k : Nat} (hk : w.heap.size ≤ k) : ¬ FootP w' po k ∧ ¬ Foot w' pv 2 k := by
  have hkp : ∀ k, FootP w po k → w'.heap[k]? = w.heap[k]? := fun k hk => hg.block k (h.footP hk).2 (by simp)
  have hkr : ∀ k, Foot w pv 2 k → w'.heap[k]? = w.heap[k]? := fun k hk => hg.block k (h.ref.foot h.bpv hk).2 (by simp)
  refine ⟨fun hf => ?_, fun hf => ?_⟩
  · have := (h.footP ((FootP.keepAt hkp).1 hf)).2; omega
  · have := (h.ref.foot h.bpv ((Foot.keepAt (hkr pv (.inl rfl))).1 hf)).2; omega
/-- The program's step, behind a new block. -/
theorem lay_prog {base pv : Nat} {po : Option Addr} {w : World} {s : WS} (hP : PairW base pv po w s) (o : Obj) (F : List Nat) (y : Int) {f : Nat} {args : Array Value}
    (hc : ∀ wx, WrP base wx po s → base ≤ wx.heap.size → Calls Try.prog f args wx fun e w' => e = .returned (.tuple #[]) ∧ Hid (WrP base w' po (s.put F y) ∧ TchP wx w' po)) :
    Calls Try.prog f args (w.alloc o) fun e w1 => e = .returned (.tuple #[]) ∧ w1.heap[w.heap.size]? = some o ∧ Hid (WrP base w1 po (s.put F y) ∧ TchP (w.alloc o) w1 po) := by
  have hA := hP.alloc o
  refine (hc _ hA.1.prog hA.1.base_le).mono ?_
  rintro e w1 ⟨rfl, h⟩
  have hf := (hP.fresh (World.grownBy_alloc w o none) (Nat.le_refl _)).1
  exact ⟨rfl, ((h.out.2.keep hA.1).2.1 _ (by simp) hf).trans (heap_alloc_new w o), h⟩
/-- The reference's step, behind the program's. -/
theorem lay_ref {base pv : Nat} {po : Option Addr} {w : World} {s : WS} (hP : PairW base pv po w s) (o : Obj) (F : List Nat) (y : Int) {f : Nat} {args : Array Value}
    (hc : ∀ wx, RefW base wx pv s → base ≤ wx.heap.size → Calls Try.prog f args wx fun e w' => e = .returned (.tuple #[]) ∧ Hid (RefW base w' pv (s.put F y) ∧ Tch 2 wx w' pv)) (w1 : World) (h1 : WrP base w1 po (s.put F y) ∧ TchP (w.alloc o) w1 po) :
    Calls Try.prog f args w1 fun e w2 => e = .returned (.tuple #[]) ∧ Hid (ResW base pv po w w2) := by
  have hA := hP.alloc o
  have hr := hA.1.refAt h1.2
  refine (hc _ hr.1 hr.2.1).mono ?_
  rintro e w2 ⟨rfl, h⟩
  have hn := hA.1.next h1.1 h1.2 h.out.1 h.out.2
  exact ⟨rfl, ⟨_, hn.1⟩, hA.2.trans hn.2.1⟩
/-- One field, as lay gets it. -/
def opB (K : Int) (N : Nat) (I M : Int) (bo : Option Addr) (bn bc : Nat) (S : ByteArray) : Obj := .cells #[.int .i64 K, .int .u64 (N : Int), .int .i64 I, .slice bo bn bc, .string S, .int .i64 M] 31 (0, 0)

set_option maxRecDepth 10000 in
set_option maxHeartbeats 800000 in
theorem lay_1 {base pv : Nat} {po : Option Addr} {w : World} {s : WS} (N : Nat) (I M : Int) (bo : Option Addr) (bn bc : Nat) (S : ByteArray) (hP : PairW base pv po w s) :
    Calls Try.prog 8 #[.pointer po, .pointer (some ⟨pv, 0, none⟩), .agg #[.int .i64 1, .int .u64 (N : Int), .int .i64 I, .slice bo bn bc, .string S, .int .i64 M]] w fun e w' => e = .returned (.bool true) ∧ ResW base pv po w w' := by
  have HPR := hide (lay_prog hP (opB 1 N I M bo bn bc S) (big (N % 256) 1) 0 (f := 36) (args := #[.pointer po, .int .u8 ((N : Int) % 256)]) (fun wx h1 h2 => wU8P h1 hP.inv h2 (N % 256) _ (by omega) (by omega)))
  have HRF := hide (lay_ref hP (opB 1 N I M bo bn bc S) (big (N % 256) 1) 0 (f := 37) (args := #[.pointer (some ⟨pv, 0, none⟩), .int .u64 ((N : Int) % 256), .int .i64 1]) (fun wx h1 h2 => refWFixed h1 hP.inv h2 (N % 256) 1 _ _ (by omega) rfl (by omega)))
  have HI := hide hP.inv
  clear hP
  go_enter Try.func8, Try.ntmps8
  go_wp2_with fail
  refine HPR.out.mono ?_
  rintro e w1 ⟨rfl, hb1, H1⟩
  have HR1 := hide (HRF.out w1 H1.out)
  have c1 := block_cell hb1 1
  have c2 := block_cell hb1 2
  have c4 := block_cell hb1 4
  have c5 := block_cell hb1 5
  simp at c1 c2 c4 c5
  clear hb1 HPR HRF H1
  go_wp2_with fail
  refine HR1.out.mono ?_
  rintro e w2 ⟨rfl, H2⟩
  clear HR1
  go_wp2
  go_ret
  exact ⟨rfl, H2.out⟩

set_option maxRecDepth 10000 in
set_option maxHeartbeats 800000 in
theorem lay_2 {base pv : Nat} {po : Option Addr} {w : World} {s : WS} (N : Nat) (I M : Int) (bo : Option Addr) (bn bc : Nat) (S : ByteArray) (hP : PairW base pv po w s) :
    Calls Try.prog 8 #[.pointer po, .pointer (some ⟨pv, 0, none⟩), .agg #[.int .i64 2, .int .u64 (N : Int), .int .i64 I, .slice bo bn bc, .string S, .int .i64 M]] w fun e w' => e = .returned (.bool true) ∧ ResW base pv po w w' := by
  have HPR := hide (lay_prog hP (opB 2 N I M bo bn bc S) (big (N % 65536) 2) 0 (f := 38) (args := #[.pointer po, .int .u16 ((N : Int) % 65536)]) (fun wx h1 h2 => wU16P h1 hP.inv h2 (N % 65536) _ (by omega) (by omega)))
  have HRF := hide (lay_ref hP (opB 2 N I M bo bn bc S) (big (N % 65536) 2) 0 (f := 37) (args := #[.pointer (some ⟨pv, 0, none⟩), .int .u64 ((N : Int) % 65536), .int .i64 2]) (fun wx h1 h2 => refWFixed h1 hP.inv h2 (N % 65536) 2 _ _ (by omega) rfl (by omega)))
  have HI := hide hP.inv
  clear hP
  go_enter Try.func8, Try.ntmps8
  go_wp2_with fail
  refine HPR.out.mono ?_
  rintro e w1 ⟨rfl, hb1, H1⟩
  have HR1 := hide (HRF.out w1 H1.out)
  have c1 := block_cell hb1 1
  have c2 := block_cell hb1 2
  have c4 := block_cell hb1 4
  have c5 := block_cell hb1 5
  simp at c1 c2 c4 c5
  clear hb1 HPR HRF H1
  go_wp2_with fail
  refine HR1.out.mono ?_
  rintro e w2 ⟨rfl, H2⟩
  clear HR1
  go_wp2
  go_ret
  exact ⟨rfl, H2.out⟩

set_option maxRecDepth 10000 in
set_option maxHeartbeats 800000 in
theorem lay_3 {base pv : Nat} {po : Option Addr} {w : World} {s : WS} (N : Nat) (I M : Int) (bo : Option Addr) (bn bc : Nat) (S : ByteArray) (hP : PairW base pv po w s) :
    Calls Try.prog 8 #[.pointer po, .pointer (some ⟨pv, 0, none⟩), .agg #[.int .i64 3, .int .u64 (N : Int), .int .i64 I, .slice bo bn bc, .string S, .int .i64 M]] w fun e w' => e = .returned (.bool true) ∧ ResW base pv po w w' := by
  have HPR := hide (lay_prog hP (opB 3 N I M bo bn bc S) (big (N % 4294967296) 4) 0 (f := 39) (args := #[.pointer po, .int .u32 ((N : Int) % 4294967296)]) (fun wx h1 h2 => wU32P h1 hP.inv h2 (N % 4294967296) _ (by omega) (by omega)))
  have HRF := hide (lay_ref hP (opB 3 N I M bo bn bc S) (big (N % 4294967296) 4) 0 (f := 37) (args := #[.pointer (some ⟨pv, 0, none⟩), .int .u64 ((N : Int) % 4294967296), .int .i64 4]) (fun wx h1 h2 => refWFixed h1 hP.inv h2 (N % 4294967296) 4 _ _ (by omega) rfl (by omega)))
  have HI := hide hP.inv
  clear hP
  go_enter Try.func8, Try.ntmps8
  go_wp2_with fail
  refine HPR.out.mono ?_
  rintro e w1 ⟨rfl, hb1, H1⟩
  have HR1 := hide (HRF.out w1 H1.out)
  have c1 := block_cell hb1 1
  have c2 := block_cell hb1 2
  have c4 := block_cell hb1 4
  have c5 := block_cell hb1 5
  simp at c1 c2 c4 c5
  clear hb1 HPR HRF H1
  go_wp2_with fail
  refine HR1.out.mono ?_
  rintro e w2 ⟨rfl, H2⟩
  clear HR1
  go_wp2
  go_ret
  exact ⟨rfl, H2.out⟩

set_option maxRecDepth 10000 in
set_option maxHeartbeats 800000 in
theorem lay_4 {base pv : Nat} {po : Option Addr} {w : World} {s : WS} (N : Nat) (I M : Int) (bo : Option Addr) (bn bc : Nat) (S : ByteArray) (hP : PairW base pv po w s) (hN : N < 18446744073709551616) :
    Calls Try.prog 8 #[.pointer po, .pointer (some ⟨pv, 0, none⟩), .agg #[.int .i64 4, .int .u64 (N : Int), .int .i64 I, .slice bo bn bc, .string S, .int .i64 M]] w fun e w' => e = .returned (.bool true) ∧ ResW base pv po w w' := by
  have HPR := hide (lay_prog hP (opB 4 N I M bo bn bc S) (big N 8) 0 (f := 40) (args := #[.pointer po, .int .u64 (N : Int)]) (fun wx h1 h2 => wU64P h1 hP.inv h2 N _ rfl hN))
  have HRF := hide (lay_ref hP (opB 4 N I M bo bn bc S) (big N 8) 0 (f := 37) (args := #[.pointer (some ⟨pv, 0, none⟩), .int .u64 (N : Int), .int .i64 8]) (fun wx h1 h2 => refWFixed h1 hP.inv h2 N 8 _ _ rfl rfl (by omega)))
  have HI := hide hP.inv
  clear hP
  go_enter Try.func8, Try.ntmps8
  go_wp2_with fail
  refine HPR.out.mono ?_
  rintro e w1 ⟨rfl, hb1, H1⟩
  have HR1 := hide (HRF.out w1 H1.out)
  have c1 := block_cell hb1 1
  have c2 := block_cell hb1 2
  have c4 := block_cell hb1 4
  have c5 := block_cell hb1 5
  simp at c1 c2 c4 c5
  clear hb1 HPR HRF H1
  go_wp2_with fail
  refine HR1.out.mono ?_
  rintro e w2 ⟨rfl, H2⟩
  clear HR1
  go_wp2
  go_ret
  exact ⟨rfl, H2.out⟩

set_option maxRecDepth 10000 in
set_option maxHeartbeats 800000 in
theorem lay_5 {base pv : Nat} {po : Option Addr} {w : World} {s : WS} (N : Nat) (I M : Int) (bo : Option Addr) (bn bc : Nat) (S : ByteArray) (hP : PairW base pv po w s) (hN : N < 18446744073709551616) :
    Calls Try.prog 8 #[.pointer po, .pointer (some ⟨pv, 0, none⟩), .agg #[.int .i64 5, .int .u64 (N : Int), .int .i64 I, .slice bo bn bc, .string S, .int .i64 M]] w fun e w' => e = .returned (.bool true) ∧ ResW base pv po w w' := by
  have HPR := hide (lay_prog hP (opB 5 N I M bo bn bc S) (numB N) 0 (f := 41) (args := #[.pointer po, .int .u64 (N : Int)]) (fun wx h1 h2 => wNumP h1 hP.inv h2 N _ rfl hN))
  have HRF := hide (lay_ref hP (opB 5 N I M bo bn bc S) (numB N) 0 (f := 42) (args := #[.pointer (some ⟨pv, 0, none⟩), .int .u64 (N : Int)]) (fun wx h1 h2 => refWNum h1 hP.inv h2 N _ rfl hN))
  have HI := hide hP.inv
  clear hP
  go_enter Try.func8, Try.ntmps8
  go_wp2_with fail
  refine HPR.out.mono ?_
  rintro e w1 ⟨rfl, hb1, H1⟩
  have HR1 := hide (HRF.out w1 H1.out)
  have c1 := block_cell hb1 1
  have c2 := block_cell hb1 2
  have c4 := block_cell hb1 4
  have c5 := block_cell hb1 5
  simp at c1 c2 c4 c5
  clear hb1 HPR HRF H1
  go_wp2_with fail
  refine HR1.out.mono ?_
  rintro e w2 ⟨rfl, H2⟩
  clear HR1
  go_wp2
  go_ret
  exact ⟨rfl, H2.out⟩

set_option maxRecDepth 10000 in
set_option maxHeartbeats 800000 in
theorem lay_6 {base pv : Nat} {po : Option Addr} {w : World} {s : WS} (N : Nat) (I M : Int) (bo : Option Addr) (bn bc : Nat) (S : ByteArray) (hP : PairW base pv po w s) :
    Calls Try.prog 8 #[.pointer po, .pointer (some ⟨pv, 0, none⟩), .agg #[.int .i64 6, .int .u64 (N : Int), .int .i64 I, .slice bo bn bc, .string S, .int .i64 M]] w fun e w' => e = .returned (.bool true) ∧ ResW base pv po w w' := by
  have HPR := hide (lay_prog hP (opB 6 N I M bo bn bc S) (big (if ((N : Int) % 2 == 1) = true then 1 else 0) 1) 0 (f := 43) (args := #[.pointer po, .bool ((N : Int) % 2 == 1)]) (fun wx h1 h2 => wFlagP h1 hP.inv h2 ((N : Int) % 2 == 1)))
  have HRF := hide (lay_ref hP (opB 6 N I M bo bn bc S) (big (if ((N : Int) % 2 == 1) = true then 1 else 0) 1) 0 (f := 44) (args := #[.pointer (some ⟨pv, 0, none⟩), .bool ((N : Int) % 2 == 1)]) (fun wx h1 h2 => refWFlag h1 hP.inv h2 ((N : Int) % 2 == 1)))
  have HI := hide hP.inv
  clear hP
  go_enter Try.func8, Try.ntmps8
  go_wp2_with fail
  refine HPR.out.mono ?_
  rintro e w1 ⟨rfl, hb1, H1⟩
  have HR1 := hide (HRF.out w1 H1.out)
  have c1 := block_cell hb1 1
  have c2 := block_cell hb1 2
  have c4 := block_cell hb1 4
  have c5 := block_cell hb1 5
  simp at c1 c2 c4 c5
  clear hb1 HPR HRF H1
  go_wp2_with fail
  refine HR1.out.mono ?_
  rintro e w2 ⟨rfl, H2⟩
  clear HR1
  go_wp2
  go_ret
  exact ⟨rfl, H2.out⟩

set_option maxRecDepth 10000 in
set_option maxHeartbeats 800000 in
theorem lay_7 {base pv : Nat} {po : Option Addr} {w : World} {s : WS} (N : Nat) (I M : Int) (bo : Option Addr) (bn bc : Nat) (S : ByteArray) (hP : PairW base pv po w s) (hI1 : -9223372036854775808 ≤ I) (hI2 : I < 9223372036854775808) :
    Calls Try.prog 8 #[.pointer po, .pointer (some ⟨pv, 0, none⟩), .agg #[.int .i64 7, .int .u64 (N : Int), .int .i64 I, .slice bo bn bc, .string S, .int .i64 M]] w fun e w' => e = .returned (.bool true) ∧ ResW base pv po w w' := by
  have HPR := hide (lay_prog hP (opB 7 N I M bo bn bc S) (numB I.toNat) (cntY I M) (f := 45) (args := #[.pointer po, .int .i64 I, .int .i64 M]) (fun wx h1 h2 => wCountP h1 hP.inv h2 I M hI1 hI2))
  have HRF := hide (lay_ref hP (opB 7 N I M bo bn bc S) (numB I.toNat) (cntY I M) (f := 46) (args := #[.pointer (some ⟨pv, 0, none⟩), .int .i64 I, .int .i64 M]) (fun wx h1 h2 => refWCount h1 hP.inv h2 I M hI1 hI2))
  have HI := hide hP.inv
  clear hP
  go_enter Try.func8, Try.ntmps8
  go_wp2_with fail
  refine HPR.out.mono ?_
  rintro e w1 ⟨rfl, hb1, H1⟩
  have HR1 := hide (HRF.out w1 H1.out)
  have c1 := block_cell hb1 1
  have c2 := block_cell hb1 2
  have c4 := block_cell hb1 4
  have c5 := block_cell hb1 5
  simp at c1 c2 c4 c5
  clear hb1 HPR HRF H1
  go_wp2_with fail
  refine HR1.out.mono ?_
  rintro e w2 ⟨rfl, H2⟩
  clear HR1
  go_wp2
  go_ret
  exact ⟨rfl, H2.out⟩

set_option maxRecDepth 10000 in
set_option maxHeartbeats 800000 in
theorem lay_9 {base pv : Nat} {po : Option Addr} {w : World} {s : WS} (N : Nat) (I M : Int) (bo : Option Addr) (bn bc : Nat) (S : ByteArray) (hP : PairW base pv po w s) (hS : S.size ≤ 140737488351232) :
    Calls Try.prog 8 #[.pointer po, .pointer (some ⟨pv, 0, none⟩), .agg #[.int .i64 9, .int .u64 (N : Int), .int .i64 I, .slice bo bn bc, .string S, .int .i64 M]] w fun e w' => e = .returned (.bool true) ∧ ResW base pv po w w' := by
  have HPR := hide (lay_prog hP (opB 9 N I M bo bn bc S) (numB S.size ++ strB S) (txtY S M) (f := 49) (args := #[.pointer po, .string S, .int .i64 M]) (fun wx h1 h2 => wTextP h1 hP.inv h2 S M (by omega)))
  have HRF := hide (lay_ref hP (opB 9 N I M bo bn bc S) (numB S.size ++ strB S) (txtY S M) (f := 50) (args := #[.pointer (some ⟨pv, 0, none⟩), .string S, .int .i64 M]) (fun wx h1 h2 => refWText h1 hP.inv h2 S M hS))
  have HI := hide hP.inv
  clear hP
  go_enter Try.func8, Try.ntmps8
  go_wp2_with fail
  refine HPR.out.mono ?_
  rintro e w1 ⟨rfl, hb1, H1⟩
  have HR1 := hide (HRF.out w1 H1.out)
  have c1 := block_cell hb1 1
  have c2 := block_cell hb1 2
  have c4 := block_cell hb1 4
  have c5 := block_cell hb1 5
  simp at c1 c2 c4 c5
  clear hb1 HPR HRF H1
  go_wp2_with fail
  refine HR1.out.mono ?_
  rintro e w2 ⟨rfl, H2⟩
  clear HR1
  go_wp2
  go_ret
  exact ⟨rfl, H2.out⟩
end Go.Proofs.Ythbpacilceemlaa
