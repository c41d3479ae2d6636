import Derived.Test.YthbpacilceemlaaPReadsB
namespace Go.Proofs.Ythbpacilceemlaa
open Go.RowKit Crc

theorem Res.from {base limr d pv : Nat} {po : Option Addr} {w w1 w2 : World} (hk : Keep base w w1) (h : Res base limr d pv po w1 w2) : Res base limr d pv po w w2 := ⟨h.1, hk.trans h.2⟩
theorem Res.keep {base limr d pv : Nat} {po : Option Addr} {w w2 : World} {s : RS} (h : Pair base limr d pv po w2 s ∧ Keep base w w2) : Res base limr d pv po w w2 := ⟨⟨s, h.1⟩, h.2⟩
theorem Pair.drew {base limr d pv : Nat} {po : Option Addr} {w : World} {s : RS} (h : Pair base limr d pv po w s) : Pair base limr d pv po w.drew s ∧ Keep base w w.drew := h.quiet (row := none) ⟨rfl, rfl, rfl, Nat.le_refl _, fun _ _ _ => rfl⟩ (fun g e => by cases e)

set_option maxRecDepth 10000 in
set_option maxHeartbeats 1600000 in
theorem read_1 {base limr d pv : Nat} {po : Option Addr} {w : World} {s : RS} (N I M : Int) (bo : Option Addr) (bn bc : Nat) (S : ByteArray) (hP : Pair base limr d pv po w s) :
    Calls Try.prog 16 #[.pointer po, .pointer (some ⟨pv, 0, none⟩), .agg #[.int .i64 1, .int .u64 N, .int .i64 I, .slice bo bn bc, .string S, .int .i64 M]] w fun e w' => e = .returned (.bool true) ∧ Res base limr d pv po w w' := by
  have HA := hide (fun o => hP.alloc o)
  clear hP
  go_enter Try.func16, Try.ntmps16
  go_wp2_with fail
  refine (readFixed_1 (HA.out _).1).mono ?_
  rintro e w1 ⟨rfl, h1⟩
  have H1 := hide (Res.from (HA.out _).2 h1)
  clear h1
  go_wp2
  go_ret
  exact ⟨rfl, H1.out⟩

set_option maxRecDepth 10000 in
set_option maxHeartbeats 1600000 in
theorem read_2 {base limr d pv : Nat} {po : Option Addr} {w : World} {s : RS} (N I M : Int) (bo : Option Addr) (bn bc : Nat) (S : ByteArray) (hP : Pair base limr d pv po w s) :
    Calls Try.prog 16 #[.pointer po, .pointer (some ⟨pv, 0, none⟩), .agg #[.int .i64 2, .int .u64 N, .int .i64 I, .slice bo bn bc, .string S, .int .i64 M]] w fun e w' => e = .returned (.bool true) ∧ Res base limr d pv po w w' := by
  have HA := hide (fun o => hP.alloc o)
  clear hP
  go_enter Try.func16, Try.ntmps16
  go_wp2_with fail
  refine (readFixed_2 (HA.out _).1).mono ?_
  rintro e w1 ⟨rfl, h1⟩
  have H1 := hide (Res.from (HA.out _).2 h1)
  clear h1
  go_wp2
  go_ret
  exact ⟨rfl, H1.out⟩

set_option maxRecDepth 10000 in
set_option maxHeartbeats 1600000 in
theorem read_3 {base limr d pv : Nat} {po : Option Addr} {w : World} {s : RS} (N I M : Int) (bo : Option Addr) (bn bc : Nat) (S : ByteArray) (hP : Pair base limr d pv po w s) :
    Calls Try.prog 16 #[.pointer po, .pointer (some ⟨pv, 0, none⟩), .agg #[.int .i64 3, .int .u64 N, .int .i64 I, .slice bo bn bc, .string S, .int .i64 M]] w fun e w' => e = .returned (.bool true) ∧ Res base limr d pv po w w' := by
  have HA := hide (fun o => hP.alloc o)
  clear hP
  go_enter Try.func16, Try.ntmps16
  go_wp2_with fail
  refine (readFixed_3 (HA.out _).1).mono ?_
  rintro e w1 ⟨rfl, h1⟩
  have H1 := hide (Res.from (HA.out _).2 h1)
  clear h1
  go_wp2
  go_ret
  exact ⟨rfl, H1.out⟩

set_option maxRecDepth 10000 in
set_option maxHeartbeats 1600000 in
theorem read_4 {base limr d pv : Nat} {po : Option Addr} {w : World} {s : RS} (N I M : Int) (bo : Option Addr) (bn bc : Nat) (S : ByteArray) (hP : Pair base limr d pv po w s) :
    Calls Try.prog 16 #[.pointer po, .pointer (some ⟨pv, 0, none⟩), .agg #[.int .i64 4, .int .u64 N, .int .i64 I, .slice bo bn bc, .string S, .int .i64 M]] w fun e w' => e = .returned (.bool true) ∧ Res base limr d pv po w w' := by
  have HA := hide (fun o => hP.alloc o)
  clear hP
  go_enter Try.func16, Try.ntmps16
  go_wp2_with fail
  refine (readFixed_4 (HA.out _).1).mono ?_
  rintro e w1 ⟨rfl, h1⟩
  have H1 := hide (Res.from (HA.out _).2 h1)
  clear h1
  go_wp2
  go_ret
  exact ⟨rfl, H1.out⟩

set_option maxRecDepth 10000 in
set_option maxHeartbeats 1600000 in
theorem read_5 {base limr d pv : Nat} {po : Option Addr} {w : World} {s : RS} (N I M : Int) (bo : Option Addr) (bn bc : Nat) (S : ByteArray) (hP : Pair base limr d pv po w s) :
    Calls Try.prog 16 #[.pointer po, .pointer (some ⟨pv, 0, none⟩), .agg #[.int .i64 5, .int .u64 N, .int .i64 I, .slice bo bn bc, .string S, .int .i64 M]] w fun e w' => e = .returned (.bool true) ∧ Res base limr d pv po w w' := by
  have HA := hide (fun o => hP.alloc o)
  have HPR : Hid (∀ o, _) := fun o => rNumP (HA.out o).1.prog
  have HRF : Hid (∀ o w1 (hg : (w.alloc o).grownBy w1 (rowP po)), _) := fun o w1 hg => refNum_any d pv s w1 ((HA.out o).1.refAt hg)
  have HX := hide (fun o w1 w2 z y h1 h2 h3 h4 => Res.from (HA.out o).2 ((HA.out o).1.next (w1 := w1) (w2 := w2) (z := z) (y := y) h1 h2 h3 h4))
  generalize (numAt s.rest).1 = x at *
  clear hP
  go_enter Try.func16, Try.ntmps16
  go_wp2_with fail
  refine (HPR.out _).mono ?_
  rintro e w1 ⟨rfl, h1, h2⟩
  have H1 := hide (And.intro h1 h2)
  clear h1 h2
  go_wp2_with fail
  refine (HRF.out _ w1 H1.out.2).mono ?_
  rintro e w2 ⟨rfl, h3, h4⟩
  have H2 := hide (HX.out _ _ _ _ _ H1.out.1 H1.out.2 h3 h4)
  clear h3 h4
  go_wp2
  go_ret
  exact ⟨rfl, H2.out⟩

set_option maxRecDepth 10000 in
set_option maxHeartbeats 1600000 in
theorem read_6 {base limr d pv : Nat} {po : Option Addr} {w : World} {s : RS} (N I M : Int) (bo : Option Addr) (bn bc : Nat) (S : ByteArray) (hP : Pair base limr d pv po w s) :
    Calls Try.prog 16 #[.pointer po, .pointer (some ⟨pv, 0, none⟩), .agg #[.int .i64 6, .int .u64 N, .int .i64 I, .slice bo bn bc, .string S, .int .i64 M]] w fun e w' => e = .returned (.bool true) ∧ Res base limr d pv po w w' := by
  have HA := hide (fun o => hP.alloc o)
  have HPR : Hid (∀ o, _) := fun o => rFlagP (HA.out o).1.prog
  have HRF : Hid (∀ o w1 (hg : (w.alloc o).grownBy w1 (rowP po)), _) := fun o w1 hg => refFlag_any d pv s w1 ((HA.out o).1.refAt hg)
  have HX := hide (fun o w1 w2 z y h1 h2 h3 h4 => Res.from (HA.out o).2 ((HA.out o).1.next (w1 := w1) (w2 := w2) (z := z) (y := y) h1 h2 h3 h4))
  generalize flagV s.rest = x at *
  clear hP
  go_enter Try.func16, Try.ntmps16
  go_wp2_with fail
  refine (HPR.out _).mono ?_
  rintro e w1 ⟨rfl, h1, h2⟩
  have H1 := hide (And.intro h1 h2)
  clear h1 h2
  go_wp2_with fail
  refine (HRF.out _ w1 H1.out.2).mono ?_
  rintro e w2 ⟨rfl, h3, h4⟩
  have H2 := hide (HX.out _ _ _ _ _ H1.out.1 H1.out.2 h3 h4)
  clear h3 h4
  go_wp2
  go_ret
  exact ⟨rfl, H2.out⟩

set_option maxRecDepth 10000 in
set_option maxHeartbeats 1600000 in
theorem read_11 {base limr d pv : Nat} {po : Option Addr} {w : World} {s : RS} (N I M : Int) (bo : Option Addr) (bn bc : Nat) (S : ByteArray) (hP : Pair base limr d pv po w s) :
    Calls Try.prog 16 #[.pointer po, .pointer (some ⟨pv, 0, none⟩), .agg #[.int .i64 11, .int .u64 N, .int .i64 I, .slice bo bn bc, .string S, .int .i64 M]] w fun e w' => e = .returned (.bool true) ∧ Res base limr d pv po w w' := by
  have HA := hide (fun o => hP.alloc o)
  clear hP
  go_enter Try.func16, Try.ntmps16
  go_wp2_with fail
  refine (stands_any (HA.out _).1).mono ?_
  rintro e w1 ⟨rfl, h1⟩
  have H1 := hide (Res.from (HA.out _).2 (Res.keep h1))
  clear h1
  go_wp2
  go_ret
  exact ⟨rfl, H1.out⟩
end Go.Proofs.Ythbpacilceemlaa
