import Derived.Test.YtgdliomkdkjlaaaPRefText
namespace Go.Proofs.Ytgdliomkdkjlaaa
open Go.RowKit Crc

/-- Both readers, in one state. -/
structure Pair (base limr d pv : Nat) (po : Option Addr) (w : World) (s : RS) : Prop where
  prog : RdP limr w po s
  ref : RefS d w pv s
  place : s.sound → s.place = 0
  plain : s.made = false → s.B.length = s.pos
  lim : limr ≤ pv
  nepv : rowP po ≠ some pv
  ned : rowP po ≠ some d
  bpo : ∀ g, rowP po = some g → base ≤ g ∧ g < w.heap.size
  bpv : base ≤ pv
  dlt : d < w.heap.size
  len : s.B.length ≤ 140737488351232
def Keep (base : Nat) (w w' : World) : Prop := ∀ W, Below base W w → Below base W w'
/-- What a step leaves. -/
def Res (base limr d pv : Nat) (po : Option Addr) (w w' : World) : Prop := (∃ s', Pair base limr d pv po w' s') ∧ Keep base w w'
theorem Keep.trans {base : Nat} {a b c : World} (h : Keep base a b) (k : Keep base b c) : Keep base a c := fun W hW => k W (h W hW)
theorem Pair.pvlt {base limr d pv : Nat} {po : Option Addr} {w : World} {s : RS} (h : Pair base limr d pv po w s) : pv < w.heap.size := refS_size h.ref
theorem Pair.base_le {base limr d pv : Nat} {po : Option Addr} {w : World} {s : RS} (h : Pair base limr d pv po w s) : base ≤ w.heap.size := by have h1 := h.bpv; have h2 := h.pvlt; omega
/-- Only new blocks were written. -/
theorem Pair.quiet {base limr d pv : Nat} {po : Option Addr} {w w' : World} {s : RS} {row : Option Nat} (h : Pair base limr d pv po w s) (hg : w.grownBy w' row) (hr : ∀ g, row = some g → w.heap.size ≤ g) : Pair base limr d pv po w' s ∧ Keep base w w' := by
  have h1 := h.pvlt
  have h2 := h.lim
  have h3 := h.dlt
  refine ⟨⟨h.prog.kept hg (fun g hg' => ⟨by have := hr g hg'; omega, fun e => ?_⟩), h.ref.kept hg (fun e => ?_) (fun e => ?_), h.place, h.plain, h.lim, h.nepv, h.ned, fun g e => ⟨(h.bpo g e).1, Nat.lt_of_lt_of_le (h.bpo g e).2 hg.size⟩, h.bpv, Nat.lt_of_lt_of_le h3 hg.size, h.len⟩, fun W hW => hW.grown hg h.base_le (fun k hk => Nat.le_trans h.base_le (hr k hk))⟩
  · have := (h.bpo g e).2; have := hr g hg'; omega
  · have := hr pv e; omega
  · have := hr d e; omega
theorem RS.step_place {s : RS} (h : s.sound → s.place = 0) (z : Nat) (y : Int) : (s.step z y).sound → (s.step z y).place = 0 := by
  intro hs
  by_cases h0 : s.sound
  · by_cases hy : y = 0
    · subst hy
      rw [RS.step_ok h0]
      exact h h0
    · exact absurd hs (RS.unsound z hy)
  · rw [RS.step_not h0] at hs ⊢
    exact h hs
theorem RS.step_plain {s : RS} (h : s.made = false → s.B.length = s.pos) (z : Nat) (y : Int) : (s.step z y).made = false → (s.step z y).B.length = (s.step z y).pos := by
  by_cases h0 : s.sound
  · intro hm
    have : (s.step z y).made = s.made := by unfold RS.step; split <;> (try split) <;> rfl
    rw [this, h0.1] at hm
    cases hm
  · rw [RS.step_not h0]
    exact h
/-- Both went on. -/
theorem Pair.next {base limr d pv : Nat} {po : Option Addr} {w w1 w2 : World} {s : RS} {z : Nat} {y : Int} (h : Pair base limr d pv po w s) (hp : RdP limr w1 po (s.step z y)) (hg1 : w.grownBy w1 (rowP po)) (hr : RefS d w2 pv (s.step z y)) (hg2 : w1.grownBy w2 (some pv)) : Res base limr d pv po w w2 := by
  refine ⟨⟨s.step z y, ⟨hp.kept hg2 (fun g e => by cases e; exact ⟨h.lim, h.nepv⟩), hr, RS.step_place h.place z y, RS.step_plain h.plain z y, h.lim, h.nepv, h.ned, fun g e => ⟨(h.bpo g e).1, Nat.lt_of_lt_of_le (h.bpo g e).2 (Nat.le_trans hg1.size hg2.size)⟩, h.bpv, Nat.lt_of_lt_of_le h.dlt (Nat.le_trans hg1.size hg2.size), by rw [RS.step_B]; exact h.len⟩⟩, ?_⟩
  intro W hW
  exact (hW.grown hg1 h.base_le (fun k hk => (h.bpo k hk).1)).grown hg2 (Nat.le_trans h.base_le hg1.size) (fun k hk => by cases hk; exact h.bpv)
/-- A block was written that was new to an earlier state. -/
theorem Pair.wrote {base limr d pv : Nat} {po : Option Addr} {w0 w w' : World} {s0 s : RS} {row : Option Nat} (h0 : Pair base limr d pv po w0 s0) (h : Pair base limr d pv po w s) (hg : w.grownBy w' row) (hr : ∀ g, row = some g → w0.heap.size ≤ g) : Pair base limr d pv po w' s ∧ Keep base w w' := by
  have h1 := h0.pvlt
  have h2 := h0.lim
  have h3 := h0.dlt
  refine ⟨⟨h.prog.kept hg (fun g hg' => ⟨by have := hr g hg'; omega, fun e => ?_⟩), h.ref.kept hg (fun e => ?_) (fun e => ?_), h.place, h.plain, h.lim, h.nepv, h.ned, fun g e => ⟨(h.bpo g e).1, Nat.lt_of_lt_of_le (h.bpo g e).2 hg.size⟩, h.bpv, Nat.lt_of_lt_of_le h.dlt hg.size, h.len⟩, fun W hW => hW.grown hg h.base_le (fun k hk => Nat.le_trans h0.base_le (hr k hk))⟩
  · have := (h0.bpo g e).2; have := hr g hg'; omega
  · have := hr pv e; omega
  · have := hr d e; omega
/-- The reference's reader behind the program's step. -/
theorem Pair.refAt {base limr d pv : Nat} {po : Option Addr} {w w1 : World} {s : RS} (h : Pair base limr d pv po w s) (hg1 : w.grownBy w1 (rowP po)) : RefS d w1 pv s := h.ref.kept hg1 h.nepv h.ned

set_option maxRecDepth 10000 in
set_option maxHeartbeats 400000 in
theorem readFixed_1 {base limr d pv : Nat} {po : Option Addr} {w : World} {s : RS} (hP : Pair base limr d pv po w s) :
    Calls Try.prog 49 #[.pointer po, .pointer (some ⟨pv, 0, none⟩), .int .i64 1] w fun e w' => e = .returned (.bool true) ∧ Res base limr d pv po w w' := by
  have HU := hide (rU8P hP.prog)
  have HRF := hide (fun w1 hg => refFixed_any d pv s 1 1 w1 rfl (by omega) (by omega) (hP.refAt (w1 := w1) hg))
  have HB : Hid (∀ x ∈ s.rest, x < 256) := by
    obtain ⟨ao, cap, hb, _, _, h3, _⟩ := hP.ref
    intro x hx
    unfold RS.rest restB at hx
    split at hx
    · exact h3 x (List.mem_of_mem_drop hx)
    · cases hx
  have hlt := hi_take_lt (k := 1) HB.out
  have HP := hide hP
  clear hP HB
  generalize hi (aheadV s.rest 1) = x at *
  have hx64 : (x : Int) < 18446744073709551616 := by omega
  have hcv : IntKind.u64.wrap (x : Int) = (x : Int) := wrapu64_nat (by omega)
  clear hlt
  go_enter Try.func49, Try.ntmps49
  go_wp2_with fail
  refine HU.out.mono ?_
  rintro e w1 ⟨rfl, h1, h2⟩
  have H1 := hide (And.intro h1 h2)
  clear h1 h2
  go_wp2_with fail
  refine (HRF.out w1 H1.out.2).mono ?_
  rintro e w2 ⟨rfl, h3, h4⟩
  have H2 := hide (And.intro h3 h4)
  clear h3 h4
  go_wp2
  go_ret
  exact ⟨rfl, HP.out.next H1.out.1 H1.out.2 H2.out.1 H2.out.2⟩

set_option maxRecDepth 10000 in
set_option maxHeartbeats 400000 in
theorem readFixed_2 {base limr d pv : Nat} {po : Option Addr} {w : World} {s : RS} (hP : Pair base limr d pv po w s) :
    Calls Try.prog 49 #[.pointer po, .pointer (some ⟨pv, 0, none⟩), .int .i64 2] w fun e w' => e = .returned (.bool true) ∧ Res base limr d pv po w w' := by
  have HU := hide (rU16P hP.prog)
  have HRF := hide (fun w1 hg => refFixed_any d pv s 2 2 w1 rfl (by omega) (by omega) (hP.refAt (w1 := w1) hg))
  have HB : Hid (∀ x ∈ s.rest, x < 256) := by
    obtain ⟨ao, cap, hb, _, _, h3, _⟩ := hP.ref
    intro x hx
    unfold RS.rest restB at hx
    split at hx
    · exact h3 x (List.mem_of_mem_drop hx)
    · cases hx
  have hlt := hi_take_lt (k := 2) HB.out
  have HP := hide hP
  clear hP HB
  generalize hi (aheadV s.rest 2) = x at *
  have hx64 : (x : Int) < 18446744073709551616 := by omega
  have hcv : IntKind.u64.wrap (x : Int) = (x : Int) := wrapu64_nat (by omega)
  clear hlt
  go_enter Try.func49, Try.ntmps49
  go_wp2_with fail
  refine HU.out.mono ?_
  rintro e w1 ⟨rfl, h1, h2⟩
  have H1 := hide (And.intro h1 h2)
  clear h1 h2
  go_wp2_with fail
  refine (HRF.out w1 H1.out.2).mono ?_
  rintro e w2 ⟨rfl, h3, h4⟩
  have H2 := hide (And.intro h3 h4)
  clear h3 h4
  go_wp2
  go_ret
  exact ⟨rfl, HP.out.next H1.out.1 H1.out.2 H2.out.1 H2.out.2⟩

set_option maxRecDepth 10000 in
set_option maxHeartbeats 400000 in
theorem readFixed_3 {base limr d pv : Nat} {po : Option Addr} {w : World} {s : RS} (hP : Pair base limr d pv po w s) :
    Calls Try.prog 49 #[.pointer po, .pointer (some ⟨pv, 0, none⟩), .int .i64 3] w fun e w' => e = .returned (.bool true) ∧ Res base limr d pv po w w' := by
  have HU := hide (rU32P hP.prog)
  have HRF := hide (fun w1 hg => refFixed_any d pv s 4 4 w1 rfl (by omega) (by omega) (hP.refAt (w1 := w1) hg))
  have HB : Hid (∀ x ∈ s.rest, x < 256) := by
    obtain ⟨ao, cap, hb, _, _, h3, _⟩ := hP.ref
    intro x hx
    unfold RS.rest restB at hx
    split at hx
    · exact h3 x (List.mem_of_mem_drop hx)
    · cases hx
  have hlt := hi_take_lt (k := 4) HB.out
  have HP := hide hP
  clear hP HB
  generalize hi (aheadV s.rest 4) = x at *
  have hx64 : (x : Int) < 18446744073709551616 := by omega
  have hcv : IntKind.u64.wrap (x : Int) = (x : Int) := wrapu64_nat (by omega)
  clear hlt
  go_enter Try.func49, Try.ntmps49
  go_wp2_with fail
  refine HU.out.mono ?_
  rintro e w1 ⟨rfl, h1, h2⟩
  have H1 := hide (And.intro h1 h2)
  clear h1 h2
  go_wp2_with fail
  refine (HRF.out w1 H1.out.2).mono ?_
  rintro e w2 ⟨rfl, h3, h4⟩
  have H2 := hide (And.intro h3 h4)
  clear h3 h4
  go_wp2
  go_ret
  exact ⟨rfl, HP.out.next H1.out.1 H1.out.2 H2.out.1 H2.out.2⟩

set_option maxRecDepth 10000 in
set_option maxHeartbeats 400000 in
theorem readFixed_4 {base limr d pv : Nat} {po : Option Addr} {w : World} {s : RS} (hP : Pair base limr d pv po w s) :
    Calls Try.prog 49 #[.pointer po, .pointer (some ⟨pv, 0, none⟩), .int .i64 4] w fun e w' => e = .returned (.bool true) ∧ Res base limr d pv po w w' := by
  have HU := hide (rU64P hP.prog)
  have HRF := hide (fun w1 hg => refFixed_any d pv s 8 8 w1 rfl (by omega) (by omega) (hP.refAt (w1 := w1) hg))
  have HB : Hid (∀ x ∈ s.rest, x < 256) := by
    obtain ⟨ao, cap, hb, _, _, h3, _⟩ := hP.ref
    intro x hx
    unfold RS.rest restB at hx
    split at hx
    · exact h3 x (List.mem_of_mem_drop hx)
    · cases hx
  have hlt := hi_take_lt (k := 8) HB.out
  have HP := hide hP
  clear hP HB
  generalize hi (aheadV s.rest 8) = x at *
  have hx64 : (x : Int) < 18446744073709551616 := by omega
  have hcv : IntKind.u64.wrap (x : Int) = (x : Int) := wrapu64_nat (by omega)
  clear hlt
  go_enter Try.func49, Try.ntmps49
  go_wp2_with fail
  refine HU.out.mono ?_
  rintro e w1 ⟨rfl, h1, h2⟩
  have H1 := hide (And.intro h1 h2)
  clear h1 h2
  go_wp2_with fail
  refine (HRF.out w1 H1.out.2).mono ?_
  rintro e w2 ⟨rfl, h3, h4⟩
  have H2 := hide (And.intro h3 h4)
  clear h3 h4
  go_wp2
  go_ret
  exact ⟨rfl, HP.out.next H1.out.1 H1.out.2 H2.out.1 H2.out.2⟩
end Go.Proofs.Ytgdliomkdkjlaaa
