import Derived.Test.YthbpacilceemlaaM31
namespace Go.Proofs.Ythbpacilceemlaa
open Go.RowKit Crc

set_option maxRecDepth 10000 in
set_option maxHeartbeats 800000 in
theorem lay_10 {base pv : Nat} {po : Option Addr} {w : World} {s : WS} (N : Nat) (I M : Int) (bo : Option Addr) (bn bc : Nat) (S : ByteArray) (hP : PairW base pv po w s) :
    Calls Try.prog 8 #[.pointer po, .pointer (some ⟨pv, 0, none⟩), .agg #[.int .i64 10, .int .u64 (N : Int), .int .i64 I, .slice bo bn bc, .string S, .int .i64 M]] w fun e w' => e = .returned (.bool true) ∧ ResW base pv po w w' := by
  have HA := hide (fun o => hP.alloc o)
  clear hP
  go_enter Try.func8, Try.ntmps8
  go_wp2_with fail
  refine (written_any (HA.out _).1).mono ?_
  rintro e w1 ⟨rfl, h1⟩
  have H1 : Hid (ResW base pv po w w1) := ⟨⟨_, h1.1⟩, (HA.out _).2.trans h1.2.1⟩
  clear h1
  go_wp2
  go_ret
  exact ⟨rfl, H1.out⟩

set_option maxRecDepth 10000 in
set_option maxHeartbeats 800000 in
theorem lay_11 {base pv : Nat} {po : Option Addr} {w : World} {s : WS} (N : Nat) (I M : Int) (bo : Option Addr) (bn bc : Nat) (S : ByteArray) (hP : PairW base pv po w s) :
    Calls Try.prog 8 #[.pointer po, .pointer (some ⟨pv, 0, none⟩), .agg #[.int .i64 11, .int .u64 (N : Int), .int .i64 I, .slice bo bn bc, .string S, .int .i64 M]] w fun e w' => e = .returned (.bool true) ∧ ResW base pv po w w' := by
  have HD : Hid (∀ o, PairW base pv po (w.alloc o).drew s ∧ KeepW base w (w.alloc o).drew) := fun o => by
    have h1 := hP.alloc o
    have h2 := h1.1.quiet (w' := (w.alloc o).drew) (row := none) ⟨rfl, rfl, rfl, Nat.le_refl _, fun _ _ _ => rfl⟩ (fun g e => by cases e)
    exact ⟨h2.1, h1.2.trans h2.2⟩
  obtain ⟨v, hb, hO, hne⟩ := hP.ref
  obtain ⟨ao, cap, rfl, hS, _⟩ := hO.form
  have c2 := block_cell hb 2
  simp at c2
  have a2 : ∀ o, (w.alloc o).cell? ⟨pv, 2, none⟩ = some (.slice ao s.L.length cap) := fun o => (World.grownBy_alloc w o none).cell c2 (by simp)
  have HLN : Hid (∀ o, Calls Try.prog 9 #[.pointer po] (w.alloc o).drew fun e w' => e = .returned (.int .i64 (s.L.length : Nat)) ∧ w' = (w.alloc o).drew) := fun o => wLenP (HD.out o).1.prog
  generalize s.L.length = n at *
  clear hb hO hne hS c2 hP
  go_enter Try.func8, Try.ntmps8
  go_wp2_with fail
  go_region_held (fun w' => w'.cell? ⟨pv, 2, none⟩ = some (.slice ao n cap)) (go_keep)
    ((go_at_call 9; refine (HLN.out _).mono ?_; rintro e w1 ⟨rfl, rfl⟩))
  all_goals go_wp2
  all_goals go_ret
  all_goals exact ⟨rfl, ⟨_, (HD.out _).1⟩, (HD.out _).2⟩

set_option maxRecDepth 10000 in
set_option maxHeartbeats 800000 in
theorem lay_else (K : Int) {base pv : Nat} {po : Option Addr} {w : World} {s : WS} (N : Nat) (I M : Int) (bo : Option Addr) (bn bc : Nat) (S : ByteArray) (hP : PairW base pv po w s) (hK : K < 1 ∨ 11 < K) :
    Calls Try.prog 8 #[.pointer po, .pointer (some ⟨pv, 0, none⟩), .agg #[.int .i64 K, .int .u64 (N : Int), .int .i64 I, .slice bo bn bc, .string S, .int .i64 M]] w fun e w' => e = .returned (.bool true) ∧ ResW base pv po w w' := by
  have HA : Hid (∀ o, ResW base pv po w (w.alloc o)) := fun o => ⟨⟨_, (hP.alloc o).1⟩, (hP.alloc o).2⟩
  have e1 : (K == 1) = false := by simp; omega
  have e2 : (K == 2) = false := by simp; omega
  have e3 : (K == 3) = false := by simp; omega
  have e4 : (K == 4) = false := by simp; omega
  have e5 : (K == 5) = false := by simp; omega
  have e6 : (K == 6) = false := by simp; omega
  have e7 : (K == 7) = false := by simp; omega
  have e8 : (K == 8) = false := by simp; omega
  have e9 : (K == 9) = false := by simp; omega
  have e10 : (K == 10) = false := by simp; omega
  have e11 : (K == 11) = false := by simp; omega
  clear hP hK
  go_enter Try.func8, Try.ntmps8
  go_wp2
  go_ret
  exact ⟨rfl, HA.out _⟩

/-- A field with the reach's own bounds. -/
structure Fl.Okx (base : Nat) (w : World) (f : Fl) : Prop where
  ok : f.Ok base w
  hbn : f.bn ≤ 140737488351232
  hSn : f.S.size ≤ 140737488351232
theorem lay_any (f : Fl) {base pv : Nat} {po : Option Addr} {w : World} {s : WS} (hP : PairW base pv po w s) (hf : f.Okx base w) :
    Calls Try.prog 8 #[.pointer po, .pointer (some ⟨pv, 0, none⟩), .agg #[.int .i64 f.K, .int .u64 (f.N : Int), .int .i64 f.I, .slice f.bo f.bn f.bc, .string f.S, .int .i64 f.M]] w fun e w' => e = .returned (.bool true) ∧ ResW base pv po w w' := by
  obtain ⟨K, N, I, bo, bn, bc, B, S, M⟩ := f
  obtain ⟨hok, hbn, hSn⟩ := hf
  have hN := hok.hN
  have hI1 := hok.hI1
  have hI2 := hok.hI2
  have hB := hok.hB
  simp only at hN hI1 hI2 hB hbn hSn ⊢
  by_cases h : K < 1 ∨ 11 < K
  · exact lay_else K N I M bo bn bc S hP h
  · have hK : K = 1 ∨ K = 2 ∨ K = 3 ∨ K = 4 ∨ K = 5 ∨ K = 6 ∨ K = 7 ∨ K = 8 ∨ K = 9 ∨ K = 10 ∨ K = 11 := by omega
    rcases hK with rfl | rfl | rfl | rfl | rfl | rfl | rfl | rfl | rfl | rfl | rfl
    · exact lay_1 N I M bo bn bc S hP
    · exact lay_2 N I M bo bn bc S hP
    · exact lay_3 N I M bo bn bc S hP
    · exact lay_4 N I M bo bn bc S hP hN
    · exact lay_5 N I M bo bn bc S hP hN
    · exact lay_6 N I M bo bn bc S hP
    · exact lay_7 N I M bo bn bc S hP hI1 hI2
    · exact lay_8 N I M bo bn bc B S hP hB hbn
    · exact lay_9 N I M bo bn bc S hP hSn
    · exact lay_10 N I M bo bn bc S hP
    · exact lay_11 N I M bo bn bc S hP
end Go.Proofs.Ythbpacilceemlaa
