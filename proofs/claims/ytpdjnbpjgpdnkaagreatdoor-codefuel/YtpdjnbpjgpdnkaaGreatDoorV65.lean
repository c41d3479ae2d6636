import Derived.Test.YtpdjnbpjgpdnkaaGreatDoorV64
namespace Go.Proofs.YtpdjnbpjgpdnkaaGreatDoor
open Go.RowKit

/-- Is it run? -/
def rnFL (p : Pv) (ev : Int) : Bool := match verF p with
 | .error _ => false
 | .ok _ => isPl ev 6
theorem rnFL_ok {p : Pv} {ev : Int} (h : rnFL p ev = true) : ∃ k, verF p = .ok k ∧ isPl ev 6 = true := by
 unfold rnFL at h
 cases hv : verF p with
 | error z => rw [hv] at h; cases h
 | ok k => rw [hv] at h; exact ⟨k, rfl, h⟩
theorem rnFL_no {p : Pv} {ev : Int} (h : rnFL p ev = false) : (∃ z, verF p = .error z) ∨ ∃ k, verF p = .ok k ∧ isPl ev 6 = false := by
 unfold rnFL at h
 cases hv : verF p with
 | error z => exact .inl ⟨z, rfl⟩
 | ok k => rw [hv] at h; exact .inr ⟨k, rfl, h⟩
theorem run_left {p : Pv} {k : Kn} {ek ev : Nat → Int} {hd : Int} (he : Me p k ek ev hd) : ∀ {s : Ms}, Tm p k hd s → ∀ n, 0 ≤ (runN p ek ev hd n s).left ∧ (runN p ek ev hd n s).left ≤ 1000 := by
 intro s ht n
 induction n generalizing s with
 | zero => exact ⟨ht.l0, ht.l1⟩
 | succ n ih =>
  cases e : s.ov with
  | true => rw [runN_over e]; exact ⟨ht.l0, ht.l1⟩
  | false =>
   have r1 : runN p ek ev hd (n + 1) s = runN p ek ev hd n (stepF p ek ev hd s) := by
    show (if s.ov = true then s else _) = _
    rw [e]
    rfl
   rw [r1]
   exact ih (step_tm he ht e).1
theorem fuelW {W : World} {g : Pg} {p : Pv} (h : g.Ok p W.heap.size W) (hT : Tab W) (hC : ∀ j, j < p.nc → 0 ≤ p.C j ∧ p.C j < two64) (b0 : p.nc * 8 ≤ 140737488351232) (b1 : p.ns * 8 ≤ 140737488351232) (b2 : p.n * 16 ≤ 140737488351232) (ev : Int) {e : En} (he : e.Ok) {fuel more : Int} (hf0 : 0 ≤ fuel) (hm0 : 0 ≤ more) :
  Calls Tryz.prog 3 #[.agg (g.cs p).toArray, .int .i64 ev, .agg e.cs.toArray, .int .u64 fuel, .int .u64 more] W fun x w' => x = .returned (.bool true) ∧ Below W.heap.size W w' := by
 obtain ⟨f, hf⟩ : ∃ f, Int.tmod fuel 1001 = f := ⟨_, rfl⟩
 have hfb : 0 ≤ f ∧ f ≤ 1000 := by
  have q : Int.tmod fuel 1001 = fuel % 1001 := Int.tmod_eq_emod_of_nonneg hf0
  rw [← hf, q]
  omega
 have hg1 : IntKind.u64.wrap (1001 - f) = 1001 - f := by simp [IntKind.wrap, IntKind.bits, IntKind.signed]; omega
 obtain ⟨r, hr⟩ : ∃ r, Int.tmod more (1001 - f) = r := ⟨_, rfl⟩
 have hrb : 0 ≤ r ∧ r < 1001 - f := by
  have q : Int.tmod more (1001 - f) = more % (1001 - f) := Int.tmod_eq_emod_of_nonneg hm0
  rw [← hr, q]
  exact ⟨Int.emod_nonneg _ (by omega), Int.emod_lt_of_pos _ (by omega)⟩
 have hg3 : IntKind.u64.wrap (f + r) = f + r := by simp [IntKind.wrap, IntKind.bits, IntKind.signed]; omega
 have hlv : ∀ w, Below W.heap.size W w → Calls Tryz.prog 5 #[.int .i64 ev, .int .u64 fuel] w fun e w' => e = .returned (.bool true) ∧ Hid (Below w.heap.size w w') := fun w hb => livesC (hT.below hb hT.z) ev fuel hf0
 have hcp : ∀ w, Below W.heap.size W w → Calls Tryz.prog 7 #[.agg (g.cs p).toArray] w fun x w1 => ∃ g1 : Pg, x = .returned (.agg (g1.cs p).toArray) ∧ g1.Ok p w1.heap.size w1 ∧ Below w.heap.size w w1 := fun w hb =>
  (copyRw ((h.kept hb (Nat.le_refl _)).wide hb.size) b0 b1 b2).mono fun x w1 ⟨g1, q1, q2, q3⟩ => ⟨g1, q1, q2.ok, q3⟩
 cases hz : rnFL p ev with
 | true =>
  obtain ⟨k, hv, hp⟩ := rnFL_ok hz
  have hrun : ∀ (fu : Int), 0 ≤ fu → ∀ (g1 : Pg) (w1 w2 : World), g1.Ok p w1.heap.size w1 → Below W.heap.size W w1 → Below w1.heap.size w1 w2 → Calls Tryz.prog 6 #[.agg (g1.cs p).toArray, .int .i64 ev, .agg e.cs.toArray, .int .u64 fu] w2 fun x w3 => x = .returned (.tuple #[.agg (outA (endS p e (ldS p ev fu))), .nilIface]) ∧ Hid (Below w2.heap.size w2 w3) := fun fu hfu g1 w1 w2 ok bW b => by
   refine (runC ((ok.kept b (Nat.le_refl _)).wide b.size) (hT.below (bW.trans (b.mono bW.size)) hT.z) hC ev he hfu).mono ?_
   intro x w3 hh
   rw [hv] at hh
   exact hh.2 hp
  refine fuelK (g := g) (p := p) (e := e) hlv hf hg1 hr hg3 (by omega) (E0 := (endS p e (ldS p ev f)).en) (E1 := (endS p e (ldS p ev f)).fail) (E2 := if (endS p e (ldS p ev f)).en = 0 then (endS p e (ldS p ev f)).paid 0 else 0) (E3 := if (endS p e (ldS p ev f)).en = 0 then (endS p e (ldS p ev f)).paid 1 else 0) (E4 := if (endS p e (ldS p ev f)).en = 0 then (endS p e (ldS p ev f)).paid 2 else 0) (E5 := (endS p e (ldS p ev f)).left)
   (F0 := (endS p e (ldS p ev (f + r))).en) (F1 := (endS p e (ldS p ev (f + r))).fail) (F2 := if (endS p e (ldS p ev (f + r))).en = 0 then (endS p e (ldS p ev (f + r))).paid 0 else 0) (F3 := if (endS p e (ldS p ev (f + r))).en = 0 then (endS p e (ldS p ev (f + r))).paid 1 else 0) (F4 := if (endS p e (ldS p ev (f + r))).en = 0 then (endS p e (ldS p ev (f + r))).paid 2 else 0) (F5 := (endS p e (ldS p ev (f + r))).left) (fun pb eb _ _ w hw => ?_) (fun pb eb _ _ w hw => ?_) ?_
  ·refine (hcp w hw.2.2).mono ?_
   rintro x w1 ⟨g1, rfl, ok, b⟩
   exact ⟨g1, rfl, b, fun w2 b2 => hrun f hfb.1 g1 w1 w2 ok (hw.2.2.trans (b.mono hw.2.2.size)) b2⟩
  ·refine (hcp w hw.2.2).mono ?_
   rintro x w1 ⟨g1, rfl, ok, b⟩
   exact ⟨g1, rfl, b, fun w2 b2 => hrun (f + r) (by omega) g1 w1 w2 ok (hw.2.2.trans (b.mono hw.2.2.size)) b2⟩
  ·rcases fuel_end he hv hC hp hfb.1 (show f ≤ f + r by omega) (by omega) with q | ⟨q1, q2⟩
   ·exact .inl q
   ·have hm := he.me hv hC
    have hl := run_left hm (ld_tm hv hp hfb.1 (he.b 2 (by decide)).1) 1200000
    have hl' : 0 ≤ (endS p e (ldS p ev f)).left ∧ (endS p e (ldS p ev f)).left ≤ 1000 := hl
    rw [q2]
    refine .inr ⟨q1, rfl, rfl, rfl, rfl, rfl, ?_⟩
    have w1 : IntKind.u64.wrap ((endS p e (ldS p ev f)).left + (f + r)) = (endS p e (ldS p ev f)).left + (f + r) := by simp [IntKind.wrap, IntKind.bits, IntKind.signed]; omega
    have w2 : IntKind.u64.wrap ((endS p e (ldS p ev f)).left + (f + r) - f) = (endS p e (ldS p ev f)).left + (f + r) - f := by simp [IntKind.wrap, IntKind.bits, IntKind.signed]; omega
    rw [w1, w2]
    show _ = (endS p e (ldS p ev f)).left + (f + r - f)
    omega
 | false =>
  have hno := rnFL_no hz
  have hrun : ∀ (fu : Int), 0 ≤ fu → ∀ (g1 : Pg) (w1 w2 : World), g1.Ok p w1.heap.size w1 → Below W.heap.size W w1 → Below w1.heap.size w1 w2 → Calls Tryz.prog 6 #[.agg (g1.cs p).toArray, .int .i64 ev, .agg e.cs.toArray, .int .u64 fu] w2 fun x w3 => ∃ gf, x = .returned (.tuple #[.agg outZ, .iface 68 (.pointer (some ⟨gf, 0, none⟩))]) ∧ Hid (Below w2.heap.size w2 w3) := fun fu hfu g1 w1 w2 ok bW b => by
   refine (runC ((ok.kept b (Nat.le_refl _)).wide b.size) (hT.below (bW.trans (b.mono bW.size)) hT.z) hC ev he hfu).mono ?_
   intro x w3 hh
   rcases hno with ⟨z, hv⟩ | ⟨k, hv, hp⟩
   ·obtain ⟨a, y⟩ := z
    rw [hv] at hh
    obtain ⟨gf, rfl, G⟩ := hh
    exact ⟨gf, rfl, G.out.2⟩
   ·rw [hv] at hh
    obtain ⟨gf, rfl, G⟩ := hh.1 hp
    exact ⟨gf, rfl, G.out.2⟩
  refine fuelR (g := g) (p := p) (e := e) hlv hf hg1 hr hg3 (by omega) (fun pb eb _ _ w hw => ?_) (fun pb eb _ _ w hw => ?_) (fun pb eb _ _ w hw => ?_)
  ·refine (hcp w hw.2.2).mono ?_
   rintro x w1 ⟨g1, rfl, ok, b⟩
   exact ⟨g1, rfl, b, fun w2 b2 => hrun f hfb.1 g1 w1 w2 ok (hw.2.2.trans (b.mono hw.2.2.size)) b2⟩
  ·refine (hcp w hw.2.2).mono ?_
   rintro x w1 ⟨g1, rfl, ok, b⟩
   exact ⟨g1, rfl, b, fun w2 b2 => hrun (f + r) (by omega) g1 w1 w2 ok (hw.2.2.trans (b.mono hw.2.2.size)) b2⟩
  ·refine (hcp w hw.2.2).mono ?_
   rintro x w1 ⟨g1, rfl, ok, b⟩
   refine ⟨g1, rfl, b, ?_⟩
   have bW1 := hw.2.2.trans (b.mono hw.2.2.size)
   refine (verifyC ok (hT.below bW1 hT.z)).mono ?_
   intro x w2 hh
   rcases hno with ⟨z, hv⟩ | ⟨k, hv, hp⟩
   ·obtain ⟨a, y⟩ := z
    rw [hv] at hh
    obtain ⟨gv, rfl, G⟩ := hh
    exact .inl ⟨gv, rfl, G.out.2⟩
   ·rw [hv] at hh
    exact .inr ⟨hh.1, by simp [isPl] at hp; omega, hh.2⟩
end Go.Proofs.YtpdjnbpjgpdnkaaGreatDoor
