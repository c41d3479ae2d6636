import Derived.Test.YthbpacilceemlaaPYA
namespace Go.Proofs.Ythbpacilceemlaa
open Go.RowKit Crc

def clampW (m : Int) : Int := if m < 0 then 0 else if 65507 < m then 65507 else m
def wNew (m : Int) : Obj := .cells #[.bool true, .int .i64 0, .int .i64 0, .int .i64 (clampW m), .slice none 0 0] 81 (0, 0)
def vNew (m : Int) : Obj := .cells #[.bool true, .int .i64 (clampW m), .slice none 0 0, .int .i64 0, .int .i64 0] 36 (0, 0)
def wZero : Obj := .cells #[.bool false, .int .i64 0, .int .i64 0, .int .i64 0, .slice none 0 0] 81 (0, 0)
def vZero : Obj := .cells #[.bool false, .int .i64 0, .slice none 0 0, .int .i64 0, .int .i64 0] 36 (0, 0)

set_option maxRecDepth 10000 in
set_option maxHeartbeats 400000 in
theorem newWriter_any (m : Int) (w : World) :
    Calls Try.prog 22 #[.int .i64 m] w fun e w' => e = .returned (.pointer (some ⟨w.heap.size, 0, none⟩)) ∧ w' = w.alloc (wNew m) := by
  by_cases h0 : m < 0
  · have HC : Hid (clampW m = 0) := by unfold clampW; rw [if_pos h0]; rfl
    unfold wNew
    rw [HC.out]
    have d0 : decide (m < 0) = true := by simp [h0]
    have d1 : decide (0 < m) = false := by simp; omega
    have d2 : max m 0 = 0 := by omega
    go_enter Try.func22, Try.ntmps22
    go_wp2
    go_ret
    exact ⟨rfl, rfl⟩
  · by_cases h1 : 65507 < m
    · have HC : Hid (clampW m = 65507) := by unfold clampW; rw [if_neg h0, if_pos h1]; rfl
      unfold wNew
      rw [HC.out]
      have d0 : decide (m < 0) = false := by simp; omega
      have d1 : decide (0 < m) = true := by simp; omega
      have d2 : max m 0 = m := by omega
      have d3 : decide (65507 < m) = true := by simp; omega
      have d4 : decide (m < 65507) = false := by simp; omega
      go_enter Try.func22, Try.ntmps22
      go_wp2
      go_ret
      exact ⟨rfl, rfl⟩
    · have HC : Hid (clampW m = m) := by unfold clampW; rw [if_neg h0, if_neg h1]; rfl
      unfold wNew
      rw [HC.out]
      have d0 : decide (m < 0) = false := by simp; omega
      have d3 : decide (65507 < m) = false := by simp; omega
      go_enter Try.func22, Try.ntmps22
      go_wp2
      go_ret
      exact ⟨rfl, rfl⟩

set_option maxRecDepth 10000 in
set_option maxHeartbeats 400000 in
theorem refNewWriter_any (m : Int) (w : World) :
    Calls Try.prog 35 #[.int .i64 m] w fun e w' => e = .returned (.pointer (some ⟨w.heap.size, 0, none⟩)) ∧ w' = w.alloc (vNew m) := by
  by_cases h0 : m < 0
  · have HC : Hid (clampW m = 0) := by unfold clampW; rw [if_pos h0]; rfl
    unfold vNew
    rw [HC.out]
    have d0 : decide (m < 0) = true := by simp [h0]
    go_enter Try.func35, Try.ntmps35
    go_wp2
    go_ret
    exact ⟨rfl, rfl⟩
  · by_cases h1 : 65507 < m
    · have HC : Hid (clampW m = 65507) := by unfold clampW; rw [if_neg h0, if_pos h1]; rfl
      unfold vNew
      rw [HC.out]
      have d0 : decide (m < 0) = false := by simp; omega
      have d3 : decide (65507 < m) = true := by simp; omega
      go_enter Try.func35, Try.ntmps35
      go_wp2
      go_ret
      exact ⟨rfl, rfl⟩
    · have HC : Hid (clampW m = m) := by unfold clampW; rw [if_neg h0, if_neg h1]; rfl
      unfold vNew
      rw [HC.out]
      have d0 : decide (m < 0) = false := by simp; omega
      have d3 : decide (65507 < m) = false := by simp; omega
      go_enter Try.func35, Try.ntmps35
      go_wp2
      go_ret
      exact ⟨rfl, rfl⟩

theorem clampW_le (m : Int) : 0 ≤ clampW m ∧ clampW m ≤ 65507 := by
  unfold clampW
  split
  · omega
  · split <;> omega
theorem foot_plain {w : World} {p j k : Nat} (hc : w.cell? ⟨p, j, none⟩ = some (.slice none 0 0)) (h : Foot w p j k) : k = p := by
  rcases h with h | ⟨u, hu, hg⟩
  · exact h
  · rw [hc] at hu
    cases hu
    cases hg
/-- Two writers that were just made. -/
theorem pair_two (w : World) (made : Bool) (most : Int) (hm : made = true → 0 ≤ most ∧ most ≤ 65507) :
    PairW w.heap.size (w.heap.size + 1) (some ⟨w.heap.size, 0, none⟩) ((w.alloc (.cells #[.bool made, .int .i64 0, .int .i64 0, .int .i64 most, .slice none 0 0] 81 (0, 0))).alloc (.cells #[.bool made, .int .i64 most, .slice none 0 0, .int .i64 0, .int .i64 0] 36 (0, 0))) ⟨made, 0, 0, most, []⟩ := by
  generalize ho1 : Obj.cells #[.bool made, .int .i64 0, .int .i64 0, .int .i64 most, .slice none 0 0] 81 (0, 0) = o1
  generalize ho2 : Obj.cells #[.bool made, .int .i64 most, .slice none 0 0, .int .i64 0, .int .i64 0] 36 (0, 0) = o2
  have hb1 : ((w.alloc o1).alloc o2).heap[w.heap.size]? = some o1 := ((World.grownBy_alloc (w.alloc o1) o2 none).block w.heap.size (by simp) (by simp)).trans (heap_alloc_new w o1)
  have hb2 : ((w.alloc o1).alloc o2).heap[w.heap.size + 1]? = some o2 := by
    have h := heap_alloc_new (w.alloc o1) o2
    rwa [show (w.alloc o1).heap.size = w.heap.size + 1 by simp] at h
  subst ho1 ho2
  have c1 := block_cell hb1 4
  have c2 := block_cell hb2 2
  refine ⟨.inr ⟨_, rfl, .slice none 0 0, hb1, Owns.nil _ _, by simp [Value.ownBlock]⟩, ⟨.slice none 0 0, hb2, Owns.nil _ _, by simp [Value.ownBlock]⟩, fun h => ?_, fun _ => rfl, fun p hp => ?_, by omega, ?_⟩
  · have := hm h
    simp only [List.length_nil]
    omega
  · cases hp; exact Nat.le_refl _
  · rintro k ⟨p, hp, hf⟩ hf2
    cases hp
    have e1 := foot_plain c1 hf
    have e2 := foot_plain c2 hf2
    omega
/-- A nil writer. -/
theorem pair_nil (w : World) :
    PairW w.heap.size w.heap.size none (w.alloc vZero) WS0 := by
  have hb2 := heap_alloc_new w vZero
  refine ⟨.inl ⟨rfl, rfl⟩, ⟨.slice none 0 0, hb2, Owns.nil _ _, by simp [Value.ownBlock]⟩, fun h => (by cases h), fun _ => rfl, fun p hp => (by cases hp), Nat.le_refl _, ?_⟩
  rintro k ⟨p, hp, hf⟩
  cases hp

set_option maxRecDepth 10000 in
set_option maxHeartbeats 400000 in
theorem madeWriter_any (made m : Int) (w : World) :
    Calls Try.prog 7 #[.int .i64 made, .int .i64 m] w fun e w' => ∃ po pv, e = .returned (.tuple #[.pointer po, .pointer (some ⟨pv, 0, none⟩)]) ∧ Hid ((∃ s, PairW w.heap.size pv po w' s) ∧ Below w.heap.size w w') := by
  have HB2 : Hid (∀ o1 o2, Below w.heap.size w ((w.alloc o1).alloc o2)) := fun o1 o2 => (below_alloc w o1).alloc (by simp) o2
  by_cases h0 : made = 0
  · subst h0
    have HP2 := hide (pair_two w true (clampW m) (fun _ => clampW_le m))
    go_enter Try.func7, Try.ntmps7
    go_wp2_with fail
    refine (newWriter_any m w).mono ?_
    rintro e w1 ⟨rfl, rfl⟩
    go_wp2_with fail
    refine (refNewWriter_any m _).mono ?_
    rintro e w2 ⟨rfl, rfl⟩
    go_wp2
    go_ret2
    exact ⟨_, _, rfl, ⟨_, by simpa [wNew, vNew] using HP2.out⟩, HB2.out _ _⟩
  · by_cases h1 : made = 1
    · subst h1
      have HP1 := hide (pair_nil w)
      clear h0
      go_enter Try.func7, Try.ntmps7
      go_wp2
      go_ret2
      exact ⟨_, _, rfl, ⟨_, HP1.out⟩, below_alloc w _⟩
    · have b0 : (made == 0) = false := by simp [h0]
      have b1 : (made == 1) = false := by simp [h1]
      have HP2 := hide (pair_two w false 0 (fun h => by cases h))
      clear h0 h1
      go_enter Try.func7, Try.ntmps7
      go_wp2
      go_ret2
      exact ⟨_, _, rfl, ⟨_, HP2.out⟩, HB2.out _ _⟩

theorem Fl.Ok.belowB {base : Nat} {w w' : World} {f : Fl} (h : f.Ok base w) (hb : Below base w w') : f.Ok base w' := ⟨h.hN, h.hK1, h.hK2, h.hI1, h.hI2, h.hM1, h.hM2, h.hB.belowB hb, h.hS⟩

set_option maxRecDepth 10000 in
set_option maxHeartbeats 1600000 in
theorem writes_walk {w : World} (made m : Int) (b off : Nat) (oo : Option Addr) (on oc : Nat) (fs : List Fl) (hon : on = fs.length) (hon47 : on ≤ 140737488355328) (hF : Fls w.heap.size w b off fs) (hX : ∀ f ∈ fs, f.bn ≤ 140737488351232 ∧ f.S.size ≤ 140737488351232) (hoo : 0 < on → oo = some ⟨b, off, none⟩) (hob : 0 < on → b < w.heap.size) :
    Calls Try.prog 3 #[.int .i64 made, .int .i64 m, .slice oo on oc] w fun e w' => e = .returned (.bool true) ∧ Below w.heap.size w w' := by
  have HF := hide hF
  have HX := hide hX
  have HON := hide hon
  have HOO := hide hoo
  have HOB := hide hob
  have HMW := hide (madeWriter_any made m w)
  clear hF hX hon hoo hob
  go_enter Try.func3, Try.ntmps3
  go_wp2_with fail
  refine HMW.out.mono ?_
  rintro e w1 ⟨po, pv, rfl, HINI⟩
  clear HMW
  go_wp2
  go_loopw [9] (fun i wr => ∃ k : Nat, k ≤ on ∧ i = .int .i64 k ∧ Hid ((∃ s, PairW w.heap.size pv po wr s) ∧ Below w.heap.size w wr)) (fun i _ => on - (intOf i).toNat)
  case atStart => exact ⟨0, Nat.zero_le _, rfl, HINI.out⟩
  case round =>
    obtain ⟨k, hk, rfl, HR⟩ := hrel
    by_cases hlt : k < on
    · obtain ⟨f, hf⟩ : ∃ f, fs[k]? = some f := ⟨fs[k]'(by have := HON.out; omega), List.getElem?_eq_getElem _⟩
      obtain rfl := HOO.out (by omega)
      obtain ⟨⟨s, hPs⟩, hBl⟩ := HR.out
      have HFW := hide (HF.out.next (HOB.out (by omega)) (w' := wr) (row := none) ⟨hBl.os, hBl.tape, hBl.output, hBl.size, fun i hi _ => hBl.block i hi⟩ (fun g hg => by cases hg))
      have c0 : wr.cell? ⟨b, off + k * 6, none⟩ = some (.int .i64 f.K) := HFW.out.at_ k f hf 0 _ rfl
      have c1 : wr.cell? ⟨b, off + k * 6 + 1, none⟩ = some (.int .u64 (f.N : Int)) := HFW.out.at_ k f hf 1 _ rfl
      have c2 : wr.cell? ⟨b, off + k * 6 + 2, none⟩ = some (.int .i64 f.I) := HFW.out.at_ k f hf 2 _ rfl
      have c3 : wr.cell? ⟨b, off + k * 6 + 3, none⟩ = some (.slice f.bo f.bn f.bc) := HFW.out.at_ k f hf 3 _ rfl
      have c4 : wr.cell? ⟨b, off + k * 6 + 4, none⟩ = some (.string f.S) := HFW.out.at_ k f hf 4 _ rfl
      have c5 : wr.cell? ⟨b, off + k * 6 + 5, none⟩ = some (.int .i64 f.M) := HFW.out.at_ k f hf 5 _ rfl
      have hfo := HFW.out.ok f (List.mem_of_getElem? hf)
      have hfx := HX.out f (List.mem_of_getElem? hf)
      have HRD := hide (lay_any f hPs ⟨hfo, hfx.1, hfx.2⟩)
      have HBl := hide hBl
      clear hf hPs hBl hfo hfx HR
      go_wp2_with fail
      refine HRD.out.mono ?_
      rintro e w7 ⟨rfl, hres⟩
      have HR7 : Hid ((∃ s, PairW w.heap.size pv po w7 s) ∧ Below w.heap.size w w7) := ⟨hres.1, hres.2 w HBl.out⟩
      clear hres c0 c1 c2 c3 c4 c5
      go_wp2
      go_roundw
      case rel => exact ⟨k + 1, by omega, by go_num, HR7⟩
      case measure => simp [intOf]; omega
    · obtain rfl : k = on := by omega
      obtain ⟨⟨s, hPs⟩, hBl⟩ := HR.out
      have HD : Hid (PairW w.heap.size pv po wr.drew s ∧ KeepW w.heap.size wr wr.drew) := hPs.quiet (row := none) ⟨rfl, rfl, rfl, Nat.le_refl _, fun _ _ _ => rfl⟩ (fun g e => by cases e)
      obtain ⟨v, hb, hO, hne⟩ := hPs.ref
      obtain ⟨ao, cap, rfl, hS, _⟩ := hO.form
      have c2 := block_cell hb 2
      simp at c2
      have hpl := block_lt hb
      have HLN : Hid (Calls Try.prog 9 #[.pointer po] wr.drew fun e w' => e = .returned (.int .i64 (s.L.length : Nat)) ∧ w' = wr.drew) := wLenP HD.out.1.prog
      have HWT : Hid (Calls Try.prog 10 #[.pointer po, .pointer (some ⟨pv, 0, none⟩)] wr.drew fun e w' => e = .returned (.bool true) ∧ w'.cell? ⟨pv, 2, none⟩ = some (.slice ao s.L.length cap) ∧ Hid (Below w.heap.size w w')) := by
        refine (written_any HD.out.1).mono ?_
        rintro e w' ⟨rfl, h⟩
        exact ⟨rfl, (h.2.2.cell (p := ⟨pv, 2, none⟩) hpl).trans c2, (HD.out.2.trans h.2.1) w hBl⟩
      generalize s.L.length = n at *
      clear hb hO hne hS hPs hBl HR hpl
      go_wp2_with fail
      go_region_held (fun w' => w'.cell? ⟨pv, 2, none⟩ = some (.slice ao n cap)) (go_keep)
        (first
          | (go_at_call 9; refine HLN.out.mono ?_; rintro e w5 ⟨rfl, rfl⟩)
          | (go_at_call 10; refine HWT.out.mono ?_; rintro e w6 ⟨rfl, hc6, H6⟩))
      all_goals go_wp2
      all_goals go_ret
      all_goals exact ⟨rfl, H6.out⟩
end Go.Proofs.Ythbpacilceemlaa
