import Derived.Test.YtgaalaoflaklgaaGreatM20
import Derived.Test.YtgaalaoflaklgaaGreatM15
import Derived.Test.YtgaalaoflaklgaaGreatM16
import Derived.Test.YtgaalaoflaklgaaGreatQNo
namespace Go.Proofs.YtgaalaoflaklgaaGreat
open Go.RowKit Crc

def clampW (m : Int) : Int := if m < 0 then 0 else if 65507 < m then 65507 else m
def wNew (m : Int) : Obj := .cells #[.bool true, .int .i64 0, .int .i64 0, .int .i64 (clampW m), .slice none 0 0] 97 (0, 0)
def vNew (m : Int) : Obj := .cells #[.bool true, .int .i64 (clampW m), .slice none 0 0, .int .i64 0, .int .i64 0] 116 (0, 0)
def wZero : Obj := .cells #[.bool false, .int .i64 0, .int .i64 0, .int .i64 0, .slice none 0 0] 97 (0, 0)
def vZero : Obj := .cells #[.bool false, .int .i64 0, .slice none 0 0, .int .i64 0, .int .i64 0] 116 (0, 0)

set_option maxRecDepth 10000 in
set_option maxHeartbeats 400000 in
theorem newWriter_any (m : Int) (w : World) :
    Calls Tryz.prog 24 #[.int .i64 m] w fun e w' => e = .returned (.pointer (some ⟨w.heap.size, 0, none⟩)) ∧ w' = w.alloc (wNew m) := by
  by_cases h0 : m < 0
  · have HC : Hid (clampW m = 0) := by unfold clampW; rw [if_pos h0]; rfl
    unfold wNew
    rw [HC.out]
    have d0 : decide (m < 0) = true := by simp [h0]
    have d1 : decide (0 < m) = false := by simp; omega
    have d2 : max m 0 = 0 := by omega
    go_enter Tryz.func24, Tryz.ntmps24
    go_wp2
    go_ret
    exact ⟨rfl, rfl⟩
  · by_cases h1 : 65507 < m
    · have HC : Hid (clampW m = 65507) := by unfold clampW; rw [if_neg h0, if_pos h1]; rfl
      unfold wNew
      rw [HC.out]
      have d0 : decide (m < 0) = false := by simp; omega
      have d1 : decide (0 < m) = true := by simp; omega
      have d2 : max m 0 = m := by omega
      have d3 : decide (65507 < m) = true := by simp; omega
      have d4 : decide (m < 65507) = false := by simp; omega
      go_enter Tryz.func24, Tryz.ntmps24
      go_wp2
      go_ret
      exact ⟨rfl, rfl⟩
    · have HC : Hid (clampW m = m) := by unfold clampW; rw [if_neg h0, if_neg h1]; rfl
      unfold wNew
      rw [HC.out]
      have d0 : decide (m < 0) = false := by simp; omega
      have d3 : decide (65507 < m) = false := by simp; omega
      go_enter Tryz.func24, Tryz.ntmps24
      go_wp2
      go_ret
      exact ⟨rfl, rfl⟩

set_option maxRecDepth 10000 in
set_option maxHeartbeats 400000 in
theorem refNewWriter_any (m : Int) (w : World) :
    Calls Tryz.prog 42 #[.int .i64 m] w fun e w' => e = .returned (.pointer (some ⟨w.heap.size, 0, none⟩)) ∧ w' = w.alloc (vNew m) := by
  by_cases h0 : m < 0
  · have HC : Hid (clampW m = 0) := by unfold clampW; rw [if_pos h0]; rfl
    unfold vNew
    rw [HC.out]
    have d0 : decide (m < 0) = true := by simp [h0]
    go_enter Tryz.func42, Tryz.ntmps42
    go_wp2
    go_ret
    exact ⟨rfl, rfl⟩
  · by_cases h1 : 65507 < m
    · have HC : Hid (clampW m = 65507) := by unfold clampW; rw [if_neg h0, if_pos h1]; rfl
      unfold vNew
      rw [HC.out]
      have d0 : decide (m < 0) = false := by simp; omega
      have d3 : decide (65507 < m) = true := by simp; omega
      go_enter Tryz.func42, Tryz.ntmps42
      go_wp2
      go_ret
      exact ⟨rfl, rfl⟩
    · have HC : Hid (clampW m = m) := by unfold clampW; rw [if_neg h0, if_neg h1]; rfl
      unfold vNew
      rw [HC.out]
      have d0 : decide (m < 0) = false := by simp; omega
      have d3 : decide (65507 < m) = false := by simp; omega
      go_enter Tryz.func42, Tryz.ntmps42
      go_wp2
      go_ret
      exact ⟨rfl, rfl⟩

theorem clampW_le (m : Int) : 0 ≤ clampW m ∧ clampW m ≤ 65507 := by
  unfold clampW
  split
  · omega
  · split <;> omega
theorem foot_plain {w : World} {p j k : Nat} (hc : w.cell? ⟨p, j, none⟩ = some (.slice none 0 0)) (h : Foot w p j k) : k = p := by
  rcases h with h | ⟨u, hu, hg⟩
  · exact h
  · rw [hc] at hu
    cases hu
    cases hg
/-- Two writers that were just made. -/
theorem pair_two (w : World) (made : Bool) (most : Int) (hm : made = true → 0 ≤ most ∧ most ≤ 65507) :
    PairW w.heap.size (w.heap.size + 1) (some ⟨w.heap.size, 0, none⟩) ((w.alloc (.cells #[.bool made, .int .i64 0, .int .i64 0, .int .i64 most, .slice none 0 0] 97 (0, 0))).alloc (.cells #[.bool made, .int .i64 most, .slice none 0 0, .int .i64 0, .int .i64 0] 116 (0, 0))) ⟨made, 0, 0, most, [], KW⟩ := by
  generalize ho1 : Obj.cells #[.bool made, .int .i64 0, .int .i64 0, .int .i64 most, .slice none 0 0] 97 (0, 0) = o1
  generalize ho2 : Obj.cells #[.bool made, .int .i64 most, .slice none 0 0, .int .i64 0, .int .i64 0] 116 (0, 0) = o2
  have hb1 : ((w.alloc o1).alloc o2).heap[w.heap.size]? = some o1 := ((World.grownBy_alloc (w.alloc o1) o2 none).block w.heap.size (by simp) (by simp)).trans (heap_alloc_new w o1)
  have hb2 : ((w.alloc o1).alloc o2).heap[w.heap.size + 1]? = some o2 := by
    have h := heap_alloc_new (w.alloc o1) o2
    rwa [show (w.alloc o1).heap.size = w.heap.size + 1 by simp] at h
  subst ho1 ho2
  have c1 := block_cell hb1 4
  have c2 := block_cell hb2 2
  refine ⟨.inr ⟨_, rfl, .slice none 0 0, hb1, Owns.nil _ _, by simp [Value.ownBlock]⟩, ⟨.slice none 0 0, hb2, Owns.nil _ _, by simp [Value.ownBlock]⟩, fun h => ?_, fun _ => rfl, fun p hp => ?_, by omega, ?_⟩
  · have := hm h
    simp only [List.length_nil]
    omega
  · cases hp; exact Nat.le_refl _
  · rintro k ⟨p, hp, hf⟩ hf2
    cases hp
    have e1 := foot_plain c1 hf
    have e2 := foot_plain c2 hf2
    omega
/-- A nil writer. -/
theorem pair_nil (w : World) :
    PairW w.heap.size w.heap.size none (w.alloc vZero) WS0 := by
  have hb2 := heap_alloc_new w vZero
  refine ⟨.inl ⟨rfl, rfl⟩, ⟨.slice none 0 0, hb2, Owns.nil _ _, by simp [Value.ownBlock]⟩, fun h => (by cases h), fun _ => rfl, fun p hp => (by cases hp), Nat.le_refl _, ?_⟩
  rintro k ⟨p, hp, hf⟩
  cases hp

theorem Fl.Ok.belowB {base : Nat} {w w' : World} {f : Fl} (h : f.Ok base w) (hb : Below base w w') : f.Ok base w' := ⟨h.hN, h.hK1, h.hK2, h.hI1, h.hI2, h.hM1, h.hM2, h.hB.belowB hb, h.hS⟩

end Go.Proofs.YtgaalaoflaklgaaGreat
namespace Go.Proofs.YtgaalaoflaklgaaGreat
open Go.RowKit Crc

/-- What comes of a batch. -/
def bRes (stamp : Nat) (rs : List Rq) : List Nat := if (bFault stamp rs).2 = 0 then encL stamp rs else []
theorem Rqs.wide {lim lim' : Nat} {w : World} {ro : Option Addr} {rs : List Rq} {b off : Nat} (h : Rqs lim w ro rs b off) (hl : lim ≤ lim') : Rqs lim' w ro rs b off :=
  ⟨h.ad, fun h0 => Nat.lt_of_lt_of_le (h.lt h0) hl, h.le, h.at_, fun r hr => ⟨(h.ok r hr).hc, (h.ok r hr).hs, (h.ok r hr).hC.wide hl⟩⟩
theorem Owns.low {base base' : Nat} {w : World} {v : Value} {B : List Nat} (h : Owns base w v B) (hl : base' ≤ base) : Owns base' w v B := by
  refine ⟨⟨h.1.1, ?_⟩, h.2⟩
  rcases h.1.2 with h0 | ⟨g, cap, cur, h1, h2, h3⟩
  · exact .inl h0
  · exact .inr ⟨g, cap, cur, h1, Nat.le_trans hl h2, h3⟩
theorem bGo_at : ∀ (rs : List Rq) (i : Nat), (bGo rs i).2 = 0 → (bGo rs i).1 = 0
  | [], _, _ => rfl
  | x :: t, i, h => by
    by_cases hx : x.why = 0
    · rw [bGo, if_pos hx] at h ⊢
      exact bGo_at t (i + 1) h
    · rw [bGo, if_neg hx] at h
      exact absurd h hx
theorem bFault_at {stamp : Nat} {rs : List Rq} (h : (bFault stamp rs).2 = 0) : (bFault stamp rs).1 = 0 := by
  unfold bFault at h ⊢
  by_cases h1 : 1099511627776 < stamp
  · rw [if_pos h1] at h; cases h
  · by_cases h2 : 8 < rs.length
    · rw [if_neg h1, if_pos h2] at h; cases h
    · rw [if_neg h1, if_neg h2] at h ⊢
      exact bGo_at rs 0 h

set_option maxRecDepth 10000 in
set_option maxHeartbeats 1600000 in
theorem encBatch_prog {w : World} (stamp : Nat) (hst : stamp < 18446744073709551616) {ro : Option Addr} {rs : List Rq} {b off : Nat} (rc : Nat) (h : Rqs w.heap.size w ro rs b off) (hco : ∀ r ∈ rs, ∀ b off, r.co = some ⟨b, off, none⟩ → b < w.heap.size) :
    Calls Tryz.prog 5 #[.agg #[.int .u64 (stamp : Int), .slice ro rs.length rc]] w fun e w' => ∃ v x, e = .returned (.tuple #[v, x]) ∧ Hid (Owns w.heap.size w' v (bRes stamp rs) ∧ ErrV w' x (bFault stamp rs).2 (bFault stamp rs).1 ∧ Below w.heap.size w w') := by
  have hb0 := below_alloc1 w (.cells #[.int .u64 (stamp : Int), .slice ro rs.length rc] 25)
  have HFA : Hid (Calls Tryz.prog 22 #[.agg #[.int .u64 (stamp : Int), .slice ro rs.length rc]] (w.alloc (.cells #[.int .u64 (stamp : Int), .slice ro rs.length rc] 25)) fun e w' => e = .returned (.tuple #[.int .i64 ((bFault stamp rs).1 : Int), .int .i64 (bFault stamp rs).2]) ∧ w'.cell? ⟨w.heap.size, 0, none⟩ = some (.int .u64 (stamp : Int)) ∧ w'.cell? ⟨w.heap.size, 1, none⟩ = some (.slice ro rs.length rc) ∧ Hid (Below w.heap.size w w' ∧ w.heap.size < w'.heap.size)) := by
    refine (batchFault_any stamp rc ((h.below hb0).wide hb0.size)).mono ?_
    rintro e w' ⟨rfl, hb⟩
    have hc : ∀ k v, (#[Value.int .u64 (stamp : Int), .slice ro rs.length rc])[k]? = some v → w'.cell? ⟨w.heap.size, k, none⟩ = some v := fun k v hv => (hb.cell (p := ⟨w.heap.size, k, none⟩) (by simp)).trans ((World.cell?_alloc_new w _ _ _).trans hv)
    exact ⟨rfl, hc 0 _ rfl, hc 1 _ rfl, hb0.trans (hb.mono hb0.size), by have := hb.size; simp at this; omega⟩
  have HR := hide h
  have HCO := hide hco
  clear h hb0 hco
  by_cases hz : (bFault stamp rs).2 = 0
  · have HLY : Hid (∀ w1, Below w.heap.size w w1 → w1.cell? ⟨w.heap.size, 0, none⟩ = some (.int .u64 (stamp : Int)) → w1.cell? ⟨w.heap.size, 1, none⟩ = some (.slice ro rs.length rc) → Calls Tryz.prog 24 #[.int .i64 65507] w1 fun e w2 => ∃ p, e = .returned (.pointer (some ⟨p, 0, none⟩)) ∧ w2.cell? ⟨w.heap.size, 0, none⟩ = some (.int .u64 (stamp : Int)) ∧ w2.cell? ⟨w.heap.size, 1, none⟩ = some (.slice ro rs.length rc) ∧ Hid (Calls Tryz.prog 25 #[.pointer (some ⟨p, 0, none⟩), .agg #[.int .u64 (stamp : Int), .slice ro rs.length rc]] w2 fun e w3 => e = .returned (.tuple #[]) ∧ Hid (Calls Tryz.prog 26 #[.pointer (some ⟨p, 0, none⟩)] w3 fun e w4 => ∃ v, e = .returned (.tuple #[v, .nilIface]) ∧ Hid (Owns w.heap.size w4 v (encL stamp rs) ∧ Below w.heap.size w w4)))) := by
      intro w1 hb1 c0 c1
      obtain ⟨k1, k2, k3⟩ := bFault_ok hz
      have hlt : w.heap.size < w1.heap.size := World.block_lt_of_cell? w1 ⟨w.heap.size, 0, none⟩ c0
      refine (newWriter_full w1).mono ?_
      rintro e w2 ⟨rfl, hW, hb2⟩
      have hb2w : Below w.heap.size w w2 := hb1.trans (hb2.mono (by omega))
      refine ⟨w1.heap.size, rfl, (hb2.cell (p := ⟨w.heap.size, 0, none⟩) hlt).trans c0, (hb2.cell (p := ⟨w.heap.size, 1, none⟩) hlt).trans c1, ?_⟩
      have hs2 : w1.heap.size ≤ w2.heap.size := hb2.size
      have hWS : WrS w1.heap.size w2 w1.heap.size WS1 := hW
      refine (layBatch_prog (base := w1.heap.size) hWS (fun _ => ⟨by simp [WS1], by simp [WS1]⟩) hs2 (Nat.le_refl _) stamp hst rc ((HR.out.below hb2w).wide (by omega)) k2 (fun r hr => (k3 r hr).2) (fun r hr b off hbo => by have := HCO.out r hr b off hbo; omega)).mono ?_
      rintro e w3 ⟨rfl, H3⟩
      obtain ⟨hw3, ht3⟩ := H3.out
      refine ⟨rfl, ?_⟩
      rw [layB_ok k2 hst (fun r hr => ⟨(k3 r hr).2, (HR.out.ok r hr).hC.1, (HR.out.ok r hr).hc, (HR.out.ok r hr).hs⟩)] at hw3
      refine (wBytes_good w1.heap.size w1.heap.size 0 65507 (encL stamp rs) w3 hw3).mono ?_
      rintro e w4 ⟨v, rfl, ho, hb4⟩
      have hb3 : Below w1.heap.size w2 w3 := (mach_prog w1.heap.size w1.heap.size (Nat.le_refl _)).belowOf hWS hs2 ht3
      have hb3w : Below w.heap.size w w3 := hb2w.trans (hb3.mono (by omega))
      exact ⟨v, rfl, ho.low (by have := hb3w.size; omega), hb3w.trans (hb4.mono hb3w.size)⟩
    have HBR : Hid (bRes stamp rs = encL stamp rs) := if_pos hz
    have HAT := hide (bFault_at hz)
    rw [hz] at HFA ⊢
    go_enter Tryz.func5, Tryz.ntmps5
    go_wp2_with fail
    refine HFA.out.mono ?_
    rintro e w1 ⟨rfl, c0, c1, H1⟩
    go_wp2_with fail
    refine (HLY.out w1 H1.out.1 c0 c1).mono ?_
    rintro e w2 ⟨p, rfl, d0, d1, H2⟩
    go_wp2_with fail
    refine H2.out.mono ?_
    rintro e w3 ⟨rfl, H3⟩
    go_wp2_with fail
    refine H3.out.mono ?_
    rintro e w4 ⟨v, rfl, H4⟩
    obtain ⟨vo, vc, hv, _, _⟩ := H4.out.1.form
    subst hv
    go_wp2
    go_ret2
    refine ⟨_, _, rfl, ?_⟩
    rw [HBR.out, HAT.out]
    exact ⟨H4.out.1, .inl ⟨rfl, rfl, rfl⟩, H4.out.2⟩
  · have HBR : Hid (bRes stamp rs = []) := if_neg hz
    have hz' : ((bFault stamp rs).2 == 0) = false := by simp [hz]
    have hz2 : ((bFault stamp rs).2 != 0) = true := by simp [hz]
    have HZ := hide hz
    generalize hF : (bFault stamp rs).2 = y at *
    generalize hG : (bFault stamp rs).1 = a at *
    clear hF hG hz
    go_enter Tryz.func5, Tryz.ntmps5
    go_wp2_with fail
    refine HFA.out.mono ?_
    rintro e w1 ⟨rfl, c0, c1, H1⟩
    go_wp2_with fail
    refine (refusal_any _ _ _).mono ?_
    rintro e w2 ⟨v, rfl, rfl, hv, hb2⟩
    have HV := hide hv
    have HB2 := hide hb2
    clear hv hb2
    go_wp2
    go_ret2
    refine ⟨_, _, rfl, ?_⟩
    rw [HBR.out]
    exact ⟨Owns.nil _ _, .inr ⟨HV.out, HZ.out⟩, H1.out.1.trans (HB2.out.mono (by have := H1.out.2; omega))⟩
end Go.Proofs.YtgaalaoflaklgaaGreat
namespace Go.Proofs.YtgaalaoflaklgaaGreat
open Go.RowKit Crc

theorem alloc_at (w : World) (o : Obj) : (w.alloc o).heap[w.heap.size]? = some o := by simp [World.alloc, -World.alloc_eq]
theorem fin_two {w w3 : World} {v : Value} {B : List Nat} (h : Owns (w.heap.size + 1 + 1) w3 v B) (hb : Below w.heap.size w w3) (x y : Value) :
    Owns w.heap.size ((w3.setCell ⟨w.heap.size + 1, 0, none⟩ x).setCell ⟨w.heap.size + 1, 1, none⟩ y) v B ∧ Below w.heap.size w ((w3.setCell ⟨w.heap.size + 1, 0, none⟩ x).setCell ⟨w.heap.size + 1, 1, none⟩ y) := by
  have hne : v.ownBlock ≠ some (w.heap.size + 1) := fun e => by have := (h.1.lt _ e).1; omega
  exact ⟨((h.kept (grown_set _ _ _ _) (.inr hne)).kept (grown_set _ _ _ _) (.inr hne)).low (by omega), (hb.setCell (p := ⟨w.heap.size + 1, 0, none⟩) (by simp) _).setCell (p := ⟨w.heap.size + 1, 1, none⟩) (by simp) _⟩

end Go.Proofs.YtgaalaoflaklgaaGreat
