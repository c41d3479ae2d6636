import Derived.Test.YthacdhhmmmocpaaGreatDoorPReadsD
import Derived.Test.YthacdhhmmmocpaaGreatDoorPFls
namespace Go.Proofs.YthacdhhmmmocpaaGreatDoor
open Go.RowKit Crc

theorem copy_sh {lim : Nat} {w : World} {ao : Option Addr} {n cap : Nat} {B : List Nat} (h : Shows lim w ao n cap B) (hlw : lim ≤ w.heap.size) :
    Calls Tryz.prog 56 #[.slice ao n cap] w fun e w' => ∃ v, e = .returned v ∧ Owns w.heap.size w' v B ∧ Below w.heap.size w w' := by
  obtain ⟨h1, h2, h3, h4, b, off, h5, h6, h7⟩ := h
  exact copy_walk b off ao B n cap w h5 h1 h3 h4 (fun h => Nat.lt_of_lt_of_le (h6 h) hlw) h7

set_option maxRecDepth 10000 in
set_option maxHeartbeats 800000 in
theorem refNew_any {lim : Nat} {w : World} {ao : Option Addr} {n cap : Nat} {B : List Nat} (h : Shows lim w ao n cap B) (hlw : lim ≤ w.heap.size) :
    Calls Tryz.prog 40 #[.slice ao n cap] w fun e w' => ∃ p d, e = .returned (.pointer (some ⟨p, 0, none⟩)) ∧ w.heap.size ≤ p ∧ w.heap.size ≤ d ∧ d ≤ p ∧ RefS d w' p ⟨true, 0, 0, B, 0, KR⟩ ∧ Below w.heap.size w w' := by
  have HCP := hide (copy_sh h hlw)
  clear h
  go_enter Tryz.func40, Tryz.ntmps40
  go_wp2_with fail
  refine HCP.out.mono ?_
  rintro e w1 ⟨v, rfl, hO, hb1⟩
  obtain ⟨a1, c1, rfl, hs1, ha⟩ := hO.form
  have HO := hide (And.intro hO (And.intro hs1 ha))
  have HB1 := hide hb1
  clear hO hs1 ha hb1
  generalize hbl : B.length = m at *
  go_wp2
  go_ret
  have hsz := HB1.out.size
  obtain ⟨hO, hs1, ha⟩ := HO.out
  have hbel : Below w.heap.size w (w1.alloc (.cells #[.bool true, .slice a1 m c1, .int .i64 0, .int .i64 0, .int .i64 0] 84 (0, 0))) := HB1.out.alloc hsz _
  have hg : w1.grownBy (w1.alloc (.cells #[.bool true, .slice a1 m c1, .int .i64 0, .int .i64 0, .int .i64 0] 84 (0, 0))) none := World.grownBy_alloc w1 _ none
  obtain ⟨h1, h2, h3, h4, b, off, h5, h6, h7⟩ := hs1
  rcases ha with ⟨rfl, rfl⟩ | ⟨g, rfl, hg1, hg2⟩
  · have hm0 : m = 0 := by omega
    refine ⟨w1.heap.size, w1.heap.size, rfl, hsz, hsz, Nat.le_refl _, ⟨none, 0, ?_, ⟨by simp only; omega, .inr ⟨rfl, rfl, by simp only; omega⟩⟩, by simp only; omega, h4, by simp, fun h => by simp only at h; omega, fun h => by simp only at h; omega, fun i hi => by simp only at hi; omega⟩, hbel⟩
    simp only [hbl]
    exact heap_alloc_new w1 _
  · refine ⟨w1.heap.size, g, rfl, hsz, hg1, Nat.le_of_lt hg2, ⟨some ⟨g, 0, none⟩, c1, ?_, ⟨by simp only; omega, .inl rfl⟩, by simp only; omega, h4, by simp, fun _ => rfl, fun _ => by omega, fun i hi => ?_⟩, hbel⟩
    · simp only [hbl]
      exact heap_alloc_new w1 _
    · simp only at hi
      have e := h5 (by omega)
      simp only [Option.some.injEq, Addr.mk.injEq, and_true] at e
      obtain ⟨rfl, rfl⟩ := e
      have h8 := h7 i (by omega)
      rw [Nat.zero_add] at h8
      exact hg.cell h8 (by simp)
end Go.Proofs.YthacdhhmmmocpaaGreatDoor
