import Derived.Test.YtickefobomldlaaDoorW6
import Derived.Test.YtickefobomldlaaDoorW7
import Derived.WalkSmall
import Derived.Laws.OwnMore
namespace Go.Proofs.YtickefobomldlaaDoor
open Go.RowKit Crc

theorem Table.below {w w1 : World} (h : Table w) (h0 : 0 < w.heap.size) (hb : Below w.heap.size w w1) : Table w1 :=
  fun i hi => (hb.cell (p := ⟨0, i, none⟩) h0).trans (h i hi)

/-- What is owned, cell by cell. -/
theorem owned_cells {w : World} {base g n : Nat} {B : List Nat} (hown : w.ownsRow base 5 1 (.slice (some ⟨g, 0, none⟩) n n) n (vals B)) : ∀ i, i < n → w.cell? ⟨g, i, none⟩ = some (.int .u8 ((B.getD i 0 : Nat) : Int)) := by
  intro i hi
  have hl : (vals B).length = n := by have := hown.1; omega
  have hlB : B.length = n := by simpa [vals] using hl
  rw [hown.cellAt i (by omega)]
  unfold vals
  rw [List.getElem?_map, List.getD_eq_getElem?_getD, List.getElem?_eq_getElem (by omega)]
  rfl

set_option maxHeartbeats 800000 in
theorem law_any (b off : Nat) (ao : Option Addr) (B : List Nat) (n cap : Nat) (w : World) (hao : 0 < n → ao = some ⟨b, off, none⟩) (hn : n = B.length) (hl : n ≤ 140737488355328) (hB : ∀ x ∈ B, x < 256)
  (hbw : 0 < n → b < w.heap.size) (h0 : 0 < w.heap.size) (hT : Table w) (hc : ∀ i, i < n → w.cell? ⟨b, off + i, none⟩ = some (.int .u8 ((B.getD i 0 : Nat) : Int))) :
    Calls Tryd.prog 3 #[.slice ao n cap] w fun e w' => e = .returned (.bool true) ∧ Below w.heap.size w w' := by
  have H1 : Hid (∀ w1, Below w.heap.size w w1 → Table w1) := fun w1 hb => hT.below h0 hb
  have H2 : Hid (∀ w1, Below w.heap.size w w1 → ∀ i, i < n → w1.cell? ⟨b, off + i, none⟩ = some (.int .u8 ((B.getD i 0 : Nat) : Int))) := fun w1 hb i hi => (hb.cell (p := ⟨b, off + i, none⟩) (hbw (by omega))).trans (hc i hi)
  have HA : Hid (0 < n → ao = some ⟨b, off, none⟩) := hao
  have HN : Hid (n = B.length) := hn
  have HB : Hid (∀ x ∈ B, x < 256) := hB
  have HW : Hid (0 < n → b < w.heap.size) := hbw
  have HC : Hid (∀ i, i < n → w.cell? ⟨b, off + i, none⟩ = some (.int .u8 ((B.getD i 0 : Nat) : Int))) := hc
  clear hao hn hB hbw hT hc
  go_enter Tryd.func3, Tryd.ntmps3
  go_wp2_with fail
  refine (lend_any b off ao B n cap w HA.out HN.out hl HW.out HC.out).mono ?_
  rintro e w1 ⟨rfl, hown, hb⟩
  have hcg := owned_cells hown
  have HG : Hid (∀ i, i < n + 4 → w1.cell? ⟨w.heap.size, i, none⟩ = some (.int .u8 (((B ++ marksTo 4).getD i 0 : Nat) : Int))) := hcg
  have HO : Hid (Below w.heap.size w w1) := hb
  clear hcg hown hb
  go_wp2_with fail
  refine (sum_any w.heap.size 0 _ B n (n + 4) w1 (fun _ => rfl) HN.out hl HB.out (H1.out w1 HO.out) ?hs).mono ?_
  case hs =>
    intro i hi
    have := HG.out i (by omega)
    rw [List.getD_eq_getElem?_getD, List.getElem?_append_left (by have := HN.out; omega)] at this
    rw [Nat.zero_add, this, List.getD_eq_getElem?_getD]
  rintro e w2 ⟨rfl, rfl⟩
  go_wp2_with fail
  refine (ref_any b off ao B n cap w2 HA.out HN.out hl HB.out (H2.out w2 HO.out)).mono ?_
  rintro e w3 ⟨rfl, rfl⟩
  go_wp2_with fail
  refine (kept_any b off w.heap.size ao B n cap w3 HA.out HN.out hl (H2.out w3 HO.out) HG.out).mono ?_
  rintro e w4 ⟨rfl, q, rfl⟩
  go_wp2
  go_ret
  exact ⟨rfl, below_drewN HO.out q⟩
end Go.Proofs.YtickefobomldlaaDoor
