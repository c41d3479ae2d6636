import Derived.Test.YtbfjeabngdiejaaDoorUnframe
import Derived.Deep.RegionHeld
namespace Go.Proofs.YtbfjeabngdiejaaDoor
open Go.RowKit Crc

set_option maxHeartbeats 400000 in
theorem unframe_ok (b off : Nat) (B : List Nat) (n cap : Nat) (w : World) (hn : n = B.length) (hcap : n ≤ cap) (hB : ∀ x ∈ B, x < 256) (hT : Table w) (hbw : b < w.heap.size)
  (hc : ∀ i, i < n → w.cell? ⟨b, off + i, none⟩ = some (.int .u8 ((B.getD i 0 : Nat) : Int))) (hok : (ff B).2 = 0) :
    Calls Tryd.prog 7 #[.slice (some ⟨b, off, none⟩) n cap] w fun e w' => ∃ v, e = .returned (.tuple #[.int .u8 (B.getD 3 0 : Nat), v, .nilIface]) ∧ Fresh w w' v ((B.drop 8).take (n - 12)) ∧ (v = .slice none 0 0 ∨ v = .slice (some ⟨w.heap.size, 0, none⟩) (n - 12) (n - 12)) := by
  obtain ⟨h12, hmax, hff, _, _, _, _⟩ := ff_ok hok
  have HF : Hid (Calls Tryd.prog 18 #[.slice (some ⟨b, off, none⟩) n cap] w fun e w' => e = .returned (pairV (0, 0)) ∧ ∃ q, w' = w.drewN q) := by
    rw [← hff]; exact ff_any b off _ B n cap w (fun _ => rfl) hn (by omega) hcap hB hT hc
  obtain ⟨E, hE⟩ : ∃ E, E = n - 4 := ⟨_, rfl⟩
  have hE1 : E + 4 ≤ n := by omega
  have hE2 : 8 ≤ E := by omega
  have HE : Hid (E = n - 4) := hE
  have i1 : (8 : Int) ≤ (E : Int) := by omega
  have i2 : (E : Int) ≤ (cap : Int) := by omega
  have i3 : E ≤ cap := by omega
  have i4 : (0 : Int) ≤ (E : Int) := by omega
  have i5 : ¬ cap = 8 := by omega
  have j1 : (3 : Int) < (n : Int) := by omega
  have j2 : 3 < n := by omega
  have HW : Hid (IntKind.i64.wrap ((n : Int) - 4) = (E : Int)) := by show _ = _; rw [IntKind.wrap_i64]; omega
  have HC : Hid (∀ wx : World, wx.heap = w.heap → Calls Tryd.prog 19 #[.slice (some ⟨b, off + 8, none⟩) (E - 8) (cap - 8)] wx fun e w' => ∃ v, e = .returned v ∧ (v = .slice none 0 0 ∨ v = .slice (some ⟨wx.heap.size, 0, none⟩) (E - 8) (E - 8)) ∧ (0 < E - 8 → v ≠ .slice none 0 0) ∧ Fresh wx w' v ((B.drop 8).take (n - 12))) := by
    intro wx hx
    refine copied_any b (off + 8) _ ((B.drop 8).take (n - 12)) (E - 8) (cap - 8) wx (fun _ => rfl) (by rw [List.length_take, List.length_drop]; omega) (by omega) (fun _ => by rw [hx]; exact hbw) (fun i hi => ?_)
    rw [getD_take (by omega), getD_drop, show off + 8 + i = off + (8 + i) by omega]
    exact (World.cell?_of_block (w := w) (w' := wx) (a := ⟨b, off + (8 + i), none⟩) (by rw [hx])).trans (hc (8 + i) (by omega))
  have hc3 := hc 3 (by omega)
  have hb3 := getD_lt B hB 3
  have HN : Hid (n = B.length) := hn
  have HBW : Hid (b < w.heap.size) := hbw
  clear hn hT hc hE hok hff hB
  generalize B.getD 3 0 = K at *
  unfold pairV at HF
  go_enter Tryd.func7, Tryd.ntmps7
  go_wp2_with fail
  refine HF.out.mono ?_
  rintro e w1 ⟨rfl, q, rfl⟩
  go_wp2
  have hw2 := HW.out
  have HE2 : Hid (E - 8 = n - 12) := by show _ = _; have := HE.out; omega
  clear HW HF HN HE hcap h12 hmax hE1 hE2 hb3
  go_region_held (fun w' => w'.cell? ⟨b, off + 3, none⟩ = some (.int .u8 (K : Int))) (go_keep)
    ((go_at_call 19; refine (HC.out _ ?_).mono ?_; rfl; rintro e w1 ⟨v, rfl, hv, hv2, hfr⟩; have hx3 := (hfr.2.cell (p := ⟨b, off + 3, none⟩) HBW.out).trans hc3))
  go_wp2
  go_ret3
  refine ⟨v, rfl, ⟨hfr.1, ⟨hfr.2.os, hfr.2.tape, hfr.2.output, hfr.2.size, hfr.2.block⟩⟩, ?_⟩
  rcases hv with h | h
  · exact .inl h
  · refine .inr ?_
    rw [h, HE2.out]
    rfl
end Go.Proofs.YtbfjeabngdiejaaDoor
