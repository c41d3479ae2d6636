import Derived.Test.YtmoklddfaocihaaDoorBKc
namespace Go.Proofs.YtmoklddfaocihaaDoor
open Go.RowKit

/-- A refusal that a function hands out. -/
def FvP (w : World) (L : List Lk) (c : Int) (e : Ending) (w' : World) : Prop := ∃ ao cap, e = .returned (.agg #[.slice ao L.length cap, .int .i64 c]) ∧ Hid (∃ b off, FV w'.heap.size w' ao L b off ∧ Below w.heap.size w w')
theorem fv_one {w : World} {g : Nat} {l : Lk} (h0 : w.cell? ⟨g, 0, none⟩ = some (.string l.layer)) (h1 : w.cell? ⟨g, 1, none⟩ = some (.int .i64 l.at_)) : FV w.heap.size w (some ⟨g, 0, none⟩) [l] g 0 := by
  have hlt : g < w.heap.size := by
    rcases Nat.lt_or_ge g w.heap.size with h | h
    · exact h
    · simp [World.cell?, Array.getElem?_eq_none h] at h0
  refine ⟨fun _ => rfl, fun _ => hlt, by simp, fun i x hx => ?_⟩
  have hi := (List.getElem?_eq_some_iff.1 hx).1
  obtain rfl : i = 0 := by simpa using hi
  cases hx
  exact ⟨h0, h1⟩
set_option maxRecDepth 10000 in
set_option maxHeartbeats 800000 in
theorem new0 (layer : ByteArray) (at_ c : Int) (w : World) : Calls Tryd.prog 72 #[.string layer, .int .i64 at_, .int .i64 c] w (FvP w [⟨layer, at_⟩] c) := by
  unfold FvP
  go_enter Tryd.func72, Tryd.ntmps72
  go_wp2
  refine bodyPost_ret (v := .agg #[.slice (some ⟨w.heap.size + 1, 0, none⟩) 1 1, .int .i64 c]) (by simp [results, Tryd.results72, go_sem]) rfl ⟨some ⟨w.heap.size + 1, 0, none⟩, 1, rfl, w.heap.size + 1, 0, ?_, ?_⟩
  · have e1 : (w.alloc (.cells #[.slice (some ⟨w.heap.size + 1, 0, none⟩) 1 1, .int .i64 c] 30)).heap.size = w.heap.size + 1 := by simp
    have q0 := World.cell?_alloc_new (w.alloc (.cells #[.slice (some ⟨w.heap.size + 1, 0, none⟩) 1 1, .int .i64 c] 30)) #[.string layer, .int .i64 at_] 131 0
    have q1 := World.cell?_alloc_new (w.alloc (.cells #[.slice (some ⟨w.heap.size + 1, 0, none⟩) 1 1, .int .i64 c] 30)) #[.string layer, .int .i64 at_] 131 1
    rw [e1] at q0 q1
    exact fv_one q0 q1
  · exact ((Below.refl _ w).alloc (Nat.le_refl _) _).alloc (by simp) _
end Go.Proofs.YtmoklddfaocihaaDoor
