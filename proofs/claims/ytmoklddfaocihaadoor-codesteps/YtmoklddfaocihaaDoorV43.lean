import Derived.Test.YtmoklddfaocihaaDoorV19
import Derived.Test.YtmoklddfaocihaaDoorV16
import Derived.Test.YtmoklddfaocihaaDoorV42
namespace Go.Proofs.YtmoklddfaocihaaDoor
open Go.ChangeShapes Go.WideShapes Go.ChangeAt Go.RowKit Go.Deep

theorem list8W {α : Type} {l : List α} (h : l.length = 8) : ∃ a b c d e f g k, l = [a, b, c, d, e, f, g, k] := by
 match l, h with
 | [a, b, c, d, e, f, g, k], _ => exact ⟨a, b, c, d, e, f, g, k, rfl⟩
theorem bnd {x : Int} (h : (Lit.int .u64 x).wf = true) : 0 ≤ x ∧ x < two64 := by
 simp [Lit.wf, IntKind.min, IntKind.max, IntKind.bits, IntKind.signed] at h
 unfold two64
 omega
/-- An environment that came in. -/
theorem view_env {H : Type} {enc : TypeId × Value → H} {W : World} {v : Value} {d : DataW H} {pl : List MemPlace}
  (h : DataW.Trod enc Tryd.prog W 0 (fun _ => true) true 44 v d pl) : ∃ e : En, v.cells.toList = e.cs ∧ e.Ok := by
 obtain ⟨fuel, hf0⟩ := h
 generalize v.cells.toList = L at hf0 ⊢
 obtain ⟨xs, n, _, hx, hl, hlen, hf⟩ := DataW.trod_struct Tryd.underlying44 hf0
 clear hf0
 rw [show Tryd.prog.cellsOf 44 = 8 by kernel_rfl] at hl
 have hlen : xs.length = 8 := hlen
 obtain ⟨y0, y1, y2, y3, y4, y5, y6, y7, rfl⟩ := list8W hlen
 have e0 : DataW.trod enc Tryd.prog W 0 (fun _ => true) true n 42 ((L.drop 0).take (Tryd.prog.cellsOf 42)) = some y0 := hf 0 _ rfl
 have e1 : DataW.trod enc Tryd.prog W 0 (fun _ => true) true n 42 ((L.drop 1).take (Tryd.prog.cellsOf 42)) = some y1 := hf 1 _ rfl
 have e2 : DataW.trod enc Tryd.prog W 0 (fun _ => true) true n 42 ((L.drop 2).take (Tryd.prog.cellsOf 42)) = some y2 := hf 2 _ rfl
 have e3 : DataW.trod enc Tryd.prog W 0 (fun _ => true) true n 42 ((L.drop 3).take (Tryd.prog.cellsOf 42)) = some y3 := hf 3 _ rfl
 have e4 : DataW.trod enc Tryd.prog W 0 (fun _ => true) true n 42 ((L.drop 4).take (Tryd.prog.cellsOf 42)) = some y4 := hf 4 _ rfl
 have e5 : DataW.trod enc Tryd.prog W 0 (fun _ => true) true n 42 ((L.drop 5).take (Tryd.prog.cellsOf 42)) = some y5 := hf 5 _ rfl
 have e6 : DataW.trod enc Tryd.prog W 0 (fun _ => true) true n 42 ((L.drop 6).take (Tryd.prog.cellsOf 42)) = some y6 := hf 6 _ rfl
 have e7 : DataW.trod enc Tryd.prog W 0 (fun _ => true) true n 4 ((L.drop 7).take (Tryd.prog.cellsOf 4)) = some y7 := hf 7 _ rfl
 rw [show Tryd.prog.cellsOf 42 = 1 by kernel_rfl] at e0 e1 e2 e3 e4 e5 e6
 rw [show Tryd.prog.cellsOf 4 = 1 by kernel_rfl] at e7
 obtain ⟨x0, k0, _, w0⟩ := DataW.trod_int Tryd.underlying42 e0
 obtain ⟨x1, k1, _, w1⟩ := DataW.trod_int Tryd.underlying42 e1
 obtain ⟨x2, k2, _, w2⟩ := DataW.trod_int Tryd.underlying42 e2
 obtain ⟨x3, k3, _, w3⟩ := DataW.trod_int Tryd.underlying42 e3
 obtain ⟨x4, k4, _, w4⟩ := DataW.trod_int Tryd.underlying42 e4
 obtain ⟨x5, k5, _, w5⟩ := DataW.trod_int Tryd.underlying42 e5
 obtain ⟨x6, k6, _, w6⟩ := DataW.trod_int Tryd.underlying42 e6
 obtain ⟨x7, k7, _⟩ := DataW.trod_bool Tryd.underlying4 e7
 have q0 := peelW L 0 1 k0
 have q1 := peelW L 1 1 k1
 have q2 := peelW L 2 1 k2
 have q3 := peelW L 3 1 k3
 have q4 := peelW L 4 1 k4
 have q5 := peelW L 5 1 k5
 have q6 := peelW L 6 1 k6
 have q7 := peelW L 7 1 k7
 have q8 : L.drop 8 = [] := List.drop_of_length_le (by omega)
 have e : L = L.drop 0 := rfl
 refine ⟨⟨x0, x1, x2, x3, x4, x5, x6, x7⟩, ?_, ⟨fun i hi => ?_⟩⟩
 ·rw [e, q0, q1, q2, q3, q4, q5, q6, q7, q8]
  rfl
 ·have b0 := bnd w0
  have b1 := bnd w1
  have b2 := bnd w2
  have b3 := bnd w3
  have b4 := bnd w4
  have b5 := bnd w5
  have b6 := bnd w6
  match i, hi with
  | 0, _ => exact b0
  | 1, _ => exact b1
  | 2, _ => exact b2
  | 3, _ => exact b3
  | 4, _ => exact b4
  | 5, _ => exact b5
  | 6, _ => exact b6
end Go.Proofs.YtmoklddfaocihaaDoor
