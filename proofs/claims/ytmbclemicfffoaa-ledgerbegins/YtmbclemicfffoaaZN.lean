import Derived.Test.YtmbclemicfffoaaZA
import Derived.Deep.CutBlock
import Derived.Deep.DeepCutAuto
namespace Go.Proofs.Ytmbclemicfffoaa
open Go.RowKit

/-- A word lies at p; all else is as it was. -/
structure XS (B : Nat) (w : World) (p : Nat) (V : World) (u : Int) : Prop where
  at_ : V.heap[p]? = some (.cells #[.int .u64 u] 129 (0, 0))
  bel : Below B w V
  bp : B ≤ p
  oth : ∀ k, k ≠ p → V.heap[k]? = w.heap[k]?
theorem XS.drew {B : Nat} {w : World} {p : Nat} {V : World} {u : Int} (h : XS B w p V u) : XS B w p V.drew u := ⟨h.at_, h.bel.drew, h.bp, h.oth⟩
theorem XS.set {B : Nat} {w : World} {p : Nat} {V : World} {u : Int} (h : XS B w p V u) (u' : Int) : XS B w p (V.setCell ⟨p, 0, none⟩ (.int .u64 u')) u' := by
  refine ⟨?_, h.bel.setCell (p := ⟨p, 0, none⟩) h.bp _, h.bp, fun k hk => ?_⟩
  · have e := heap_setCell_same V p 0 _ _ (.int .u64 u') h.at_
    simpa using e
  · rw [heap_setCell_other V _ _ _ hk]
    exact h.oth k hk
set_option maxRecDepth 10000 in
set_option maxHeartbeats 800000 in
theorem nextZ (B p : Nat) (v : Int) (w : World) (h : XS B w p w v) :
    Calls Try.prog 65 #[.pointer (some ⟨p, 0, none⟩)] w fun e w' => ∃ u : Int, e = .returned (.int .u64 u) ∧ Hid (XS B w p w' u) := by
  have HX := hide h
  have c0 := block_cell h.at_ 0
  have c1 := block_free h.at_ 0
  have c2 := block_lt h.at_
  simp only [List.getElem?_toArray, List.getElem?_cons_zero] at c0
  clear h
  go_enter Try.func65, Try.ntmps65
  go_upto_region 1 with fail
  go_cut [] (fun wx => ∃ u, Hid (XS B w p wx u))
  case first =>
    go_region
    go_wp2
    go_meet
    case rel => first | exact ⟨_, HX.out.drew.set _⟩ | exact ⟨_, (HX.out.set _).drew⟩
  case rest =>
  clear c0 c1 c2 HX
  obtain ⟨v1, HX⟩ := hcut
  have c0 := block_cell HX.out.at_ 0
  have c1 := block_free HX.out.at_ 0
  have c2 := block_lt HX.out.at_
  simp only [List.getElem?_toArray, List.getElem?_cons_zero] at c0
  go_upto_region 2 with fail
  go_cut [] (fun wx => ∃ u, Hid (XS B w p wx u))
  case first =>
    go_region
    go_wp2
    go_meet
    case rel => first | exact ⟨_, HX.out.drew.set _⟩ | exact ⟨_, (HX.out.set _).drew⟩
  case rest =>
  clear c0 c1 c2 HX
  obtain ⟨v2, HX⟩ := hcut
  have c0 := block_cell HX.out.at_ 0
  have c1 := block_free HX.out.at_ 0
  have c2 := block_lt HX.out.at_
  simp only [List.getElem?_toArray, List.getElem?_cons_zero] at c0
  go_upto_region 3 with fail
  go_cut [] (fun wx => ∃ u, Hid (XS B w p wx u))
  case first =>
    go_region
    go_wp2
    go_meet
    case rel => first | exact ⟨_, HX.out.drew.set _⟩ | exact ⟨_, (HX.out.set _).drew⟩
  case rest =>
  clear c0 c1 c2 HX
  obtain ⟨v3, HX⟩ := hcut
  have c0 := block_cell HX.out.at_ 0
  have c1 := block_free HX.out.at_ 0
  have c2 := block_lt HX.out.at_
  simp only [List.getElem?_toArray, List.getElem?_cons_zero] at c0
  go_wp2
  go_ret
  exact ⟨_, rfl, HX.out⟩
end Go.Proofs.Ytmbclemicfffoaa
