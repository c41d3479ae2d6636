import Derived.Test.YtidhondcfagoaaaDoorM15
import Derived.Deep.RegionHeld
import Derived.Test.YtidhondcfagoaaaDoorM13
import Derived.Test.YtidhondcfagoaaaDoorM17
namespace Go.Proofs.YtidhondcfagoaaaDoor
open Go.RowKit Crc

theorem cell_block_lt {w : World} {b o : Nat} {v : Value} (h : w.cell? ⟨b, o, none⟩ = some v) : b < w.heap.size := World.block_lt_of_cell? w _ h
end Go.Proofs.YtidhondcfagoaaaDoor
namespace Go.Proofs.YtidhondcfagoaaaDoor
open Go.RowKit Crc

theorem strOf_size (L : List Nat) : (strOf L).size = L.length := by
  have h := foldl_push (L.map (fun (x : Nat) => (x : Int))) ByteArray.empty
  have h2 : (strOf L).data.toList.length = L.length := by
    unfold strOf
    rw [h]
    simp
  rw [Array.length_toList] at h2
  exact h2
theorem strOf_nil : strOf [] = ByteArray.empty := rfl
/-- A step that is taken back. -/
theorem RS.step_twice {s : RS} (hs : s.sound) (z z' : Nat) {y : Int} (hy : y ≠ 0) : { s.step z 0 with why := y, place := (s.pos : Int), pos := s.pos } = s.step z' y := RS.step_back hs z z' hy

end Go.Proofs.YtidhondcfagoaaaDoor
