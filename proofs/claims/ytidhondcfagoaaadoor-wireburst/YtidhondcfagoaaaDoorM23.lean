import Derived.Test.YtidhondcfagoaaaDoorM1
import Derived.Test.YtidhondcfagoaaaDoorM20
import Derived.Test.YtidhondcfagoaaaDoorM13
import Derived.Lib.ConvBytes
namespace Go.Proofs.YtidhondcfagoaaaDoor
open Go.RowKit Crc

end Go.Proofs.YtidhondcfagoaaaDoor
namespace Go.Proofs.YtidhondcfagoaaaDoor
open Go.RowKit Crc

theorem bytesW_below (w : World) (e : TypeId) (s : ByteArray) : Below w.heap.size w (Go.Lib.bytesWorld w e s) := by
  refine ⟨rfl, rfl, rfl, ?_, fun j hj => Go.Lib.bytesWorld_at_old w e s j hj⟩
  rw [Go.Lib.bytesWorld_size]; omega

theorem strB_getD (S : ByteArray) (i : Nat) (hi : i < S.size) : (strB S).getD i 0 = (S.data.toList.getD i 0).toNat := by
  have h : i < S.data.toList.length := by simpa using hi
  simp [strB, List.getD, List.getElem?_eq_getElem h]
theorem bytesW_shows (w : World) (S : ByteArray) (hS : S.size ≤ 140737488355328) : Shows (w.heap.size + 1) (Go.Lib.bytesWorld w 5 S) (some ⟨w.heap.size, 0, none⟩) S.size (grownCap w S.size 0 5) (strB S) := by
  refine ⟨(strB_len S).symm, ?_, hS, strB_lt S, w.heap.size, 0, fun _ => rfl, by omega, fun i hi => ?_⟩
  · have := grownCap_ge w S.size 0 5; omega
  · rw [Nat.zero_add, Go.Lib.bytesWorld_cell w 5 S i hi, strB_getD S i hi]

end Go.Proofs.YtidhondcfagoaaaDoor
