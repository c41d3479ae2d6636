import Derived.Test.YtidhondcfagoaaaDoorM10
import Derived.Lib.RuneCountTail
import Derived.Test.YtidhondcfagoaaaDoorM1
namespace Go.Proofs.YtidhondcfagoaaaDoor
open Go.RowKit Crc

theorem head3 (t : ByteArray) (h : 3 ≤ t.size) : (t.extract 0 3).toList = [t.get! 0, t.get! 1, t.get! 2] := by
  rw [ByteArray.toList_eq]
  obtain ⟨⟨l⟩⟩ := t
  match l, h with
  | a :: b :: c :: r, _ => simp [ByteArray.data_extract, ByteArray.get!]
theorem u8_lit (x : UInt8) (n : Nat) (hn : n < 256) : x.toNat = n ↔ x = UInt8.ofNat n := by
  constructor
  · intro h; rw [← h]; simp
  · intro h; rw [h]; simp; omega

end Go.Proofs.YtidhondcfagoaaaDoor
namespace Go.Proofs.YtidhondcfagoaaaDoor
open Go.RowKit Crc

end Go.Proofs.YtidhondcfagoaaaDoor
