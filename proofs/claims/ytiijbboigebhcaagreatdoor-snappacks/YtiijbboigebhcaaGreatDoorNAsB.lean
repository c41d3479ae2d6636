import Derived.Test.YtiijbboigebhcaaGreatDoorNAsA
namespace Go.Proofs.YtiijbboigebhcaaGreatDoor
open Go.RowKit Go.Extern.Stop Go.Stop Go.Extern

/-- Set, where the value may be handed on as it is. -/
theorem set_run {P : Program} (v x : Value) (t : TypeId) (a b : Addr) (fl fb : Nat) (val : Value) (W : World) (hv : (ReflectliteValue.parts v).run P W = .ok (some (t, a, fl)) W) (hx : (ReflectliteValue.parts x).run P W = .ok (some (t, b, fb)) W)
    (hfl : (fl / ReflectliteValue.flagAddr % 2 == 0) = false) (hl : (loadVar t b).run P W = .ok val W) (hd : (Rtype.directlyAssignable t t).run P W = .ok true W) : (ReflectliteValue.set #[v, x]).run P W = ((storeVar t a val).run P W).andThen fun _ w => .ok (.tuple #[]) w := by
  have e : ∃ k : Option (TypeId × Addr × Nat) → Option (TypeId × Addr × Nat) → Sem Value, ReflectliteValue.set #[v, x] = (ReflectliteValue.parts v >>= fun p => ReflectliteValue.parts x >>= k p) ∧ (k (some (t, a, fl)) (some (t, b, fb))).run P W = ((storeVar t a val).run P W).andThen fun _ w => .ok (.tuple #[]) w := ⟨_, rfl, by simp [Sem.run_bind, hfl, hl, hd]⟩
  obtain ⟨k, e1, e2⟩ := e
  rw [e1, Sem.run_bind, hv, Result.andThen_ok, Sem.run_bind, hx, Result.andThen_ok, e2]
theorem partsA_pf (a : Addr) (w : World) : (ReflectliteValue.parts (.agg #[.pointer (some ⟨1, 117, none⟩), .pointer (some a), .int .u64 406])).run Tryz.prog w = .ok (some (117, a, 406)) w := by kernel_rfl
theorem partsB_pf (a : Addr) (w : World) : (ReflectliteValue.parts (.agg #[.pointer (some ⟨1, 117, none⟩), .pointer (some a), .int .u64 150])).run Tryz.prog w = .ok (some (117, a, 150)) w := by kernel_rfl
theorem direct_pf (w : World) : (Rtype.directlyAssignable 117 117).run Tryz.prog w = .ok true w := by kernel_rfl
theorem size_pf_ (w : World) : (sizeOf 117).run Tryz.prog w = .ok 1 w := by kernel_rfl
theorem setV_pf (ta b : Addr) (e : Addr) (old : Value) (W : World) (hb : W.cell? b = some (.pointer (some e))) (ht : W.cell? ta = some old) (hf : W.frozen? ta = false) :
    (ReflectliteValue.set #[.agg #[.pointer (some ⟨1, 117, none⟩), .pointer (some ta), .int .u64 406], .agg #[.pointer (some ⟨1, 117, none⟩), .pointer (some b), .int .u64 150]]).run Tryz.prog W = .ok (.tuple #[]) (W.setCell ta (.pointer (some e))) := by
  rw [set_run _ _ _ _ _ _ _ _ W (partsA_pf ta W) (partsB_pf b W) (by decide) (by simp [loadVar, isAgg, underlying, Tryz.underlying117, hb]; rfl) (direct_pf W)]
  simp [storeVar, Value.cells, storeCells, Addr.add]
  rw [run_store Tryz.prog W ta _ _ (by rfl)]
  simp [ht, hf]
theorem partsA_en (a : Addr) (w : World) : (ReflectliteValue.parts (.agg #[.pointer (some ⟨1, 59, none⟩), .pointer (some a), .int .u64 386])).run Tryz.prog w = .ok (some (59, a, 386)) w := by kernel_rfl
theorem partsB_en (a : Addr) (w : World) : (ReflectliteValue.parts (.agg #[.pointer (some ⟨1, 59, none⟩), .pointer (some a), .int .u64 130])).run Tryz.prog w = .ok (some (59, a, 130)) w := by kernel_rfl
theorem direct_en (w : World) : (Rtype.directlyAssignable 59 59).run Tryz.prog w = .ok true w := by kernel_rfl
theorem size_en_ (w : World) : (sizeOf 59).run Tryz.prog w = .ok 1 w := by kernel_rfl
theorem setV_en (ta b : Addr) (e : Int) (old : Value) (W : World) (hb : W.cell? b = some (.int .i64 e)) (ht : W.cell? ta = some old) (hf : W.frozen? ta = false) :
    (ReflectliteValue.set #[.agg #[.pointer (some ⟨1, 59, none⟩), .pointer (some ta), .int .u64 386], .agg #[.pointer (some ⟨1, 59, none⟩), .pointer (some b), .int .u64 130]]).run Tryz.prog W = .ok (.tuple #[]) (W.setCell ta (.int .i64 e)) := by
  rw [set_run _ _ _ _ _ _ _ _ W (partsA_en ta W) (partsB_en b W) (by decide) (by simp [loadVar, isAgg, underlying, Tryz.underlying59, hb]; rfl) (direct_en W)]
  simp [storeVar, Value.cells, storeCells, Addr.add]
  rw [run_store Tryz.prog W ta _ _ (by rfl)]
  simp [ht, hf]
end Go.Proofs.YtiijbboigebhcaaGreatDoor
