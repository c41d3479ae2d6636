import Derived.Test.YtggpaljilpbmhaaGreatDoorZ06
import Derived.WalkKit
import Derived.LaidEql
import Derived.Stop.Asserts
import Derived.RowKitTokens
namespace Go.Proofs.YtggpaljilpbmhaaGreatDoor
open Go.RowKit Go.Extern.Stop Go.Stop Go.Extern

theorem vof_ppf (t : Addr) (w : World) : (ReflectliteValue.unpack (.iface 196 (.pointer (some t)))).run Tryz.prog w = .ok (.agg #[.pointer (some ⟨11, 196, none⟩), .pointer (some ⟨w.heap.size, 0, none⟩), .int .u64 150]) (w.alloc (.cells #[.pointer (some t)] 196)) := by kernel_rfl
theorem vof_pf (t : Addr) (w : World) : (ReflectliteValue.unpack (.iface 74 (.pointer (some t)))).run Tryz.prog w = .ok (.agg #[.pointer (some ⟨11, 74, none⟩), .pointer (some ⟨w.heap.size, 0, none⟩), .int .u64 150]) (w.alloc (.cells #[.pointer (some t)] 74)) := by kernel_rfl
theorem ty_ppf (a : Addr) (w : World) : (ReflectliteValue.methodAny (ReflectliteValue.valueError "reflectlite.Value.Type" 0) (fun t _ _ _ => ReflectliteType.toType t) #[.agg #[.pointer (some ⟨11, 196, none⟩), .pointer (some a), .int .u64 150]]).run Tryz.prog w = .ok (.iface 267 (.agg #[.pointer (some ⟨11, 196, none⟩)])) w := by kernel_rfl
theorem mt_Kind (h : Value) (w : World) : (Go.method 453 267 (.agg #[h]) "Kind").run Tryz.prog w = .ok (235, h) w := by kernel_rfl
theorem mt_Elem (h : Value) (w : World) : (Go.method 453 267 (.agg #[h]) "Elem").run Tryz.prog w = .ok (250, .agg #[h]) w := by kernel_rfl
theorem mt_Implements (h : Value) (w : World) : (Go.method 453 267 (.agg #[h]) "Implements").run Tryz.prog w = .ok (251, .agg #[h]) w := by kernel_rfl
theorem mt_AssignableTo (h : Value) (w : World) : (Go.method 453 267 (.agg #[h]) "AssignableTo").run Tryz.prog w = .ok (248, .agg #[h]) w := by kernel_rfl
theorem kd_ppf (w : World) : ((ReflectliteType.abiMethod fun t => (fun a : Nat => Value.int IntKind.u8 (a : Int)) <$> Rtype.kind t) #[.pointer (some ⟨11, 196, none⟩)]).run Tryz.prog w = .ok (.int .u8 22) w := by kernel_rfl
theorem kd_pf (w : World) : ((ReflectliteType.abiMethod fun t => (fun a : Nat => Value.int IntKind.u8 (a : Int)) <$> Rtype.kind t) #[.pointer (some ⟨11, 74, none⟩)]).run Tryz.prog w = .ok (.int .u8 22) w := by kernel_rfl
/-- A method of a Value whose parts are known. -/
theorem method_run {P : Program} (z : Sem Value) (f : TypeId → Addr → Nat → Nat → Sem Value) (v : Value) (t : TypeId) (a : Addr) (fl : Nat) (W : World) (h : (ReflectliteValue.parts v).run P W = .ok (some (t, a, fl)) W) : (ReflectliteValue.method z f #[v]).run P W = (f t a fl (fl % 32)).run P W := by
 have e : ∃ k, ReflectliteValue.method z f #[v] = (ReflectliteValue.parts v >>= k) ∧ ∀ t a fl, k (some (t, a, fl)) = f t a fl (fl % 32) := ⟨_, rfl, fun _ _ _ => rfl⟩
 obtain ⟨k, e1, e2⟩ := e
 rw [e1, Sem.run_bind, h, Result.andThen_ok, e2]
theorem parts_ppf (a : Addr) (w : World) : (ReflectliteValue.parts (.agg #[.pointer (some ⟨11, 196, none⟩), .pointer (some a), .int .u64 150])).run Tryz.prog w = .ok (some (196, a, 150)) w := by kernel_rfl
theorem isNil_ppf (a p : Addr) (W : World) (ha : W.cell? a = some (.pointer (some p))) :
  (ReflectliteValue.method (ReflectliteValue.valueError "reflectlite.Value.IsNil" 0) ReflectliteValue.isNil #[.agg #[.pointer (some ⟨11, 196, none⟩), .pointer (some a), .int .u64 150]]).run Tryz.prog W = .ok (.bool false) W := by
 rw [method_run _ _ _ _ _ _ W (parts_ppf a W)]
 simp [ReflectliteValue.isNil, loadVar, isAgg, underlying, Tryz.underlying196, ha, Result.andThen]
theorem elem_ppf (w : World) : (ReflectliteType.method ReflectliteType.elem #[.agg #[.pointer (some ⟨11, 196, none⟩)]]).run Tryz.prog w = .ok (.iface 267 (.agg #[.pointer (some ⟨11, 74, none⟩)])) w := by kernel_rfl
theorem impl_ppf (w : World) : (ReflectliteType.relation "Implements" ReflectliteType.implements_ #[.agg #[.pointer (some ⟨11, 74, none⟩)], .iface 267 (.agg #[.pointer (some ⟨11, 33, none⟩)])]).run Tryz.prog w = .ok (.bool true) w := by kernel_rfl
theorem tof_pf (v : Value) (w : World) : (ReflectliteType.typeOf #[.iface 74 v]).run Tryz.prog w = .ok (.iface 267 (.agg #[.pointer (some ⟨11, 74, none⟩)])) w := by kernel_rfl
theorem as_pp (w : World) : (ReflectliteType.relation "AssignableTo" ReflectliteType.assignableTo #[.agg #[.pointer (some ⟨11, 74, none⟩)], .iface 267 (.agg #[.pointer (some ⟨11, 74, none⟩)])]).run Tryz.prog w = .ok (.bool true) w := by kernel_rfl
theorem elemOf_ppf (w : World) : (Rtype.elem? 196).run Tryz.prog w = .ok (some 74) w := by kernel_rfl
theorem mk_ppf (p : Addr) (w : World) : (ReflectliteValue.mk 74 p ReflectliteValue.flagAddr).run Tryz.prog w = .ok (.agg #[.pointer (some ⟨11, 74, none⟩), .pointer (some p), .int .u64 406]) w := by kernel_rfl
theorem elemV_ppf (a p : Addr) (W : World) (ha : W.cell? a = some (.pointer (some p))) :
  (ReflectliteValue.method (ReflectliteValue.valueError "reflectlite.Value.Elem" 0) ReflectliteValue.elem #[.agg #[.pointer (some ⟨11, 196, none⟩), .pointer (some a), .int .u64 150]]).run Tryz.prog W = .ok (.agg #[.pointer (some ⟨11, 74, none⟩), .pointer (some p), .int .u64 406]) W := by
 rw [method_run _ _ _ _ _ _ W (parts_ppf a W)]
 simp [ReflectliteValue.elem, loadVar, isAgg, underlying, Tryz.underlying196, ha, Result.andThen, elemOf_ppf, mk_ppf]
end Go.Proofs.YtggpaljilpbmhaaGreatDoor
namespace Go.Proofs.YtggpaljilpbmhaaGreatDoor
open Go.RowKit Go.Extern.Stop Go.Stop Go.Extern

/-- Set, where the value may be handed on as it is. -/
theorem set_run {P : Program} (v x : Value) (t : TypeId) (a b : Addr) (fl fb : Nat) (val : Value) (W : World) (hv : (ReflectliteValue.parts v).run P W = .ok (some (t, a, fl)) W) (hx : (ReflectliteValue.parts x).run P W = .ok (some (t, b, fb)) W)
  (hfl : (fl / ReflectliteValue.flagAddr % 2 == 0) = false) (hl : (loadVar t b).run P W = .ok val W) (hd : (Rtype.directlyAssignable t t).run P W = .ok true W) : (ReflectliteValue.set #[v, x]).run P W = ((storeVar t a val).run P W).andThen fun _ w => .ok (.tuple #[]) w := by
 have e : ∃ k : Option (TypeId × Addr × Nat) → Option (TypeId × Addr × Nat) → Sem Value, ReflectliteValue.set #[v, x] = (ReflectliteValue.parts v >>= fun p => ReflectliteValue.parts x >>= k p) ∧ (k (some (t, a, fl)) (some (t, b, fb))).run P W = ((storeVar t a val).run P W).andThen fun _ w => .ok (.tuple #[]) w := ⟨_, rfl, by simp [Sem.run_bind, hfl, hl, hd]⟩
 obtain ⟨k, e1, e2⟩ := e
 rw [e1, Sem.run_bind, hv, Result.andThen_ok, Sem.run_bind, hx, Result.andThen_ok, e2]
theorem partsA_pf (a : Addr) (w : World) : (ReflectliteValue.parts (.agg #[.pointer (some ⟨11, 74, none⟩), .pointer (some a), .int .u64 406])).run Tryz.prog w = .ok (some (74, a, 406)) w := by kernel_rfl
theorem partsB_pf (a : Addr) (w : World) : (ReflectliteValue.parts (.agg #[.pointer (some ⟨11, 74, none⟩), .pointer (some a), .int .u64 150])).run Tryz.prog w = .ok (some (74, a, 150)) w := by kernel_rfl
theorem direct_pf (w : World) : (Rtype.directlyAssignable 74 74).run Tryz.prog w = .ok true w := by kernel_rfl
theorem setV_pf (ta b : Addr) (e : Addr) (old : Value) (W : World) (hb : W.cell? b = some (.pointer (some e))) (ht : W.cell? ta = some old) (hf : W.frozen? ta = false) :
  (ReflectliteValue.set #[.agg #[.pointer (some ⟨11, 74, none⟩), .pointer (some ta), .int .u64 406], .agg #[.pointer (some ⟨11, 74, none⟩), .pointer (some b), .int .u64 150]]).run Tryz.prog W = .ok (.tuple #[]) (W.setCell ta (.pointer (some e))) := by
 rw [set_run _ _ _ _ _ _ _ _ W (partsA_pf ta W) (partsB_pf b W) (by decide) (by simp [loadVar, isAgg, underlying, Tryz.underlying74, hb]; rfl) (direct_pf W)]
 simp [storeVar, Value.cells, storeCells, Addr.add]
 rw [run_store Tryz.prog W ta _ _ (by rfl)]
 simp [ht, hf]
end Go.Proofs.YtggpaljilpbmhaaGreatDoor
namespace Go.Proofs.YtggpaljilpbmhaaGreatDoor
open Go.RowKit Go.Extern.Stop Go.Stop Go.Extern

/-- errors.errorType, as the program lays it. -/
def ErrT (w : World) : Prop := w.cell? ⟨1, 0, none⟩ = some (.iface 267 (.agg #[.pointer (some ⟨11, 33, none⟩)]))
theorem ErrT.lt {w : World} (h : ErrT w) : 1 < w.heap.size := by
 rcases Nat.lt_or_ge 1 w.heap.size with h1 | h1
 ·exact h1
 ·simp [ErrT, World.cell?, Array.getElem?_eq_none h1] at h
set_option maxRecDepth 10000 in
set_option maxHeartbeats 4000000 in
theorem as_fault (e t : Addr) (old : Value) (w : World) (hg : ErrT w) (ht0 : w.cell? t = some old) (hf0 : w.frozen? t = false) :
  Calls Tryz.prog 111 #[.iface 74 (.pointer (some e)), .iface 196 (.pointer (some t))] w fun ev w' => ev = .returned (.bool true) ∧ w' = ((((w.alloc (.cells #[.pointer (some t)] 196)).alloc (.cells #[.pointer (some ⟨11, 196, none⟩), .pointer (some ⟨w.heap.size, 0, none⟩), .int .u64 150] 234)).alloc (.cells #[.pointer (some ⟨11, 196, none⟩), .pointer (some ⟨w.heap.size, 0, none⟩), .int .u64 150] 234)).alloc (.cells #[.pointer (some e)] 74)).setCell t (.pointer (some e)) := by
 have hVO := @run_callFunc_extern Tryz.prog 156 _ (fun args => ReflectliteValue.unpack (args.getD 0 (.tuple #[]))) Tryz.func156 (by kernel_rfl) (by kernel_rfl) (by kernel_rfl) (by kernel_rfl)
 have hTy := @run_callFunc_extern Tryz.prog 157 _ (ReflectliteValue.methodAny (ReflectliteValue.valueError "reflectlite.Value.Type" 0) (fun t _ _ _ => ReflectliteType.toType t)) Tryz.func157 (by kernel_rfl) (by kernel_rfl) (by kernel_rfl) (by kernel_rfl)
 have hNi := @run_callFunc_extern Tryz.prog 158 _ (ReflectliteValue.method (ReflectliteValue.valueError "reflectlite.Value.IsNil" 0) ReflectliteValue.isNil) Tryz.func158 (by kernel_rfl) (by kernel_rfl) (by kernel_rfl) (by kernel_rfl)
 have hKi := @run_callFunc_extern Tryz.prog 235 _ (ReflectliteType.abiMethod fun t => do pure (.int .u8 (← Rtype.kind t))) Tryz.func235 (by kernel_rfl) (by kernel_rfl) (by kernel_rfl) (by kernel_rfl)
 have hEl := @run_callFunc_extern Tryz.prog 250 _ (ReflectliteType.method ReflectliteType.elem) Tryz.func250 (by kernel_rfl) (by kernel_rfl) (by kernel_rfl) (by kernel_rfl)
 have hIm := @run_callFunc_extern Tryz.prog 251 _ (ReflectliteType.relation "Implements" ReflectliteType.implements_) Tryz.func251 (by kernel_rfl) (by kernel_rfl) (by kernel_rfl) (by kernel_rfl)
 have hTO := @run_callFunc_extern Tryz.prog 179 _ ReflectliteType.typeOf Tryz.func179 (by kernel_rfl) (by kernel_rfl) (by kernel_rfl) (by kernel_rfl)
 have hAs := @run_callFunc_extern Tryz.prog 248 _ (ReflectliteType.relation "AssignableTo" ReflectliteType.assignableTo) Tryz.func248 (by kernel_rfl) (by kernel_rfl) (by kernel_rfl) (by kernel_rfl)
 have hEV := @run_callFunc_extern Tryz.prog 180 _ (ReflectliteValue.method (ReflectliteValue.valueError "reflectlite.Value.Elem" 0) ReflectliteValue.elem) Tryz.func180 (by kernel_rfl) (by kernel_rfl) (by kernel_rfl) (by kernel_rfl)
 have hSe := @run_callFunc_extern Tryz.prog 181 _ ReflectliteValue.set Tryz.func181 (by kernel_rfl) (by kernel_rfl) (by kernel_rfl) (by kernel_rfl)
 have tO := tof_pf
 have mA := mt_AssignableTo
 have aa := as_pp
 have v1 := vof_pf
 have v2 := vof_ppf
 have ty := ty_ppf
 have mK := mt_Kind
 have mE := mt_Elem
 have mI := mt_Implements
 have k1 := kd_ppf
 have k2 := kd_pf
 have el := elem_ppf
 have im := impl_ppf
 have n8 := isNil_ppf ⟨w.heap.size, 0, none⟩ t ((w.alloc (.cells #[.pointer (some t)] 196)).alloc (.cells #[.pointer (some ⟨11, 196, none⟩), .pointer (some ⟨w.heap.size, 0, none⟩), .int .u64 150] 234)) (by simp)
 have hlt := hg.lt
 have hg : w.cell? ⟨1, 0, none⟩ = some (.iface 267 (.agg #[.pointer (some ⟨11, 33, none⟩)])) := hg
 have hg2 : ((w.alloc (.cells #[.pointer (some t)] 196)).alloc (.cells #[.pointer (some ⟨11, 196, none⟩), .pointer (some ⟨w.heap.size, 0, none⟩), .int .u64 150] 234)).cell? ⟨1, 0, none⟩ = some (.iface 267 (.agg #[.pointer (some ⟨11, 33, none⟩)])) := by
  rw [World.cell?_alloc_lt _ _ ⟨1, 0, none⟩ (by simp <;> omega), World.cell?_alloc_lt _ _ ⟨1, 0, none⟩ hlt]; exact hg
 have htl : t.block < w.heap.size := by
  rcases Nat.lt_or_ge t.block w.heap.size with h | h
  ·exact h
  ·simp [World.cell?, Array.getElem?_eq_none h] at ht0
 have ev := elemV_ppf ⟨w.heap.size, 0, none⟩ t (((w.alloc (.cells #[.pointer (some t)] 196)).alloc (.cells #[.pointer (some ⟨11, 196, none⟩), .pointer (some ⟨w.heap.size, 0, none⟩), .int .u64 150] 234)).alloc (.cells #[.pointer (some ⟨11, 196, none⟩), .pointer (some ⟨w.heap.size, 0, none⟩), .int .u64 150] 234)) (by rw [World.cell?_alloc_lt _ _ ⟨w.heap.size, 0, none⟩ (by simp; omega)]; simp)
 have st := setV_pf t ⟨w.heap.size + 1 + 1 + 1, 0, none⟩ e old ((((w.alloc (.cells #[.pointer (some t)] 196)).alloc (.cells #[.pointer (some ⟨11, 196, none⟩), .pointer (some ⟨w.heap.size, 0, none⟩), .int .u64 150] 234)).alloc (.cells #[.pointer (some ⟨11, 196, none⟩), .pointer (some ⟨w.heap.size, 0, none⟩), .int .u64 150] 234)).alloc (.cells #[.pointer (some e)] 74))
  (by rw [World.cell?_alloc_at _ _ _ _ (by simp)]; rfl)
  (by rw [World.cell?_alloc_lt _ _ t (by simp; omega), World.cell?_alloc_lt _ _ t (by simp; omega), World.cell?_alloc_lt _ _ t (by simp; omega), World.cell?_alloc_lt _ _ t htl]; exact ht0)
  (by rw [World.frozen?_alloc_old _ _ t (by simp; omega), World.frozen?_alloc_old _ _ t (by simp; omega), World.frozen?_alloc_old _ _ t (by simp; omega), World.frozen?_alloc_old _ _ t (Nat.ne_of_lt htl)]; exact hf0)
 go_enter Tryz.func111, Tryz.ntmps111
 go_wp2
 refine wp_loop_rounds 1 ?_
 rw [rounds_succ]
 go_wp2
 go_ret
 exact ⟨rfl, rfl⟩
end Go.Proofs.YtggpaljilpbmhaaGreatDoor
