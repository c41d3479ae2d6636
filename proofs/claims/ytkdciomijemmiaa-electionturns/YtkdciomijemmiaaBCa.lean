import Derived.Test.YtkdciomijemmiaaBPa
import Derived.Test.YtkdciomijemmiaaBSp
namespace Go.Proofs.Ytkdciomijemmiaa
open Go.RowKit

def Cf.zero : Cf := ⟨0, 0, 0, 0, 0, 0, 0, 0, 0, 0⟩
theorem cells_one (c : Cf) : ∀ v ∈ c.cells.toList, v.oneCell' = true := by
  intro v hv
  simp only [Cf.cells, List.mem_cons, List.not_mem_nil, or_false] at hv
  rcases hv with rfl | rfl | rfl | rfl | rfl | rfl | rfl | rfl | rfl | rfl <;> rfl
theorem config_size : (Try.prog.info? 26).map (·.size) = some 10 := by kernel_rfl
theorem config_build (w : World) : (Instr.build 26 #[]).run Try.prog w = .ok (.agg Cf.zero.cells) w := by kernel_rfl
set_option maxRecDepth 10000 in
set_option maxHeartbeats 800000 in
theorem config_dead {w : World} {a : Option Addr} (h : Dead w a) :
    Calls Try.prog 32 #[.pointer a] w fun e w' => e = .returned (.agg Cf.zero.cells) ∧ Below w.heap.size w w' := by
  have hB : Hid (∀ o, Below w.heap.size w (w.alloc o)) := fun o => (Below.refl _ _).alloc (Nat.le_refl _) _
  have HM := hide (fun o => made_dead (h.kept (hB.out o)))
  have HB : Hid (∀ o vs, Below w.heap.size w ((w.alloc o).setCells w.heap.size 0 vs)) := fun o vs => below_setCells (hB.out o) (Nat.le_refl _) (hB.out o).size
  have HT : Hid (∀ (Z : Array Value) t, Z.size = 10 → (w.alloc (.cells Z t)).there w.heap.size 0 10) := fun Z t h => there_new (by omega)
  have HBD := hide config_build
  have HL : Hid (Cf.zero.cells.toList.length = 10) := rfl
  have HO := hide (cells_one Cf.zero)
  obtain ⟨cs, hcs⟩ : ∃ cs, Cf.zero.cells.toList = cs := ⟨_, rfl⟩
  have hcs' : Cf.zero.cells = cs.toArray := by rw [← hcs]
  rw [hcs'] at HBD ⊢
  rw [hcs] at HL HO
  clear h hB hcs hcs'
  go_enter Try.func32, Try.ntmps32
  go_wp2_with fail
  refine (HM.out _).mono ?_
  rintro e w1 ⟨rfl, rfl⟩
  go_upto_region 2 with fail
  go_step
  refine wpList_pure rfl (exec_build (t := 26) (parts := #[]) rfl (by have h := HBD.out; simpa [Act.eval] using h _)) ?_
  simp only [Act.put, List.setIfInBounds_toArray, List.set_cons_zero, List.set_cons_succ]
  refine wpList_store_mid rfl 26 _ _ rfl w.heap.size 0 cs.toArray rfl rfl (by simpa [HL.out] using HT.out _ _ rfl) (by rw [List.size_toArray, HL.out]; exact config_size) (all_oneCell_toArray HO.out) ?_
  go_wp2
  have hld := fun Z t (h : Z.size = 10) => run_loadVar_mid (P := Try.prog) ((w.alloc (.cells Z t)).setCells w.heap.size 0 cs) w.heap.size 0 26 cs _ (World.rangeAt_setCells_same _ _ _ _ (by rw [HL.out]; exact HT.out Z t h)) Try.underlying26 rfl (by rw [HL.out]; exact config_size)
  refine bodyPost_ret (v := .agg cs.toArray) ?_ rfl ⟨rfl, HB.out _ _⟩
  simp [results, Try.results32, asAddr, Act.put, hld]
set_option maxRecDepth 10000 in
set_option maxHeartbeats 800000 in
theorem config_live {w : World} {a : Option Addr} {c : Cf} (h : PG w a c) (hk : c.Ok) :
    Calls Try.prog 32 #[.pointer a] w fun e w' => e = .returned (.agg c.cells) ∧ Below w.heap.size w w' := by
  have hB : Hid (∀ o, Below w.heap.size w (w.alloc o)) := fun o => (Below.refl _ _).alloc (Nat.le_refl _) _
  have HM := hide (fun o => made_live (h.kept (hB.out o)) hk)
  have HB : Hid (∀ o vs, Below w.heap.size w ((w.alloc o).setCells w.heap.size 0 vs)) := fun o vs => below_setCells (hB.out o) (Nat.le_refl _) (hB.out o).size
  have HT : Hid (∀ (Z : Array Value) t, Z.size = 10 → (w.alloc (.cells Z t)).there w.heap.size 0 10) := fun Z t h => there_new (by omega)
  have HL : Hid (c.cells.toList.length = 10) := rfl
  have HO := hide (cells_one c)
  have hK := fun o => h.kept (hB.out o)
  obtain ⟨p, rfl, _⟩ := h
  have HR : Hid (∀ o, (w.alloc o).rangeAt p 0 c.cells.toList) := fun o j v hj => by
    obtain ⟨p', e, hp⟩ := hK o
    cases e
    rw [Nat.zero_add, block_cell hp j]
    simpa using hj
  obtain ⟨cs, hcs⟩ : ∃ cs, c.cells.toList = cs := ⟨_, rfl⟩
  have hcs' : c.cells = cs.toArray := by rw [← hcs]
  rw [hcs'] at ⊢
  rw [hcs] at HL HO HR
  clear hK hB hcs hcs' hk
  go_enter Try.func32, Try.ntmps32
  go_wp2_with fail
  refine (HM.out _).mono ?_
  rintro e w1 ⟨rfl, rfl⟩
  go_upto_region 3 with fail
  go_step
  refine wpList_split 3 (fun R HRR => ?_)
  simp only [List.take]
  go_wp2
  refine HRR.out _ _ ?_
  clear HRR
  simp only [List.drop]
  refine wpList_load_mid rfl 26 _ rfl p 0 rfl cs _ (HR.out _) Try.underlying26 rfl (by rw [HL.out]; exact config_size) ?_
  simp only [Act.put, List.setIfInBounds_toArray, List.set_cons_zero, List.set_cons_succ]
  refine wpList_store_mid rfl 26 _ _ rfl w.heap.size 0 cs.toArray rfl rfl (by simpa [HL.out] using HT.out _ _ rfl) (by rw [List.size_toArray, HL.out]; exact config_size) (all_oneCell_toArray HO.out) ?_
  go_wp2
  have hld := fun Z t (h : Z.size = 10) => run_loadVar_mid (P := Try.prog) ((w.alloc (.cells Z t)).setCells w.heap.size 0 cs) w.heap.size 0 26 cs _ (World.rangeAt_setCells_same _ _ _ _ (by rw [HL.out]; exact HT.out Z t h)) Try.underlying26 rfl (by rw [HL.out]; exact config_size)
  refine bodyPost_ret (v := .agg cs.toArray) ?_ rfl ⟨rfl, HB.out _ _⟩
  simp [results, Try.results32, asAddr, Act.put, hld]
end Go.Proofs.Ytkdciomijemmiaa
