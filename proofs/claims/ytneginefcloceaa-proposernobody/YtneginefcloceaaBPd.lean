import Derived.Test.YtneginefcloceaaBPa
import Derived.Test.YtneginefcloceaaBSp
namespace Go.Proofs.Ytneginefcloceaa
open Go.RowKit

/-- A field's number, and what it may be. -/
def Cf.bnds (c : Cf) : List (Int × Int × Int) := [(IntKind.u64.wrap c.f, 1, 3), (IntKind.u64.wrap c.mb, 1, 8), ((c.delay : Int), 0, 1000), ((c.win : Int), 1, 8), ((c.every : Int), 1, (c.win : Int)), ((c.beat : Int), 1, 1000), ((c.ep : Int), 1, 10000), ((c.em : Int), (c.ep : Int), 100000), ((c.mn : Int), 1, 1099511627776), ((c.ms : Int), 1, 1099511627776)]
def bcells (l : List (Int × Int × Int)) : List Value := l.flatMap fun p => [Value.int .u64 p.1, .int .u64 p.2.1, .int .u64 p.2.2]
theorem bcells_one (l : List (Int × Int × Int)) : ∀ v ∈ bcells l, v.oneCell' = true := by
  intro v hv
  simp only [bcells, List.mem_flatMap, List.mem_cons, List.not_mem_nil, or_false] at hv
  obtain ⟨p, _, rfl | rfl | rfl⟩ := hv <;> rfl
theorem bcells_len (l : List (Int × Int × Int)) : (bcells l).length = l.length * 3 := by
  unfold bcells
  induction l with
  | nil => rfl
  | cons x r ih => simp only [List.flatMap_cons, List.length_append, ih, List.length_cons, List.length_nil]; omega
theorem fields_build (v0 v1 v2 v3 v4 v5 v6 v7 v8 v9 l0 l1 l2 l3 l4 l5 l6 l7 l8 l9 h0 h1 h2 h3 h4 h5 h6 h7 h8 h9 : Int) (w : World) :
    (Instr.build 125 #[(0, .agg #[.int .u64 v0, .int .u64 l0, .int .u64 h0]), (1, .agg #[.int .u64 v1, .int .u64 l1, .int .u64 h1]), (2, .agg #[.int .u64 v2, .int .u64 l2, .int .u64 h2]), (3, .agg #[.int .u64 v3, .int .u64 l3, .int .u64 h3]), (4, .agg #[.int .u64 v4, .int .u64 l4, .int .u64 h4]), (5, .agg #[.int .u64 v5, .int .u64 l5, .int .u64 h5]), (6, .agg #[.int .u64 v6, .int .u64 l6, .int .u64 h6]), (7, .agg #[.int .u64 v7, .int .u64 l7, .int .u64 h7]), (8, .agg #[.int .u64 v8, .int .u64 l8, .int .u64 h8]), (9, .agg #[.int .u64 v9, .int .u64 l9, .int .u64 h9])]).run Try.prog w
      = .ok (.agg (bcells [(v0, l0, h0), (v1, l1, h1), (v2, l2, h2), (v3, l3, h3), (v4, l4, h4), (v5, l5, h5), (v6, l6, h6), (v7, l7, h7), (v8, l8, h8), (v9, l9, h9)]).toArray) w := by kernel_rfl
theorem fields_size : (Try.prog.info? 125).map (·.size) = some 30 := by kernel_rfl
set_option maxRecDepth 10000 in
set_option maxHeartbeats 800000 in
theorem fields_any (c : Cf) (w : World) :
    Calls Try.prog 57 #[.agg c.cells] w fun e w' => e = .returned (.agg (bcells c.bnds).toArray) ∧ Below w.heap.size w w' := by
  have HB : Hid (∀ o1 o2 vs, Below w.heap.size w (((w.alloc o1).alloc o2).setCells (w.heap.size + 1) 0 vs)) := fun o1 o2 vs => below_setCells (((Below.refl _ _).alloc (Nat.le_refl _) _).alloc (by simp) _) (by omega) (by simp; omega)
  have HBD := hide fields_build
  have HT : Hid (∀ (o1 : Obj) (Z : Array Value) t, Z.size = 30 → ((w.alloc o1).alloc (.cells Z t)).there (w.heap.size + 1) 0 30) := fun o1 Z t h => by
    have := there_new (w := w.alloc o1) (Z := Z) (t := t) (n := 30) (by omega)
    rw [show (w.alloc o1).heap.size = w.heap.size + 1 by simp] at this
    exact this
  unfold Cf.bnds
  unfold Cf.cells
  generalize c.f = f at *
  generalize c.mb = mb at *
  generalize (c.delay : Int) = d at *
  generalize (c.win : Int) = wn at *
  generalize (c.every : Int) = ev at *
  generalize (c.beat : Int) = bt at *
  generalize (c.ep : Int) = ep at *
  generalize (c.em : Int) = em at *
  generalize (c.mn : Int) = mn at *
  generalize (c.ms : Int) = ms at *
  have HX : Hid (∀ w, _) := HBD.out (IntKind.u64.wrap f) (IntKind.u64.wrap mb) d wn ev bt ep em mn ms 1 1 0 1 1 1 1 ep 1 1 3 8 1000 8 wn 1000 10000 100000 1099511627776 1099511627776
  have HL : Hid ((bcells [(IntKind.u64.wrap f, 1, 3), (IntKind.u64.wrap mb, 1, 8), (d, 0, 1000), (wn, 1, 8), (ev, 1, wn), (bt, 1, 1000), (ep, 1, 10000), (em, ep, 100000), (mn, 1, 1099511627776), (ms, 1, 1099511627776)]).length = 30) := bcells_len _
  have HO := hide (bcells_one [(IntKind.u64.wrap f, 1, 3), (IntKind.u64.wrap mb, 1, 8), (d, 0, 1000), (wn, 1, 8), (ev, 1, wn), (bt, 1, 1000), (ep, 1, 10000), (em, ep, 100000), (mn, 1, 1099511627776), (ms, 1, 1099511627776)])
  generalize bcells [(IntKind.u64.wrap f, 1, 3), (IntKind.u64.wrap mb, 1, 8), (d, 0, 1000), (wn, 1, 8), (ev, 1, wn), (bt, 1, 1000), (ep, 1, 10000), (em, ep, 100000), (mn, 1, 1099511627776), (ms, 1, 1099511627776)] = cs at *
  clear HBD
  go_enter Try.func57, Try.ntmps57
  go_upto_region 1 with fail
  go_step
  refine wpList_split 36 (fun R HR => ?_)
  simp only [List.take]
  go_wp2
  refine HR.out _ _ ?_
  clear HR
  simp only [List.drop]
  refine wpList_pure rfl (exec_build (t := 125) (parts := #[(0, .tmp 6), (1, .tmp 10), (2, .tmp 13), (3, .tmp 16), (4, .tmp 21), (5, .tmp 24), (6, .tmp 27), (7, .tmp 32), (8, .tmp 35), (9, .tmp 38)]) rfl (by have h := HX.out; simpa [Act.eval] using h _)) ?_
  simp only [Act.put, List.setIfInBounds_toArray, List.set_cons_zero, List.set_cons_succ]
  refine wpList_store_mid rfl 125 _ _ rfl (w.heap.size + 1) 0 cs.toArray rfl rfl (by simpa [HL.out] using HT.out _ _ _ rfl) (by rw [List.size_toArray, HL.out]; exact fields_size) (all_oneCell_toArray HO.out) ?_
  go_wp2
  have hld := fun o1 Z t (h : Z.size = 30) => run_loadVar_mid (P := Try.prog) (((w.alloc o1).alloc (.cells Z t)).setCells (w.heap.size + 1) 0 cs) (w.heap.size + 1) 0 125 cs _ (World.rangeAt_setCells_same _ _ _ _ (by rw [HL.out]; exact HT.out o1 Z t h)) Try.underlying125 rfl (by rw [HL.out]; exact fields_size)
  refine bodyPost_ret (v := .agg cs.toArray) ?_ rfl ⟨rfl, HB.out _ _ _⟩
  simp [results, Try.results57, asAddr, Act.put, hld]
end Go.Proofs.Ytneginefcloceaa
