import Derived.Test.YthfbimbadkmhhaaMIB
import Derived.Test.YthfbimbadkmhhaaMGL
namespace Go.Proofs.Ythfbimbadkmhhaa
open Go.RowKit Crc

set_option maxRecDepth 10000 in
set_option maxHeartbeats 1600000 in
/-- Executed, of any batch whose memory is not the election's. -/
theorem executedA {W : World} {eb g : Nat} {c : Cf} {me : Nat} {fp : Nat → Prop} {x : Ex} (h : EL W eb g c me fp x) {bo : Option Addr} {bs : List Rq} {bb off : Nat} (st n rc : Nat) (hn : bs.length = n) (L : Nat) (hL : ∀ b, Mine eb fp b → b < L) (hLW : L ≤ W.heap.size) (hRk : ∀ V, Fe W V (fun b => b < L) → Rqs V.heap.size V bo bs bb off) :
    Calls Try.prog 19 #[.pointer (some ⟨eb, 0, none⟩), .agg #[.int .u64 (st : Nat), .slice bo n rc]] W fun e W' => e = .returned (.tuple #[]) ∧ Hid (Did W eb g c me fp ⟨x.num, x.node, x.sus, x.len, x.fin, (x.ps.filter fun r => !goneB bs r).map Rq.val, (x.ts.filter fun r => !goneB bs r).map Rq.val⟩ W') := by
  obtain ⟨W1, hW1⟩ : ∃ W1, W.alloc (.cells #[.int .u64 (st : Nat), .slice bo n rc] 40) = W1 := ⟨_, rfl⟩
  have s1 : W1.heap.size = W.heap.size + 1 := by rw [← hW1]; simp
  have B1 : Hid (Below W.heap.size W W1) := by rw [← hW1]; exact below_alloc1 W _
  have C1 : W1.heap[W.heap.size]? = some (.cells #[.int .u64 (st : Nat), .slice bo n rc] 40 (0, 0)) := by rw [← hW1]; exact alloc_atK _ _
  obtain ⟨W2, hW2⟩ : ∃ W2, W1.alloc (.cells #[.slice bo n rc] 67) = W2 := ⟨_, rfl⟩
  have B2' : Below W1.heap.size W1 W2 := by rw [← hW2]; exact below_alloc1 W1 _
  have B2 : Hid (Below W.heap.size W W2) := B1.out.trans (B2'.mono B1.out.size)
  have C2 : Hid (W2.heap[W1.heap.size]? = some (.cells #[.slice bo n rc] 67 (0, 0))) := by rw [← hW2]; exact alloc_atK _ _
  have HM := hide (madeE (h.kept B1.out))
  have a1 := block_cell C1 1
  have al := block_lt C1
  simp at a1
  have E2 := hide (h.kept B2.out)
  have hR2 : ∀ V, Fe W2 V (fun b => b < L) → Rqs V.heap.size V bo bs bb off ∧ V.heap[W1.heap.size]? = some (.cells #[.slice bo n rc] 67 (0, 0)) := fun V hf => by
    refine ⟨hRk V ((Fe.below B2.out _).trans hf (fun _ _ e => e)), (hf.block _ (block_lt C2.out) (by omega)).trans C2.out⟩
  have K7 : Hid (Calls Try.prog 35 #[.slice x.po x.ps.length x.pc, .func (.func 34) #[] #[.pointer (some ⟨W1.heap.size, 0, none⟩)]] W2 fun e w3 => ∃ ao m cp, e = .returned (.slice ao m cp) ∧ Hid (w3.heap[eb]? = some (.cells (x.cells g me) 69 (0, 0)) ∧ Calls Try.prog 35 #[.slice x.qo x.ts.length x.tc, .func (.func 34) #[] #[.pointer (some ⟨W1.heap.size, 0, none⟩)]] (w3.setCell ⟨eb, 7, none⟩ (.slice ao m cp)) fun e w5 => ∃ ao' m' cp', e = .returned (.slice ao' m' cp') ∧ Hid (w5.heap[eb]? = some (.cells #[.pointer (some ⟨g, 0, none⟩), .int .i64 (me : Nat), .int .u64 (x.num : Nat), .int .i64 x.node, .int .u32 (x.sus : Nat), .int .u64 (x.len : Nat), .int .u64 (x.fin : Nat), .slice ao m cp, .slice x.qo x.ts.length x.tc] 69 (0, 0)) ∧ Did W eb g c me fp ⟨x.num, x.node, x.sus, x.len, x.fin, (x.ps.filter fun r => !goneB bs r).map Rq.val, (x.ts.filter fun r => !goneB bs r).map Rq.val⟩ (w5.setCell ⟨eb, 8, none⟩ (.slice ao' m' cp'))))) := by
    refine (withoutE _ _ (P := fun e w3 => ∃ ao m cp, e = .returned (.slice ao m cp) ∧ Left W2 fp x.po x.ps.length x.pc ((x.ps.filter fun r => !goneB bs r).map Rq.val) ao m cp w3) ?_).mono ?_
    · refine (delete_any x.ps.length x.pc rfl E2.out.qp 34 (.pointer (some ⟨W1.heap.size, 0, none⟩)) (goneB bs) (fun a w => cbe a _ w) (fun k V hf => ?_)).mono ?_
      · have hh := hR2 V (hf.wide (fun b e => hL b (.inr (h.qp.blk b e))))
        exact gone_any n rc hn W1.heap.size hh.1 hh.2 k
      · rintro e w3 ⟨ao, m, cp, rfl, G⟩
        exact ⟨ao, m, cp, rfl, ao, m, cp, rfl, G.out⟩
    · rintro e w3 ⟨ao, m, cp, rfl, ao2, m2, cp2, e2, G⟩
      cases e2
      refine ⟨ao, m, cp, rfl, ?_⟩
      obtain ⟨e1, rs7, hv7, hm7, h7, f7⟩ := left_fin7 E2.out G
      have F27 : Fe W (w3.setCell ⟨eb, 7, none⟩ (.slice ao m cp)) (Mine eb fp) := (Fe.below B2.out _).trans f7 (fun _ _ e => e)
      refine ⟨e1, (withoutE _ _ (P := fun e w5 => ∃ ao' m' cp', e = .returned (.slice ao' m' cp') ∧ Left (w3.setCell ⟨eb, 7, none⟩ (.slice ao m cp)) fp x.qo x.ts.length x.tc ((x.ts.filter fun r => !goneB bs r).map Rq.val) ao' m' cp' w5) ?_).mono ?_⟩
      · refine (delete_any x.ts.length x.tc rfl h7.qt 34 (.pointer (some ⟨W1.heap.size, 0, none⟩)) (goneB bs) (fun a w => cbe a _ w) (fun k V hf => ?_)).mono ?_
        · have hh := hR2 V ((f7.wide hL).trans (hf.wide (fun b e => hL b (.inr (h.qt.blk b e)))) (fun _ _ e => e))
          exact gone_any n rc hn W1.heap.size hh.1 hh.2 k
        · rintro e w5 ⟨ao', m', cp', rfl, G8⟩
          exact ⟨ao', m', cp', rfl, ao', m', cp', rfl, G8.out⟩
      · rintro e w5 ⟨ao', m', cp', rfl, _, _, _, e3, G8⟩
        cases e3
        obtain ⟨e4, rs8, hv8, hm8, h8, f8⟩ := left_fin8 h7 G8
        refine ⟨ao', m', cp', rfl, ?_, fp, _, h8, ?_, F27.trans f8 (fun _ _ e => e), fun b hb => .inl hb⟩
        · rw [e4, hm7]
          rfl
        · unfold Ex.abs
          simp only [hv7, hv8]
  have q7 : W2.cell? ⟨eb, 7, none⟩ = some (.slice x.po x.ps.length x.pc) := E2.out.c 7
  have ql := E2.out.lt
  have ql1 : eb < W1.heap.size := (h.kept B1.out).lt
  have b0 : W2.cell? ⟨W1.heap.size, 0, none⟩ = some (.slice bo n rc) := block_cell C2.out 0
  have HW1 := hide hW1
  have HW2 := hide hW2
  clear h hn hL hLW hRk s1 C1 B2' hW1 hW2 hR2 E2 C2
  unfold Ex.cells at K7
  generalize (x.ps.filter fun r => !goneB bs r).map Rq.val = pv at *
  generalize (x.ts.filter fun r => !goneB bs r).map Rq.val = tv at *
  generalize (x.num : Int) = nu at *
  generalize x.node = no at *
  generalize (x.sus : Int) = su at *
  generalize (x.len : Int) = ln at *
  generalize (x.fin : Int) = fi at *
  generalize x.ps.length = pn at *
  generalize x.ts.length = tn at *
  generalize x.po = po at *
  generalize x.pc = pc at *
  generalize x.qo = qo at *
  generalize x.tc = tc at *
  go_enter Try.func19, Try.ntmps19
  go_upto_region 1 with fail
  rw [HW1.out]
  clear HW1
  generalize W.heap.size = wb at *
  go_wp2_with fail
  refine HM.out.mono ?_
  rintro e V' ⟨rfl, hVV⟩
  have hVW := hVV.symm
  clear hVV
  subst hVW
  go_upto_region 3 with fail
  rw [HW2.out]
  clear HW2 HM
  generalize W1.heap.size = w1b at *
  go_wp2_with fail
  refine K7.out.mono ?_
  rintro e w3 ⟨ao, m, cp, rfl, G⟩
  have z7 := block_cell G.out.1 7
  have z8 := block_cell G.out.1 8
  have f7 := block_free G.out.1 7
  have f8 := block_free G.out.1 8
  have zl := block_lt G.out.1
  simp at z7 z8
  have HG := hide G.out.2
  clear q7 ql ql1 b0 a1 al G K7
  go_wp2_with fail
  refine HG.out.mono ?_
  rintro e w5 ⟨ao', m', cp', rfl, G⟩
  clear z7 z8 f7 f8 zl
  have z8 := block_cell G.out.1 8
  have f8 := block_free G.out.1 8
  have zl := block_lt G.out.1
  simp at z8
  have HD := hide G.out.2
  clear G
  go_wp2
  go_end0
  exact ⟨rfl, HD.out⟩
end Go.Proofs.Ythfbimbadkmhhaa
