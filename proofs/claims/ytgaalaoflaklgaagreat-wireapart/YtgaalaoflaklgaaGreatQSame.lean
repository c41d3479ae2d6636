import Derived.Test.YtgaalaoflaklgaaGreatM21
import Derived.Test.YtgaalaoflaklgaaGreatM18
import Derived.Test.YtgaalaoflaklgaaGreatM19
namespace Go.Proofs.YtgaalaoflaklgaaGreat
open Go.RowKit Crc

/-- What a request says. -/
def Rq.val (r : Rq) : Nat × Nat × List Nat := (r.cl, r.sq, r.C)
theorem below_dN {l : Nat} {w w1 : World} (h : Below l w w1) (q : Nat) : Below l w (w1.drewN q) := ⟨h.os, h.tape, h.output, h.size, h.block⟩

set_option maxRecDepth 10000 in
set_option maxHeartbeats 800000 in
theorem sameRequest_any {l1 l2 : Nat} {w : World} {r1 r2 : Rq} (h1 : r1.Ok l1 w) (h2 : r2.Ok l2 w) (hl1 : l1 ≤ w.heap.size) (hl2 : l2 ≤ w.heap.size) (hv : r1.val = r2.val) :
    Calls Tryz.prog 30 #[.agg r1.cells, .agg r2.cells] w fun e w' => e = .returned (.bool true) ∧ Below w.heap.size w w' := by
  obtain ⟨cl, sq, co, cn, cc, C⟩ := r1
  obtain ⟨cl2, sq2, co2, cn2, cc2, C2⟩ := r2
  simp only [Rq.val, Prod.mk.injEq] at hv
  obtain ⟨rfl, rfl, rfl⟩ := hv
  have HBB : Hid (∀ o o', Below w.heap.size w ((w.alloc o).alloc o')) := fun o o' => (below_alloc1 w o).alloc (by simp) o'
  have HSM : Hid (∀ o o', Calls Tryz.prog 16 #[.slice co cn cc, .slice co2 cn2 cc2] ((w.alloc o).alloc o') fun e w' => e = .returned (.bool true) ∧ ∃ q, w' = ((w.alloc o).alloc o').drewN q) := fun o o' => same_any ((h1.hC.wide hl1).belowL (HBB.out o o')) ((h2.hC.wide hl2).belowL (HBB.out o o'))
  clear h1 h2
  rw [show (Rq.mk cl sq co cn cc C).cells = #[.int .u64 (cl : Int), .int .u64 (sq : Int), .slice co cn cc] from rfl, show (Rq.mk cl sq co2 cn2 cc2 C).cells = #[.int .u64 (cl : Int), .int .u64 (sq : Int), .slice co2 cn2 cc2] from rfl]
  go_enter Tryz.func30, Tryz.ntmps30
  go_wp2_with fail
  refine (HSM.out _ _).mono ?_
  rintro e w1 ⟨rfl, q, rfl⟩
  go_wp2
  go_ret
  exact ⟨rfl, below_dN (HBB.out _ _) q⟩

set_option maxRecDepth 10000 in
set_option maxHeartbeats 1600000 in
theorem sameBatch_any {l1 l2 : Nat} {w : World} (stamp : Nat) {ro1 ro2 : Option Addr} {rs1 rs2 : List Rq} {b1 off1 b2 off2 : Nat} (rc1 rc2 : Nat) (h1 : Rqs l1 w ro1 rs1 b1 off1) (h2 : Rqs l2 w ro2 rs2 b2 off2) (hl1 : l1 ≤ w.heap.size) (hl2 : l2 ≤ w.heap.size) (hv : rs1.map Rq.val = rs2.map Rq.val) :
    Calls Tryz.prog 10 #[.agg #[.int .u64 (stamp : Int), .slice ro1 rs1.length rc1], .agg #[.int .u64 (stamp : Int), .slice ro2 rs2.length rc2]] w fun e w' => e = .returned (.bool true) ∧ Below w.heap.size w w' := by
  have hlen : rs2.length = rs1.length := by have := congrArg List.length hv; simpa using this.symm
  have hle := h1.le
  have hb0 : Below w.heap.size w ((w.alloc (.cells #[.int .u64 (stamp : Int), .slice ro1 rs1.length rc1] 25)).alloc (.cells #[.int .u64 (stamp : Int), .slice ro2 rs1.length rc2] 25)) := (below_alloc1 w _).alloc (by simp) _
  have H1 := hide (h1.wide hl1)
  have H2 := hide (h2.wide hl2)
  have HV := hide hv
  have HLEN := hide hlen
  have e1 : (w.alloc (.cells #[.int .u64 (stamp : Int), .slice ro1 rs1.length rc1] 25)).heap.size = w.heap.size + 1 := by simp
  have HC : Hid (∀ wr, Below (w.heap.size + 1 + 1) ((w.alloc (.cells #[.int .u64 (stamp : Int), .slice ro1 rs1.length rc1] 25)).alloc (.cells #[.int .u64 (stamp : Int), .slice ro2 rs1.length rc2] 25)) wr → wr.cell? ⟨w.heap.size, 1, none⟩ = some (.slice ro1 rs1.length rc1) ∧ wr.cell? ⟨w.heap.size + 1, 1, none⟩ = some (.slice ro2 rs1.length rc2) ∧ Below w.heap.size w wr) := by
    intro wr hb
    refine ⟨(hb.cell (p := ⟨w.heap.size, 1, none⟩) (by simp; omega)).trans ((World.cell?_alloc_lt _ _ _ (by rw [e1]; simp)).trans (World.cell?_alloc_new w _ _ _)), (hb.cell (p := ⟨w.heap.size + 1, 1, none⟩) (by simp)).trans (by rw [← e1]; exact World.cell?_alloc_new _ _ _ _), hb0.trans (hb.mono (by omega))⟩
  rw [hlen]
  clear h1 h2 hv hlen e1 hb0
  go_enter Tryz.func10, Tryz.ntmps10
  go_wp2
  go_loopw [5] (fun i wr => ∃ k : Nat, k ≤ rs1.length ∧ i = .int .i64 k ∧ Hid (Below (w.heap.size + 1 + 1) ((w.alloc (.cells #[.int .u64 (stamp : Int), .slice ro1 rs1.length rc1] 25)).alloc (.cells #[.int .u64 (stamp : Int), .slice ro2 rs1.length rc2] 25)) wr)) (fun i _ => rs1.length - (intOf i).toNat)
  case atStart => exact ⟨0, by omega, rfl, Below.refl _ _⟩
  case round =>
    obtain ⟨k, hk, rfl, HW⟩ := hrel
    obtain ⟨m1, m2, hbw⟩ := HC.out wr HW.out
    have HBW := hide hbw
    clear hbw
    by_cases hlt : k < rs1.length
    · have hlt2 : k < rs2.length := by have := HLEN.out; omega
      obtain ⟨r1, hr1, _, hok1, hbl1, rfl, a0, a1, a2⟩ := (H1.out.below HBW.out).get hlt
      obtain ⟨r2, hr2, _, hok2, hbl2, rfl, b0, b1', b2'⟩ := (H2.out.below HBW.out).get hlt2
      have hval : r1.val = r2.val := by
        have h := congrArg (fun l => l[k]?) HV.out
        simp only [List.getElem?_map, hr1, hr2, Option.map_some] at h
        exact Option.some.inj h
      have HSR : Hid (∀ q, Calls Tryz.prog 30 #[.agg #[.int .u64 (r1.cl : Int), .int .u64 (r1.sq : Int), .slice r1.co r1.cn r1.cc], .agg #[.int .u64 (r2.cl : Int), .int .u64 (r2.sq : Int), .slice r2.co r2.cn r2.cc]] (wr.drewN q) fun e w' => e = .returned (.bool true) ∧ (∀ a v, wr.cell? a = some v → w'.cell? a = some v) ∧ Hid (Below wr.heap.size wr w')) := fun q => by
        refine (sameRequest_any (w := wr.drewN q) (r1 := r1) (r2 := r2) (hok1.below (below_dN (Below.refl _ _) q)) (hok2.below (below_dN (Below.refl _ _) q)) HBW.out.size HBW.out.size hval).mono ?_
        rintro e w' ⟨rfl, h⟩
        have h' : Below wr.heap.size wr w' := ⟨h.os, h.tape, h.output, h.size, h.block⟩
        exact ⟨rfl, fun a v hv => (h'.cell (World.block_lt_of_cell? wr a hv)).trans hv, h'⟩
      have HWS := hide HBW.out.size
      obtain ⟨cl, sq, co, cn, cc, C⟩ := r1
      obtain ⟨cl2, sq2, co2, cn2, cc2, C2⟩ := r2
      simp only at a0 a1 a2 b0 b1' b2' HSR
      clear hr1 hr2 hok1 hok2 hval hlt2 hbl1 hbl2
      go_wp2_with fail
      go_region_held (fun w' => (w'.cell? ⟨w.heap.size, 1, none⟩ = some (.slice (some ⟨b1, off1, none⟩) rs1.length rc1) ∧ w'.cell? ⟨w.heap.size + 1, 1, none⟩ = some (.slice (some ⟨b2, off2, none⟩) rs1.length rc2)) ∧ (w'.cell? ⟨b1, off1 + k * 3, none⟩ = some (.int .u64 (cl : Int)) ∧ w'.cell? ⟨b1, off1 + k * 3 + 1, none⟩ = some (.int .u64 (sq : Int)) ∧ w'.cell? ⟨b1, off1 + k * 3 + 2, none⟩ = some (.slice co cn cc)) ∧ (w'.cell? ⟨b2, off2 + k * 3, none⟩ = some (.int .u64 (cl2 : Int)) ∧ w'.cell? ⟨b2, off2 + k * 3 + 1, none⟩ = some (.int .u64 (sq2 : Int)) ∧ w'.cell? ⟨b2, off2 + k * 3 + 2, none⟩ = some (.slice co2 cn2 cc2))) (go_keep)
        (first | (go_at_call 30; refine (HSR.out 1).mono ?_; rintro e w1 ⟨rfl, hall, HB1⟩; have n1 := hall _ _ m1; have n2 := hall _ _ m2; have n3 := hall _ _ a0; have n4 := hall _ _ a1; have n5 := hall _ _ a2; have n6 := hall _ _ b0; have n7 := hall _ _ b1'; have n8 := hall _ _ b2'; clear hall))
      all_goals go_wp2
      all_goals go_roundw
      case rel => exact ⟨k + 1, by omega, by go_num, HW.out.trans (HB1.out.mono (by have := HW.out.size; simp at this; omega))⟩
      case measure => simp [intOf]; omega
    · obtain rfl : k = rs1.length := by omega
      go_wp2
      go_ret
      exact ⟨rfl, HBW.out⟩
end Go.Proofs.YtgaalaoflaklgaaGreat
