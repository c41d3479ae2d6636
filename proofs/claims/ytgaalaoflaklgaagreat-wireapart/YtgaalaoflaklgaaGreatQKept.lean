import Derived.Test.YtgaalaoflaklgaaGreatQSame
namespace Go.Proofs.YtgaalaoflaklgaaGreat
open Go.RowKit Crc

/-- The commands are lent copies. -/
def LentRs (w : World) (rs : List Rq) : Prop := ∀ r ∈ rs, ∃ gc, r.co = some ⟨gc, 0, none⟩ ∧ r.cc = r.cn + 4 ∧ Lent w gc r.cn r.C
theorem LentRs.below {w w' : World} {rs : List Rq} (h : LentRs w rs) (hb : Below w.heap.size w w') : LentRs w' rs := fun r hr => by
  obtain ⟨gc, h1, h2, h3⟩ := h r hr
  exact ⟨gc, h1, h2, h3.next (below_none hb) (by simp)⟩

set_option maxRecDepth 10000 in
set_option maxHeartbeats 1600000 in
theorem keptBatch_any {l1 l2 : Nat} {w : World} (stamp : Nat) {ro1 ro2 : Option Addr} {rs1 rs2 : List Rq} {b1 off1 b2 off2 : Nat} (rc1 rc2 : Nat) (h1 : Rqs l1 w ro1 rs1 b1 off1) (h2 : Rqs l2 w ro2 rs2 b2 off2) (hl1 : l1 ≤ w.heap.size) (hl2 : l2 ≤ w.heap.size) (hv : rs1.map Rq.val = rs2.map Rq.val) (hL : LentRs w rs1) :
    Calls Tryz.prog 19 #[.agg #[.int .u64 (stamp : Int), .slice ro1 rs1.length rc1], .agg #[.int .u64 (stamp : Int), .slice ro2 rs2.length rc2]] w fun e w' => e = .returned (.bool true) ∧ Below w.heap.size w w' := by
  have hlen : rs2.length = rs1.length := by have := congrArg List.length hv; simpa using this.symm
  have hle := h1.le
  have hb0 : Below w.heap.size w ((w.alloc (.cells #[.int .u64 (stamp : Int), .slice ro1 rs1.length rc1] 25)).alloc (.cells #[.int .u64 (stamp : Int), .slice ro2 rs1.length rc2] 25)) := (below_alloc1 w _).alloc (by simp) _
  have HLEN := hide hlen
  have e1 : (w.alloc (.cells #[.int .u64 (stamp : Int), .slice ro1 rs1.length rc1] 25)).heap.size = w.heap.size + 1 := by simp
  have e2 : ((w.alloc (.cells #[.int .u64 (stamp : Int), .slice ro1 rs1.length rc1] 25)).alloc (.cells #[.int .u64 (stamp : Int), .slice ro2 rs1.length rc2] 25)).heap.size = w.heap.size + 1 + 1 := by simp
  have HC : Hid (∀ wr, Below (w.heap.size + 1 + 1) ((w.alloc (.cells #[.int .u64 (stamp : Int), .slice ro1 rs1.length rc1] 25)).alloc (.cells #[.int .u64 (stamp : Int), .slice ro2 rs1.length rc2] 25)) wr → wr.cell? ⟨w.heap.size, 1, none⟩ = some (.slice ro1 rs1.length rc1) ∧ wr.cell? ⟨w.heap.size + 1, 1, none⟩ = some (.slice ro2 rs1.length rc2) ∧ Below w.heap.size w wr) := by
    intro wr hb
    refine ⟨(hb.cell (p := ⟨w.heap.size, 1, none⟩) (by simp; omega)).trans ((World.cell?_alloc_lt _ _ _ (by rw [e1]; simp)).trans (World.cell?_alloc_new w _ _ _)), (hb.cell (p := ⟨w.heap.size + 1, 1, none⟩) (by simp)).trans (by rw [← e1]; exact World.cell?_alloc_new _ _ _ _), hb0.trans (hb.mono (by omega))⟩
  have HSB : Hid (Calls Tryz.prog 10 #[.agg #[.int .u64 (stamp : Int), .slice ro1 rs1.length rc1], .agg #[.int .u64 (stamp : Int), .slice ro2 rs1.length rc2]] ((w.alloc (.cells #[.int .u64 (stamp : Int), .slice ro1 rs1.length rc1] 25)).alloc (.cells #[.int .u64 (stamp : Int), .slice ro2 rs1.length rc2] 25)) fun e w' => e = .returned (.bool true) ∧ Hid (Below (w.heap.size + 1 + 1) ((w.alloc (.cells #[.int .u64 (stamp : Int), .slice ro1 rs1.length rc1] 25)).alloc (.cells #[.int .u64 (stamp : Int), .slice ro2 rs1.length rc2] 25)) w')) := by
    have h := sameBatch_any stamp rc1 rc2 ((h1.wide hl1).below hb0) ((h2.wide hl2).below hb0) hb0.size hb0.size hv
    rw [hlen] at h
    refine h.mono ?_
    rintro e w' ⟨rfl, hb⟩
    rw [e2] at hb
    exact ⟨rfl, hb⟩
  have H1 := hide (h1.wide hl1)
  have H2 := hide (h2.wide hl2)
  have HV := hide hv
  have HL := hide hL
  rw [hlen]
  clear h1 h2 hv hlen e1 e2 hb0 hL
  go_enter Tryz.func19, Tryz.ntmps19
  go_wp2_with fail
  refine HSB.out.mono ?_
  rintro e w0 ⟨rfl, HW0⟩
  obtain ⟨i1, i2, _⟩ := HC.out w0 HW0.out
  go_wp2
  go_loopw [5] (fun i wr => ∃ k : Nat, k ≤ rs1.length ∧ i = .int .i64 k ∧ Hid (Below (w.heap.size + 1 + 1) ((w.alloc (.cells #[.int .u64 (stamp : Int), .slice ro1 rs1.length rc1] 25)).alloc (.cells #[.int .u64 (stamp : Int), .slice ro2 rs1.length rc2] 25)) wr)) (fun i _ => rs1.length - (intOf i).toNat)
  case atStart => exact ⟨0, by omega, rfl, HW0.out⟩
  case round =>
    clear i1 i2
    obtain ⟨k, hk, rfl, HW⟩ := hrel
    obtain ⟨m1, m2, hbw⟩ := HC.out wr HW.out
    have HBW := hide hbw
    clear hbw
    by_cases hlt : k < rs1.length
    · have hlt2 : k < rs2.length := by have := HLEN.out; omega
      obtain ⟨r1, hr1, _, hok1, hbl1, rfl, a0, a1, a2⟩ := (H1.out.below HBW.out).get hlt
      obtain ⟨r2, hr2, _, hok2, hbl2, rfl, b0, b1', b2'⟩ := (H2.out.below HBW.out).get hlt2
      have hval : r1.val = r2.val := by
        have h := congrArg (fun l => l[k]?) HV.out
        simp only [List.getElem?_map, hr1, hr2, Option.map_some] at h
        exact Option.some.inj h
      obtain ⟨gc, g1, g2, g3⟩ := (HL.out.below HBW.out) r1 (List.mem_of_getElem? hr1)
      obtain ⟨cl, sq, co, cn, cc, C⟩ := r1
      obtain ⟨cl2, sq2, co2, cn2, cc2, C2⟩ := r2
      simp only [Rq.val, Prod.mk.injEq] at hval a0 a1 a2 b0 b1' b2' g1 g2 g3
      obtain ⟨rfl, rfl, rfl⟩ := hval
      subst g1
      subst g2
      obtain rfl : cn2 = cn := hok2.hC.1.trans g3.1.symm
      have HK : Hid (∀ q, Calls Tryz.prog 20 #[.slice (some ⟨gc, 0, none⟩) cn2 (cn2 + 4), .slice co2 cn2 cc2] (wr.drewN q) fun e w' => e = .returned (.bool true) ∧ ∃ q', w' = (wr.drewN q).drewN q') := fun q => by
        refine kept_sh (w := wr.drewN q) (hok2.hC.world rfl) ?_
        exact g3.next (row := none) ⟨rfl, rfl, rfl, Nat.le_refl _, fun _ _ _ => rfl⟩ (by simp)
      clear hr1 hr2 hok1 hok2 hlt2 hbl1 hbl2 a0 a1 b0 b1' g3
      go_wp2_with fail
      go_region_held (fun w' => (w'.cell? ⟨w.heap.size, 1, none⟩ = some (.slice (some ⟨b1, off1, none⟩) rs1.length rc1) ∧ w'.cell? ⟨w.heap.size + 1, 1, none⟩ = some (.slice (some ⟨b2, off2, none⟩) rs1.length rc2)) ∧ (w'.cell? ⟨b1, off1 + k * 3 + 2, none⟩ = some (.slice (some ⟨gc, 0, none⟩) cn2 (cn2 + 4)) ∧ w'.cell? ⟨b2, off2 + k * 3 + 2, none⟩ = some (.slice co2 cn2 cc2))) (go_keep)
        (first | (go_at_call 20; refine (HK.out 1).mono ?_; rintro e w1 ⟨rfl, q', hw1⟩; have n1 : w1.cell? ⟨w.heap.size, 1, none⟩ = some (.slice (some ⟨b1, off1, none⟩) rs1.length rc1) := (by rw [hw1]; exact m1); have n2 : w1.cell? ⟨w.heap.size + 1, 1, none⟩ = some (.slice (some ⟨b2, off2, none⟩) rs1.length rc2) := (by rw [hw1]; exact m2); have n3 : w1.cell? ⟨b1, off1 + k * 3 + 2, none⟩ = some (.slice (some ⟨gc, 0, none⟩) cn2 (cn2 + 4)) := (by rw [hw1]; exact a2); have n4 : w1.cell? ⟨b2, off2 + k * 3 + 2, none⟩ = some (.slice co2 cn2 cc2) := (by rw [hw1]; exact b2'); have HB1 : Hid (Below wr.heap.size wr w1) := (by rw [hw1]; exact below_dN (below_dN (Below.refl _ _) 1) q'); clear hw1))
      all_goals go_wp2
      all_goals go_roundw
      case rel => exact ⟨k + 1, by omega, by go_num, HW.out.trans (HB1.out.mono (by have := HW.out.size; simp at this; omega))⟩
      case measure => simp [intOf]; omega
    · obtain rfl : k = rs1.length := by omega
      go_wp2
      go_ret
      exact ⟨rfl, HBW.out⟩
end Go.Proofs.YtgaalaoflaklgaaGreat
