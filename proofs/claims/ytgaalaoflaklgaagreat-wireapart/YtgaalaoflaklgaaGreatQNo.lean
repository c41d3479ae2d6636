import Derived.Test.YtgaalaoflaklgaaGreatM0
namespace Go.Proofs.YtgaalaoflaklgaaGreat
open Go.RowKit Crc

set_option maxRecDepth 10000 in
set_option maxHeartbeats 1600000 in
theorem batchNo_any {w : World} (stamp : Nat) {ro : Option Addr} {rs : List Rq} {b off : Nat} (rc : Nat) (h : Rqs w.heap.size w ro rs b off) :
    Calls Tryz.prog 67 #[.agg #[.int .u64 (stamp : Int), .slice ro rs.length rc]] w fun e w' => e = .returned (.agg #[.int .i64 (bFault stamp rs).2, .int .i64 ((bFault stamp rs).1 : Int)]) ∧ Below w.heap.size w w' := by
  have HR := hide h
  have hle := h.le
  have HB : Hid (∀ o o', Below w.heap.size w ((w.alloc o).alloc o')) := fun o o' => (below_alloc1 w o).alloc (by simp) o'
  clear h
  by_cases h1 : 1099511627776 < stamp
  · have HF : Hid (bFault stamp rs = (0, 29)) := by show _ = _; unfold bFault; rw [if_pos h1]
    have d1 : decide ((1099511627776 : Int) < (stamp : Int)) = true := by simp; omega
    rw [HF.out]
    generalize rs.length = n at *
    go_enter Tryz.func67, Tryz.ntmps67
    go_wp2
    refine bodyPost_ret (v := .agg #[.int .i64 29, .int .i64 0]) (by simp [results, Tryz.results67, go_sem]) rfl ⟨rfl, HB.out _ _⟩
  · have d1 : decide ((1099511627776 : Int) < (stamp : Int)) = false := by simp; omega
    by_cases h2 : 8 < rs.length
    · have HF : Hid (bFault stamp rs = (1, 21)) := by show _ = _; unfold bFault; rw [if_neg h1, if_pos h2]
      have d2 : decide ((8 : Int) < (rs.length : Int)) = true := by simp; omega
      rw [HF.out]
      generalize rs.length = n at *
      go_enter Tryz.func67, Tryz.ntmps67
      go_wp2
      refine bodyPost_ret (v := .agg #[.int .i64 21, .int .i64 1]) (by simp [results, Tryz.results67, go_sem]) rfl ⟨rfl, HB.out _ _⟩
    · have HF : Hid (bFault stamp rs = bGo rs 0) := by show _ = _; unfold bFault; rw [if_neg h1, if_neg h2]
      have d2 : decide ((8 : Int) < (rs.length : Int)) = false := by simp; omega
      rw [HF.out]
      go_enter Tryz.func67, Tryz.ntmps67
      go_wp2
      go_loopw [3] (fun i wr => ∃ k : Nat, k ≤ rs.length ∧ i = .int .i64 k ∧ Hid (bGo rs 0 = bGo (rs.drop k) k) ∧ Hid (wr = (w.alloc (.cells #[.int .u64 (stamp : Int), .slice ro rs.length rc] 25)).alloc (.cells #[.int .i64 0, .int .i64 0] 51))) (fun i _ => rs.length - (intOf i).toNat)
      case atStart => exact ⟨0, by omega, rfl, rfl, rfl⟩
      case round =>
        obtain ⟨k, hk, rfl, HG, HW⟩ := hrel
        obtain rfl := HW.out
        by_cases hlt : k < rs.length
        · obtain ⟨r, hr, hd, hok, hbl, rfl, c0, c1, c2⟩ := (HR.out.below (HB.out (.cells #[.int .u64 (stamp : Int), .slice ro rs.length rc] 25) (.cells #[.int .i64 0, .int .i64 0] 51))).get hlt
          rw [hd] at HG
          obtain ⟨cl, sq, co, cn, cc, C⟩ := r
          simp only at c0 c1 c2
          by_cases g1 : cl < 256
          · have g1' : decide ((cl : Int) < 256) = true := by simp; omega
            have HG2 : Hid (bGo rs 0 = (2 + k, 29)) := by rw [HG.out]; show _ = _; simp [bGo, Rq.why, g1]
            clear hr hd hok
            go_wp2
            refine bodyPost_ret (v := .agg #[.int .i64 29, .int .i64 (2 + (k : Int))]) (by simp [results, Tryz.results67, go_sem]) rfl ⟨by rw [HG2.out]; simp, HB.out _ _⟩
          · have g1' : decide ((cl : Int) < 256) = false := by simp; omega
            by_cases g2 : 700 < cn
            · have g2' : decide ((700 : Int) < (cn : Int)) = true := by simp; omega
              have HG2 : Hid (bGo rs 0 = (2 + k, 21)) := by rw [HG.out]; show _ = _; simp [bGo, Rq.why, g1, g2]
              clear hr hd hok
              go_wp2
              refine bodyPost_ret (v := .agg #[.int .i64 21, .int .i64 (2 + (k : Int))]) (by simp [results, Tryz.results67, go_sem]) rfl ⟨by rw [HG2.out]; simp, HB.out _ _⟩
            · have g2' : decide ((700 : Int) < (cn : Int)) = false := by simp; omega
              have HG2 : Hid (bGo rs 0 = bGo (rs.drop (k + 1)) (k + 1)) := by rw [HG.out]; show _ = _; simp [bGo, Rq.why, g1, g2]
              clear hr hd hok
              go_wp2
              go_roundw
              case rel => exact ⟨k + 1, by omega, by go_num, HG2, trivial⟩
              case measure => simp [intOf]; omega
        · obtain rfl : k = rs.length := by omega
          have HG2 : Hid (bGo rs 0 = (0, 0)) := by rw [HG.out]; show _ = _; simp [bGo]
          go_wp2
          refine bodyPost_ret (v := .agg #[.int .i64 0, .int .i64 0]) (by simp [results, Tryz.results67, go_sem]) rfl ⟨by rw [HG2.out]; rfl, HB.out _ _⟩
end Go.Proofs.YtgaalaoflaklgaaGreat
