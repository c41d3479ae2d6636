import Derived.Test.YtoejdocnpcbpiaaZA
namespace Go.Proofs.Ytoejdocnpcbpiaa
open Go.RowKit

set_option maxRecDepth 100000 in
set_option maxHeartbeats 4000000 in
theorem siftZ (B g cap n lo hi first : Nat) (D0 : Nat → Nat) (hn : n < 2305843009213693952) (hlo : lo ≤ hi) (hbn : first + hi ≤ n) (w : World) (hr : RowF w g cap n D0) (hB : B ≤ g) (hH : Heap (lo + 1) hi first D0) :
    Calls Try.prog 34 #[.slice (some ⟨g, 0, none⟩) n cap, .int .i64 (lo : Nat), .int .i64 (hi : Nat), .int .i64 (first : Nat)] w fun e w' => e = .returned (.tuple #[]) ∧ Hid (∃ D, Heap lo hi first D ∧ ZS B w g cap n first (first + hi) D0 w' D) := by
  have HL := hide lessZ
  have I0 : Hid (∃ D, HeapBut lo hi first lo D ∧ ZS B w g cap n first (first + hi) D0 w D) := ⟨D0, hH.but, ZS.begin _ _ hr hB⟩
  clear hr hB hH
  go_enter Try.func34, Try.ntmps34
  go_wp2
  go_loopw [8, 9] (fun i _ wr => ∃ r : Nat, lo ≤ r ∧ r ≤ hi ∧ i = .int .i64 (r : Nat) ∧ Hid (∃ D, HeapBut lo hi first r D ∧ ZS B w g cap n first (first + hi) D0 wr D)) (fun i _ _ => hi - (intOf i).toNat)
  case atStart => exact ⟨lo, Nat.le_refl _, hlo, rfl, I0.out⟩
  case round =>
    obtain ⟨r, hlr, hrh, rfl, HJ⟩ := hrel
    clear I0
    obtain ⟨D, hI, hZ⟩ := HJ.out
    clear HJ
    by_cases hc : 2 * r + 1 < hi
    · have HZ := hide hZ
      have HI := hide hI
      have hgl : g < wr.heap.size := hZ.row.lt
      clear hZ hI
      obtain ⟨c, hce⟩ : ∃ c, 2 * r + 1 = c := ⟨_, rfl⟩
      obtain ⟨fr, hfe⟩ : ∃ fr, first + r = fr := ⟨_, rfl⟩
      obtain ⟨fc, hge⟩ : ∃ fc, first + c = fc := ⟨_, rfl⟩
      have HCE := hide (And.intro hce (And.intro hfe hge))
      have i1 : 2 * (r : Int) + 1 = (c : Int) := by omega
      have i2 : (first : Int) + (r : Int) = (fr : Int) := by omega
      have i3 : (first : Int) + (c : Int) = (fc : Int) := by omega
      have i4 : (first : Int) + ((c : Int) + 1) = (fc : Int) + 1 := by omega
      have i5 : c < hi := by omega
      have i6 : fc < n := by omega
      have i7 : fr < n := by omega
      have i9 : (fc : Int) < (n : Int) := by omega
      have i10 : (fr : Int) < (n : Int) := by omega
      have w1 : IntKind.i64.wrap ((c : Int) + 1) = (c : Int) + 1 := IntWalk.i64_in _ ⟨by omega, by omega⟩
      have w2 : IntKind.i64.wrap (fc : Int) = (fc : Int) := IntWalk.i64_in _ ⟨by omega, by omega⟩
      have w3 : IntKind.i64.wrap (fr : Int) = (fr : Int) := IntWalk.i64_in _ ⟨by omega, by omega⟩
      have w4 : IntKind.i64.wrap ((fc : Int) + 1) = (fc : Int) + 1 := IntWalk.i64_in _ ⟨by omega, by omega⟩
      clear hce hfe hge
      obtain ⟨y, hY⟩ : ∃ y, D fc = y := ⟨_, rfl⟩
      have y0 : wr.cell? ⟨g, fc, none⟩ = some (.int .u64 (y : Int)) := by rw [← hY]; exact HZ.out.row.cell (by omega)
      by_cases hc1 : c + 1 < hi
      · obtain ⟨z, hZ0⟩ : ∃ z, D (fc + 1) = z := ⟨_, rfl⟩
        have y1 : wr.cell? ⟨g, fc + 1, none⟩ = some (.int .u64 (z : Int)) := by rw [← hZ0]; exact HZ.out.row.cell (by have := HCE.out; omega)
        have i8 : fc + 1 < n := by have := HCE.out; omega
        have i11 : (fc : Int) + 1 < (n : Int) := by omega
        have i12 : (0 : Int) ≤ (fc : Int) + 1 := by omega
        have hc2 : (c : Int) + 1 < (hi : Int) := by omega
        by_cases hyz : y < z
        · have HMX : Hid (∀ m, 1 ≤ m → m < hi → (m - 1) / 2 = r → D (first + m) ≤ D (fc + 1)) := fun m h1 h2 h3 => by
            have h4 := HCE.out
            have : first + m = fc ∨ first + m = fc + 1 := by omega
            rcases this with e | e
            · rw [e, hY, hZ0]; omega
            · rw [e]; exact Nat.le_refl _
          go_upto_region 3 with fail
          go_quiet (first | (go_at_call 29; refine Calls.quiet_of_same (HL.out _ _ _)))
          obtain ⟨x, hx⟩ : ∃ x, D fr = x := ⟨_, rfl⟩
          have y3 : (wr.drewN nq).cell? ⟨g, fr, none⟩ = some (.int .u64 (x : Int)) := by rw [← hx]; exact (HZ.out.drewN nq).row.cell (by omega)
          have y4 : (wr.drewN nq).cell? ⟨g, fc + 1, none⟩ = some (.int .u64 (z : Int)) := by rw [← hZ0]; exact (HZ.out.drewN nq).row.cell (by omega)
          have y5 : g < (wr.drewN nq).heap.size := HZ.out.row.lt
          have HZ2 := hide (HZ.out.drewN nq)
          clear HZ y0 y1 hgl
          generalize wr.drewN nq = W3 at *
          by_cases hxz : x < z
          · have hd : x < z := hxz
            have NX : Hid (∀ V, ZS B w g cap n first (first + hi) D0 V D → ∃ D, HeapBut lo hi first (c + 1) D ∧ ZS B w g cap n first (first + hi) D0 ((V.setCell ⟨g, fr, none⟩ (.int .u64 (z : Int))).setCell ⟨g, fc + 1, none⟩ (.int .u64 (x : Int))) D) := fun V hV => by
              have h4 := HCE.out
              have e1 : first + r = fr := by omega
              have e2 : first + (c + 1) = fc + 1 := by omega
              have h5 := HI.out.down (k := c + 1) hlr (by omega) (by omega) (by omega) (by rw [e2]; exact HMX.out) (by rw [e1, e2, hx, hZ0]; exact hxz)
              rw [e1, e2] at h5
              refine ⟨_, h5, ?_⟩
              have h := hV.swap (i := fr) (j := fc + 1) (by omega) (by omega) (by omega) (by omega)
              rw [hx, hZ0] at h
              exact h
            clear HI HMX hx hxz hY hZ0
            go_upto_region 5 with fail
            go_quiet (first | (go_at_call 29; refine Calls.quiet_of_same (HL.out _ _ _)))
            go_upto_region 6 with fail
            have HI4 := hide (HZ2.out.drewN nq)
            have a0 : (W3.drewN nq).cell? ⟨g, fr, none⟩ = some (.int .u64 (x : Int)) := by simpa using y3
            have a1 : (W3.drewN nq).cell? ⟨g, fc + 1, none⟩ = some (.int .u64 (z : Int)) := by simpa using y4
            have a2 : g < (W3.drewN nq).heap.size := by simpa using y5
            have a3 := HI4.out.row.free fr
            have a4 := HI4.out.row.free (fc + 1)
            clear y3 y4 y5 HZ2
            generalize W3.drewN nq = W4 at *
            go_region
            go_wp2
            go_roundw
            case rel => exact ⟨c + 1, by have := HCE.out; omega, by have := HCE.out; omega, by go_num, NX.out _ HI4.out.drew⟩
            case measure => simp [intOf]; have := HCE.out; omega
          · have hd : ¬ x < z := hxz
            have FIN : Hid (∀ q, ∃ D, Heap lo hi first D ∧ ZS B w g cap n first (first + hi) D0 (W3.drewN q) D) := fun q => ⟨D, HI.out.done (fun m h1 h2 h3 => by
              have h4 := HMX.out m h1 h2 h3
              have e1 : first + r = fr := by have := HCE.out; omega
              rw [e1, hx]
              rw [hZ0] at h4
              omega), HZ2.out.drewN q⟩
            clear HI HMX hx hxz hY hZ0
            go_upto_region 5 with fail
            go_quiet (first | (go_at_call 29; refine Calls.quiet_of_same (HL.out _ _ _)))
            go_wp2
            refine bodyPost_ret (results_none rfl _ _ _) rfl ?_
            exact ⟨rfl, FIN.out _⟩
        · have HMX : Hid (∀ m, 1 ≤ m → m < hi → (m - 1) / 2 = r → D (first + m) ≤ D fc) := fun m h1 h2 h3 => by
            have h4 := HCE.out
            have : first + m = fc ∨ first + m = fc + 1 := by omega
            rcases this with e | e
            · rw [e]; exact Nat.le_refl _
            · rw [e, hY, hZ0]; omega
          go_upto_region 3 with fail
          go_quiet (first | (go_at_call 29; refine Calls.quiet_of_same (HL.out _ _ _)))
          obtain ⟨x, hx⟩ : ∃ x, D fr = x := ⟨_, rfl⟩
          have y3 : (wr.drewN nq).cell? ⟨g, fr, none⟩ = some (.int .u64 (x : Int)) := by rw [← hx]; exact (HZ.out.drewN nq).row.cell (by omega)
          have y4 : (wr.drewN nq).cell? ⟨g, fc, none⟩ = some (.int .u64 (y : Int)) := by rw [← hY]; exact (HZ.out.drewN nq).row.cell (by omega)
          have y5 : g < (wr.drewN nq).heap.size := HZ.out.row.lt
          have HZ2 := hide (HZ.out.drewN nq)
          clear HZ y0 y1 hgl
          generalize wr.drewN nq = W3 at *
          by_cases hxz : x < y
          · have hd : x < y := hxz
            have NX : Hid (∀ V, ZS B w g cap n first (first + hi) D0 V D → ∃ D, HeapBut lo hi first (c) D ∧ ZS B w g cap n first (first + hi) D0 ((V.setCell ⟨g, fr, none⟩ (.int .u64 (y : Int))).setCell ⟨g, fc, none⟩ (.int .u64 (x : Int))) D) := fun V hV => by
              have h4 := HCE.out
              have e1 : first + r = fr := by omega
              have e2 : first + (c) = fc := by omega
              have h5 := HI.out.down (k := c) hlr (by omega) (by omega) (by omega) (by rw [e2]; exact HMX.out) (by rw [e1, e2, hx, hY]; exact hxz)
              rw [e1, e2] at h5
              refine ⟨_, h5, ?_⟩
              have h := hV.swap (i := fr) (j := fc) (by omega) (by omega) (by omega) (by omega)
              rw [hx, hY] at h
              exact h
            clear HI HMX hx hxz hY hZ0
            go_upto_region 5 with fail
            go_quiet (first | (go_at_call 29; refine Calls.quiet_of_same (HL.out _ _ _)))
            go_upto_region 6 with fail
            have HI4 := hide (HZ2.out.drewN nq)
            have a0 : (W3.drewN nq).cell? ⟨g, fr, none⟩ = some (.int .u64 (x : Int)) := by simpa using y3
            have a1 : (W3.drewN nq).cell? ⟨g, fc, none⟩ = some (.int .u64 (y : Int)) := by simpa using y4
            have a2 : g < (W3.drewN nq).heap.size := by simpa using y5
            have a3 := HI4.out.row.free fr
            have a4 := HI4.out.row.free (fc)
            clear y3 y4 y5 HZ2
            generalize W3.drewN nq = W4 at *
            go_region
            go_wp2
            go_roundw
            case rel => exact ⟨c, by have := HCE.out; omega, by have := HCE.out; omega, by go_num, NX.out _ HI4.out.drew⟩
            case measure => simp [intOf]; have := HCE.out; omega
          · have hd : ¬ x < y := hxz
            have FIN : Hid (∀ q, ∃ D, Heap lo hi first D ∧ ZS B w g cap n first (first + hi) D0 (W3.drewN q) D) := fun q => ⟨D, HI.out.done (fun m h1 h2 h3 => by
              have h4 := HMX.out m h1 h2 h3
              have e1 : first + r = fr := by have := HCE.out; omega
              rw [e1, hx]
              rw [hY] at h4
              omega), HZ2.out.drewN q⟩
            clear HI HMX hx hxz hY hZ0
            go_upto_region 5 with fail
            go_quiet (first | (go_at_call 29; refine Calls.quiet_of_same (HL.out _ _ _)))
            go_wp2
            refine bodyPost_ret (results_none rfl _ _ _) rfl ?_
            exact ⟨rfl, FIN.out _⟩
      · have HMX : Hid (∀ m, 1 ≤ m → m < hi → (m - 1) / 2 = r → D (first + m) ≤ D fc) := fun m h1 h2 h3 => by
          have h4 := HCE.out
          have : first + m = fc := by omega
          rw [this]
          exact Nat.le_refl _
        have hc2 : ¬ (c : Int) + 1 < (hi : Int) := by omega
        have y1 := y0
        have hZ0 := hY
        go_upto_region 3 with fail
        go_quiet (fail)
        obtain ⟨x, hx⟩ : ∃ x, D fr = x := ⟨_, rfl⟩
        have y3 : (wr.drewN nq).cell? ⟨g, fr, none⟩ = some (.int .u64 (x : Int)) := by rw [← hx]; exact (HZ.out.drewN nq).row.cell (by omega)
        have y4 : (wr.drewN nq).cell? ⟨g, fc, none⟩ = some (.int .u64 (y : Int)) := by rw [← hY]; exact (HZ.out.drewN nq).row.cell (by omega)
        have y5 : g < (wr.drewN nq).heap.size := HZ.out.row.lt
        have HZ2 := hide (HZ.out.drewN nq)
        clear HZ y0 y1 hgl
        generalize wr.drewN nq = W3 at *
        by_cases hxz : x < y
        · have hd : x < y := hxz
          have NX : Hid (∀ V, ZS B w g cap n first (first + hi) D0 V D → ∃ D, HeapBut lo hi first (c) D ∧ ZS B w g cap n first (first + hi) D0 ((V.setCell ⟨g, fr, none⟩ (.int .u64 (y : Int))).setCell ⟨g, fc, none⟩ (.int .u64 (x : Int))) D) := fun V hV => by
            have h4 := HCE.out
            have e1 : first + r = fr := by omega
            have e2 : first + (c) = fc := by omega
            have h5 := HI.out.down (k := c) hlr (by omega) (by omega) (by omega) (by rw [e2]; exact HMX.out) (by rw [e1, e2, hx, hY]; exact hxz)
            rw [e1, e2] at h5
            refine ⟨_, h5, ?_⟩
            have h := hV.swap (i := fr) (j := fc) (by omega) (by omega) (by omega) (by omega)
            rw [hx, hY] at h
            exact h
          clear HI HMX hx hxz hY hZ0
          go_upto_region 5 with fail
          go_quiet (first | (go_at_call 29; refine Calls.quiet_of_same (HL.out _ _ _)))
          go_upto_region 6 with fail
          have HI4 := hide (HZ2.out.drewN nq)
          have a0 : (W3.drewN nq).cell? ⟨g, fr, none⟩ = some (.int .u64 (x : Int)) := by simpa using y3
          have a1 : (W3.drewN nq).cell? ⟨g, fc, none⟩ = some (.int .u64 (y : Int)) := by simpa using y4
          have a2 : g < (W3.drewN nq).heap.size := by simpa using y5
          have a3 := HI4.out.row.free fr
          have a4 := HI4.out.row.free (fc)
          clear y3 y4 y5 HZ2
          generalize W3.drewN nq = W4 at *
          go_region
          go_wp2
          go_roundw
          case rel => exact ⟨c, by have := HCE.out; omega, by have := HCE.out; omega, by go_num, NX.out _ HI4.out.drew⟩
          case measure => simp [intOf]; have := HCE.out; omega
        · have hd : ¬ x < y := hxz
          have FIN : Hid (∀ q, ∃ D, Heap lo hi first D ∧ ZS B w g cap n first (first + hi) D0 (W3.drewN q) D) := fun q => ⟨D, HI.out.done (fun m h1 h2 h3 => by
            have h4 := HMX.out m h1 h2 h3
            have e1 : first + r = fr := by have := HCE.out; omega
            rw [e1, hx]
            rw [hY] at h4
            omega), HZ2.out.drewN q⟩
          clear HI HMX hx hxz hY hZ0
          go_upto_region 5 with fail
          go_quiet (first | (go_at_call 29; refine Calls.quiet_of_same (HL.out _ _ _)))
          go_wp2
          refine bodyPost_ret (results_none rfl _ _ _) rfl ?_
          exact ⟨rfl, FIN.out _⟩
    · have FIN : Hid (∃ D, Heap lo hi first D ∧ ZS B w g cap n first (first + hi) D0 wr D) := ⟨D, hI.done (fun c h1 h2 h3 => by omega), hZ⟩
      clear hI hZ
      go_wp2
      go_end0
      exact ⟨rfl, FIN.out⟩
end Go.Proofs.Ytoejdocnpcbpiaa
